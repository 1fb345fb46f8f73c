import Derived.Test.YtockbobpmiagiaaGreatDoorPBZ7ToBZ8
namespace Go.Proofs.YtockbobpmiagiaaGreatDoor
set_option linter.unusedVariables false
open Go.RowKit Go.Shelf
structure RrB (w:World)(rb m:Nat)(ks Ns:List Nat):Prop where
 row:w.heap[rb]?=some (.cells (ks.map ptB).toArray 124)
 len:ks.length=Ns.length
 sb:∀ i k N:Nat,ks[i]?=some k->Ns[i]?=some N->SB w k m N
theorem RrB.cell {w:World}{rb m:Nat}{ks Ns:List Nat}(h:RrB w rb m ks Ns){i k:Nat}(hk:ks[i]?=some k):w.cell? ⟨rb,i,none⟩=some (.pointer (some ⟨k+1,0,none⟩)):=by
 rw [cQa h.row]
 simp [hk,ptB]
theorem RrB.at {w:World}{rb m:Nat}{ks Ns:List Nat}(h:RrB w rb m ks Ns){i:Nat}(hi:i < Ns.length):∃ k,ks[i]?=some k/\SB w k m (Ns.getD i 0):=by
 have hk:i < ks.length:=by rw [h.len];exact hi
 refine ⟨_,List.getElem?_eq_getElem hk,h.sb i _ _ (List.getElem?_eq_getElem hk) ?_⟩
 rw [List.getD_eq_getElem?_getD,List.getElem?_eq_getElem hi]
 rfl
theorem RrB.later {w w':World}{rb m:Nat}{ks Ns:List Nat}(h:RrB w rb m ks Ns)(hb:Below w.heap.size w w'):RrB w' rb m ks Ns:=⟨(hb.block _ (lt_of_block h.row)).trans h.row,h.len,fun i k N hk hN=>(h.sb i k N hk hN).later hb⟩
theorem RwB.read {w:World}{rb m:Nat}{ks Ns:List Nat}(h:RwB w rb m ks Ns):RrB w rb m ks Ns:=⟨h.row,h.len,h.sb⟩
def unO (l:List (Option Nat)):List Nat:=l.map fun o=>o.getD 0
theorem unO_get (l:List (Option Nat))(i:Nat):(unO l).getD i 0=(l.getD i none).getD 0:=by
 unfold unO
 rw [List.getD_eq_getElem?_getD,List.getD_eq_getElem?_getD,List.getElem?_map]
 cases l[i]?<;>rfl
theorem SvM.read {w:World}{sb m:Nat}{ko sol:List (Option Nat)}(h:SvM w sb m ko sol)(hall:∀ i,i < sol.length->∃ M,sol.getD i none=some M):RrB w sb m (unO ko) (unO sol):=by
 have hk:∀ i,i < ko.length->∃ k,ko[i]?=some (some k):=fun i hi=>by
  have e:ko[i]?=some (ko.getD i none):=by rw [List.getD_eq_getElem?_getD,List.getElem?_eq_getElem hi];rfl
  cases hg:ko.getD i none with
  | none =>
   have:=h.no i hg
   obtain ⟨M,hM⟩:=hall i (by rw [<- h.len];exact hi)
   rw [this] at hM
   cases hM
  | some k=>exact ⟨k,by rw [e,hg]⟩
 refine ⟨?_,by simp [unO,h.len],fun i k N hki hNi=>?_⟩
 ·rw [h.row]
  congr 3
  unfold unO
  rw [List.map_map]
  apply List.ext_getElem?
  intro i
  rw [List.getElem?_map,List.getElem?_map]
  by_cases hi:i < ko.length
  ·obtain ⟨k,hk'⟩:=hk i hi
   rw [hk']
   rfl
  ·rw [List.getElem?_eq_none (by omega)]
   rfl
 ·unfold unO at hki hNi
  rw [List.getElem?_map] at hki hNi
  have hi:i < ko.length:=by
   cases e:ko[i]? with
   | none=>rw [e] at hki;cases hki
   | some _=>exact (List.getElem?_eq_some_iff.1 e).1
  obtain ⟨k',hk'⟩:=hk i hi
  rw [hk'] at hki
  simp at hki
  subst hki
  obtain ⟨M,h1,h2⟩:=h.yes i k' (by rw [List.getD_eq_getElem?_getD,hk'];rfl)
  have hs:sol[i]?=some (some M):=by
   have hil:i < sol.length:=by rw [<- h.len];exact hi
   rw [List.getD_eq_getElem?_getD,List.getElem?_eq_getElem hil] at h1
   rw [List.getElem?_eq_getElem hil]
   exact congrArg some h1
  rw [hs] at hNi
  simp at hNi
  subst hNi
  exact h2
def prC (p:Int×Int):List Value:=[.int .i64 p.1,.int .i64 p.2]
theorem infoPr:∃ i,Tryz.prog.info? 84=some i/\i.zero=some (.agg #[.int .i64 0,.int .i64 0])/\i.size=2/\i.bytes=16:=by
 have h:(Tryz.prog.info? 84).map (fun i=>(i.zero,i.size,i.bytes))=some (some (.agg #[.int .i64 0,.int .i64 0]),2,16):=by kernel_rfl
 cases e:Tryz.prog.info? 84 with
 | none=>rw [e] at h;cases h
 | some i=>rw [e] at h;simp at h;exact ⟨i,rfl,h⟩
theorem rkPr:RK 84 79 2 prC:=by
 refine ⟨Tryz.underlying79,?_,by decide,fun _=>rfl,fun x u hu=>?_⟩
 ·obtain ⟨i,h1,h2,h3,h4⟩:=infoPr
  exact ⟨i,_,h1,h2,h3,by rw [h4];decide,rfl⟩
 ·simp [prC] at hu
  rcases hu with rfl | rfl<;>rfl
abbrev PRo:=RO 84 2 prC
theorem make_prB (c:Nat)(hc:c<=100000000)(w:World):(Instr.makeSlice 79 (.int .i64 0) (.int .i64 (c:Int))).run Tryz.prog w=.ok (.slice (some ⟨w.heap.size,0,none⟩) 0 c) (w.alloc (.cells (madeCells #[.int .i64 0,.int .i64 0] (c*2)) 84)):=by
 obtain ⟨i0,hi,hz0,hz1,hz2⟩:=infoPr
 have:=run_make w 79 84 i0 (.agg #[.int .i64 0,.int .i64 0]) Tryz.underlying79 hi hz0 .i64 .i64 (0:Int) (c:Int) (by omega) (by omega) (by rw [hz2];omega) (by omega)
 rw [hz1] at this
 simpa [Value.cells] using this
theorem PRo.cap (w:World)(c:Nat)(hc:c<=100000000):PRo (w.alloc (.cells (madeCells #[.int .i64 0,.int .i64 0] (c*2)) 84)) (.slice (some ⟨w.heap.size,0,none⟩) 0 c) [] :=
 World.ownsRow_made w _ c (Nat.zero_le _) (by unfold maxLen;omega) (by rw [size_madeCells])
def prR (x:Nat)(l:List Nat):List (Int×Int):=l.map fun (y:Nat)=>((x:Int),(y:Int))
def prU (Ms:List Nat)(m n:Nat):List (Int×Int):=(List.range n).flatMap fun x=>prR x (bitsU (Ms.getD x 0) m)
theorem prU_next (Ms:List Nat)(m n:Nat):prU Ms m (n+1)=prU Ms m n++prR n (bitsU (Ms.getD n 0) m):=by
 unfold prU
 rw [List.range_succ,List.flatMap_append]
 simp
theorem prU_len (Ms:List Nat)(m:Nat)(hm:m<=4096):∀ n,(prU Ms m n).length<=4096*n
 | 0=>by simp [prU]
 | n+1=>by
  rw [prU_next,List.length_append]
  have h1:=prU_len Ms m hm n
  have h2:(prR n (bitsU (Ms.getD n 0) m)).length<=4096:=by
   unfold prR
   rw [List.length_map,bitsU_len]
   exact Nat.le_trans (popB_le _ _) hm
  omega
theorem prU_pop (Ms:List Nat)(m n:Nat):(prU Ms m (n+1)).length=(prU Ms m n).length+popB (Ms.getD n 0) m:=by
 rw [prU_next,List.length_append]
 unfold prR
 rw [List.length_map,bitsU_len]
structure PlW (w:World)(l:List (Int×Int))(v:Value)(wr:World):Prop where
 ro:PRo wr v l
 own:∀ j,v.ownBlock=some j->w.heap.size<=j
 bel:Below w.heap.size w wr
theorem PlW.any {w wr w':World}{l:List (Int×Int)}{v:Value}(h:PlW w l v wr)(hb:Below wr.heap.size wr w'):PlW w l v w':=⟨h.ro.later hb,h.own,h.bel.trans (hb.mono h.bel.size)⟩
theorem pr_cell (w:World)(p:Int×Int)(t:TypeId):∀ (j:Nat) (u:Value),(prC p)[j]?=some u->(w.alloc (.cells #[.int .i64 p.1,.int .i64 p.2] t)).cell? ⟨w.heap.size,j,none⟩=some u:=fun j u hu=>by
 rw [cQa (heap_alloc_new w _)]
 match j,hu with
 | 0,hu=>simpa [prC] using hu
 | 1,hu=>simpa [prC] using hu
 | j+2,hu=>simp [prC] at hu
set_option maxRecDepth 100000 in
set_option maxHeartbeats 8000000 in
theorem pairs_SB {w:World}{rb n m:Nat}{ks Ms:List Nat}(hR:RrB w rb m ks Ms)(hn:Ms.length=n)(hm:n<=4096)(hmm:m<=4096)(hT:TabB w)(c:Nat) :
  Calls Tryz.prog 57 #[.slice (some ⟨rb,0,none⟩) n c] w fun e w'=>∃ v,e=.returned v/\PlW w (prU Ms m n) v w':=by
 have HR:Hid (RrB w rb m ks Ms):=hR
 have HT:Hid (TabB w):=hT
 have HNL:Hid (Ms.length=n):=hn
 clear hR hT hn
 go_enter Tryz.func57,Tryz.ntmps57
 go_wp2
 go_loopw [3,13] (fun s z wr=>∃ (i:Nat),i<=n/\z=.int .i64 (i:Int)/\s=.int .i64 (((prU Ms m i).length:Nat):Int)/\w=wr) (fun _ z _=>n - (intOf z).toNat)
 case atStart=>exact ⟨0,Nat.zero_le _,rfl,rfl,rfl⟩
 case round =>
  obtain ⟨i,hi,rfl,rfl,rfl⟩:=hrel
  have hpl:=prU_len Ms m hmm i
  by_cases hlt:i < n
  ·have ilt:(i:Int) < (n:Int):=by omega
   obtain ⟨k,hk,hs⟩:=HR.out.at (show i < Ms.length by rw [HNL.out];exact hlt)
   have ck:=HR.out.cell hk
   have CO:Hid (Calls Tryz.prog 86 #[.pointer (some ⟨k+1,0,none⟩)] w fun e w'=>e=.returned (.int .i64 (popB (Ms.getD i 0) m:Int))/\w'=w):=count_SB hs
   have HE:Hid ((prU Ms m (i+1)).length=(prU Ms m i).length+popB (Ms.getD i 0) m):=prU_pop Ms m i
   have hp:=popB_le (Ms.getD i 0) m
   generalize (prU Ms m i).length=A at *
   generalize popB (Ms.getD i 0) m=B at *
   have wr1:IntKind.i64.wrap ((A:Int)+(B:Int))=(A:Int)+(B:Int):=by rw [IntKind.wrap_i64];omega
   clear hk hs
   go_wp2_with (go_at_call 86;refine CO.out.mono ?_;rintro e w1 ⟨rfl,hz⟩;rw [hz];clear hz w1)
   go_roundw
   case rel=>exact ⟨i+1,by omega,by go_num,by rw [HE.out];simp⟩
   case measure=>simp [intOf];omega
  ·obtain rfl:i=n:=by omega
   have ilt:¬ (i:Int) < (i:Int):=by omega
   have hA:(prU Ms m i).length<=100000000:=by omega
   generalize (prU Ms m i).length=A at hA ⊢
   have hmk:=make_prB A hA w
   have P0:Hid (PlW w [] (.slice (some ⟨w.heap.size,0,none⟩) 0 A) (w.alloc (.cells (madeCells #[.int .i64 0,.int .i64 0] (A*2)) 84))):=⟨PRo.cap w A hA,fun j hj=>by simp [Value.ownBlock] at hj;omega,bAl w _⟩
   clear hpl
   go_wp2
   clear hmk
   go_loopw [6,26] (fun v z wr=>∃ (x:Nat),x<=i/\z=.int .i64 (x:Int)/\PlW w (prU Ms m x) v wr) (fun _ z _=>i - (intOf z).toNat)
   case atStart=>exact ⟨0,Nat.zero_le _,rfl,P0.out⟩
   case round =>
    clear P0
    obtain ⟨x,hx,rfl,hP⟩:=hrel
    have hpl:=prU_len Ms m hmm x
    by_cases hlt:x < i
    ·have xlt:(x:Int) < (i:Int):=by omega
     obtain ⟨k,hk,hs⟩:=(HR.out.later hP.bel).at (show x < Ms.length by rw [HNL.out];exact hlt)
     have ck:=(HR.out.later hP.bel).cell hk
     have LI:Hid (Calls Tryz.prog 87 #[.pointer (some ⟨k+1,0,none⟩)] wr fun e w'=>∃ v,e=.returned v/\LBs wr (bitsL (Ms.getD x 0) m) v w'):=list_SB hs (HT.out.later hP.bel)
     obtain ⟨l,hl⟩:∃ l,bitsU (Ms.getD x 0) m=l:=⟨_,rfl⟩
     rw [bitsL_nI,hl] at LI
     have hLL:l.length<=4096:=by
      rw [<- hl,bitsU_len]
      exact Nat.le_trans (popB_le _ _) hmm
     have HE:Hid (prU Ms m (x+1)=prU Ms m x++prR x l):=by rw [<- hl];exact prU_next Ms m x
     have HP:Hid (PlW w (prU Ms m x) u6 wr):=hP
     have HPN:Hid ((prU Ms m x).length<=100000000):=by show _<=_;omega
     have HPR:Hid (∀ j,u6.ownBlock=some j->j < wr.heap.size):=hP.ro.lt
     generalize prU Ms m x=A1 at *
     clear hP hk hs hl
     obtain ⟨wz,rfl⟩:∃ wz:World,wz=wr:=⟨_,rfl⟩
     go_wp2_with (go_at_call 87;refine LI.out.mono ?_;rintro e w3 ⟨v,rfl,l3⟩;obtain ⟨la,lc,rfl⟩:=il_lenB l3.il;have W3:Hid (PlW w (A1++prR x (l.take 0)) u6 w3/\IL w3 (.slice la l.length lc) (nI l)/\∀ j,u6.ownBlock=some j->(Value.slice la l.length lc).ownBlock≠some j):=⟨by simpa [prR] using HP.out.any l3.bel,l3.il,fun j hj q=>by have h1:=HPR.out j hj;have h2:=l3.own j q;omega⟩;clear l3 ck)
     clear LI HP HPR
     go_loopw [6,34] (fun v z wr=>∃ (q:Nat),q<=l.length/\z=.int .i64 (q:Int)/\PlW w (A1++prR x (l.take q)) v wr/\IL wr (.slice la l.length lc) (nI l)/\∀ j,v.ownBlock=some j->(Value.slice la l.length lc).ownBlock≠some j) (fun _ z _=>l.length - (intOf z).toNat)
     case atStart=>exact ⟨0,Nat.zero_le _,rfl,W3.out.1,W3.out.2.1,W3.out.2.2⟩
     case round =>
      clear W3
      obtain ⟨q,hq,rfl,hP,hil,hN⟩:=hrel
      by_cases hql:q < l.length
      ·have qlt:(q:Int) < (l.length:Int):=by omega
       obtain ⟨lb,lc',he,cl⟩:=IL.atB hil hql
       simp only [Value.slice.injEq,true_and] at he
       obtain ⟨rfl,rfl⟩:=he
       have htk:l.take (q+1)=l.take q++[l.getD q 0]:=by
        rw [List.take_add_one,List.getElem?_eq_getElem hql,List.getD_eq_getElem?_getD,List.getElem?_eq_getElem hql]
        rfl
       obtain ⟨y,hy⟩:∃ y,l.getD q 0=y:=⟨_,rfl⟩
       rw [hy] at cl htk
       have HE2:Hid (A1++prR x (l.take (q+1))=(A1++prR x (l.take q))++[((x:Int),(y:Int))]):=by
        show _=_
        rw [htk]
        simp [prR]
       have HLN:Hid ((A1++prR x (l.take q)).length<=1000000000):=by
        show _<=_
        have:=HPN.out
        simp [prR]
        omega
       have HP:Hid (PlW w (A1++prR x (l.take q)) u6 wr/\IL wr (.slice (some ⟨lb,0,none⟩) l.length lc) (nI l)/\∀ j,u6.ownBlock=some j->(Value.slice (some ⟨lb,0,none⟩) l.length lc).ownBlock≠some j):=⟨hP,hil,hN⟩
       generalize A1++prR x (l.take q)=A2 at *
       clear hP hil hN htk hy
       go_wp2_with (at_builtin;refine wpList_ro_append rkPr rfl _ _ rfl u6 A2 rfl (HP.out.1.ro.later (bAl _ _)) wr.heap.size 1 ((x:Int),(y:Int)) rfl (pr_cell wr ((x:Int),(y:Int)) _) HLN.out ?_)
       intro a4 n4 c4 w5 ho4 hg4
       have W5:Hid (PlW w (A2++[((x:Int),(y:Int))]) (.slice a4 n4 c4) w5/\IL w5 (.slice (some ⟨lb,0,none⟩) l.length lc) (nI l)/\∀ j,(Value.slice a4 n4 c4).ownBlock=some j->(Value.slice (some ⟨lb,0,none⟩) l.length lc).ownBlock≠some j):=by
        have ba:=bAl wr (.cells #[.int .i64 (x:Int),.int .i64 (y:Int)] 84)
        have hz:=HP.out.1.bel.size
        have hz2:=ba.size
        refine ⟨⟨ho4,hg4.own (by omega) HP.out.1.own,hg4.below (HP.out.1.bel.trans (ba.mono hz)) (Nat.le_refl _) HP.out.1.own⟩,?_,fun j hj q=>?_⟩
        ·refine HP.out.2.1.kept (fun j hj=>?_)
         have hl:=(World.ownsRow.lt HP.out.2.1 j hj).2
         rw [hg4.grown.block j (by omega) (fun e=>HP.out.2.2 j e.symm hj),ba.block j hl]
        ·rcases hg4.moved with e | ⟨k,e,hk⟩
         ·exact HP.out.2.2 j (by rw [<- e];exact hj) q
         ·have hl:=(World.ownsRow.lt HP.out.2.1 j q).2
          rw [e] at hj
          simp at hj
          omega
       clear ho4 hg4
       go_wp2
       go_roundw
       case rel=>exact ⟨q+1,by omega,by go_num,by rw [HE2.out];exact W5.out.1,W5.out.2.1,W5.out.2.2⟩
       case measure=>simp [intOf];omega
      ·obtain rfl:q=l.length:=by omega
       have qlt:¬ (l.length:Int) < (l.length:Int):=by omega
       rw [List.take_length] at hP
       have HP:Hid (PlW w (A1++prR x l) u6 wr):=hP
       clear hP hil hN
       go_wp2
       go_roundw
       case rel=>exact ⟨x+1,by omega,by go_num,by rw [HE.out];exact HP.out⟩
       case measure=>simp [intOf];omega
    ·obtain rfl:x=i:=by omega
     have xlt:¬ (x:Int) < (x:Int):=by omega
     have HP:Hid (PlW w (prU Ms m x) u6 wr):=hP
     clear hP
     go_wp2
     go_ret
     exact ⟨_,rfl,HP.out⟩
theorem svC_len (Ns Fs:List Nat)(n:Nat):∀ (D:List (List Nat)) (s:List (Option Nat)),(svC Ns Fs n D s).length=s.length
 | [],_=>rfl
 | T :: D,s=>by
  show (svC Ns Fs n D (svX (gaU Ns Fs n s T) T s)).length=_
  rw [svC_len Ns Fs n D,svX_len]
structure RelB (E:List (Int×Int))(n:Nat)(Ns:List Nat):Prop where
 len:Ns.length=n
 bit:∀ x y,x < n->y < n->(Ns.getD x 0).testBit y=hasE E x y
 lt:∀ x,x < n->Ns.getD x 0 < 2 ^ n
theorem TuB.rel {w w':World}{n:Nat}{Ns:List Nat}{E:List (Int×Int)}(h:TuB w n Ns w')(hb:∀ x y,x < n->y < n->(Ns.getD x 0).testBit y=hasE E x y):RelB E n Ns:=⟨h.len,hb,fun x hx=>by
 obtain ⟨k,hk,hs⟩:=h.rw.at (show x < Ns.length by rw [h.len];exact hx)
 exact hs.lt⟩
theorem TuB.kin {w w':World}{n:Nat}{Ns:List Nat}(h:TuB w n Ns w'):∀ k∈ksE w.heap.size n,k+1 < w'.heap.size:=fun k hk=>by
 obtain ⟨i,hi⟩:=List.getElem?_of_mem hk
 have hil:i < n:=by have:=(List.getElem?_eq_some_iff.1 hi).1;rwa [ksE_len] at this
 obtain ⟨k',hk',hs'⟩:=h.rw.at (show i < Ns.length by rw [h.len];exact hil)
 rw [hi] at hk'
 cases hk'
 exact hs'.size
structure SolB (Ns Fs:List Nat)(n:Nat)(Ms:List Nat):Prop where
 len:Ms.length=n
 bit:∀ x,x < n->∀ b,(Ms.getD x 0).testBit b=true ↔ ∃ y,RchB Ns n x y/\(Fs.getD y 0).testBit b=true
theorem sol_of {Ns Fs:List Nat}{n:Nat}{D:List (List Nat)}(hD:CoB Ns n D):(∀ i,i < (svC Ns Fs n D (List.replicate n none)).length->∃ M,(svC Ns Fs n D (List.replicate n none)).getD i none=some M)/\SolB Ns Fs n (unO (svC Ns Fs n D (List.replicate n none))):=by
 have hl:(svC Ns Fs n D (List.replicate n none)).length=n:=by rw [svC_len,List.length_replicate]
 refine ⟨fun i hi=>?_,by simp [unO,hl],fun x hx b=>?_⟩
 ·rw [hl] at hi
  obtain ⟨M,hM,_⟩:=solved_all (Fs:=Fs) hD hi
  exact ⟨M,hM⟩
 ·obtain ⟨M,hM,hb⟩:=solved_all (Fs:=Fs) hD hx
  rw [unO_get,hM]
  exact hb b
def ClA (w:World)(n:Int)(E:List (Int×Int))(e:Ending)(w':World):Prop :=
 Below w.heap.size w w'/\(((decide (0<=n) && decide (n<=4096))=false/\e=.returned (.tuple #[.slice none 0 0,.int .i64 4]))∨∃ k:Nat,n=(k:Int)/\k<=4096 /\
  ((E.all (okE k)=false/\e=.returned (.tuple #[.slice none 0 0,.int .i64 51]))∨(E.all (okE k)=true/\∃ v Ns Ms,e=.returned (.tuple #[v,.int .i64 0])/\RelB E k Ns/\SolB Ns Ns k Ms/\PlW w (prU Ms k k) v w')))
set_option maxRecDepth 100000 in
set_option maxHeartbeats 8000000 in
theorem closure_any (n:Int)(w:World)(ea:Option Addr)(ec:Nat)(E:List (Int×Int))(hE:PrsB w ea E)(hEl:E.length<=140737488355328)(hT:TabB w):Calls Tryz.prog 37 #[.int .i64 n,.slice ea E.length ec] w (ClA w n E):=by
 by_cases hn:(decide (0<=n) && decide (n<=4096))=false
 ·have RF:Hid (Calls Tryz.prog 56 #[.int .i64 n,.slice ea E.length ec] w fun e w'=>e=.returned (.tuple #[.slice none 0 0,.int .i64 4])/\w'=w):=rows_far n hn ea E.length ec w
  have HN:Hid ((decide (0<=n) && decide (n<=4096))=false):=hn
  clear hE hT hn
  generalize E.length=el at *
  go_enter Tryz.func37,Tryz.ntmps37
  go_wp2_with (go_at_call 56;refine RF.out.mono ?_;rintro e w1 ⟨rfl,hz⟩;rw [hz];clear hz w1)
  refine bodyPost_ret (v:=.tuple #[.slice none 0 0,.int .i64 4]) (by simp [results,Tryz.results37,go_sem]) rfl ?_
  exact ⟨Below.refl _ _,.inl ⟨HN.out,rfl⟩⟩
 ·obtain ⟨k,rfl⟩:∃ k:Nat,n=(k:Int):=⟨n.toNat,by simp at hn;omega⟩
  have hk:k<=4096:=by simp at hn;omega
  have RF:Hid (Calls Tryz.prog 56 #[.int .i64 (k:Int),.slice ea E.length ec] w (RoA w k E)):=rows_SB hk ea ec E hE hEl
  have HT:Hid (TabB w):=hT
  clear hE hT hn
  generalize hel:E.length=el at *
  clear hel
  go_enter Tryz.func37,Tryz.ntmps37
  go_wp2_with (go_at_call 56;refine RF.out.mono ?_)
  rintro e w1 (⟨hE,rfl,b1⟩ | ⟨hE,Ns,rfl,t1,hb1⟩)
  ·have HE:Hid (E.all (okE k)=false/\Below w.heap.size w w1):=⟨hE,b1⟩
   clear hE b1
   go_wp2
   refine bodyPost_ret (v:=.tuple #[.slice none 0 0,.int .i64 51]) (by simp [results,Tryz.results37,go_sem]) rfl ?_
   exact ⟨HE.out.2,.inr ⟨k,rfl,hk,.inl ⟨HE.out.1,rfl⟩⟩⟩
  ·have HE:Hid (E.all (okE k)=true/\RelB E k Ns/\Below w.heap.size w w1):=⟨hE,t1.rel hb1,t1.bel⟩
   have SV:Hid (Calls Tryz.prog 58 #[.slice (some ⟨w.heap.size,0,none⟩) k k,.slice (some ⟨w.heap.size,0,none⟩) k k] w1 fun e w'=>∃ ko D,e=.returned (.slice (some ⟨w1.heap.size,0,none⟩) k k)/\CoB Ns k D/\SvM w' w1.heap.size k ko (svC Ns Ns k D (List.replicate k none))/\Below w1.heap.size w1 w'):=solve_SB t1.rw t1.len hk (HT.out.later t1.bel) t1.kin t1.rw t1.len k k
   clear hE t1 hb1
   go_wp2_with (go_at_call 58;refine SV.out.mono ?_)
   rintro e w2 ⟨ko,D,rfl,hD,h2,b2⟩
   obtain ⟨hall,hsol⟩:=sol_of (Fs:=Ns) hD
   have PA:Hid (Calls Tryz.prog 57 #[.slice (some ⟨w1.heap.size,0,none⟩) k k] w2 fun e w'=>∃ v,e=.returned v/\PlW w2 (prU (unO (svC Ns Ns k D (List.replicate k none))) k k) v w'):=pairs_SB (h2.read hall) hsol.len hk hk ((HT.out.later HE.out.2.2).later b2) k
   have HS:Hid (SolB Ns Ns k (unO (svC Ns Ns k D (List.replicate k none)))):=hsol
   have B2:Hid (Below w.heap.size w w2):=HE.out.2.2.trans (b2.mono HE.out.2.2.size)
   generalize unO (svC Ns Ns k D (List.replicate k none))=Ms at *
   clear hall hsol hD h2 b2 SV
   go_wp2_with (go_at_call 57;refine PA.out.mono ?_;rintro e w3 ⟨v3,rfl,p3⟩;have P3:Hid (PlW w (prU Ms k k) v3 w3):=⟨p3.ro,fun j hj=>Nat.le_trans B2.out.size (p3.own j hj),B2.out.trans (p3.bel.mono B2.out.size)⟩;clear p3)
   refine bodyPost_ret (v:=.tuple #[v3,.int .i64 0]) (by simp [results,Tryz.results37,go_sem]) rfl ?_
   exact ⟨P3.out.bel,.inr ⟨k,rfl,hk,.inr ⟨HE.out.1,v3,Ns,Ms,rfl,HE.out.2.1,HS.out,P3.out⟩⟩⟩
end Go.Proofs.YtockbobpmiagiaaGreatDoor
