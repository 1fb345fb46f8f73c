import Derived.Test.YtockbobpmiagiaaGreatDoorPBT9ToBT11
namespace Go.Proofs.YtockbobpmiagiaaGreatDoor
set_option linter.unusedVariables false
open Go.RowKit Go.Shelf
theorem LvB.len {w wr:World}{rb n kS:Nat}{ks Ns:List Nat}{s:SrB}{vl vp:Value}(h:LvB w rb n ks Ns kS s vl vp wr):∃ a c a' c',vl=.slice a s.left.length c/\vp=.slice a' s.path.length c':=by
 obtain ⟨a,c,e⟩:∃ a c,vl=.slice a (nI s.left).length c:=by
  rcases h.l.2 with ⟨rfl,h0⟩ | ⟨g,cap,cur,rfl,_⟩
  ·exact ⟨none,0,by rw [h0]⟩
  ·exact ⟨_,_,rfl⟩
 obtain ⟨a',c',e'⟩:∃ a c,vp=.slice a (stB s.path).length c:=by
  rcases h.p.2 with ⟨rfl,h0⟩ | ⟨g,cap,cur,rfl,_⟩
  ·exact ⟨none,0,by rw [h0]⟩
  ·exact ⟨_,_,rfl⟩
 exact ⟨a,c,a',c',by rw [e,nI_len],by rw [e',stB_len]⟩
theorem LvB.pKeep {w wr w':World}{rb n kS:Nat}{ks Ns:List Nat}{s:SrB}{vl vp:Value}(h:LvB w rb n ks Ns kS s vl vp wr)(hf:FrB (·=kS) wr w'):IL w' vp (stB s.path) :=
 h.p.kept (fun j hj=>hf.block j (World.ownsRow.lt h.p j hj).2 (fun e=>by have e2:j=kS:=e;have:=h.po j hj;have:=h.kl;omega))
theorem IL.oneB (w:World)(x:Int):IL (w.alloc (.cells #[.int .i64 x] 3)) (.slice (some ⟨w.heap.size,0,none⟩) 1 1) [x] :=
 ⟨by simp,.inr ⟨w.heap.size,1,#[.int .i64 x],rfl,Nat.zero_le _,heap_alloc_new w _,Nat.le_refl _,by unfold maxLen;omega,rfl,rfl⟩⟩
set_option maxRecDepth 100000 in
set_option maxHeartbeats 4000000 in
theorem leave_SB {w:World}{rb n kS S root:Nat}{ks Ns:List Nat}(hR:RwB w rb n ks Ns)(hn:Ns.length=n)(hS:SB w kS n S)(hroot:root < n)(hT:TabB w)(hnk:∀ k∈ks,k≠kS)(hkin:∀ k∈ks,k+1 < w.heap.size)(hg:tzRen.g 1≠kS/\tzRen.g 1 < w.heap.size)(c:Nat) :
  Calls Tryz.prog 124 #[.int .i64 (root:Int),.slice (some ⟨rb,0,none⟩) n c,.pointer (some ⟨kS+1,0,none⟩)] w fun e w'=>∃ v,e=.returned v/\IL w' v (nI (lvU Ns n ⟨[root],[],S⟩).left)/\(∀ j,v.ownBlock=some j->w.heap.size<=j)/\SB w' kS n (lvU Ns n ⟨[root],[],S⟩).seen/\FrB (·=kS) w w':=by
 have hml:=hS.ml
 have L0:Hid (LvB w rb n ks Ns kS ⟨[root],[],S⟩ (.slice none 0 0) (.slice (some ⟨w.heap.size,0,none⟩) 1 1) (w.alloc (.cells #[.int .i64 (root:Int)] 3))) :=
  ⟨IL.nil _,IL.oneB w _,fun j hj=>by simp [Value.ownBlock] at hj,fun j hj=>by simp [Value.ownBlock] at hj;omega,fun j hj=>by simp [Value.ownBlock] at hj,hR.later (bAl w _),hS.later (bAl w _),hS.size,lt_of_block hR.row,hnk,Below.frB (bAl w _),hT.later (bAl w _),fun x hx=>by rw [List.mem_singleton.1 hx];exact hroot,hkin,hg⟩
 obtain ⟨R,hRe⟩:∃ R,lvU Ns n ⟨[root],[],S⟩=R:=⟨_,rfl⟩
 have HR0:Hid (lvU Ns n ⟨[root],[],S⟩=R):=hRe
 rw [hRe]
 have HNL:Hid (Ns.length=n):=hn
 clear hR hS hT hnk hkin hg hRe hn hroot
 go_enter Tryz.func124,Tryz.ntmps124
 go_wp2
 go_loopg [7,8] (mesV n ⟨[root],[],S⟩) (fun gk vl vp wr=>∃ s,LvB w rb n ks Ns kS s vl vp wr/\lvU Ns n s=R/\mesV n s<=gk/\s.path.length+s.left.length+gk<=2*n+10)
 case atStart=>exact ⟨_,L0.out,HR0.out,Nat.le_refl _,by unfold mesV;simp;omega⟩
 case round =>
  clear L0 HR0
  obtain ⟨⟨pth,lf,sn⟩,hL,hU,hgk,hbd⟩:=hrel
  obtain ⟨la,lc,pa,pc,rfl,rfl⟩:=hL.len
  cases pth with
  | nil =>
   rw [lvU_end rfl] at hU
   have HL:Hid (LvB w rb n ks Ns kS ⟨[],lf,sn⟩ (.slice la lf.length lc) (.slice pa 0 pc) wr/\(⟨[],lf,sn⟩:SrB)=R):=⟨hL,hU⟩
   clear hL hU hgk hbd
   simp only [List.length_nil]
   go_wp2
   go_ret
   obtain ⟨hl,rfl⟩:=HL.out
   exact ⟨_,rfl,hl.l,hl.lo,hl.sb,hl.fr⟩
  | cons x p =>
   have hxn:=hL.pin x (List.mem_cons_self ..)
   have hpl:=hL.p
   change IL wr _ (stB (x :: p)) at hpl
   rw [stB_cons] at hpl
   obtain ⟨pb,pc',he,hcap,cx,hp'⟩:=IL.popB hpl
   rw [stB_len] at he hcap cx hp'
   simp only [List.length_cons,Value.slice.injEq,true_and] at he
   obtain ⟨rfl,rfl⟩:=he
   obtain ⟨k,hk,hsk⟩:=hL.rw.at (show x < Ns.length by rw [HNL.out];exact hxn)
   have ck:=hL.rw.cell hk
   obtain ⟨D,hD⟩:∃ D,mB_ (Ns.getD x 0) sn=D:=⟨_,rfl⟩
   have LK:Hid (Calls Tryz.prog 120 #[.pointer (some ⟨k+1,0,none⟩),.int .i64 0,.pointer (some ⟨kS+1,0,none⟩)] wr fun e w'=>e=.returned (.int .i64 (lkB D n:Int))/\Below wr.heap.size wr w'):=(lacked_SB hsk hL.sb hL.tab 0 (by omega)).mono fun e w' ⟨r,q1,q2,q3⟩=>by
    rw [hD] at q2
    rw [<- LackR.uniq q2 (lkB_is D n)]
    exact ⟨q1,q3⟩
   have hst:=lvN_cons Ns n x p lf sn
   rw [hD] at hst
   have hls:=lvN_less (Ns:=Ns) (n:=n) (s:=⟨x :: p,lf,sn⟩) (by simp)
   have hus:=lvU_step (Ns:=Ns) (n:=n) (s:=⟨x :: p,lf,sn⟩) (by simp)
   rw [hU] at hus
   have hlk:=(lkB_is D n).le
   have HL:Hid (LvB w rb n ks Ns kS ⟨x :: p,lf,sn⟩ (.slice la lf.length lc) (.slice (some ⟨pb,0,none⟩) (p.length+1) pc) wr):=hL
   have HLL:Hid (p.length<=100000/\lf.length<=100000/\p.length+1+lf.length+gk<=2*n+10):=by
    simp only [List.length_cons] at hbd
    exact ⟨by omega,by omega,hbd⟩
   generalize lkB D n=r at *
   have xlt:(x:Int) < (n:Int):=by omega
   have plt:(p.length:Int) < (p.length:Int)+1:=by omega
   have hpl5:=HLL.out.1
   simp only [List.length_cons]
   by_cases hr:r < n
   ·rw [if_pos hr] at hst
    rw [hst] at hls hus
    have HM:Hid (mesV n ⟨r :: x :: p,lf,addN sn r⟩ < gk):=Nat.lt_of_lt_of_le hls hgk
    have HU:Hid (lvU Ns n ⟨r :: x :: p,lf,addN sn r⟩=R):=hus.symm
    have rlt:(r:Int) < (n:Int):=by omega
    have AD:Hid (∀ w',Below wr.heap.size wr w'->Calls Tryz.prog 85 #[.pointer (some ⟨kS+1,0,none⟩),.int .i64 (r:Int)] w' fun e w''=>∃ bv,e=.returned (.bool bv)/\SB w'' kS n (addN sn r)/\FrB (·=kS) w' w''):=fun w' hb=>(add_SB (hL.any hb).sb (r:Int)).mono fun e w'' ⟨q1,q2,q3⟩=>⟨_,q1,by
     have e2:addX sn n (r:Int)=addN sn r:=by unfold addX;rw [if_pos ⟨by omega,by omega⟩];rfl
     rw [<- e2]
     exact q2,q3⟩
    clear hL hpl hp' hsk hD hst hls hus hU hgk hk hlk hbd
    go_wp2_with (first
     | (go_at_call 120;refine LK.out.mono ?_;rintro e w1 ⟨rfl,b1⟩;have B1:Hid (Below wr.heap.size wr w1):=b1;clear b1 ck cx)
     | (go_at_call 85;refine (AD.out _ B1.out).mono ?_;rintro e w2 ⟨bv,rfl,s2,f2⟩;have S2:Hid (SB w2 kS n (addN sn r)/\FrB (·=kS) w1 w2):=⟨s2,f2⟩;clear s2 f2)
     | (at_builtin;refine wpList_il_append_w rfl _ _ rfl (.slice (some ⟨pb,0,none⟩) (p.length+1) pc) (stB (x :: p)) rfl (((HL.out.any B1.out).pKeep S2.out.2).later (bAl _ _)) w2.heap.size 1 (r:Int) rfl (by simp) (by rw [stB_len,List.length_cons];have:=HLL.out;omega) ?_;intro a4 n4 c4 w4 ho4 hg4;have W4:Hid (LvB w rb n ks Ns kS ⟨r :: x :: p,lf,addN sn r⟩ (.slice la lf.length lc) (.slice a4 n4 c4) w4):=(HL.out.any B1.out).push hr S2.out.1 S2.out.2 (bAl _ _) hg4 ho4;clear ho4 hg4))
    go_roundg (gk - 1)
    case measure=>have:=HM.out;omega
    case rel=>exact ⟨_,W4.out,HU.out,by have:=HM.out;omega,by simp only [List.length_cons];have:=HLL.out.2.2;have:=HM.out;omega⟩
   ·rw [if_neg hr] at hst
    rw [hst] at hls hus
    have HM:Hid (mesV n ⟨p,lf++[x],sn⟩ < gk):=Nat.lt_of_lt_of_le hls hgk
    have HU:Hid (lvU Ns n ⟨p,lf++[x],sn⟩=R):=hus.symm
    have rlt:¬ (r:Int) < (n:Int):=by omega
    have HPP:Hid (IL wr (.slice (some ⟨pb,0,none⟩) p.length pc) (stB p)):=hp'
    have hs1:=slice_toB pb pc (p.length+1) p.length (by omega)
    have CX:Hid (∀ w',Below wr.heap.size wr w'->w'.cell? ⟨pb,p.length,none⟩=some (.int .i64 (x:Int))):=fun w' hb=>(hb.cell (p:=⟨pb,p.length,none⟩) (World.block_lt_of_cell? wr _ cx)).trans cx
    clear hL hpl hp' hsk hD hst hls hus hU hgk hk hlk hbd
    go_wp2_with (first
     | (go_at_call 120;refine LK.out.mono ?_;rintro e w1 ⟨rfl,b1⟩;have B1:Hid (Below wr.heap.size wr w1):=b1;clear b1 ck cx;have cx:=CX.out w1 B1.out)
     | (at_builtin;refine wpList_il_append_w rfl _ _ rfl (.slice la lf.length lc) (nI lf) rfl ((HL.out.any B1.out).l.later (bAl _ _)) w1.heap.size 1 (x:Int) rfl (by simp) (by rw [nI_len];have:=HLL.out;omega) ?_;intro a4 n4 c4 w4 ho4 hg4;have W4:Hid (LvB w rb n ks Ns kS ⟨p,lf++[x],sn⟩ (.slice a4 n4 c4) (.slice (some ⟨pb,0,none⟩) p.length pc) w4):=(HL.out.any B1.out).leave (bAl _ _) hg4 ho4 (HPP.out.later B1.out) rfl;clear ho4 hg4 cx))
    go_roundg (gk - 1)
    case measure=>have:=HM.out;omega
    case rel=>exact ⟨_,W4.out,HU.out,by have:=HM.out;omega,by simp only [List.length_append,List.length_cons,List.length_nil];have:=HLL.out.2.2;have:=HM.out;omega⟩
abbrev SlV:=Option Addr×Nat×Nat
def slCB (x:SlV):List Value:=[.slice x.1 x.2.1 x.2.2]
abbrev slV (x:SlV):Value:=.slice x.1 x.2.1 x.2.2
theorem rkSl:RK 36 127 1 slCB:=by
 refine ⟨Tryz.underlying127,?_,by decide,fun _=>rfl,fun x u hu=>?_⟩
 ·have h:(Tryz.prog.info? 36).map (fun i=>(i.zero,i.size,i.bytes))=some (some (.slice none 0 0),1,24):=by kernel_rfl
  cases e:Tryz.prog.info? 36 with
  | none=>rw [e] at h;cases h
  | some i =>
   rw [e] at h
   simp at h
   exact ⟨i,_,rfl,h.1,h.2.1,by rw [h.2.2];decide,rfl⟩
 ·simp [slCB] at hu
  rw [hu]
  rfl
abbrev SLo:=RO 36 1 slCB
structure LsB (w0:Nat)(v:Value)(V:List SlV)(L:List (List Nat))(wr:World):Prop where
 row:SLo wr v V
 own:∀ j,v.ownBlock=some j->w0<=j
 len:V.length=L.length
 il:∀ (i:Nat) (x:SlV) (l:List Nat),V[i]?=some x->L[i]?=some l->IL wr (slV x) (nI l)
 lo:∀ x∈V,∀ j,(slV x).ownBlock=some j->w0<=j
 ne:∀ x∈V,∀ j,(slV x).ownBlock=some j->v.ownBlock≠some j
 nd:∀ (i i':Nat) (x x':SlV),V[i]?=some x->V[i']?=some x'->i≠i'->∀ j,(slV x).ownBlock=some j->(slV x').ownBlock≠some j
theorem LsB.nil (w0:Nat)(wr:World):LsB w0 (.slice none 0 0) [] [] wr:=⟨RO.nil wr,fun j hj=>by simp [Value.ownBlock] at hj,rfl,fun i x l hx=>by simp at hx,fun x hx=>(by cases hx),fun x hx=>(by cases hx),fun i i' x x' hx=>by simp at hx⟩
theorem LsB.frB {X:Nat->Prop}{w0:Nat}{v:Value}{V:List SlV}{L:List (List Nat)}{wr w':World}(h:LsB w0 v V L wr)(hf:FrB X wr w')(hX:∀ j,X j->j < w0):LsB w0 v V L w' :=
 ⟨h.row.kept (fun j hj=>hf.block j (h.row.lt j hj) (fun q=>by have:=hX j q;have:=h.own j hj;omega)),h.own,h.len,fun i x l hx hl=>(h.il i x l hx hl).kept (fun j hj=>hf.block j (World.ownsRow.lt (h.il i x l hx hl) j hj).2 (fun q=>by have:=hX j q;have:=h.lo x (List.mem_of_getElem? hx) j hj;omega)),h.lo,h.ne,h.nd⟩
theorem LsB.later {w0:Nat}{v:Value}{V:List SlV}{L:List (List Nat)}{wr w':World}(h:LsB w0 v V L wr)(hb:Below wr.heap.size wr w'):LsB w0 v V L w':=h.frB (X:=fun _=>False) (Below.frB hb) (fun _ q=>q.elim)
theorem LsB.snoc {w0:Nat}{v v':Value}{V:List SlV}{L:List (List Nat)}{wr w2 w4:World}{x:SlV}{l:List Nat}(h:LsB w0 v V L wr)(hx:IL wr (slV x) (nI l))(hxo:∀ j,(slV x).ownBlock=some j->w0<=j)(hxn:∀ j,(slV x).ownBlock=some j->v.ownBlock≠some j)(hxd:∀ y∈V,∀ j,(slV y).ownBlock=some j->(slV x).ownBlock≠some j)
  (hb:Below wr.heap.size wr w2) (hg:Grew w2 w4 v v') (hr:SLo w4 v' (V++[x])) (hw0:w0<=wr.heap.size):LsB w0 v' (V++[x]) (L++[l]) w4:=by
 have hz:=hb.size
 have hk:∀ (y:SlV) (ly:List Nat),IL wr (slV y) (nI ly)->(∀ j,(slV y).ownBlock=some j->v.ownBlock≠some j)->IL w4 (slV y) (nI ly):=fun y ly hy hyn=>hy.kept (fun j hj=>by
  have hlt:=(World.ownsRow.lt hy j hj).2
  rw [hg.grown.block j (by omega) (fun e=>hyn j hj e.symm),hb.block j hlt])
 have old:∀ j,v'.ownBlock=some j->v.ownBlock=some j∨w2.heap.size<=j:=fun j hj=>by
  rcases hg.moved with e | ⟨i,e,hi2⟩
  ·exact .inl (by rw [<- e];exact hj)
  ·rw [e] at hj
   simp at hj
   exact .inr (by omega)
 have hnew:∀ (y:SlV) (ly:List Nat),IL wr (slV y) (nI ly)->(∀ j,(slV y).ownBlock=some j->v.ownBlock≠some j)->∀ j,(slV y).ownBlock=some j->v'.ownBlock≠some j:=fun y ly hy hyn j hj e=>by
  rcases old j e with q | q
  ·exact hyn j hj q
  ·have:=(World.ownsRow.lt hy j hj).2
   omega
 have get:∀ (i:Nat) (y:SlV),(V++[x])[i]?=some y->V[i]?=some y∨(i=V.length/\y=x):=fun i y hy=>by
  rcases Nat.lt_or_ge i V.length with q | q
  ·rw [List.getElem?_append_left q] at hy;exact .inl hy
  ·rw [List.getElem?_append_right q] at hy
   have:i - V.length=0:=by
    have:=(List.getElem?_eq_some_iff.1 hy).1
    simp at this
    omega
   rw [this] at hy
   simp at hy
   exact .inr ⟨by omega,hy.symm⟩
 refine ⟨hr,fun j hj=>?_,by simp [h.len],fun i y ly hy hl=>?_,fun y hy=>?_,fun y hy=>?_,fun i i' y y' hy hy' hne=>?_⟩
 ·rcases old j hj with q | q
  ·exact h.own j q
  ·omega
 ·rcases get i y hy with q | ⟨rfl,rfl⟩
  ·have hlt:=(List.getElem?_eq_some_iff.1 q).1
   rw [List.getElem?_append_left (by rw [<- h.len];exact hlt)] at hl
   exact hk y ly (h.il i y ly q hl) (h.ne y (List.mem_of_getElem? q))
  ·rw [h.len,List.getElem?_append_right (Nat.le_refl _),Nat.sub_self] at hl
   simp at hl
   subst hl
   exact hk y l hx hxn
 ·rcases List.mem_append.1 hy with q | q
  ·exact h.lo y q
  ·rw [List.mem_singleton.1 q];exact hxo
 ·rcases List.mem_append.1 hy with q | q
  ·obtain ⟨i,hi⟩:=List.getElem?_of_mem q
   have hl:i < L.length:=by rw [<- h.len];exact (List.getElem?_eq_some_iff.1 hi).1
   exact hnew y _ (h.il i y _ hi (List.getElem?_eq_getElem hl)) (h.ne y q)
  ·rw [List.mem_singleton.1 q];exact hnew x l hx hxn
 ·rcases get i y hy with q | ⟨rfl,rfl⟩
  ·rcases get i' y' hy' with q' | ⟨rfl,rfl⟩
   ·exact h.nd i i' y y' q q' hne
   ·exact hxd y (List.mem_of_getElem? q)
  ·rcases get i' y' hy' with q' | ⟨rfl,rfl⟩
   ·intro j hj hj2
    exact hxd y' (List.mem_of_getElem? q') j hj2 hj
   ·exact absurd rfl hne
def srU (Ns:List Nat)(n:Nat):List Nat->List (List Nat)×Nat->List (List Nat)×Nat
 | [],s=>s
 | r :: rs,s=>if s.2.testBit r=true then srU Ns n rs s else srU Ns n rs (s.1++[(lvU Ns n ⟨[r],[],addN s.2 r⟩).left],(lvU Ns n ⟨[r],[],addN s.2 r⟩).seen)
theorem TabB.lt {w:World}(h:TabB w):tzRen.g 1 < w.heap.size:=World.block_lt_of_cell? w _ (h 0 (by decide))
theorem inrow_at {w:World}{ra:Option Addr}{l:List Nat}(h:InRow w ra (nI l)){i x:Nat}(hx:l[i]?=some x):∃ b off,ra=some ⟨b,off,none⟩/\b < w.heap.size/\w.cell? ⟨b,off+i,none⟩=some (.int .i64 (x:Int)):=by
 have hi:=(List.getElem?_eq_some_iff.1 hx).1
 obtain ⟨b,off,e,hb,hc⟩:=h (by intro q;have:=congrArg List.length q;rw [nI_len] at this;simp at this;rw [this] at hi;simp at hi)
 refine ⟨b,off,e,hb,?_⟩
 have:=hc i (by rw [nI_len];exact hi)
 rw [this]
 congr 2
 simp [nI,List.getD_eq_getElem?_getD,hx]
theorem one_cellB (w:World)(x:SlV)(t:TypeId):∀ (j:Nat) (u:Value),(slCB x)[j]?=some u->(w.alloc (.cells #[.slice x.1 x.2.1 x.2.2] t)).cell? ⟨w.heap.size,j,none⟩=some u:=fun j u hu=>by
 rw [cQa (heap_alloc_new w _)]
 cases j with
 | zero=>simpa [slCB] using hu
 | succ j=>simp [slCB] at hu
structure ShB (w:World)(n:Nat)(vls:Value)(V:List SlV)(L:List (List Nat))(S:Nat)(wr:World):Prop where
 ls:LsB (w.heap.size+2) vls V L wr
 sb:SB wr w.heap.size n S
 bel:Below w.heap.size w wr
 sz:w.heap.size+2<=wr.heap.size
theorem ShB.seen {w wr w':World}{n S S':Nat}{vls:Value}{V:List SlV}{L:List (List Nat)}(h:ShB w n vls V L S wr)(hs:SB w' w.heap.size n S')(hf:FrB (·=w.heap.size) wr w'):ShB w n vls V L S' w' :=
 ⟨h.ls.frB hf (fun j q=>by have q2:j=w.heap.size:=q;omega),hs,hf.below h.bel (by have:=h.sz;omega) (fun j q=>by have q2:j=w.heap.size:=q;omega),Nat.le_trans h.sz hf.size⟩
theorem ShB.out {w w2 w3 wa w4:World}{n S:Nat}{vls v':Value}{V:List SlV}{L:List (List Nat)}{x:SlV}{l:List Nat}(h:ShB w n vls V L S w3)(hx:IL w3 (slV x) (nI l))(ho:∀ j,(slV x).ownBlock=some j->w2.heap.size<=j)(h2:LsB (w.heap.size+2) vls V L w2)(hb:Below w3.heap.size w3 wa)(hg:Grew wa w4 vls v')(hr:SLo w4 v' (V++[x]))(hz:w.heap.size+2<=w2.heap.size):ShB w n v' (V++[x]) (L++[l]) S w4:=by
 have hsz:=h.sz
 have hzb:=hb.size
 refine ⟨h.ls.snoc hx (fun j hj=>by have:=ho j hj;omega) (fun j hj e=>?_) (fun y hy j hj e=>?_) hb hg hr (by omega),?_,?_,?_⟩
 ·have h1:=ho j hj
  have h3:=h2.row.lt j e
  omega
 ·have h1:=ho j e
  obtain ⟨i,hi⟩:=List.getElem?_of_mem hy
  have hl:i < L.length:=by rw [<- h2.len];exact (List.getElem?_eq_some_iff.1 hi).1
  have h3:=(World.ownsRow.lt (h2.il i y _ hi (List.getElem?_eq_getElem hl)) j hj).2
  omega
 ·have s2:=h.sb.later hb
  have hk:=h.sb.size
  have hne:∀ j,j < w.heap.size+2->some j≠vls.ownBlock:=fun j hj e=>by have:=h.ls.own j e.symm;omega
  refine ⟨?_,?_,s2.lt,s2.ml⟩
  ·rw [hg.grown.block _ (by omega) (hne _ (by omega))]
   exact s2.hd
  ·rw [hg.grown.block _ (by omega) (hne _ (by omega))]
   exact s2.wd
 ·have b1:=h.bel.trans (hb.mono h.bel.size)
  exact ⟨hg.grown.os.trans b1.os,hg.grown.tape.trans b1.tape,hg.grown.output.trans b1.output,Nat.le_trans b1.size hg.grown.size,fun j hj=>(hg.grown.block j (by omega) (fun e=>by have:=h.ls.own j e.symm;omega)).trans (b1.block j hj)⟩
 ·have:=hg.grown.size
  omega
set_option maxRecDepth 100000 in
set_option maxHeartbeats 4000000 in
theorem search_SB {w:World}{rb n:Nat}{ks Ns roots:List Nat}(hR:RwB w rb n ks Ns)(hn:Ns.length=n)(hm:n<=4096)(hT:TabB w)(hkin:∀ k∈ks,k+1 < w.heap.size)(ra:Option Addr)(rc c:Nat)(hro:InRow w ra (nI roots))(hrl:∀ r∈roots,r < n)(hrn:roots.length<=100000) :
  Calls Tryz.prog 112 #[.slice (some ⟨rb,0,none⟩) n c,.slice ra roots.length rc] w fun e w'=>∃ v V,e=.returned v/\LsB (w.heap.size+2) v V (srU Ns n roots ([],0)).1 w'/\Below w.heap.size w w':=by
 have HR:Hid (RwB w rb n ks Ns):=hR
 have HT:Hid (TabB w):=hT
 have HKI:Hid (∀ k∈ks,k+1 < w.heap.size):=hkin
 have HRO:Hid (InRow w ra (nI roots)):=hro
 have HRL:Hid (∀ r∈roots,r < n):=hrl
 have HNL:Hid (Ns.length=n):=hn
 have HEM:Hid (Calls Tryz.prog 97 #[.int .i64 (n:Int)] w fun e w'=>e=.returned (.pointer (some ⟨w.heap.size+1,0,none⟩))/\SB w' w.heap.size n 0/\Below w.heap.size w w'/\w'.heap.size=w.heap.size+2):=empty_SB n hm w
 obtain ⟨R,hRe⟩:∃ R,srU Ns n roots ([],0)=R:=⟨_,rfl⟩
 have HRE:Hid (srU Ns n roots ([],0)=R):=hRe
 rw [hRe]
 clear hR hT hkin hro hrl hn hRe
 go_enter Tryz.func112,Tryz.ntmps112
 go_wp2_with (go_at_call 97;refine HEM.out.mono ?_;rintro e w1 ⟨rfl,s1,b1,z1⟩;have S1:Hid (ShB w n (.slice none 0 0) [] [] 0 w1):=⟨LsB.nil _ _,s1,b1,by omega⟩;clear s1 b1 z1)
 clear HEM
 go_loopw [6,14] (fun vls z wr=>∃ (i:Nat) (V:List SlV) (L:List (List Nat)) (S:Nat),i<=roots.length/\z=.int .i64 (i:Int)/\ShB w n vls V L S wr/\L.length<=i/\srU Ns n (roots.drop i) (L,S)=R) (fun _ z _=>roots.length - (intOf z).toNat)
 case atStart=>exact ⟨0,[],[],0,Nat.zero_le _,rfl,S1.out,Nat.le_refl _,HRE.out⟩
 case round =>
  clear S1 HRE
  obtain ⟨i,V,L,S,hi,rfl,hS,hLi,hU⟩:=hrel
  by_cases hlt:i < roots.length
  ·have ilt:(i:Int) < (roots.length:Int):=by omega
   obtain ⟨r,hr⟩:∃ r,roots[i]?=some r:=⟨_,List.getElem?_eq_getElem hlt⟩
   have hrn2:r < n:=HRL.out r (List.mem_of_getElem? hr)
   have hdr:roots.drop i=r :: roots.drop (i+1):=by
    rw [List.drop_eq_getElem_cons hlt]
    congr 1
    exact (List.getElem?_eq_some_iff.1 hr).2
   obtain ⟨b,off,hra,hbl,cr⟩:=inrow_at (HRO.out.later hS.bel) hr
   rw [hdr] at hU
   unfold srU at hU
   have AD:Hid (Calls Tryz.prog 85 #[.pointer (some ⟨w.heap.size+1,0,none⟩),.int .i64 (r:Int)] wr fun e w''=>e=.returned (.bool (!S.testBit r))/\SB w'' w.heap.size n (addN S r)/\FrB (·=w.heap.size) wr w''):=(add_SB hS.sb (r:Int)).mono fun e w'' ⟨q1,q2,q3⟩=>by
    have e1:decide (0<=(r:Int)/\(r:Int) < (n:Int))=true:=decide_eq_true ⟨by omega,by omega⟩
    have e2:addX S n (r:Int)=addN S r:=by unfold addX;rw [if_pos ⟨by omega,by omega⟩];rfl
    rw [e1,Int.toNat_natCast,Bool.true_and] at q1
    rw [e2] at q2
    exact ⟨q1,q2,q3⟩
   have HS:Hid (ShB w n u6 V L S wr):=hS
   subst hra
   clear hS hr hdr
   by_cases hb:S.testBit r=true
   ·rw [if_pos hb] at hU
    rw [hb] at AD
    have HU:Hid (srU Ns n (roots.drop (i+1)) (L,S)=R):=hU
    have HAN:Hid (addN S r=S):=addN_in hb
    clear hU hb
    go_wp2_with (go_at_call 85;refine AD.out.mono ?_;rintro e w2 ⟨rfl,s2,f2⟩;have S2:Hid (ShB w n u6 V L S w2):=HS.out.seen (by rw [<- HAN.out];exact s2) f2;clear s2 f2 cr)
    go_roundw
    case rel=>exact ⟨i+1,V,L,S,by omega,by go_num,S2.out,by omega,HU.out⟩
    case measure=>simp [intOf];omega
   ·rw [if_neg hb] at hU
    rw [Bool.eq_false_iff.2 hb] at AD
    obtain ⟨R1,hR1⟩:∃ R1,lvU Ns n ⟨[r],[],addN S r⟩=R1:=⟨_,rfl⟩
    rw [hR1] at hU
    have HU:Hid (srU Ns n (roots.drop (i+1)) (L++[R1.left],R1.seen)=R):=hU
    have LV:Hid (∀ w2,SB w2 w.heap.size n (addN S r)->Below w.heap.size w w2->Calls Tryz.prog 124 #[.int .i64 (r:Int),.slice (some ⟨rb,0,none⟩) n c,.pointer (some ⟨w.heap.size+1,0,none⟩)] w2 fun e w'=>∃ x:SlV,e=.returned (slV x)/\IL w' (slV x) (nI R1.left)/\(∀ j,(slV x).ownBlock=some j->w2.heap.size<=j)/\SB w' w.heap.size n R1.seen/\FrB (·=w.heap.size) w2 w'):=fun w2 h2 hb2=>by
     have hz2:=hb2.size
     have:=leave_SB (HR.out.later hb2) HNL.out h2 hrn2 (HT.out.later hb2) (fun k hk=>by have:=HKI.out k hk;omega) (fun k hk=>by have:=HKI.out k hk;omega) ⟨by have:=HT.out.lt;omega,by have:=HT.out.lt;omega⟩ c
     rw [hR1] at this
     refine this.mono fun e w' ⟨v,q1,q2,q3,q4,q5⟩=>?_
     obtain ⟨a5,c5,rfl⟩:∃ a c,v=.slice a (nI R1.left).length c:=by
      rcases q2.2 with ⟨rfl,h0⟩ | ⟨g,cap,cur,rfl,_⟩
      ·exact ⟨none,0,by rw [h0]⟩
      ·exact ⟨_,_,rfl⟩
     exact ⟨(a5,(nI R1.left).length,c5),q1,q2,q3,q4,q5⟩
    have HLN:Hid (V.length<=1000000000):=by
     have e1:=HS.out.ls.len
     show _<=_
     omega
    have HWS:Hid (w.heap.size+2<=wr.heap.size):=HS.out.sz
    clear hU hb hR1
    go_wp2_with (first
     | (go_at_call 85;refine AD.out.mono ?_;rintro e w2 ⟨rfl,s2,f2⟩;have S2:Hid (ShB w n u6 V L (addN S r) w2):=HS.out.seen s2 f2;clear s2 f2 cr)
     | (go_at_call 124;refine (LV.out _ S2.out.sb S2.out.bel).mono ?_;rintro e w3 ⟨⟨xa,xl,xc⟩,rfl,i3,o3,s3,f3⟩;have S3:Hid (ShB w n u6 V L R1.seen w3):=S2.out.seen s3 f3;have X3:Hid (IL w3 (.slice xa xl xc) (nI R1.left)/\∀ j,(Value.slice xa xl xc).ownBlock=some j->w2.heap.size<=j):=⟨i3,o3⟩;clear i3 o3 s3 f3)
     | (at_builtin;refine wpList_ro_append rkSl rfl _ _ rfl u6 V rfl (S3.out.ls.row.later (bAl _ _)) w3.heap.size 1 (xa,xl,xc) rfl (one_cellB w3 (xa,xl,xc) _) HLN.out ?_;intro a4 n4 c4 w4 ho4 hg4;have W4:Hid (ShB w n (.slice a4 n4 c4) (V++[(xa,xl,xc)]) (L++[R1.left]) R1.seen w4):=S3.out.out X3.out.1 X3.out.2 S2.out.ls (bAl _ _) hg4 ho4 S2.out.sz;clear ho4 hg4))
    go_roundw
    case rel=>exact ⟨i+1,_,_,_,by omega,by go_num,W4.out,by simp;omega,HU.out⟩
    case measure=>simp [intOf];omega
  ·obtain rfl:i=roots.length:=by omega
   have ilt:¬ (roots.length:Int) < (roots.length:Int):=by omega
   rw [List.drop_length] at hU
   have HF:Hid (LsB (w.heap.size+2) u6 V R.1 wr/\Below w.heap.size w wr):=by
    rw [<- hU]
    exact ⟨hS.ls,hS.bel⟩
   clear hS hU
   go_wp2
   go_ret
   exact ⟨_,rfl,⟨V,HF.out.1⟩,HF.out.2⟩
theorem make_iB (n:Nat)(hn:n<=1048576)(w:World):(Instr.makeSlice 36 (.int .i64 (n:Int)) (.int .i64 (n:Int))).run Tryz.prog w=.ok (.slice (some ⟨w.heap.size,0,none⟩) n n) (w.alloc (.cells (madeCells #[.int .i64 0] n) 3)):=by
 obtain ⟨i0,hi,hz0,hz1,hz2⟩:=infoInt_parts
 have:=run_makeSlice w 36 3 i0 (.int .i64 0) Tryz.underlying36 hi hz0 .i64 .i64 (n:Int) (n:Int) (by omega) (by omega) (by rw [hz1];simp;omega) (by rw [hz2];omega) (by omega)
 rw [hz1] at this
 simpa [Value.cells] using this
def KbB (w:World)(b:Nat)(K:List Nat):Prop:=w.heap[b]?=some (.cells ((nI K).map (Value.int .i64 ·)).toArray 3)
theorem KbB.lt {w:World}{b:Nat}{K:List Nat}(h:KbB w b K):b < w.heap.size:=lt_of_block h
theorem KbB.cell {w:World}{b:Nat}{K:List Nat}(h:KbB w b K){i:Nat}(hi:i < K.length):w.cell? ⟨b,i,none⟩=some (.int .i64 (K.getD i 0:Int)):=by
 rw [cQa h]
 simp [nI,List.getD,hi]
theorem KbB.free {w:World}{b:Nat}{K:List Nat}(h:KbB w b K)(i:Nat):w.frozen? ⟨b,i,none⟩=false:=by
 unfold KbB at h
 simp [World.frozen?,h]
theorem KbB.set {w:World}{b:Nat}{K:List Nat}(h:KbB w b K)(i:Nat)(v:Nat):KbB (w.setCell ⟨b,i,none⟩ (.int .i64 (v:Int))) b (K.set i v):=by
 unfold KbB nI
 rw [hSt h i (.int .i64 (v:Int)),List.setIfInBounds_toArray,List.map_set,List.map_set]
 rfl
theorem KbB.frB {X:Nat->Prop}{w w':World}{b:Nat}{K:List Nat}(h:KbB w b K)(hf:FrB X w w')(hX:¬ X b):KbB w' b K:=(hf.block b h.lt hX).trans h
theorem KbB.later {w w':World}{b:Nat}{K:List Nat}(h:KbB w b K)(hb:Below w.heap.size w w'):KbB w' b K:=(hb.block b h.lt).trans h
theorem KbB.made (w:World)(n:Nat):KbB (w.alloc (.cells (madeCells #[.int .i64 0] n) 3)) w.heap.size (List.replicate n 0):=by
 unfold KbB nI
 rw [heap_alloc_new,made_listB,List.map_replicate,List.map_replicate]
 rfl
theorem KbB.row {w:World}{b:Nat}{K:List Nat}(h:KbB w b K):InRow w (some ⟨b,0,none⟩) (nI K):=fun _=>⟨b,0,rfl,h.lt,fun i hi=>by
 rw [nI_len] at hi
 rw [Nat.zero_add,h.cell hi]
 simp [nI,List.getD_eq_getElem?_getD,List.getElem?_eq_getElem hi]⟩
theorem KbB.il {w:World}{b:Nat}{K:List Nat}(h:KbB w b K)(hl:K.length<=1000000):IL w (.slice (some ⟨b,0,none⟩) K.length K.length) (nI K):=by
 have e:(nI K).length=K.length:=nI_len K
 unfold IL
 rw [e]
 exact ⟨by simp [nI],.inr ⟨b,K.length,_,rfl,Nat.zero_le _,h,Nat.le_refl _,by unfold maxLen;omega,by simp [nI],by rw [List.toList_toArray,Nat.mul_one,List.take_of_length_le (by simp [nI])]⟩⟩
set_option maxRecDepth 100000 in
set_option maxHeartbeats 4000000 in
theorem upTo_SB (n:Nat)(hn:n<=4096)(w:World):Calls Tryz.prog 113 #[.int .i64 (n:Int)] w fun e w'=>e=.returned (.slice (some ⟨w.heap.size,0,none⟩) n n)/\KbB w' w.heap.size (List.range n)/\Below w.heap.size w w':=by
 have hmk:=make_iB n (by omega)
 have K0:Hid (KbB (w.alloc (.cells (madeCells #[.int .i64 0] n) 3)) w.heap.size (List.range 0++List.replicate (n - 0) 0)/\Below w.heap.size w (w.alloc (.cells (madeCells #[.int .i64 0] n) 3))):=⟨KbB.made w n,bAl w _⟩
 go_enter Tryz.func113,Tryz.ntmps113
 go_wp2
 clear hmk
 go_loopw [9] (fun z wr=>∃ i:Nat,i<=n/\z=.int .i64 (i:Int)/\KbB wr w.heap.size (List.range i++List.replicate (n - i) 0)/\Below w.heap.size w wr) (fun z _=>n - (intOf z).toNat)
 case atStart=>exact ⟨0,Nat.zero_le _,rfl,K0.out.1,K0.out.2⟩
 case round =>
  clear K0
  obtain ⟨i,hi,rfl,hK,hB⟩:=hrel
  by_cases hlt:i < n
  ·have ilt:(i:Int) < (n:Int):=by omega
   have hlen:i < (List.range i++List.replicate (n - i) 0).length:=by simp;omega
   have cc:=hK.cell hlen
   have fz:=hK.free i
   have HS:Hid (KbB (wr.setCell ⟨w.heap.size,i,none⟩ (.int .i64 (i:Int))) w.heap.size (List.range (i+1)++List.replicate (n - (i+1)) 0)/\Below w.heap.size w (wr.setCell ⟨w.heap.size,i,none⟩ (.int .i64 (i:Int)))):=by
    refine ⟨?_,hB.setCell (p:=⟨w.heap.size,i,none⟩) (Nat.le_refl _) _⟩
    have:=hK.set i i
    have hset:(List.range i++List.replicate (n - i) 0).set i i=List.range (i+1)++List.replicate (n - (i+1)) 0:=by
     rw [List.set_append_right _ _ (by simp),List.length_range,Nat.sub_self,List.range_succ,List.append_assoc,show n - i=(n - (i+1))+1 by omega,List.replicate_succ]
     rfl
    rw [hset] at this
    exact this
   clear hK hB hlen
   go_wp2
   go_roundw
   case rel=>exact ⟨i+1,by omega,by go_num,HS.out.1,HS.out.2⟩
   case measure=>simp [intOf];omega
  ·obtain rfl:i=n:=by omega
   have ilt:¬ (i:Int) < (i:Int):=by omega
   rw [Nat.sub_self,List.replicate_zero,List.append_nil] at hK
   have HK:Hid (KbB wr w.heap.size (List.range i)/\Below w.heap.size w wr):=⟨hK,hB⟩
   clear hK hB
   go_wp2
   go_ret
   exact ⟨rfl,HK.out.1,HK.out.2⟩
end Go.Proofs.YtockbobpmiagiaaGreatDoor
