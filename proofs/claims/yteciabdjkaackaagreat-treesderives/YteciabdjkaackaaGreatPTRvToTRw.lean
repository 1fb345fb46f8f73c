import Derived.Test.YteciabdjkaackaaGreatPGT0ToGT6
import Derived.Shelf.SlicesG.Reverse
import Derived.Test.YteciabdjkaackaaGreatPTL1ToUS1
namespace Go.Proofs.YteciabdjkaackaaGreat
set_option linter.unusedVariables false
open Go.RowKit Go.Shelf Go.Sort
theorem flat_fm {α:Type}[Inhabited α]{enc:α->List Value}{k:Nat}(hk0:0 < k)(hk:∀ x,(enc x).length=k)(r:List α):flatK enc k r.toArray=(r.flatMap enc).toArray:=by
 apply Array.ext
 ·simp [flatK,fm_len hk r]
 ·intro t h1 h2
  have ht:t < r.length*k:=by simpa [flatK] using h1
  have hd:t / k < r.length:=Nat.div_lt_of_lt_mul (by rw [Nat.mul_comm];exact ht)
  have hm:t % k < k:=Nat.mod_lt _ hk0
  have q:=fm_get hk r (t / k) hd (t % k) hm
  rw [Nat.div_add_mod'] at q
  obtain ⟨_,q'⟩:=List.getElem?_eq_some_iff.1 (q.trans (List.getElem?_eq_getElem (by rw [hk];exact hm)))
  simp only [flatK,List.getElem_toArray,Array.getElem_map,Array.getElem_range]
  rw [q',getElem!_pos r.toArray (t / k) (by simpa using hd),getElem!_pos (enc r.toArray[t / k]) (t % k) (by rw [hk];exact hm)]
  simp
theorem heap_putO {w:World}{b n o:Nat}{F:Array Value}{cur:Array Value}{t:TypeId}{fz:Nat×Nat}(hb:w.heap[b]?=some (.cells cur t fz)):(putRow id (Sort.ahead w n) b o F).heap[b]?=some (.cells (putCells id o F cur) t fz):=by
 simp [putRow,mapBlock,Sort.ahead,Array.getElem?_modify,hb,onCells]
theorem heap_putO_ne {w:World}{b n o j:Nat}{F:Array Value}(h:j≠b):(putRow id (Sort.ahead w n) b o F).heap[j]?=w.heap[j]?:=by
 simp [putRow,mapBlock,Sort.ahead,Array.getElem?_modify,Ne.symm h]
theorem put_in {w:World}{b n o:Nat}{F:Array Value}{cur:Array Value}{t:TypeId}{fz:Nat×Nat}(hb:w.heap[b]?=some (.cells cur t fz))(i:Nat)(hi:i < F.size)(hc:o+i < cur.size):(putRow id (Sort.ahead w n) b o F).cell? ⟨b,o+i,none⟩=F[i]?:=by
 rw [cQa (heap_putO hb)]
 simp only [putCells,Array.getElem?_mapIdx]
 rw [Array.getElem?_eq_getElem hc,Array.getElem?_eq_getElem hi,Option.map_some,if_pos ⟨by omega,by omega⟩,Nat.add_sub_cancel_left,getElem!_pos F i hi]
 rfl
theorem put_out {w:World}{b n o:Nat}{F:Array Value}{cur:Array Value}{t:TypeId}{fz:Nat×Nat}(hb:w.heap[b]?=some (.cells cur t fz))(x:Nat)(hx:x < o∨o+F.size<=x):(putRow id (Sort.ahead w n) b o F).cell? ⟨b,x,none⟩=w.cell? ⟨b,x,none⟩:=by
 rw [cQa (heap_putO hb),cQa hb]
 simp only [putCells,Array.getElem?_mapIdx]
 have h:¬ (o<=x/\x < o+F.size):=by omega
 simp only [if_neg h]
 cases cur[x]?<;>rfl
theorem put_size (w:World)(b n o:Nat)(F:Array Value):(putRow id (Sort.ahead w n) b o F).heap.size=w.heap.size:=by simp [putRow,mapBlock,Sort.ahead]
theorem put_below {w0 w:World}{N b n o:Nat}{F:Array Value}(h:Below N w0 w)(hb:N<=b)(hN:N<=w.heap.size):Below N w0 (putRow id (Sort.ahead w n) b o F):=by
 have hg:w.grownBy (putRow id (Sort.ahead w n) b o F) (some b):=⟨rfl,rfl,rfl,by rw [put_size];exact Nat.le_refl _,fun k _ hk=>heap_putO_ne fun e=>hk (by rw [e])⟩
 exact h.grown hg hN (fun k e=>by cases e;exact hb)
def trD (t:TV):Int×Int×ByteArray×Option Addr×Nat×Nat:=(t.prod,t.kind,t.tx,t.ka,t.kids.length,t.kc)
def trE (q:Int×Int×ByteArray×Option Addr×Nat×Nat):List Value:=[.int .i64 q.1,.int .i64 q.2.1,.string q.2.2.1,.slice q.2.2.2.1 q.2.2.2.2.1 q.2.2.2.2.2]
theorem trE_D (l:List TV):(l.map trD).flatMap trE=l.flatMap trCells:=by
 rw [List.flatMap_map];rfl
def revRenT:Ren:=⟨fun _=>93,fun x=>if x=22 then 24 else if x=23 then 26 else x,fun x=>x⟩
theorem rev_laysT:SlLaysE0.n35 Tryz.prog revRenT:={
 mixed:=by kernel_rfl
 f35:=⟨Tryz.f93.name,by decide,by kernel_rfl⟩
 t0:=by kernel_rfl
 a0:=fun _=>by kernel_rfl
 z0:=fun _=>by kernel_rfl
 v0:=fun _=>by kernel_rfl
 t3:=by kernel_rfl
 a3:=fun _=>by kernel_rfl
 z3:=fun _=>by kernel_rfl
 v3:=fun _=>by kernel_rfl
 t4:=by kernel_rfl
 a4:=fun _=>by kernel_rfl
 z4:=fun _=>by kernel_rfl
 v4:=fun _=>by kernel_rfl
 t22:=by kernel_rfl
 a22:=fun _=>by kernel_rfl
 z22:=fun _=>by kernel_rfl
 v22:=fun _=>by kernel_rfl }
theorem rev_tree (b o c:Nat)(l:List TV)(w:World)(hl:l.length<=1000000000)(hc:∀ i u,(l.flatMap trCells)[i]?=some u->w.cell? ⟨b,o+i,none⟩=some u){cs:Array Value}(hb:w.heap[b]?=some (.cells cs 26)) :
  Calls Tryz.prog 93 #[.slice (some ⟨b,o,none⟩) l.length c] w fun e w'=>e=.returned (.tuple #[])/\w'.heap.size=w.heap.size/\(∀ j,j≠b->w'.heap[j]?=w.heap[j]?)/\(∃ cs,w'.heap[b]?=some (.cells cs 26))/\(∀ i u,(l.reverse.flatMap trCells)[i]?=some u->w'.cell? ⟨b,o+i,none⟩=some u)/\(∀ x,x < o∨o+l.length*4<=x->w'.cell? ⟨b,x,none⟩=w.cell? ⟨b,x,none⟩)/\∀ N w0,Below N w0 w->N<=b->N<=w.heap.size->Below N w0 w':=by
 have hk:∀ x,(trE x).length=4:=fun _=>rfl
 have hfl:=flat_fm (by decide) hk (l.map trD)
 have hfr:=flat_fm (by decide) hk (l.map trD).reverse
 rw [trE_D] at hfl
 rw [<- List.map_reverse,trE_D] at hfr
 have hH:HoldsK trE 4 w b o (l.map trD).toArray:=by
  unfold HoldsK
  rw [hfl]
  intro j hj
  have hj':j < (l.flatMap trCells).length:=by simpa using hj
  refine ⟨?_,by simp [World.frozen?,hb]⟩
  rw [hc j _ (List.getElem?_eq_getElem hj'),getElem!_pos _ j hj]
  rfl
 have hcall:=AnyQ.slices_Reverse rev_laysT 4 (fun _=>by kernel_rfl) (fun _=>by kernel_rfl) trE hk (fun x v hv=>by simp [trE] at hv;rcases hv with rfl | rfl | rfl | rfl<;>rfl) b o c (l.map trD).toArray w hH (by simp;omega)
 change Calls Tryz.prog 93 _ _ _ at hcall
 simp only [List.reverse_toArray,List.size_toArray,List.length_map] at hcall
 refine hcall.mono ?_
 rintro e w' ⟨rfl,n,rfl⟩
 unfold putRowK
 rw [<- List.map_reverse,hfr]
 have hsz:((l.reverse.flatMap trCells).toArray).size=l.length*4:=by
  rw [List.size_toArray,fm_len (k:=4) (fun _=>rfl),List.length_reverse]
 refine ⟨rfl,put_size _ _ _ _ _,fun j hj=>heap_putO_ne hj,⟨_,heap_putO hb⟩,fun i u hu=>?_,fun x hx=>put_out hb x (by rw [hsz];exact hx),fun N w0 h1 h2 h3=>put_below h1 h2 h3⟩
 have hi:i < (l.reverse.flatMap trCells).length:=(List.getElem?_eq_some_iff.1 hu).1
 have hi2:i < (l.flatMap trCells).length:=by rw [fm_len (k:=4) (fun _=>rfl)] at hi ⊢;simpa using hi
 have hcs:o+i < cs.size:=by
  have:=hc i _ (List.getElem?_eq_getElem hi2)
  rw [cQa hb] at this
  exact (Array.getElem?_eq_some_iff.1 this).1
 rw [put_in hb i (by simpa using hi) hcs,List.getElem?_toArray,hu]
theorem rev_treen (ao:Option Addr)(c:Nat)(w:World):Calls Tryz.prog 93 #[.slice ao 0 c] w fun e w'=>e=.returned (.tuple #[])/\w'=w:=by
 go_enter Tryz.func93,Tryz.ntmps93
 go_wp2
 go_loopw [2,3] (fun i j wr=>i=.int .i64 0/\j=.int .i64 (-1)/\wr=w) (fun _ _ _=>0)
 case atStart=>exact ⟨rfl,rfl,rfl⟩
 case round =>
  obtain ⟨rfl,rfl,rfl⟩:=hrel
  go_wp2
  go_end0
  exact ⟨rfl,rfl⟩
theorem infoTokC:∃ i,Tryz.prog.info? 23=some i/\i.zero=some (.agg #[.int .i64 0,.string ByteArray.empty])/\i.size=2/\i.bytes=24:=by
 have h:(Tryz.prog.info? 23).map (fun i=>(i.zero,i.size,i.bytes))=some (some (.agg #[.int .i64 0,.string ByteArray.empty]),2,24):=by kernel_rfl
 cases e:Tryz.prog.info? 23 with
 | none=>rw [e] at h;cases h
 | some i =>
  rw [e] at h
  simp at h
  exact ⟨i,rfl,h.1,h.2.1,h.2.2⟩
set_option maxRecDepth 100000 in
set_option maxHeartbeats 1000000 in
theorem clone_tok (ao:Option Addr)(n c:Nat)(news:List Value)(w:World)(hl:news.length=n*2)(hn:n<=1048576)(hc:news≠[]->∃ b off,ao=some ⟨b,off,none⟩/\b < w.heap.size/\∀ j u,news[j]?=some u->w.cell? ⟨b,off+j,none⟩=some u)(h1:∀ u∈news,u.oneCell'=true) :
  Calls Tryz.prog 114 #[.slice ao n c] w fun e w'=>∃ a' c',e=.returned (.slice a' n c')/\(n≠0->∃ b,a'=some ⟨b,0,none⟩/\w.heap.size<=b/\RB w' b 23 news c' 2)/\n<=c'/\Below w.heap.size w w':=by
 have hne:=fun wx a n c=>Lib.run_eql_slice_nil (P:=Tryz.prog) (w:=wx) 52 23 a n c 0 0 Tryz.underlying52
 have HH:Hid (∀ u∈news,u.oneCell'=true):=h1
 cases ao with
 | none =>
  have h0:n=0:=by
   by_cases e:news=[]
   ·subst e;simp at hl;omega
   ·obtain ⟨b,off,e',_⟩:=hc e
    cases e'
  subst h0
  clear hc h1
  go_enter Tryz.func114,Tryz.ntmps114
  go_wp2
  go_ret
  exact ⟨none,0,rfl,fun e=>absurd rfl e,Nat.le_refl _,Below.refl _ _⟩
 | some ad =>
  have hcc:Hid (∀ j u,news[j]?=some u->(w.alloc (.cells #[] 23)).cell? (ad.add j)=some u):=fun j u hu=>by
   obtain ⟨b,off,e,hb,hcell⟩:=hc (fun e=>by subst e;simp at hu)
   cases e
   rw [aNn]
   exact ((bAl w _).cell (p:=⟨b,off+j,none⟩) hb).trans (hcell j u hu)
  obtain ⟨i0,hi,hz0,hz1,hz2⟩:=infoTokC
  clear hc h1
  go_enter Tryz.func114,Tryz.ntmps114
  go_wp2_with (at_builtin;refine wpList_append_own_at _ rfl _ _ 52 rfl w.heap.size 23 i0 _ 2 24 Tryz.underlying52 hi hz0 hz1 hz2 rfl (by decide) _ 0 [] rfl (World.ownsRow_made w #[] 0 (Nat.le_refl _) (Nat.zero_le _) rfl) ad n c news rfl hl hcc.out HH.out (by unfold maxLen;omega) (by omega) (by simp) ?_)
  intro v' w1 hown hgrow hnil _
  go_wp2
  go_ret
  obtain ⟨g,cap,rfl⟩:∃ g cap,v'=.slice (some ⟨g,0,none⟩) n cap:=by
   rcases hown.2 with ⟨e,_⟩ | ⟨g,cap,cur,e,_⟩
   ·exact absurd e hnil
   ·exact ⟨g,cap,by simpa using e⟩
  have hown':w1.ownsRow w.heap.size 23 2 (.slice (some ⟨g,0,none⟩) n cap) n news:=by simpa using hown
  obtain ⟨hr,hb,hcap⟩:=RB.of_own hown'
  exact ⟨_,cap,rfl,fun _=>⟨g,rfl,hb,hr⟩,hcap,(bAl w _).grown hgrow (by simp) (fun k e=>by simp [Value.ownBlock] at e;omega)⟩
def tqC (q:Int×ByteArray):List Value:=[.int .i64 q.1,.string q.2]
theorem putCells_id {α:Type}[Inhabited α](enc:α->Value)(o:Nat)(d:Array α)(c:Array Value):putCells enc o d c=putCells id o (d.map enc) c:=by
 unfold putCells
 apply Array.ext
 ·simp
 ·intro i h1 h2
  simp only [Array.getElem_mapIdx,Array.size_map]
  by_cases h:o<=i/\i < o+d.size
  ·rw [if_pos h,if_pos h,getElem!_pos d (i - o) (by omega),getElem!_pos (d.map enc) (i - o) (by simp;omega)]
   simp
  ·rw [if_neg h,if_neg h]
def revRenK:Ren:=⟨fun _=>115,fun x=>if x=22 then 52 else if x=23 then 23 else x,fun x=>x⟩
theorem rev_laysK:SlLaysE0.n35 Tryz.prog revRenK:={
 mixed:=by kernel_rfl
 f35:=⟨Tryz.f115.name,by decide,by kernel_rfl⟩
 t0:=by kernel_rfl
 a0:=fun _=>by kernel_rfl
 z0:=fun _=>by kernel_rfl
 v0:=fun _=>by kernel_rfl
 t3:=by kernel_rfl
 a3:=fun _=>by kernel_rfl
 z3:=fun _=>by kernel_rfl
 v3:=fun _=>by kernel_rfl
 t4:=by kernel_rfl
 a4:=fun _=>by kernel_rfl
 z4:=fun _=>by kernel_rfl
 v4:=fun _=>by kernel_rfl
 t22:=by kernel_rfl
 a22:=fun _=>by kernel_rfl
 z22:=fun _=>by kernel_rfl
 v22:=fun _=>by kernel_rfl }
def revRenI:Ren:=⟨fun _=>113,fun x=>if x=22 then 55 else if x=23 then 3 else x,fun x=>x⟩
theorem rev_laysI:SlLaysN.n35 Tryz.prog revRenI:={
 mixed:=by kernel_rfl
 f35:=⟨Tryz.f113.name,by decide,by kernel_rfl⟩
 t0:=by kernel_rfl
 a0:=fun _=>by kernel_rfl
 z0:=fun _=>by kernel_rfl
 v0:=fun _=>by kernel_rfl
 t3:=by kernel_rfl
 a3:=fun _=>by kernel_rfl
 z3:=fun _=>by kernel_rfl
 v3:=fun _=>by kernel_rfl
 t4:=by kernel_rfl
 a4:=fun _=>by kernel_rfl
 z4:=fun _=>by kernel_rfl
 v4:=fun _=>by kernel_rfl
 t22:=by kernel_rfl
 a22:=fun _=>by kernel_rfl
 z22:=fun _=>by kernel_rfl
 v22:=fun _=>by kernel_rfl
 t23:=by kernel_rfl
 a23:=fun _=>by kernel_rfl
 z23:=fun _=>by kernel_rfl
 v23:=fun _=>by kernel_rfl }
theorem rev_tok {C:Nat}(b c:Nat)(r:List (Int×ByteArray))(w:World)(hr:r.length<=1048576)(h:RB w b 23 (r.flatMap tqC) C 2) :
  Calls Tryz.prog 115 #[.slice (some ⟨b,0,none⟩) r.length c] w fun e w'=>e=.returned (.tuple #[])/\RB w' b 23 (r.reverse.flatMap tqC) C 2/\Turned w w' b:=by
 have hk:∀ x,(tqC x).length=2:=fun _=>rfl
 have hfl:=flat_fm (by decide) hk r
 have hfr:=flat_fm (by decide) hk r.reverse
 have hH:HoldsK tqC 2 w b 0 r.toArray:=by
  unfold HoldsK
  rw [hfl]
  exact h.holds
 have hc:=AnyQ.slices_Reverse rev_laysK 2 (fun _=>by kernel_rfl) (fun _=>by kernel_rfl) tqC hk (fun x v hv=>by simp [tqC] at hv;rcases hv with rfl | rfl<;>rfl) b 0 c r.toArray w hH (by simp;omega)
 change Calls Tryz.prog 115 _ _ _ at hc
 simp only [List.reverse_toArray,List.size_toArray] at hc
 refine hc.mono ?_
 rintro e w' ⟨rfl,n,rfl⟩
 refine ⟨rfl,?_,?_⟩
 ·unfold putRowK
  rw [hfr]
  exact h.put n (by rw [fm_len hk,fm_len hk,List.length_reverse])
 ·exact turned_put w b n _
theorem rev_int8 {C:Nat}(b c:Nat)(r:List Int)(w:World)(hr:r.length<=1048576)(h:RB w b 3 (r.flatMap inC8) C 1) :
  Calls Tryz.prog 113 #[.slice (some ⟨b,0,none⟩) r.length c] w fun e w'=>e=.returned (.tuple #[])/\RB w' b 3 (r.reverse.flatMap inC8) C 1/\Turned w w' b:=by
 have em:∀ l:List Int,l.flatMap inC8=l.map (Value.int .i64):=fun l=>by
  induction l with
  | nil=>rfl
  | cons x l ih=>rw [List.flatMap_cons,ih];rfl
 have hH:Holds (Value.int .i64) w b 0 r.toArray:=fun j hj=>by
  have hj':j < r.length:=by simpa using hj
  refine ⟨?_,h.free _⟩
  rw [em] at h
  rw [Nat.zero_add,h.cell (i:=j) (u:=.int .i64 r[j]) (by simp [hj']),getElem!_pos r.toArray j hj]
  simp
 have hc:=AnyG.slices_Reverse_int rev_laysI b 0 c r w hH (by omega)
 change Calls Tryz.prog 113 _ _ _ at hc
 refine hc.mono ?_
 rintro e w' ⟨rfl,n,rfl⟩
 have e2:putRow (Value.int .i64) (Sort.ahead w n) b 0 r.reverse.toArray=putRow id (Sort.ahead w n) b 0 (r.reverse.map (Value.int .i64)).toArray:=by
  unfold putRow
  have:putCells (Value.int .i64) 0 r.reverse.toArray=putCells id 0 (r.reverse.map (Value.int .i64)).toArray:=by
   funext c
   rw [putCells_id]
   simp
  rw [this]
 rw [e2,<- em]
 exact ⟨rfl,h.put n (by rw [fm_len (k:=1) (fun _=>rfl),fm_len (k:=1) (fun _=>rfl),List.length_reverse]),turned_put w b n _⟩
theorem rev_tokn (ao:Option Addr)(c:Nat)(w:World):Calls Tryz.prog 115 #[.slice ao 0 c] w fun e w'=>e=.returned (.tuple #[])/\w'=w:=by
 go_enter Tryz.func115,Tryz.ntmps115
 go_wp2
 go_loopw [2,3] (fun i j wr=>i=.int .i64 0/\j=.int .i64 (-1)/\wr=w) (fun _ _ _=>0)
 case atStart=>exact ⟨rfl,rfl,rfl⟩
 case round =>
  obtain ⟨rfl,rfl,rfl⟩:=hrel
  go_wp2
  go_end0
  exact ⟨rfl,rfl⟩
theorem rev_intn (ao:Option Addr)(c:Nat)(w:World):Calls Tryz.prog 113 #[.slice ao 0 c] w fun e w'=>e=.returned (.tuple #[])/\w'=w:=by
 go_enter Tryz.func113,Tryz.ntmps113
 go_wp2
 go_loopw [2,3] (fun i j wr=>i=.int .i64 0/\j=.int .i64 (-1)/\wr=w) (fun _ _ _=>0)
 case atStart=>exact ⟨rfl,rfl,rfl⟩
 case round =>
  obtain ⟨rfl,rfl,rfl⟩:=hrel
  go_wp2
  go_end0
  exact ⟨rfl,rfl⟩
set_option maxRecDepth 100000 in
set_option maxHeartbeats 2000000 in
theorem turned_int (ao:Option Addr)(c:Nat)(l:List Int)(w:World)(h:InRow w ao l)(hl:l.length<=1048576):Calls Tryz.prog 90 #[.slice ao l.length c] w fun e w'=>∃ a' c',e=.returned (.slice a' l.length c')/\InRow w' a' l.reverse/\Below w.heap.size w w':=by
 have CC:Hid (Calls Tryz.prog 112 #[.slice ao l.length c] w fun e w'=>∃ a' c',e=.returned (.slice a' l.length c')/\(l.length≠0->∃ b,a'=some ⟨b,0,none⟩/\w.heap.size<=b/\RB w' b 3 (l.flatMap inC8) c' 1)/\l.length<=c'/\Below w.heap.size w w'):=by
  refine clone_int ao l.length c (l.flatMap inC8) w (fm_len (k:=1) (fun _=>rfl) l) hl (fun hne=>?_) (fun u hu=>?_)
  ·have hln:l≠[]:=fun e=>by rw [e] at hne;exact hne rfl
   obtain ⟨b,off,e,hb,hc⟩:=h hln
   refine ⟨b,off,e,hb,fun j u hu=>?_⟩
   have hj:j < l.length*1:=by
    have:=(List.getElem?_eq_some_iff.1 hu).1
    rwa [fm_len (k:=1) (fun _=>rfl)] at this
   have hi:j / 1 < l.length:=by omega
   have q:=fm_get (f:=inC8) (k:=1) (fun _=>rfl) l (j / 1) hi (j % 1) (by omega)
   rw [show j / 1*1+j % 1=j by omega,hu] at q
   have hd:l.getD (j / 1) 0=l[j / 1]:=by simp only [List.getD,List.getElem?_eq_getElem hi,Option.getD_some]
   have h1:=hc (j / 1) hi
   rw [hd] at h1
   have e1:j / 1=j:=Nat.div_one j
   have e2:j % 1=0:=Nat.mod_one j
   simp only [e1,e2,inC8,List.getElem?_cons_zero] at q h1
   rw [h1,<- q]
  ·obtain ⟨x,_,hx⟩:=List.mem_flatMap.1 hu
   simp [inC8] at hx
   first | (rcases hx with rfl | rfl<;>rfl) | (subst hx;rfl)
 by_cases h0:l=[]
 ·subst h0
  clear h
  have CN:Hid (∀ (ao:Option Addr) (c:Nat) (w:World),Calls Tryz.prog 113 #[.slice ao 0 c] w fun e w'=>e=.returned (.tuple #[])/\w'=w):=rev_intn
  simp only [List.length_nil] at *
  go_enter Tryz.func90,Tryz.ntmps90
  go_wp2_with (first | (go_at_call 112;refine CC.out.mono ?_;rintro e w1 ⟨a',c',rfl,-,-,b1⟩;have B1:Hid (Below w.heap.size w w1):=b1;clear b1) | (go_at_call 113;refine (CN.out a' c' w1).mono ?_;rintro e w2 ⟨rfl,q⟩;obtain rfl:=q.symm))
  refine bodyPost_ret (v:=.slice a' 0 c') (by simp [results,Tryz.results90,go_sem]) rfl ?_
  exact ⟨a',c',rfl,(fun e=>absurd rfl e),B1.out⟩
 ·have hlen:l.length≠0:=fun e=>h0 (List.eq_nil_of_length_eq_zero e)
  have CR:Hid (∀ (b c:Nat) (w1:World),RB w1 b 3 (l.flatMap inC8) c 1->w.heap.size<=b->Below w.heap.size w w1->Calls Tryz.prog 113 #[.slice (some ⟨b,0,none⟩) l.length c] w1 fun e w'=>e=.returned (.tuple #[])/\RB w' b 3 (l.reverse.flatMap inC8) c 1/\Below w.heap.size w w'):=fun b c w1 hr hb hB=>(rev_int8 b c l w1 (by omega) hr).mono fun e w' ⟨e1,e2,e3⟩=>⟨e1,e2,hB.trans (e3.bel _ hB.size hb)⟩
  clear h
  go_enter Tryz.func90,Tryz.ntmps90
  go_wp2_with (first | (go_at_call 112;refine CC.out.mono ?_;rintro e w1 ⟨a',c',rfl,h1,-,b1⟩;obtain ⟨b,rfl,hb,hr⟩:=h1 hlen;have B1:Hid (Below w.heap.size w w1/\w.heap.size<=b/\RB w1 b 3 (l.flatMap inC8) c' 1):=⟨b1,hb,hr⟩;clear b1 h1 hb hr) | (go_at_call 113;refine (CR.out b c' w1 B1.out.2.2 B1.out.2.1 B1.out.1).mono ?_;rintro e w2 ⟨rfl,h2,b2⟩;have B2:Hid (RB w2 b 3 (l.reverse.flatMap inC8) c' 1/\Below w.heap.size w w2):=⟨h2,b2⟩;clear h2 b2))
  refine bodyPost_ret (v:=.slice (some ⟨b,0,none⟩) l.length c') (by simp [results,Tryz.results90,go_sem]) rfl ?_
  refine ⟨_,c',rfl,fun hne=>⟨b,0,rfl,B2.out.1.lt,fun i hi=>?_⟩,B2.out.2⟩
  have hg:=fm_get (f:=inC8) (k:=1) (fun _=>rfl) l.reverse i hi
  have hd:l.reverse.getD i 0=l.reverse[i]:=by simp only [List.getD,List.getElem?_eq_getElem hi,Option.getD_some]
  rw [hd]
  have h0':=hg 0 (by omega)
  simp only [Nat.mul_one,Nat.add_zero,inC8,List.getElem?_cons_zero] at h0'
  rw [Nat.zero_add,B2.out.1.cell h0']
set_option maxRecDepth 100000 in
set_option maxHeartbeats 2000000 in
theorem turned_tok (ao:Option Addr)(c:Nat)(l:List (Int×ByteArray))(w:World)(h:TkRow w ao l)(hl:l.length<=1048576):Calls Tryz.prog 91 #[.slice ao l.length c] w fun e w'=>∃ a' c',e=.returned (.slice a' l.length c')/\TkRow w' a' l.reverse/\Below w.heap.size w w':=by
 have CC:Hid (Calls Tryz.prog 114 #[.slice ao l.length c] w fun e w'=>∃ a' c',e=.returned (.slice a' l.length c')/\(l.length≠0->∃ b,a'=some ⟨b,0,none⟩/\w.heap.size<=b/\RB w' b 23 (l.flatMap tqC) c' 2)/\l.length<=c'/\Below w.heap.size w w'):=by
  refine clone_tok ao l.length c (l.flatMap tqC) w (fm_len (k:=2) (fun _=>rfl) l) hl (fun hne=>?_) (fun u hu=>?_)
  ·have hln:l≠[]:=fun e=>by rw [e] at hne;exact hne rfl
   obtain ⟨b,off,e,hb,hc⟩:=h hln
   refine ⟨b,off,e,hb,fun j u hu=>?_⟩
   have hj:j < l.length*2:=by
    have:=(List.getElem?_eq_some_iff.1 hu).1
    rwa [fm_len (k:=2) (fun _=>rfl)] at this
   have hi:j / 2 < l.length:=by omega
   have q:=fm_get (f:=tqC) (k:=2) (fun _=>rfl) l (j / 2) hi (j % 2) (by omega)
   rw [show j / 2*2+j % 2=j by omega,hu] at q
   have hd:l.getD (j / 2) (0,ByteArray.empty)=l[j / 2]:=by simp only [List.getD,List.getElem?_eq_getElem hi,Option.getD_some]
   have h1:=hc (j / 2) hi
   rw [hd] at h1
   rcases (show j % 2=0∨j % 2=1 by omega) with e | e
   ·rw [e] at q
    simp only [tqC,List.getElem?_cons_zero] at q
    rw [show off+j=off+j / 2*2 by omega,h1.1,<- q]
   ·rw [e] at q
    simp only [tqC,List.getElem?_cons_zero,List.getElem?_cons_succ] at q
    rw [show off+j=off+j / 2*2+1 by omega,h1.2,<- q]
  ·obtain ⟨x,_,hx⟩:=List.mem_flatMap.1 hu
   simp [tqC] at hx
   first | (rcases hx with rfl | rfl<;>rfl) | (subst hx;rfl)
 by_cases h0:l=[]
 ·subst h0
  clear h
  have CN:Hid (∀ (ao:Option Addr) (c:Nat) (w:World),Calls Tryz.prog 115 #[.slice ao 0 c] w fun e w'=>e=.returned (.tuple #[])/\w'=w):=rev_tokn
  simp only [List.length_nil] at *
  go_enter Tryz.func91,Tryz.ntmps91
  go_wp2_with (first | (go_at_call 114;refine CC.out.mono ?_;rintro e w1 ⟨a',c',rfl,-,-,b1⟩;have B1:Hid (Below w.heap.size w w1):=b1;clear b1) | (go_at_call 115;refine (CN.out a' c' w1).mono ?_;rintro e w2 ⟨rfl,q⟩;obtain rfl:=q.symm))
  refine bodyPost_ret (v:=.slice a' 0 c') (by simp [results,Tryz.results91,go_sem]) rfl ?_
  exact ⟨a',c',rfl,(fun e=>absurd rfl e),B1.out⟩
 ·have hlen:l.length≠0:=fun e=>h0 (List.eq_nil_of_length_eq_zero e)
  have CR:Hid (∀ (b c:Nat) (w1:World),RB w1 b 23 (l.flatMap tqC) c 2->w.heap.size<=b->Below w.heap.size w w1->Calls Tryz.prog 115 #[.slice (some ⟨b,0,none⟩) l.length c] w1 fun e w'=>e=.returned (.tuple #[])/\RB w' b 23 (l.reverse.flatMap tqC) c 2/\Below w.heap.size w w'):=fun b c w1 hr hb hB=>(rev_tok b c l w1 (by omega) hr).mono fun e w' ⟨e1,e2,e3⟩=>⟨e1,e2,hB.trans (e3.bel _ hB.size hb)⟩
  clear h
  go_enter Tryz.func91,Tryz.ntmps91
  go_wp2_with (first | (go_at_call 114;refine CC.out.mono ?_;rintro e w1 ⟨a',c',rfl,h1,-,b1⟩;obtain ⟨b,rfl,hb,hr⟩:=h1 hlen;have B1:Hid (Below w.heap.size w w1/\w.heap.size<=b/\RB w1 b 23 (l.flatMap tqC) c' 2):=⟨b1,hb,hr⟩;clear b1 h1 hb hr) | (go_at_call 115;refine (CR.out b c' w1 B1.out.2.2 B1.out.2.1 B1.out.1).mono ?_;rintro e w2 ⟨rfl,h2,b2⟩;have B2:Hid (RB w2 b 23 (l.reverse.flatMap tqC) c' 2/\Below w.heap.size w w2):=⟨h2,b2⟩;clear h2 b2))
  refine bodyPost_ret (v:=.slice (some ⟨b,0,none⟩) l.length c') (by simp [results,Tryz.results91,go_sem]) rfl ?_
  refine ⟨_,c',rfl,fun hne=>⟨b,0,rfl,B2.out.1.lt,fun i hi=>?_⟩,B2.out.2⟩
  have hg:=fm_get (f:=tqC) (k:=2) (fun _=>rfl) l.reverse i hi
  have hd:l.reverse.getD i (0,ByteArray.empty)=l.reverse[i]:=by simp only [List.getD,List.getElem?_eq_getElem hi,Option.getD_some]
  rw [hd]
  have h0':=hg 0 (by omega)
  have h1':=hg 1 (by omega)
  simp only [Nat.add_zero,tqC,List.getElem?_cons_zero,List.getElem?_cons_succ] at h0' h1'
  rw [Nat.zero_add,B2.out.1.cell h0',B2.out.1.cell h1']
  exact ⟨rfl,rfl⟩
end Go.Proofs.YteciabdjkaackaaGreat
