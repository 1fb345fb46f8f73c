import Derived.Test.YthaamdognbncnaaGreatDoorPTM26ToTM28
import Derived.Maps.OwnOps
import Derived.DeepKeys5
namespace Go.Proofs.YthaamdognbncnaaGreatDoor
set_option linter.unusedVariables false
set_option maxRecDepth 100000
set_option maxHeartbeats 16000000
open Go.RowKit Go.Shelf Go.Maps
theorem symLaw:Keyed Tryz.prog 62:=Keyed.of_law (deep_law_gate glaid (of_decide_eq_true (by kernel_rfl)) (of_decide_eq_true (by kernel_rfl)) (by kernel_rfl) (by kernel_rfl))
theorem kindLaw:Keyed Tryz.prog 60:=int_keyed Tryz.underlying60
theorem symCells_of:Tryz.prog.cellsOf 62=2:=by kernel_rfl
theorem kindCells_of:Tryz.prog.cellsOf 60=1:=by kernel_rfl
theorem intCells_of:Tryz.prog.cellsOf 3=1:=by kernel_rfl
theorem symKeyType:Tryz.prog.keyType 62=true:=by kernel_rfl
theorem types_succ:∃ m,Tryz.prog.types.size=m+1+1:=by
 have h:2<=Tryz.prog.types.size:=of_decide_eq_true (by kernel_rfl)
 exact ⟨Tryz.prog.types.size - 2,by omega⟩
def kS (d n:Int):Lit:=.string (keyBytes [.int .i64 d,.int .i64 n])
theorem symKey {d n:Int}(hd:(Lit.int .i64 d).wf=true)(hn:(Lit.int .i64 n).wf=true):keyOf Tryz.prog 62 (.agg #[.int .i64 d,.int .i64 n])=some (kS d n):=by
 have e:Tryz.prog.keyLits (Tryz.prog.types.size+1) 62 [.int .i64 d,.int .i64 n]=some [.int .i64 d,.int .i64 n]:=by
  obtain ⟨m,hm⟩:=types_succ
  rw [hm]
  unfold Program.keyLits
  rw [Tryz.underlying62]
  simp [Program.keyLits,Tryz.underlying60,Tryz.underlying3,symCells_of,kindCells_of,intCells_of,hd,hn]
 unfold keyOf
 rw [Tryz.underlying62]
 simp only
 rw [if_pos (by rw [symKeyType];simp [Value.formed,Tryz.underlying62,symCells_of])]
 show Option.map _ (Tryz.prog.keyLits (Tryz.prog.types.size+1) 62 [.int .i64 d,.int .i64 n])=_
 rw [e]
 rfl
theorem kS_inj {d n d' n':Int}(hd:(Lit.int .i64 d).wf=true)(hn:(Lit.int .i64 n).wf=true)(hd':(Lit.int .i64 d').wf=true)(hn':(Lit.int .i64 n').wf=true)(h:kS d n=kS d' n'):d=d'/\n=n':=by
 have:=symLaw.inj (symKey hd hn) (by rw [h];exact symKey hd' hn')
 simpa using this
theorem kindKey {d:Int}(hd:(Lit.int .i64 d).wf=true):keyOf Tryz.prog 60 (.int .i64 d)=some (.int .i64 d):=by
 unfold keyOf
 rw [Tryz.underlying60]
 simp only
 simp [mapKey,Tryz.underlying60,hd]
theorem wf_small {n:Int}(h0:-1<=n)(h1:n<=140737488355328):(Lit.int .i64 n).wf=true:=by
 have e1:IntKind.i64.min=-9223372036854775808:=by decide
 have e2:IntKind.i64.max=9223372036854775807:=by decide
 simp [Lit.wf]
 omega
theorem zeroInt7 (w:World):(zeroValue 3).run Tryz.prog w=.ok (.int .i64 0) w:=by kernel_rfl
def wfI (n:Int):Prop:=(Lit.int .i64 n).wf=true
structure SMp (D:DataW Unit)(f:Int×Int->Option Int):Prop where
 im:IsMap D
 at_:∀ d n,wfI d->wfI n->D.atKey (kS d n) (.lit (.int .i64 0))=.lit (.int .i64 ((f (d,n)).getD 0))
 has_:∀ d n,wfI d->wfI n->has D (kS d n)=(f (d,n)).isSome
theorem SMp.empty:SMp (.map []) (fun _=>none):=⟨isMap_empty,fun _ _ _ _=>rfl,fun _ _ _ _=>rfl⟩
theorem SMp.put {D:DataW Unit}{f:Int×Int->Option Int}(h:SMp D f){d n:Int}(hd:wfI d)(hn:wfI n)(x:Int):SMp (D.put (kS d n) (.lit (.int .i64 x))) (fun s=>if s=(d,n) then some x else f s):=by
 have hk:WideAt.IsKeyLit (kS d n):=symLaw.key (symKey hd hn)
 refine ⟨h.im.put _ _,fun d' n' hd' hn'=>?_,fun d' n' hd' hn'=>?_⟩
 ·by_cases e:(d',n')=(d,n)
  ·simp only [Prod.mk.injEq] at e
   obtain ⟨rfl,rfl⟩:=e
   rw [atKey_put_same h.im hk,if_pos rfl]
   rfl
  ·rw [atKey_put_other (fun q=>e (by obtain ⟨a,b⟩:=kS_inj hd' hn' hd hn q;rw [a,b])),if_neg e]
   exact h.at_ d' n' hd' hn'
 ·by_cases e:(d',n')=(d,n)
  ·simp only [Prod.mk.injEq] at e
   obtain ⟨rfl,rfl⟩:=e
   rw [has_put_same h.im hk,if_pos rfl]
   rfl
  ·rw [has_put_other (fun q=>e (by obtain ⟨a,b⟩:=kS_inj hd' hn' hd hn q;rw [a,b])),if_neg e]
   exact h.has_ d' n' hd' hn'
structure KMp (D:DataW Unit)(f:Int->Int):Prop where
 im:IsMap D
 at_:∀ d,wfI d->D.atKey (.int .i64 d) (.lit (.int .i64 0))=.lit (.int .i64 (f d))
theorem KMp.empty:KMp (.map []) (fun _=>0):=⟨isMap_empty,fun _ _=>rfl⟩
theorem KMp.put {D:DataW Unit}{f:Int->Int}(h:KMp D f){d:Int}(hd:wfI d)(x:Int):KMp (D.put (.int .i64 d) (.lit (.int .i64 x))) (fun s=>if s=d then x else f s):=by
 have hk:WideAt.IsKeyLit (.int .i64 d):=kindLaw.key (kindKey hd)
 refine ⟨h.im.put _ _,fun d' hd'=>?_⟩
 by_cases e:d'=d
 ·subst e
  rw [atKey_put_same h.im hk,if_pos rfl]
 ·rw [atKey_put_other (fun q=>e (by simpa using q)),if_neg e]
  exact h.at_ d' hd'
def nuStep (T N:List Bool)(a:(Int×Int->Option Int)×(Int->Int))(s:Int×Int):(Int×Int->Option Int)×(Int->Int) :=
 if mkY T N s=true then (fun t=>if t=s then some (a.2 s.1) else a.1 t,fun d=>if d=s.1 then a.2 s.1+1 else a.2 d) else a
def nuF (T N:List Bool)(l:List (Int×Int)):(Int×Int->Option Int)×(Int->Int):=l.foldl (nuStep T N) (fun _=>none,fun _=>0)
theorem nuF_take {T N:List Bool}{L:List (Int×Int)}{k:Nat}(hk:k < L.length):nuF T N (L.take (k+1))=nuStep T N (nuF T N (L.take k)) (L.getD k (0,0)):=by
 have e:L.take (k+1)=L.take k++[L.getD k (0,0)]:=by
  rw [List.take_add_one,List.getElem?_eq_getElem hk,List.getD_eq_getElem?_getD,List.getElem?_eq_getElem hk]
  rfl
 unfold nuF
 rw [e,List.foldl_append]
 rfl
theorem nuF_bd (T N:List Bool):∀ (l:List (Int×Int)) (a:(Int×Int->Option Int)×(Int->Int)) (m:Int),(∀ d,0<=a.2 d/\a.2 d<=m)->∀ d,0<=(l.foldl (nuStep T N) a).2 d/\(l.foldl (nuStep T N) a).2 d<=m+l.length
 | [],a,m,h,d=>by simpa using h d
 | s :: l,a,m,h,d=>by
  have:=nuF_bd T N l (nuStep T N a s) (m+1) (fun d=>by
   unfold nuStep
   split
   ·simp only
    split
    ·have:=h s.1;omega
    ·have:=h d;omega
   ·have:=h d;omega) d
  rw [List.foldl_cons,List.length_cons]
  omega
theorem nuF_small (T N:List Bool)(L:List (Int×Int))(k:Nat)(d:Int):0<=(nuF T N (L.take k)).2 d/\(nuF T N (L.take k)).2 d<=L.length:=by
 have:=nuF_bd T N (L.take k) (fun _=>none,fun _=>0) 0 (fun _=>⟨Int.le_refl 0,Int.le_refl 0⟩) d
 rw [List.length_take] at this
 unfold nuF
 omega
theorem below_grown7 {w w':World}(h:Below w.heap.size w w')(row:Option Nat):w.grownBy w' row:=⟨h.os,h.tape,h.output,h.size,fun k hk _=>h.block k hk⟩
theorem grown_frB {w w':World}{b:Nat}(h:w.grownBy w' (some b)):FrB (·=b) w w':=⟨h.os,h.tape,h.output,h.size,fun k hk hx=>h.block k hk (fun e=>hx (by simpa using e))⟩
noncomputable abbrev rI:Value->Option (DataW Unit×List MemPlace):=plainElem Tryz.prog 3
structure NI (T N:List Bool)(L:List (Int×Int))(mb kb:Nat)(w3:World)(k:Nat)(wr:World):Prop where
 fr:FrB (fun j=>j=mb∨j=kb) w3 wr
 om:∃ D n,n<=k/\wr.ownsMap Tryz.prog 62 rI mb n D/\SMp D (nuF T N (L.take k)).1
 ok:∃ D n,n<=k/\wr.ownsMap Tryz.prog 60 rI kb n D/\KMp D (nuF T N (L.take k)).2
theorem NI.skip {T N:List Bool}{L:List (Int×Int)}{mb kb k:Nat}{w3 wr w4:World}(h:NI T N L mb kb w3 k wr)(hb:Below wr.heap.size wr w4)(hk:k < L.length)(hm:mkY T N (L.getD k (0,0))=false):NI T N L mb kb w3 (k+1) w4:=by
 obtain ⟨D,n,h1,h2,h3⟩:=h.om
 obtain ⟨E,m,h4,h5,h6⟩:=h.ok
 have e:nuF T N (L.take (k+1))=nuF T N (L.take k):=by
  rw [nuF_take hk]
  unfold nuStep
  rw [if_neg (by rw [hm];decide)]
 exact ⟨h.fr.trans (Below.frB hb),⟨D,n,by omega,h2.kept (below_grown7 hb none) (by simp),by rw [e];exact h3⟩,⟨E,m,by omega,h5.kept (below_grown7 hb none) (by simp),by rw [e];exact h6⟩⟩
theorem numbered_P (g:GV)(w:World)(tb nb:Nat)(T N:List Bool)(hfg:FG w g)(hT:T.length=g.ts.length)(hN:N.length=g.ns.length)(bt:BB w tb T)(bn:BB w nb N) :
  Calls Tryz.prog 31 #[g.val,.agg #[.slice (some ⟨tb,0,none⟩) g.ts.length g.ts.length,.slice (some ⟨nb,0,none⟩) g.ns.length g.ns.length]] w fun e w'=>∃ mb D n,e=.returned (.map (some mb))/\w'.ownsMap Tryz.prog 62 rI mb n D/\SMp D (nuF T N (syD 1 g.ts.length++syD 2 g.ns.length)).1/\w.heap.size<=mb/\Below w.heap.size w w':=by
 obtain ⟨wa,hwa⟩:∃ wa:World,wa=(w.alloc (gBox g)).alloc (.cells #[.slice (some ⟨tb,0,none⟩) g.ts.length g.ts.length,.slice (some ⟨nb,0,none⟩) g.ns.length g.ns.length] 78):=⟨_,rfl⟩
 obtain ⟨wm,hwm⟩:∃ wm:World,wm=(wa.alloc (.map #[] 0)).alloc (.map #[] 0):=⟨_,rfl⟩
 have za:wa.heap.size=w.heap.size+1+1:=by rw [hwa];simp
 have ba:Below w.heap.size w wa:=by rw [hwa];exact (bAl w _).trans ((bAl _ _).mono (bAl w _).size)
 have bm:Below wa.heap.size wa wm:=by rw [hwm];exact (bAl wa _).trans ((bAl _ _).mono (bAl wa _).size)
 have X0:wa.heap[w.heap.size]?=some (gBox g):=by
  rw [hwa]
  exact ((bAl (w.alloc (gBox g)) _).block _ (by simp)).trans (heap_alloc_new _ _)
 have X1:wa.heap[w.heap.size+1]?=some (.cells #[.slice (some ⟨tb,0,none⟩) g.ts.length g.ts.length,.slice (some ⟨nb,0,none⟩) g.ns.length g.ns.length] 78):=by
  rw [hwa]
  have:=heap_alloc_new (w.alloc (gBox g)) (.cells #[.slice (some ⟨tb,0,none⟩) g.ts.length g.ts.length,.slice (some ⟨nb,0,none⟩) g.ns.length g.ns.length] 78)
  rwa [show (w.alloc (gBox g)).heap.size=w.heap.size+1 by simp] at this
 have O1:wm.ownsMap Tryz.prog 62 rI (w.heap.size+1+1) 0 (.map []):=by
  have:=(World.ownsMap_made wa Tryz.prog 62 rI).alloc (.map #[] 0)
  rw [<- hwm,za] at this
  exact this
 have O2:wm.ownsMap Tryz.prog 60 rI (w.heap.size+1+1+1) 0 (.map []):=by
  have:=World.ownsMap_made (wa.alloc (.map #[] 0)) Tryz.prog 60 rI
  rw [<- hwm,show (wa.alloc (.map #[] 0)).heap.size=w.heap.size+1+1+1 by simp [za]] at this
  exact this
 have XM:Hid (wm.heap[w.heap.size]?=some (gBox g)/\wm.heap[w.heap.size+1]?=some (.cells #[.slice (some ⟨tb,0,none⟩) g.ts.length g.ts.length,.slice (some ⟨nb,0,none⟩) g.ns.length g.ns.length] 78)/\BB wm tb T/\BB wm nb N/\Below w.heap.size w wm/\wm.ownsMap Tryz.prog 62 rI (w.heap.size+1+1) 0 (.map [])/\wm.ownsMap Tryz.prog 60 rI (w.heap.size+1+1+1) 0 (.map [])/\tb < w.heap.size/\nb < w.heap.size/\wm.heap.size=w.heap.size+1+1+1+1) :=
  ⟨(bm.block _ (lt_of_block X0)).trans X0,(bm.block _ (lt_of_block X1)).trans X1,(bt.later ba).later bm,(bn.later ba).later bm,ba.trans (bm.mono ba.size),O1,O2,bt.lt,bn.lt,by rw [hwm];simp [za]⟩
 have SO:Hid (∀ wq,Below w.heap.size w wq->Calls Tryz.prog 58 #[g.val] wq fun e w'=>∃ v,e=.returned v/\SY w' v (syD 1 g.ts.length++syD 2 g.ns.length)/\(∀ j,v.ownBlock=some j->wq.heap.size<=j)/\Below wq.heap.size wq w'):=fun wq hb=>(symbolsOf_P g wq (hfg.later hb)).mono fun e w' ⟨v,q1,q2,q3,q4⟩=>⟨v,q1,q2,q3,q4⟩
 have HLL:(syD 1 g.ts.length++syD 2 g.ns.length).length<=128:=by have:=hfg.tl.2;have:=hfg.nl.2;simp [syD];omega
 have HIN:Hid (∀ s∈syD 1 g.ts.length++syD 2 g.ns.length,(s.1=1/\0<=s.2/\s.2 < g.ts.length)∨(s.1=2/\0<=s.2/\s.2 < g.ns.length)):=fun s hs=>syD_in hs
 generalize syD 1 g.ts.length++syD 2 g.ns.length=L at *
 have htl:=hfg.tl.2
 have hnl:=hfg.nl.2
 have HTN:Hid (T.length=g.ts.length/\N.length=g.ns.length):=⟨hT,hN⟩
 obtain ⟨x0,x1,x2,x3,x4⟩:=gbc XM.out.1
 clear za ba bm X0 X1 O1 O2 hfg hT hN bt bn
 simp only [gBox] at hwa
 rw [hwa] at hwm
 clear hwa wa
 have hmm:=@run_makeMap Tryz.prog
 go_enter Tryz.func31,Tryz.ntmps31
 go_wp2_with (go_at_call 58;rw [<- hwm];refine (SO.out _ XM.out.2.2.2.2.1).mono ?_;rintro e w3 ⟨yv,rfl,y3,o3,b3⟩;obtain ⟨ya,yc,rfl⟩:=sy_lenP y3;have R3:Hid (SymRow w3 ya L/\Below w.heap.size w w3/\(∀ j,j<=w.heap.size+1->w3.heap[j]?=wm.heap[j]?)/\BB w3 tb T/\BB w3 nb N/\NI T N L (w.heap.size+1+1) (w.heap.size+1+1+1) w3 0 w3):=⟨y3.row,XM.out.2.2.2.2.1.trans (b3.mono XM.out.2.2.2.2.1.size),fun j hj=>b3.block j (by have:=XM.out.2.2.2.2.2.2.2.2.2;omega),XM.out.2.2.1.later b3,XM.out.2.2.2.1.later b3,⟨Below.frB (Below.refl _ _),⟨_,0,Nat.le_refl _,XM.out.2.2.2.2.2.1.kept (below_grown7 b3 none) (by simp),SMp.empty⟩,⟨_,0,Nat.le_refl _,XM.out.2.2.2.2.2.2.1.kept (below_grown7 b3 none) (by simp),KMp.empty⟩⟩⟩;have YB:Hid (∀ b o,ya=some ⟨b,o,none⟩->wm.heap.size<=b):=(fun b o e=>o3 b (by rw [e];rfl));clear y3 o3 b3 x0 x1 x2 x3 x4)
 clear hmm
 have HXM:Hid (tb < w.heap.size/\nb < w.heap.size/\wm.heap.size=w.heap.size+1+1+1+1/\wm.heap[w.heap.size+1]?=some (.cells #[.slice (some ⟨tb,0,none⟩) g.ts.length g.ts.length,.slice (some ⟨nb,0,none⟩) g.ns.length g.ns.length] 78)):=⟨XM.out.2.2.2.2.2.2.2.1,XM.out.2.2.2.2.2.2.2.2.1,XM.out.2.2.2.2.2.2.2.2.2,XM.out.2.1⟩
 have V3:Hid (w3.heap[w.heap.size+1]?=some (.cells #[.slice (some ⟨tb,0,none⟩) g.ts.length g.ts.length,.slice (some ⟨nb,0,none⟩) g.ns.length g.ns.length] 78)):=(R3.out.2.2.1 _ (by omega)).trans HXM.out.2.2.2
 clear XM SO hwm
 go_loopw [14] (fun i wr=>∃ k:Nat,k<=L.length/\i=.int .i64 k/\NI T N L (w.heap.size+1+1) (w.heap.size+1+1+1) w3 k wr) (fun i _=>L.length - (intOf i).toNat)
 case atStart=>exact ⟨0,Nat.zero_le _,rfl,R3.out.2.2.2.2.2⟩
 case round =>
  obtain ⟨k,hk,rfl,hI⟩:=hrel
  have HI:Hid (NI T N L (w.heap.size+1+1) (w.heap.size+1+1+1) w3 k wr):=hI
  by_cases hlt:k < L.length
  ·obtain ⟨sb,so,hya,hsl,hsc⟩:=R3.out.1 (by intro e;rw [e] at hlt;simp at hlt)
   obtain ⟨s0,s1⟩:=hsc k hlt
   have hyb:=YB.out sb so hya
   have hnx:∀ j,j≠w.heap.size+1+1->j≠w.heap.size+1+1+1->j < w3.heap.size->wr.heap[j]?=w3.heap[j]?:=fun j h1 h2 h3=>hI.fr.block j h3 (fun e=>by rcases e with e | e<;>omega)
   have q3:=HXM.out
   have lb:wr.heap[sb]?=w3.heap[sb]?:=hnx sb (by omega) (by omega) hsl
   have r0:wr.cell? ⟨sb,so+k*2,none⟩=some (.int .i64 (L.getD k (0,0)).1):=(World.cell?_of_block (by exact lb)).trans s0
   have r1:wr.cell? ⟨sb,so+k*2+1,none⟩=some (.int .i64 (L.getD k (0,0)).2):=(World.cell?_of_block (by exact lb)).trans s1
   have hvar:wr.heap[w.heap.size+1]?=some (.cells #[.slice (some ⟨tb,0,none⟩) g.ts.length g.ts.length,.slice (some ⟨nb,0,none⟩) g.ns.length g.ns.length] 78):=(hnx _ (by omega) (by omega) (lt_of_block V3.out)).trans V3.out
   have hbt:BB wr tb T:=R3.out.2.2.2.1.kept (hnx _ (by omega) (by omega) R3.out.2.2.2.1.lt)
   have hbn:BB wr nb N:=R3.out.2.2.2.2.1.kept (hnx _ (by omega) (by omega) R3.out.2.2.2.2.1.lt)
   have klt:(k:Int) < (L.length:Int):=by omega
   have hin:=HIN.out _ (by simp [List.getD,hlt]:L.getD k (0,0)∈L)
   obtain ⟨x,hx⟩:∃ x,L.getD k (0,0)=x:=⟨_,rfl⟩
   have HX:Hid (L.getD k (0,0)=x):=hx
   have HLT:Hid (k < L.length):=hlt
   rw [hx] at r0 r1 hin
   obtain ⟨wa,hwa⟩:∃ wa:World,wa=wr.alloc (.cells #[.int .i64 x.1,.int .i64 x.2] 62):=⟨_,rfl⟩
   have ba:Below wr.heap.size wr wa:=by rw [hwa];exact bAl _ _
   have hv2:=(ba.block _ (lt_of_block hvar)).trans hvar
   have v0:wa.cell? ⟨w.heap.size+1,0,none⟩=some (.slice (some ⟨tb,0,none⟩) g.ts.length g.ts.length):=(cQa hv2).trans rfl
   have v1:wa.cell? ⟨w.heap.size+1,1,none⟩=some (.slice (some ⟨nb,0,none⟩) g.ns.length g.ns.length):=(cQa hv2).trans rfl
   have AD:Hid (Calls Tryz.prog 29 #[.agg #[.slice (some ⟨tb,0,none⟩) g.ts.length g.ts.length,.slice (some ⟨nb,0,none⟩) g.ns.length g.ns.length],.agg #[.int .i64 x.1,.int .i64 x.2]] wa fun e w'=>e=.returned (.bool (mkY T N x))/\Below wa.heap.size wa w'):=has_any htl hnl HTN.out.1 HTN.out.2 (hbt.later ba) (hbn.later ba) hin
   have HA:Hid (Below wr.heap.size wr wa/\wa.heap[wr.heap.size]?=some (.cells #[.int .i64 x.1,.int .i64 x.2] 62)):=⟨ba,by rw [hwa];exact heap_alloc_new _ _⟩
   have HSZ:Hid (w3.heap.size<=wr.heap.size/\w.heap.size+1+1+1 < w3.heap.size):=⟨hI.fr.size,by have:=lt_of_block V3.out;have:=R3.out.2.1.size;omega⟩
   have W1:wfI x.1:=wf_small (by omega) (by omega)
   have W2:wfI x.2:=wf_small (by omega) (by omega)
   have KX:Hid (wfI x.1/\wfI x.2):=⟨W1,W2⟩
   clear hsc hsl hin hI ba hbt hbn hvar hv2 hnx lb s0 s1 hyb q3 hx W1 W2
   rw [hya]
   clear hya
   obtain ⟨x1,x2⟩:=x
   simp only at r0 r1 hwa AD HA KX
   subst hwa
   obtain ⟨mv,hmv⟩:∃ mv,mkY T N (x1,x2)=mv:=⟨_,rfl⟩
   have HMV:Hid (mkY T N (x1,x2)=mv):=hmv
   rw [hmv] at AD
   clear hmv
   cases mv
   ·go_wp2_with (go_at_call 29;refine AD.out.mono ?_;rintro e w4 ⟨rfl,b4⟩;have R4:Hid (NI T N L (w.heap.size+1+1) (w.heap.size+1+1+1) w3 (k+1) w4):=HI.out.skip (HA.out.1.trans (b4.mono HA.out.1.size)) HLT.out (by rw [HX.out];exact HMV.out);clear b4)
    go_roundw
    case rel=>exact ⟨k+1,by omega,by go_num,R4.out⟩
    case measure=>simp [intOf];omega
   ·obtain ⟨D,n,n1,od,sd⟩:=HI.out.om
    obtain ⟨E,m,m1,oe,ke⟩:=HI.out.ok
    have CB:Hid (0<=(nuF T N (L.take k)).2 x1/\(nuF T N (L.take k)).2 x1<=128):=by have:=nuF_small T N L k x1;exact ⟨this.1,by omega⟩
    have HD:Hid (wr.ownsMap Tryz.prog 62 rI (w.heap.size+1+1) n D/\SMp D (nuF T N (L.take k)).1):=⟨od,sd⟩
    have HE:Hid (wr.ownsMap Tryz.prog 60 rI (w.heap.size+1+1+1) m E/\KMp E (nuF T N (L.take k)).2):=⟨oe,ke⟩
    have T0:Hid True:=trivial
    have HNX:Hid (nuF T N (L.take (k+1))=(fun t=>if t=(x1,x2) then some ((nuF T N (L.take k)).2 x1) else (nuF T N (L.take k)).1 t,fun d=>if d=x1 then (nuF T N (L.take k)).2 x1+1 else (nuF T N (L.take k)).2 d)):=by
     show _=_
     rw [nuF_take HLT.out,HX.out]
     unfold nuStep
     rw [if_pos HMV.out]
    generalize nuF T N (L.take k)=F at *
    obtain ⟨F1,F2⟩:=F
    simp only at CB HD HE HNX
    clear od sd oe ke
    go_wp2_with (first
     | (go_at_call 29;refine AD.out.mono ?_;rintro e w4 ⟨rfl,b4⟩;have B4:Hid (Below wr.heap.size wr w4/\w4.heap[wr.heap.size]?=some (.cells #[.int .i64 x1,.int .i64 x2] 62)):=⟨HA.out.1.trans (b4.mono HA.out.1.size),(b4.block _ (lt_of_block HA.out.2)).trans HA.out.2⟩;have OD:Hid (w4.ownsMap Tryz.prog 62 rI (w.heap.size+1+1) n D):=HD.out.1.kept (below_grown7 B4.out.1 none) (by simp);have OE:Hid (w4.ownsMap Tryz.prog 60 rI (w.heap.size+1+1+1) m E):=HE.out.1.kept (below_grown7 B4.out.1 none) (by simp);obtain ⟨d0,d1,d2,d3⟩:=two_cells B4.out.2;clear b4)
     | (at_lookup;have T1:Hid True:=T0;clear T0;refine wpList_lookup_own_int _ rfl _ _ 108 rfl 60 3 .i64 kindLaw Tryz.underlying108 Tryz.underlying3 (zeroInt7 _) (w.heap.size+1+1+1) m E rfl OE.out (.int .i64 x1) _ rfl (kindKey KX.out.1) ?_;intro c hat hwc;have HC:Hid (c=F2 x1):=(by have:=hat.symm.trans (HE.out.2.at_ x1 KX.out.1);show _=_;simpa using this);clear hat hwc)
     | (at_mapUpdate;have T2:Hid True:=T1;clear T1;refine wpList_mapUpdate_own _ rfl _ _ _ 82 rfl 62 3 symLaw Tryz.underlying82 rI (w.heap.size+1+1) n D rfl OD.out (by have:=n1;have:=HLL;unfold maxLen;omega) (.agg #[.int .i64 x1,.int .i64 x2]) (.int .i64 c) (kS x1 x2) rfl rfl (symKey KX.out.1 KX.out.2) (.lit (.int .i64 c)) [] (plainElem_int Tryz.underlying3 (wf_small (by rw [HC.out];have:=CB.out;omega) (by rw [HC.out];have:=CB.out;omega))) ?_;intro w5 o5 g5;have O5:Hid (w5.ownsMap Tryz.prog 62 rI (w.heap.size+1+1) (n+1) (D.put (kS x1 x2) (.lit (.int .i64 c)))/\w5.ownsMap Tryz.prog 60 rI (w.heap.size+1+1+1) m E/\FrB (·=w.heap.size+1+1) w4 w5/\w5.heap[wr.heap.size]?=some (.cells #[.int .i64 x1,.int .i64 x2] 62)):=⟨o5,OE.out.kept g5 (by simp),grown_frB g5,(g5.block _ (lt_of_block B4.out.2) (by have:=HSZ.out;simp;omega)).trans B4.out.2⟩;clear o5 g5 d0 d1 d2 d3;obtain ⟨d0,d1,d2,d3⟩:=two_cells O5.out.2.2.2)
     | (at_lookup;have T3:Hid True:=T2;clear T2;refine wpList_lookup_own_int _ rfl _ _ 108 rfl 60 3 .i64 kindLaw Tryz.underlying108 Tryz.underlying3 (zeroInt7 _) (w.heap.size+1+1+1) m E rfl O5.out.2.1 (.int .i64 x1) _ rfl (kindKey KX.out.1) ?_;intro c2 hat hwc;have HC2:Hid (c2=F2 x1):=(by have:=hat.symm.trans (HE.out.2.at_ x1 KX.out.1);show _=_;simpa using this);have cl:0<=c2:=(by rw [HC2.out];exact CB.out.1);have cu:c2<=128:=(by rw [HC2.out];exact CB.out.2);clear hat hwc)
     | (at_mapUpdate;have T4:Hid True:=T3;clear T3;refine wpList_mapUpdate_own _ rfl _ _ _ 108 rfl 60 3 kindLaw Tryz.underlying108 rI (w.heap.size+1+1+1) m E rfl O5.out.2.1 (by have:=m1;have:=HLL;unfold maxLen;omega) (.int .i64 x1) (.int .i64 (c2+1)) (.int .i64 x1) rfl (by go_num) (kindKey KX.out.1) (.lit (.int .i64 (c2+1))) [] (plainElem_int Tryz.underlying3 (wf_small (by omega) (by omega))) ?_;intro w6 o6 g6;have R6:Hid (NI T N L (w.heap.size+1+1) (w.heap.size+1+1+1) w3 (k+1) w6):=⟨((HI.out.fr.trans (Below.frB B4.out.1)).trans (O5.out.2.2.1.mono fun j _ e=>.inl e)).trans ((grown_frB g6).mono fun j _ e=>.inr e),⟨_,n+1,(by omega),O5.out.1.kept g6 (by simp),(by rw [HNX.out,HC.out];exact HD.out.2.put KX.out.1 KX.out.2 _)⟩,⟨_,m+1,(by omega),o6,(by rw [HNX.out,HC2.out];exact HE.out.2.put KX.out.1 _)⟩⟩;clear o6 g6))
    go_roundw
    case rel=>exact ⟨k+1,by omega,by go_num,R6.out⟩
    case measure=>simp [intOf];omega
  ·obtain rfl:k=L.length:=by omega
   have R5:Hid (∃ D n,wr.ownsMap Tryz.prog 62 rI (w.heap.size+1+1) n D/\SMp D (nuF T N L).1):=by
    obtain ⟨D,n,_,h2,h3⟩:=HI.out.om
    rw [List.take_length] at h3
    exact ⟨D,n,h2,h3⟩
   have RB:Hid (Below w.heap.size w wr):=FrB.below R3.out.2.1 HI.out.fr R3.out.2.1.size (fun j hj=>by rcases hj with e | e<;>omega)
   clear hI
   go_wp2
   go_ret
   obtain ⟨D,n,r1,r2⟩:=R5.out
   exact ⟨_,D,n,rfl,r1,r2,by omega,RB.out⟩
def MI (w:World)(mb:Nat)(f:Int×Int->Option Int):Prop:=∃ D n,w.ownsMap Tryz.prog 62 rI mb n D/\SMp D f
theorem MI.later {w w':World}{mb:Nat}{f:Int×Int->Option Int}(h:MI w mb f)(hb:Below w.heap.size w w'):MI w' mb f:=by
 obtain ⟨D,n,h1,h2⟩:=h
 exact ⟨D,n,h1.kept (below_grown7 hb none) (by simp),h2⟩
theorem MI.run {w:World}{mb:Nat}{f:Int×Int->Option Int}(h:MI w mb f){d n:Int}(hd:wfI d)(hn:wfI n):(Instr.lookup 82 (.map (some mb)) (.agg #[.int .i64 d,.int .i64 n]) false).run Tryz.prog w=.ok (.int .i64 ((f (d,n)).getD 0)) w:=by
 obtain ⟨D,m,h1,h2⟩:=h
 obtain ⟨c,hr,hat,_⟩:=h1.lookup_int symLaw Tryz.underlying82 Tryz.underlying3 (zeroInt7 _) (symKey hd hn)
 have:=hat.symm.trans (h2.at_ d n hd hn)
 simp at this
 rw [hr,this]
theorem MI.look {w:World}{mb:Nat}{f:Int×Int->Option Int}(h:MI w mb f){d n:Int}(hd:wfI d)(hn:wfI n):(Instr.lookup 82 (.map (some mb)) (.agg #[.int .i64 d,.int .i64 n]) true).run Tryz.prog w=.ok (.tuple #[.int .i64 ((f (d,n)).getD 0),.bool (f (d,n)).isSome]) w:=by
 obtain ⟨D,m,h1,h2⟩:=h
 obtain ⟨v,ps,hr,hv⟩:=h1.look_ok symLaw Tryz.underlying82 (zeroInt7 _) (plainElem_int Tryz.underlying3 (by decide)) (symKey hd hn)
 obtain ⟨c,rfl,hc,_⟩:=plainElem_int_inv Tryz.underlying3 hv
 simp only [Prod.mk.injEq] at hc
 have:=hc.1.symm.trans (h2.at_ d n hd hn)
 simp at this
 rw [hr,this,h2.has_ d n hd hn]
theorem terms_P (mb:Nat)(f:Int×Int->Option Int)(ta:Option Addr)(tc:Nat)(xs:List Int)(w:World)(hm:MI w mb f)(hr:InRow w ta xs)(hl:xs.length<=100000)(hw:∀ x∈xs,wfI x) :
  Calls Tryz.prog 95 #[.map (some mb),.slice ta xs.length tc] w fun e w'=>∃ v,e=.returned v/\LBs w (xs.filterMap fun x=>f (1,x)) v w':=by
 have HM:Hid (∀ w',Below w.heap.size w w'->MI w' mb f):=fun w' hb=>hm.later hb
 have HR:Hid (∀ w',Below w.heap.size w w'->InRow w' ta xs):=fun w' hb=>hr.later hb
 have HW:Hid (∀ x∈xs,wfI x):=hw
 clear hm hr hw
 go_enter Tryz.func95,Tryz.ntmps95
 go_wp2
 go_loopw [5,12] (fun v i wr=>∃ k:Nat,k<=xs.length/\i=.int .i64 k/\LBs w ((xs.take k).filterMap fun x=>f (1,x)) v wr) (fun _ i _=>xs.length - (intOf i).toNat)
 case atStart=>exact ⟨0,Nat.zero_le _,rfl,IL.nil _,(fun j hj=>by simp [Value.ownBlock] at hj),Below.refl _ _⟩
 case round =>
  obtain ⟨k,hk,rfl,hL⟩:=hrel
  obtain ⟨va,vc,rfl⟩:=il_len hL.il
  have HL:Hid (LBs w ((xs.take k).filterMap fun x=>f (1,x)) (.slice va ((xs.take k).filterMap fun x=>f (1,x)).length vc) wr):=hL
  by_cases hlt:k < xs.length
  ·obtain ⟨b,o,rfl,hbl,hc⟩:=(HR.out wr hL.bel) (by intro e;rw [e] at hlt;simp at hlt)
   have c0:=hc k hlt
   have klt:(k:Int) < (xs.length:Int):=by omega
   have hwf:=HW.out _ (by simp [List.getD,hlt]:xs.getD k 0∈xs)
   have HT:Hid ((xs.take (k+1)).filterMap (fun x=>f (1,x))=((xs.take k).filterMap fun x=>f (1,x))++(f (1,xs.getD k 0)).toList):=by
    show _=_
    rw [List.take_succ_eq_append_getElem hlt,List.filterMap_append]
    congr 1
    rw [List.getD_eq_getElem?_getD,List.getElem?_eq_getElem hlt]
    simp [List.filterMap_cons]
    cases f (1,xs[k])<;>rfl
   have hrl:((xs.take k).filterMap fun x=>f (1,x)).length<=100000:=Nat.le_trans (List.length_filterMap_le _ _) (by rw [List.length_take];omega)
   have LK:Hid (∀ wq,Below wr.heap.size wr wq->(Instr.lookup 82 (.map (some mb)) (.agg #[.int .i64 1,.int .i64 (xs.getD k 0)]) true).run Tryz.prog wq=.ok (.tuple #[.int .i64 ((f (1,xs.getD k 0)).getD 0),.bool (f (1,xs.getD k 0)).isSome]) wq):=fun wq hq=>(HM.out wq (hL.bel.trans (hq.mono hL.bel.size))).look (by unfold wfI;decide) hwf
   generalize xs.getD k 0=x at *
   obtain ⟨fx,hfx⟩:∃ fx,f (1,x)=fx:=⟨_,rfl⟩
   rw [hfx] at HT LK
   generalize ((xs.take k).filterMap fun x=>f (1,x))=R at *
   clear hc hbl hL hfx hwf
   cases fx with
   | none =>
    go_wp2_with (go_at_call 70;refine (term_P _ _).mono ?_;rintro e wt ⟨rfl,bt⟩;have BT:Hid (Below wr.heap.size wr wt):=bt;have lk:=LK.out wt BT.out;clear bt)
    have R5:Hid (LBs w ((xs.take (k+1)).filterMap fun x=>f (1,x)) (.slice va R.length vc) wt):=by
     show LBs _ _ _ _
     rw [HT.out]
     simpa using HL.out.any BT.out
    go_roundw
    case rel=>exact ⟨k+1,by omega,by go_num,R5.out⟩
    case measure=>simp [intOf];omega
   | some y =>
    have HLT:Hid (R.length<=2000000):=by show _<=_;omega
    go_wp2_with (first
     | (go_at_call 70;refine (term_P _ _).mono ?_;rintro e wt ⟨rfl,bt⟩;have BT:Hid (Below wr.heap.size wr wt):=bt;have lk:=LK.out wt BT.out;clear bt)
     | (at_builtin;refine wpList_il_append rfl _ _ rfl (.slice va R.length vc) R rfl ((HL.out.any BT.out).any (bAl _ _)).il _ 1 y rfl (by simp) HLT.out ?_;intro a5 n5 c5 w5 ho5 hg5))
    have q0:=(HL.out.any BT.out).any (bAl _ (.cells #[.int .i64 y] 3))
    obtain ⟨q1,q2⟩:=gBi q0.bel q0.own hg5
    have R5:Hid (LBs w ((xs.take (k+1)).filterMap fun x=>f (1,x)) (.slice a5 n5 c5) w5):=⟨by rw [HT.out];exact ho5,q2,q1⟩
    clear q0 q1 q2 ho5 hg5
    go_wp2
    go_roundw
    case rel=>exact ⟨k+1,by omega,by go_num,R5.out⟩
    case measure=>simp [intOf];omega
  ·obtain rfl:k=xs.length:=by omega
   have R:Hid (LBs w (xs.filterMap fun x=>f (1,x)) (.slice va ((xs.take xs.length).filterMap fun x=>f (1,x)).length vc) wr):=by
    have:=HL.out
    rw [List.take_length] at this ⊢
    exact this
   clear hL
   go_wp2
   go_ret
   exact ⟨_,rfl,R.out⟩
end Go.Proofs.YthaamdognbncnaaGreatDoor
