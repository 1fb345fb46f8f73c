import Derived.Test.YteciabdjkaackaaGreatPVD5
import Derived.Test.YteciabdjkaackaaGreatPTB26ToVD3
import Derived.Test.YteciabdjkaackaaGreatPHITToHTk
namespace Go.Proofs.YteciabdjkaackaaGreat
set_option linter.unusedVariables false
open Go.RowKit
theorem okc_revV {g:GV}{at_:Int}(h:cG_ g (cF_ g.ts g.ns)=(0,at_)):OkC g.rev:=OkC.of (by
 have e:cF_ g.rev.ts g.rev.ns=cF_ g.ts g.ns:=rfl
 rw [e,check_rev8,h])
theorem same_mirV {g a:GV}(hr:SameG g.rev a.rev)(l:List Int)(L:List (Int×ByteArray)):mirU a l L=mirU g l L:=by
 unfold mirU
 rw [derive_gr hr]
theorem map_coreV {α β:Type}{f:α->α}{c:α->β}{F:β->β}(hF:∀ a,c (f a)=F (c a)){l m:List α}(h:l.map c=m.map c):(l.map f).map c=(m.map f).map c:=by
 have e:∀ k:List α,(k.map f).map c=(k.map c).map F:=fun k=>by
  simp only [List.map_map]
  exact List.map_congr_left fun a _=>hF a
 rw [e,e,h]
theorem sameG_revV {g x:GV}(h:SameG g x):SameG g.rev x.rev :=
 ⟨h.ts,h.ns,h.start,map_coreV (F:=fun c=>(c.1,c.2.1.reverse,c.2.2)) (fun _=>rfl) h.ps,h.ls⟩
theorem same_lenV {g a:GV}(h:SameG g a):a.ps.length=g.ps.length:=by have:=congrArg List.length h.ps;simpa using this
theorem fromU_someV {cp:Int×Int}{u:Option TV×Int×Int}{t:TV}{e1 e2:Int}(h:fromU cp u=(some t,e1,e2)):cp.1=0/\u=(some t,e1,e2):=by
 unfold fromU at h
 by_cases h0:cp.1=0
 ·rw [if_neg (by simpa using h0)] at h
  exact ⟨h0,h⟩
 ·rw [if_pos h0] at h
  cases h
theorem sz_left {g:GV}{l:List Int}{L:List (Int×ByteArray)}{er at_:Int}(hE:cG_ g (cF_ g.ts g.ns)=(er,at_))(hb:l.length<=1048576)(hB:L.length<=1048576):szT (anT (fromU (cpU er g.ps.length l) (deriveU g l L))).1<=100000000:=by
 obtain ⟨⟨ot,e1,e2⟩,hu⟩:∃ u,fromU (cpU er g.ps.length l) (deriveU g l L)=u:=⟨_,rfl⟩
 rw [hu]
 cases ot with
 | none=>show szT TV.none<=_;decide
 | some t =>
  obtain ⟨hc,hd⟩:=fromU_someV hu
  obtain ⟨he,hne,hl,-⟩:=cp_ok hc
  subst he
  obtain ⟨-,b,c⟩:=derive_ok (OkC.of (by rw [hE])) hl hd
  have:=sz_nl t
  rw [b,c] at this
  show szT t<=_
  omega
theorem sz_right {g:GV}{l:List Int}{L:List (Int×ByteArray)}{er at_:Int}(hE:cG_ g (cF_ g.ts g.ns)=(er,at_))(hb:l.length<=1048576)(hB:L.length<=1048576):szT (anT (fromU (cpU er g.ps.length l) (mirU g l L))).1<=100000000:=by
 obtain ⟨⟨ot,e1,e2⟩,hu⟩:∃ u,fromU (cpU er g.ps.length l) (mirU g l L)=u:=⟨_,rfl⟩
 rw [hu]
 cases ot with
 | none=>show szT TV.none<=_;decide
 | some t =>
  obtain ⟨hc,hd⟩:=fromU_someV hu
  obtain ⟨he,hne,hl,-⟩:=cp_ok hc
  subst he
  obtain ⟨-,b,c⟩:=mir_ok (okc_revV hE) hl hd
  have h2:=ndr_len t
  have:=sz_nl t
  rw [c,<- h2,b] at this
  show szT t<=_
  omega
theorem GX.tok {w w':World}{x:GV}(h:GX w x)(hk:∀ (k:Nat) (C:Array Value) (t:TypeId),w.heap[k]?=some (.cells C t (0,0))->OkTk t->w'.heap[k]?=w.heap[k]?):GX w' x:=by
 have o1:OkTk 9:=⟨okT_str,by decide⟩
 have o2:OkTk 116:=⟨okT_prod,by decide⟩
 have o3:OkTk 120:=⟨okT_lev,by decide⟩
 have o4:OkTk 82:=⟨okT_sym,by decide⟩
 have o5:OkTk 3:=⟨okT_int,by decide⟩
 refine ⟨?_,?_,row_kept h.p fun k C _ hb=>hk k C _ hb o2,fun p hp=>?_,row_kept h.l fun k C _ hb=>hk k C _ hb o3,fun p hp=>?_⟩
 ·obtain ⟨b,e,zs,z1,z2⟩:=h.t;exact ⟨b,e,zs,(hk _ _ _ z1 o1).trans z1,z2⟩
 ·obtain ⟨b,e,zs,z1,z2⟩:=h.n;exact ⟨b,e,zs,(hk _ _ _ z1 o1).trans z1,z2⟩
 ·obtain ⟨b,e,zs,z1,z2⟩:=h.pe p hp;exact ⟨b,e,zs,(hk _ _ _ z1 o4).trans z1,z2⟩
 ·obtain ⟨b,e,zs,z1,z2⟩:=h.le p hp;exact ⟨b,e,zs,(hk _ _ _ z1 o5).trans z1,z2⟩
theorem NB.tok {w w':World}{b:Nat}{xs:List Int}(h:NB w b xs)(hk:∀ (k:Nat) (C:Array Value) (t:TypeId),w.heap[k]?=some (.cells C t (0,0))->OkTk t->w'.heap[k]?=w.heap[k]?):NB w' b xs:=by
 obtain ⟨zs,z1,z2⟩:=h
 exact ⟨zs,(hk _ _ _ z1 ⟨okT_int,by decide⟩).trans z1,z2⟩
structure DvW (w:World)(g x:GV)(l:List Int)(L:List (Int×ByteArray))(bx i1 i2 n1 n2 n4:Nat)(Ts:List (Nat×TV))(wr:World):Prop where
 bel:Below w.heap.size w wr
 box:wr.heap[w.heap.size]?=some (gBox g)
 bxx:wr.heap[bx]?=some (gBox x)
 gt:HGT (w.heap.size+1) (w.alloc (gBox g)) (w.heap.size+1) n1 n2 n4 1 wr
 gx:GAt 140737488355328 wr x
 r1:InRow wr (some ⟨i1,0,none⟩) l
 r2:TkRow wr (some ⟨i2,0,none⟩) L
 env:∀ y∈Ts,wr.heap[y.1]?=some (tBox y.2)/\TAt wr y.2
section
variable {w wr w':World} {g x:GV} {l:List Int} {L:List (Int×ByteArray)} {bx i1 i2 n1 n2 n4:Nat} {Ts:List (Nat×TV)}
theorem DvW.later (h:DvW w g x l L bx i1 i2 n1 n2 n4 Ts wr)(hb:Below wr.heap.size wr w'):DvW w g x l L bx i1 i2 n1 n2 n4 Ts w' :=
 ⟨h.bel.trans (hb.mono h.bel.size),(hb.block _ (lt_of_block h.box)).trans h.box,(hb.block _ (lt_of_block h.bxx)).trans h.bxx,h.gt.later hb,h.gx.later hb,h.r1.later hb,h.r2.later hb,fun y hy=>⟨(hb.block _ (lt_of_block (h.env y hy).1)).trans (h.env y hy).1,(h.env y hy).2.later hb⟩⟩
theorem DvW.add {T:TV}(h:DvW w g x l L bx i1 i2 n1 n2 n4 Ts wr)(hT:TAt wr T):DvW w g x l L bx i1 i2 n1 n2 n4 ((wr.heap.size,T) :: Ts) (wr.alloc (tBox T)):=by
 have h2:=h.later (bAl wr (tBox T))
 refine ⟨h2.bel,h2.box,h2.bxx,h2.gt,h2.gx,h2.r1,h2.r2,fun y hy=>?_⟩
 rcases List.mem_cons.1 hy with rfl | hy
 ·exact ⟨heap_alloc_new _ _,hT.later (bAl _ _)⟩
 ·exact h2.env y hy
end
theorem num_V (n:Int)(w:World):Calls Tryz.prog 12 #[.int .i64 n] w fun e w'=>e=.returned (.int .i64 n)/\w'=w:=by
 go_enter Tryz.func12,Tryz.ntmps12
 go_wp2
 go_ret
 exact ⟨rfl,rfl⟩
end Go.Proofs.YteciabdjkaackaaGreat
