import Derived.Test.YtockbobpmiagiaaGreatDoorPTR1ToTR4
namespace Go.Proofs.YtockbobpmiagiaaGreatDoor
set_option linter.unusedVariables false
set_option maxRecDepth 100000
set_option maxHeartbeats 16000000
open Go.RowKit
theorem t7_R (n:Int)(w:World):Calls Tryz.prog 11 #[.int .i64 n] w fun e w'=>e=.returned (.agg #[.int .i64 1,.int .i64 n])/\Below w.heap.size w w':=by
 go_enter Tryz.func11,Tryz.ntmps11
 go_wp2
 refine bodyPost_ret (v:=.agg #[.int .i64 1,.int .i64 n]) (by simp [results,Tryz.results11,go_sem]) rfl ?_
 exact ⟨rfl,bAl _ _⟩
theorem n7_R (n:Int)(w:World):Calls Tryz.prog 12 #[.int .i64 n] w fun e w'=>e=.returned (.agg #[.int .i64 2,.int .i64 n])/\Below w.heap.size w w':=by
 go_enter Tryz.func12,Tryz.ntmps12
 go_wp2
 refine bodyPost_ret (v:=.agg #[.int .i64 2,.int .i64 n]) (by simp [results,Tryz.results12,go_sem]) rfl ?_
 exact ⟨rfl,bAl _ _⟩
def offY (d:Int)(M:List Bool)(k:Nat):List (Int×Int):=(offU false M k).map fun i=>(d,i)
theorem offY_len (d:Int)(M:List Bool)(k:Nat):(offY d M k).length<=k:=by
 unfold offY
 rw [List.length_map]
 exact offU_len _ _ _
theorem SymRow.takeS {w:World}{la:Option Addr}{l:List (Int×Int)}(h:SymRow w la l)(i:Nat):SymRow w la (l.take i):=fun hne=>by
 have hl:l≠[]:=fun e=>hne (by rw [e];simp)
 obtain ⟨b,o,e,hb,hc⟩:=h hl
 refine ⟨b,o,e,hb,fun j hj=>?_⟩
 have hj2:j < l.length/\j < i:=by rw [List.length_take] at hj;omega
 have e2:(l.take i).getD j (0,0)=l.getD j (0,0):=by simp [List.getD,hj2.2]
 rw [e2]
 exact hc j hj2.1
theorem SymRow.dropS {w:World}{b o:Nat}{l:List (Int×Int)}(h:SymRow w (some ⟨b,o,none⟩) l)(i:Nat):SymRow w (some ⟨b,o+i*2,none⟩) (l.drop i):=fun hne=>by
 have hl:l≠[]:=fun e=>hne (by rw [e];simp)
 obtain ⟨b',o',e,hb,hc⟩:=h hl
 simp at e
 obtain ⟨rfl,rfl⟩:=e
 refine ⟨b,_,rfl,hb,fun j hj=>?_⟩
 have hj2:i+j < l.length:=by rw [List.length_drop] at hj;omega
 have e2:(l.drop i).getD j (0,0)=l.getD (i+j) (0,0):=by simp [List.getD,List.getElem?_drop]
 have:=hc (i+j) hj2
 rw [e2]
 rw [show o+i*2+j*2=o+(i+j)*2 by omega]
 exact this
theorem slice_toS (b o lc len i:Nat)(hi:i<=lc)(w:World):(Instr.slice 40 (.slice (some ⟨b,o,none⟩) len lc) none (some (.int .i64 (i:Int))) none).run Tryz.prog w=.ok (.slice (some ⟨b,o,none⟩) i lc) w:=by
 obtain ⟨i0,hinf,_,hz1,_⟩:=infoSym_parts
 have hu:Tryz.prog.underlying 40=some (.slice (Tryz.prog.elem 40)):=by kernel_rfl
 have he:Tryz.prog.elem 40=49:=by kernel_rfl
 have:=run_slice_h (P:=Tryz.prog) (w:=w) 40 (some ⟨b,o,none⟩) len lc hu .i64 (i:Int) (by omega) (by omega)
 rw [this,he]
 simp [sizeOf,typeInfo,hinf,hz1]
 unfold sliced
 split<;>simp [aNn]
theorem slice_froS (b o lc len i:Nat)(hi:i<=len)(hc:len<=lc) :
  ∃ o' c',(∀ w,(Instr.slice 40 (.slice (some ⟨b,o,none⟩) len lc) (some (.int .i64 (i:Int))) none none).run Tryz.prog w=.ok (.slice (some ⟨b,o',none⟩) (len - i) c') w)/\∀ w (l:List (Int×Int)),l.length=len->SymRow w (some ⟨b,o,none⟩) l->SymRow w (some ⟨b,o',none⟩) (l.drop i):=by
 obtain ⟨i0,hinf,_,hz1,_⟩:=infoSym_parts
 have hu:Tryz.prog.underlying 40=some (.slice (Tryz.prog.elem 40)):=by kernel_rfl
 have he:Tryz.prog.elem 40=49:=by kernel_rfl
 have hrun:∀ w:World,(Instr.slice 40 (.slice (some ⟨b,o,none⟩) len lc) (some (.int .i64 (i:Int))) none none).run Tryz.prog w=.ok (sliced (some ⟨b,o,none⟩) i len lc 2) w:=by
  intro w
  have:=run_slice_l (P:=Tryz.prog) (w:=w) 40 (some ⟨b,o,none⟩) len lc hu .i64 (i:Int) (by omega) (by omega)
  rw [this,he]
  simp [sizeOf,typeInfo,hinf,hz1]
 by_cases hcp:lc=i
 ·refine ⟨o,lc - i,fun w=>by rw [hrun w];simp [sliced,hcp],fun w l hl h=>?_⟩
  rw [List.drop_eq_nil_of_le (by omega)]
  exact fun h=>absurd rfl h
 ·exact ⟨o+i*2,lc - i,fun w=>by rw [hrun w];simp [sliced,hcp,aNn],fun w l _ h=>h.dropS i⟩
def GM (w:World)(gb n k:Nat):Prop:=∃ V:List Value,V.length=n/\w.heap[gb]?=some (.cells V.toArray 75 (0,0))/\∀ i,i < k->∃ rb M,V[i]?=some (.slice (some ⟨rb,0,none⟩) n n)/\BB w rb M/\M.length=n/\gb < rb
theorem GM.lt {w:World}{gb n k:Nat}(h:GM w gb n k):gb < w.heap.size:=by
 obtain ⟨V,_,hh,_⟩:=h
 exact lt_of_block hh
theorem GM.made (w:World)(n:Nat):GM (w.alloc (.cells (madeCells #[.slice none 0 0] n) 75)) w.heap.size n 0 :=
 ⟨List.replicate n (.slice none 0 0),by simp,by rw [heap_alloc_new,made_listF],fun i hi=>absurd hi (Nat.not_lt_zero i)⟩
theorem GM.any {w w':World}{gb n k:Nat}(h:GM w gb n k)(hb:Below w.heap.size w w'):GM w' gb n k:=by
 obtain ⟨V,hl,hh,hr⟩:=h
 refine ⟨V,hl,(hb.block _ (lt_of_block hh)).trans hh,fun i hi=>?_⟩
 obtain ⟨rb,M,e,b,l,g⟩:=hr i hi
 exact ⟨rb,M,e,b.later hb,l,g⟩
theorem GM.cell {w:World}{gb n k:Nat}(h:GM w gb n k){i:Nat}(hi:i < k):∃ rb M,w.cell? ⟨gb,i,none⟩=some (.slice (some ⟨rb,0,none⟩) n n)/\BB w rb M/\M.length=n/\gb < rb:=by
 obtain ⟨V,hl,hh,hr⟩:=h
 obtain ⟨rb,M,e,q⟩:=hr i hi
 exact ⟨rb,M,by rw [cQa hh];simpa using e,q⟩
theorem GM.has {w:World}{gb n k:Nat}(h:GM w gb n k){i:Nat}(hi:i < n):∃ v,w.cell? ⟨gb,i,none⟩=some v:=by
 obtain ⟨V,hl,hh,hr⟩:=h
 exact ⟨V[i]'(by omega),by rw [cQa hh];simp [hl,hi]⟩
theorem GM.free {w:World}{gb n k:Nat}(h:GM w gb n k)(i:Nat):w.frozen? ⟨gb,i,none⟩=false:=by
 obtain ⟨V,hl,hh,hr⟩:=h
 simp [World.frozen?,hh]
theorem GM.fill {w:World}{gb n k:Nat}(h:GM w gb n k)(hk:k < n):GM ((w.alloc (.cells (madeCells #[.bool false] n) 4)).setCell ⟨gb,k,none⟩ (.slice (some ⟨w.heap.size,0,none⟩) n n)) gb n (k+1):=by
 have hlt:=h.lt
 have bA:=bAl w (.cells (madeCells #[.bool false] n) 4)
 have hM:=BB.made w n
 obtain ⟨V,hl,hh,hr⟩:=h.any bA
 obtain ⟨_,_,_,hr0⟩:=h
 generalize w.alloc (.cells (madeCells #[.bool false] n) 4)=w1 at *
 refine ⟨V.set k _,by simpa using hl,by rw [hSt hh k,List.setIfInBounds_toArray],fun i hi=>?_⟩
 by_cases e:i=k
 ·subst e
  exact ⟨w.heap.size,List.replicate n false,by simp [hl,hk],hM.kept (Below.heap_setCell _ _ _ _ (by show w.heap.size≠gb;omega)),by simp,hlt⟩
 ·obtain ⟨rb,M,e1,b1,l1,g1⟩:=hr i (by omega)
  exact ⟨rb,M,by rw [List.getElem?_set_ne (by omega)];exact e1,b1.kept (Below.heap_setCell _ _ _ _ (by show rb≠gb;omega)),l1,g1⟩
theorem GM.set {w:World}{gb n k rb:Nat}{M:List Bool}(h:GM w gb n k)(hb:BB w rb M)(hM:M.length=n)(hg:gb < rb)(j:Nat)(v:Bool):GM (w.setCell ⟨rb,j,none⟩ (.bool v)) gb n k:=by
 obtain ⟨V,hl,hh,hr⟩:=h
 refine ⟨V,hl,(Below.heap_setCell _ _ _ _ (by show gb≠rb;omega)).trans hh,fun i hi=>?_⟩
 obtain ⟨rb',M',e1,b1,l1,g1⟩:=hr i hi
 by_cases e:rb'=rb
 ·subst e
  exact ⟨rb',M.set j v,e1,hb.set _ _,by simpa using hM,g1⟩
 ·exact ⟨rb',M',e1,b1.kept (Below.heap_setCell _ _ _ _ e),l1,g1⟩
structure CW (g:GV)(w:World)(mb gb k:Nat)(NU:List Bool)(wr:World):Prop where
 gm:GM wr gb g.ns.length k
 nu:BB wr mb NU
 ord:w.heap.size < mb/\mb < gb
 box:wr.heap[w.heap.size]?=some (gBox g)
 bel:Below w.heap.size w wr
theorem CW.any {g:GV}{w wr w':World}{mb gb k:Nat}{NU:List Bool}(h:CW g w mb gb k NU wr)(hb:Below wr.heap.size wr w'):CW g w mb gb k NU w' :=
 ⟨h.gm.any hb,h.nu.later hb,h.ord,(hb.block _ (lt_of_block h.box)).trans h.box,h.bel.trans (hb.mono h.bel.size)⟩
theorem CW.fill {g:GV}{w wr:World}{mb gb k:Nat}{NU:List Bool}(h:CW g w mb gb k NU wr)(hk:k < g.ns.length):CW g w mb gb (k+1) NU ((wr.alloc (.cells (madeCells #[.bool false] g.ns.length) 4)).setCell ⟨gb,k,none⟩ (.slice (some ⟨wr.heap.size,0,none⟩) g.ns.length g.ns.length)):=by
 have h1:=h.any (bAl wr (.cells (madeCells #[.bool false] g.ns.length) 4))
 have ho:=h.ord
 exact ⟨h.gm.fill hk,h1.nu.kept (Below.heap_setCell _ _ _ _ (by show mb≠gb;omega)),h.ord,(Below.heap_setCell _ _ _ _ (by show w.heap.size≠gb;omega)).trans h1.box,h1.bel.setCell (p:=⟨gb,k,none⟩) (by show w.heap.size<=gb;omega) _⟩
theorem CW.set {g:GV}{w wr:World}{mb gb k rb:Nat}{NU M:List Bool}(h:CW g w mb gb k NU wr)(hb:BB wr rb M)(hM:M.length=g.ns.length)(hg:gb < rb)(j:Nat)(v:Bool):CW g w mb gb k NU (wr.setCell ⟨rb,j,none⟩ (.bool v)):=by
 have ho:=h.ord
 exact ⟨h.gm.set hb hM hg j v,h.nu.kept (Below.heap_setCell _ _ _ _ (by show mb≠rb;omega)),h.ord,(Below.heap_setCell _ _ _ _ (by show w.heap.size≠rb;omega)).trans h.box,h.bel.setCell (p:=⟨rb,j,none⟩) (by show w.heap.size<=rb;omega) _⟩
theorem two_cells {w:World}{b:Nat}{v0 v1:Value}{t:TypeId}(h:w.heap[b]?=some (.cells #[v0,v1] t (0,0))):w.cell? ⟨b,0,none⟩=some v0/\w.cell? ⟨b,1,none⟩=some v1/\w.frozen? ⟨b,0,none⟩=false/\w.frozen? ⟨b,1,none⟩=false :=
 ⟨(cQa h).trans rfl,(cQa h).trans rfl,by simp [World.frozen?,h],by simp [World.frozen?,h]⟩
theorem below_set2 {B:Nat}{a w:World}(h:Below B a w){b:Nat}(hb:B<=b)(i j:Nat)(u v:Value):Below B a ((w.setCell ⟨b,i,none⟩ u).setCell ⟨b,j,none⟩ v):=(h.setCell (p:=⟨b,i,none⟩) hb u).setCell (p:=⟨b,j,none⟩) hb v
end Go.Proofs.YtockbobpmiagiaaGreatDoor
