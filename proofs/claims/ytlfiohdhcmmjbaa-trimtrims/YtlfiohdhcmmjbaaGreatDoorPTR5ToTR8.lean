import Derived.Test.YtlfiohdhcmmjbaaGreatDoorPTR1ToTR4
namespace Go.Proofs.YtlfiohdhcmmjbaaGreatDoor
set_option linter.unusedVariables false
set_option maxRecDepth 100000
set_option maxHeartbeats 16000000
open Go.RowKit
theorem n7_R (n:Int)(w:World):Calls Tryz.prog 28 #[.int .i64 n] w fun e w'=>e=.returned (.agg #[.int .i64 2,.int .i64 n])/\Below w.heap.size w w':=by
 go_enter Tryz.func28,Tryz.ntmps28
 go_wp2
 refine bodyPost_ret (v:=.agg #[.int .i64 2,.int .i64 n]) (by simp [results,Tryz.results28,go_sem]) rfl ?_
 exact ⟨rfl,bAl _ _⟩
def offY (d:Int)(M:List Bool)(k:Nat):List (Int×Int):=(offU false M k).map fun i=>(d,i)
theorem SymRow.takeS {w:World}{la:Option Addr}{l:List (Int×Int)}(h:SymRow w la l)(i:Nat):SymRow w la (l.take i):=fun hne=>by
 have hl:l≠[]:=fun e=>hne (by rw [e];simp)
 obtain ⟨b,o,e,hb,hc⟩:=h hl
 refine ⟨b,o,e,hb,fun j hj=>?_⟩
 have hj2:j < l.length/\j < i:=by rw [List.length_take] at hj;omega
 have e2:(l.take i).getD j (0,0)=l.getD j (0,0):=by simp [List.getD,hj2.2]
 rw [e2]
 exact hc j hj2.1
theorem SymRow.dropS {w:World}{b o:Nat}{l:List (Int×Int)}(h:SymRow w (some ⟨b,o,none⟩) l)(i:Nat):SymRow w (some ⟨b,o+i*2,none⟩) (l.drop i):=fun hne=>by
 have hl:l≠[]:=fun e=>hne (by rw [e];simp)
 obtain ⟨b',o',e,hb,hc⟩:=h hl
 simp at e
 obtain ⟨rfl,rfl⟩:=e
 refine ⟨b,_,rfl,hb,fun j hj=>?_⟩
 have hj2:i+j < l.length:=by rw [List.length_drop] at hj;omega
 have e2:(l.drop i).getD j (0,0)=l.getD (i+j) (0,0):=by simp [List.getD,List.getElem?_drop]
 have:=hc (i+j) hj2
 rw [e2]
 rw [show o+i*2+j*2=o+(i+j)*2 by omega]
 exact this
theorem slice_toS (b o lc len i:Nat)(hi:i<=lc)(w:World):(Instr.slice 47 (.slice (some ⟨b,o,none⟩) len lc) none (some (.int .i64 (i:Int))) none).run Tryz.prog w=.ok (.slice (some ⟨b,o,none⟩) i lc) w:=by
 obtain ⟨i0,hinf,_,hz1,_⟩:=infoSym_parts
 have hu:Tryz.prog.underlying 47=some (.slice (Tryz.prog.elem 47)):=by kernel_rfl
 have he:Tryz.prog.elem 47=54:=by kernel_rfl
 have:=run_slice_h (P:=Tryz.prog) (w:=w) 47 (some ⟨b,o,none⟩) len lc hu .i64 (i:Int) (by omega) (by omega)
 rw [this,he]
 simp [sizeOf,typeInfo,hinf,hz1]
 unfold sliced
 split<;>simp [aNn]
theorem slice_froS (b o lc len i:Nat)(hi:i<=len)(hc:len<=lc) :
  ∃ o' c',(∀ w,(Instr.slice 47 (.slice (some ⟨b,o,none⟩) len lc) (some (.int .i64 (i:Int))) none none).run Tryz.prog w=.ok (.slice (some ⟨b,o',none⟩) (len - i) c') w)/\∀ w (l:List (Int×Int)),l.length=len->SymRow w (some ⟨b,o,none⟩) l->SymRow w (some ⟨b,o',none⟩) (l.drop i):=by
 obtain ⟨i0,hinf,_,hz1,_⟩:=infoSym_parts
 have hu:Tryz.prog.underlying 47=some (.slice (Tryz.prog.elem 47)):=by kernel_rfl
 have he:Tryz.prog.elem 47=54:=by kernel_rfl
 have hrun:∀ w:World,(Instr.slice 47 (.slice (some ⟨b,o,none⟩) len lc) (some (.int .i64 (i:Int))) none none).run Tryz.prog w=.ok (sliced (some ⟨b,o,none⟩) i len lc 2) w:=by
  intro w
  have:=run_slice_l (P:=Tryz.prog) (w:=w) 47 (some ⟨b,o,none⟩) len lc hu .i64 (i:Int) (by omega) (by omega)
  rw [this,he]
  simp [sizeOf,typeInfo,hinf,hz1]
 by_cases hcp:lc=i
 ·refine ⟨o,lc - i,fun w=>by rw [hrun w];simp [sliced,hcp],fun w l hl h=>?_⟩
  rw [List.drop_eq_nil_of_le (by omega)]
  exact fun h=>absurd rfl h
 ·exact ⟨o+i*2,lc - i,fun w=>by rw [hrun w];simp [sliced,hcp,aNn],fun w l _ h=>h.dropS i⟩
theorem wpList_sy_cat {ops:Array Oper}{rest:List Oper}{o:Oper}{a:Act}{Q:Exit->Act->World->Prop}{w:World}(hgd:o.guard=none)(s x:Operand)
  (ho:o.op=.call { callee:=.builtin .append,args:=#[s,x],argTypes:=#[47,47] })
  (v:Value) (l:List (Int×Int)) (hs:a.eval s=v) (h:SY w v l) (b off c:Nat) (n:Nat) (zs:List (Int×Int)) (hx:a.eval x=.slice (some ⟨b,off,none⟩) n c) (hn:zs.length=n) (hr:SymRow w (some ⟨b,off,none⟩) zs) (hlen:l.length+zs.length<=100000000)
  (hK:∀ a' n' c' w',SY w' (.slice a' n' c') (l++zs)->Grew w w' v (.slice a' n' c')->wpList Tryz.prog ops Q rest (a.put o.dst (.slice a' n' c')) w'):wpList Tryz.prog ops Q (o :: rest) a w:=by
 obtain ⟨i0,hi,hz0,hz1,hz2⟩:=infoSym_parts
 subst hn
 refine wpList_append_own_at w hgd s x 47 ho 0 54 i0 (.agg #[.int .i64 0,.int .i64 0]) 2 16 Tryz.underlying47 hi hz0 hz1 hz2 rfl (by decide) v l.length (sCl l) hs h ⟨b,off,none⟩ zs.length c (sCl zs) hx (by rw [symCells_len]) ?_ ?_ (by unfold maxLen;omega) (by omega) (Nat.zero_le _) ?_
 ·intro j u hu
  have hj:j < zs.length*2:=by have:=(List.getElem?_eq_some_iff.1 hu).1;rwa [symCells_len] at this
  have hj2:j / 2 < zs.length:=by omega
  obtain ⟨b',off',e,_,hc⟩:=hr (by intro h;subst h;simp at hj)
  simp at e
  obtain ⟨rfl,rfl⟩:=e
  obtain ⟨c0,c1⟩:=hc (j / 2) hj2
  obtain ⟨g0,g1⟩:=symCells_get zs (j / 2) hj2
  rw [aNn]
  rcases (by omega:j=j / 2*2∨j=j / 2*2+1) with q | q
  ·rw [q] at hu ⊢
   rw [g0] at hu
   rw [c0,<- hu]
  ·rw [q] at hu ⊢
   rw [g1] at hu
   rw [<- Nat.add_assoc,c1,<- hu]
 ·intro u hu
  simp [sCl] at hu
  obtain ⟨_,_,_,rfl | rfl⟩:=hu<;>rfl
 ·intro v' w' h2 h3 _ h5
  have h6:SY w' v' (l++zs):=by
   unfold SY
   have e:sCl (l++zs)=sCl l++sCl zs:=by simp [sCl]
   rw [e]
   simpa using h2
  obtain ⟨a',c',rfl⟩:=sy_len h6
  exact hK _ _ _ w' h6 ⟨h3,h5.imp id fun e=>⟨_,e,Nat.le_refl _⟩⟩
theorem infoBl_parts:∃ i,Tryz.prog.info? 83=some i/\i.zero=some (.slice none 0 0)/\i.size=1/\i.bytes=24:=by
 have h:(Tryz.prog.info? 83).map (fun i=>(i.zero,i.size,i.bytes))=some (some (.slice none 0 0),1,24):=by kernel_rfl
 cases e:Tryz.prog.info? 83 with
 | none=>rw [e] at h;cases h
 | some i=>rw [e] at h;simp at h;exact ⟨i,rfl,h⟩
theorem make_blF (n:Nat)(hn:n<=1048576)(w:World):(Instr.makeSlice 30 (.int .i64 (n:Int)) (.int .i64 (n:Int))).run Tryz.prog w=.ok (.slice (some ⟨w.heap.size,0,none⟩) n n) (w.alloc (.cells (madeCells #[.slice none 0 0] n) 83)):=by
 obtain ⟨i0,hi,hz0,hz1,hz2⟩:=infoBl_parts
 have:=run_makeSlice w 30 83 i0 (.slice none 0 0) Tryz.underlying30 hi hz0 .i64 .i64 (n:Int) (n:Int) (by omega) (by omega) (by rw [hz1];simp;omega) (by rw [hz2];omega) (by omega)
 rw [hz1] at this
 simpa [Value.cells] using this
theorem two_cells {w:World}{b:Nat}{v0 v1:Value}{t:TypeId}(h:w.heap[b]?=some (.cells #[v0,v1] t (0,0))):w.cell? ⟨b,0,none⟩=some v0/\w.cell? ⟨b,1,none⟩=some v1/\w.frozen? ⟨b,0,none⟩=false/\w.frozen? ⟨b,1,none⟩=false :=
 ⟨(cQa h).trans rfl,(cQa h).trans rfl,by simp [World.frozen?,h],by simp [World.frozen?,h]⟩
theorem below_set2 {B:Nat}{a w:World}(h:Below B a w){b:Nat}(hb:B<=b)(i j:Nat)(u v:Value):Below B a ((w.setCell ⟨b,i,none⟩ u).setCell ⟨b,j,none⟩ v):=(h.setCell (p:=⟨b,i,none⟩) hb u).setCell (p:=⟨b,j,none⟩) hb v
end Go.Proofs.YtlfiohdhcmmjbaaGreatDoor
