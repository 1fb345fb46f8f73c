import Derived.Test.YtaiebnppfabfgaaPTR5
import Derived.Maps.AppendAt
namespace Go.Proofs.Ytaiebnppfabfgaa
set_option linter.unusedVariables false
set_option maxRecDepth 100000
set_option maxHeartbeats 16000000
open Go.RowKit
theorem SymRow.takeS {w : World} {la : Option Addr} {l : List (Int × Int)} (h : SymRow w la l) (i : Nat) : SymRow w la (l.take i) := fun hne => by
 have hl : l ≠ [] := fun e => hne (by rw [e]; simp)
 obtain ⟨b, o, e, hb, hc⟩ := h hl
 refine ⟨b, o, e, hb, fun j hj => ?_⟩
 have hj2 : j < l.length /\ j < i := by rw [List.length_take] at hj; omega
 have e2 : (l.take i).getD j (0, 0) = l.getD j (0, 0) := by simp [List.getD, hj2.2]
 rw [e2]
 exact hc j hj2.1
theorem SymRow.dropS {w : World} {b o : Nat} {l : List (Int × Int)} (h : SymRow w (some ⟨b, o, none⟩) l) (i : Nat) : SymRow w (some ⟨b, o + i * 2, none⟩) (l.drop i) := fun hne => by
 have hl : l ≠ [] := fun e => hne (by rw [e]; simp)
 obtain ⟨b', o', e, hb, hc⟩ := h hl
 simp at e
 obtain ⟨rfl, rfl⟩ := e
 refine ⟨b, _, rfl, hb, fun j hj => ?_⟩
 have hj2 : i + j < l.length := by rw [List.length_drop] at hj; omega
 have e2 : (l.drop i).getD j (0, 0) = l.getD (i + j) (0, 0) := by simp [List.getD, List.getElem?_drop]
 have := hc (i + j) hj2
 rw [e2]
 rw [show o + i * 2 + j * 2 = o + (i + j) * 2 by omega]
 exact this
theorem slice_toS (b o lc len i : Nat) (hi : i <= lc) (w : World) : (Instr.slice 63 (.slice (some ⟨b, o, none⟩) len lc) none (some (.int .i64 (i : Int))) none).run Try.prog w = .ok (.slice (some ⟨b, o, none⟩) i lc) w := by
 obtain ⟨i0, hinf, _, hz1, _⟩ := infoSym_parts
 have hu : Try.prog.underlying 63 = some (.slice (Try.prog.elem 63)) := by kernel_rfl
 have he : Try.prog.elem 63 = 43 := by kernel_rfl
 have := run_slice_h (P := Try.prog) (w := w) 63 (some ⟨b, o, none⟩) len lc hu .i64 (i : Int) (by omega) (by omega)
 rw [this, he]
 simp [sizeOf, typeInfo, hinf, hz1]
 unfold sliced
 split <;> simp [add_none]
theorem slice_froS (b o lc len i : Nat) (hi : i <= len) (hc : len <= lc) :
  ∃ o' c', (∀ w, (Instr.slice 63 (.slice (some ⟨b, o, none⟩) len lc) (some (.int .i64 (i : Int))) none none).run Try.prog w = .ok (.slice (some ⟨b, o', none⟩) (len - i) c') w) /\ ∀ w (l : List (Int × Int)), l.length = len -> SymRow w (some ⟨b, o, none⟩) l -> SymRow w (some ⟨b, o', none⟩) (l.drop i) := by
 obtain ⟨i0, hinf, _, hz1, _⟩ := infoSym_parts
 have hu : Try.prog.underlying 63 = some (.slice (Try.prog.elem 63)) := by kernel_rfl
 have he : Try.prog.elem 63 = 43 := by kernel_rfl
 have hrun : ∀ w : World, (Instr.slice 63 (.slice (some ⟨b, o, none⟩) len lc) (some (.int .i64 (i : Int))) none none).run Try.prog w = .ok (sliced (some ⟨b, o, none⟩) i len lc 2) w := by
  intro w
  have := run_slice_l (P := Try.prog) (w := w) 63 (some ⟨b, o, none⟩) len lc hu .i64 (i : Int) (by omega) (by omega)
  rw [this, he]
  simp [sizeOf, typeInfo, hinf, hz1]
 by_cases hcp : lc = i
 ·refine ⟨o, lc - i, fun w => by rw [hrun w]; simp [sliced, hcp], fun w l hl h => ?_⟩
  rw [List.drop_eq_nil_of_le (by omega)]
  exact fun h => absurd rfl h
 ·exact ⟨o + i * 2, lc - i, fun w => by rw [hrun w]; simp [sliced, hcp, add_none], fun w l _ h => h.dropS i⟩
theorem wpList_sy_cat {ops : Array Oper} {rest : List Oper} {o : Oper} {a : Act} {Q : Exit -> Act -> World -> Prop} {w : World} (hgd : o.guard = none) (s x : Operand)
  (ho : o.op = .call { callee := .builtin .append, args := #[s, x], argTypes := #[63, 63] })
  (v : Value) (l : List (Int × Int)) (hs : a.eval s = v) (h : SY w v l) (b off c : Nat) (n : Nat) (zs : List (Int × Int)) (hx : a.eval x = .slice (some ⟨b, off, none⟩) n c) (hn : zs.length = n) (hr : SymRow w (some ⟨b, off, none⟩) zs) (hlen : l.length + zs.length <= 100000000)
  (hK : ∀ a' n' c' w', SY w' (.slice a' n' c') (l ++ zs) -> Grew w w' v (.slice a' n' c') -> wpList Try.prog ops Q rest (a.put o.dst (.slice a' n' c')) w') : wpList Try.prog ops Q (o :: rest) a w := by
 obtain ⟨i0, hi, hz0, hz1, hz2⟩ := infoSym_parts
 subst hn
 refine wpList_append_own_at w hgd s x 63 ho 0 43 i0 (.agg #[.int .i64 0, .int .i64 0]) 2 16 Try.underlying63 hi hz0 hz1 hz2 rfl (by decide) v l.length (symCells l) hs h ⟨b, off, none⟩ zs.length c (symCells zs) hx (by rw [symCells_len]) ?_ ?_ (by unfold maxLen; omega) (by omega) (Nat.zero_le _) ?_
 ·intro j u hu
  have hj : j < zs.length * 2 := by have := (List.getElem?_eq_some_iff.1 hu).1; rwa [symCells_len] at this
  have hj2 : j / 2 < zs.length := by omega
  obtain ⟨b', off', e, _, hc⟩ := hr (by intro h; subst h; simp at hj)
  simp at e
  obtain ⟨rfl, rfl⟩ := e
  obtain ⟨c0, c1⟩ := hc (j / 2) hj2
  obtain ⟨g0, g1⟩ := symCells_get zs (j / 2) hj2
  rw [add_none]
  rcases (by omega : j = j / 2 * 2 ∨ j = j / 2 * 2 + 1) with q | q
  ·rw [q] at hu ⊢
   rw [g0] at hu
   rw [c0, <- hu]
  ·rw [q] at hu ⊢
   rw [g1] at hu
   rw [<- Nat.add_assoc, c1, <- hu]
 ·intro u hu
  simp [symCells] at hu
  obtain ⟨_, _, _, rfl | rfl⟩ := hu <;> rfl
 ·intro v' w' h2 h3 _ h5
  have h6 : SY w' v' (l ++ zs) := by
   unfold SY
   have e : symCells (l ++ zs) = symCells l ++ symCells zs := by simp [symCells]
   rw [e]
   simpa using h2
  obtain ⟨a', c', rfl⟩ := sy_len h6
  exact hK _ _ _ w' h6 ⟨h3, h5.imp id fun e => ⟨_, e, Nat.le_refl _⟩⟩
theorem infoBl_parts : ∃ i, Try.prog.info? 28 = some i /\ i.zero = some (.slice none 0 0) /\ i.size = 1 /\ i.bytes = 24 := by
 have h : (Try.prog.info? 28).map (fun i => (i.zero, i.size, i.bytes)) = some (some (.slice none 0 0), 1, 24) := by kernel_rfl
 cases e : Try.prog.info? 28 with
 | none => rw [e] at h; cases h
 | some i => rw [e] at h; simp at h; exact ⟨i, rfl, h⟩
theorem make_blF (n : Nat) (hn : n <= 1048576) (w : World) : (Instr.makeSlice 111 (.int .i64 (n : Int)) (.int .i64 (n : Int))).run Try.prog w = .ok (.slice (some ⟨w.heap.size, 0, none⟩) n n) (w.alloc (.cells (madeCells #[.slice none 0 0] n) 28)) := by
 obtain ⟨i0, hi, hz0, hz1, hz2⟩ := infoBl_parts
 have := run_makeSlice w 111 28 i0 (.slice none 0 0) Try.underlying111 hi hz0 .i64 .i64 (n : Int) (n : Int) (by omega) (by omega) (by rw [hz1]; simp; omega) (by rw [hz2]; omega) (by omega)
 rw [hz1] at this
 simpa [Value.cells] using this
def GM (w : World) (gb n k : Nat) : Prop := ∃ V : List Value, V.length = n /\ w.heap[gb]? = some (.cells V.toArray 28 (0, 0)) /\ ∀ i, i < k -> ∃ rb M, V[i]? = some (.slice (some ⟨rb, 0, none⟩) n n) /\ BB w rb M /\ M.length = n /\ gb < rb
theorem GM.lt {w : World} {gb n k : Nat} (h : GM w gb n k) : gb < w.heap.size := by
 obtain ⟨V, _, hh, _⟩ := h
 exact lt_of_block hh
theorem GM.made (w : World) (n : Nat) : GM (w.alloc (.cells (madeCells #[.slice none 0 0] n) 28)) w.heap.size n 0 :=
 ⟨List.replicate n (.slice none 0 0), by simp, by rw [heap_alloc_new, made_listF], fun i hi => absurd hi (Nat.not_lt_zero i)⟩
theorem GM.any {w w' : World} {gb n k : Nat} (h : GM w gb n k) (hb : Below w.heap.size w w') : GM w' gb n k := by
 obtain ⟨V, hl, hh, hr⟩ := h
 refine ⟨V, hl, (hb.block _ (lt_of_block hh)).trans hh, fun i hi => ?_⟩
 obtain ⟨rb, M, e, b, l, g⟩ := hr i hi
 exact ⟨rb, M, e, b.later hb, l, g⟩
theorem GM.cell {w : World} {gb n k : Nat} (h : GM w gb n k) {i : Nat} (hi : i < k) : ∃ rb M, w.cell? ⟨gb, i, none⟩ = some (.slice (some ⟨rb, 0, none⟩) n n) /\ BB w rb M /\ M.length = n /\ gb < rb := by
 obtain ⟨V, hl, hh, hr⟩ := h
 obtain ⟨rb, M, e, q⟩ := hr i hi
 exact ⟨rb, M, by rw [cellq_any hh]; simpa using e, q⟩
theorem GM.has {w : World} {gb n k : Nat} (h : GM w gb n k) {i : Nat} (hi : i < n) : ∃ v, w.cell? ⟨gb, i, none⟩ = some v := by
 obtain ⟨V, hl, hh, hr⟩ := h
 exact ⟨V[i]'(by omega), by rw [cellq_any hh]; simp [hl, hi]⟩
theorem GM.free {w : World} {gb n k : Nat} (h : GM w gb n k) (i : Nat) : w.frozen? ⟨gb, i, none⟩ = false := by
 obtain ⟨V, hl, hh, hr⟩ := h
 simp [World.frozen?, hh]
theorem GM.fill {w : World} {gb n k : Nat} (h : GM w gb n k) (hk : k < n) : GM ((w.alloc (.cells (madeCells #[.bool false] n) 4)).setCell ⟨gb, k, none⟩ (.slice (some ⟨w.heap.size, 0, none⟩) n n)) gb n (k + 1) := by
 have hlt := h.lt
 have bA := below_alloc w (.cells (madeCells #[.bool false] n) 4)
 have hM := BB.made w n
 obtain ⟨V, hl, hh, hr⟩ := h.any bA
 obtain ⟨_, _, _, hr0⟩ := h
 generalize w.alloc (.cells (madeCells #[.bool false] n) 4) = w1 at *
 refine ⟨V.set k _, by simpa using hl, by rw [heap_set hh k, List.setIfInBounds_toArray], fun i hi => ?_⟩
 by_cases e : i = k
 ·subst e
  exact ⟨w.heap.size, List.replicate n false, by simp [hl, hk], hM.kept (Below.heap_setCell _ _ _ _ (by show w.heap.size ≠ gb; omega)), by simp, hlt⟩
 ·obtain ⟨rb, M, e1, b1, l1, g1⟩ := hr i (by omega)
  exact ⟨rb, M, by rw [List.getElem?_set_ne (by omega)]; exact e1, b1.kept (Below.heap_setCell _ _ _ _ (by show rb ≠ gb; omega)), l1, g1⟩
theorem GM.set {w : World} {gb n k rb : Nat} {M : List Bool} (h : GM w gb n k) (hb : BB w rb M) (hM : M.length = n) (hg : gb < rb) (j : Nat) (v : Bool) : GM (w.setCell ⟨rb, j, none⟩ (.bool v)) gb n k := by
 obtain ⟨V, hl, hh, hr⟩ := h
 refine ⟨V, hl, (Below.heap_setCell _ _ _ _ (by show gb ≠ rb; omega)).trans hh, fun i hi => ?_⟩
 obtain ⟨rb', M', e1, b1, l1, g1⟩ := hr i hi
 by_cases e : rb' = rb
 ·subst e
  exact ⟨rb', M.set j v, e1, hb.set _ _, by simpa using hM, g1⟩
 ·exact ⟨rb', M', e1, b1.kept (Below.heap_setCell _ _ _ _ e), l1, g1⟩
structure CW (g : GV) (w : World) (mb gb k : Nat) (NU : List Bool) (wr : World) : Prop where
 gm : GM wr gb g.ns.length k
 nu : BB wr mb NU
 ord : w.heap.size < mb /\ mb < gb
 box : wr.heap[w.heap.size]? = some (gBox g)
 bel : Below w.heap.size w wr
theorem CW.any {g : GV} {w wr w' : World} {mb gb k : Nat} {NU : List Bool} (h : CW g w mb gb k NU wr) (hb : Below wr.heap.size wr w') : CW g w mb gb k NU w' :=
 ⟨h.gm.any hb, h.nu.later hb, h.ord, (hb.block _ (lt_of_block h.box)).trans h.box, h.bel.trans (hb.mono h.bel.size)⟩
theorem CW.fill {g : GV} {w wr : World} {mb gb k : Nat} {NU : List Bool} (h : CW g w mb gb k NU wr) (hk : k < g.ns.length) : CW g w mb gb (k + 1) NU ((wr.alloc (.cells (madeCells #[.bool false] g.ns.length) 4)).setCell ⟨gb, k, none⟩ (.slice (some ⟨wr.heap.size, 0, none⟩) g.ns.length g.ns.length)) := by
 have h1 := h.any (below_alloc wr (.cells (madeCells #[.bool false] g.ns.length) 4))
 have ho := h.ord
 exact ⟨h.gm.fill hk, h1.nu.kept (Below.heap_setCell _ _ _ _ (by show mb ≠ gb; omega)), h.ord, (Below.heap_setCell _ _ _ _ (by show w.heap.size ≠ gb; omega)).trans h1.box, h1.bel.setCell (p := ⟨gb, k, none⟩) (by show w.heap.size <= gb; omega) _⟩
theorem CW.set {g : GV} {w wr : World} {mb gb k rb : Nat} {NU M : List Bool} (h : CW g w mb gb k NU wr) (hb : BB wr rb M) (hM : M.length = g.ns.length) (hg : gb < rb) (j : Nat) (v : Bool) : CW g w mb gb k NU (wr.setCell ⟨rb, j, none⟩ (.bool v)) := by
 have ho := h.ord
 exact ⟨h.gm.set hb hM hg j v, h.nu.kept (Below.heap_setCell _ _ _ _ (by show mb ≠ rb; omega)), h.ord, (Below.heap_setCell _ _ _ _ (by show w.heap.size ≠ rb; omega)).trans h.box, h.bel.setCell (p := ⟨rb, j, none⟩) (by show w.heap.size <= rb; omega) _⟩
end Go.Proofs.Ytaiebnppfabfgaa
