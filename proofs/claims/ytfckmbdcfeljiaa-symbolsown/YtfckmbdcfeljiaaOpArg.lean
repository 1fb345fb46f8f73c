import Derived.Test.YtfckmbdcfeljiaaSArg
import Derived.Deep.Slices
namespace Go.Proofs.Ytfckmbdcfeljiaa
set_option linter.unusedVariables false
open Go.ChangeShapes Go.WideShapes Go.ChangeAt Go.RowKit

/-- One call of a book, as it came in. -/
structure OpV where
  kd : Int
  s : ByteArray
  k : Int
  n : Int
  x : Int
  y : Int
def OpV.none : OpV := ⟨0, ⟨#[]⟩, 0, 0, 0, 0⟩
theorem cellsOp : Try.prog.cellsOf 74 = 6 := by kernel_rfl
theorem cellsI64 : Try.prog.cellsOf 3 = 1 := by kernel_rfl
theorem cellsStr : Try.prog.cellsOf 9 = 1 := by kernel_rfl
theorem cellsKind : Try.prog.cellsOf 64 = 1 := by kernel_rfl
theorem cellsPair : Try.prog.cellsOf 72 = 2 := by kernel_rfl
/-- They can be read in w. -/
def OpsAt (w : World) (ao : Option Addr) (l : List OpV) : Prop := (∀ o ∈ l, o.s.size ≤ maxLen) ∧ (l ≠ [] → ∃ b off, ao = some ⟨b, off, none⟩ ∧ b < w.heap.size ∧ ∀ i, i < l.length →
  w.cell? ⟨b, off + i * 6, none⟩ = some (.int .i64 (l.getD i .none).kd) ∧ w.cell? ⟨b, off + i * 6 + 1, none⟩ = some (.string (l.getD i .none).s) ∧ w.cell? ⟨b, off + i * 6 + 2, none⟩ = some (.int .i64 (l.getD i .none).k) ∧ w.cell? ⟨b, off + i * 6 + 3, none⟩ = some (.int .i64 (l.getD i .none).n) ∧ w.cell? ⟨b, off + i * 6 + 4, none⟩ = some (.int .i64 (l.getD i .none).x) ∧ w.cell? ⟨b, off + i * 6 + 5, none⟩ = some (.int .i64 (l.getD i .none).y))
set_option maxRecDepth 100000 in
theorem open_op {H : Type} {enc : TypeId × Value → H} {W : World} {fuel : Nat} {cs : List Value} {x : DataW H × List MemPlace} (h : DataW.trod enc Try.prog W 0 (fun _ => true) true fuel 74 cs = some x) :
    ∃ o : OpV, cs = [.int .i64 o.kd, .string o.s, .int .i64 o.k, .int .i64 o.n, .int .i64 o.x, .int .i64 o.y] ∧ o.s.size ≤ maxLen := by
  obtain ⟨xs, n, _, hx, hl, hlen, hf⟩ := DataW.trod_struct Try.underlying74 h
  rw [cellsOp] at hl
  match xs, hlen, cs, hl with
  | [y0, y1, y2, y3], _, [e0, e1, e2, e3, e4, e5], _ =>
    have g0 := hf 0 _ rfl
    have g1 := hf 1 _ rfl
    have g2 := hf 2 _ rfl
    have g3 := hf 3 _ rfl
    simp [cellsI64, cellsStr, cellsSym, cellsPair] at g0 g1 g2 g3
    obtain ⟨a, ha, _, _⟩ := DataW.trod_int Try.underlying3 g0
    obtain ⟨s, hs, _, hsz⟩ := DataW.trod_string Try.underlying9 g1
    obtain ⟨xs2, n2, _, _, _, hlen2, hf2⟩ := DataW.trod_struct Try.underlying70 g2
    obtain ⟨xs3, n3, _, _, _, hlen3, hf3⟩ := DataW.trod_struct Try.underlying72 g3
    match xs2, hlen2, xs3, hlen3 with
    | [z0, z1], _, [u0, u1], _ =>
      have j0 := hf2 0 _ rfl
      have j1 := hf2 1 _ rfl
      have k0 := hf3 0 _ rfl
      have k1 := hf3 1 _ rfl
      simp [cellsI64, cellsKind] at j0 j1 k0 k1
      obtain ⟨b, hb, _, _⟩ := DataW.trod_int Try.underlying64 j0
      obtain ⟨c, hc, _, _⟩ := DataW.trod_int Try.underlying3 j1
      obtain ⟨d, hd, _, _⟩ := DataW.trod_int Try.underlying3 k0
      obtain ⟨e, he, _, _⟩ := DataW.trod_int Try.underlying3 k1
      simp only [List.cons.injEq, and_true] at ha hs hb hc hd he
      subst ha; subst hs; subst hb; subst hc; subst hd; subst he
      exact ⟨⟨a, s, b, c, d, e⟩, rfl, hsz⟩
set_option maxRecDepth 100000 in
theorem open_ops {H : Type} {enc : TypeId × Value → H} {W : World} {base : Nat} {v : Value} {d : DataW H} {p : List MemPlace} (hv : Value.okWide Try.prog W .any base 22 v)
    (h : DataW.Trod enc Try.prog W 0 (fun _ => true) true 22 v d p) :
    ∃ (a : Option Addr) (n cap : Nat) (l : List OpV), v = .slice a n cap ∧ (n = l.length ∧ OpsAt W a l) ∧ ((d = .nil ∧ l = []) ∨ ∃ el spare, d = .slice el spare ∧ el.length = l.length) := by
  obtain ⟨a0, len0, cap0, rfl⟩ := okWide_slice Try.underlying22 hv
  obtain ⟨fuel, hf⟩ := h
  rcases Go.Deep.open_slice Try.underlying22 hf with ⟨hcs, hx⟩ | ⟨x, l, c, m, n, D, Pl, hcs, _, hl, _, hm, hx, hel⟩
  · simp [Value.cells] at hcs
    obtain ⟨rfl, rfl, rfl⟩ := hcs
    simp only [Prod.mk.injEq] at hx
    exact ⟨none, 0, 0, [], rfl, ⟨rfl, (fun o ho => by cases ho), fun h => absurd rfl h⟩, .inl ⟨hx.1, rfl⟩⟩
  · simp [Value.cells] at hcs
    obtain ⟨rfl, rfl, rfl⟩ := hcs
    simp only [Prod.mk.injEq] at hx
    have hm' : m = cap0 := by simpa using hm
    have each : ∀ i, i < m → ∃ o : OpV, (W.cell? (x.add (i * 6)) = some (.int .i64 o.kd) ∧ W.cell? (x.add (i * 6 + 1)) = some (.string o.s) ∧ W.cell? (x.add (i * 6 + 2)) = some (.int .i64 o.k) ∧ W.cell? (x.add (i * 6 + 3)) = some (.int .i64 o.n) ∧ W.cell? (x.add (i * 6 + 4)) = some (.int .i64 o.x) ∧ W.cell? (x.add (i * 6 + 5)) = some (.int .i64 o.y)) ∧ o.s.size ≤ maxLen := by
      intro i hi
      obtain ⟨cs', h1, h2⟩ := hel i hi
      rw [cellsOp] at h1
      obtain ⟨_, _, hcell⟩ := World.cells?_some h1
      obtain ⟨o, hcs', hz⟩ := open_op h2
      subst hcs'
      have e0 := hcell 0 (by omega)
      have e1 := hcell 1 (by omega)
      have e2 := hcell 2 (by omega)
      have e3 := hcell 3 (by omega)
      have e4 := hcell 4 (by omega)
      have e5 := hcell 5 (by omega)
      rw [Go.Deep.add_add] at e0 e1 e2 e3 e4 e5
      exact ⟨o, ⟨by simpa using e0, by simpa using e1, by simpa using e2, by simpa using e3, by simpa using e4, by simpa using e5⟩, hz⟩
    obtain ⟨f, hfs⟩ : ∃ f : Nat → OpV, ∀ i, i < m → (W.cell? (x.add (i * 6)) = some (.int .i64 (f i).kd) ∧ W.cell? (x.add (i * 6 + 1)) = some (.string (f i).s) ∧ W.cell? (x.add (i * 6 + 2)) = some (.int .i64 (f i).k) ∧ W.cell? (x.add (i * 6 + 3)) = some (.int .i64 (f i).n) ∧ W.cell? (x.add (i * 6 + 4)) = some (.int .i64 (f i).x) ∧ W.cell? (x.add (i * 6 + 5)) = some (.int .i64 (f i).y)) ∧ (f i).s.size ≤ maxLen :=
      ⟨fun i => if h : i < m then Classical.choose (each i h) else .none, fun i h => by simp only [dif_pos h]; exact Classical.choose_spec (each i h)⟩
    have hpl : ((List.range len0).map f).length = len0 := by simp
    have hgd : ∀ i, i < len0 → ((List.range len0).map f).getD i .none = f i := fun i hi => by simp [List.getD, hi]
    refine ⟨some x, len0, cap0, (List.range len0).map f, rfl, ⟨by rw [hpl], fun o ho => ?_, fun hne => ?_⟩, .inr ⟨_, _, hx.1, by simp⟩⟩
    · obtain ⟨i, hi, rfl⟩ := List.mem_map.1 ho
      exact (hfs i (by have := List.mem_range.1 hi; omega)).2
    · obtain ⟨b, off, spot⟩ := x
      have h0 : 0 < len0 := by
        rcases Nat.eq_zero_or_pos len0 with e | e
        · subst e; simp at hne
        · exact e
      have hc0 := (hfs 0 (by omega)).1.1
      have hspot : spot = none := by simpa [Addr.add] using World.cell?_spot hc0
      subst hspot
      refine ⟨b, off, rfl, ?_, fun i hi => ?_⟩
      · have := World.block_lt_of_cell? W _ hc0
        rw [add_none] at this
        exact this
      · rw [hpl] at hi
        rw [hgd i hi]
        obtain ⟨⟨e0, e1, e2, e3, e4, e5⟩, _⟩ := hfs i (by omega)
        rw [add_none] at e0 e1 e2 e3 e4 e5
        exact ⟨e0, by rw [Nat.add_assoc]; exact e1, by rw [Nat.add_assoc]; exact e2, by rw [Nat.add_assoc]; exact e3, by rw [Nat.add_assoc]; exact e4, by rw [Nat.add_assoc]; exact e5⟩
theorem ops_reach {H : Type} {ts : List TypeId} {ds : List (DataW H)} (hs : (DataW.weightsEach Try.prog ts ds).all (· ≤ reachBytes) = true) {j : Nat} {d : DataW H} {l : List OpV} (ht : ts[j]? = some 22) (hd : ds[j]? = some d)
    (h : (d = .nil ∧ l = []) ∨ ∃ el spare, d = .slice el spare ∧ el.length = l.length) : l.length ≤ 140737488351232 := by
  rcases h with ⟨_, rfl⟩ | ⟨el, spare, rfl, e⟩
  · simp
  · have := sized_slice hs ht hd Try.underlying22
    rw [show Try.prog.bytesOf 74 = 56 by kernel_rfl] at this
    simp [reachBytes] at this
    omega
end Go.Proofs.Ytfckmbdcfeljiaa
