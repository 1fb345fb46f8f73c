import Derived.Test.YtgaoahifblifoaaDoorArg
import Derived.Deep.Slices
namespace Go.Proofs.YtgaoahifblifoaaDoor
set_option linter.unusedVariables false
open Go.ChangeShapes Go.WideShapes Go.ChangeAt Go.RowKit

/-- One reading, as it came in. -/
structure GetV where
  wh : Int
  mo : Int
  le : Int
  co : Int
def GetV.none : GetV := ⟨0, 0, 0, 0⟩
theorem cellsGet : Tryd.prog.cellsOf 68 = 4 := by kernel_rfl
theorem cellsInt : Tryd.prog.cellsOf 3 = 1 := by kernel_rfl
theorem cellsErr : Tryd.prog.cellsOf 36 = 1 := by kernel_rfl
def GetV.ok (o : GetV) : Prop := (-9223372036854775808 ≤ o.mo ∧ o.mo ≤ 9223372036854775807) ∧ o.le ≤ 9223372036854775807
/-- They can be read in w. -/
def GetsAt (w : World) (ao : Option Addr) (l : List GetV) : Prop := (∀ o ∈ l, o.ok) ∧ (l ≠ [] → ∃ b off, ao = some ⟨b, off, none⟩ ∧ b < w.heap.size ∧ ∀ i, i < l.length →
  w.cell? ⟨b, off + i * 4, none⟩ = some (.int .i64 (l.getD i .none).wh) ∧ w.cell? ⟨b, off + i * 4 + 1, none⟩ = some (.int .i64 (l.getD i .none).mo) ∧ w.cell? ⟨b, off + i * 4 + 2, none⟩ = some (.int .i64 (l.getD i .none).le) ∧ w.cell? ⟨b, off + i * 4 + 3, none⟩ = some (.int .i64 (l.getD i .none).co))
set_option maxRecDepth 100000 in
theorem open_get {H : Type} {enc : TypeId × Value → H} {W : World} {fuel : Nat} {cs : List Value} {x : DataW H × List MemPlace} (h : DataW.trod enc Tryd.prog W 0 (fun _ => true) true fuel 68 cs = some x) :
    ∃ o : GetV, cs = [.int .i64 o.wh, .int .i64 o.mo, .int .i64 o.le, .int .i64 o.co] ∧ o.ok := by
  obtain ⟨xs, n, _, hx, hl, hlen, hf⟩ := DataW.trod_struct Tryd.underlying68 h
  rw [cellsGet] at hl
  match xs, hlen, cs, hl with
  | [y0, y1, y2, y3], _, [e0, e1, e2, e3], _ =>
    have g0 := hf 0 _ rfl
    have g1 := hf 1 _ rfl
    have g2 := hf 2 _ rfl
    have g3 := hf 3 _ rfl
    simp [cellsInt, cellsErr] at g0 g1 g2 g3
    obtain ⟨a, ha, _, _⟩ := DataW.trod_int Tryd.underlying3 g0
    obtain ⟨b, hb, _, wb⟩ := DataW.trod_int Tryd.underlying3 g1
    obtain ⟨c, hc, _, wc⟩ := DataW.trod_int Tryd.underlying3 g2
    obtain ⟨d, hd, _, _⟩ := DataW.trod_int Tryd.underlying36 g3
    simp only [List.cons.injEq, and_true] at ha hb hc hd
    subst ha; subst hb; subst hc; subst hd
    exact ⟨⟨a, b, c, d⟩, rfl, int_bd wb, (int_bd wc).2⟩
set_option maxRecDepth 100000 in
theorem open_gets {H : Type} {enc : TypeId × Value → H} {W : World} {base : Nat} {v : Value} {d : DataW H} {p : List MemPlace} (hv : Value.okWide Tryd.prog W .any base 60 v)
    (h : DataW.Trod enc Tryd.prog W 0 (fun _ => true) true 60 v d p) :
    ∃ (a : Option Addr) (cap : Nat) (l : List GetV), v = .slice a l.length cap ∧ ((d = .nil ∧ l = []) ∨ ∃ el spare, d = .slice el spare ∧ el.length = l.length) ∧ GetsAt W a l := by
  obtain ⟨a0, len0, cap0, rfl⟩ := okWide_slice Tryd.underlying60 hv
  obtain ⟨fuel, hf⟩ := h
  rcases Go.Deep.open_slice Tryd.underlying60 hf with ⟨hcs, hx⟩ | ⟨x, l, c, m, n, D, Pl, hcs, _, hl, _, hm, hx, hel⟩
  · simp [Value.cells] at hcs
    obtain ⟨rfl, rfl, rfl⟩ := hcs
    simp only [Prod.mk.injEq] at hx
    exact ⟨none, 0, [], rfl, .inl ⟨hx.1, rfl⟩, (fun o ho => by cases ho), fun h => absurd rfl h⟩
  · simp [Value.cells] at hcs
    obtain ⟨rfl, rfl, rfl⟩ := hcs
    simp only [Prod.mk.injEq] at hx
    have hm' : m = cap0 := by simpa using hm
    have each : ∀ i, i < m → ∃ o : GetV, (W.cell? (x.add (i * 4)) = some (.int .i64 o.wh) ∧ W.cell? (x.add (i * 4 + 1)) = some (.int .i64 o.mo) ∧ W.cell? (x.add (i * 4 + 2)) = some (.int .i64 o.le) ∧ W.cell? (x.add (i * 4 + 3)) = some (.int .i64 o.co)) ∧ o.ok := by
      intro i hi
      obtain ⟨cs', h1, h2⟩ := hel i hi
      rw [cellsGet] at h1
      obtain ⟨_, _, hcell⟩ := World.cells?_some h1
      obtain ⟨o, hcs', hz⟩ := open_get h2
      subst hcs'
      have e0 := hcell 0 (by omega)
      have e1 := hcell 1 (by omega)
      have e2 := hcell 2 (by omega)
      have e3 := hcell 3 (by omega)
      rw [Go.Deep.add_add] at e0 e1 e2 e3
      exact ⟨o, ⟨by simpa using e0, by simpa using e1, by simpa using e2, by simpa using e3⟩, hz⟩
    obtain ⟨f, hfs⟩ : ∃ f : Nat → GetV, ∀ i, i < m → (W.cell? (x.add (i * 4)) = some (.int .i64 (f i).wh) ∧ W.cell? (x.add (i * 4 + 1)) = some (.int .i64 (f i).mo) ∧ W.cell? (x.add (i * 4 + 2)) = some (.int .i64 (f i).le) ∧ W.cell? (x.add (i * 4 + 3)) = some (.int .i64 (f i).co)) ∧ (f i).ok :=
      ⟨fun i => if h : i < m then Classical.choose (each i h) else .none, fun i h => by simp only [dif_pos h]; exact Classical.choose_spec (each i h)⟩
    have hpl : ((List.range len0).map f).length = len0 := by simp
    have hgd : ∀ i, i < len0 → ((List.range len0).map f).getD i .none = f i := fun i hi => by simp [List.getD, hi]
    refine ⟨some x, cap0, (List.range len0).map f, by rw [hpl], .inr ⟨_, _, hx.1, by simp⟩, fun o ho => ?_, fun hne => ?_⟩
    · obtain ⟨i, hi, rfl⟩ := List.mem_map.1 ho
      exact (hfs i (by have := List.mem_range.1 hi; omega)).2
    · obtain ⟨b, off, spot⟩ := x
      have h0 : 0 < len0 := by
        rcases Nat.eq_zero_or_pos len0 with e | e
        · subst e; simp at hne
        · exact e
      have hc0 := (hfs 0 (by omega)).1.1
      have hspot : spot = none := by simpa [Addr.add] using World.cell?_spot hc0
      subst hspot
      refine ⟨b, off, rfl, ?_, fun i hi => ?_⟩
      · have := World.block_lt_of_cell? W _ hc0
        rw [add_none] at this
        exact this
      · rw [hpl] at hi
        rw [hgd i hi]
        obtain ⟨⟨e0, e1, e2, e3⟩, _⟩ := hfs i (by omega)
        rw [add_none] at e0 e1 e2 e3
        exact ⟨e0, by rw [Nat.add_assoc]; exact e1, by rw [Nat.add_assoc]; exact e2, by rw [Nat.add_assoc]; exact e3⟩
theorem gets_reach {H : Type} {ts : List TypeId} {ds : List (DataW H)} (hs : (DataW.weightsEach Tryd.prog ts ds).all (· ≤ reachBytes) = true) {j : Nat} {d : DataW H} {l : List GetV} (ht : ts[j]? = some 60) (hd : ds[j]? = some d)
    (h : (d = .nil ∧ l = []) ∨ ∃ el spare, d = .slice el spare ∧ el.length = l.length) : l.length ≤ 140737488351232 := by
  rcases h with ⟨_, rfl⟩ | ⟨el, spare, rfl, e⟩
  · simp
  · have := sized_slice hs ht hd Tryd.underlying60
    rw [show Tryd.prog.bytesOf 68 = 32 by kernel_rfl] at this
    simp [reachBytes] at this
    omega
end Go.Proofs.YtgaoahifblifoaaDoor
