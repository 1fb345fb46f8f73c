import Derived.Test.YtfngoffkmlalaaaDoorArg
import Derived.Test.YtfngoffkmlalaaaDoorPuts
import Derived.Deep.Slices
namespace Go.Proofs.YtfngoffkmlalaaaDoor
set_option linter.unusedVariables false
open Go.ChangeShapes Go.WideShapes Go.ChangeAt Go.RowKit

def dput {H : Type} (p : PutV) : DataW H := .agg [.lit (.int .i64 p.what), .lit (.int .u64 p.V), .lit (.int .i64 p.N), .lit (.string p.s.data.toList)]
theorem cellsPut : Tryd.prog.cellsOf 72 = 4 := by kernel_rfl
theorem cellsI64 : Tryd.prog.cellsOf 3 = 1 := by kernel_rfl
theorem cellsU64 : Tryd.prog.cellsOf 70 = 1 := by kernel_rfl
theorem cellsStr : Tryd.prog.cellsOf 9 = 1 := by kernel_rfl
theorem u64_bd {n : Int} (h : (Lit.int .u64 n).wf = true) : 0 ≤ n ∧ n ≤ 18446744073709551615 := by
  simp [Lit.wf, IntKind.min, IntKind.max, IntKind.signed, IntKind.bits] at h
  omega

set_option maxRecDepth 100000 in
/-- One thing, off its cells. -/
theorem open_put {H : Type} {enc : TypeId × Value → H} {W : World} {fuel : Nat} {cs : List Value} {x : DataW H × List MemPlace} (h : DataW.trod enc Tryd.prog W 0 (fun _ => true) true fuel 72 cs = some x) :
    ∃ p : PutV, cs = [.int .i64 p.what, .int .u64 p.V, .int .i64 p.N, .string p.s] ∧ x.1 = dput p ∧ (-9223372036854775808 ≤ p.what ∧ p.what ≤ 9223372036854775807) ∧ (0 ≤ p.V ∧ p.V ≤ 18446744073709551615) ∧ (-9223372036854775808 ≤ p.N ∧ p.N ≤ 9223372036854775807) := by
  obtain ⟨xs, n, _, hx, hl, hlen, hf⟩ := DataW.trod_struct Tryd.underlying72 h
  rw [cellsPut] at hl
  match xs, hlen, cs, hl with
  | [y0, y1, y2, y3], _, [e0, e1, e2, e3], _ =>
    have g0 := hf 0 _ rfl
    have g1 := hf 1 _ rfl
    have g2 := hf 2 _ rfl
    have g3 := hf 3 _ rfl
    simp [cellsI64, cellsU64, cellsStr] at g0 g1 g2 g3
    obtain ⟨a, ha, hya, wa⟩ := DataW.trod_int Tryd.underlying3 g0
    obtain ⟨b, hb, hyb, wb⟩ := DataW.trod_int Tryd.underlying70 g1
    obtain ⟨c, hc, hyc, wc⟩ := DataW.trod_int Tryd.underlying3 g2
    obtain ⟨s, hs, hys, _⟩ := DataW.trod_string Tryd.underlying9 g3
    simp only [List.cons.injEq, and_true] at ha hb hc hs
    subst ha; subst hb; subst hc; subst hs
    subst hya; subst hyb; subst hyc; subst hys
    subst hx
    exact ⟨⟨a, b, c, s⟩, rfl, rfl, int_bd wa, u64_bd wb, int_bd wc⟩

set_option maxRecDepth 100000 in
/-- A list of things that came in. -/
theorem open_puts {H : Type} {enc : TypeId × Value → H} {W : World} {base : Nat} {v : Value} {d : DataW H} {p : List MemPlace} (hv : Value.okWide Tryd.prog W .any base 52 v)
    (h : DataW.Trod enc Tryd.prog W 0 (fun _ => true) true 52 v d p) :
    ∃ (a : Option Addr) (cap : Nat) (ps : List PutV), v = .slice a ps.length cap ∧ ((d = .nil ∧ ps = []) ∨ ∃ spare, d = .slice (ps.map dput) spare) ∧ ((∀ p ∈ ps, p.s.size ≤ 2000000) → PutsAt W a ps) := by
  obtain ⟨a0, len0, cap0, rfl⟩ := okWide_slice Tryd.underlying52 hv
  obtain ⟨fuel, hf⟩ := h
  rcases Go.Deep.open_slice Tryd.underlying52 hf with ⟨hcs, hx⟩ | ⟨x, l, c, m, n, D, Pl, hcs, _, hl, _, hm, hx, hel⟩
  · simp [Value.cells] at hcs
    obtain ⟨rfl, rfl, rfl⟩ := hcs
    simp only [Prod.mk.injEq] at hx
    exact ⟨none, 0, [], rfl, .inl ⟨hx.1, rfl⟩, fun _ => ⟨(fun p hp => by cases hp), fun h => absurd rfl h⟩⟩
  · simp [Value.cells] at hcs
    obtain ⟨rfl, rfl, rfl⟩ := hcs
    simp only [Prod.mk.injEq] at hx
    have hm' : m = cap0 := by simpa using hm
    have each : ∀ i, i < m → ∃ pv : PutV, (W.cell? (x.add (i * 4)) = some (.int .i64 pv.what) ∧ W.cell? (x.add (i * 4 + 1)) = some (.int .u64 pv.V) ∧ W.cell? (x.add (i * 4 + 2)) = some (.int .i64 pv.N) ∧ W.cell? (x.add (i * 4 + 3)) = some (.string pv.s)) ∧ D i = dput pv ∧ (-9223372036854775808 ≤ pv.what ∧ pv.what ≤ 9223372036854775807) ∧ (0 ≤ pv.V ∧ pv.V ≤ 18446744073709551615) ∧ (-9223372036854775808 ≤ pv.N ∧ pv.N ≤ 9223372036854775807) := by
      intro i hi
      obtain ⟨cs', h1, h2⟩ := hel i hi
      rw [cellsPut] at h1
      obtain ⟨_, _, hcell⟩ := World.cells?_some h1
      obtain ⟨pv, hcs', hD, b1, b2, b3⟩ := open_put h2
      subst hcs'
      have e0 := hcell 0 (by omega)
      have e1 := hcell 1 (by omega)
      have e2 := hcell 2 (by omega)
      have e3 := hcell 3 (by omega)
      rw [Go.Deep.add_add] at e0 e1 e2 e3
      exact ⟨pv, ⟨by simpa using e0, by simpa using e1, by simpa using e2, by simpa using e3⟩, hD, b1, b2, b3⟩
    obtain ⟨f, hfs⟩ : ∃ f : Nat → PutV, ∀ i, i < m → (W.cell? (x.add (i * 4)) = some (.int .i64 (f i).what) ∧ W.cell? (x.add (i * 4 + 1)) = some (.int .u64 (f i).V) ∧ W.cell? (x.add (i * 4 + 2)) = some (.int .i64 (f i).N) ∧ W.cell? (x.add (i * 4 + 3)) = some (.string (f i).s)) ∧ D i = dput (f i) ∧ (-9223372036854775808 ≤ (f i).what ∧ (f i).what ≤ 9223372036854775807) ∧ (0 ≤ (f i).V ∧ (f i).V ≤ 18446744073709551615) ∧ (-9223372036854775808 ≤ (f i).N ∧ (f i).N ≤ 9223372036854775807) :=
      ⟨fun i => if h : i < m then Classical.choose (each i h) else .none, fun i h => by simp only [dif_pos h]; exact Classical.choose_spec (each i h)⟩
    have hpl : ((List.range len0).map f).length = len0 := by simp
    have hgd : ∀ i, i < len0 → ((List.range len0).map f).getD i .none = f i := fun i hi => by simp [List.getD, hi]
    refine ⟨some x, cap0, (List.range len0).map f, by rw [hpl], .inr ⟨(List.range (m - len0)).map fun j => D (len0 + j), ?_⟩, fun hsz => ⟨fun p hp => ?_, fun hne => ?_⟩⟩
    · rw [hx.1, List.map_map]
      congr 1
      apply List.map_congr_left
      intro i hi
      exact (hfs i (by have := List.mem_range.1 hi; omega)).2.1
    · have hp' := hp
      obtain ⟨i, hi, rfl⟩ := List.mem_map.1 hp
      obtain ⟨_, _, b1, b2, b3⟩ := hfs i (by have := List.mem_range.1 hi; omega)
      exact ⟨b1.1, b1.2, b2.1, b2.2, b3.1, b3.2, hsz _ hp'⟩
    · obtain ⟨b, off, spot⟩ := x
      have h0 : 0 < len0 := by
        rcases Nat.eq_zero_or_pos len0 with e | e
        · subst e; simp at hne
        · exact e
      have hc0 := (hfs 0 (by omega)).1.1
      have hspot : spot = none := by simpa [Addr.add] using World.cell?_spot hc0
      subst hspot
      refine ⟨b, off, rfl, fun i hi => ?_⟩
      rw [hpl] at hi
      rw [hgd i hi]
      obtain ⟨⟨e0, e1, e2, e3⟩, _⟩ := hfs i (by omega)
      rw [add_none] at e0 e1 e2 e3
      exact ⟨e0, by rw [Nat.add_assoc]; exact e1, by rw [Nat.add_assoc]; exact e2, by rw [Nat.add_assoc]; exact e3⟩

theorem bulk_put {H : Type} (p : PutV) : Rows.uptoBulk (dput (H := H) p) = p.s.size + 5 := by
  have e : p.s.data.toList.length = p.s.size := by rw [Array.length_toList]; rfl
  simp only [dput, Rows.uptoBulk, Rows.uptoBulkAll]
  omega
theorem bulk_puts {H : Type} : ∀ ps : List PutV, (ps.map fun p => p.s.size + 5).sum = Rows.uptoBulkAll (ps.map (dput (H := H))) := by
  intro ps
  induction ps with
  | nil => simp [Rows.uptoBulkAll]
  | cons p r ih => simp only [List.map_cons, List.sum_cons, Rows.uptoBulkAll, bulk_put, ih]
theorem sum_facts : ∀ ps : List PutV, ps.length ≤ (ps.map fun p => p.s.size + 5).sum ∧ tot ps ≤ 2 * (ps.map fun p => p.s.size + 5).sum ∧ ∀ p ∈ ps, p.s.size ≤ (ps.map fun p => p.s.size + 5).sum := by
  intro ps
  induction ps with
  | nil => simp [tot]
  | cons q r ih =>
    obtain ⟨h1, h2, h3⟩ := ih
    have e : tot (q :: r) = (10 + q.s.size) + tot r := by simp [tot]
    refine ⟨by simp only [List.length_cons, List.map_cons, List.sum_cons]; omega, by rw [e]; simp only [List.map_cons, List.sum_cons]; omega, fun p hp => ?_⟩
    rcases List.mem_cons.1 hp with rfl | hp
    · simp only [List.map_cons, List.sum_cons]; omega
    · have := h3 p hp; simp only [List.map_cons, List.sum_cons]; omega
/-- What the bound says of the list. -/
theorem puts_bulk {H : Type} {d : DataW H} {ps : List PutV} (h : (d = .nil ∧ ps = []) ∨ ∃ spare, d = .slice (ps.map dput) spare) (hk : Rows.uptoBulk d ≤ 1048576) : ps.length ≤ 2000000 ∧ tot ps ≤ 100000000 ∧ ∀ p ∈ ps, p.s.size ≤ 2000000 := by
  rcases h with ⟨_, rfl⟩ | ⟨spare, rfl⟩
  · exact ⟨by simp, by simp [tot], fun p hp => by cases hp⟩
  · obtain ⟨h1, h2, h3⟩ := sum_facts ps
    simp only [Rows.uptoBulk] at hk
    rw [← bulk_puts] at hk
    exact ⟨by omega, by omega, fun p hp => by have := h3 p hp; omega⟩
end Go.Proofs.YtfngoffkmlalaaaDoor
