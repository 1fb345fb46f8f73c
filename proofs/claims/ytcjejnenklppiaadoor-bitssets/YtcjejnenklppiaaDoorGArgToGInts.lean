import Derived.Test.YtcjejnenklppiaaDoorBBaseToGRow
import Derived.Test.YtcjejnenklppiaaDoorRows
import Derived.ProofKit
import Derived.OpenShut
import Derived.ShutString
import Derived.ChangeOld
import Derived.Below
import Derived.SizedLaws
import Derived.Deep.Slices
import Derived.Lib.SmallJoins
namespace Go.Proofs.YtcjejnenklppiaaDoor
set_option linter.unusedVariables false
open Go.ChangeShapes Go.WideShapes Go.ChangeAt Go.RowKit

theorem gown : ownKnob Tryd.prog.godebug = none := by kernel_rfl
theorem glaid : laidOutB Tryd.prog = true := by kernel_rfl
theorem gcellsInt : Tryd.prog.cellsOf 3 = 1 := by kernel_rfl
theorem gcellsStr : Tryd.prog.cellsOf 9 = 1 := by kernel_rfl
theorem gcellsInts : Tryd.prog.cellsOf 42 = 1 := by kernel_rfl
/-- A list and its datum: as long as it. -/
def LD {H : Type} (n : Nat) (d : DataW H) : Prop := (d = .nil ∧ n = 0) ∨ ∃ el sp, d = .slice el sp ∧ el.length = n
section
variable {H : Type} {enc : TypeId × Value → H} {W : World}
set_option maxRecDepth 100000 in
theorem onums {fuel : Nat} {cs : List Value} {x : DataW H × List MemPlace} (hf : DataW.trod enc Tryd.prog W 0 (fun _ => true) true fuel 42 cs = some x) :
    ∃ (a : Option Addr) (cap : Nat) (l : List Int), cs = [.slice a l.length cap] ∧ InRow W a l ∧ l.length ≤ cap ∧ LD l.length x.1 ∧ ∀ z ∈ l, -9223372036854775808 ≤ z ∧ z ≤ 9223372036854775807 := by
  rcases Go.Deep.open_slice Tryd.underlying42 hf with ⟨hcs, hx⟩ | ⟨a, len, cap, m, n, D, Pl, hcs, _, hl, _, hm, hx, hel⟩
  · exact ⟨none, 0, [], hcs, fun h => absurd rfl h, Nat.le_refl _, .inl ⟨by rw [hx], rfl⟩, (fun o ho => by cases ho)⟩
  · have hm' : m = cap := by simpa using hm
    have each : ∀ i, i < m → ∃ s : Int, W.cell? (a.add (i * 1)) = some (.int .i64 s) ∧ (-9223372036854775808 ≤ s ∧ s ≤ 9223372036854775807) := by
      intro i hi
      obtain ⟨cs', h1, h2⟩ := hel i hi
      rw [gcellsInt] at h1
      obtain ⟨hl1, _, hcell⟩ := World.cells?_some h1
      obtain ⟨s, hs, _, hsz⟩ := DataW.trod_int Tryd.underlying3 h2
      subst hs
      have e0 := hcell 0 (by omega)
      rw [Go.Deep.add_add] at e0
      exact ⟨s, by simpa using e0, bounds_i64 hsz⟩
    obtain ⟨f, hfs⟩ : ∃ f : Nat → Int, ∀ i, i < m → W.cell? (a.add (i * 1)) = some (.int .i64 (f i)) ∧ (-9223372036854775808 ≤ f i ∧ f i ≤ 9223372036854775807) :=
      ⟨fun i => if h : i < m then Classical.choose (each i h) else 0, fun i h => by simp only [dif_pos h]; exact Classical.choose_spec (each i h)⟩
    have hpl : ((List.range len).map f).length = len := by simp
    have hgd : ∀ i, i < len → ((List.range len).map f).getD i 0 = f i := fun i hi => by simp [List.getD, hi]
    refine ⟨some a, cap, (List.range len).map f, by rw [hpl]; exact hcs, fun hne => ?_, by rw [hpl]; exact hl, .inr ⟨_, _, by rw [hx], by simp⟩, fun z hz => ?_⟩
    · obtain ⟨b, off, spot⟩ := a
      have h0 : 0 < len := by
        rcases Nat.eq_zero_or_pos len with e | e
        · subst e; simp at hne
        · exact e
      have hc0 := (hfs 0 (by omega)).1
      have hspot : spot = none := by simpa [Addr.add] using World.cell?_spot hc0
      subst hspot
      refine ⟨b, off, rfl, ?_, fun i hi => ?_⟩
      · have := World.block_lt_of_cell? W _ hc0
        rw [add_none] at this
        exact this
      · rw [hpl] at hi
        rw [hgd i hi]
        have e0 := (hfs i (by omega)).1
        rw [add_none, Nat.mul_one] at e0
        exact e0
    · obtain ⟨i, hi, rfl⟩ := List.mem_map.1 hz
      exact (hfs i (by have := List.mem_range.1 hi; omega)).2
/-- A production's datum, a level's. -/
def PD (p : PV) (d : DataW H) : Prop := ∃ r, d = .agg [.lit (.int .i64 p.left), r, .lit (.int .i64 p.prec)] ∧ LD p.right.length r ∧ p.right.length ≤ p.rc
def VD (p : LV) (d : DataW H) : Prop := ∃ r, d = .agg [.lit (.int .i64 p.assoc), r] ∧ LD p.terms.length r
/-- A grammar and its datum. -/
structure GD (g : GV) (d : DataW H) : Prop where
  all : ∃ dt dn dp dl, d = .agg [dt, dn, .lit (.int .i64 g.start), dp, dl] ∧
    ((dt = .nil ∧ g.ts = []) ∨ ∃ sp, dt = .slice (g.ts.map fun s => .lit (.string s.data.toList)) sp) ∧
    ((dn = .nil ∧ g.ns = []) ∨ ∃ sp, dn = .slice (g.ns.map fun s => .lit (.string s.data.toList)) sp) ∧
    ((dp = .nil ∧ g.ps = []) ∨ ∃ el sp, dp = .slice el sp ∧ el.length = g.ps.length ∧ ∀ i, i < g.ps.length → PD (g.ps.getD i .none) (el.getD i .nil)) ∧
    ((dl = .nil ∧ g.ls = []) ∨ ∃ el sp, dl = .slice el sp ∧ el.length = g.ls.length ∧ ∀ i, i < g.ls.length → VD (g.ls.getD i .none) (el.getD i .nil))
end
end Go.Proofs.YtcjejnenklppiaaDoor
namespace Go.Proofs.YtcjejnenklppiaaDoor
set_option linter.unusedVariables false
open Go.ChangeShapes Go.WideShapes Go.ChangeAt Go.RowKit

section
variable {H : Type}
theorem weightsAll_mem {P : Program} {e : TypeId} : ∀ {l : List (DataW H)} {d : DataW H}, d ∈ l → ∀ n ∈ d.weights P e, n ∈ DataW.weightsAll P e l
  | [], _, h, _, _ => by cases h
  | a :: r, d, h, n, hn => by
    simp only [DataW.weightsAll, List.mem_append]
    rcases List.mem_cons.1 h with rfl | h
    · exact .inl hn
    · exact .inr (weightsAll_mem h n hn)
theorem slice_weight {P : Program} {t e : TypeId} {el sp : List (DataW H)} (hu : P.underlying t = some (.slice e)) (hb : 1 ≤ P.bytesOf e) (hw : ∀ k ∈ (DataW.slice el sp).weights P t, k ≤ reachBytes) :
    el.length ≤ 140737488355328 ∧ ∀ d ∈ el, ∀ k ∈ d.weights P e, k ≤ reachBytes := by
  have h1 := hw ((el.length + sp.length) * P.bytesOf e) (by simp [DataW.weights, hu])
  have h2 : el.length * 1 ≤ (el.length + sp.length) * P.bytesOf e := Nat.mul_le_mul (Nat.le_add_right _ _) hb
  refine ⟨by unfold reachBytes at h1; omega, fun d hd k hk => hw k ?_⟩
  simp only [DataW.weights, hu, List.mem_cons, List.mem_append]
  exact .inr (.inl (weightsAll_mem hd k hk))
theorem ld_weight {P : Program} {t e : TypeId} {n : Nat} {d : DataW H} (hu : P.underlying t = some (.slice e)) (hb : 1 ≤ P.bytesOf e) (h : LD n d) (hw : ∀ k ∈ d.weights P t, k ≤ reachBytes) : n ≤ 140737488355328 := by
  rcases h with ⟨rfl, rfl⟩ | ⟨el, sp, rfl, rfl⟩
  · omega
  · exact (slice_weight hu hb hw).1
theorem getD_in {α : Type} {l : List α} {d : α} {j : Nat} (h : j < l.length) : l.getD j d ∈ l := by
  have e : l.getD j d = l[j] := by simp [List.getD, h]
  rw [e]; exact List.getElem_mem h
theorem in_getD {α : Type} {l : List α} {d x : α} (h : x ∈ l) : ∃ i, i < l.length ∧ x = l.getD i d := by
  obtain ⟨i, hi, rfl⟩ := List.getElem_of_mem h
  exact ⟨i, hi, by simp [List.getD, hi]⟩
/-- The right sides lie within their capacities. -/
theorem gram_caps {d : DataW H} {g : GV} (h : GD g d) : ∀ p ∈ g.ps, p.right.length ≤ p.rc := by
  obtain ⟨dt, dn, dp, dl, rfl, a1, a2, a3, a4⟩ := h.all
  intro p hp
  rcases a3 with ⟨_, e⟩ | ⟨el, sp, rfl, e, hE⟩
  · rw [e] at hp; cases hp
  · obtain ⟨i, hi, rfl⟩ := in_getD (d := PV.none) hp
    obtain ⟨r, hr, hl, hc⟩ := hE i hi
    exact hc
/-- The same, by the sizes of elements. -/
theorem slice_weight2 {P : Program} {t e : TypeId} {el sp : List (DataW H)} {b : Nat} (hu : P.underlying t = some (.slice e)) (hb : P.bytesOf e = b) (hw : ∀ k ∈ (DataW.slice el sp).weights P t, k ≤ reachBytes) : el.length * b ≤ 140737488351232 := by
  have h1 := hw ((el.length + sp.length) * P.bytesOf e) (by simp [DataW.weights, hu])
  rw [hb] at h1
  have h2 : el.length * b ≤ (el.length + sp.length) * b := Nat.mul_le_mul_right _ (Nat.le_add_right _ _)
  unfold reachBytes at h1
  omega
theorem ld_weight2 {P : Program} {t e : TypeId} {n b : Nat} {d : DataW H} (hu : P.underlying t = some (.slice e)) (hb : P.bytesOf e = b) (h : LD n d) (hw : ∀ k ∈ d.weights P t, k ≤ reachBytes) : n * b ≤ 140737488351232 := by
  rcases h with ⟨rfl, rfl⟩ | ⟨el, sp, rfl, rfl⟩
  · simp
  · exact slice_weight2 hu hb hw
end
end Go.Proofs.YtcjejnenklppiaaDoor
namespace Go.Proofs.YtcjejnenklppiaaDoor
set_option linter.unusedVariables false
open Go.ChangeShapes Go.WideShapes Go.ChangeAt Go.RowKit

set_option maxRecDepth 100000 in
theorem open_intsg {H : Type} {enc : TypeId × Value → H} {W : World} {base : Nat} {v : Value} {d : DataW H} {p : List MemPlace} (hv : Value.okWide Tryd.prog W .any base 42 v)
    (h : DataW.Trod enc Tryd.prog W 0 (fun _ => true) true 42 v d p) :
    ∃ (a : Option Addr) (cap : Nat) (l : List Int), v = .slice a l.length cap ∧ InRow W a l ∧ l.length ≤ cap ∧ LD l.length d ∧ ∀ z ∈ l, -9223372036854775808 ≤ z ∧ z ≤ 9223372036854775807 := by
  obtain ⟨a0, len0, cap0, rfl⟩ := okWide_slice Tryd.underlying42 hv
  obtain ⟨fuel, hf⟩ := h
  obtain ⟨a, cap, l, hcs, h1, h2, h3, h4⟩ := onums hf
  simp only [Value.cells, List.cons.injEq, and_true] at hcs
  exact ⟨a, cap, l, hcs, h1, h2, h3, h4⟩
set_option maxRecDepth 100000 in
theorem ints_reachg {H : Type} {ts : List TypeId} {ds : List (DataW H)} (hs : (DataW.weightsEach Tryd.prog ts ds).all (· ≤ reachBytes) = true) {j : Nat} {d : DataW H} {n : Nat} (ht : ts[j]? = some 42) (hd : ds[j]? = some d) (h : LD n d) : n ≤ 140737488355328 := by
  refine ld_weight Tryd.underlying42 (by decide +kernel) h fun k hk => ?_
  have := List.all_eq_true.1 hs k (DataW.weights_mem_each ht hd k hk)
  simpa using this
set_option maxRecDepth 100000 in
theorem ints_fineg {H : Type} {ts : List TypeId} {ds : List (DataW H)} (hs : (DataW.weightsEach Tryd.prog ts ds).all (· ≤ reachBytes) = true) {j : Nat} {d : DataW H} {n : Nat} (ht : ts[j]? = some 42) (hd : ds[j]? = some d) (h : LD n d) : n ≤ 17592186044000 := by
  have := ld_weight2 (b := 8) Tryd.underlying42 (by decide +kernel) h fun k hk => by
    have := List.all_eq_true.1 hs k (DataW.weights_mem_each ht hd k hk)
    simpa using this
  omega
end Go.Proofs.YtcjejnenklppiaaDoor
