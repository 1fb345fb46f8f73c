import Derived.Test.YtfgdpmcpjpceoaaPGArgToGInts
import Derived.Test.YtfgdpmcpjpceoaaPFRoundToFChk6
namespace Go.Proofs.Ytfgdpmcpjpceoaa
set_option linter.unusedVariables false
set_option maxRecDepth 100000
set_option maxHeartbeats 16000000
open Go.ChangeShapes Go.WideShapes Go.ChangeAt Go.RowKit
theorem gbulk_pos {H : Type} (d : DataW H) : 1 <= Rows.uptoBulk d := by
 cases d with
 | lit x => cases x <;> simp [Rows.uptoBulk]
 | nil => simp [Rows.uptoBulk]
 | ptr d => simp [Rows.uptoBulk]
 | slice a b => simp [Rows.uptoBulk]
 | agg a => simp [Rows.uptoBulk]
 | iface a d => simp [Rows.uptoBulk]
 | map a => simp [Rows.uptoBulk]
 | held a => simp [Rows.uptoBulk]
theorem gbulk_len {H : Type} : ∀ ds : List (DataW H), ds.length <= Rows.uptoBulkAll ds
 | [] => by simp
 | d :: r => by
  have := gbulk_len r
  have := gbulk_pos d
  simp only [Rows.uptoBulkAll, List.length_cons]
  omega
theorem gbulk_mem {H : Type} : ∀ {ds : List (DataW H)} {d : DataW H}, d ∈ ds -> Rows.uptoBulk d <= Rows.uptoBulkAll ds
 | [], _, h => by cases h
 | a :: r, d, h => by
  simp only [Rows.uptoBulkAll]
  rcases List.mem_cons.1 h with rfl | h
  ·omega
  ·have := gbulk_mem h
   omega
theorem gbulk_el {H : Type} {el sp : List (DataW H)} {N : Nat} (h : Rows.uptoBulk (.slice el sp) <= N) : el.length <= N /\ ∀ d ∈ el, Rows.uptoBulk d <= N := by
 simp only [Rows.uptoBulk] at h
 have h1 := gbulk_len el
 exact ⟨by omega, fun d hd => by have := gbulk_mem hd; omega⟩
theorem ld_bulk {H : Type} {n N : Nat} {d : DataW H} (h : LD n d) (hb : Rows.uptoBulk d <= N) : n <= N := by
 rcases h with ⟨_, rfl⟩ | ⟨el, sp, rfl, rfl⟩
 ·exact Nat.zero_le _
 ·exact (gbulk_el hb).1
theorem agg_bulk {H : Type} {l : List (DataW H)} {d : DataW H} {N : Nat} (h : Rows.uptoBulk (.agg l) <= N) (hd : d ∈ l) : Rows.uptoBulk d <= N := by
 simp only [Rows.uptoBulk] at h
 have := gbulk_mem hd
 omega
theorem gram_bulk {H : Type} {W : World} {N : Nat} {d : DataW H} {g : GV} (hb : Rows.uptoBulk d <= N) (h : GD g d)
  (hr : StrRow W g.ta g.ts /\ StrRow W g.na g.ns /\ PrRow W g.pa g.ps /\ LvRow W g.la g.ls /\ (∀ s ∈ g.ts, s.size <= maxLen) /\ (∀ s ∈ g.ns, s.size <= maxLen) /\ g.ps.length <= g.pc) : GAt N W g := by
 obtain ⟨dt, dn, dp, dl, rfl, a1, a2, a3, a4⟩ := h.all
 have w0 : Rows.uptoBulk dt <= N := agg_bulk hb (by simp)
 have w1 : Rows.uptoBulk dn <= N := agg_bulk hb (by simp)
 have w3 : Rows.uptoBulk dp <= N := agg_bulk hb (by simp)
 have w4 : Rows.uptoBulk dl <= N := agg_bulk hb (by simp)
 obtain ⟨r1, r2, r3, r4, r5, r6, _⟩ := hr
 refine ⟨r1, r2, r3, r4, r5, r6, ?_, ?_, ?_, ?_, ?_, ?_⟩
 ·rcases a1 with ⟨_, e⟩ | ⟨sp, rfl⟩
  ·rw [e]; simp
  ·simpa using (gbulk_el w0).1
 ·rcases a2 with ⟨_, e⟩ | ⟨sp, rfl⟩
  ·rw [e]; simp
  ·simpa using (gbulk_el w1).1
 ·rcases a3 with ⟨_, e⟩ | ⟨el, sp, rfl, e, _⟩
  ·rw [e]; simp
  ·rw [<- e]; exact (gbulk_el w3).1
 ·rcases a4 with ⟨_, e⟩ | ⟨el, sp, rfl, e, _⟩
  ·rw [e]; simp
  ·rw [<- e]; exact (gbulk_el w4).1
 ·intro p hp
  rcases a3 with ⟨_, e⟩ | ⟨el, sp, rfl, e, hE⟩
  ·rw [e] at hp; cases hp
  ·obtain ⟨i, hi, rfl⟩ := in_getD (d := PV.none) hp
   obtain ⟨r, hr, hl, _⟩ := hE i hi
   have hm : el.getD i .nil ∈ el := getD_in (by omega)
   have hx := (gbulk_el w3).2 _ hm
   rw [hr] at hx
   exact ld_bulk hl (agg_bulk hx (by simp))
 ·intro p hp
  rcases a4 with ⟨_, e⟩ | ⟨el, sp, rfl, e, hE⟩
  ·rw [e] at hp; cases hp
  ·obtain ⟨i, hi, rfl⟩ := in_getD (d := LV.none) hp
   obtain ⟨r, hr, hl⟩ := hE i hi
   have hm : el.getD i .nil ∈ el := getD_in (by omega)
   have hx := (gbulk_el w4).2 _ hm
   rw [hr] at hx
   exact ld_bulk hl (agg_bulk hx (by simp))
end Go.Proofs.Ytfgdpmcpjpceoaa
namespace Go.Proofs.Ytfgdpmcpjpceoaa
set_option linter.unusedVariables false
set_option maxRecDepth 100000
set_option maxHeartbeats 16000000
open Go.ChangeShapes Go.WideShapes Go.ChangeAt Go.RowKit
theorem gcellsBool : Try.prog.cellsOf 4 = 1 := by kernel_rfl
section
variable {H : Type} {enc : TypeId × Value -> H} {W : World}
theorem obools {fuel : Nat} {cs : List Value} {x : DataW H × List MemPlace} (hf : DataW.trod enc Try.prog W 0 (fun _ => true) true fuel 32 cs = some x) :
  ∃ (a : Option Addr) (cap : Nat) (l : List Bool), cs = [.slice a l.length cap] /\ BRow W a l /\ l.length <= cap /\ LD l.length x.1 := by
 rcases Go.Deep.open_slice Try.underlying32 hf with ⟨hcs, hx⟩ | ⟨a, len, cap, m, n, D, Pl, hcs, _, hl, _, hm, hx, hel⟩
 ·exact ⟨none, 0, [], hcs, fun h => absurd rfl h, Nat.le_refl _, .inl ⟨by rw [hx], rfl⟩⟩
 ·have hm' : m = cap := by simpa using hm
  have each : ∀ i, i < m -> ∃ s : Bool, W.cell? (a.add (i * 1)) = some (.bool s) := by
   intro i hi
   obtain ⟨cs', h1, h2⟩ := hel i hi
   rw [gcellsBool] at h1
   obtain ⟨hl1, _, hcell⟩ := World.cells?_some h1
   obtain ⟨s, hs, _⟩ := DataW.trod_bool Try.underlying4 h2
   subst hs
   have e0 := hcell 0 (by omega)
   rw [Go.Deep.add_add] at e0
   exact ⟨s, by simpa using e0⟩
  obtain ⟨f, hfs⟩ : ∃ f : Nat -> Bool, ∀ i, i < m -> W.cell? (a.add (i * 1)) = some (.bool (f i)) :=
   ⟨fun i => if h : i < m then Classical.choose (each i h) else false, fun i h => by simp only [dif_pos h]; exact Classical.choose_spec (each i h)⟩
  have hpl : ((List.range len).map f).length = len := by simp
  have hgd : ∀ i, i < len -> ((List.range len).map f).getD i false = f i := fun i hi => by simp [List.getD, hi]
  refine ⟨some a, cap, (List.range len).map f, by rw [hpl]; exact hcs, fun hne => ?_, by rw [hpl]; exact hl, .inr ⟨_, _, by rw [hx], by simp⟩⟩
  obtain ⟨b, off, spot⟩ := a
  have h0 : 0 < len := by
   rcases Nat.eq_zero_or_pos len with e | e
   ·subst e; simp at hne
   ·exact e
  have hc0 := hfs 0 (by omega)
  have hspot : spot = none := by simpa [Addr.add] using World.cell?_spot hc0
  subst hspot
  refine ⟨b, off, rfl, ?_, fun i hi => ?_⟩
  ·have := World.block_lt_of_cell? W _ hc0
   rw [add_none] at this
   exact this
  ·rw [hpl] at hi
   rw [hgd i hi]
   have e0 := hfs i (by omega)
   rw [add_none, Nat.mul_one] at e0
   exact e0
def LLD (L : List (List Int)) (d : DataW H) : Prop := (d = .nil /\ L = []) ∨ ∃ el sp, d = .slice el sp /\ el.length = L.length /\ ∀ i, i < L.length -> LD (L.getD i []).length (el.getD i .nil)
theorem olists {fuel : Nat} {cs : List Value} {x : DataW H × List MemPlace} (hf : DataW.trod enc Try.prog W 0 (fun _ => true) true fuel 33 cs = some x) :
  ∃ (a : Option Addr) (cap : Nat) (l : List (List Int)), cs = [.slice a l.length cap] /\ LsRow W a l /\ l.length <= cap /\ LLD l x.1 := by
 rcases Go.Deep.open_slice Try.underlying33 hf with ⟨hcs, hx⟩ | ⟨a, len, cap, m, n, D, Pl, hcs, _, hl, _, hm, hx, hel⟩
 ·exact ⟨none, 0, [], hcs, fun h => absurd rfl h, Nat.le_refl _, .inl ⟨by rw [hx], rfl⟩⟩
 ·have hm' : m = cap := by simpa using hm
  have each : ∀ i, i < m -> ∃ s : Option Addr × Nat × List Int, W.cell? (a.add (i * 1)) = some (.slice s.1 s.2.2.length s.2.1) /\ InRow W s.1 s.2.2 /\ LD s.2.2.length (D i) := by
   intro i hi
   obtain ⟨cs', h1, h2⟩ := hel i hi
   rw [gcellsInts] at h1
   obtain ⟨hl1, _, hcell⟩ := World.cells?_some h1
   obtain ⟨la, lc, l, hs, hr, _, hd, _⟩ := onums h2
   subst hs
   have e0 := hcell 0 (by omega)
   rw [Go.Deep.add_add] at e0
   exact ⟨(la, lc, l), by simpa using e0, hr, hd⟩
  obtain ⟨f, hfs⟩ : ∃ f : Nat -> Option Addr × Nat × List Int, ∀ i, i < m -> W.cell? (a.add (i * 1)) = some (.slice (f i).1 (f i).2.2.length (f i).2.1) /\ InRow W (f i).1 (f i).2.2 /\ LD (f i).2.2.length (D i) :=
   ⟨fun i => if h : i < m then Classical.choose (each i h) else (none, 0, []), fun i h => by simp only [dif_pos h]; exact Classical.choose_spec (each i h)⟩
  have hpl : ((List.range len).map fun i => (f i).2.2).length = len := by simp
  have hgd : ∀ i, i < len -> ((List.range len).map fun i => (f i).2.2).getD i [] = (f i).2.2 := fun i hi => by simp [List.getD, hi]
  refine ⟨some a, cap, (List.range len).map fun i => (f i).2.2, by rw [hpl]; exact hcs, fun hne => ?_, by rw [hpl]; exact hl, .inr ⟨_, _, by rw [hx], by simp, fun i hi => ?_⟩⟩
  ·obtain ⟨b, off, spot⟩ := a
   have h0 : 0 < len := by
    rcases Nat.eq_zero_or_pos len with e | e
    ·subst e; simp at hne
    ·exact e
   have hc0 := (hfs 0 (by omega)).1
   have hspot : spot = none := by simpa [Addr.add] using World.cell?_spot hc0
   subst hspot
   refine ⟨b, off, rfl, ?_, fun i hi => ?_⟩
   ·have := World.block_lt_of_cell? W _ hc0
    rw [add_none] at this
    exact this
   ·rw [hpl] at hi
    rw [hgd i hi]
    obtain ⟨e0, e1, _⟩ := hfs i (by omega)
    rw [add_none, Nat.mul_one] at e0
    exact ⟨_, _, e0, e1⟩
  ·rw [hpl] at hi
   have := (hfs i (by omega)).2.2
   rw [hgd i hi]
   have e : ((List.range len).map D).getD i DataW.nil = D i := by simp [List.getD, hi]
   rw [e]
   exact this
theorem open_bools {base : Nat} {v : Value} {d : DataW H} {p : List MemPlace} (hv : Value.okWide Try.prog W .any base 32 v)
  (h : DataW.Trod enc Try.prog W 0 (fun _ => true) true 32 v d p) :
  ∃ (a : Option Addr) (cap : Nat) (l : List Bool), v = .slice a l.length cap /\ BRow W a l /\ l.length <= cap /\ LD l.length d := by
 obtain ⟨a0, len0, cap0, rfl⟩ := okWide_slice Try.underlying32 hv
 obtain ⟨fuel, hf⟩ := h
 obtain ⟨a, cap, l, hcs, h1, h2, h3⟩ := obools hf
 simp only [Value.cells, List.cons.injEq, and_true] at hcs
 exact ⟨a, cap, l, hcs, h1, h2, h3⟩
theorem open_lists {base : Nat} {v : Value} {d : DataW H} {p : List MemPlace} (hv : Value.okWide Try.prog W .any base 33 v)
  (h : DataW.Trod enc Try.prog W 0 (fun _ => true) true 33 v d p) :
  ∃ (a : Option Addr) (cap : Nat) (l : List (List Int)), v = .slice a l.length cap /\ LsRow W a l /\ l.length <= cap /\ LLD l d := by
 obtain ⟨a0, len0, cap0, rfl⟩ := okWide_slice Try.underlying33 hv
 obtain ⟨fuel, hf⟩ := h
 obtain ⟨a, cap, l, hcs, h1, h2, h3⟩ := olists hf
 simp only [Value.cells, List.cons.injEq, and_true] at hcs
 exact ⟨a, cap, l, hcs, h1, h2, h3⟩
end
end Go.Proofs.Ytfgdpmcpjpceoaa
namespace Go.Proofs.Ytfgdpmcpjpceoaa
set_option linter.unusedVariables false
set_option maxRecDepth 100000
set_option maxHeartbeats 16000000
open Go.ChangeShapes Go.WideShapes Go.ChangeAt Go.RowKit
theorem lld_bulk {H : Type} {L : List (List Int)} {M : Nat} {d : DataW H} (h : LLD L d) (hb : Rows.uptoBulk d <= M) : L.length <= M /\ ∀ l ∈ L, l.length <= M := by
 rcases h with ⟨_, rfl⟩ | ⟨el, sp, rfl, e, hE⟩
 ·exact ⟨Nat.zero_le _, fun l hl => by cases hl⟩
 ·obtain ⟨h1, h2⟩ := gbulk_el hb
  refine ⟨by omega, fun l hl => ?_⟩
  obtain ⟨i, hi, rfl⟩ := in_getD (d := []) hl
  exact ld_bulk (hE i hi) (h2 _ (getD_in (by omega)))
end Go.Proofs.Ytfgdpmcpjpceoaa
