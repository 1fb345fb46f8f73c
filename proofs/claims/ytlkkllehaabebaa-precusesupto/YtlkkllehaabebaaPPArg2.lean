import Derived.Test.YtlkkllehaabebaaPPC31ToPC34
import Derived.Test.YtlkkllehaabebaaPGArgToGInts
import Derived.Test.YtlkkllehaabebaaPGBulkToFBulk
namespace Go.Proofs.Ytlkkllehaabebaa
set_option linter.unusedVariables false
set_option maxRecDepth 100000
set_option maxHeartbeats 16000000
open Go.ChangeShapes Go.WideShapes Go.ChangeAt Go.RowKit
theorem gcellsDec : Try.prog.cellsOf 47 = 6 := by kernel_rfl
theorem gcellsDKind : Try.prog.cellsOf 44 = 1 := by kernel_rfl
theorem gcellsBoolD : Try.prog.cellsOf 4 = 1 := by kernel_rfl
def DM.none : DM := ⟨DV.zero, Option.none, 0⟩
def DDt {H : Type} (q : DM) (d : DataW H) : Prop := ∃ d0 d1 d2 d3 d4 d5, d = .agg [d0, d1, d2, d3, d4, d5] /\ LD q.d.drop.length d3
section
variable {H : Type} {enc : TypeId × Value -> H} {W : World}
theorem odec {fuel : Nat} {cs : List Value} {x : DataW H × List MemPlace} (h : DataW.trod enc Try.prog W 0 (fun _ => true) true fuel 47 cs = some x) :
  ∃ q : DM, cs = dCells q /\ InRow W q.ao q.d.drop /\ DDt q x.1 := by
 obtain ⟨xs, n, _, hx, hl, hlen, hf⟩ := DataW.trod_struct Try.underlying47 h
 rw [gcellsDec] at hl
 match xs, hlen, cs, hl with
 | [y0, y1, y2, y3, y4, y5], _, [e0, e1, e2, e3, e4, e5], _ =>
  have g0 := hf 0 _ rfl
  have g1 := hf 1 _ rfl
  have g2 := hf 2 _ rfl
  have g3 := hf 3 _ rfl
  have g4 := hf 4 _ rfl
  have g5 := hf 5 _ rfl
  simp [gcellsInt, gcellsInts, gcellsDKind, gcellsBoolD] at g0 g1 g2 g3 g4 g5
  obtain ⟨s0, h0, _, _⟩ := DataW.trod_int Try.underlying3 g0
  obtain ⟨s1, h1, _, _⟩ := DataW.trod_int Try.underlying44 g1
  obtain ⟨s2, h2, _, _⟩ := DataW.trod_int Try.underlying3 g2
  obtain ⟨ra, rc, red, h3, hr, _, hd, _⟩ := onums g3
  obtain ⟨s4, h4, _⟩ := DataW.trod_bool Try.underlying4 g4
  obtain ⟨s5, h5, _, _⟩ := DataW.trod_int Try.underlying3 g5
  simp only [List.cons.injEq, and_true] at h0 h1 h2 h3 h4 h5
  subst h0; subst h1; subst h2; subst h3; subst h4; subst h5
  rw [hx]
  exact ⟨⟨⟨s0, s1, s2, red, s4, s5⟩, ra, rc⟩, rfl, hr, ⟨y0.1, y1.1, y2.1, y3.1, y4.1, y5.1, rfl, hd⟩⟩
theorem odecs {fuel : Nat} {cs : List Value} {x : DataW H × List MemPlace} (hf : DataW.trod enc Try.prog W 0 (fun _ => true) true fuel 59 cs = some x) :
  ∃ (a : Option Addr) (cap : Nat) (l : List DM), cs = [.slice a l.length cap] /\ DRow W a l /\ ((x.1 = .nil /\ l = []) ∨ ∃ el sp, x.1 = .slice el sp /\ el.length = l.length /\ ∀ i, i < l.length -> DDt (l.getD i .none) (el.getD i .nil)) := by
 rcases Go.Deep.open_slice Try.underlying59 hf with ⟨hcs, hx⟩ | ⟨a, len, cap, m, n, D, Pl, hcs, _, hl, _, hm, hx, hel⟩
 ·exact ⟨none, 0, [], hcs, ⟨fun h => absurd rfl h, fun p hp => by cases hp⟩, .inl ⟨by rw [hx], rfl⟩⟩
 ·have hm' : m = cap := by simpa using hm
  have each : ∀ i, i < m -> ∃ p : DM, (∀ j, j < 6 -> W.cell? (a.add (i * 6 + j)) = (dCells p)[j]?) /\ InRow W p.ao p.d.drop /\ DDt p (D i) := by
   intro i hi
   obtain ⟨cs', h1, h2⟩ := hel i hi
   rw [gcellsDec] at h1
   obtain ⟨hl1, _, hcell⟩ := World.cells?_some h1
   obtain ⟨q, hs, hr, hd⟩ := odec h2
   subst hs
   refine ⟨q, fun j hj => ?_, hr, hd⟩
   have e0 := hcell j (by omega)
   rw [Go.Deep.add_add] at e0
   exact e0
  obtain ⟨f, hfs⟩ : ∃ f : Nat -> DM, ∀ i, i < m -> (∀ j, j < 6 -> W.cell? (a.add (i * 6 + j)) = (dCells (f i))[j]?) /\ InRow W (f i).ao (f i).d.drop /\ DDt (f i) (D i) :=
   ⟨fun i => if h : i < m then Classical.choose (each i h) else .none, fun i h => by simp only [dif_pos h]; exact Classical.choose_spec (each i h)⟩
  have hpl : ((List.range len).map f).length = len := by simp
  have hgd : ∀ i, i < len -> ((List.range len).map f).getD i .none = f i := fun i hi => by simp [List.getD, hi]
  refine ⟨some a, cap, (List.range len).map f, by rw [hpl]; exact hcs, ⟨fun hne => ?_, fun p hp => ?_⟩, .inr ⟨_, _, by rw [hx], by simp, fun i hi => ?_⟩⟩
  ·obtain ⟨b, off, spot⟩ := a
   have h0 : 0 < len := by
    rcases Nat.eq_zero_or_pos len with e | e
    ·subst e; simp at hne
    ·exact e
   have hc0 := (hfs 0 (by omega)).1 0 (by decide)
   have hc1 : W.cell? ((⟨b, off, spot⟩ : Addr).add (0 * 6 + 0)) = some (.int .i64 (f 0).d.look) := hc0
   have hspot : spot = none := by simpa [Addr.add] using World.cell?_spot hc1
   subst hspot
   refine ⟨b, off, rfl, ?_, fun i hi => ?_⟩
   ·have := World.block_lt_of_cell? W _ hc1
    rw [add_none] at this
    exact this
   ·have hi' : i < len := by rw [hpl] at hi; exact hi
    have eg : ((List.range len).map f)[i] = f i := by simp
    rw [eg]
    have hc := (hfs i (by omega)).1
    have k0 := hc 0 (by decide)
    have k1 := hc 1 (by decide)
    have k2 := hc 2 (by decide)
    have k3 := hc 3 (by decide)
    have k4 := hc 4 (by decide)
    have k5 := hc 5 (by decide)
    rw [add_none] at k0 k1 k2 k3 k4 k5
    simp only [dCells, List.getElem?_cons_zero, List.getElem?_cons_succ, Nat.add_zero, <- Nat.add_assoc] at k0 k1 k2 k3 k4 k5
    exact ⟨k0, k1, k2, k3, k4, k5⟩
  ·obtain ⟨i, hi, rfl⟩ := List.mem_map.1 hp
   exact (hfs i (by have := List.mem_range.1 hi; omega)).2.1
  ·rw [hpl] at hi
   have := (hfs i (by omega)).2.2
   rw [hgd i hi]
   have e : ((List.range len).map D).getD i DataW.nil = D i := by simp [List.getD, hi]
   rw [e]
   exact this
def DLD (l : List DM) (d : DataW H) : Prop := (d = .nil /\ l = []) ∨ ∃ el sp, d = .slice el sp /\ el.length = l.length /\ ∀ i, i < l.length -> DDt (l.getD i .none) (el.getD i .nil)
theorem open_decs {base : Nat} {v : Value} {d : DataW H} {p : List MemPlace} (hv : Value.okWide Try.prog W .any base 59 v)
  (h : DataW.Trod enc Try.prog W 0 (fun _ => true) true 59 v d p) :
  ∃ (a : Option Addr) (cap : Nat) (l : List DM), v = .slice a l.length cap /\ DRow W a l /\ DLD l d := by
 obtain ⟨a0, len0, cap0, rfl⟩ := okWide_slice Try.underlying59 hv
 obtain ⟨fuel, hf⟩ := h
 obtain ⟨a, cap, l, hcs, h1, h2⟩ := odecs hf
 simp only [Value.cells, List.cons.injEq, and_true] at hcs
 exact ⟨a, cap, l, hcs, h1, h2⟩
theorem decs_bulk {l : List DM} {M : Nat} {d : DataW H} (h : DLD l d) (hb : Rows.uptoBulk d <= M) : l.length <= M /\ ∀ x ∈ l, x.d.drop.length <= M := by
 rcases h with ⟨_, rfl⟩ | ⟨el, sp, rfl, e, hE⟩
 ·exact ⟨Nat.zero_le _, fun l hl => by cases hl⟩
 ·obtain ⟨h1, h2⟩ := gbulk_el hb
  refine ⟨by omega, fun x hx => ?_⟩
  obtain ⟨i, hi, rfl⟩ := in_getD (d := DM.none) hx
  obtain ⟨d0, d1, d2, d3, d4, d5, ed, hl⟩ := hE i hi
  have hm := h2 _ (getD_in (d := .nil) (show i < el.length by omega))
  rw [ed] at hm
  exact ld_bulk hl (agg_bulk hm (by simp))
end
end Go.Proofs.Ytlkkllehaabebaa
