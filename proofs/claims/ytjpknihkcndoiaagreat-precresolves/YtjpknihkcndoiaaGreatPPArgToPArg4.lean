import Derived.Test.YtjpknihkcndoiaaGreatPPC18ToPC19
import Derived.Test.YtjpknihkcndoiaaGreatPGArgToGInts
import Derived.Test.YtjpknihkcndoiaaGreatPPC41ToPC43
namespace Go.Proofs.YtjpknihkcndoiaaGreat
set_option linter.unusedVariables false
set_option maxRecDepth 100000
set_option maxHeartbeats 16000000
open Go.ChangeShapes Go.WideShapes Go.ChangeAt Go.RowKit
theorem gcellsConf : Tryz.prog.cellsOf 44 = 4 := by kernel_rfl
def CD {H : Type} (q : CV) (d : DataW H) : Prop := ∃ d0 d1 d2 d3, d = .agg [d0, d1, d2, d3] /\ LD q.red.length d3
end Go.Proofs.YtjpknihkcndoiaaGreat
namespace Go.Proofs.YtjpknihkcndoiaaGreat
set_option linter.unusedVariables false
set_option maxRecDepth 100000
set_option maxHeartbeats 16000000
open Go.ChangeShapes Go.WideShapes Go.ChangeAt Go.RowKit
theorem gbulk_pos {H : Type} (d : DataW H) : 1 <= Rows.uptoBulk d := by
 cases d with
 | lit x => cases x <;> simp [Rows.uptoBulk]
 | nil => simp [Rows.uptoBulk]
 | ptr d => simp [Rows.uptoBulk]
 | slice a b => simp [Rows.uptoBulk]
 | agg a => simp [Rows.uptoBulk]
 | iface a d => simp [Rows.uptoBulk]
 | map a => simp [Rows.uptoBulk]
 | held a => simp [Rows.uptoBulk]
theorem gbulk_len {H : Type} : ∀ ds : List (DataW H), ds.length <= Rows.uptoBulkAll ds
 | [] => by simp
 | d :: r => by
  have := gbulk_len r
  have := gbulk_pos d
  simp only [Rows.uptoBulkAll, List.length_cons]
  omega
theorem gbulk_mem {H : Type} : ∀ {ds : List (DataW H)} {d : DataW H}, d ∈ ds -> Rows.uptoBulk d <= Rows.uptoBulkAll ds
 | [], _, h => by cases h
 | a :: r, d, h => by
  simp only [Rows.uptoBulkAll]
  rcases List.mem_cons.1 h with rfl | h
  ·omega
  ·have := gbulk_mem h
   omega
theorem gbulk_el {H : Type} {el sp : List (DataW H)} {N : Nat} (h : Rows.uptoBulk (.slice el sp) <= N) : el.length <= N /\ ∀ d ∈ el, Rows.uptoBulk d <= N := by
 simp only [Rows.uptoBulk] at h
 have h1 := gbulk_len el
 exact ⟨by omega, fun d hd => by have := gbulk_mem hd; omega⟩
theorem ld_bulk {H : Type} {n N : Nat} {d : DataW H} (h : LD n d) (hb : Rows.uptoBulk d <= N) : n <= N := by
 rcases h with ⟨_, rfl⟩ | ⟨el, sp, rfl, rfl⟩
 ·exact Nat.zero_le _
 ·exact (gbulk_el hb).1
theorem agg_bulk {H : Type} {l : List (DataW H)} {d : DataW H} {N : Nat} (h : Rows.uptoBulk (.agg l) <= N) (hd : d ∈ l) : Rows.uptoBulk d <= N := by
 simp only [Rows.uptoBulk] at h
 have := gbulk_mem hd
 omega
theorem gram_bulk {H : Type} {W : World} {N : Nat} {d : DataW H} {g : GV} (hb : Rows.uptoBulk d <= N) (h : GD g d)
  (hr : StrRow W g.ta g.ts /\ StrRow W g.na g.ns /\ PrRow W g.pa g.ps /\ LvRow W g.la g.ls /\ (∀ s ∈ g.ts, s.size <= maxLen) /\ (∀ s ∈ g.ns, s.size <= maxLen) /\ g.ps.length <= g.pc) : GAt N W g := by
 obtain ⟨dt, dn, dp, dl, rfl, a1, a2, a3, a4⟩ := h.all
 have w0 : Rows.uptoBulk dt <= N := agg_bulk hb (by simp)
 have w1 : Rows.uptoBulk dn <= N := agg_bulk hb (by simp)
 have w3 : Rows.uptoBulk dp <= N := agg_bulk hb (by simp)
 have w4 : Rows.uptoBulk dl <= N := agg_bulk hb (by simp)
 obtain ⟨r1, r2, r3, r4, r5, r6, _⟩ := hr
 refine ⟨r1, r2, r3, r4, r5, r6, ?_, ?_, ?_, ?_, ?_, ?_⟩
 ·rcases a1 with ⟨_, e⟩ | ⟨sp, rfl⟩
  ·rw [e]; simp
  ·simpa using (gbulk_el w0).1
 ·rcases a2 with ⟨_, e⟩ | ⟨sp, rfl⟩
  ·rw [e]; simp
  ·simpa using (gbulk_el w1).1
 ·rcases a3 with ⟨_, e⟩ | ⟨el, sp, rfl, e, _⟩
  ·rw [e]; simp
  ·rw [<- e]; exact (gbulk_el w3).1
 ·rcases a4 with ⟨_, e⟩ | ⟨el, sp, rfl, e, _⟩
  ·rw [e]; simp
  ·rw [<- e]; exact (gbulk_el w4).1
 ·intro p hp
  rcases a3 with ⟨_, e⟩ | ⟨el, sp, rfl, e, hE⟩
  ·rw [e] at hp; cases hp
  ·obtain ⟨i, hi, rfl⟩ := in_getD (d := PV.none) hp
   obtain ⟨r, hr, hl, _⟩ := hE i hi
   have hm : el.getD i .nil ∈ el := getD_in (by omega)
   have hx := (gbulk_el w3).2 _ hm
   rw [hr] at hx
   exact ld_bulk hl (agg_bulk hx (by simp))
 ·intro p hp
  rcases a4 with ⟨_, e⟩ | ⟨el, sp, rfl, e, hE⟩
  ·rw [e] at hp; cases hp
  ·obtain ⟨i, hi, rfl⟩ := in_getD (d := LV.none) hp
   obtain ⟨r, hr, hl⟩ := hE i hi
   have hm : el.getD i .nil ∈ el := getD_in (by omega)
   have hx := (gbulk_el w4).2 _ hm
   rw [hr] at hx
   exact ld_bulk hl (agg_bulk hx (by simp))
end Go.Proofs.YtjpknihkcndoiaaGreat
namespace Go.Proofs.YtjpknihkcndoiaaGreat
set_option linter.unusedVariables false
set_option maxRecDepth 100000
set_option maxHeartbeats 16000000
open Go.ChangeShapes Go.WideShapes Go.ChangeAt Go.RowKit
def CV.none : CV := ⟨0, 0, 0, Option.none, 0, []⟩
def cfCells (q : CV) : List Value := [.int .i64 q.st, .int .i64 q.look, .int .i64 q.shift, .slice q.ra q.red.length q.rc]
section
variable {H : Type} {enc : TypeId × Value -> H} {W : World}
theorem ocf {fuel : Nat} {cs : List Value} {x : DataW H × List MemPlace} (h : DataW.trod enc Tryz.prog W 0 (fun _ => true) true fuel 44 cs = some x) :
  ∃ q : CV, cs = cfCells q /\ InRow W q.ra q.red /\ CD q x.1 := by
 obtain ⟨xs, n, _, hx, hl, hlen, hf⟩ := DataW.trod_struct Tryz.underlying44 h
 rw [gcellsConf] at hl
 match xs, hlen, cs, hl with
 | [y0, y1, y2, y3], _, [e0, e1, e2, e3], _ =>
  have g0 := hf 0 _ rfl
  have g1 := hf 1 _ rfl
  have g2 := hf 2 _ rfl
  have g3 := hf 3 _ rfl
  simp [gcellsInt, gcellsInts] at g0 g1 g2 g3
  obtain ⟨s0, h0, _, _⟩ := DataW.trod_int Tryz.underlying3 g0
  obtain ⟨s1, h1, _, _⟩ := DataW.trod_int Tryz.underlying3 g1
  obtain ⟨s2, h2, _, _⟩ := DataW.trod_int Tryz.underlying3 g2
  obtain ⟨ra, rc, red, h3, hr, _, hd, _⟩ := onums g3
  simp only [List.cons.injEq, and_true] at h0 h1 h2 h3
  subst h0; subst h1; subst h2; subst h3
  rw [hx]
  exact ⟨⟨s0, s1, s2, ra, rc, red⟩, rfl, hr, ⟨y0.1, y1.1, y2.1, y3.1, rfl, hd⟩⟩
theorem ocfs {fuel : Nat} {cs : List Value} {x : DataW H × List MemPlace} (hf : DataW.trod enc Tryz.prog W 0 (fun _ => true) true fuel 27 cs = some x) :
  ∃ (a : Option Addr) (cap : Nat) (l : List CV), cs = [.slice a l.length cap] /\ CfRow W a l /\ ((x.1 = .nil /\ l = []) ∨ ∃ el sp, x.1 = .slice el sp /\ el.length = l.length /\ ∀ i, i < l.length -> CD (l.getD i .none) (el.getD i .nil)) := by
 rcases Go.Deep.open_slice Tryz.underlying27 hf with ⟨hcs, hx⟩ | ⟨a, len, cap, m, n, D, Pl, hcs, _, hl, _, hm, hx, hel⟩
 ·exact ⟨none, 0, [], hcs, ⟨fun h => absurd rfl h, fun p hp => by cases hp⟩, .inl ⟨by rw [hx], rfl⟩⟩
 ·have hm' : m = cap := by simpa using hm
  have each : ∀ i, i < m -> ∃ p : CV, (∀ j, j < 4 -> W.cell? (a.add (i * 4 + j)) = (cfCells p)[j]?) /\ InRow W p.ra p.red /\ CD p (D i) := by
   intro i hi
   obtain ⟨cs', h1, h2⟩ := hel i hi
   rw [gcellsConf] at h1
   obtain ⟨hl1, _, hcell⟩ := World.cells?_some h1
   obtain ⟨q, hs, hr, hd⟩ := ocf h2
   subst hs
   refine ⟨q, fun j hj => ?_, hr, hd⟩
   have e0 := hcell j (by omega)
   rw [Go.Deep.add_add] at e0
   exact e0
  obtain ⟨f, hfs⟩ : ∃ f : Nat -> CV, ∀ i, i < m -> (∀ j, j < 4 -> W.cell? (a.add (i * 4 + j)) = (cfCells (f i))[j]?) /\ InRow W (f i).ra (f i).red /\ CD (f i) (D i) :=
   ⟨fun i => if h : i < m then Classical.choose (each i h) else .none, fun i h => by simp only [dif_pos h]; exact Classical.choose_spec (each i h)⟩
  have hpl : ((List.range len).map f).length = len := by simp
  have hgd : ∀ i, i < len -> ((List.range len).map f).getD i .none = f i := fun i hi => by simp [List.getD, hi]
  refine ⟨some a, cap, (List.range len).map f, by rw [hpl]; exact hcs, ⟨fun hne => ?_, fun p hp => ?_⟩, .inr ⟨_, _, by rw [hx], by simp, fun i hi => ?_⟩⟩
  ·obtain ⟨b, off, spot⟩ := a
   have h0 : 0 < len := by
    rcases Nat.eq_zero_or_pos len with e | e
    ·subst e; simp at hne
    ·exact e
   have hc0 := (hfs 0 (by omega)).1 0 (by decide)
   have hc1 : W.cell? ((⟨b, off, spot⟩ : Addr).add (0 * 4 + 0)) = some (.int .i64 (f 0).st) := hc0
   have hspot : spot = none := by simpa [Addr.add] using World.cell?_spot hc1
   subst hspot
   refine ⟨b, off, rfl, ?_, fun i hi => ?_⟩
   ·have := World.block_lt_of_cell? W _ hc1
    rw [add_none] at this
    exact this
   ·have hi' : i < len := by rw [hpl] at hi; exact hi
    have eg : ((List.range len).map f)[i] = f i := by simp
    rw [eg]
    have hc := (hfs i (by omega)).1
    have k0 := hc 0 (by decide)
    have k1 := hc 1 (by decide)
    have k2 := hc 2 (by decide)
    have k3 := hc 3 (by decide)
    rw [add_none] at k0 k1 k2 k3
    simp only [cfCells, List.getElem?_cons_zero, List.getElem?_cons_succ, Nat.add_zero, <- Nat.add_assoc] at k0 k1 k2 k3
    exact ⟨k0, k1, k2, k3⟩
  ·obtain ⟨i, hi, rfl⟩ := List.mem_map.1 hp
   exact (hfs i (by have := List.mem_range.1 hi; omega)).2.1
  ·rw [hpl] at hi
   have := (hfs i (by omega)).2.2
   rw [hgd i hi]
   have e : ((List.range len).map D).getD i DataW.nil = D i := by simp [List.getD, hi]
   rw [e]
   exact this
def CLD (l : List CV) (d : DataW H) : Prop := (d = .nil /\ l = []) ∨ ∃ el sp, d = .slice el sp /\ el.length = l.length /\ ∀ i, i < l.length -> CD (l.getD i .none) (el.getD i .nil)
theorem open_confls {base : Nat} {v : Value} {d : DataW H} {p : List MemPlace} (hv : Value.okWide Tryz.prog W .any base 27 v)
  (h : DataW.Trod enc Tryz.prog W 0 (fun _ => true) true 27 v d p) :
  ∃ (a : Option Addr) (cap : Nat) (l : List CV), v = .slice a l.length cap /\ CfRow W a l /\ CLD l d := by
 obtain ⟨a0, len0, cap0, rfl⟩ := okWide_slice Tryz.underlying27 hv
 obtain ⟨fuel, hf⟩ := h
 obtain ⟨a, cap, l, hcs, h1, h2⟩ := ocfs hf
 simp only [Value.cells, List.cons.injEq, and_true] at hcs
 exact ⟨a, cap, l, hcs, h1, h2⟩
theorem confls_bulk {l : List CV} {M : Nat} {d : DataW H} (h : CLD l d) (hb : Rows.uptoBulk d <= M) : l.length <= M /\ ∀ x ∈ l, x.red.length <= M := by
 rcases h with ⟨_, rfl⟩ | ⟨el, sp, rfl, e, hE⟩
 ·exact ⟨Nat.zero_le _, fun l hl => by cases hl⟩
 ·obtain ⟨h1, h2⟩ := gbulk_el hb
  refine ⟨by omega, fun x hx => ?_⟩
  obtain ⟨i, hi, rfl⟩ := in_getD (d := CV.none) hx
  obtain ⟨d0, d1, d2, d3, ed, hl⟩ := hE i hi
  have hm := h2 _ (getD_in (d := .nil) (show i < el.length by omega))
  rw [ed] at hm
  exact ld_bulk hl (agg_bulk hm (by simp))
end
end Go.Proofs.YtjpknihkcndoiaaGreat
