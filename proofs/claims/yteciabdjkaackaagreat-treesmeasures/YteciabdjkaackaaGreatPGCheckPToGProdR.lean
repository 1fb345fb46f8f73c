import Derived.Test.YteciabdjkaackaaGreatPGRulesToGBulk
import Derived.Test.YteciabdjkaackaaGreatPBBaseToGRow
namespace Go.Proofs.YteciabdjkaackaaGreat
set_option linter.unusedVariables false
open Go.RowKit
def prodU (g : GV) (i : Nat) : Int :=
 if inN g (g.ps.getD i .none).left = false then 35
 else if 16 < (g.ps.getD i .none).right.length then 34
 else if ((g.ps.getD i .none).right.any fun s => !inG g s.1 s.2) = true then 35
 else if ((g.ps.take i).any fun q => q.left == (g.ps.getD i .none).left && q.right == (g.ps.getD i .none).right) = true then 6
 else if (g.ps.getD i .none).prec ≠ -1 /\ inT g (g.ps.getD i .none).prec = false then 38
 else 0
def risesU (l : List Int) : Bool := (List.range (l.length - 1)).all fun i => decide (l.getD i 0 < l.getD (i + 1) 0)
def namedU (ls : List LV) (i : Nat) : List Int := (ls.take i).flatMap LV.terms
def levelU (g : GV) (i : Nat) : Int :=
 if (g.ls.getD i .none).assoc < 1 ∨ 3 < (g.ls.getD i .none).assoc ∨ (g.ls.getD i .none).terms.length = 0 then 37
 else if ((g.ls.getD i .none).terms.any fun n => !inT g n) = true then 4
 else if risesU (g.ls.getD i .none).terms = false then 7
 else if ((g.ls.getD i .none).terms.any fun n => (namedU g.ls i).contains n) = true then 6
 else 0
def firstU (f : Nat -> Int) : Nat -> Nat -> Int × Int
 | 0, _ => (0, 0)
 | c + 1, i => if f i ≠ 0 then (f i, i) else firstU f c (i + 1)
theorem firstU_from (f : Nat -> Int) : ∀ (c i k : Nat), k <= c -> (∀ j, j < k -> f (i + j) = 0) -> firstU f c i = firstU f (c - k) (i + k)
 | c, i, 0, _, _ => rfl
 | 0, i, k + 1, h, _ => absurd h (by omega)
 | c + 1, i, k + 1, h, hz => by
  have h0 : f i = 0 := by have := hz 0 (by omega); simpa using this
  have := firstU_from f c (i + 1) k (by omega) (fun j hj => by have := hz (j + 1) (by omega); rwa [show i + (j + 1) = i + 1 + j by omega] at this)
  have e : firstU f (c + 1) i = if f i ≠ 0 then (f i, (i : Int)) else firstU f c (i + 1) := rfl
  rw [e, if_neg (by simpa using h0), this, show c + 1 - (k + 1) = c - k by omega, show i + (k + 1) = i + 1 + k by omega]
theorem firstU_hit {f : Nat -> Int} {n i : Nat} (hi : i < n) (hz : ∀ j, j < i -> f j = 0) (h : f i ≠ 0) : firstU f n 0 = (f i, (i : Int)) := by
 rw [firstU_from f n 0 i (by omega) (fun j hj => by simpa using hz j hj), show n - i = (n - i - 1) + 1 by omega]
 simp [firstU, h]
theorem firstU_none {f : Nat -> Int} {n : Nat} (hz : ∀ j, j < n -> f j = 0) : firstU f n 0 = (0, 0) := by
 rw [firstU_from f n 0 n (Nat.le_refl _) (fun j hj => by simpa using hz j hj), Nat.sub_self]
 rfl
def checkG (g : GV) (names : Int × Int) : Int × Int :=
 if g.ts.length = 0 ∨ 64 < g.ts.length then (31, 0)
 else if g.ns.length = 0 ∨ 64 < g.ns.length then (32, 0)
 else if names.1 ≠ 0 then names
 else if inN g g.start = false then (36, 0)
 else if g.ps.length = 0 ∨ 256 < g.ps.length then (33, 0)
 else if (firstU (prodU g) g.ps.length 0).1 ≠ 0 then firstU (prodU g) g.ps.length 0
 else if 32 < g.ls.length then (37, 0)
 else firstU (levelU g) g.ls.length 0
theorem any_hit {α : Type} {p : α -> Bool} {l : List α} {d : α} {k : Nat} (hk : k < l.length) (h : p (l.getD k d) = true) : l.any p = true := by
 rw [List.any_eq_true]
 exact ⟨l.getD k d, by simp [List.getD, hk], h⟩
theorem any_none {α : Type} {p : α -> Bool} {l : List α} (d : α) (h : ∀ j, j < l.length -> p (l.getD j d) = false) : l.any p = false := by
 rw [List.any_eq_false]
 intro x hx
 obtain ⟨j, hj, rfl⟩ := List.getElem_of_mem hx
 have := h j hj
 simp [List.getD, hj] at this
 simp [this]
theorem take_stepY {xs ys : List (Int × Int)} {k : Nat} (h : xs.take k = ys.take k) (hx : k < xs.length) (hy : k < ys.length) (e : xs.getD k (0, 0) = ys.getD k (0, 0)) : xs.take (k + 1) = ys.take (k + 1) := by
 rw [List.take_succ_eq_append_getElem hx, List.take_succ_eq_append_getElem hy, h]
 simp [List.getD, hx, hy] at e
 rw [e]
set_option maxHeartbeats 2000000 in
theorem equalsyms_g (ao bo : Option Addr) (n m ca cb : Nat) (l1 l2 : List (Int × Int)) (w : World) (hn : n = l1.length) (hm : m = l2.length) (hl : l1.length <= 140737488355328) (hl2 : l2.length <= 140737488355328) (hr : SymRow w ao l1) (hs : SymRow w bo l2) :
  Calls Tryz.prog 143 #[.slice ao n ca, .slice bo m cb] w fun e w' => e = .returned (.bool (l1 == l2)) /\ ∃ d, w' = w.drewN d := by
 subst hn hm
 by_cases hne : l1.length = l2.length
 ·have hb : ((l1.length : Int) != l2.length) = false := by simp [hne]
  have HN : Hid (l1.length = l2.length) := hne
  have hle : ∀ k, k < l1.length -> k < l2.length := fun k hk => by omega
  clear hne
  go_enter Tryz.func143, Tryz.ntmps143
  go_wp2
  go_loopw [13] (fun i wr => ∃ k d : Nat, k <= l1.length /\ i = .int .i64 k /\ wr = w.drewN d /\ Hid (l1.take k = l2.take k)) (fun i _ => l1.length - (intOf i).toNat)
  case atStart => exact ⟨0, 0, Nat.zero_le _, rfl, rfl, rfl⟩
  case round =>
   obtain ⟨k, d, hk, rfl, rfl, HT⟩ := hrel
   by_cases hlt : k < l1.length
   ·have hlt2 := hle k hlt
    obtain ⟨b, off, rfl, _, hc⟩ := hr (by intro h; subst h; simp at hlt)
    obtain ⟨b2, off2, rfl, _, hc2⟩ := hs (by intro h; subst h; simp at hlt2)
    obtain ⟨h1, h2⟩ := hc k hlt
    obtain ⟨h3, h4⟩ := hc2 k hlt2
    have HS : Hid (l1.getD k (0, 0) = l2.getD k (0, 0) -> l1.take (k + 1) = l2.take (k + 1)) := fun e => take_stepY HT.out hlt hlt2 e
    have HF : Hid (l1.getD k (0, 0) ≠ l2.getD k (0, 0) -> ¬ l1 = l2) := fun e e2 => e (by rw [e2])
    clear hc hc2 hr hs
    generalize l1.getD k (0, 0) = q at *
    generalize l2.getD k (0, 0) = p at *
    obtain ⟨q1, q2⟩ := q
    obtain ⟨p1, p2⟩ := p
    simp only at h1 h2 h3 h4
    by_cases e1 : q1 = p1
    ·by_cases e2 : q2 = p2
     ·subst e1 e2
      have HS1 : Hid (l1.take (k + 1) = l2.take (k + 1)) := HS.out rfl
      clear HS HF
      have e1 : (q1 == q1) = true := by simp
      have e2 : (q2 == q2) = true := by simp
      go_wp2
      go_quiet (fail)
      go_wp2
      go_roundw
      case rel => exact ⟨k + 1, _, by omega, by go_num, rfl, HS1.out⟩
      case measure => simp [intOf]; omega
     ·subst e1
      have HX : Hid (¬ l1 = l2) := HF.out (by simp [e2])
      have e3 : (q2 == p2) = false := by simpa using e2
      have e4 : (q1 == q1) = true := by simp
      clear HF HS
      go_wp2
      go_quiet (fail)
      go_wp2
      go_ret
      exact ⟨by have := HX.out; simp [this], _, World.drewN_drewN _ _ _⟩
    ·have HX : Hid (¬ l1 = l2) := HF.out (by simp [e1])
     have e3 : (q1 == p1) = false := by simpa using e1
     clear HF HS
     go_wp2
     go_quiet (fail)
     go_wp2
     go_ret
     exact ⟨by have := HX.out; simp [this], _, World.drewN_drewN _ _ _⟩
   ·have HX : Hid (l1 = l2) := by
     have h1 := HT.out
     have h2 := HN.out
     rw [List.take_of_length_le (by omega), List.take_of_length_le (by omega)] at h1
     exact h1
    go_wp2
    go_ret
    exact ⟨by have := HX.out; simp [this], _, rfl⟩
 ·have hb : ((l1.length : Int) != l2.length) = true := by simp; omega
  have HX : Hid (¬ l1 = l2) := fun e => hne (by rw [e])
  go_enter Tryz.func143, Tryz.ntmps143
  go_wp2
  go_ret
  exact ⟨by have := HX.out; simp [this], 0, rfl⟩
theorem equalsyms_b (ao bo : Option Addr) (ca cb : Nat) (l1 l2 : List (Int × Int)) (w : World) (b : Bool) (he : (l1 == l2) = b) (hl : l1.length <= 140737488355328) (hl2 : l2.length <= 140737488355328) (hr : SymRow w ao l1) (hs : SymRow w bo l2) :
  Calls Tryz.prog 143 #[.slice ao l1.length ca, .slice bo l2.length cb] w fun e w' => e = .returned (.bool b) /\ ∃ d, w' = w.drewN d :=
 (equalsyms_g ao bo _ _ ca cb l1 l2 w rfl rfl hl hl2 hr hs).mono fun e w' ⟨h1, h2⟩ => ⟨by rw [h1, he], h2⟩
def prodQ (g : GV) (i : Nat) (p : PV) : Int :=
 if inN g p.left = false then 35
 else if 16 < p.right.length then 34
 else if (p.right.any fun s => !inG g s.1 s.2) = true then 35
 else if ((g.ps.take i).any fun q => q.left == p.left && q.right == p.right) = true then 6
 else if p.prec ≠ -1 /\ inT g p.prec = false then 38
 else 0
theorem prodQ_is (g : GV) (i : Nat) : prodU g i = prodQ g i (g.ps.getD i .none) := rfl
abbrev pBox (p : PV) : Obj := .cells #[.int .i64 p.left, .slice p.ra p.right.length p.rc, .int .i64 p.prec] 116
structure PB (g : GV) (p : PV) (w wr : World) : Prop where
 at_ : GAt 140737488355328 wr g
 row : SymRow wr p.ra p.right
 g0 : wr.cell? ⟨w.heap.size, 0, none⟩ = some (.slice g.ta g.ts.length g.tc)
 g1 : wr.cell? ⟨w.heap.size, 1, none⟩ = some (.slice g.na g.ns.length g.nc)
 g2 : wr.cell? ⟨w.heap.size, 2, none⟩ = some (.int .i64 g.start)
 g3 : wr.cell? ⟨w.heap.size, 3, none⟩ = some (.slice g.pa g.ps.length g.pc)
 g4 : wr.cell? ⟨w.heap.size, 4, none⟩ = some (.slice g.la g.ls.length g.lc)
 p0 : wr.cell? ⟨w.heap.size + 1, 0, none⟩ = some (.int .i64 p.left)
 p1 : wr.cell? ⟨w.heap.size + 1, 1, none⟩ = some (.slice p.ra p.right.length p.rc)
 p2 : wr.cell? ⟨w.heap.size + 1, 2, none⟩ = some (.int .i64 p.prec)
 lt0 : w.heap.size < wr.heap.size
 lt1 : w.heap.size + 1 < wr.heap.size
theorem alloc_size (w : World) (o : Obj) : (w.alloc o).heap.size = w.heap.size + 1 := by simp
theorem PB.new {g : GV} {p : PV} {w : World} (h : GAt 140737488355328 w g) (hr : SymRow w p.ra p.right) : PB g p w ((w.alloc (gBox g)).alloc (pBox p)) := by
 have b1 := below_alloc w (gBox g)
 have b2 := below_alloc (w.alloc (gBox g)) (pBox p)
 have b3 : Below w.heap.size w ((w.alloc (gBox g)).alloc (pBox p)) := b1.trans (b2.mono b1.size)
 have e1 : ((w.alloc (gBox g)).alloc (pBox p)).heap[w.heap.size]? = some (gBox g) := (b2.block _ (by rw [alloc_size]; omega)).trans (heap_alloc_new w _)
 have e2 : ((w.alloc (gBox g)).alloc (pBox p)).heap[w.heap.size + 1]? = some (pBox p) := by have := heap_alloc_new (w.alloc (gBox g)) (pBox p); rwa [alloc_size] at this
 refine ⟨h.later b3, hr.later (Nat.le_refl _) b3, ?_, ?_, ?_, ?_, ?_, ?_, ?_, ?_, lt_of_block e1, lt_of_block e2⟩
 ·rw [cellq_any e1]; rfl
 ·rw [cellq_any e1]; rfl
 ·rw [cellq_any e1]; rfl
 ·rw [cellq_any e1]; rfl
 ·rw [cellq_any e1]; rfl
 ·rw [cellq_any e2]; rfl
 ·rw [cellq_any e2]; rfl
 ·rw [cellq_any e2]; rfl
theorem PB.later {g : GV} {p : PV} {w wr w' : World} (h : PB g p w wr) (hb : Below wr.heap.size wr w') : PB g p w w' := by
 have e0 : ∀ j, w'.cell? ⟨w.heap.size, j, none⟩ = wr.cell? ⟨w.heap.size, j, none⟩ := fun j => hb.cell (p := ⟨w.heap.size, j, none⟩) h.lt0
 have e1 : ∀ j, w'.cell? ⟨w.heap.size + 1, j, none⟩ = wr.cell? ⟨w.heap.size + 1, j, none⟩ := fun j => hb.cell (p := ⟨w.heap.size + 1, j, none⟩) h.lt1
 exact ⟨h.at_.later hb, h.row.later (Nat.le_refl _) hb, (e0 0).trans h.g0, (e0 1).trans h.g1, (e0 2).trans h.g2, (e0 3).trans h.g3, (e0 4).trans h.g4, (e1 0).trans h.p0, (e1 1).trans h.p1, (e1 2).trans h.p2, Nat.lt_of_lt_of_le h.lt0 hb.size, Nat.lt_of_lt_of_le h.lt1 hb.size⟩
theorem PB.ahead {g : GV} {p : PV} {w wr : World} (h : PB g p w wr) {k : Nat} (hk : k < g.ps.length) : ∃ b off, g.pa = some ⟨b, off, none⟩ /\ b < wr.heap.size /\ wr.cell? ⟨b, off + k * 3, none⟩ = some (.int .i64 (g.ps.getD k .none).left) /\ wr.cell? ⟨b, off + k * 3 + 1, none⟩ = some (.slice (g.ps.getD k .none).ra (g.ps.getD k .none).right.length (g.ps.getD k .none).rc) /\ SymRow wr (g.ps.getD k .none).ra (g.ps.getD k .none).right /\ (g.ps.getD k .none).right.length <= 140737488355328 := by
 obtain ⟨b, off, e, hl, hc⟩ := h.at_.p.cells (by intro e; rw [e] at hk; simp at hk)
 obtain ⟨c0, c1, _⟩ := hc k hk
 have hm : g.ps.getD k .none ∈ g.ps := by simp [List.getD, hk]
 exact ⟨b, off, e, hl, c0, c1, h.at_.p.rows _ hm, h.at_.rl _ hm⟩
end Go.Proofs.YteciabdjkaackaaGreat
