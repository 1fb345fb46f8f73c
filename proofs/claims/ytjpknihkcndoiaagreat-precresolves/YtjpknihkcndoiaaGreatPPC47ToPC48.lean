import Derived.Test.YtjpknihkcndoiaaGreatPPC46
import Derived.Test.YtjpknihkcndoiaaGreatPPC31ToPC32
namespace Go.Proofs.YtjpknihkcndoiaaGreat
set_option linter.unusedVariables false
set_option maxRecDepth 100000
set_option maxHeartbeats 16000000
open Go.RowKit Go.Maps
theorem cfE_first {g : GV} {q : CV} (h : q.look < 0 ∨ (g.ts.length : Int) < q.look ∨ q.shift < -1) : cfE g q = 4 := by
 have : rngU g q = false := by
  unfold rngU
  rcases h with h | h | h
  ·have : decide (0 <= q.look) = false := by simpa using h
   simp [this]
  ·have : decide (q.look <= g.ts.length) = false := by simpa using h
   simp [this]
  ·have : decide (-1 <= q.shift) = false := by simpa using h
   simp [this]
 unfold cfE
 rw [this]
 rfl
theorem cfE_bad {g : GV} {q : CV} {p : Int} (hp : p ∈ q.red) (h : p < -1 ∨ (g.ps.length : Int) <= p) : cfE g q = 4 := by
 have : rngU g q = false := by
  have ha : q.red.any (oddU g) = true := List.any_eq_true.2 ⟨p, hp, by unfold oddU; simp; omega⟩
  unfold rngU
  rw [ha]
  simp
 unfold cfE
 rw [this]
 rfl
theorem rng_ok {g : GV} {q : CV} (h1 : 0 <= q.look) (h2 : q.look <= (g.ts.length : Int)) (h3 : -1 <= q.shift) (h : ∀ j, j < q.red.length -> -1 <= q.red.getD j 0 /\ q.red.getD j 0 < (g.ps.length : Int)) : rngU g q = true := by
 have ha : q.red.any (oddU g) = false := by
  rw [List.any_eq_false]
  intro p hp
  obtain ⟨i, hi, rfl⟩ := getD_mem (d := 0) hp
  have := h i hi
  generalize q.red.getD i 0 = p at *
  unfold oddU
  simp
  omega
 unfold rngU
 rw [ha]
 simp
 omega
theorem rise_bad {l : List Int} {i : Nat} (h1 : 1 <= i) (h2 : i < l.length) (h : l.getD i 0 <= l.getD (i - 1) 0) : risesU l = false := by
 rw [Bool.eq_false_iff]
 intro e
 unfold risesU at e
 have := List.all_eq_true.1 e (i - 1) (List.mem_range.2 (by omega))
 have := of_decide_eq_true this
 rw [show i - 1 + 1 = i by omega] at this
 omega
theorem rise_ok {l : List Int} (h : ∀ j, 1 <= j -> j < l.length -> l.getD (j - 1) 0 < l.getD j 0) : risesU l = true := by
 unfold risesU
 rw [List.all_eq_true]
 intro i hi
 have hi := List.mem_range.1 hi
 have := h (i + 1) (by omega) (by omega)
 rw [Nat.add_sub_cancel] at this
 exact decide_eq_true this
theorem GC.drew {g : GV} {q : CV} {w w' : World} (h : GC g q w w') : GC g q w w'.drew := ⟨h.gb, h.cb, h.bel.drew⟩
set_option linter.unusedSimpArgs false in
theorem rmay_P (g : GV) (q : CV) (w : World) (htl : g.ts.length <= 140737488355328) (hpl : g.ps.length <= 140737488355328) (hl : q.red.length <= 140737488355328) (hr : InRow w q.ra q.red) :
  Calls Tryz.prog 37 #[g.val, q.val] w fun e w' => e = .returned (.int .i64 (cfE g q)) /\ Below w.heap.size w w' := by
 have N0 : Hid (GC g q w ((w.alloc (gBox g)).alloc (.cells #[.int .i64 q.st, .int .i64 q.look, .int .i64 q.shift, .slice q.ra q.red.length q.rc] 44))) := GC.new g q w
 have HR : Hid (∀ w', Below w.heap.size w w' -> InRow w' q.ra q.red) := fun w' hb => hr.later hb
 clear hr
 obtain ⟨y0, y1, y2, y3⟩ := cb_cells (q := q) N0.out.cb
 obtain ⟨x0, x1, x2, x3, x4⟩ := gb_cells N0.out.gb
 by_cases c1 : q.look < 0
 ·have E : Hid (cfE g q = 4) := cfE_first (Or.inl c1)
  go_enter Tryz.func37, Tryz.ntmps37
  go_wp2
  go_ret
  exact ⟨by rw [E.out]; rfl, N0.out.bel⟩
 by_cases c2 : (g.ts.length : Int) < q.look
 ·have E : Hid (cfE g q = 4) := cfE_first (Or.inr (Or.inl c2))
  go_enter Tryz.func37, Tryz.ntmps37
  go_wp2
  go_ret
  exact ⟨by rw [E.out]; rfl, N0.out.bel⟩
 by_cases c3 : q.shift < -1
 ·have E : Hid (cfE g q = 4) := cfE_first (Or.inr (Or.inr c3))
  go_enter Tryz.func37, Tryz.ntmps37
  go_wp2
  go_ret
  exact ⟨by rw [E.out]; rfl, N0.out.bel⟩
 have HC : Hid (0 <= q.look /\ q.look <= (g.ts.length : Int) /\ -1 <= q.shift) := ⟨by omega, by omega, by omega⟩
 go_enter Tryz.func37, Tryz.ntmps37
 go_wp2
 clear c1 c3 x0 x1 x2 x3 x4 y0 y1 y2 y3
 go_loopw [5] (fun z wr => ∃ i : Nat, i <= q.red.length /\ z = .int .i64 i /\ (∀ j, j < i -> -1 <= q.red.getD j 0 /\ q.red.getD j 0 < (g.ps.length : Int)) /\ GC g q w wr) (fun z _ => q.red.length - (intOf z).toNat)
 case atStart => exact ⟨0, Nat.zero_le _, rfl, fun j hj => absurd hj (Nat.not_lt_zero _), N0.out⟩
 case round =>
  clear N0
  obtain ⟨i, hi, rfl, hno, hG⟩ := hrel
  have HN : Hid (∀ j, j < i -> -1 <= q.red.getD j 0 /\ q.red.getD j 0 < (g.ps.length : Int)) := hno
  clear hno
  obtain ⟨wd, hwd⟩ : ∃ wd : World, wd = wr.drew := ⟨_, rfl⟩
  have SD : Hid (GC g q w wd) := by rw [hwd]; exact hG.drew
  have HG0 : Hid (GC g q w wr) := hG
  clear hG
  obtain ⟨y0, y1, y2, y3⟩ := cb_cells (q := q) HG0.out.cb
  obtain ⟨x0, x1, x2, x3, x4⟩ := gb_cells HG0.out.gb
  by_cases hlt : i < q.red.length
  ·have ilt : (i : Int) < (q.red.length : Int) := by omega
   obtain ⟨v0, v1, v2, v3⟩ := cb_cells (q := q) SD.out.cb
   obtain ⟨u0, u1, u2, u3, u4⟩ := gb_cells SD.out.gb
   obtain ⟨rb, ro, hra, hrb, hrc⟩ := (HR.out wd SD.out.bel) (by intro e; rw [e] at hlt; simp at hlt)
   have cx := hrc i hlt
   have HM : Hid (∀ p, q.red.getD i 0 = p -> p < -1 ∨ (g.ps.length : Int) <= p -> cfE g q = 4) := fun p e hp => cfE_bad (by rw [<- e]; exact mem_getD hlt) hp
   have HF : Hid (∀ p, q.red.getD i 0 = p -> ¬ p < -1 -> ¬ (g.ps.length : Int) <= p -> ∀ j, j < i + 1 -> -1 <= q.red.getD j 0 /\ q.red.getD j 0 < (g.ps.length : Int)) := fun p e h1 h2 j hj => by
    rcases Nat.lt_succ_iff_lt_or_eq.1 hj with r | rfl
    ·exact HN.out j r
    ·rw [e]; exact ⟨by omega, by omega⟩
   clear hrc HN
   rw [hra] at v3 y3
   generalize hp : q.red.getD i 0 = p at cx
   have HP : Hid (q.red.getD i 0 = p) := hp
   clear hp
   by_cases a1 : p < -1
   ·have a1d : decide (p < -1) = true := by simpa using a1
    go_wp2
    refine wp_region_s (by kernel_rfl) (by kernel_rfl) wd hwd ?_
    clear hwd
    refine st_yes (v := ?_) (by rfl) ?_ ?_
    rotate_left
    ·(go_simp; with_reducible rfl)
    (try simp only [Act.put, lsA, lsZ, lsN])
    refine st_yes (v := ?_) (by rfl) ?_ ?_
    rotate_left
    ·(go_simp; with_reducible rfl)
    (try simp only [Act.put, lsA, lsZ, lsN])
    refine st_yes (v := ?_) (by rfl) ?_ ?_
    rotate_left
    ·(go_simp; with_reducible rfl)
    (try simp only [Act.put, lsA, lsZ, lsN])
    refine st_yes (v := ?_) (by rfl) ?_ ?_
    rotate_left
    ·(go_simp; with_reducible rfl)
    (try simp only [Act.put, lsA, lsZ, lsN])
    refine st_yes (v := ?_) (by rfl) ?_ ?_
    rotate_left
    ·(go_simp; with_reducible rfl)
    (try simp only [Act.put, lsA, lsZ, lsN])
    refine st_yes (v := ?_) (by rfl) ?_ ?_
    rotate_left
    ·(go_simp; with_reducible rfl)
    (try simp only [Act.put, lsA, lsZ, lsN])
    refine st_yes (v := ?_) (by rfl) ?_ ?_
    rotate_left
    ·(go_simp; with_reducible rfl)
    (try simp only [Act.put, lsA, lsZ, lsN])
    refine st_no (by rfl) ?_
    (try simp only [Act.put, lsA, lsZ, lsN])
    refine st_no (by rfl) ?_
    (try simp only [Act.put, lsA, lsZ, lsN])
    refine st_no (by rfl) ?_
    (try simp only [Act.put, lsA, lsZ, lsN])
    refine st_no (by rfl) ?_
    (try simp only [Act.put, lsA, lsZ, lsN])
    refine st_no (by rfl) ?_
    (try simp only [Act.put, lsA, lsZ, lsN])
    refine st_no (by rfl) ?_
    (try simp only [Act.put, lsA, lsZ, lsN])
    refine st_no (by rfl) ?_
    (try simp only [Act.put, lsA, lsZ, lsN])
    refine st_no (by rfl) ?_
    (try simp only [Act.put, lsA, lsZ, lsN])
    refine st_no (by rfl) ?_
    (try simp only [Act.put, lsA, lsZ, lsN])
    refine st_yes (v := ?_) (by rfl) ?_ ?_
    rotate_left
    ·(go_simp; with_reducible rfl)
    (try simp only [Act.put, lsA, lsZ, lsN])
    refine st_nil ?_
    go_wp2
    go_ret
    exact ⟨by rw [HM.out p HP.out (Or.inl a1)]; rfl, SD.out.bel⟩
   ·have a1d : decide (p < -1) = false := by simpa using a1
    by_cases a2 : (g.ps.length : Int) <= p
    ·have a2d : decide ((g.ps.length : Int) <= p) = true := by simpa using a2
     go_wp2
     refine wp_region_s (by kernel_rfl) (by kernel_rfl) wd hwd ?_
     clear hwd
     refine st_yes (v := ?_) (by rfl) ?_ ?_
     rotate_left
     ·(go_simp; with_reducible rfl)
     (try simp only [Act.put, lsA, lsZ, lsN])
     refine st_yes (v := ?_) (by rfl) ?_ ?_
     rotate_left
     ·(go_simp; with_reducible rfl)
     (try simp only [Act.put, lsA, lsZ, lsN])
     refine st_yes (v := ?_) (by rfl) ?_ ?_
     rotate_left
     ·(go_simp; with_reducible rfl)
     (try simp only [Act.put, lsA, lsZ, lsN])
     refine st_yes (v := ?_) (by rfl) ?_ ?_
     rotate_left
     ·(go_simp; with_reducible rfl)
     (try simp only [Act.put, lsA, lsZ, lsN])
     refine st_yes (v := ?_) (by rfl) ?_ ?_
     rotate_left
     ·(go_simp; with_reducible rfl)
     (try simp only [Act.put, lsA, lsZ, lsN])
     refine st_yes (v := ?_) (by rfl) ?_ ?_
     rotate_left
     ·(go_simp; with_reducible rfl)
     (try simp only [Act.put, lsA, lsZ, lsN])
     refine st_yes (v := ?_) (by rfl) ?_ ?_
     rotate_left
     ·(go_simp; with_reducible rfl)
     (try simp only [Act.put, lsA, lsZ, lsN])
     refine st_yes (v := ?_) (by rfl) ?_ ?_
     rotate_left
     ·(go_simp; with_reducible rfl)
     (try simp only [Act.put, lsA, lsZ, lsN])
     refine st_yes (v := ?_) (by rfl) ?_ ?_
     rotate_left
     ·(go_simp; with_reducible rfl)
     (try simp only [Act.put, lsA, lsZ, lsN])
     refine st_yes (v := ?_) (by rfl) ?_ ?_
     rotate_left
     ·(go_simp; with_reducible rfl)
     (try simp only [Act.put, lsA, lsZ, lsN])
     refine st_yes (v := ?_) (by rfl) ?_ ?_
     rotate_left
     ·(go_simp; with_reducible rfl)
     (try simp only [Act.put, lsA, lsZ, lsN])
     refine st_yes (v := ?_) (by rfl) ?_ ?_
     rotate_left
     ·(go_simp; with_reducible rfl)
     (try simp only [Act.put, lsA, lsZ, lsN])
     refine st_yes (v := ?_) (by rfl) ?_ ?_
     rotate_left
     ·(go_simp; with_reducible rfl)
     (try simp only [Act.put, lsA, lsZ, lsN])
     refine st_yes (v := ?_) (by rfl) ?_ ?_
     rotate_left
     ·(go_simp; with_reducible rfl)
     (try simp only [Act.put, lsA, lsZ, lsN])
     refine st_yes (v := ?_) (by rfl) ?_ ?_
     rotate_left
     ·(go_simp; with_reducible rfl)
     (try simp only [Act.put, lsA, lsZ, lsN])
     refine st_yes (v := ?_) (by rfl) ?_ ?_
     rotate_left
     ·(go_simp; with_reducible rfl)
     (try simp only [Act.put, lsA, lsZ, lsN])
     refine st_yes (v := ?_) (by rfl) ?_ ?_
     rotate_left
     ·(go_simp; with_reducible rfl)
     (try simp only [Act.put, lsA, lsZ, lsN])
     refine st_nil ?_
     go_wp2
     go_ret
     exact ⟨by rw [HM.out p HP.out (Or.inr a2)]; rfl, SD.out.bel⟩
    ·have a2d : decide ((g.ps.length : Int) <= p) = false := by simpa using a2
     go_wp2
     refine wp_region_s (by kernel_rfl) (by kernel_rfl) wd hwd ?_
     clear hwd
     refine st_yes (v := ?_) (by rfl) ?_ ?_
     rotate_left
     ·(go_simp; with_reducible rfl)
     (try simp only [Act.put, lsA, lsZ, lsN])
     refine st_yes (v := ?_) (by rfl) ?_ ?_
     rotate_left
     ·(go_simp; with_reducible rfl)
     (try simp only [Act.put, lsA, lsZ, lsN])
     refine st_yes (v := ?_) (by rfl) ?_ ?_
     rotate_left
     ·(go_simp; with_reducible rfl)
     (try simp only [Act.put, lsA, lsZ, lsN])
     refine st_yes (v := ?_) (by rfl) ?_ ?_
     rotate_left
     ·(go_simp; with_reducible rfl)
     (try simp only [Act.put, lsA, lsZ, lsN])
     refine st_yes (v := ?_) (by rfl) ?_ ?_
     rotate_left
     ·(go_simp; with_reducible rfl)
     (try simp only [Act.put, lsA, lsZ, lsN])
     refine st_yes (v := ?_) (by rfl) ?_ ?_
     rotate_left
     ·(go_simp; with_reducible rfl)
     (try simp only [Act.put, lsA, lsZ, lsN])
     refine st_yes (v := ?_) (by rfl) ?_ ?_
     rotate_left
     ·(go_simp; with_reducible rfl)
     (try simp only [Act.put, lsA, lsZ, lsN])
     refine st_yes (v := ?_) (by rfl) ?_ ?_
     rotate_left
     ·(go_simp; with_reducible rfl)
     (try simp only [Act.put, lsA, lsZ, lsN])
     refine st_yes (v := ?_) (by rfl) ?_ ?_
     rotate_left
     ·(go_simp; with_reducible rfl)
     (try simp only [Act.put, lsA, lsZ, lsN])
     refine st_yes (v := ?_) (by rfl) ?_ ?_
     rotate_left
     ·(go_simp; with_reducible rfl)
     (try simp only [Act.put, lsA, lsZ, lsN])
     refine st_yes (v := ?_) (by rfl) ?_ ?_
     rotate_left
     ·(go_simp; with_reducible rfl)
     (try simp only [Act.put, lsA, lsZ, lsN])
     refine st_yes (v := ?_) (by rfl) ?_ ?_
     rotate_left
     ·(go_simp; with_reducible rfl)
     (try simp only [Act.put, lsA, lsZ, lsN])
     refine st_yes (v := ?_) (by rfl) ?_ ?_
     rotate_left
     ·(go_simp; with_reducible rfl)
     (try simp only [Act.put, lsA, lsZ, lsN])
     refine st_yes (v := ?_) (by rfl) ?_ ?_
     rotate_left
     ·(go_simp; with_reducible rfl)
     (try simp only [Act.put, lsA, lsZ, lsN])
     refine st_yes (v := ?_) (by rfl) ?_ ?_
     rotate_left
     ·(go_simp; with_reducible rfl)
     (try simp only [Act.put, lsA, lsZ, lsN])
     refine st_yes (v := ?_) (by rfl) ?_ ?_
     rotate_left
     ·(go_simp; with_reducible rfl)
     (try simp only [Act.put, lsA, lsZ, lsN])
     refine st_yes (v := ?_) (by rfl) ?_ ?_
     rotate_left
     ·(go_simp; with_reducible rfl)
     (try simp only [Act.put, lsA, lsZ, lsN])
     refine st_nil ?_
     go_wp2
     go_roundw
     case rel => exact ⟨i + 1, by omega, by go_num, HF.out p HP.out a1 a2, SD.out⟩
     case measure => simp [intOf]; omega
  ·have ilt : ¬ (i : Int) < (q.red.length : Int) := by omega
   obtain rfl : i = q.red.length := by omega
   have HRN : Hid (rngU g q = true) := rng_ok HC.out.1 HC.out.2.1 HC.out.2.2 HN.out
   clear HN SD hwd
   have HI0 : Hid (GC g q w wr) := HG0.out
   clear HG0
   go_wp2
   go_loopw [6] (fun z wr => ∃ m : Nat, m <= q.red.length /\ z = .int .i64 ((m : Int) + 1) /\ (∀ j, 1 <= j -> j < m + 1 -> j < q.red.length -> q.red.getD (j - 1) 0 < q.red.getD j 0) /\ GC g q w wr) (fun z _ => q.red.length + 1 - (intOf z).toNat)
   case atStart => exact ⟨0, Nat.zero_le _, rfl, fun j h1 h2 => absurd h2 (by omega), HI0.out⟩
   case round =>
    clear HI0 x0 x1 x2 x3 x4 y0 y1 y2 y3
    obtain ⟨m, hm, rfl, hno, hG⟩ := hrel
    have HN : Hid (∀ j, 1 <= j -> j < m + 1 -> j < q.red.length -> q.red.getD (j - 1) 0 < q.red.getD j 0) := hno
    clear hno
    obtain ⟨wd, hwd⟩ : ∃ wd : World, wd = wr.drew := ⟨_, rfl⟩
    have SD : Hid (GC g q w wd) := by rw [hwd]; exact hG.drew
    have HG1 : Hid (GC g q w wr) := hG
    clear hG
    obtain ⟨y0, y1, y2, y3⟩ := cb_cells (q := q) HG1.out.cb
    obtain ⟨x0, x1, x2, x3, x4⟩ := gb_cells HG1.out.gb
    by_cases hlt : m + 1 < q.red.length
    ·have ilt : (m : Int) + 1 < (q.red.length : Int) := by omega
     obtain ⟨v0, v1, v2, v3⟩ := cb_cells (q := q) SD.out.cb
     obtain ⟨rb, ro, hra, hrb, hrc⟩ := (HR.out wd SD.out.bel) (by intro e; rw [e] at hlt; simp at hlt)
     have cx := hrc (m + 1) hlt
     have cy := hrc m (by omega)
     have HB : Hid (q.red.getD (m + 1) 0 <= q.red.getD m 0 -> cfE g q = 7) := fun e => by
      have := rise_bad (l := q.red) (i := m + 1) (by omega) hlt (by simpa using e)
      unfold cfE
      rw [HRN.out, this]
      rfl
     have HF : Hid (q.red.getD m 0 < q.red.getD (m + 1) 0 -> ∀ j, 1 <= j -> j < m + 1 + 1 -> j < q.red.length -> q.red.getD (j - 1) 0 < q.red.getD j 0) := fun e j h1 h2 h3 => by
      rcases Nat.lt_succ_iff_lt_or_eq.1 h2 with r | rfl
      ·exact HN.out j h1 r h3
      ·rw [Nat.add_sub_cancel]; exact e
     clear hrc HN
     rw [hra] at v3
     clear hra
     have pm : (0 : Int) <= (m : Int) + 1 := by omega
     have wm : IntKind.i64.wrap (m : Int) = (m : Int) := by rw [IntKind.wrap_i64]; omega
     have mlt : (m : Int) < (q.red.length : Int) := by omega
     generalize q.red.getD (m + 1) 0 = p1 at cx HB HF
     generalize q.red.getD m 0 = p0 at cy HB HF
     by_cases a1 : p1 <= p0
     ·have a1d : decide (p1 <= p0) = true := by simpa using a1
      go_wp2
      refine wp_region_s (by kernel_rfl) (by kernel_rfl) wd hwd ?_
      clear hwd
      refine st_yes (v := ?_) (by rfl) ?_ ?_
      rotate_left
      ·(go_simp; with_reducible rfl)
      (try simp only [Act.put, lsA, lsZ, lsN])
      refine st_yes (v := ?_) (by rfl) ?_ ?_
      rotate_left
      ·(go_simp; with_reducible rfl)
      (try simp only [Act.put, lsA, lsZ, lsN])
      refine st_yes (v := ?_) (by rfl) ?_ ?_
      rotate_left
      ·(go_simp; with_reducible rfl)
      (try simp only [Act.put, lsA, lsZ, lsN])
      refine st_yes (v := ?_) (by rfl) ?_ ?_
      rotate_left
      ·(go_simp; with_reducible rfl)
      (try simp only [Act.put, lsA, lsZ, lsN])
      refine st_yes (v := ?_) (by rfl) ?_ ?_
      rotate_left
      ·(go_simp; with_reducible rfl)
      (try simp only [Act.put, lsA, lsZ, lsN])
      refine st_yes (v := ?_) (by rfl) ?_ ?_
      rotate_left
      ·(go_simp; with_reducible rfl)
      (try simp only [Act.put, lsA, lsZ, lsN])
      refine st_yes (v := ?_) (by rfl) ?_ ?_
      rotate_left
      ·(go_simp; with_reducible rfl)
      (try simp only [Act.put, lsA, lsZ, lsN])
      refine st_yes (v := ?_) (by rfl) ?_ ?_
      rotate_left
      ·(go_simp; with_reducible rfl)
      (try simp only [Act.put, lsA, lsZ, lsN])
      refine st_yes (v := ?_) (by rfl) ?_ ?_
      rotate_left
      ·(go_simp; with_reducible rfl)
      (try simp only [Act.put, lsA, lsZ, lsN])
      refine st_yes (v := ?_) (by rfl) ?_ ?_
      rotate_left
      ·(go_simp; with_reducible rfl)
      (try simp only [Act.put, lsA, lsZ, lsN])
      refine st_yes (v := ?_) (by rfl) ?_ ?_
      rotate_left
      ·(go_simp; with_reducible rfl)
      (try simp only [Act.put, lsA, lsZ, lsN])
      refine st_yes (v := ?_) (by rfl) ?_ ?_
      rotate_left
      ·(go_simp; with_reducible rfl)
      (try simp only [Act.put, lsA, lsZ, lsN])
      refine st_nil ?_
      go_wp2
      go_ret
      exact ⟨by rw [HB.out a1]; rfl, SD.out.bel⟩
     ·have a1d : decide (p1 <= p0) = false := by simpa using a1
      go_wp2
      refine wp_region_s (by kernel_rfl) (by kernel_rfl) wd hwd ?_
      clear hwd
      refine st_yes (v := ?_) (by rfl) ?_ ?_
      rotate_left
      ·(go_simp; with_reducible rfl)
      (try simp only [Act.put, lsA, lsZ, lsN])
      refine st_yes (v := ?_) (by rfl) ?_ ?_
      rotate_left
      ·(go_simp; with_reducible rfl)
      (try simp only [Act.put, lsA, lsZ, lsN])
      refine st_yes (v := ?_) (by rfl) ?_ ?_
      rotate_left
      ·(go_simp; with_reducible rfl)
      (try simp only [Act.put, lsA, lsZ, lsN])
      refine st_yes (v := ?_) (by rfl) ?_ ?_
      rotate_left
      ·(go_simp; with_reducible rfl)
      (try simp only [Act.put, lsA, lsZ, lsN])
      refine st_yes (v := ?_) (by rfl) ?_ ?_
      rotate_left
      ·(go_simp; with_reducible rfl)
      (try simp only [Act.put, lsA, lsZ, lsN])
      refine st_yes (v := ?_) (by rfl) ?_ ?_
      rotate_left
      ·(go_simp; with_reducible rfl)
      (try simp only [Act.put, lsA, lsZ, lsN])
      refine st_yes (v := ?_) (by rfl) ?_ ?_
      rotate_left
      ·(go_simp; with_reducible rfl)
      (try simp only [Act.put, lsA, lsZ, lsN])
      refine st_yes (v := ?_) (by rfl) ?_ ?_
      rotate_left
      ·(go_simp; with_reducible rfl)
      (try simp only [Act.put, lsA, lsZ, lsN])
      refine st_yes (v := ?_) (by rfl) ?_ ?_
      rotate_left
      ·(go_simp; with_reducible rfl)
      (try simp only [Act.put, lsA, lsZ, lsN])
      refine st_yes (v := ?_) (by rfl) ?_ ?_
      rotate_left
      ·(go_simp; with_reducible rfl)
      (try simp only [Act.put, lsA, lsZ, lsN])
      refine st_yes (v := ?_) (by rfl) ?_ ?_
      rotate_left
      ·(go_simp; with_reducible rfl)
      (try simp only [Act.put, lsA, lsZ, lsN])
      refine st_yes (v := ?_) (by rfl) ?_ ?_
      rotate_left
      ·(go_simp; with_reducible rfl)
      (try simp only [Act.put, lsA, lsZ, lsN])
      refine st_nil ?_
      go_wp2
      go_roundw
      case rel => exact ⟨m + 1, by omega, by go_num, HF.out (by omega), SD.out⟩
      case measure => simp [intOf]; omega
    ·have ilt : ¬ (m : Int) + 1 < (q.red.length : Int) := by omega
     have HRI : Hid (risesU q.red = true) := rise_ok fun j h1 h2 => HN.out j h1 (by omega) h2
     have HE : Hid (∀ b, cflU g q = b -> cfE g q = if b = false then 1 else 0) := fun b e => by
      unfold cfE
      rw [HRN.out, HRI.out, e]
      rfl
     clear HN SD hwd
     by_cases d1 : q.shift = -1
     ·have d1b : (q.shift == -1) = true := by simpa using d1
      by_cases d2 : (q.red.length : Int) < 2
      ·have E : Hid (cfE g q = 1) := HE.out false (by unfold cflU; rw [if_pos d1]; exact decide_eq_false (by omega))
       clear d1
       go_wp2
       go_ret
       exact ⟨by rw [E.out]; rfl, HG1.out.bel⟩
      ·have E : Hid (cfE g q = 0) := HE.out true (by unfold cflU; rw [if_pos d1]; exact decide_eq_true (by omega))
       have d1c : (q.shift != -1) = false := by simp [d1]
       clear d1
       go_wp2
       go_ret
       exact ⟨by rw [E.out]; rfl, HG1.out.bel⟩
     ·have d1b : (q.shift == -1) = false := by simpa using d1
      have d1c : (q.shift != -1) = true := by simpa using d1
      by_cases d2 : q.red.length = 0
      ·have E : Hid (cfE g q = 1) := HE.out false (by unfold cflU; rw [if_neg d1, d2]; rfl)
       have d2b : ((q.red.length : Int) == 0) = true := by rw [d2]; rfl
       clear d1 d2
       go_wp2
       go_ret
       exact ⟨by rw [E.out]; rfl, HG1.out.bel⟩
      ·have d2b : ((q.red.length : Int) == 0) = false := by simpa using (show ¬ (q.red.length : Int) = 0 by omega)
       by_cases d3 : q.look = (g.ts.length : Int)
       ·have E : Hid (cfE g q = 1) := HE.out false (by unfold cflU; rw [if_neg d1, d3]; simp)
        have d3b : (q.look == (g.ts.length : Int)) = true := by simpa using d3
        clear d1 d2 d3
        go_wp2
        go_ret
        exact ⟨by rw [E.out]; rfl, HG1.out.bel⟩
       ·have E : Hid (cfE g q = 0) := HE.out true (by have := HC.out; unfold cflU; rw [if_neg d1]; simp; omega)
        have d3b : (q.look == (g.ts.length : Int)) = false := by simpa using d3
        clear d1 d2 d3
        go_wp2
        go_ret
        exact ⟨by rw [E.out]; rfl, HG1.out.bel⟩
end Go.Proofs.YtjpknihkcndoiaaGreat
namespace Go.Proofs.YtjpknihkcndoiaaGreat
set_option linter.unusedVariables false
set_option maxRecDepth 100000
set_option maxHeartbeats 16000000
open Go.RowKit Go.Maps
def RwO (n : Nat) (w : World) (ao : Option Addr) (l : List Int) : Prop := InRow w ao l /\ (l ≠ [] -> ∃ j off, ao = some ⟨j, off, none⟩ /\ n <= j)
theorem rwo_nil (n : Nat) (w : World) (ao : Option Addr) : RwO n w ao [] := ⟨fun h => absurd rfl h, fun h => absurd rfl h⟩
def RrO (w : World) (r : DV × Int) (e : Ending) (w' : World) : Prop := ∃ ao c, e = .returned (.tuple #[dval r.1 ao c, .int .i64 r.2]) /\ RwO w.heap.size w' ao r.1.drop /\ Below w.heap.size w w'
structure RV (g : GV) (q : CV) (w : World) (nb : Nat) (wr : World) : Prop where
 gb : wr.heap[w.heap.size]? = some (gBox g)
 cb : wr.heap[w.heap.size + 1]? = some (.cells #[.int .i64 q.st, .int .i64 q.look, .int .i64 q.shift, .slice q.ra q.red.length q.rc] 44 (0, 0))
 rb : wr.heap[w.heap.size + 1 + 1]? = some (.cells #[.int .i64 0, .int .i64 0, .int .i64 0, .slice none 0 0, .bool false, .int .i64 0] 58 (0, 0))
 nb : wr.heap[nb]? = some (.cells #[.int .i64 q.look, .int .i64 0, .int .i64 (-1), .slice none 0 0, .bool false, .int .i64 (-1)] 58 (0, 0))
 bel : Below w.heap.size w wr
theorem RV.later {g : GV} {q : CV} {w wr w' : World} {nb : Nat} (h : RV g q w nb wr) (hb : Below wr.heap.size wr w') : RV g q w nb w' := ⟨blk_later h.gb hb, blk_later h.cb hb, blk_later h.rb hb, blk_later h.nb hb, h.bel.trans (hb.mono h.bel.size)⟩
theorem RV.drew {g : GV} {q : CV} {w wr : World} {nb : Nat} (h : RV g q w nb wr) : RV g q w nb wr.drew := ⟨h.gb, h.cb, h.rb, h.nb, h.bel.drew⟩
theorem nine_cells {b : Nat} {w' : World} {l : Int} (h : w'.heap[b]? = some (.cells #[.int .i64 l, .int .i64 0, .int .i64 (-1), .slice none 0 0, .bool false, .int .i64 (-1)] 58 (0, 0))) : w'.cell? ⟨b, 0, none⟩ = some (.int .i64 l) /\ w'.cell? ⟨b, 1, none⟩ = some (.int .i64 0) /\ w'.cell? ⟨b, 2, none⟩ = some (.int .i64 (-1)) /\ w'.cell? ⟨b, 3, none⟩ = some (.slice none 0 0) /\ w'.cell? ⟨b, 4, none⟩ = some (.bool false) /\ w'.cell? ⟨b, 5, none⟩ = some (.int .i64 (-1)) :=
 ⟨(cellq_any h).trans rfl, (cellq_any h).trans rfl, (cellq_any h).trans rfl, (cellq_any h).trans rfl, (cellq_any h).trans rfl, (cellq_any h).trans rfl⟩
theorem rise_nonneg {l : List Int} (hr : risesU l = true) (h0 : 0 <= l.getD 0 0) : ∀ i, i < l.length -> 0 <= l.getD i 0
 | 0, _ => h0
 | i + 1, h => by
  have ih := rise_nonneg hr h0 i (by omega)
  unfold risesU at hr
  have := of_decide_eq_true (List.all_eq_true.1 hr i (List.mem_range.2 (by omega)))
  omega
set_option linter.unusedSimpArgs false in
theorem rResolve_no (g : GV) (q : CV) (w : World) (h : GAt 140737488355328 w g) (hl : q.red.length <= 140737488355328) (hr : InRow w q.ra q.red) (hc : cfE g q ≠ 0) :
  Calls Tryz.prog 14 #[g.val, q.val] w (RrO w (.zero, cfE g q)) := by
 have X0 : Hid ((((w.alloc (gBox g)).alloc (.cells #[.int .i64 q.st, .int .i64 q.look, .int .i64 q.shift, .slice q.ra q.red.length q.rc] 44)).alloc dZero).heap[w.heap.size]? = some (gBox g) /\ (((w.alloc (gBox g)).alloc (.cells #[.int .i64 q.st, .int .i64 q.look, .int .i64 q.shift, .slice q.ra q.red.length q.rc] 44)).alloc dZero).heap[w.heap.size + 1]? = some (.cells #[.int .i64 q.st, .int .i64 q.look, .int .i64 q.shift, .slice q.ra q.red.length q.rc] 44 (0, 0)) /\ (((w.alloc (gBox g)).alloc (.cells #[.int .i64 q.st, .int .i64 q.look, .int .i64 q.shift, .slice q.ra q.red.length q.rc] 44)).alloc dZero).heap[w.heap.size + 1 + 1]? = some (.cells #[.int .i64 0, .int .i64 0, .int .i64 0, .slice none 0 0, .bool false, .int .i64 0] 58 (0, 0)) /\ Below w.heap.size w (((w.alloc (gBox g)).alloc (.cells #[.int .i64 q.st, .int .i64 q.look, .int .i64 q.shift, .slice q.ra q.red.length q.rc] 44)).alloc dZero)) := by
  have N := GC.new g q w
  have q1 := heap_alloc_new ((w.alloc (gBox g)).alloc (.cells #[.int .i64 q.st, .int .i64 q.look, .int .i64 q.shift, .slice q.ra q.red.length q.rc] 44)) dZero
  rw [alZ, alZ] at q1
  exact ⟨blk_later N.gb (below_alloc _ _), blk_later N.cb (below_alloc _ _), q1, N.bel.trans ((below_alloc _ _).mono N.bel.size)⟩
 have MC : Hid (∀ w', Below w.heap.size w w' -> Calls Tryz.prog 37 #[g.val, q.val] w' fun e w'' => e = .returned (.int .i64 (cfE g q)) /\ Below w'.heap.size w' w'') := fun w' hb => rmay_P g q w' h.tl h.pl hl (hr.later hb)
 have t1 : (cfE g q != 0) = true := by simpa using hc
 clear h hr hc
 obtain ⟨y0, y1, y2, y3⟩ := cb_cells (q := q) X0.out.2.1
 obtain ⟨x0, x1, x2, x3, x4⟩ := gb_cells X0.out.1
 go_enter Tryz.func14, Tryz.ntmps14
 go_wp2_with (go_at_call 37; refine (MC.out _ X0.out.2.2.2).mono ?_; rintro e w1 ⟨rfl, b1⟩; have X1 : Hid (w1.heap[w.heap.size + 1 + 1]? = some (.cells #[.int .i64 0, .int .i64 0, .int .i64 0, .slice none 0 0, .bool false, .int .i64 0] 58 (0, 0)) /\ Below w.heap.size w w1) := ⟨blk_later X0.out.2.2.1 b1, X0.out.2.2.2.trans (b1.mono X0.out.2.2.2.size)⟩; clear b1 x0 x1 x2 x3 x4 y0 y1 y2 y3; obtain ⟨⟨z0, z1, z2, z3, z4, z5⟩, ⟨f0, f1, f2, f3, f4, f5⟩, hzz⟩ := dz_cells X1.out.1)
 obtain ⟨q1, q2, q3⟩ := six_set X1.out.1 (.int .i64 0) (.int .i64 0) (.int .i64 0) (.slice none 0 0) (.bool false) (.int .i64 0)
 have q4 := q3 _ _ X1.out.2 (by omega)
 generalize ((((((w1.setCell ⟨w.heap.size + 1 + 1, 0, none⟩ (.int .i64 0)).setCell ⟨w.heap.size + 1 + 1, 1, none⟩ (.int .i64 0)).setCell ⟨w.heap.size + 1 + 1, 2, none⟩ (.int .i64 0)).setCell ⟨w.heap.size + 1 + 1, 3, none⟩ (.slice none 0 0)).setCell ⟨w.heap.size + 1 + 1, 4, none⟩ (.bool false)).setCell ⟨w.heap.size + 1 + 1, 5, none⟩ (.int .i64 0)) = W4 at *
 have r0 : W4.cell? ⟨w.heap.size + 1 + 1, 0, none⟩ = some (.int .i64 0) := (cellq_any q1).trans rfl
 have r1 : W4.cell? ⟨w.heap.size + 1 + 1, 1, none⟩ = some (.int .i64 0) := (cellq_any q1).trans rfl
 have r2 : W4.cell? ⟨w.heap.size + 1 + 1, 2, none⟩ = some (.int .i64 0) := (cellq_any q1).trans rfl
 have r3 : W4.cell? ⟨w.heap.size + 1 + 1, 3, none⟩ = some (.slice none 0 0) := (cellq_any q1).trans rfl
 have r4 : W4.cell? ⟨w.heap.size + 1 + 1, 4, none⟩ = some (.bool false) := (cellq_any q1).trans rfl
 have r5 : W4.cell? ⟨w.heap.size + 1 + 1, 5, none⟩ = some (.int .i64 0) := (cellq_any q1).trans rfl
 refine bodyPost_ret (v := .tuple #[.agg #[.int .i64 0, .int .i64 0, .int .i64 0, .slice none 0 0, .bool false, .int .i64 0], .int .i64 (cfE g q)]) (by simp [results, Tryz.results14, go_sem, r0, r1, r2, r3, r4, r5]) rfl ?_
 exact ⟨none, 0, rfl, rwo_nil _ _ _, q4⟩
set_option linter.unusedSimpArgs false in
theorem rResolve_none (g : GV) (q : CV) (w : World) (h : GAt 140737488355328 w g) (ok : OkC g) (hl : q.red.length <= 140737488355328) (hr : InRow w q.ra q.red) (hc : cfE g q = 0) (hn : q.shift = -1 ∨ q.red.getD 0 0 = -1) :
  Calls Tryz.prog 14 #[g.val, q.val] w (RrO w (noneD q.look, 0)) := by
 have X0 : Hid ((((w.alloc (gBox g)).alloc (.cells #[.int .i64 q.st, .int .i64 q.look, .int .i64 q.shift, .slice q.ra q.red.length q.rc] 44)).alloc dZero).heap[w.heap.size]? = some (gBox g) /\ (((w.alloc (gBox g)).alloc (.cells #[.int .i64 q.st, .int .i64 q.look, .int .i64 q.shift, .slice q.ra q.red.length q.rc] 44)).alloc dZero).heap[w.heap.size + 1]? = some (.cells #[.int .i64 q.st, .int .i64 q.look, .int .i64 q.shift, .slice q.ra q.red.length q.rc] 44 (0, 0)) /\ (((w.alloc (gBox g)).alloc (.cells #[.int .i64 q.st, .int .i64 q.look, .int .i64 q.shift, .slice q.ra q.red.length q.rc] 44)).alloc dZero).heap[w.heap.size + 1 + 1]? = some (.cells #[.int .i64 0, .int .i64 0, .int .i64 0, .slice none 0 0, .bool false, .int .i64 0] 58 (0, 0)) /\ Below w.heap.size w (((w.alloc (gBox g)).alloc (.cells #[.int .i64 q.st, .int .i64 q.look, .int .i64 q.shift, .slice q.ra q.red.length q.rc] 44)).alloc dZero)) := by
  have N := GC.new g q w
  have q1 := heap_alloc_new ((w.alloc (gBox g)).alloc (.cells #[.int .i64 q.st, .int .i64 q.look, .int .i64 q.shift, .slice q.ra q.red.length q.rc] 44)) dZero
  rw [alZ, alZ] at q1
  exact ⟨blk_later N.gb (below_alloc _ _), blk_later N.cb (below_alloc _ _), q1, N.bel.trans ((below_alloc _ _).mono N.bel.size)⟩
 have MC : Hid (∀ w', Below w.heap.size w w' -> Calls Tryz.prog 37 #[g.val, q.val] w' fun e w'' => e = .returned (.int .i64 0) /\ Below w'.heap.size w' w'') := fun w' hb => by
  have := rmay_P g q w' h.tl h.pl hl (hr.later hb)
  rwa [hc] at this
 have HR : Hid (∀ w', Below w.heap.size w w' -> InRow w' q.ra q.red) := fun w' hb => hr.later hb
 obtain ⟨_, _, _, _, _, _, c7⟩ := cf_ok hc ok
 have t1 : ((0 : Int) != 0) = false := by decide
 obtain ⟨y0, y1, y2, y3⟩ := cb_cells (q := q) X0.out.2.1
 obtain ⟨x0, x1, x2, x3, x4⟩ := gb_cells X0.out.1
 clear h hr
 by_cases d1 : q.shift = -1
 ·have d1b : (q.shift == -1) = true := by simpa using d1
  clear d1 hn c7 hc
  go_enter Tryz.func14, Tryz.ntmps14
  go_wp2_with (go_at_call 37; refine (MC.out _ X0.out.2.2.2).mono ?_; rintro e w1 ⟨rfl, b1⟩; have X1 : Hid (w1.heap[w.heap.size + 1]? = some (.cells #[.int .i64 q.st, .int .i64 q.look, .int .i64 q.shift, .slice q.ra q.red.length q.rc] 44 (0, 0)) /\ RV g q w w1.heap.size (w1.alloc (.cells #[.int .i64 q.look, .int .i64 0, .int .i64 (-1), .slice none 0 0, .bool false, .int .i64 (-1)] 58))) := ⟨blk_later X0.out.2.1 b1, ⟨blk_later (blk_later X0.out.1 b1) (below_alloc _ _), blk_later (blk_later X0.out.2.1 b1) (below_alloc _ _), blk_later (blk_later X0.out.2.2.1 b1) (below_alloc _ _), heap_alloc_new _ _, (X0.out.2.2.2.trans (b1.mono X0.out.2.2.2.size)).trans ((below_alloc _ _).mono (X0.out.2.2.2.trans (b1.mono X0.out.2.2.2.size)).size)⟩⟩; clear b1 x0 x1 x2 x3 x4 y0 y1 y2 y3; obtain ⟨y0, y1, y2, y3⟩ := cb_cells (q := q) X1.out.1; obtain ⟨v0, v1, v2, v3⟩ := cb_cells (q := q) X1.out.2.cb; obtain ⟨⟨z0, z1, z2, z3, z4, z5⟩, ⟨f0, f1, f2, f3, f4, f5⟩, hzz⟩ := dz_cells X1.out.2.rb)
  obtain ⟨q1, q2, q3⟩ := six_set X1.out.2.rb (.int .i64 q.look) (.int .i64 0) (.int .i64 (-1)) (.slice none 0 0) (.bool false) (.int .i64 (-1))
  have q4 := q3 _ _ X1.out.2.bel (by omega)
  generalize (((((((w1.alloc (.cells #[.int .i64 q.look, .int .i64 0, .int .i64 (-1), .slice none 0 0, .bool false, .int .i64 (-1)] 58)).setCell ⟨w.heap.size + 1 + 1, 0, none⟩ (.int .i64 q.look)).setCell ⟨w.heap.size + 1 + 1, 1, none⟩ (.int .i64 0)).setCell ⟨w.heap.size + 1 + 1, 2, none⟩ (.int .i64 (-1))).setCell ⟨w.heap.size + 1 + 1, 3, none⟩ (.slice none 0 0)).setCell ⟨w.heap.size + 1 + 1, 4, none⟩ (.bool false)).setCell ⟨w.heap.size + 1 + 1, 5, none⟩ (.int .i64 (-1))) = W4 at *
  have r0 : W4.cell? ⟨w.heap.size + 1 + 1, 0, none⟩ = some (.int .i64 q.look) := (cellq_any q1).trans rfl
  have r1 : W4.cell? ⟨w.heap.size + 1 + 1, 1, none⟩ = some (.int .i64 0) := (cellq_any q1).trans rfl
  have r2 : W4.cell? ⟨w.heap.size + 1 + 1, 2, none⟩ = some (.int .i64 (-1)) := (cellq_any q1).trans rfl
  have r3 : W4.cell? ⟨w.heap.size + 1 + 1, 3, none⟩ = some (.slice none 0 0) := (cellq_any q1).trans rfl
  have r4 : W4.cell? ⟨w.heap.size + 1 + 1, 4, none⟩ = some (.bool false) := (cellq_any q1).trans rfl
  have r5 : W4.cell? ⟨w.heap.size + 1 + 1, 5, none⟩ = some (.int .i64 (-1)) := (cellq_any q1).trans rfl
  refine bodyPost_ret (v := .tuple #[.agg #[.int .i64 q.look, .int .i64 0, .int .i64 (-1), .slice none 0 0, .bool false, .int .i64 (-1)], .int .i64 0]) (by simp [results, Tryz.results14, go_sem, r0, r1, r2, r3, r4, r5]) rfl ?_
  exact ⟨none, 0, rfl, rwo_nil _ _ _, q4⟩
 ·have d1b : (q.shift == -1) = false := by simpa using d1
  have hl0 := (c7 d1).1
  have hp0 := hn.resolve_left d1
  have d2b : ((-1 : Int) == -1) = true := by decide
  have hlp : (0 : Int) < (q.red.length : Int) := by omega
  obtain ⟨rb, ro, hra, -, hrc⟩ := HR.out w (Below.refl _ _) (by intro e; rw [e] at hl0; simp at hl0)
  have RW : Hid (∀ w', Below w.heap.size w w' -> w'.cell? ⟨rb, ro, none⟩ = some (.int .i64 (-1))) := fun w' hb => by
   obtain ⟨b', o', e, _, hc'⟩ := HR.out w' hb (by intro e; rw [e] at hl0; simp at hl0)
   rw [hra] at e
   simp only [Option.some.injEq, Addr.mk.injEq] at e
   rw [e.1, e.2.1, <- hp0]
   exact hc' 0 hl0
  have HRA : Hid (q.ra = some ⟨rb, ro, none⟩) := hra
  clear d1 hn c7 hc hra hrc hp0
  go_enter Tryz.func14, Tryz.ntmps14
  go_wp2_with (go_at_call 37; refine (MC.out _ X0.out.2.2.2).mono ?_; rintro e w1 ⟨rfl, b1⟩; have X1 : Hid (w1.heap[w.heap.size + 1]? = some (.cells #[.int .i64 q.st, .int .i64 q.look, .int .i64 q.shift, .slice q.ra q.red.length q.rc] 44 (0, 0)) /\ RV g q w w1.heap.size (w1.alloc (.cells #[.int .i64 q.look, .int .i64 0, .int .i64 (-1), .slice none 0 0, .bool false, .int .i64 (-1)] 58))) := ⟨blk_later X0.out.2.1 b1, ⟨blk_later (blk_later X0.out.1 b1) (below_alloc _ _), blk_later (blk_later X0.out.2.1 b1) (below_alloc _ _), blk_later (blk_later X0.out.2.2.1 b1) (below_alloc _ _), heap_alloc_new _ _, (X0.out.2.2.2.trans (b1.mono X0.out.2.2.2.size)).trans ((below_alloc _ _).mono (X0.out.2.2.2.trans (b1.mono X0.out.2.2.2.size)).size)⟩⟩; clear b1 x0 x1 x2 x3 x4 y0 y1 y2 y3; obtain ⟨y0, y1, y2, y3⟩ := cb_cells (q := q) X1.out.1; obtain ⟨v0, v1, v2, v3⟩ := cb_cells (q := q) X1.out.2.cb; obtain ⟨⟨z0, z1, z2, z3, z4, z5⟩, ⟨f0, f1, f2, f3, f4, f5⟩, hzz⟩ := dz_cells X1.out.2.rb; rw [HRA.out] at v3; have cx := RW.out _ X1.out.2.bel)
  obtain ⟨q1, q2, q3⟩ := six_set X1.out.2.rb (.int .i64 q.look) (.int .i64 0) (.int .i64 (-1)) (.slice none 0 0) (.bool false) (.int .i64 (-1))
  have q4 := q3 _ _ X1.out.2.bel (by omega)
  generalize (((((((w1.alloc (.cells #[.int .i64 q.look, .int .i64 0, .int .i64 (-1), .slice none 0 0, .bool false, .int .i64 (-1)] 58)).setCell ⟨w.heap.size + 1 + 1, 0, none⟩ (.int .i64 q.look)).setCell ⟨w.heap.size + 1 + 1, 1, none⟩ (.int .i64 0)).setCell ⟨w.heap.size + 1 + 1, 2, none⟩ (.int .i64 (-1))).setCell ⟨w.heap.size + 1 + 1, 3, none⟩ (.slice none 0 0)).setCell ⟨w.heap.size + 1 + 1, 4, none⟩ (.bool false)).setCell ⟨w.heap.size + 1 + 1, 5, none⟩ (.int .i64 (-1))) = W4 at *
  have r0 : W4.cell? ⟨w.heap.size + 1 + 1, 0, none⟩ = some (.int .i64 q.look) := (cellq_any q1).trans rfl
  have r1 : W4.cell? ⟨w.heap.size + 1 + 1, 1, none⟩ = some (.int .i64 0) := (cellq_any q1).trans rfl
  have r2 : W4.cell? ⟨w.heap.size + 1 + 1, 2, none⟩ = some (.int .i64 (-1)) := (cellq_any q1).trans rfl
  have r3 : W4.cell? ⟨w.heap.size + 1 + 1, 3, none⟩ = some (.slice none 0 0) := (cellq_any q1).trans rfl
  have r4 : W4.cell? ⟨w.heap.size + 1 + 1, 4, none⟩ = some (.bool false) := (cellq_any q1).trans rfl
  have r5 : W4.cell? ⟨w.heap.size + 1 + 1, 5, none⟩ = some (.int .i64 (-1)) := (cellq_any q1).trans rfl
  refine bodyPost_ret (v := .tuple #[.agg #[.int .i64 q.look, .int .i64 0, .int .i64 (-1), .slice none 0 0, .bool false, .int .i64 (-1)], .int .i64 0]) (by simp [results, Tryz.results14, go_sem, r0, r1, r2, r3, r4, r5]) rfl ?_
  exact ⟨none, 0, rfl, rwo_nil _ _ _, q4⟩
end Go.Proofs.YtjpknihkcndoiaaGreat
