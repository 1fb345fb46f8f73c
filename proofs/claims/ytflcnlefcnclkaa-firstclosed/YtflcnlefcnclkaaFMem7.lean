import Derived.Test.YtflcnlefcnclkaaFMem6
namespace Go.Proofs.Ytflcnlefcnclkaa
set_option linter.unusedVariables false
open Go.RowKit

/-- A row of bools that can be read. -/
def BRow (w : World) (ao : Option Addr) (L : List Bool) : Prop := L ≠ [] → ∃ b off, ao = some ⟨b, off, none⟩ ∧ b < w.heap.size ∧ ∀ i, i < L.length → w.cell? ⟨b, off + i, none⟩ = some (.bool (L.getD i false))
theorem BRow.later {w w' : World} {ao : Option Addr} {L : List Bool} (h : BRow w ao L) (hb : Below w.heap.size w w') : BRow w' ao L := by
  intro hne
  obtain ⟨b, off, e, h1, h2⟩ := h hne
  exact ⟨b, off, e, Nat.lt_of_lt_of_le h1 hb.size, fun i hi => (hb.cell (p := ⟨b, off + i, none⟩) h1).trans (h2 i hi)⟩
theorem BB.row {w : World} {b : Nat} {L : List Bool} (h : BB w b L) : BRow w (some ⟨b, 0, none⟩) L := by
  intro _
  refine ⟨b, 0, rfl, h.lt, fun i hi => ?_⟩
  have := h.cell hi
  simpa using this
def aheadS (N : List Bool) (F : List BS) (s : Int × Int) (look : BS) : BS := if s.1 = 1 then setS [s.2] else if N.getD s.2.toNat false = true then withS look (F.getD s.2.toNat (0, 0)) else F.getD s.2.toNat (0, 0)
/-- What a claim says, in memory. -/
structure CLM (w : World) (na : Option Addr) (N : List Bool) (fb : Nat) (F : List BS) : Prop where
  n : BRow w na N
  f : SBk w fb F
  len : F.length = N.length ∧ N.length ≤ 64
  ok : ∀ i, OkS (F.getD i (0, 0))
theorem CLM.later {w w' : World} {na : Option Addr} {N : List Bool} {fb : Nat} {F : List BS} (h : CLM w na N fb F) (hb : Below w.heap.size w w') : CLM w' na N fb F := ⟨h.n.later hb, h.f.later hb, h.len, h.ok⟩
abbrev cv (na : Option Addr) (N : List Bool) (nc fb : Nat) (fc : Nat) : Value := .agg #[.slice na N.length nc, .slice (some ⟨fb, 0, none⟩) N.length fc]
abbrev clBox (na : Option Addr) (N : List Bool) (nc fb : Nat) (fc : Nat) : Obj := .cells #[.slice na N.length nc, .slice (some ⟨fb, 0, none⟩) N.length fc] 50
abbrev yBox (s : Int × Int) : Obj := .cells #[.int .i64 s.1, .int .i64 s.2] 68
theorem frostS {w : World} {b : Nat} {C : Array Value} {t : TypeId} (h : w.heap[b]? = some (.cells C t (0, 0))) (i : Nat) : w.frozen? ⟨b, i, none⟩ = false := by simp [World.frozen?, h]
theorem alN {w : World} {o : Obj} {j : Nat} (h : j < w.heap.size) : (w.alloc o).heap[j]? = w.heap[j]? := (below_alloc w o).block j h
theorem alE {w : World} {o : Obj} {j : Nat} (h : j = w.heap.size) : (w.alloc o).heap[j]? = some o := by subst h; exact heap_alloc_new w o
theorem alZ (w : World) (o : Obj) : (w.alloc o).heap.size = w.heap.size + 1 := by simp
theorem four_box (w : World) (a b c d : Obj) : Below w.heap.size w ((((w.alloc a).alloc b).alloc c).alloc d) ∧ ((((w.alloc a).alloc b).alloc c).alloc d).heap[w.heap.size]? = some a ∧ ((((w.alloc a).alloc b).alloc c).alloc d).heap[w.heap.size + 1]? = some b ∧ ((((w.alloc a).alloc b).alloc c).alloc d).heap[w.heap.size + 1 + 1]? = some c ∧ ((((w.alloc a).alloc b).alloc c).alloc d).heap[w.heap.size + 1 + 1 + 1]? = some d := by
  obtain ⟨t0, t1, t2, t3⟩ := three_box w a b c
  have s3 : (((w.alloc a).alloc b).alloc c).heap.size = w.heap.size + 1 + 1 + 1 := by rw [alZ, alZ, alZ]
  refine ⟨t0.trans ((below_alloc _ _).mono t0.size), ?_, ?_, ?_, ?_⟩
  · rw [alN (by omega)]; exact t1
  · rw [alN (by omega)]; exact t2
  · rw [alN (by omega)]; exact t3
  · exact alE s3.symm
set_option maxRecDepth 100000 in
set_option maxHeartbeats 4000000 in
theorem ahead_S (na : Option Addr) (N : List Bool) (nc fb fc : Nat) (F : List BS) (s : Int × Int) (look : BS) (w : World) (h : CLM w na N fb F) (hs : (s.1 = 1 ∧ 0 ≤ s.2 ∧ s.2 < 64) ∨ (s.1 = 2 ∧ 0 ≤ s.2 ∧ s.2 < N.length)) (hk : OkS look) :
    Calls Try.prog 40 #[cv na N nc fb fc, .agg #[.int .i64 s.1, .int .i64 s.2], sv look] w fun e w' => e = .returned (sv (aheadS N F s look)) ∧ Below w.heap.size w w' := by
  obtain ⟨t0, t1, t2, t3, t4⟩ := four_box w (clBox na N nc fb fc) (yBox s) (sBox look) (sBox (0, 0))
  obtain ⟨s1, s2⟩ := s
  obtain ⟨k1, k2⟩ := look
  have HW : Hid (Below w.heap.size w ((((w.alloc (clBox na N nc fb fc)).alloc (yBox (s1, s2))).alloc (sBox (k1, k2))).alloc (sBox (0, 0))) ∧ ((((w.alloc (clBox na N nc fb fc)).alloc (yBox (s1, s2))).alloc (sBox (k1, k2))).alloc (sBox (0, 0))).heap[w.heap.size + 1 + 1 + 1]? = some (sBox (0, 0))) := ⟨t0, t4⟩
  have HC : Hid (CLM ((((w.alloc (clBox na N nc fb fc)).alloc (yBox (s1, s2))).alloc (sBox (k1, k2))).alloc (sBox (0, 0))) na N fb F) := h.later t0
  have x0 : ((((w.alloc (clBox na N nc fb fc)).alloc (yBox (s1, s2))).alloc (sBox (k1, k2))).alloc (sBox (0, 0))).cell? ⟨w.heap.size, 0, none⟩ = some (.slice na N.length nc) := (cellq_any t1).trans rfl
  have x1 : ((((w.alloc (clBox na N nc fb fc)).alloc (yBox (s1, s2))).alloc (sBox (k1, k2))).alloc (sBox (0, 0))).cell? ⟨w.heap.size, 1, none⟩ = some (.slice (some ⟨fb, 0, none⟩) N.length fc) := (cellq_any t1).trans rfl
  have x2 : ((((w.alloc (clBox na N nc fb fc)).alloc (yBox (s1, s2))).alloc (sBox (k1, k2))).alloc (sBox (0, 0))).cell? ⟨w.heap.size + 1, 0, none⟩ = some (.int .i64 s1) := (cellq_any t2).trans rfl
  have x3 : ((((w.alloc (clBox na N nc fb fc)).alloc (yBox (s1, s2))).alloc (sBox (k1, k2))).alloc (sBox (0, 0))).cell? ⟨w.heap.size + 1, 1, none⟩ = some (.int .i64 s2) := (cellq_any t2).trans rfl
  have x4 : ((((w.alloc (clBox na N nc fb fc)).alloc (yBox (s1, s2))).alloc (sBox (k1, k2))).alloc (sBox (0, 0))).cell? ⟨w.heap.size + 1 + 1, 0, none⟩ = some (.int .u64 (k1 : Int)) := (cellq_any t3).trans rfl
  have x5 : ((((w.alloc (clBox na N nc fb fc)).alloc (yBox (s1, s2))).alloc (sBox (k1, k2))).alloc (sBox (0, 0))).cell? ⟨w.heap.size + 1 + 1, 1, none⟩ = some (.int .u64 (k2 : Int)) := (cellq_any t3).trans rfl
  have OKK : Hid (OkS (k1, k2)) := hk
  have HC0 : Hid (CLM w na N fb F) := h
  clear h hk t0 t1 t2 t3 t4
  rcases hs with ⟨e1, e2, e3⟩ | ⟨e1, e2, e3⟩
  · simp only at e1 e2 e3
    subst e1
    obtain ⟨m, rfl⟩ : ∃ m : Nat, s2 = (m : Int) := ⟨s2.toNat, by omega⟩
    have f1 : ((1 : Int) == 1) = true := by decide
    obtain ⟨r, hr⟩ : ∃ r, setS [(m : Int)] = r := ⟨_, rfl⟩
    have HR : Hid (aheadS N F (1, (m : Int)) (k1, k2) = r) := by show _ = _; rw [← hr]; simp [aheadS]
    have SC : Hid (∀ w' a c, InRow w' a [(m : Int)] → Calls Try.prog 49 #[.slice a 1 c] w' fun e w2 => e = .returned (sv r) ∧ Below w'.heap.size w' w2) := fun w' a c hrow => by
      have := setOf_S a c [(m : Int)] w' hrow (by simp) (fun x hx => by obtain rfl := List.mem_singleton.1 hx; omega)
      rw [hr] at this
      exact this
    obtain ⟨r1, r2⟩ := r
    clear hr
    have S1 : Hid (Calls Try.prog 49 #[.slice (some ⟨w.heap.size + 1 + 1 + 1 + 1, 0, none⟩) 1 1] (((((w.alloc (clBox na N nc fb fc)).alloc (yBox (1, (m : Int)))).alloc (sBox (k1, k2))).alloc (sBox (0, 0))).alloc (.cells #[.int .i64 (m : Int)] 3)) fun e w2 => e = .returned (sv (r1, r2)) ∧ Below (((((w.alloc (clBox na N nc fb fc)).alloc (yBox (1, (m : Int)))).alloc (sBox (k1, k2))).alloc (sBox (0, 0))).alloc (.cells #[.int .i64 (m : Int)] 3)).heap.size (((((w.alloc (clBox na N nc fb fc)).alloc (yBox (1, (m : Int)))).alloc (sBox (k1, k2))).alloc (sBox (0, 0))).alloc (.cells #[.int .i64 (m : Int)] 3)) w2) := by
      have hz : ((((w.alloc (clBox na N nc fb fc)).alloc (yBox (1, (m : Int)))).alloc (sBox (k1, k2))).alloc (sBox (0, 0))).heap.size = w.heap.size + 1 + 1 + 1 + 1 := by rw [alZ, alZ, alZ, alZ]
      have ha := heap_alloc_new ((((w.alloc (clBox na N nc fb fc)).alloc (yBox (1, (m : Int)))).alloc (sBox (k1, k2))).alloc (sBox (0, 0))) (.cells #[.int .i64 (m : Int)] 3)
      rw [hz] at ha
      exact SC.out _ _ _ (fun _ => ⟨w.heap.size + 1 + 1 + 1 + 1, 0, rfl, lt_of_block ha, fun i hi => by obtain rfl : i = 0 := (by simpa using hi); exact (cellq_any ha).trans rfl⟩)
    clear SC
    go_enter Try.func40, Try.ntmps40
    go_wp2_with (go_at_call 49; refine S1.out.mono ?_; rintro e w2 ⟨rfl, b2⟩; have XR : w2.heap[w.heap.size + 1 + 1 + 1]? = some (sBox (0, 0)) := (b2.block _ (Nat.lt_of_lt_of_le (lt_of_block HW.out.2) (below_alloc ((((w.alloc (clBox na N nc fb fc)).alloc (yBox (1, (m : Int)))).alloc (sBox (k1, k2))).alloc (sBox (0, 0))) _).size)).trans ((below_alloc ((((w.alloc (clBox na N nc fb fc)).alloc (yBox (1, (m : Int)))).alloc (sBox (k1, k2))).alloc (sBox (0, 0))) _).block _ (lt_of_block HW.out.2) |>.trans HW.out.2); have d0 : w2.cell? ⟨w.heap.size + 1 + 1 + 1, 0, none⟩ = some (.int .u64 0) := (cellq_any XR).trans rfl; have d1 : w2.cell? ⟨w.heap.size + 1 + 1 + 1, 1, none⟩ = some (.int .u64 0) := (cellq_any XR).trans rfl; have g0 := frostS XR 0; have g1 := frostS XR 1; have hz := lt_of_block XR; have B2 : Hid (Below w.heap.size w w2) := (HW.out.1.trans ((below_alloc ((((w.alloc (clBox na N nc fb fc)).alloc (yBox (1, (m : Int)))).alloc (sBox (k1, k2))).alloc (sBox (0, 0))) _).mono HW.out.1.size)).trans (b2.mono (Nat.le_trans HW.out.1.size (below_alloc ((((w.alloc (clBox na N nc fb fc)).alloc (yBox (1, (m : Int)))).alloc (sBox (k1, k2))).alloc (sBox (0, 0))) _).size)); clear b2 XR)
    refine bodyPost_ret (v := sv (r1, r2)) (by simp [results, Try.results40, go_sem, d0, d1]) rfl ?_
    exact ⟨by rw [HR.out], (B2.out.setCell (p := ⟨w.heap.size + 1 + 1 + 1, 0, none⟩) (by show w.heap.size ≤ w.heap.size + 1 + 1 + 1; omega) _).setCell (p := ⟨w.heap.size + 1 + 1 + 1, 1, none⟩) (by show w.heap.size ≤ w.heap.size + 1 + 1 + 1; omega) _⟩
  · simp only at e1 e2 e3
    subst e1
    obtain ⟨m, rfl⟩ : ∃ m : Nat, s2 = (m : Int) := ⟨s2.toNat, by omega⟩
    have f1 : ((2 : Int) == 1) = false := by decide
    have hm : m < N.length := by omega
    obtain ⟨nb, no, hna, hnb, hnc⟩ := HC0.out.n (by intro e; rw [e] at hm; simp at hm)
    have c0 := hnc m hm
    obtain ⟨y0, y1⟩ := HC0.out.f.cell (i := m) (by rw [HC0.out.len.1]; exact hm)
    have hfb := HC0.out.f.lt
    clear hnc
    have OKF : Hid (OkS (F.getD m (0, 0))) := HC.out.ok m
    have HR : Hid (aheadS N F (2, (m : Int)) (k1, k2) = if N.getD m false = true then withS (k1, k2) (F.getD m (0, 0)) else F.getD m (0, 0)) := by show _ = _; simp [aheadS]
    generalize F.getD m (0, 0) = q at *
    obtain ⟨q1, q2⟩ := q
    subst hna
    have c0' : ((((w.alloc (.cells #[.slice (some ⟨nb, no, none⟩) N.length nc, .slice (some ⟨fb, 0, none⟩) N.length fc] 50)).alloc (.cells #[.int .i64 2, .int .i64 (m : Int)] 68)).alloc (.cells #[.int .u64 (k1 : Int), .int .u64 (k2 : Int)] 63)).alloc (.cells #[.int .u64 0, .int .u64 0] 63)).cell? ⟨nb, no + m, none⟩ = some (.bool (N.getD m false)) := (HW.out.1.cell (p := ⟨nb, no + m, none⟩) hnb).trans c0
    have y0' : ((((w.alloc (.cells #[.slice (some ⟨nb, no, none⟩) N.length nc, .slice (some ⟨fb, 0, none⟩) N.length fc] 50)).alloc (.cells #[.int .i64 2, .int .i64 (m : Int)] 68)).alloc (.cells #[.int .u64 (k1 : Int), .int .u64 (k2 : Int)] 63)).alloc (.cells #[.int .u64 0, .int .u64 0] 63)).cell? ⟨fb, m * 2, none⟩ = some (.int .u64 (q1 : Int)) := (HW.out.1.cell (p := ⟨fb, m * 2, none⟩) hfb).trans y0
    have y1' : ((((w.alloc (.cells #[.slice (some ⟨nb, no, none⟩) N.length nc, .slice (some ⟨fb, 0, none⟩) N.length fc] 50)).alloc (.cells #[.int .i64 2, .int .i64 (m : Int)] 68)).alloc (.cells #[.int .u64 (k1 : Int), .int .u64 (k2 : Int)] 63)).alloc (.cells #[.int .u64 0, .int .u64 0] 63)).cell? ⟨fb, m * 2 + 1, none⟩ = some (.int .u64 (q2 : Int)) := (HW.out.1.cell (p := ⟨fb, m * 2 + 1, none⟩) hfb).trans y1
    clear c0 y0 y1
    generalize N.getD m false = B at *
    cases B
    · go_enter Try.func40, Try.ntmps40
      go_wp2
      refine bodyPost_ret (v := sv (q1, q2)) (by simp [results, Try.results40, go_sem]) rfl ?_
      exact ⟨by rw [HR.out]; rfl, (four_box w _ _ _ _).1⟩
    · have WC : Hid (∀ w', Calls Try.prog 37 #[sv (k1, k2), sv (q1, q2)] w' fun e w2 => e = .returned (sv (withS (k1, k2) (q1, q2))) ∧ Below w'.heap.size w' w2) := fun w' => with_S _ _ w' OKK.out OKF.out
      generalize hV : withS (k1, k2) (q1, q2) = V at *
      obtain ⟨v1, v2⟩ := V
      go_enter Try.func40, Try.ntmps40
      go_wp2
      go_region_with (go_at_call 37; refine (WC.out _).mono ?_; rintro e w2 ⟨rfl, b2⟩; have XR : w2.heap[w.heap.size + 1 + 1 + 1]? = some (sBox (0, 0)) := (b2.block _ (lt_of_block HW.out.2)).trans HW.out.2; have d0 : w2.cell? ⟨w.heap.size + 1 + 1 + 1, 0, none⟩ = some (.int .u64 0) := (cellq_any XR).trans rfl; have d1 : w2.cell? ⟨w.heap.size + 1 + 1 + 1, 1, none⟩ = some (.int .u64 0) := (cellq_any XR).trans rfl; have g0 := frostS XR 0; have g1 := frostS XR 1; have hz := lt_of_block XR; have B2 : Hid (Below w.heap.size w w2) := HW.out.1.drew.trans (b2.mono HW.out.1.size); clear b2 XR)
      all_goals
        go_wp2
        refine bodyPost_ret (v := sv (v1, v2)) (by simp [results, Try.results40, go_sem, d0, d1]) rfl ?_
        exact ⟨by rw [HR.out]; rfl, (B2.out.setCell (p := ⟨w.heap.size + 1 + 1 + 1, 0, none⟩) (by show w.heap.size ≤ w.heap.size + 1 + 1 + 1; omega) _).setCell (p := ⟨w.heap.size + 1 + 1 + 1, 1, none⟩) (by show w.heap.size ≤ w.heap.size + 1 + 1 + 1; omega) _⟩
end Go.Proofs.Ytflcnlefcnclkaa
