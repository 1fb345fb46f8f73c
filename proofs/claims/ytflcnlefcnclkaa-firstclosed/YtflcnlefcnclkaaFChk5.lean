import Derived.Test.YtflcnlefcnclkaaFChk4
namespace Go.Proofs.Ytflcnlefcnclkaa
set_option linter.unusedVariables false
open Go.RowKit

/-- A production for which the claim of nullable is not closed; the first of them. -/
def violN (N : List Bool) (p : PV) : Bool := !N.getD p.left.toNat false && allN N p.right
def firstV (v : PV → Bool) (er : Int) (ps : List PV) : Nat → Int × Int
  | 0 => (0, 0)
  | k + 1 => if v (ps.getD (ps.length - (k + 1)) .none) = true then (er, ((ps.length - (k + 1) : Nat) : Int)) else firstV v er ps k
theorem firstV_hit {v : PV → Bool} {er : Int} {ps : List PV} {k : Nat} (hk : k < ps.length) (h : v (ps.getD k .none) = true) (hb : ∀ j, j < k → v (ps.getD j .none) = false) : ∀ d, d ≤ k → firstV v er ps (ps.length - d) = firstV v er ps ps.length → firstV v er ps ps.length = (er, (k : Int)) := by
  intro d hd hd2
  have key : ∀ n d, k - d = n → d ≤ k → firstV v er ps (ps.length - d) = (er, (k : Int)) := by
    intro n
    induction n with
    | zero =>
      intro d e hd
      have : d = k := by omega
      subst this
      obtain ⟨q, hq⟩ : ∃ q, ps.length - d = q + 1 := ⟨ps.length - d - 1, by omega⟩
      rw [hq, firstV]
      have e2 : ps.length - (q + 1) = d := by omega
      rw [e2, if_pos h]
    | succ n ih =>
      intro d e hd
      obtain ⟨q, hq⟩ : ∃ q, ps.length - d = q + 1 := ⟨ps.length - d - 1, by omega⟩
      rw [hq, firstV]
      have e2 : ps.length - (q + 1) = d := by omega
      rw [e2, if_neg (by rw [hb d (by omega)]; simp)]
      have := ih (d + 1) (by omega) (by omega)
      rwa [show ps.length - (d + 1) = q by omega] at this
  exact (hd2.symm).trans (key (k - d) d rfl hd)
theorem firstV_none {v : PV → Bool} {er : Int} {ps : List PV} (h : ∀ j, j < ps.length → v (ps.getD j .none) = false) : ∀ k, k ≤ ps.length → firstV v er ps k = (0, 0)
  | 0, _ => rfl
  | k + 1, hk => by rw [firstV, if_neg (by rw [h _ (by omega)]; simp), firstV_none h k (by omega)]
def chkN (N : List Bool) (ps : List PV) : Int × Int := firstV (violN N) 61 ps ps.length
set_option maxRecDepth 100000 in
set_option maxHeartbeats 4000000 in
theorem chkNull_ok (g : GV) (na : Option Addr) (nc : Nat) (N : List Bool) (w : World) (h : GAt 140737488355328 w g) (hpc : g.ps.length ≤ g.pc) (at_ : Int) (hE : checkG g (checkF g.ts g.ns) = (0, at_)) (hN : BRow w na N) (hl : N.length = g.ns.length) :
    Calls Try.prog 7 #[g.val, .slice na N.length nc] w fun e w' => e = .returned (.tuple #[.int .i64 (chkN N g.ps).1, .int .i64 (chkN N g.ps).2]) ∧ Below w.heap.size w w' := by
  have ok : OkC g := OkC.of (by rw [hE])
  have X0 : Hid ((w.alloc (gBox g)).heap[w.heap.size]? = some (gBox g)) := heap_alloc_new _ _
  have CK : Hid (Calls Try.prog 18 #[g.val, .slice na N.length nc] (w.alloc (gBox g)) fun e w' => e = .returned (.int .i64 0) ∧ Below (w.alloc (gBox g)).heap.size (w.alloc (gBox g)) w') := by
    have := askNull_S g na N.length nc _ (h.later (below_alloc w (gBox g))) hpc 0 at_ hE
    rwa [show askU g N.length 0 = 0 by simp [askU, hl]] at this
  have HFG : Hid (∀ w', Below w.heap.size w w' → FG w' g ∧ BRow w' na N) := fun w' hb => ⟨ok.fg (h.later hb), hN.later hb⟩
  have HN64 : Hid (N.length ≤ 64 ∧ 1 ≤ N.length ∧ N.length = g.ns.length) := ⟨by rw [hl]; exact ok.nl.2, by rw [hl]; exact ok.nl.1, hl⟩
  have HIT : Hid (∀ k, k < g.ps.length → violN N (g.ps.getD k .none) = true → (∀ j, j < k → violN N (g.ps.getD j .none) = false) → chkN N g.ps = (61, (k : Int))) := fun k hk h hb => firstV_hit hk h hb 0 (Nat.zero_le _) rfl
  have NON : Hid ((∀ j, j < g.ps.length → violN N (g.ps.getD j .none) = false) → chkN N g.ps = (0, 0)) := fun h => firstV_none h _ (Nat.le_refl _)
  obtain ⟨x0, x1, x2, x3, x4⟩ := gb_cells X0.out
  have hpl := ok.pl.2
  have t1 : ((0 : Int) != 0) = false := by decide
  generalize hX : chkN N g.ps = X at *
  obtain ⟨X1, X2⟩ := X
  clear h hE ok hN hX hl
  go_enter Try.func7, Try.ntmps7
  go_wp2_with (go_at_call 18; refine CK.out.mono ?_; rintro e w2 ⟨rfl, b2⟩; have B2 : Hid (Below w.heap.size w w2 ∧ w2.heap[w.heap.size]? = some (gBox g)) := ⟨(below_alloc w _).trans (b2.mono (below_alloc w _).size), (b2.block _ (lt_of_block X0.out)).trans X0.out⟩; clear b2 x0 x1 x2 x3 x4; obtain ⟨x0, x1, x2, x3, x4⟩ := gb_cells B2.out.2)
  go_loopw [18] (fun z wr => ∃ k : Nat, k ≤ g.ps.length ∧ z = .int .i64 k ∧ (∀ j, j < k → violN N (g.ps.getD j .none) = false) ∧ Below w.heap.size w wr) (fun z _ => g.ps.length - (intOf z).toNat)
  case atStart => exact ⟨0, Nat.zero_le _, rfl, fun j hj => absurd hj (Nat.not_lt_zero j), B2.out.1⟩
  case round =>
    clear x0 x1 x2 x3 x4
    obtain ⟨k, hk, rfl, hf, hb⟩ := hrel
    by_cases hlt : k < g.ps.length
    · obtain ⟨b, o, hpa, hbl, hc⟩ := (HFG.out _ hb).1.p.cells (by intro e; rw [e] at hlt; simp at hlt)
      obtain ⟨c0, c1, c2⟩ := hc k hlt
      have klt : (k : Int) < (g.ps.length : Int) := by omega
      have hmem : g.ps.getD k .none ∈ g.ps := by simp [List.getD, hlt]
      obtain ⟨l0, l1⟩ := (HFG.out _ hb).1.left _ hmem
      have hrow := (HFG.out _ hb).1.p.rows _ hmem
      have hrl := (HFG.out _ hb).1.rl _ hmem
      have hsy := (HFG.out _ hb).1.sym _ hmem
      have HH : Hid (violN N (g.ps.getD k .none) = true → X1 = 61 ∧ X2 = (k : Int)) := fun h => by
        have := HIT.out k hlt h hf
        simpa using this
      have HS : Hid (violN N (g.ps.getD k .none) = false → ∀ j, j < k + 1 → violN N (g.ps.getD j .none) = false) := fun h j hj => by
        by_cases q : j = k
        · subst q; exact h
        · exact hf j (by omega)
      have HB : Hid (Below w.heap.size w wr) := hb
      generalize g.ps.getD k .none = p at *
      obtain ⟨pl, pra, prc, pr, pp⟩ := p
      simp only at c0 c1 c2 l0 l1 hrow hrl hsy
      obtain ⟨m, rfl⟩ : ∃ m : Nat, pl = (m : Int) := ⟨pl.toNat, by omega⟩
      have hBA : Below wr.heap.size wr (wr.alloc (.cells #[.int .i64 (m : Int), .slice pra pr.length prc, .int .i64 pp] 55)) := below_alloc _ _
      have hmN : m < N.length := by have := HN64.out; omega
      have hNW := ((HFG.out _ hb).2.later hBA)
      obtain ⟨nb, no, hna, hnb, hnc⟩ := hNW (by intro e; rw [e] at hmN; simp at hmN)
      have n0 := hnc m hmN
      have V : Hid (violN N ⟨(m : Int), pra, prc, pr, pp⟩ = (!N.getD m false && allN N pr)) := by show _ = _; simp [violN]
      have FC : Hid (Calls Try.prog 19 #[.slice na N.length nc, .slice pra pr.length prc] (wr.alloc (.cells #[.int .i64 (m : Int), .slice pra pr.length prc, .int .i64 pp] 55)) fun e w' => e = .returned (.bool (allN N pr)) ∧ Below (wr.alloc (.cells #[.int .i64 (m : Int), .slice pra pr.length prc, .int .i64 pp] 55)).heap.size (wr.alloc (.cells #[.int .i64 (m : Int), .slice pra pr.length prc, .int .i64 pp] 55)) w') :=
        areNull_S na nc N pra prc pr _ hNW (hrow.later (Nat.le_refl _) hBA) (by omega) (by have := HN64.out; omega) (fun s hs e => by
          rcases hsy s hs with q | q
          · omega
          · rw [HN64.out.2.2]; exact q.2)
      have HBA : Hid (Below w.heap.size w (wr.alloc (.cells #[.int .i64 (m : Int), .slice pra pr.length prc, .int .i64 pp] 55))) := HB.out.trans (hBA.mono HB.out.size)
      rw [hpa]
      rw [hna] at FC ⊢
      generalize N.getD m false = v at *
      generalize allN N pr = z at *
      clear hb hf hc hmem hrow hsy hBA hNW hnc hpa hna
      cases v
      · cases z
        · have R : Hid _ := HS.out (by rw [V.out]; rfl)
          go_wp2_with (go_at_call 19; refine FC.out.mono ?_; rintro e w3 ⟨rfl, b3⟩; have B3 : Hid (Below w.heap.size w w3) := HBA.out.trans (b3.mono HBA.out.size); clear b3)
          go_roundw
          case rel => exact ⟨k + 1, by omega, by go_num, R.out, B3.out⟩
          case measure => simp [intOf]; omega
        · obtain ⟨r1, r2⟩ := HH.out (by rw [V.out]; rfl)
          have R : Hid (X1 = 61 ∧ X2 = (k : Int)) := ⟨r1, r2⟩
          clear r1 r2
          go_wp2_with (go_at_call 19; refine FC.out.mono ?_; rintro e w3 ⟨rfl, b3⟩; have B3 : Hid (Below w.heap.size w w3) := HBA.out.trans (b3.mono HBA.out.size); clear b3)
          refine bodyPost_ret (results_tmp2 rfl _ _ _) rfl ?_
          exact ⟨by rw [R.out.1, R.out.2]; rfl, B3.out⟩
      · have R : Hid _ := HS.out (by rw [V.out]; rfl)
        go_wp2
        go_roundw
        case rel => exact ⟨k + 1, by omega, by go_num, R.out, HBA.out⟩
        case measure => simp [intOf]; omega
    · obtain rfl : k = g.ps.length := by omega
      have R : Hid (X1 = 0 ∧ X2 = 0) := by have := NON.out hf; show _ ∧ _; simpa using this
      have HB : Hid (Below w.heap.size w wr) := hb
      clear hf hb
      go_wp2
      refine bodyPost_ret (results_tmp2 rfl _ _ _) rfl ?_
      exact ⟨by rw [R.out.1, R.out.2]; rfl, HB.out⟩
end Go.Proofs.Ytflcnlefcnclkaa
