import Derived.Test.YtflcnlefcnclkaaFRound
import Derived.Test.YtflcnlefcnclkaaFEqS
namespace Go.Proofs.Ytflcnlefcnclkaa
set_option linter.unusedVariables false
open Go.RowKit

def iterS (N : List Bool) (ps : List PV) (F : List BS) : Nat → List BS
  | 0 => F
  | k + 1 => roundS N ps (iterS N ps F k)
/-- Word by word not above. -/
def LeF (F G : List BS) : Prop := G.length = F.length ∧ ∀ i, (F.getD i (0, 0)).1 ≤ (G.getD i (0, 0)).1 ∧ (F.getD i (0, 0)).2 ≤ (G.getD i (0, 0)).2
theorem LeF.refl (F : List BS) : LeF F F := ⟨rfl, fun _ => ⟨Nat.le_refl _, Nat.le_refl _⟩⟩
theorem LeF.trans {F G H : List BS} (h : LeF F G) (h' : LeF G H) : LeF F H := ⟨h'.1.trans h.1, fun i => ⟨Nat.le_trans (h.2 i).1 (h'.2 i).1, Nat.le_trans (h.2 i).2 (h'.2 i).2⟩⟩
theorem rStep_le (N : List Bool) (F : List BS) (p : PV) : LeF F (rStep N F p) := by
  refine ⟨rStep_len N F p, fun i => ?_⟩
  unfold rStep
  rw [getD_setS]
  split
  · rename_i h
    rw [← h.1]
    exact ⟨Nat.left_le_or, Nat.left_le_or⟩
  · exact ⟨Nat.le_refl _, Nat.le_refl _⟩
theorem rFold_le (N : List Bool) : ∀ (ps : List PV) (F : List BS), LeF F (ps.foldl (rStep N) F)
  | [], F => LeF.refl F
  | p :: ps, F => (rStep_le N F p).trans (rFold_le N ps _)
/-- How much may still come. -/
def mesF : List BS → Nat
  | [] => 0
  | s :: l => (18446744073709551616 - s.1) + (18446744073709551616 - s.2) + mesF l
theorem mesF_le : ∀ (F G : List BS), LeF F G → mesF G ≤ mesF F
  | [], [], _ => Nat.le_refl _
  | [], b :: m, h => by simp [LeF] at h
  | a :: l, [], h => by simp [LeF] at h
  | a :: l, b :: m, h => by
    have h0 := h.2 0
    have ht : LeF l m := ⟨by simpa using h.1, fun i => by simpa using h.2 (i + 1)⟩
    have := mesF_le l m ht
    simp only [List.getD_cons_zero] at h0
    simp only [mesF]
    omega
theorem mesF_lt : ∀ (F G : List BS), LeF F G → (∀ i, OkS (G.getD i (0, 0))) → F ≠ G → mesF G < mesF F
  | [], [], _, _, hne => absurd rfl hne
  | [], b :: m, h, _, _ => by simp [LeF] at h
  | a :: l, [], h, _, _ => by simp [LeF] at h
  | a :: l, b :: m, h, hk, hne => by
    have h0 := h.2 0
    have ht : LeF l m := ⟨by simpa using h.1, fun i => by simpa using h.2 (i + 1)⟩
    have hk0 := hk 0
    simp only [List.getD_cons_zero] at h0 hk0
    have hle := mesF_le l m ht
    by_cases e : a = b
    · subst e
      have := mesF_lt l m ht (fun i => by simpa using hk (i + 1)) (fun e => hne (by rw [e]))
      simp only [mesF]
      omega
    · simp only [mesF]
      obtain ⟨a1, a2⟩ := a
      obtain ⟨b1, b2⟩ := b
      have : a1 ≠ b1 ∨ a2 ≠ b2 := by
        by_cases q : a1 = b1
        · exact .inr (fun q2 => e (by rw [q, q2]))
        · exact .inl q
      have k1 := hk0.1
      have k2 := hk0.2
      simp only at h0 k1 k2 ⊢
      omega
theorem SRd.kept {w w' : World} {b : Nat} {F : List BS} (h : SRd w b F) (hb : w'.heap[b]? = w.heap[b]?) (hs : w.heap.size ≤ w'.heap.size) : SRd w' b F := by
  have hc : ∀ i, w'.cell? ⟨b, i, none⟩ = w.cell? ⟨b, i, none⟩ := fun i => by simp [World.cell?, hb]
  exact ⟨Nat.lt_of_lt_of_le h.1 hs, fun i hi => ⟨(hc _).trans (h.2 i hi).1, (hc _).trans (h.2 i hi).2⟩⟩
def mesC : List Value → Nat
  | [] => 0
  | .int _ n :: l => (18446744073709551616 - n.toNat) + mesC l
  | _ :: l => mesC l
theorem mesC_set (F : List BS) : mesC (setCells F) = mesF F := by
  induction F with
  | nil => rfl
  | cons s l ih =>
    have e : setCells (s :: l) = .int .u64 (s.1 : Int) :: .int .u64 (s.2 : Int) :: setCells l := rfl
    rw [e]
    simp only [mesC, mesF, ih, Int.toNat_natCast]
    omega
def mesW (fb : Nat) (w : World) : Nat := match w.heap[fb]? with
  | some (.cells C _ _) => mesC C.toList
  | _ => 0
theorem mesW_of {w : World} {fb : Nat} {F : List BS} (h : SBk w fb F) : mesW fb w = mesF F := by
  unfold mesW
  rw [show w.heap[fb]? = _ from h]
  exact mesC_set F
set_option maxRecDepth 100000 in
set_option maxHeartbeats 4000000 in
theorem settle_S (g : GV) (gb cb nb fb : Nat) (N : List Bool) (F : List BS) (n₀ : Nat) (w0 w : World) (hfg : FG w0 g) (hw0 : w0.heap.size = n₀) (h : LWs g gb cb nb fb N F n₀ w0 w) (hd : fb ≠ gb ∧ fb ≠ cb ∧ fb ≠ nb ∧ n₀ ≤ fb) :
    Calls Try.prog 35 #[.slice (some ⟨fb, 0, none⟩) N.length N.length, .func (.func 36) #[] #[.pointer (some ⟨gb, 0, none⟩), .pointer (some ⟨cb, 0, none⟩)]] w fun e w' => e = .returned (.tuple #[]) ∧ ∃ k, LWs g gb cb nb fb N (iterS N g.ps F k) n₀ w0 w' ∧ roundS N g.ps (iterS N g.ps F k) = iterS N g.ps F k := by
  have H0 : Hid (LWs g gb cb nb fb N F n₀ w0 w) := h
  have HRC : Hid (∀ G wr, LWs g gb cb nb fb N G n₀ w0 wr → Calls Try.prog 36 #[.pointer (some ⟨gb, 0, none⟩), .pointer (some ⟨cb, 0, none⟩)] wr fun e w' => e = .returned (.tuple #[]) ∧ LWs g gb cb nb fb N (roundS N g.ps G) n₀ w0 w' ∧ wr.heap.size ≤ w'.heap.size ∧ ∀ j, j < wr.heap.size → j ≠ fb → w'.heap[j]? = wr.heap[j]?) := fun G wr hL => round_S g gb cb nb fb N G n₀ w0 wr hfg hw0 hL hd
  have HNL : Hid (1 ≤ N.length ∧ N.length ≤ 64) := by rw [h.len.2]; exact hfg.nl
  have HSZ : Hid (∀ wr, Below n₀ w0 wr → n₀ ≤ wr.heap.size) := fun wr hb => by rw [← hw0]; have := hb.size; omega
  clear h hfg hd
  go_enter Try.func35, Try.ntmps35
  go_wp2
  go_loopw [4] (fun _ wr => ∃ k : Nat, LWs g gb cb nb fb N (iterS N g.ps F k) n₀ w0 wr) (fun _ wr => mesW fb wr)
  case atStart => exact ⟨0, H0.out⟩
  case round =>
    obtain ⟨k, hL⟩ := hrel
    have HK : Hid (roundS N g.ps (iterS N g.ps F k) = iterS N g.ps F (k + 1)) := rfl
    have HM : Hid (mesW fb wr = mesF (iterS N g.ps F k)) := mesW_of hL.f
    generalize hG : iterS N g.ps F k = G at *
    have HL : Hid (LWs g gb cb nb fb N G n₀ w0 wr) := hL
    have CC : Hid (Calls Try.prog 47 #[.slice (some ⟨fb, 0, none⟩) N.length N.length] wr fun e w' => ∃ b' c', e = .returned (.slice (some ⟨b', 0, none⟩) N.length c') ∧ SRd w' b' G ∧ wr.heap.size ≤ b' ∧ Below wr.heap.size wr w') := by
      have := clone_set fb N.length G wr hL.f.rd (by rw [hL.len.1]; have := HNL.out; omega) (fun e => by have := hL.len.1; rw [e] at this; have := HNL.out; simp at *; omega)
      rw [hL.len.1] at this
      exact this
    have HGL : Hid (G.length = N.length) := hL.len.1
    have HFL : Hid (fb < wr.heap.size) := hL.f.lt
    clear hL
    obtain ⟨X, hX⟩ : ∃ X, decide (G = roundS N g.ps G) = X := ⟨_, rfl⟩
    have HX : Hid (decide (G = roundS N g.ps G) = X) := hX
    cases X
    all_goals
      go_wp2_with (first
        | (go_at_call 47; refine CC.out.mono ?_; rintro e w2 ⟨ob, oc, rfl, o2, l2, b2⟩; have L2 : Hid (LWs g gb cb nb fb N G n₀ w0 w2) := HL.out.later b2 (HSZ.out _ HL.out.bel); have O2 : Hid (SRd w2 ob G ∧ wr.heap.size ≤ ob) := ⟨o2, l2⟩; clear o2 l2 b2)
        | (go_at_call 36; refine (HRC.out G w2 L2.out).mono ?_; rintro e w3 ⟨rfl, L3', z3, k3⟩; have L3 : Hid (LWs g gb cb nb fb N (roundS N g.ps G) n₀ w0 w3) := L3'; have O3 : Hid (SRd w3 ob G) := O2.out.1.kept (k3 _ O2.out.1.1 (by have := HFL.out; have := O2.out.2; omega)) z3; have EC : Hid (Calls Try.prog 48 #[.slice (some ⟨ob, 0, none⟩) N.length oc, .slice (some ⟨fb, 0, none⟩) N.length N.length] w3 fun e w' => e = .returned (.bool (decide (G = roundS N g.ps G))) ∧ Below w3.heap.size w3 w') := (by have q := equal_S ob fb oc N.length G (roundS N g.ps G) w3 O3.out L3.out.f.rd (by rw [L3.out.len.1, HGL.out]) (by rw [HGL.out]; have := HNL.out; omega); rw [L3.out.len.1, HGL.out] at q; exact q); clear L3' z3 k3)
        | (go_at_call 48; refine EC.out.mono ?_; rintro e w4 ⟨rfl, b4⟩; rw [HX.out]; have L4 : Hid (LWs g gb cb nb fb N (roundS N g.ps G) n₀ w0 w4) := L3.out.later b4 (HSZ.out _ L3.out.bel); clear b4))
    · go_roundw
      case rel => exact ⟨k + 1, by rw [← HK.out]; exact L4.out⟩
      case measure =>
        rw [HM.out, mesW_of L4.out.f]
        exact mesF_lt G _ (rFold_le N g.ps G) L4.out.ok (fun e => by have := HX.out; simp [← e] at this)
    · have hE : G = roundS N g.ps G := of_decide_eq_true HX.out
      have L5 : Hid (LWs g gb cb nb fb N G n₀ w0 w4) := by have := L4.out; rw [← hE] at this; exact this
      have HE : Hid (roundS N g.ps G = G) := hE.symm
      clear hE
      refine bodyPost_ret (results_none rfl _ _ _) rfl ?_
      exact ⟨rfl, k, by rw [hG]; exact L5.out, by rw [hG]; exact HE.out⟩
end Go.Proofs.Ytflcnlefcnclkaa
