import Derived.Test.YtcjejnenklppiaaDoorBZ9
namespace Go.Proofs.YtcjejnenklppiaaDoor
set_option linter.unusedVariables false
open Go.RowKit Go.Shelf

theorem svC_len (Ns Fs : List Nat) (n : Nat) : ∀ (D : List (List Nat)) (s : List (Option Nat)), (svC Ns Fs n D s).length = s.length
  | [], _ => rfl
  | T :: D, s => by
    show (svC Ns Fs n D (svX (gaU Ns Fs n s T) T s)).length = _
    rw [svC_len Ns Fs n D, svX_len]
/-- The rows of edges. -/
structure RelB (E : List (Int × Int)) (n : Nat) (Ns : List Nat) : Prop where
  len : Ns.length = n
  bit : ∀ x y, x < n → y < n → (Ns.getD x 0).testBit y = hasE E x y
  lt : ∀ x, x < n → Ns.getD x 0 < 2 ^ n
theorem TuB.rel {w w' : World} {n : Nat} {Ns : List Nat} {E : List (Int × Int)} (h : TuB w n Ns w') (hb : ∀ x y, x < n → y < n → (Ns.getD x 0).testBit y = hasE E x y) : RelB E n Ns := ⟨h.len, hb, fun x hx => by
  obtain ⟨k, hk, hs⟩ := h.rw.at (show x < Ns.length by rw [h.len]; exact hx)
  exact hs.lt⟩
theorem TuB.kin {w w' : World} {n : Nat} {Ns : List Nat} (h : TuB w n Ns w') : ∀ k ∈ ksE w.heap.size n, k + 1 < w'.heap.size := fun k hk => by
  obtain ⟨i, hi⟩ := List.getElem?_of_mem hk
  have hil : i < n := by have := (List.getElem?_eq_some_iff.1 hi).1; rwa [ksE_len] at this
  obtain ⟨k', hk', hs'⟩ := h.rw.at (show i < Ns.length by rw [h.len]; exact hil)
  rw [hi] at hk'
  cases hk'
  exact hs'.size
/-- Least solutions, as numbers. -/
structure SolB (Ns Fs : List Nat) (n : Nat) (Ms : List Nat) : Prop where
  len : Ms.length = n
  bit : ∀ x, x < n → ∀ b, (Ms.getD x 0).testBit b = true ↔ ∃ y, RchB Ns n x y ∧ (Fs.getD y 0).testBit b = true
theorem sol_of {Ns Fs : List Nat} {n : Nat} {D : List (List Nat)} (hD : CoB Ns n D) : (∀ i, i < (svC Ns Fs n D (List.replicate n none)).length → ∃ M, (svC Ns Fs n D (List.replicate n none)).getD i none = some M) ∧ SolB Ns Fs n (unO (svC Ns Fs n D (List.replicate n none))) := by
  have hl : (svC Ns Fs n D (List.replicate n none)).length = n := by rw [svC_len, List.length_replicate]
  refine ⟨fun i hi => ?_, by simp [unO, hl], fun x hx b => ?_⟩
  · rw [hl] at hi
    obtain ⟨M, hM, _⟩ := solved_all (Fs := Fs) hD hi
    exact ⟨M, hM⟩
  · obtain ⟨M, hM, hb⟩ := solved_all (Fs := Fs) hD hx
    rw [unO_get, hM]
    exact hb b
/-- What Closure answers. -/
def ClA (w : World) (n : Int) (E : List (Int × Int)) (e : Ending) (w' : World) : Prop :=
  Below w.heap.size w w' ∧ (((decide (0 ≤ n) && decide (n ≤ 4096)) = false ∧ e = .returned (.tuple #[.slice none 0 0, .int .i64 4])) ∨ ∃ k : Nat, n = (k : Int) ∧ k ≤ 4096 ∧
    ((E.all (okE k) = false ∧ e = .returned (.tuple #[.slice none 0 0, .int .i64 51])) ∨ (E.all (okE k) = true ∧ ∃ v Ns Ms, e = .returned (.tuple #[v, .int .i64 0]) ∧ RelB E k Ns ∧ SolB Ns Ns k Ms ∧ PlW w (prU Ms k k) v w')))
set_option maxRecDepth 100000 in
set_option maxHeartbeats 8000000 in
theorem closure_any (n : Int) (w : World) (ea : Option Addr) (ec : Nat) (E : List (Int × Int)) (hE : PrsB w ea E) (hEl : E.length ≤ 140737488355328) (hT : TabB w) : Calls Tryd.prog 41 #[.int .i64 n, .slice ea E.length ec] w (ClA w n E) := by
  by_cases hn : (decide (0 ≤ n) && decide (n ≤ 4096)) = false
  · have RF : Hid (Calls Tryd.prog 43 #[.int .i64 n, .slice ea E.length ec] w fun e w' => e = .returned (.tuple #[.slice none 0 0, .int .i64 4]) ∧ w' = w) := rows_far n hn ea E.length ec w
    have HN : Hid ((decide (0 ≤ n) && decide (n ≤ 4096)) = false) := hn
    clear hE hT hn
    generalize E.length = el at *
    go_enter Tryd.func41, Tryd.ntmps41
    go_wp2_with (go_at_call 43; refine RF.out.mono ?_; rintro e w1 ⟨rfl, hz⟩; rw [hz]; clear hz w1)
    refine bodyPost_ret (v := .tuple #[.slice none 0 0, .int .i64 4]) (by simp [results, Tryd.results41, go_sem]) rfl ?_
    exact ⟨Below.refl _ _, .inl ⟨HN.out, rfl⟩⟩
  · obtain ⟨k, rfl⟩ : ∃ k : Nat, n = (k : Int) := ⟨n.toNat, by simp at hn; omega⟩
    have hk : k ≤ 4096 := by simp at hn; omega
    have RF : Hid (Calls Tryd.prog 43 #[.int .i64 (k : Int), .slice ea E.length ec] w (RoA w k E)) := rows_SB hk ea ec E hE hEl
    have HT : Hid (TabB w) := hT
    clear hE hT hn
    generalize hel : E.length = el at *
    clear hel
    go_enter Tryd.func41, Tryd.ntmps41
    go_wp2_with (go_at_call 43; refine RF.out.mono ?_)
    rintro e w1 (⟨hE, rfl, b1⟩ | ⟨hE, Ns, rfl, t1, hb1⟩)
    · have HE : Hid (E.all (okE k) = false ∧ Below w.heap.size w w1) := ⟨hE, b1⟩
      clear hE b1
      go_wp2
      refine bodyPost_ret (v := .tuple #[.slice none 0 0, .int .i64 51]) (by simp [results, Tryd.results41, go_sem]) rfl ?_
      exact ⟨HE.out.2, .inr ⟨k, rfl, hk, .inl ⟨HE.out.1, rfl⟩⟩⟩
    · have HE : Hid (E.all (okE k) = true ∧ RelB E k Ns ∧ Below w.heap.size w w1) := ⟨hE, t1.rel hb1, t1.bel⟩
      have SV : Hid (Calls Tryd.prog 45 #[.slice (some ⟨w.heap.size, 0, none⟩) k k, .slice (some ⟨w.heap.size, 0, none⟩) k k] w1 fun e w' => ∃ ko D, e = .returned (.slice (some ⟨w1.heap.size, 0, none⟩) k k) ∧ CoB Ns k D ∧ SvM w' w1.heap.size k ko (svC Ns Ns k D (List.replicate k none)) ∧ Below w1.heap.size w1 w') := solve_SB t1.rw t1.len hk (HT.out.later t1.bel) t1.kin t1.rw t1.len k k
      clear hE t1 hb1
      go_wp2_with (go_at_call 45; refine SV.out.mono ?_)
      rintro e w2 ⟨ko, D, rfl, hD, h2, b2⟩
      obtain ⟨hall, hsol⟩ := sol_of (Fs := Ns) hD
      have PA : Hid (Calls Tryd.prog 50 #[.slice (some ⟨w1.heap.size, 0, none⟩) k k] w2 fun e w' => ∃ v, e = .returned v ∧ PlW w2 (prU (unO (svC Ns Ns k D (List.replicate k none))) k k) v w') := pairs_SB (h2.read hall) hsol.len hk hk ((HT.out.later HE.out.2.2).later b2) k
      have HS : Hid (SolB Ns Ns k (unO (svC Ns Ns k D (List.replicate k none)))) := hsol
      have B2 : Hid (Below w.heap.size w w2) := HE.out.2.2.trans (b2.mono HE.out.2.2.size)
      generalize unO (svC Ns Ns k D (List.replicate k none)) = Ms at *
      clear hall hsol hD h2 b2 SV
      go_wp2_with (go_at_call 50; refine PA.out.mono ?_; rintro e w3 ⟨v3, rfl, p3⟩; have P3 : Hid (PlW w (prU Ms k k) v3 w3) := ⟨p3.ro, fun j hj => Nat.le_trans B2.out.size (p3.own j hj), B2.out.trans (p3.bel.mono B2.out.size)⟩; clear p3)
      refine bodyPost_ret (v := .tuple #[v3, .int .i64 0]) (by simp [results, Tryd.results41, go_sem]) rfl ?_
      exact ⟨P3.out.bel, .inr ⟨k, rfl, hk, .inr ⟨HE.out.1, v3, Ns, Ms, rfl, HE.out.2.1, HS.out, P3.out⟩⟩⟩
/-- What Components answers. -/
def CoA (w : World) (n : Int) (E : List (Int × Int)) (e : Ending) (w' : World) : Prop :=
  Below w.heap.size w w' ∧ (((decide (0 ≤ n) && decide (n ≤ 4096)) = false ∧ e = .returned (.tuple #[.slice none 0 0, .int .i64 4])) ∨ ∃ k : Nat, n = (k : Int) ∧ k ≤ 4096 ∧
    ((E.all (okE k) = false ∧ e = .returned (.tuple #[.slice none 0 0, .int .i64 51])) ∨ (E.all (okE k) = true ∧ ∃ v V D Ns w1, e = .returned (.tuple #[v, .int .i64 0]) ∧ RelB E k Ns ∧ w.heap.size ≤ w1.heap.size ∧ CmB w1 Ns k v V D w')))
end Go.Proofs.YtcjejnenklppiaaDoor
