import Derived.Test.YtfckmbdcfeljiaaDoorRefN
namespace Go.Proofs.YtfckmbdcfeljiaaDoor
set_option linter.unusedVariables false
open Go.RowKit

theorem refseal_long (k : Int) (ao : Option Addr) (cap n : Nat) (w : World) (hl : n ≤ 140737488355328) (h : 16777216 < n) :
    Calls Tryd.prog 9 #[.int .u8 k, .slice ao n cap] w fun e w' => e = .returned (.tuple #[.slice none 0 0, .int .i64 5]) ∧ w = w' := by
  go_enter Tryd.func9, Tryd.ntmps9
  go_wp2
  go_ret2
  exact ⟨rfl, rfl⟩
theorem own_head (w : World) (k : Int) (h0 : 0 ≤ k) (h1 : k ≤ 255) : Own (w.alloc (.cells #[.int .u8 103, .int .u8 116, .int .u8 114, .int .u8 k] 5)) (.slice (some ⟨w.heap.size, 0, none⟩) 4 4) (headBytes k) :=
  ⟨headBytes_bytes k h0 h1, by simp [headBytes], .inr ⟨w.heap.size, 4, #[.int .u8 103, .int .u8 116, .int .u8 114, .int .u8 k], rfl, Nat.zero_le _, heap_alloc_new w _, Nat.le_refl _, by unfold maxLen; omega, rfl, rfl⟩⟩
theorem new_own (w : World) {n c : Nat} : ∀ k, (Value.slice (some ⟨w.heap.size, 0, none⟩) n c).ownBlock = some k → w.heap.size ≤ k := fun k hk => by simp [Value.ownBlock] at hk; omega
theorem refsum_at (ao : Option Addr) (N cap : Nat) (xs : List Int) (w : World) (hN : N = xs.length) (hl : xs.length ≤ 140737488355328) (hr : RowAt w ao xs) :
    Calls Tryd.prog 31 #[.slice ao N cap] w fun e w' => e = .returned (.int .u32 (adler xs)) ∧ w = w' := by
  subst hN; exact refsum_any ao cap xs w hl hr

set_option maxRecDepth 100000 in
set_option maxHeartbeats 2000000 in
theorem refseal_any (k : Int) (ao : Option Addr) (N cap : Nat) (xs : List Int) (w : World) (hN : N = xs.length) (hk0 : 0 ≤ k) (hk1 : k ≤ 255) (hl : xs.length ≤ 16777216) (hr : RowAt w ao xs) (hn : ao = none → cap = 0) :
    Calls Tryd.prog 9 #[.int .u8 k, .slice ao N cap] w fun e w' => ∃ g N c, e = .returned (.tuple #[.slice (some ⟨g, 0, none⟩) N c, .int .i64 0]) ∧ Own w' (.slice (some ⟨g, 0, none⟩) N c) (frame k xs) ∧ w.heap.size ≤ g ∧ Below w.heap.size w w' := by
  subst hN
  go_enter Tryd.func9, Tryd.ntmps9
  have hE := enc_len 10 (xs.length : Int)
  have hEb : Hid ((headBytes k).length + (enc 10 (xs.length : Int)).length ≤ 140737488355328) := by show _ ≤ _; simp [headBytes]; omega
  have hEc : Hid ((headBytes k ++ enc 10 (xs.length : Int)).length + xs.length ≤ 140737488355328) := by show _ ≤ _; simp [headBytes]; omega
  have hEd : Hid ((lead k xs).length ≤ 140737488355300) := by show _ ≤ _; simp [lead, headBytes]; omega
  have HAd := adler_bd (lead k xs)
  have hEe : Hid ((lead k xs).length + (sumBytes (adler (lead k xs))).length ≤ 140737488355328) := by have := hEd.out; show _ ≤ _; simp [sumBytes]; omega
  have HSB : Hid (isBytes (sumBytes (adler (lead k xs)))) := sumBytes_bytes _ HAd.1 HAd.2
  go_wp2_with (first
    | (go_at_call 30; refine (form_any (xs.length : Int) _ (by omega) (by omega)).mono ?_; rintro e w1 ⟨g1, N1, c1, rfl, ho1, hg1, hb1⟩; have hh1 := (own_head w k hk0 hk1).later hb1; have hB1 := (below_alloc w (.cells #[.int .u8 103, .int .u8 116, .int .u8 114, .int .u8 k] 5)).trans (hb1.mono (by simp)); obtain ⟨hN1, hR1, hC1⟩ := own_len ho1; subst hN1; clear ho1 hb1 hC1)
    | (at_builtin; refine wpList_own_append rfl (.tmp 13) (.tmp 17) rfl _ (headBytes k) rfl hh1 (some ⟨g1, 0, none⟩) c1 (enc 10 (xs.length : Int)) rfl hR1 no_nil hEb.out ?_; intro v2 w2 ho2 hg2 hn2; obtain ⟨hB2, hv2⟩ := grew_new hB1 (new_own w) hg2; have hr2 := hr.later hB2)
    | (at_builtin; refine wpList_own_append rfl (.tmp 19) (.tmp 20) rfl _ _ rfl ho2 ao cap xs rfl hr2 hn hEc.out ?_; intro v3 w3 ho3 hg3 hn3; change Own w3 v3 (lead k xs) at ho3; obtain ⟨hB3, hv3⟩ := grew_new hB2 hv2 hg3; obtain ⟨a3, N3, c3, rfl⟩ := own_slice ho3; have OL3 : Hid _ := own_len ho3; clear hn3 hn2 hg2 hg3)
    | (go_at_call 31; refine (refsum_at a3 N3 c3 (lead k xs) w3 OL3.out.1 (by have := hEd.out; omega) OL3.out.2.1).mono ?_; rintro e w4 ⟨rfl, rfl⟩)
    | (at_builtin; refine wpList_own_append rfl (.tmp 24) (.tmp 36) rfl _ _ rfl (ho3.alloc _) (some ⟨w3.heap.size, 0, none⟩) 4 (sumBytes (adler (lead k xs))) rfl (rowAt_new _ _ _ _ HSB.out) no_nil hEe.out ?_; intro v5 w5 ho5 hg5 hn5))
  obtain ⟨hB5, hv5⟩ := grew_new (hB3.trans ((below_alloc w3 _).mono hB3.size)) hv3 hg5
  obtain ⟨g, N, c, rfl⟩ := own_shape ho5 (fun h => by have := (hn5.1 h).2; simp [sumBytes] at this)
  go_ret2
  exact ⟨g, N, c, rfl, ho5, hv5 g rfl, hB5⟩
end Go.Proofs.YtfckmbdcfeljiaaDoor
