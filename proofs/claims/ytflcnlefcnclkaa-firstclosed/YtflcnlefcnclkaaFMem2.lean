import Derived.Test.YtflcnlefcnclkaaFMem1
namespace Go.Proofs.Ytflcnlefcnclkaa
set_option linter.unusedVariables false
open Go.RowKit

theorem quo64 (n : Nat) : (n : Int).tdiv 64 = ((n / 64 : Nat) : Int) := by rw [Int.tdiv_eq_ediv_of_nonneg (by omega)]; omega
theorem rem64 (n : Nat) : (n : Int).tmod 64 = ((n % 64 : Nat) : Int) := by rw [Int.tmod_eq_emod_of_nonneg (by omega)]; omega
theorem bit_S (a n : Nat) (ha : a < 18446744073709551616) : (bits .and .u64 ((a : Int) / 2 ^ n) 1 == 1) = a.testBit n := by
  have e : (a : Int) / 2 ^ n = ((a / 2 ^ n : Nat) : Int) := by simp
  have h1 : a / 2 ^ n < 18446744073709551616 := Nat.lt_of_le_of_lt (Nat.div_le_self _ _) ha
  rw [e, show (1 : Int) = ((1 : Nat) : Int) from rfl, u64_and_nat _ _ h1 (by omega), Nat.and_one_is_mod, Nat.testBit_eq_decide_div_mod_eq]
  by_cases q : a / 2 ^ n % 2 = 1
  · simp [q]
  · have q2 : a / 2 ^ n % 2 = 0 := by omega
    rw [q2]
    rfl
theorem shl_S (n : Nat) (hn : n < 64) : IntKind.u64.wrap (2 ^ n) = ((2 ^ n : Nat) : Int) := by
  have h := pow64 hn
  have e : (2 : Int) ^ n = ((2 ^ n : Nat) : Int) := by simp
  rw [e, IntKind.wrap_u64]
  generalize 2 ^ n = p at h ⊢
  omega
set_option maxRecDepth 100000 in
set_option maxHeartbeats 1000000 in
theorem has_S (s : BS) (n : Nat) (hn : n < 128) (hs : OkS s) (w : World) :
    Calls Try.prog 46 #[sv s, .int .i64 n] w fun e w' => e = .returned (.bool (hasS s n)) ∧ Below w.heap.size w w' := by
  obtain ⟨s1, s2⟩ := s
  have v1 := bit_S s1 n hs.1
  have v2 := bit_S s2 (n - 64) hs.2
  by_cases h : n < 64
  · have q1 : (n : Int).tdiv 64 = 0 := by rw [quo64]; omega
    have q2 : (n : Int).tmod 64 = n := by rw [rem64]; omega
    have V : Hid (hasS (s1, s2) n = (bits .and .u64 ((s1 : Int) / 2 ^ n) 1 == 1)) := by show _ = _; simp only [v1, hasS, h, if_true]
    clear v1 v2
    go_enter Try.func46, Try.ntmps46
    go_wp2
    go_ret
    exact ⟨by rw [V.out]; rfl, below_alloc _ _⟩
  · have q1 : (n : Int).tdiv 64 = 1 := by rw [quo64]; omega
    have q2 : (n : Int).tmod 64 = ((n - 64 : Nat) : Int) := by rw [rem64]; omega
    have V : Hid (hasS (s1, s2) n = (bits .and .u64 ((s2 : Int) / 2 ^ (n - 64)) 1 == 1)) := by show _ = _; simp only [v2, hasS, h, if_false]
    have hm64 : n - 64 < 64 := by omega
    generalize n - 64 = m at *
    clear v1 v2
    go_enter Try.func46, Try.ntmps46
    go_wp2
    go_ret
    exact ⟨by rw [V.out]; rfl, below_alloc _ _⟩
set_option maxRecDepth 100000 in
set_option maxHeartbeats 1000000 in
theorem add_S (s : BS) (n b : Nat) (hn : n < 128) (hs : OkS s) (w : World) (hb : w.heap[b]? = some (sBox s)) :
    Calls Try.prog 66 #[.pointer (some ⟨b, 0, none⟩), .int .i64 n] w fun e w' => e = .returned (.tuple #[]) ∧ w'.heap[b]? = some (sBox (addS s n)) ∧ (∀ j, j ≠ b → w'.heap[j]? = w.heap[j]?) ∧ (∀ B, B ≤ b → Below B w w') := by
  obtain ⟨s1, s2⟩ := s
  have hz := lt_of_block hb
  have HB : Hid (w.heap[b]? = some (sBox (s1, s2))) := hb
  by_cases h : n < 64
  · have q1 : (n : Int).tdiv 64 = 0 := by rw [quo64]; omega
    have q2 : (n : Int).tmod 64 = n := by rw [rem64]; omega
    have c0 : w.cell? ⟨b, 0, none⟩ = some (.int .u64 (s1 : Int)) := (cellq_any hb).trans rfl
    have f0 : w.frozen? ⟨b, 0, none⟩ = false := by simp [World.frozen?, hb]
    have V : Hid (addS (s1, s2) n = (s1 ||| 2 ^ n, s2) ∧ bits .or .u64 (s1 : Int) (IntKind.u64.wrap (2 ^ n)) = ((s1 ||| 2 ^ n : Nat) : Int)) := ⟨by simp [addS, h], by rw [shl_S n h]; exact or_S s1 _ hs.1 (pow64 h)⟩
    clear hb
    go_enter Try.func66, Try.ntmps66
    go_wp2
    go_region
    go_end0
    rw [V.out.1, V.out.2]
    exact ⟨rfl, (heap_set HB.out 0 _).trans rfl, fun j hj => Below.heap_setCell w ⟨b, 0, none⟩ _ _ hj, fun B hB => ((Below.refl B w).setCell (p := ⟨b, 0, none⟩) hB _).drew⟩
  · have q1 : (n : Int).tdiv 64 = 1 := by rw [quo64]; omega
    have q2 : (n : Int).tmod 64 = ((n - 64 : Nat) : Int) := by rw [rem64]; omega
    have c0 : w.cell? ⟨b, 1, none⟩ = some (.int .u64 (s2 : Int)) := (cellq_any hb).trans rfl
    have f0 : w.frozen? ⟨b, 1, none⟩ = false := by simp [World.frozen?, hb]
    have V : Hid (addS (s1, s2) n = (s1, s2 ||| 2 ^ (n - 64)) ∧ bits .or .u64 (s2 : Int) (IntKind.u64.wrap (2 ^ (n - 64))) = ((s2 ||| 2 ^ (n - 64) : Nat) : Int)) := ⟨by simp [addS, h], by rw [shl_S _ (by omega)]; exact or_S s2 _ hs.2 (pow64 (by omega))⟩
    have hm64 : n - 64 < 64 := by omega
    generalize n - 64 = m at *
    clear hb
    go_enter Try.func66, Try.ntmps66
    go_wp2
    go_region
    go_end0
    rw [V.out.1, V.out.2]
    exact ⟨rfl, (heap_set HB.out 1 _).trans rfl, fun j hj => Below.heap_setCell w ⟨b, 1, none⟩ _ _ hj, fun B hB => ((Below.refl B w).setCell (p := ⟨b, 1, none⟩) hB _).drew⟩
set_option maxRecDepth 100000 in
set_option maxHeartbeats 1000000 in
theorem setOf_S (ao : Option Addr) (c : Nat) (l : List Int) (w : World) (hr : InRow w ao l) (hl : l.length ≤ 140737488355328) (hb : ∀ x ∈ l, 0 ≤ x ∧ x < 128) :
    Calls Try.prog 49 #[.slice ao l.length c] w fun e w' => e = .returned (sv (setS l)) ∧ Below w.heap.size w w' := by
  have HR : Hid (InRow w ao l) := hr
  have HBD : Hid (∀ x ∈ l, 0 ≤ x ∧ x < 128) := hb
  have t1 : ((w.alloc (sBox (0, 0))).alloc (sBox (0, 0))).heap[w.heap.size]? = some (sBox (0, 0)) := ((below_alloc _ _).block _ (lt_of_block (heap_alloc_new w _))).trans (heap_alloc_new w _)
  have t2 : ((w.alloc (sBox (0, 0))).alloc (sBox (0, 0))).heap[w.heap.size + 1]? = some (sBox (0, 0)) := by
    have h := heap_alloc_new (w.alloc (sBox (0, 0))) (sBox (0, 0))
    rwa [show (w.alloc (sBox (0, 0))).heap.size = w.heap.size + 1 by simp] at h
  have T : Hid (Below w.heap.size w ((w.alloc (sBox (0, 0))).alloc (sBox (0, 0)))) := (below_alloc w _).trans ((below_alloc _ _).mono (below_alloc w _).size)
  clear hr hb
  go_enter Try.func49, Try.ntmps49
  go_wp2
  go_loopw [8] (fun z wr => ∃ k : Nat, k ≤ l.length ∧ z = .int .i64 k ∧ OkS (setS (l.take k)) ∧ wr.heap[w.heap.size]? = some (sBox (0, 0)) ∧ wr.heap[w.heap.size + 1]? = some (sBox (setS (l.take k))) ∧ Below w.heap.size w wr) (fun z _ => l.length - (intOf z).toNat)
  case atStart => exact ⟨0, Nat.zero_le _, rfl, OkS.zero, t1, t2, T.out⟩
  case round =>
    clear t1 t2 T
    obtain ⟨k, hk, rfl, ok, h1, h2, h4⟩ := hrel
    have H : Hid (OkS (setS (l.take k)) ∧ wr.heap[w.heap.size]? = some (sBox (0, 0)) ∧ wr.heap[w.heap.size + 1]? = some (sBox (setS (l.take k))) ∧ Below w.heap.size w wr) := ⟨ok, h1, h2, h4⟩
    by_cases hlt : k < l.length
    · obtain ⟨b, o, rfl, hbl, hc⟩ := (HR.out.later h4) (by intro e; rw [e] at hlt; simp at hlt)
      have c0 := hc k hlt
      have hm : l.getD k 0 ∈ l := by simp [List.getD, hlt]
      obtain ⟨b0, b1⟩ := HBD.out _ hm
      have hst : setS (l.take (k + 1)) = addS (setS (l.take k)) (l.getD k 0).toNat := by
        unfold setS
        rw [List.take_succ_eq_append_getElem hlt, List.foldl_append]
        simp [List.getD, hlt]
      have HST : Hid (setS (l.take (k + 1)) = addS (setS (l.take k)) (l.getD k 0).toNat ∧ (l.getD k 0).toNat < 128) := ⟨hst, by omega⟩
      have klt : (k : Int) < (l.length : Int) := by omega
      generalize l.getD k 0 = x at *
      obtain ⟨m, rfl⟩ : ∃ m : Nat, x = (m : Int) := ⟨x.toNat, by omega⟩
      simp only [Int.toNat_natCast] at HST
      clear h1 h2 h4 hc ok hst hm
      go_wp2_with (go_at_call 66; refine (add_S _ m (w.heap.size + 1) HST.out.2 H.out.1 _ H.out.2.2.1).mono ?_; rintro e w2 ⟨rfl, a1, a2, a3⟩; have A : Hid (w2.heap[w.heap.size + 1]? = some (sBox (addS (setS (l.take k)) m)) ∧ (∀ j, j ≠ w.heap.size + 1 → w2.heap[j]? = wr.heap[j]?) ∧ ∀ B, B ≤ w.heap.size + 1 → Below B wr w2) := ⟨a1, a2, a3⟩; clear a1 a2 a3)
      go_roundw
      case rel =>
        obtain ⟨ok, h1, h2, h4⟩ := H.out
        obtain ⟨a1, a2, a3⟩ := A.out
        refine ⟨k + 1, by omega, by go_num, ?_, ?_, ?_, ?_⟩
        · rw [HST.out.1]; exact ok.add HST.out.2
        · rw [a2 _ (by omega)]; exact h1
        · rw [HST.out.1]; exact a1
        · exact h4.trans (a3 _ (by omega))
      case measure => simp [intOf]; omega
    · obtain rfl : k = l.length := by omega
      rw [List.take_length] at h2 ok
      have h5 : Hid (Below w.heap.size w wr) := h4
      generalize hS : setS l = s at *
      obtain ⟨s1, s2⟩ := s
      have c0 : wr.cell? ⟨w.heap.size + 1, 0, none⟩ = some (.int .u64 (s1 : Int)) := (cellq_any h2).trans rfl
      have c1 : wr.cell? ⟨w.heap.size + 1, 1, none⟩ = some (.int .u64 (s2 : Int)) := (cellq_any h2).trans rfl
      have d0 : wr.cell? ⟨w.heap.size, 0, none⟩ = some (.int .u64 0) := (cellq_any h1).trans rfl
      have d1 : wr.cell? ⟨w.heap.size, 1, none⟩ = some (.int .u64 0) := (cellq_any h1).trans rfl
      have f0 : wr.frozen? ⟨w.heap.size, 0, none⟩ = false := by simp [World.frozen?, h1]
      have f1 : wr.frozen? ⟨w.heap.size, 1, none⟩ = false := by simp [World.frozen?, h1]
      have hz := lt_of_block h1
      clear h1 h2 h4
      go_wp2
      refine bodyPost_ret (v := sv (s1, s2)) (by simp [results, Try.results49, go_sem, d0, d1]) rfl ?_
      exact ⟨by rw [hS], (h5.out.setCell (p := ⟨w.heap.size, 0, none⟩) (Nat.le_refl _) _).setCell (p := ⟨w.heap.size, 1, none⟩) (Nat.le_refl _) _⟩
end Go.Proofs.Ytflcnlefcnclkaa
