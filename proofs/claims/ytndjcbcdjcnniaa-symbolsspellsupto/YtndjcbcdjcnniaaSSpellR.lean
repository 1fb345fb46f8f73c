import Derived.Test.YtndjcbcdjcnniaaSSpellG
namespace Go.Proofs.Ytndjcbcdjcnniaa
set_option linter.unusedVariables false
open Go.RowKit

theorem bytes_app (x y : List UInt8) : (⟨x.toArray⟩ : ByteArray) ++ ⟨y.toArray⟩ = ⟨(x ++ y).toArray⟩ := by
  apply ByteArray.ext
  simp
theorem bytes_appR (x : List UInt8) (y : ByteArray) : (⟨x.toArray⟩ : ByteArray) ++ y = ⟨(x ++ y.data.toList).toArray⟩ := by
  obtain ⟨⟨l⟩⟩ := y
  exact bytes_app x l
set_option maxRecDepth 100000 in
set_option maxHeartbeats 4000000 in
theorem spellR_any (ta na la : Option Addr) (tc nc lc : Nat) (ts ns : List ByteArray) (l : List (Int × Int)) (w : World) (h1 : ts.length ≤ 1048576) (h2 : ns.length ≤ 1048576) (hr1 : StrRow w ta ts) (hr2 : StrRow w na ns) (hr3 : SymRow w la l) (hz : ∀ q ∈ l, (nameF ts ns q.1 q.2).1.size ≤ 1048576) (hl : l.length ≤ 1048576) :
    Calls Try.prog 16 #[.slice ta ts.length tc, .slice na ns.length nc, .slice la l.length lc] w fun e w' => ((∀ q ∈ l, okN ts ns q = true) ∧ e = .returned (.tuple #[.string ⟨(joinU (l.map (nameU ts ns))).toArray⟩, .int .i64 0]) ∨ (∃ q ∈ l, okN ts ns q = false) ∧ e = .returned (.tuple #[.string ⟨#[]⟩, .int .i64 35])) ∧ Below w.heap.size w w' := by
  have HJ : Hid (∀ k, (joinU ((l.take k).map (nameU ts ns))).length ≤ 1099512676352) := join_boundG ts ns l hz hl
  have HN : Hid (∀ w', Below w.heap.size w w' → ∀ (k n : Int) (x : ByteArray) (ok : Bool), nameF ts ns k n = (x, ok) → Calls Try.prog 59 #[.slice ta ts.length tc, .slice na ns.length nc, .agg #[.int .i64 k, .int .i64 n]] w' fun e w'' => e = .returned (.tuple #[.string x, .bool ok]) ∧ Below w'.heap.size w' w'') := fun w' hb k n x ok hx => by
    have := refname_any ta na _ _ tc nc ts ns k n w' rfl rfl (hr1.later hb) (hr2.later hb) (by omega) (by omega)
    rw [hx] at this
    exact this
  have HR : Hid (SymRow w la l) := hr3
  have HZ : Hid (∀ q ∈ l, (nameF ts ns q.1 q.2).1.size ≤ 1048576) := hz
  clear hz hr3 hr1 hr2 h1 h2
  go_enter Try.func16, Try.ntmps16
  go_wp2
  go_loopw [8, 9] (fun sv i wr => ∃ k : Nat, k ≤ l.length ∧ i = .int .i64 k ∧ sv = .string ⟨(joinU ((l.take k).map (nameU ts ns))).toArray⟩ ∧ (∀ q ∈ l.take k, okN ts ns q = true) ∧ Below w.heap.size w wr) (fun _ i _ => l.length - (intOf i).toNat)
  case atStart => exact ⟨0, Nat.zero_le _, rfl, rfl, (fun q hq => by simp at hq), Below.refl _ _⟩
  case round =>
    obtain ⟨k, hk, rfl, rfl, hok', hB'⟩ := hrel
    have hok : Hid _ := hok'
    have hB : Hid _ := hB'
    clear hok' hB'
    by_cases hlt : k < l.length
    · obtain ⟨b, off, rfl, hbl, hc⟩ := (HR.out.later (Nat.le_refl _) hB.out) (by intro e; subst e; simp at hlt)
      obtain ⟨c0, c1⟩ := hc k hlt
      have hmem : Hid (l.getD k (0, 0) ∈ l) := by show _ ∈ _; simp [List.getD, hlt]
      have htk : Hid (l.take (k + 1) = l.take k ++ [l.getD k (0, 0)]) := by show _ = _; rw [List.take_succ_eq_append_getElem hlt]; simp [List.getD, hlt]
      obtain ⟨x, ok, hx'⟩ : ∃ x ok, nameF ts ns (l.getD k (0, 0)).1 (l.getD k (0, 0)).2 = (x, ok) := ⟨_, _, rfl⟩
      have hx : Hid _ := hx'
      have hxs : x.size ≤ 1048576 := by have := HZ.out _ hmem.out; rw [hx'] at this; exact this
      have hxn : Hid (nameU ts ns (l.getD k (0, 0)) = x.data.toList) := by show _ = _; unfold nameU; rw [hx']
      have hxo : Hid (okN ts ns (l.getD k (0, 0)) = ok) := by show _ = _; unfold okN; rw [hx']
      clear hc hx'
      have hjs : Hid (joinU ((l.take (k + 1)).map (nameU ts ns)) = if k = 0 then x.data.toList else joinU ((l.take k).map (nameU ts ns)) ++ [32] ++ x.data.toList) := by
        show _ = _
        rw [htk.out, List.map_append, List.map_cons, List.map_nil, hxn.out, join_step _ _ k (by simp; omega)]
      have hfin : Hid (ok = true → ∀ q ∈ l.take (k + 1), okN ts ns q = true) := fun ho q hq => by
        rw [htk.out] at hq
        rcases List.mem_append.1 hq with r | r
        · exact hok.out q r
        · simp at r; rw [r, ← ho]; exact hxo.out
      have hjl := HJ.out k
      generalize l.getD k (0, 0) = q0 at *
      obtain ⟨q1, q2⟩ := q0
      simp only at c0 c1
      have hnil : Hid (k = 0 → joinU ((l.take k).map (nameU ts ns)) = []) := fun e => by subst e; rfl
      generalize joinU ((l.take k).map (nameU ts ns)) = J at *
      cases ok with
      | false =>
        go_wp2_with (first
          | (go_at_call 59; refine (HN.out _ hB.out q1 q2 x false hx.out).mono ?_; rintro e w3 ⟨rfl, b3⟩; have B3 := hB.out.trans (b3.mono hB.out.size); clear b3))
        go_returns
        exact ⟨.inr ⟨⟨(q1, q2), hmem.out, hxo.out⟩, rfl⟩, B3⟩
      | true =>
        by_cases hk0 : k = 0
        · subst hk0
          simp only [Nat.zero_mul, Nat.add_zero] at c0 c1
          go_wp2_with (first
            | (go_at_call 59; refine (HN.out _ hB.out q1 q2 x true hx.out).mono ?_; rintro e w3 ⟨rfl, b3⟩; have B3 := hB.out.trans (b3.mono hB.out.size); clear b3))
          go_roundw
          case rel =>
            refine ⟨0 + 1, by omega, by go_num, ?_, hfin.out (by simp), B3⟩
            have hj0 := hnil.out (by simp)
            rw [hj0, hjs.out]
            first | rw [if_pos rfl] | rw [if_pos trivial]
            rw [bytes_appR]
            rfl
          case measure => simp [intOf]; omega
        · have hkp : (k : Int) > 0 := by omega
          go_wp2_with (first
            | (go_at_call 59; refine (HN.out _ hB.out q1 q2 x true hx.out).mono ?_; rintro e w3 ⟨rfl, b3⟩; have B3 := hB.out.trans (b3.mono hB.out.size); clear b3))
          go_roundw
          case rel =>
            refine ⟨k + 1, by omega, by go_num, ?_, hfin.out (by simp), B3⟩
            rw [hjs.out, if_neg hk0, show (⟨#[32]⟩ : ByteArray) = ⟨[32].toArray⟩ from rfl, bytes_app, bytes_appR]
          case measure => simp [intOf]; omega
    · obtain rfl : k = l.length := by omega
      have hok2 := hok.out
      rw [List.take_length] at hok2 ⊢
      clear HN HR HZ HJ hok
      go_wp2
      go_returns
      exact ⟨.inl ⟨hok2, rfl⟩, hB.out⟩
end Go.Proofs.Ytndjcbcdjcnniaa
