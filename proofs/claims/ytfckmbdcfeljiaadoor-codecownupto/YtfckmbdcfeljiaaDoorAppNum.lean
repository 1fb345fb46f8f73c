import Derived.Test.YtfckmbdcfeljiaaDoorOwn
namespace Go.Proofs.YtfckmbdcfeljiaaDoor
set_option linter.unusedVariables false
open Go.RowKit

/-- The bytes of a number: sevens of bits, the lowest first; fuel: ten suffice for 64 bits. -/
def enc : Nat → Int → List Int
  | 0, _ => []
  | f + 1, n => if 128 ≤ n then (n % 128 + 128) :: enc f (n / 128) else [n]
theorem enc_bytes (f : Nat) (n : Int) (h : 0 ≤ n) : isBytes (enc f n) := by
  induction f generalizing n with
  | zero => exact isBytes_nil
  | succ f ih =>
    unfold enc
    split
    · intro x hx
      rcases List.mem_cons.1 hx with rfl | hx
      · omega
      · exact ih _ (by omega) x hx
    · intro x hx; simp at hx; omega
theorem enc_len (f : Nat) (n : Int) : (enc f n).length ≤ f := by
  induction f generalizing n with
  | zero => simp [enc]
  | succ f ih =>
    unfold enc
    split
    · have := ih (n / 128); simp; omega
    · simp
theorem orMore (n : Int) (h0 : 0 ≤ n) (h1 : n < 256) : bits .or .u8 n 128 = n % 128 + 128 := by
  rw [u8_or n 128 h0 h1 (by decide) (by decide)]
  have e : n.toNat ||| 128 = n.toNat % 128 + 128 := by
    have h : ∀ m : Nat, m < 256 → m ||| 128 = m % 128 + 128 := by decide +kernel
    exact h n.toNat (by omega)
  show ((n.toNat ||| 128 : Nat) : Int) = _
  rw [e]; omega

theorem enc_step (f : Nat) (m : Int) (h : 128 ≤ m) : enc (f + 1) m = (m % 128 + 128) :: enc f (m / 128) := by rw [enc, if_pos h]
theorem enc_last (f : Nat) (m : Int) (h : m < 128) : enc (f + 1) m = [m] := by rw [enc, if_neg (by omega)]

set_option maxRecDepth 100000 in
set_option maxHeartbeats 1000000 in
theorem appnum_any (v : Value) (ys : List Int) (n : Int) (w : World) (h0 : 0 ≤ n) (h1 : n ≤ 18446744073709551615) (hl : ys.length ≤ 140737488355300) (hown : Own w v ys) :
    Calls Tryd.prog 25 #[v, .int .u64 n] w fun e w' => ∃ g N c, e = .returned (.slice (some ⟨g, 0, none⟩) N c) ∧ Own w' (.slice (some ⟨g, 0, none⟩) N c) (ys ++ enc 10 n) ∧ Grew w w' v (.slice (some ⟨g, 0, none⟩) N c) := by
  go_enter Tryd.func25, Tryd.ntmps25
  go_wp2
  go_loopw [0, 1] (fun s t wr => ∃ (zs : List Int) (m : Int) (f : Nat), t = .int .u64 m ∧ 0 ≤ m ∧ m < 128 ^ (f + 1) ∧ m ≤ 18446744073709551615 ∧ f ≤ 9 ∧ zs.length + f = 9 ∧ zs ++ enc (f + 1) m = enc 10 n ∧ Own wr s (ys ++ zs) ∧ Grew w wr v s)
    (fun _ t _ => (intOf t).toNat)
  case atStart => exact ⟨[], n, 9, rfl, h0, by omega, h1, by omega, rfl, rfl, by simpa using hown, Grew.refl _ _⟩
  case round =>
    obtain ⟨zs, m, f, rfl, hm0, hmf, hm1, hf, hzl, henc, ho, hg⟩ := hrel
    by_cases hbig : 128 ≤ m
    · have HE : Hid (enc (f + 1) m = (m % 128 + 128) :: enc f (m / 128)) := enc_step f m hbig
      obtain ⟨f, rfl⟩ : ∃ f', f = f' + 1 := ⟨f - 1, by rcases f with _ | f <;> omega⟩
      have hmf' : m / 128 < 128 ^ (f + 1) := by rw [Int.pow_succ] at hmf; omega
      clear hmf
      have HO : Hid (bits .or .u8 (m % 256) 128 = m % 256 % 128 + 128) := orMore _ (by omega) (by omega)
      go_wp2_with (at_builtin; refine wpList_own_append rfl (.tmp 7) (.tmp 11) rfl _ _ rfl (ho.alloc _) (some ⟨wr.heap.size, 0, none⟩) 1 [bits .or .u8 (m % 256) 128] rfl ?hr no_nil ?hl ?_)
      case hr => exact rowAt_one _ _ _ (by rw [HO.out]; omega) (by rw [HO.out]; omega)
      case hl => (try simp); omega
      intro v1 w1 ho1 hg1 hn1
      go_wp2
      go_roundw
      case rel =>
        refine ⟨zs ++ [m % 128 + 128], m / 128, f, by go_num, by omega, hmf', by omega, by omega, by simp; omega, by rw [← henc, HE.out]; simp, ?_, hg.trans (((Grew.refl _ _).alloc _).trans hg1)⟩
        rw [HO.out] at ho1
        have e : m % 256 % 128 = m % 128 := by omega
        rw [e] at ho1
        simpa using ho1
      case measure => simp [intOf]; omega
    · have HE : Hid (enc (f + 1) m = [m]) := enc_last f m (by omega)
      go_wp2_with (at_builtin; refine wpList_own_append rfl (.tmp 15) (.tmp 18) rfl _ _ rfl (ho.alloc _) (some ⟨wr.heap.size, 0, none⟩) 1 [m] rfl ?hr no_nil ?hl ?_)
      case hr => exact rowAt_one _ _ _ (by omega) (by omega)
      case hl => (try simp); omega
      intro v1 w1 ho1 hg1 hn1
      go_wp2
      go_ret
      obtain ⟨g, N, c, rfl⟩ := own_shape ho1 (fun h => by first | exact hn1 h | (have := hn1.1 h; simp at this))
      refine ⟨g, N, c, rfl, ?_, hg.trans (((Grew.refl _ _).alloc _).trans hg1)⟩
      rw [← henc, HE.out]
      simpa using ho1
end Go.Proofs.YtfckmbdcfeljiaaDoor
