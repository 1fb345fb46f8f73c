import Derived.Test.YtldomigddgaabaaGreatPFFolToFFol7
namespace Go.Proofs.YtldomigddgaabaaGreat
set_option linter.unusedVariables false
set_option maxRecDepth 100000
set_option maxHeartbeats 16000000
open Go.RowKit
def LLx (w : World) (b : Nat) (T : List (List Int)) (k : Nat) : Prop := ∃ C : Array Value, w.heap[b]? = some (.cells C 53 (0, 0)) /\ C.size = T.length /\ (∀ i, i < k -> ∃ a c, C[i]? = some (.slice a (T.getD i []).length c) /\ IL w (.slice a (T.getD i []).length c) (T.getD i []) /\ (∀ j, (Value.slice a (T.getD i []).length c).ownBlock = some j -> b < j)) /\ ∀ i j v u, i < j -> j < k -> C[i]? = some v -> C[j]? = some u -> ∀ z, v.ownBlock = some z -> u.ownBlock ≠ some z
theorem LLx.llk {w : World} {b : Nat} {T : List (List Int)} {k : Nat} (h : LLx w b T k) : LLk w b T k := by
 obtain ⟨C, h1, h2, h3, _⟩ := h
 exact ⟨C, h1, h2, h3⟩
theorem LLx.lt {w : World} {b : Nat} {T : List (List Int)} {k : Nat} (h : LLx w b T k) : b < w.heap.size := h.llk.lt
theorem LLx.free {w : World} {b : Nat} {T : List (List Int)} {k : Nat} (h : LLx w b T k) (i : Nat) : w.frozen? ⟨b, i, none⟩ = false := h.llk.free i
theorem LLx.some {w : World} {b : Nat} {T : List (List Int)} {k : Nat} (h : LLx w b T k) (i : Nat) (hi : i < T.length) : ∃ v, w.cell? ⟨b, i, none⟩ = .some v := h.llk.some i hi
theorem LLx.later {w w' : World} {b : Nat} {T : List (List Int)} {k : Nat} (h : LLx w b T k) (hb : Below w.heap.size w w') : LLx w' b T k := by
 have hl := h.lt
 obtain ⟨C, h1, h2, h3, h4⟩ := h
 refine ⟨C, (hb.block _ hl).trans h1, h2, fun i hi => ?_, h4⟩
 obtain ⟨a, c, q1, q2, q3⟩ := h3 i hi
 exact ⟨a, c, q1, q2.later hb, q3⟩
theorem LLx.made (w : World) (T : List (List Int)) : LLx (w.alloc (.cells (madeCells #[.slice none 0 0] T.length) 53)) w.heap.size T 0 := ⟨_, heap_alloc_new _ _, by simp [madeCells], fun i hi => absurd hi (Nat.not_lt_zero i), fun i j _ _ _ hj => absurd hj (Nat.not_lt_zero j)⟩
theorem LLx.put {w w2 : World} {b : Nat} {T : List (List Int)} {k : Nat} (h : LLx w b T k) (hb : Below w.heap.size w w2) (hk : k < T.length) {a : Option Addr} {c : Nat} (hI : IL w2 (.slice a (T.getD k []).length c) (T.getD k [])) (hn : ∀ j, (Value.slice a (T.getD k []).length c).ownBlock = .some j -> w.heap.size <= j) :
  LLx (w2.setCell ⟨b, k, none⟩ (.slice a (T.getD k []).length c)) b T (k + 1) := by
 have hl := h.lt
 obtain ⟨C, h1, h2, h3, h4⟩ := h
 have h1' : w2.heap[b]? = .some (.cells C 53 (0, 0)) := (hb.block _ hl).trans h1
 have hkeep : ∀ {v : Value} {l : List Int}, IL w2 v l -> (∀ j, v.ownBlock = .some j -> b < j) -> IL (w2.setCell ⟨b, k, none⟩ (.slice a (T.getD k []).length c)) v l := fun hI hj => hI.kept fun j e => Below.heap_setCell w2 ⟨b, k, none⟩ _ _ (show j ≠ b by have := hj j e; omega)
 have hnb : ∀ j, (Value.slice a (T.getD k []).length c).ownBlock = .some j -> b < j := fun j e => Nat.lt_of_lt_of_le hl (hn j e)
 refine ⟨_, heap_set h1' k _, by simpa using h2, fun i hi => ?_, fun i j v u hij hj hv hu z hz => ?_⟩
 ·by_cases e : i = k
  ·subst e
   exact ⟨a, c, by simp [show i < C.size by omega], hkeep hI hnb, hnb⟩
  ·obtain ⟨a', c', q1, q2, q3⟩ := h3 i (by omega)
   exact ⟨a', c', by rw [Array.getElem?_setIfInBounds]; simp [show ¬ k = i by omega, q1], hkeep (q2.later hb) q3, q3⟩
 ·have hik : i < k := by omega
  rw [Array.getElem?_setIfInBounds, if_neg (by omega)] at hv
  by_cases e : j = k
  ·subst e
   rw [Array.getElem?_setIfInBounds, if_pos rfl, if_pos (by omega)] at hu
   cases hu
   obtain ⟨a', c', q1, q2, _⟩ := h3 i hik
   rw [q1] at hv
   cases hv
   have := q2.lt z hz
   intro e2
   have := hn z e2
   omega
  ·rw [Array.getElem?_setIfInBounds, if_neg (by omega)] at hu
   exact h4 i j v u hij (by omega) hv hu z hz
theorem listsOfX_S (fb c : Nat) (F : List BS) (w : World) (hF : SBk w fb F) (hn : F.length <= 1048576) (hok : ∀ i, OkS (F.getD i (0, 0))) :
  Calls Tryz.prog 21 #[.slice (some ⟨fb, 0, none⟩) F.length c] w fun e w' => ∃ b, e = .returned (.slice (some ⟨b, 0, none⟩) F.length F.length) /\ LLx w' b (listsU F) F.length /\ w.heap.size <= b /\ Below w.heap.size w w' := by
 have hmk := make_intsF F.length hn
 have HL : Hid (∀ w', Below w.heap.size w w' -> SBk w' fb F) := fun w' hb => hF.later hb
 have HOK : Hid (∀ i, OkS (F.getD i (0, 0))) := hok
 have HTL : Hid ((listsU F).length = F.length) := by simp [listsU, Hid]
 have HTG : Hid (∀ k, k < F.length -> (listsU F).getD k [] = listS (F.getD k (0, 0)) 128) := fun k hk => by simp [listsU, List.getD, hk]
 have S0 : Hid (LLx (w.alloc (.cells (madeCells #[.slice none 0 0] F.length) 53)) w.heap.size (listsU F) 0) := by
  have := LLx.made w (listsU F)
  rwa [HTL.out] at this
 generalize listsU F = T at *
 clear hF hok
 go_enter Tryz.func21, Tryz.ntmps21
 go_wp2
 go_loopw [10] (fun z wr => ∃ k : Nat, k <= F.length /\ z = .int .i64 k /\ LLx wr w.heap.size T k /\ Below w.heap.size w wr) (fun z _ => F.length - (intOf z).toNat)
 case atStart => exact ⟨0, Nat.zero_le _, rfl, S0.out, below_alloc _ _⟩
 case round =>
  clear S0 hmk
  obtain ⟨k, hk, rfl, hS, hB⟩ := hrel
  have H : Hid (LLx wr w.heap.size T k /\ Below w.heap.size w wr) := ⟨hS, hB⟩
  by_cases hlt : k < F.length
  ·have klt : (k : Int) < (F.length : Int) := by omega
   obtain ⟨y0, y1⟩ := (HL.out wr hB).cell hlt
   have SC : Hid (Calls Tryz.prog 31 #[sv (F.getD k (0, 0))] wr fun e w' => ∃ a c, e = .returned (.slice a (T.getD k []).length c) /\ IL w' (.slice a (T.getD k []).length c) (T.getD k []) /\ (∀ j, (Value.slice a (T.getD k []).length c).ownBlock = some j -> wr.heap.size <= j) /\ Below wr.heap.size wr w') := by
    have := list_S (F.getD k (0, 0)) (HOK.out k) wr
    rwa [<- HTG.out k hlt] at this
   generalize F.getD k (0, 0) = s at *
   obtain ⟨s1, s2⟩ := s
   clear hS hB
   go_wp2_with (go_at_call 31; refine SC.out.mono ?_; rintro e w2 ⟨la, lc, rfl, i2, j2, b2⟩; have S2 : Hid (LLx w2 w.heap.size T k /\ Below w.heap.size w w2 /\ LLx (w2.setCell ⟨w.heap.size, k, none⟩ (.slice la (T.getD k []).length lc)) w.heap.size T (k + 1)) := ⟨H.out.1.later b2, H.out.2.trans (b2.mono H.out.2.size), H.out.1.put b2 (by rw [HTL.out]; exact hlt) i2 j2⟩; obtain ⟨v0, y2⟩ := S2.out.1.some k (by rw [HTL.out]; exact hlt); have f0 := S2.out.1.free k; have hz := S2.out.1.lt; clear i2 j2 b2)
   go_roundw
   case rel =>
    refine ⟨k + 1, by omega, by go_num, ?_, ?_⟩
    ·exact S2.out.2.2
    ·exact S2.out.2.1.setCell (p := ⟨w.heap.size, k, none⟩) (Nat.le_refl _) _
   case measure => simp [intOf]; omega
  ·obtain rfl : k = F.length := by omega
   clear hS hB
   go_wp2
   go_ret
   exact ⟨w.heap.size, rfl, H.out.1, Nat.le_refl _, H.out.2⟩
end Go.Proofs.YtldomigddgaabaaGreat
