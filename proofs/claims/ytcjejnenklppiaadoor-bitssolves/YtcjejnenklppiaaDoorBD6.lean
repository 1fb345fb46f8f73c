import Derived.Test.YtcjejnenklppiaaDoorBD5
namespace Go.Proofs.YtcjejnenklppiaaDoor
set_option linter.unusedVariables false
open Go.RowKit Go.Shelf

theorem DgA.law {w w' : World} {n most : Int} {F O : List (List Int)} {E : List (Int × Int)} {e : Ending} (h : DgA w n most F E e w') : DgL w n F O E e w' := by
  obtain ⟨hb, ⟨hc, he⟩ | ⟨_, k, m, b, Ms, V, hO, he, hL⟩⟩ := h
  · exact ⟨hb, .inl ⟨_, hc, he⟩⟩
  · obtain ⟨Ns, Fs, hN, hF, hM⟩ := hO.ex
    refine ⟨hb, .inr ⟨k, b, fun x => nI (bitsU (Ms.getD x 0) m), hO.n, hO.le, ⟨hF.flen, fun x => ?_, fun x hx z hz => sol_own hF hM hx hz, fun p hp => sol_edge hN hO.ok hM hp, fun x p hp => bits_rise _ _ hp, fun hA x hx z hz => sol_least hN hF hM (fun y hy => hA.own y hy) (fun p hp => hA.ed p (by rw [List.take_length]; exact hp)) hx hz⟩, he, fun x hx => ?_⟩⟩
    · rw [nI_len, bitsU_len]
      have := popB_le (Ms.getD x 0) m
      have := hO.mle
      omega
    · obtain ⟨b', off, xa, xc, e1, _, h1, h2⟩ := hL.at (i := x) (by simp; exact hx)
      have e2 : ((List.range k).map fun x => bitsU (Ms.getD x 0) m).getD x [] = bitsU (Ms.getD x 0) m := by simp [List.getD, hx]
      rw [e2] at h1 h2
      simp only [Option.some.injEq, Addr.mk.injEq, and_true] at e1
      obtain ⟨rfl, rfl⟩ := e1
      rw [Nat.zero_add] at h1
      exact ⟨xa, xc, by rw [nI_len]; exact h1, h2⟩
theorem solves_walk {w : World} (hT : TabB w) (n most : Int) (fa : Option Addr) (F : List (List Int)) (hF : LrwB w fa F) (hFl : F.length ≤ 140737488355328 ∧ ∀ l ∈ F, l.length ≤ 140737488355328) (fc : Nat) (ea : Option Addr) (E : List (Int × Int)) (hE : PrsB w ea E) (hEl : E.length ≤ 140737488355328) (ec : Nat) (oa : Option Addr) (O : List (List Int)) (hO : LrwB w oa O) (hOl : O.length ≤ 140737488355328 ∧ ∀ l ∈ O, l.length ≤ 140737488355328) (oc : Nat) :
    Calls Tryd.prog 4 #[.int .i64 n, .int .i64 most, .slice fa F.length fc, .slice ea E.length ec, .slice oa O.length oc] w fun e w' => e = .returned (.bool true) ∧ Below w.heap.size w w' :=
  solves_core n most fa F hF fc ea E hE hEl ec oa O hO hOl.1 hOl.2 hFl.2 oc (alive_SB hT) num_SB (fun w1 b1 => (digraph_any n most w1 fa fc F (hF.later b1) hFl.1 hFl.2 ea ec E (hE.later b1) hEl (hT.later b1)).mono fun _ _ h => h.law)
end Go.Proofs.YtcjejnenklppiaaDoor
