import Derived.Test.YtgaoahifblifoaaDoorReads2
namespace Go.Proofs.YtgaoahifblifoaaDoor
set_option linter.unusedVariables false
open Go.RowKit

section
variable {r q : Nat} {ro : Option Addr} {N rc : Nat} {qo : Option Addr} {qc : Nat} {xs : List Int} {p0 : Nat} {er : Int}
/-- Text, by both. -/
theorem text_both (hB : isBytes xs) (hpos : p0 ≤ xs.length) (hcap : xs.length ≤ qc) (mo : Int) (hm0 : -9223372036854775808 ≤ mo) (hm1 : mo ≤ 9223372036854775807) :
    ∃ (str : ByteArray) (p : Nat) (e : Int), (∀ w, RInv w r ro N rc xs p0 er → Calls Tryd.prog 32 #[.pointer (some ⟨r, 0, none⟩), .int .i64 mo] w (REnds r ro N rc xs (.string str) p e w)) ∧ (∀ w, QInv w q qo qc xs p0 er → Calls Tryd.prog 68 #[.pointer (some ⟨q, 0, none⟩), .int .i64 mo] w (QEnds q qo qc xs (.string str) p e w)) := by
  by_cases z : er = 0
  · subst z
    by_cases hn : mo < 0
    · have hc : countS xs p0 1 mo = (0, 0, 1) := by rw [countS, if_pos (by omega)]
      exact ⟨.empty, p0, 1, fun w h => rtext_err mo h hm0 hm1 1 hc, fun w h => qtext_neg mo h hn 1 (by simp)⟩
    · obtain ⟨n, s, e, hc⟩ : ∃ n s e, countS xs p0 1 mo = (n, s, e) := ⟨_, _, _, rfl⟩
      have f := countS_facts xs hB p0 hpos 1 mo n s e hc
      by_cases he : e = 0
      · subst he
        obtain ⟨g0, g1, g2, g3, g4, g5, g6, g7⟩ := f.2 rfl
        obtain ⟨n', rfl⟩ := Int.eq_ofNat_of_zero_le (show 0 ≤ n by omega)
        obtain ⟨s', rfl⟩ := Int.eq_ofNat_of_zero_le (show 0 ≤ s by omega)
        refine ⟨toStr ((xs.drop (p0 + s')).take n'), p0 + s' + n', 0, fun w h => ?_, fun w h => qtext_ok mo h hcap (by omega) hm1 n' s' hc⟩
        refine (rtext_ok mo h hm0 hm1 n' s' hc).mono fun x w' ⟨str, hx, hs, hr, ho⟩ => ?_
        have : str = toStr ((xs.drop (p0 + s')).take n') := strBytes_inj (by rw [hs, toStr_bytes _ (isBytes_take (isBytes_drop hB _) _)])
        subst this
        exact ⟨hx, hr, ho⟩
      · obtain ⟨rfl, rfl⟩ := f.1 he
        exact ⟨.empty, p0, e, fun w h => rtext_err mo h hm0 hm1 e hc, fun w h => qtext_err mo h (by omega) hm1 e he hc⟩
  · have zb : (er == 0) = false := by simpa using z
    by_cases hn : mo < 0
    · exact ⟨.empty, p0, er, fun w h => rtext_none mo h zb hm1, fun w h => qtext_neg mo h hn er (by simp [z])⟩
    · exact ⟨.empty, p0, er, fun w h => rtext_none mo h zb hm1, fun w h => qtext_no mo h z (by omega) hm1⟩
/-- Count, by both. -/
theorem count_both (hB : isBytes xs) (hpos : p0 ≤ xs.length) (le mo : Int) (hm0 : -9223372036854775808 ≤ mo) (hm1 : mo ≤ 9223372036854775807) (hl1 : le ≤ 9223372036854775807) :
    ∃ (n : Int) (p : Nat) (e : Int), (∀ w, RInv w r ro N rc xs p0 er → Calls Tryd.prog 69 #[.pointer (some ⟨r, 0, none⟩), .int .i64 le, .int .i64 mo] w (REnds r ro N rc xs (.int .i64 n) p e w)) ∧ (∀ w, QInv w q qo qc xs p0 er → Calls Tryd.prog 70 #[.pointer (some ⟨q, 0, none⟩), .int .i64 le, .int .i64 mo] w (QEnds q qo qc xs (.int .i64 n) p e w)) := by
  by_cases z : er = 0
  · subst z
    by_cases hn : le < 1 ∨ mo < 0
    · have hc : countS xs p0 le mo = (0, 0, 1) := by rw [countS, if_pos hn]
      exact ⟨0, p0, 1, fun w h => count_err le mo h hm0 hm1 hl1 1 hc, fun w h => qcount_args le mo h hn 1 (by simp)⟩
    · obtain ⟨n, s, e, hc⟩ : ∃ n s e, countS xs p0 le mo = (n, s, e) := ⟨_, _, _, rfl⟩
      have f := countS_facts xs hB p0 hpos le mo n s e hc
      by_cases he : e = 0
      · subst he
        obtain ⟨g0, g1, g2, g3, g4, g5, g6, g7⟩ := f.2 rfl
        obtain ⟨s', rfl⟩ := Int.eq_ofNat_of_zero_le (show 0 ≤ s by omega)
        exact ⟨n, p0 + s', 0, fun w h => count_ok le mo h hm0 hm1 hl1 n s' hc, fun w h => by simpa using qcount le mo h (by omega) hl1 (by omega) hm1 n s' 0 hc⟩
      · obtain ⟨rfl, rfl⟩ := f.1 he
        exact ⟨0, p0, e, fun w h => count_err le mo h hm0 hm1 hl1 e hc, fun w h => by simpa using qcount le mo h (by omega) hl1 (by omega) hm1 0 0 e hc⟩
  · have zb : (er == 0) = false := by simpa using z
    by_cases hn : le < 1 ∨ mo < 0
    · exact ⟨0, p0, er, fun w h => count_none le mo h zb hm1 hl1, fun w h => qcount_args le mo h hn er (by simp [z])⟩
    · exact ⟨0, p0, er, fun w h => count_none le mo h zb hm1 hl1, fun w h => qcount_no le mo h z (by omega) (by omega) hm1⟩
/-- Signed, by both. -/
theorem signed_both (hB : isBytes xs) (hpos : p0 ≤ xs.length) (mo : Int) (hm1 : mo ≤ 9223372036854775807) :
    ∃ (n : Int) (p : Nat) (e : Int), (∀ w, RInv w r ro N rc xs p0 er → Calls Tryd.prog 31 #[.pointer (some ⟨r, 0, none⟩), .int .i64 mo] w (REnds r ro N rc xs (.int .i64 n) p e w)) ∧ (∀ w, QInv w q qo qc xs p0 er → Calls Tryd.prog 65 #[.pointer (some ⟨q, 0, none⟩), .int .i64 mo] w (QEnds q qo qc xs (.int .i64 n) p e w)) := by
  by_cases hn : mo < 0
  · exact ⟨0, p0, _, fun w h => rsigned_neg mo h hn _ rfl, fun w h => qsigned_neg mo h hn _ rfl⟩
  · obtain ⟨n, p, e, ht⟩ : ∃ n p e, takeS xs p0 er (foldS mo) = (n, p, e) := ⟨_, _, _, rfl⟩
    have fb := foldS_bd mo (by omega) hm1
    obtain ⟨n0, n1⟩ := takeS_bd hB p0 hpos er (foldS mo) n e p (by omega) ht
    exact ⟨unfoldS n, p, e, fun w h => rsigned_any mo h (by omega) hm1 n p e ht n0 (by omega), fun w h => qsigned mo h (by omega) hm1 n p e ht⟩
end
end Go.Proofs.YtgaoahifblifoaaDoor
