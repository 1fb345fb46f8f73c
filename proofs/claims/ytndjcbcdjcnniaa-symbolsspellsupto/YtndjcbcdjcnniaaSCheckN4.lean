import Derived.Test.YtndjcbcdjcnniaaSCheckN1
namespace Go.Proofs.Ytndjcbcdjcnniaa
set_option linter.unusedVariables false
open Go.RowKit Go.Maps

set_option maxRecDepth 100000 in
set_option maxHeartbeats 2000000 in
theorem cn_good (a1 a2 : Option Addr) (c1 c2 : Nat) (ts ns : List ByteArray) (w : World) (k1 : ¬ (ts.length : Int) > 64) (k2 : ¬ (ns.length : Int) > 64) (at1 at2 : Int) (sn1 sn2 : List ByteArray) (HC1 : Hid (CN1 a1 c1 ts w 0 at1 sn1)) (HC2 : Hid (CN2 a2 c2 ns w sn1 0 at2 sn2)) :
    Calls Try.prog 8 #[.slice a1 ts.length c1, .slice a2 ns.length c2] w fun e w' => ∃ er at_, e = .returned (.tuple #[.int .i64 er, .int .i64 at_]) ∧ er = 0 ∧ at_ = sn2.length ∧ Below w.heap.size w w' := by
  have hmm := @run_makeMap Try.prog
  have H1 : Hid True := trivial
  go_enter Try.func8, Try.ntmps8
  go_wp2_with (first | (go_at_call 34; guard_hyp H1 : Hid True; clear H1; refine Calls.mono HC1.out ?_; rintro e w1 ⟨rfl, H1'⟩; have H1 : Hid _ := H1'; clear H1') | (go_at_call 34; refine Calls.mono (HC2.out _ H1.out) ?_; rintro e w2 ⟨rfl, D2, o2, s2, hb2'⟩; have hb2 : Hid _ := hb2'; clear hb2'; have hz : Hid (Maps.size D2 = sn2.length) := s2.size; clear s2) | (at_len; refine wpList_len_own _ rfl _ 94 rfl 9 141 Try.underlying94 unitElem _ _ D2 rfl o2 ?_))
  go_returns
  exact ⟨_, _, rfl, rfl, by rw [hz.out], hb2.out⟩
end Go.Proofs.Ytndjcbcdjcnniaa
