import Derived.Test.YtcjejnenklppiaaDoorBS10
import Derived.Test.YtcjejnenklppiaaDoorBSmk
import Derived.Test.YtcjejnenklppiaaDoorBS5
import Derived.Deep.DeepCutAuto
import Derived.RegionTactic
import Derived.BigRegion
namespace Go.Proofs.YtcjejnenklppiaaDoor
set_option linter.unusedVariables false
open Go.RowKit Go.Shelf

theorem bmModel : ∃ i, Tryd.prog.info? 32 = some i ∧ i.size = 1 := by
  have h : (Tryd.prog.info? 32).map (fun i => i.size) = some 1 := by kernel_rfl
  cases e : Tryd.prog.info? 32 with
  | none => rw [e] at h; cases h
  | some i => rw [e] at h; simp at h; exact ⟨i, rfl, h⟩
set_option maxRecDepth 1000000 in
set_option maxHeartbeats 32000000 in
theorem sets_ok {w : World} (m n : Nat) (hm : m ≤ 4096) (hn : n ≤ 4096) (la : Option Addr) (lc : Nat) (L : List (Int × Int × Int)) (hL : StpB w la L) (hLl : L.length ≤ 140737488355328) (hT : TabB w) : Calls Tryd.prog 3 #[.int .i64 (m : Int), .int .i64 (n : Int), .slice la L.length lc] w fun e w' => e = .returned (.bool true) ∧ Below w.heap.size w w' := by
  have CM : Hid (∀ w1 : World, Calls Tryd.prog 5 #[.int .i64 (m : Int)] w1 fun e w' => e = .returned (.tuple #[.pointer (some ⟨w1.heap.size + 1, 0, none⟩), .int .i64 0]) ∧ SB w' w1.heap.size m 0 ∧ Below w1.heap.size w1 w') := fun w1 => newset_SB m hm w1
  have CN : Hid (∀ w1 : World, Calls Tryd.prog 5 #[.int .i64 (n : Int)] w1 fun e w' => e = .returned (.tuple #[.pointer (some ⟨w1.heap.size + 1, 0, none⟩), .int .i64 0]) ∧ SB w' w1.heap.size n 0 ∧ Below w1.heap.size w1 w') := fun w1 => newset_SB n hn w1
  have NU : Hid (∀ (e : Int) (w : World), Calls Tryd.prog 6 #[.int .i64 e] w fun x w' => x = .returned (.int .i64 e) ∧ w' = w) := num_SB
  have mkM := make_boolB m (by omega)
  have mkN := make_boolB n (by omega)
  have HL : Hid (StpB w la L) := hL
  have HT : Hid (TabB w) := hT
  clear hL hT
  have hm0 : (0 : Int) ≤ (m : Int) := by omega
  have hm1 : (m : Int) ≤ 4096 := by omega
  have hn0 : (0 : Int) ≤ (n : Int) := by omega
  have hn1 : (n : Int) ≤ 4096 := by omega
  go_enter Tryd.func3, Tryd.ntmps3
  go_wp2_with (go_at_call 5; refine (CM.out _).mono ?_; rintro e w1 ⟨rfl, s1, b1⟩; have B1 : Hid (SB w1 w.heap.size m 0 ∧ Below w.heap.size w w1) := ⟨s1, b1⟩; clear s1 b1 CM)
  go_wp2_with (first
    | (go_at_call 5; refine (CN.out _).mono ?_; rintro e w2 ⟨rfl, s2, b2⟩; have B2 : Hid (SB w2 w1.heap.size n 0 ∧ Below w1.heap.size w1 w2) := ⟨s2, b2⟩; clear s2 b2)
    | (go_at_call 6; refine (NU.out _ _).mono ?_; rintro e wz ⟨rfl, hz⟩; rw [hz]; clear hz wz))
  go_cut [12] (fun s wx => ∃ km kb0 kh0 kb1 kh1 : Nat, s = .slice (some ⟨km, 0, none⟩) 2 2 ∧ TwB w w2.heap.size km (fun c => if c = 0 then w.heap.size else w1.heap.size) (fun c => if c = 0 then kb0 else kb1) (fun c => if c = 0 then kh0 else kh1) (fun c => if c = 0 then m else n) (fun _ => 0) (fun _ => 0) wx)
  case first =>
    refine sets_mkQ m n hm hn _ _ _ _ _ _ _ _ _ _ _ _ _ _ _ _ _ _ _ _ _ _ _ _ _ _ _ _ _ _ _ _ _ _ _ _ _ _ _ _ _ _ _ _ _ _ _ _ _ _ _ _ _ _ _ _ _ _ _ _ _ _ _ _ _ _ _ _ _ _ _ _ _ _ _ _ _ _ _ _ _ _ _ _ _ _ _ _ _ _ _ _ _ _ _ _ _ _ _ _ _ _ _ _ _ _ _ _ _ _ _ _ _ _ _ _ _ _ _ _ _ _ _ _ _ _ _ _ _ _ _ _ _ _ _ _ _ _ _ _ _ _ _ _ _ _ _ _ _ _ _ _ _ _ _ _ _ _ _ _ _ _ _ _ _ _ _ _ _ _ _ _ _ _ _ _ _ _ _ _ _ _ _ _ _ _ _ _ _ _ _ _ _ _ _ _ _ _ _ _ _ _ _ _ _ _ _ _ _ _ _ _ _ _ _ _ _ _ _ _ _ _ _ _ _ _ _ _ _ _ _ _ _ _ _ _ _ _ _ _ _ _ _ _ _ _ _ _ _ _ _ _ _ _ _ _ _ _ _ _ _ _ _ _ _ _ _ _ _ _ _ _ _ _ _ _ _ _ _ _ _ _ _ _ _ _ _ _ _ _ _ _ _ _ _ _ _ _ _ _ _ _ _ _ _ _ _ _ _ _ _ _ _ _ _ _ _ _ _ _ _ _ _ _ _ _ _ _ _ _ _ _ _ _ _ _ _ ?_
    intro km kb0 kh0 kb1 kh1 x99 x100 x101 x102 x103 x104 x105 x106 x107 wx hK
    go_wp2_with fail
    go_meet
    have hS : wx.heap[w2.heap.size]? = some (.cells #[.pointer (some ⟨w.heap.size + 1, 0, none⟩), .pointer (some ⟨w1.heap.size + 1, 0, none⟩)] 23) := (hK.bel.block _ (by simp)).trans (heap_alloc_new w2 _)
    have hb2 : Below w2.heap.size w2 wx := (below_alloc w2 _).trans (hK.bel.mono (below_alloc w2 _).size)
    have z2 := (below_alloc w2 (.cells #[.pointer (some ⟨w.heap.size + 1, 0, none⟩), .pointer (some ⟨w1.heap.size + 1, 0, none⟩)] 23)).size
    exact ⟨km, kb0, kh0, kb1, kh1, rfl, TwB.start B1.out.1 B1.out.2 B2.out.1 B2.out.2 hb2 hS hK.hk hK.hb0 hK.hh0 hK.hb1 hK.hh1 hK.ne (Nat.le_trans z2 hK.g0) (Nat.le_trans z2 hK.g1)⟩
  case rest =>
    obtain ⟨km, kb0, kh0, kb1, kh1, rfl, t0⟩ := hcut
    have BW : Hid (w.heap.size ≤ w2.heap.size) := Nat.le_trans B1.out.2.size B2.out.2.size
    clear B1 B2 CN NU mkM mkN
    have T0 : Hid (TwB w w2.heap.size km (fun c : Nat => if c = 0 then w.heap.size else w1.heap.size) (fun c : Nat => if c = 0 then kb0 else kb1) (fun c : Nat => if c = 0 then kh0 else kh1) (fun c : Nat => if c = 0 then m else n) (fun _ : Nat => (0 : Nat)) (fun _ : Nat => (0 : Nat)) wc) := t0
    clear t0
    have AL : Hid (∀ wr, Below w.heap.size w wr → Calls Tryd.prog 22 #[] wr fun e w' => e = .returned (.bool true) ∧ Below wr.heap.size wr w') := fun wr b => alive_SB (HT.out.later b)
    go_wp2
    refine sets_loop (w := w) m n la lc L w2.heap.size km (fun c : Nat => if c = 0 then kb0 else kb1) (fun c : Nat => if c = 0 then kh0 else kh1) (fun c : Nat => if c = 0 then m else n) hLl HL HT _ _ _ _ _ _ _ _ _ _ _ _ _ _ _ _ _ _ _ _ _ _ _ _ _ _ _ _ _ _ _ _ _ _ _ _ _ _ _ _ _ _ _ _ _ _ _ _ _ _ _ _ _ _ _ _ _ _ _ _ _ _ _ _ _ _ _ _ _ _ _ _ _ _ _ _ _ _ _ _ _ _ _ _ _ _ _ _ _ _ _ _ _ _ _ _ _ _ _ _ _ _ _ _ _ _ _ _ _ _ _ _ _ _ _ _ _ _ _ _ _ _ _ _ _ _ _ _ _ _ _ _ _ _ _ _ _ _ _ _ _ _ _ _ _ _ _ _ _ _ _ _ _ _ _ _ _ _ _ _ _ _ _ _ _ _ _ _ _ _ _ _ _ _ _ _ _ _ _ _ _ _ _ _ _ _ _ _ _ _ _ _ _ _ _ _ _ _ _ _ _ _ _ _ _ _ _ _ _ _ _ _ _ _ _ _ _ _ _ _ _ _ _ _ _ _ _ _ _ _ _ _ _ _ _ _ _ _ _ _ _ _ _ _ _ _ _ _ _ _ _ _ _ _ _ _ _ _ _ _ _ _ _ _ _ _ _ _ _ _ _ _ _ _ _ _ _ _ _ _ _ _ _ _ _ _ _ _ _ _ _ _ _ _ _ _ _ _ _ _ _ _ _ _ _ _ _ _ _ _ _ _ _ _ _ _ _ _ _ _ _ _ _ _ _ _ _ _ _ _ _ (fun c : Nat => if c = 0 then w.heap.size else w1.heap.size) (fun _ : Nat => (0 : Nat)) _ T0.out _ (fun _ _ d _ _ h => by cases d <;> exact h) ?_
    intro a' w'' hX
    unfold WXS at hX
    obtain ⟨u14, hX⟩ := hX
    obtain ⟨u15, hX⟩ := hX
    obtain ⟨u16, hX⟩ := hX
    obtain ⟨u17, hX⟩ := hX
    obtain ⟨u18, hX⟩ := hX
    obtain ⟨u19, hX⟩ := hX
    obtain ⟨u20, hX⟩ := hX
    obtain ⟨u21, hX⟩ := hX
    obtain ⟨u22, hX⟩ := hX
    obtain ⟨u23, hX⟩ := hX
    obtain ⟨u108, hX⟩ := hX
    obtain ⟨u109, hX⟩ := hX
    obtain ⟨u110, hX⟩ := hX
    obtain ⟨u111, hX⟩ := hX
    obtain ⟨u112, hX⟩ := hX
    obtain ⟨u113, hX⟩ := hX
    obtain ⟨u114, hX⟩ := hX
    obtain ⟨u115, hX⟩ := hX
    obtain ⟨u116, hX⟩ := hX
    obtain ⟨u117, hX⟩ := hX
    obtain ⟨u118, hX⟩ := hX
    obtain ⟨u119, hX⟩ := hX
    obtain ⟨u120, hX⟩ := hX
    obtain ⟨u121, hX⟩ := hX
    obtain ⟨u122, hX⟩ := hX
    obtain ⟨u123, hX⟩ := hX
    obtain ⟨u124, hX⟩ := hX
    obtain ⟨u125, hX⟩ := hX
    obtain ⟨u126, hX⟩ := hX
    obtain ⟨u127, hX⟩ := hX
    obtain ⟨u128, hX⟩ := hX
    obtain ⟨u129, hX⟩ := hX
    obtain ⟨u130, hX⟩ := hX
    obtain ⟨u131, hX⟩ := hX
    obtain ⟨u132, hX⟩ := hX
    obtain ⟨u133, hX⟩ := hX
    obtain ⟨u134, hX⟩ := hX
    obtain ⟨u135, hX⟩ := hX
    obtain ⟨u136, hX⟩ := hX
    obtain ⟨u137, hX⟩ := hX
    obtain ⟨u138, hX⟩ := hX
    obtain ⟨u139, hX⟩ := hX
    obtain ⟨u140, hX⟩ := hX
    obtain ⟨u141, hX⟩ := hX
    obtain ⟨u142, hX⟩ := hX
    obtain ⟨u143, hX⟩ := hX
    obtain ⟨u144, hX⟩ := hX
    obtain ⟨u145, hX⟩ := hX
    obtain ⟨u146, hX⟩ := hX
    obtain ⟨u147, hX⟩ := hX
    obtain ⟨u148, hX⟩ := hX
    obtain ⟨u149, hX⟩ := hX
    obtain ⟨u150, hX⟩ := hX
    obtain ⟨u151, hX⟩ := hX
    obtain ⟨u152, hX⟩ := hX
    obtain ⟨u153, hX⟩ := hX
    obtain ⟨u154, hX⟩ := hX
    obtain ⟨u155, hX⟩ := hX
    obtain ⟨u156, hX⟩ := hX
    obtain ⟨u157, hX⟩ := hX
    obtain ⟨u158, hX⟩ := hX
    obtain ⟨u159, hX⟩ := hX
    obtain ⟨u160, hX⟩ := hX
    obtain ⟨u161, hX⟩ := hX
    obtain ⟨u162, hX⟩ := hX
    obtain ⟨u163, hX⟩ := hX
    obtain ⟨u164, hX⟩ := hX
    obtain ⟨u165, hX⟩ := hX
    obtain ⟨u166, hX⟩ := hX
    obtain ⟨u167, hX⟩ := hX
    obtain ⟨u168, hX⟩ := hX
    obtain ⟨u169, hX⟩ := hX
    obtain ⟨u170, hX⟩ := hX
    obtain ⟨u171, hX⟩ := hX
    obtain ⟨u172, hX⟩ := hX
    obtain ⟨u173, hX⟩ := hX
    obtain ⟨u174, hX⟩ := hX
    obtain ⟨u175, hX⟩ := hX
    obtain ⟨u176, hX⟩ := hX
    obtain ⟨u177, hX⟩ := hX
    obtain ⟨u178, hX⟩ := hX
    obtain ⟨u179, hX⟩ := hX
    obtain ⟨u180, hX⟩ := hX
    obtain ⟨u181, hX⟩ := hX
    obtain ⟨u182, hX⟩ := hX
    obtain ⟨u183, hX⟩ := hX
    obtain ⟨u184, hX⟩ := hX
    obtain ⟨u185, hX⟩ := hX
    obtain ⟨u186, hX⟩ := hX
    obtain ⟨u187, hX⟩ := hX
    obtain ⟨u188, hX⟩ := hX
    obtain ⟨u189, hX⟩ := hX
    obtain ⟨u190, hX⟩ := hX
    obtain ⟨u191, hX⟩ := hX
    obtain ⟨u192, hX⟩ := hX
    obtain ⟨u193, hX⟩ := hX
    obtain ⟨u194, hX⟩ := hX
    obtain ⟨u195, hX⟩ := hX
    obtain ⟨u196, hX⟩ := hX
    obtain ⟨u197, hX⟩ := hX
    obtain ⟨u198, hX⟩ := hX
    obtain ⟨u199, hX⟩ := hX
    obtain ⟨u200, hX⟩ := hX
    obtain ⟨u201, hX⟩ := hX
    obtain ⟨u202, hX⟩ := hX
    obtain ⟨u203, hX⟩ := hX
    obtain ⟨u204, hX⟩ := hX
    obtain ⟨u205, hX⟩ := hX
    obtain ⟨u206, hX⟩ := hX
    obtain ⟨u207, hX⟩ := hX
    obtain ⟨u208, hX⟩ := hX
    obtain ⟨u209, hX⟩ := hX
    obtain ⟨u210, hX⟩ := hX
    obtain ⟨u211, hX⟩ := hX
    obtain ⟨u212, hX⟩ := hX
    obtain ⟨u213, hX⟩ := hX
    obtain ⟨u214, hX⟩ := hX
    obtain ⟨u215, hX⟩ := hX
    obtain ⟨u216, hX⟩ := hX
    obtain ⟨u217, hX⟩ := hX
    obtain ⟨u218, hX⟩ := hX
    obtain ⟨u219, hX⟩ := hX
    obtain ⟨u220, hX⟩ := hX
    obtain ⟨u221, hX⟩ := hX
    obtain ⟨u222, hX⟩ := hX
    obtain ⟨u223, hX⟩ := hX
    obtain ⟨u224, hX⟩ := hX
    obtain ⟨u225, hX⟩ := hX
    obtain ⟨u226, hX⟩ := hX
    obtain ⟨u227, hX⟩ := hX
    obtain ⟨u228, hX⟩ := hX
    obtain ⟨u229, hX⟩ := hX
    obtain ⟨u230, hX⟩ := hX
    obtain ⟨u231, hX⟩ := hX
    obtain ⟨u232, hX⟩ := hX
    obtain ⟨u233, hX⟩ := hX
    obtain ⟨u234, hX⟩ := hX
    obtain ⟨u235, hX⟩ := hX
    obtain ⟨u236, hX⟩ := hX
    obtain ⟨u237, hX⟩ := hX
    obtain ⟨u238, hX⟩ := hX
    obtain ⟨u239, hX⟩ := hX
    obtain ⟨u240, hX⟩ := hX
    obtain ⟨u241, hX⟩ := hX
    obtain ⟨u242, hX⟩ := hX
    obtain ⟨u243, hX⟩ := hX
    obtain ⟨u244, hX⟩ := hX
    obtain ⟨u245, hX⟩ := hX
    obtain ⟨u246, hX⟩ := hX
    obtain ⟨u247, hX⟩ := hX
    obtain ⟨u248, hX⟩ := hX
    obtain ⟨u249, hX⟩ := hX
    obtain ⟨u250, hX⟩ := hX
    obtain ⟨u251, hX⟩ := hX
    obtain ⟨u252, hX⟩ := hX
    obtain ⟨u253, hX⟩ := hX
    obtain ⟨u254, hX⟩ := hX
    obtain ⟨u255, hX⟩ := hX
    obtain ⟨u256, hX⟩ := hX
    obtain ⟨u257, hX⟩ := hX
    obtain ⟨u258, hX⟩ := hX
    obtain ⟨u259, hX⟩ := hX
    obtain ⟨u260, hX⟩ := hX
    obtain ⟨u261, hX⟩ := hX
    obtain ⟨u262, hX⟩ := hX
    obtain ⟨u263, hX⟩ := hX
    obtain ⟨u264, hX⟩ := hX
    obtain ⟨u265, hX⟩ := hX
    obtain ⟨u266, hX⟩ := hX
    obtain ⟨u267, hX⟩ := hX
    obtain ⟨u268, hX⟩ := hX
    obtain ⟨u269, hX⟩ := hX
    obtain ⟨u270, hX⟩ := hX
    obtain ⟨u271, hX⟩ := hX
    obtain ⟨u272, hX⟩ := hX
    obtain ⟨u273, hX⟩ := hX
    obtain ⟨u274, hX⟩ := hX
    obtain ⟨u275, hX⟩ := hX
    obtain ⟨u276, hX⟩ := hX
    obtain ⟨u277, hX⟩ := hX
    obtain ⟨u278, hX⟩ := hX
    obtain ⟨u279, hX⟩ := hX
    obtain ⟨u280, hX⟩ := hX
    obtain ⟨u281, hX⟩ := hX
    obtain ⟨u282, hX⟩ := hX
    obtain ⟨u283, hX⟩ := hX
    obtain ⟨u284, hX⟩ := hX
    obtain ⟨u285, hX⟩ := hX
    obtain ⟨u286, hX⟩ := hX
    obtain ⟨u287, hX⟩ := hX
    obtain ⟨u288, hX⟩ := hX
    obtain ⟨u289, hX⟩ := hX
    obtain ⟨u290, hX⟩ := hX
    obtain ⟨u291, hX⟩ := hX
    obtain ⟨u292, hX⟩ := hX
    obtain ⟨u293, hX⟩ := hX
    obtain ⟨u294, hX⟩ := hX
    obtain ⟨u295, hX⟩ := hX
    obtain ⟨u296, hX⟩ := hX
    obtain ⟨u297, hX⟩ := hX
    obtain ⟨u298, hX⟩ := hX
    obtain ⟨u299, hX⟩ := hX
    obtain ⟨u300, hX⟩ := hX
    obtain ⟨u301, hX⟩ := hX
    obtain ⟨u302, hX⟩ := hX
    obtain ⟨u303, hX⟩ := hX
    obtain ⟨u304, hX⟩ := hX
    obtain ⟨u305, hX⟩ := hX
    obtain ⟨u306, hX⟩ := hX
    obtain ⟨u307, hX⟩ := hX
    obtain ⟨u308, hX⟩ := hX
    obtain ⟨u309, hX⟩ := hX
    obtain ⟨u310, hX⟩ := hX
    obtain ⟨u311, hX⟩ := hX
    obtain ⟨u312, hX⟩ := hX
    obtain ⟨u313, hX⟩ := hX
    obtain ⟨u314, hX⟩ := hX
    obtain ⟨u315, hX⟩ := hX
    obtain ⟨u316, hX⟩ := hX
    obtain ⟨u317, hX⟩ := hX
    obtain ⟨u318, hX⟩ := hX
    obtain ⟨u319, hX⟩ := hX
    obtain ⟨u320, hX⟩ := hX
    obtain ⟨u321, hX⟩ := hX
    obtain ⟨u322, hX⟩ := hX
    obtain ⟨u323, hX⟩ := hX
    obtain ⟨u324, hX⟩ := hX
    obtain ⟨u325, hX⟩ := hX
    obtain ⟨u326, hX⟩ := hX
    obtain ⟨u327, hX⟩ := hX
    obtain ⟨u328, hX⟩ := hX
    obtain ⟨u329, hX⟩ := hX
    obtain ⟨u330, hX⟩ := hX
    obtain ⟨u331, hX⟩ := hX
    obtain ⟨u332, hX⟩ := hX
    obtain ⟨u333, hX⟩ := hX
    obtain ⟨u334, hX⟩ := hX
    obtain ⟨u335, hX⟩ := hX
    obtain ⟨hB, rfl⟩ := hX
    have HB : Hid (Below w.heap.size w w'') := hB
    clear hB T0
    go_wp2_with (go_at_call 22; refine (AL.out _ HB.out).mono ?_; rintro e w5 ⟨rfl, b5⟩; have B5 : Hid (Below w''.heap.size w'' w5) := b5; clear b5)
    go_ret
    exact ⟨rfl, HB.out.trans (B5.out.mono HB.out.size)⟩
end Go.Proofs.YtcjejnenklppiaaDoor
namespace Go.Proofs.YtcjejnenklppiaaDoor
set_option linter.unusedVariables false
open Go.RowKit Go.Shelf

theorem sets_walk {w : World} (hT : TabB w) (m n : Int) (la : Option Addr) (L : List (Int × Int × Int)) (hL : StpB w la L) (hLl : L.length ≤ 140737488355328) (lc : Nat) : Calls Tryd.prog 3 #[.int .i64 m, .int .i64 n, .slice la L.length lc] w fun e w' => e = .returned (.bool true) ∧ Below w.heap.size w w' := by
  by_cases h : (0 ≤ m ∧ m ≤ 4096) ∧ 0 ≤ n ∧ n ≤ 4096
  · obtain ⟨⟨m0, m1⟩, n0, n1⟩ := h
    obtain ⟨a, rfl⟩ := Int.eq_ofNat_of_zero_le m0
    obtain ⟨b, rfl⟩ := Int.eq_ofNat_of_zero_le n0
    exact sets_ok a b (by omega) (by omega) la lc L hL hLl hT
  · exact sets_no m n _ h
end Go.Proofs.YtcjejnenklppiaaDoor
