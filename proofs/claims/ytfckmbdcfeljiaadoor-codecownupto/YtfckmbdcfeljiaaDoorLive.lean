import Derived.Test.YtfckmbdcfeljiaaDoorAlive
namespace Go.Proofs.YtfckmbdcfeljiaaDoor
set_option linter.unusedVariables false
open Go.RowKit

theorem winv_new (w : World) : WInv ((w.alloc (.cells #[.slice none 0 0, .int .i64 0] 77)).alloc (.cells #[.pointer (some ⟨w.heap.size, 0, none⟩)] 65)) (w.heap.size + 1) w.heap.size (.slice none 0 0) [] 0 := by
  refine ⟨?_, ?_, Own.nil _⟩
  · have := heap_alloc_new (w.alloc (.cells #[.slice none 0 0, .int .i64 0] 77)) (.cells #[.pointer (some ⟨w.heap.size, 0, none⟩)] 65)
    simpa using this
  · rw [Below.heap_alloc _ _ _ (by simp)]
    exact heap_alloc_new w _
theorem below_two (w : World) (o p : Obj) : Below w.heap.size w ((w.alloc o).alloc p) := (below_alloc w o).trans ((below_alloc (w.alloc o) p).mono (by simp))

theorem rowAt_new2 (w : World) (o : Obj) (t : TypeId) (xs : List Int) (fz : Nat × Nat) (h : isBytes xs) : RowAt ((w.alloc o).alloc (.cells (vals xs).toArray t fz)) (some ⟨w.heap.size + 1, 0, none⟩) xs := by
  have := rowAt_new (w.alloc o) t xs fz h
  simpa using this

set_option maxRecDepth 100000 in
set_option maxHeartbeats 2000000 in
theorem alive_any (w : World) (hm : Magic w) : Calls Tryd.prog 4 #[] w fun e w' => e = .returned (.bool true) ∧ Below w.heap.size w w' := by
  have hz := hm.lt
  have HW : Hid _ := winv_new w
  have HB : Hid _ := below_two w (.cells #[.slice none 0 0, .int .i64 0] 77) (.cells #[.pointer (some ⟨w.heap.size, 0, none⟩)] 65)
  have kc := fun (w : World) (C : Array Value) (n c : Nat) => Lib.run_convert_bytes_const (P := Tryd.prog) w 22 5 C n c Tryd.underlying22 Tryd.underlying5
  have kc2 : ∀ (w : World) (o : Obj) (C : Array Value) (n c : Nat), (convert 22 22 (.slice (some ⟨w.heap.size + 1, 0, none⟩) n c)).run Tryd.prog ((w.alloc o).alloc (.cells C 5)) = .ok (.slice (some ⟨w.heap.size + 1, 0, none⟩) n c) ((w.alloc o).alloc (.cells C 5 (C.size, C.size + 1))) := fun w o C n c => by have := kc (w.alloc o) C n c; simpa using this
  have B97 : isBytes [97] := by unfold isBytes; decide
  have BAC : isBytes [172, 2] := by unfold isBytes; decide
  have BWK : isBytes [87, 105, 107, 105, 112, 101, 100, 105, 97] := by unfold isBytes; decide
  have FL : Hid ((frame 1 [97]).length ≤ 140737488355328) := by show _ ≤ _; rw [frameLen]; decide
  go_enter Tryd.func4, Tryd.ntmps4
  go_wp2_with (first
    | (go_at_call 5; refine (newwriter_any w).mono ?_; rintro e w' ⟨rfl, rfl⟩)
    | (go_at_call 20; refine (number_any 300 HW.out (by decide) (by decide) (by decide)).mono ?_; rintro e w2 ⟨rfl, v2, hW2, hg2⟩; have hb2 : Below w.heap.size w w2 := HB.out.trans (wgrew_below hg2 HB.out.size (Nat.le_refl _) (fun k hk => by simp [Value.ownBlock] at hk)); have HW2 : Hid _ := hW2; clear hW2 hg2)
    | (go_at_call 7; refine (wbytes_at HW2.out (by decide)).mono ?_; rintro e w3 ⟨ao3, N3, c3, rfl, ho3, hk3, hb3⟩; have hb3' := hb2.trans (hb3.mono hb2.size); have hm3 := hm.later hb3' hm.lt; clear hk3)
    | (go_at_call 8; refine (seal_at 1 (some ⟨w3.heap.size, 0, none⟩) 1 1 [97] _ rfl (by decide) (by decide) (by decide) (hm3.later (below_alloc w3 _) hm3.lt) (rowAt_new w3 5 [97] (1, 2) B97) no_nil).mono ?_; rintro e w4 ⟨g4, N4, c4, rfl, ho4, hg4, hb4⟩; have hb4' := hb3'.trans (((below_alloc w3 _).trans (hb4.mono (by simp))).mono hb3'.size); have ho34 := ho3.later ((below_alloc w3 _).trans (hb4.mono (by simp))); have hm4 := hm.later hb4' hm.lt; clear hg4 hb4 ho3 hb3 hb3' hm3)
    | (go_at_call 10; refine (open_eq 1 (some ⟨g4, 0, none⟩) N4 c4 (frame 1 [97]) w4 [97] 0 0 openFrame (own_len ho4).1 (by decide) (by decide) FL.out (own_cap ho4) hm4 (own_len ho4).2.1).mono ?_; rintro e w5 ⟨a5, N5, c5, rfl, ho5, hk5, hb5⟩; have ho35 := ho34.later hb5; have hb5' := hb4'.trans (hb5.mono hb4'.size); clear hk5 hb5 ho34 hb4' hm4 ho4)
    | (go_at_call 21; refine (num_any _ _).mono ?_; rintro e w' ⟨rfl, rfl⟩)
    | (go_at_call 22; refine (same_true ao3 (some ⟨w5.heap.size, 0, none⟩) N3 2 c3 2 [172, 2] _ (own_len ho35).1 rfl (by decide) ((own_len ho35).2.1.later (below_alloc w5 _)) (rowAt_new w5 5 [172, 2] (0, 0) BAC)).mono ?_; rintro e w6 ⟨rfl, hs6⟩; have ho56 := hs6.own (ho5.alloc _); have hb6 := hb5'.trans (((below_alloc w5 _).trans (hs6 _)).mono hb5'.size); clear hs6 ho35 ho5 hb5')
    | (go_at_call 23; refine (sum_wiki ⟨w6.heap.size, 0, none⟩ 9 _ (rowAt_new w6 5 _ (9, 10) BWK)).mono ?_; rintro e w' ⟨rfl, rfl⟩)
    | (go_at_call 22; refine (same_true a5 (some ⟨w6.heap.size + 1, 0, none⟩) N5 1 c5 1 [97] _ (own_len ho56).1 rfl (by decide) ((own_len ho56).2.1.later (below_two w6 _ _)) (rowAt_new2 w6 _ 5 [97] (1, 2) B97)).mono ?_; rintro e w7 ⟨rfl, hs7⟩; have hb7 := hb6.trans (((below_two w6 _ _).trans (hs7 _)).mono hb6.size)))
  go_ret
  exact ⟨rfl, hb7⟩
end Go.Proofs.YtfckmbdcfeljiaaDoor
