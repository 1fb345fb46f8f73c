import Derived.Test.YtmkakdfdfdcncaaGreatDoorGB1
import Derived.Test.YtmkakdfdfdcncaaGreatDoorGSame3ToGSame6
namespace Go.Proofs.YtmkakdfdfdcncaaGreatDoor
set_option linter.unusedVariables false
open Go.RowKit

set_option maxRecDepth 100000 in
set_option maxHeartbeats 8000000 in
theorem back_nn (g : GV) (bo : Option Addr) (cb : Nat) (xs : List Int) (w : World) (hm : C.Magic w) (h : GAt 140737488355328 w g) (hpc : g.ps.length ≤ g.pc) (hr : C.RowAt w bo xs) (hl : xs.length ≤ 140737488351232) (hc : xs.length ≤ cb) (er at_ : Int) (hE : checkG g (checkF g.ts g.ns) = (er, at_)) (h0 : er ≠ 0) (de da : Int) (hd : decE xs = (de, da)) (h1 : de ≠ 0) :
    Calls Tryz.prog 5 #[g.val, .slice bo xs.length cb] w fun e w' => e = .returned (.bool true) ∧ Below w.heap.size w w' := by
  have F0 : Hid (BG g w.heap.size (w.alloc (bxG g)) ∧ Below w.heap.size w (w.alloc (bxG g))) := ⟨BG.new h hpc, below_alloc _ _⟩
  have HM : Hid (C.Magic w) := hm
  have HPC : Hid (g.ps.length ≤ g.pc) := hpc
  have HR : Hid (∀ w', Below w.heap.size w w' → C.RowAt w' bo xs) := fun w' hb => C.RowAt.later hr hb
  have HL : Hid (xs.length ≤ 140737488355328 ∧ xs.length ≤ cb) := ⟨Nat.le_trans hl (by omega), hc⟩
  have hxl : xs.length ≤ 140737488355328 := Nat.le_trans hl (by omega)
  have HB : Hid (C.isBytes xs) := hr.1
  have HE : Hid (checkG g (checkF g.ts g.ns) = (er, at_)) := hE
  have GE : Hid True := trivial
  have t0 : (er != er) = false := by simp
  clear hm h hpc hr hl hc hE
  have t1 : (er == 0) = false := by simpa using h0
  have HD : Hid (decE xs = (de, da)) := hd
  have t2 : (de != 0) = true := by simpa using h1
  have hpl := dec_place xs HB.out (by rw [hd]; exact h1)
  rw [hd] at hpl
  simp only at hpl
  have t4 : 0 ≤ da := hpl.1
  have t5 : da ≤ (xs.length : Int) := hpl.2
  clear hd hpl
  go_enter Tryz.func5, Tryz.ntmps5
  go_wp2_with (first
    | (go_at_call 18; refine (alive_G _ (C.Magic.later HM.out F0.out.2 HM.out.lt)).mono ?_; rintro e w1 ⟨rfl, b1⟩; have F1 : Hid (BG g w.heap.size w1 ∧ Below w.heap.size w w1) := ⟨F0.out.1.later b1, F0.out.2.trans (b1.mono F0.out.2.size)⟩; obtain ⟨x0, x1, x2, x3, x4⟩ := F1.out.1.cells; clear b1)
    | (go_at_call 19; guard_hyp GE : Hid True; refine (enc_any g _ F1.out.1.at_ HPC.out (C.Magic.later HM.out F1.out.2 HM.out.lt) er at_ HE.out).mono ?_; rintro e w2 ⟨xa, xN, xc, rfl, b2, hx2⟩; have F2 : Hid (BG g w.heap.size w2 ∧ Below w.heap.size w w2) := ⟨F1.out.1.later b2, F1.out.2.trans (b2.mono F1.out.2.size)⟩; have X2 : Hid (er = 0 → C.RowAt w2 xa (C.frame 1 (encG g)) ∧ xN = (C.frame 1 (encG g)).length ∧ xN ≤ xc ∧ xN ≤ 140737488355328) := hx2; clear x0 x1 x2 x3 x4 GE; obtain ⟨x0, x1, x2, x3, x4⟩ := F2.out.1.cells; clear b2 hx2)
    | (go_at_call 25; refine (check_G g _ F2.out.1.at_ HPC.out er at_ HE.out).mono ?_; rintro e w3 ⟨rfl, b3⟩; have F3 : Hid (BG g w.heap.size w3 ∧ Below w.heap.size w w3) := ⟨F2.out.1.later b3, F2.out.2.trans (b3.mono F2.out.2.size)⟩; have B3 : Hid (Below w2.heap.size w2 w3) := b3; clear x0 x1 x2 x3 x4; obtain ⟨x0, x1, x2, x3, x4⟩ := F3.out.1.cells; clear b3)
    | (go_at_call 16; refine (num_g _ _).mono ?_; rintro e wN ⟨rfl, rfl⟩)
    | (go_at_call 21; refine (dec_any _ bo xs.length cb xs rfl HL.out.1 HL.out.2 (HR.out _ F3.out.2) (C.Magic.later HM.out F3.out.2 HM.out.lt)).mono ?_; rw [HD.out]; rintro e w5 ⟨y, rfl, b5, hv, -⟩; have F5 : Hid (BG g w.heap.size w5 ∧ Below w.heap.size w w5) := ⟨F3.out.1.later b5, F3.out.2.trans (b5.mono F3.out.2.size)⟩; obtain rfl := hv h1; clear b5 hv)
    | (go_at_call 15; refine (samegram_g _ gVoid gVoid 140737488355328 (Nat.le_refl _) (gVoid_at _) (gVoid_at _) ⟨rfl, rfl, rfl, rfl, rfl⟩).mono ?_; rintro e w6 ⟨rfl, b6⟩; have F6 : Hid (Below w.heap.size w w6) := (F5.out.2.trans ((below_alloc _ _).mono F5.out.2.size)).trans (b6.mono (Nat.le_trans F5.out.2.size (below_alloc _ _).size)); clear b6))
  go_ret
  exact ⟨by simp, F6.out⟩
set_option maxRecDepth 100000 in
set_option maxHeartbeats 8000000 in
theorem back_ng (g : GV) (bo : Option Addr) (cb : Nat) (xs : List Int) (w : World) (hm : C.Magic w) (h : GAt 140737488355328 w g) (hpc : g.ps.length ≤ g.pc) (hr : C.RowAt w bo xs) (hl : xs.length ≤ 140737488351232) (hc : xs.length ≤ cb) (er at_ : Int) (hE : checkG g (checkF g.ts g.ns) = (er, at_)) (h0 : er ≠ 0) (da : Int) (hd : decE xs = (0, da)) :
    Calls Tryz.prog 5 #[g.val, .slice bo xs.length cb] w fun e w' => e = .returned (.bool true) ∧ Below w.heap.size w w' := by
  have F0 : Hid (BG g w.heap.size (w.alloc (bxG g)) ∧ Below w.heap.size w (w.alloc (bxG g))) := ⟨BG.new h hpc, below_alloc _ _⟩
  have HM : Hid (C.Magic w) := hm
  have HPC : Hid (g.ps.length ≤ g.pc) := hpc
  have HR : Hid (∀ w', Below w.heap.size w w' → C.RowAt w' bo xs) := fun w' hb => C.RowAt.later hr hb
  have HL : Hid (xs.length ≤ 140737488355328 ∧ xs.length ≤ cb) := ⟨Nat.le_trans hl (by omega), hc⟩
  have hxl : xs.length ≤ 140737488355328 := Nat.le_trans hl (by omega)
  have HB : Hid (C.isBytes xs) := hr.1
  have HE : Hid (checkG g (checkF g.ts g.ns) = (er, at_)) := hE
  have GE : Hid True := trivial
  have t0 : (er != er) = false := by simp
  clear hm h hpc hr hl hc hE
  have t1 : (er == 0) = false := by simpa using h0
  have HD0 : Hid ((decE xs).1 = 0) := by show _ = _; rw [hd]
  have HD : Hid (decE xs = (0, da)) := hd
  have t6 : ((0 : Int) != 0) = false := by simp
  have DGD : Hid (∀ y : GV, y.core = (decG xs).1 → (decE xs).2 = 0 ∧ C.frame 1 (encG y) = xs ∧ ∃ at_, checkG y (checkF y.ts y.ns) = (0, at_)) := fun y hy => dec_good xs HB.out HD0.out y hy
  have GE2 : Hid True := trivial
  clear hd
  go_enter Tryz.func5, Tryz.ntmps5
  go_wp2_with (first
    | (go_at_call 18; refine (alive_G _ (C.Magic.later HM.out F0.out.2 HM.out.lt)).mono ?_; rintro e w1 ⟨rfl, b1⟩; have F1 : Hid (BG g w.heap.size w1 ∧ Below w.heap.size w w1) := ⟨F0.out.1.later b1, F0.out.2.trans (b1.mono F0.out.2.size)⟩; obtain ⟨x0, x1, x2, x3, x4⟩ := F1.out.1.cells; clear b1)
    | (go_at_call 19; guard_hyp GE : Hid True; refine (enc_any g _ F1.out.1.at_ HPC.out (C.Magic.later HM.out F1.out.2 HM.out.lt) er at_ HE.out).mono ?_; rintro e w2 ⟨xa, xN, xc, rfl, b2, hx2⟩; have F2 : Hid (BG g w.heap.size w2 ∧ Below w.heap.size w w2) := ⟨F1.out.1.later b2, F1.out.2.trans (b2.mono F1.out.2.size)⟩; have X2 : Hid (er = 0 → C.RowAt w2 xa (C.frame 1 (encG g)) ∧ xN = (C.frame 1 (encG g)).length ∧ xN ≤ xc ∧ xN ≤ 140737488355328) := hx2; clear x0 x1 x2 x3 x4 GE; obtain ⟨x0, x1, x2, x3, x4⟩ := F2.out.1.cells; clear b2 hx2)
    | (go_at_call 25; refine (check_G g _ F2.out.1.at_ HPC.out er at_ HE.out).mono ?_; rintro e w3 ⟨rfl, b3⟩; have F3 : Hid (BG g w.heap.size w3 ∧ Below w.heap.size w w3) := ⟨F2.out.1.later b3, F2.out.2.trans (b3.mono F2.out.2.size)⟩; have B3 : Hid (Below w2.heap.size w2 w3) := b3; clear x0 x1 x2 x3 x4; obtain ⟨x0, x1, x2, x3, x4⟩ := F3.out.1.cells; clear b3)
    | (go_at_call 16; refine (num_g _ _).mono ?_; rintro e wN ⟨rfl, rfl⟩)
    | (go_at_call 21; refine (dec_any _ bo xs.length cb xs rfl HL.out.1 HL.out.2 (HR.out _ F3.out.2) (C.Magic.later HM.out F3.out.2 HM.out.lt)).mono ?_; rw [HD.out]; rintro e w5 ⟨y, rfl, b5, -, hg⟩; have F5 : Hid (BG g w.heap.size w5 ∧ Below w.heap.size w w5) := ⟨F3.out.1.later b5, F3.out.2.trans (b5.mono F3.out.2.size)⟩; have Y5 : Hid (y.core = (decG xs).1) := (hg rfl).1; have Z5 : Hid (GAt 140737488355328 w5 y ∧ y.ps.length ≤ y.pc) := (have q := dec_at HB.out HD0.out (hg rfl).1 (hg rfl).2; ⟨q.1.mono (by omega), q.2⟩); clear b5 hg)
    | (go_at_call 19; guard_hyp GE2 : Hid True; refine (enc_any y _ (Z5.out.1.later (below_alloc _ _)) Z5.out.2 (C.Magic.later HM.out (F5.out.2.trans ((below_alloc _ _).mono F5.out.2.size)) HM.out.lt) 0 _ (DGD.out y Y5.out).2.2.choose_spec).mono ?_; rintro e w9 ⟨ca, cN, cc, rfl, b9, hx9⟩; have F9 : Hid (Below w.heap.size w w9) := (F5.out.2.trans ((below_alloc _ _).mono F5.out.2.size)).trans (b9.mono (Nat.le_trans F5.out.2.size (below_alloc _ _).size)); have X9 : Hid (C.RowAt w9 ca xs ∧ cN = xs.length) := (by have q := hx9 rfl; rw [(DGD.out y Y5.out).2.1] at q; exact ⟨q.1, q.2.1⟩); clear b9 hx9)
    | (go_at_call 24; refine (C.same_true ca bo cN xs.length cc cb xs _ X9.out.2 rfl HL.out.1 X9.out.1 (HR.out _ F9.out)).mono ?_; rintro e w10 ⟨rfl, s10⟩; have F10 : Hid (Below w.heap.size w w10) := F9.out.trans (s10 _); clear s10))
  go_ret
  exact ⟨by simp, F10.out⟩
set_option maxRecDepth 100000 in
set_option maxHeartbeats 8000000 in
theorem back_gn (g : GV) (bo : Option Addr) (cb : Nat) (xs : List Int) (w : World) (hm : C.Magic w) (h : GAt 140737488355328 w g) (hpc : g.ps.length ≤ g.pc) (hr : C.RowAt w bo xs) (hl : xs.length ≤ 140737488351232) (hc : xs.length ≤ cb) (er at_ : Int) (hE : checkG g (checkF g.ts g.ns) = (er, at_)) (h0 : er = 0) (de da : Int) (hd : decE xs = (de, da)) (h1 : de ≠ 0) :
    Calls Tryz.prog 5 #[g.val, .slice bo xs.length cb] w fun e w' => e = .returned (.bool true) ∧ Below w.heap.size w w' := by
  have F0 : Hid (BG g w.heap.size (w.alloc (bxG g)) ∧ Below w.heap.size w (w.alloc (bxG g))) := ⟨BG.new h hpc, below_alloc _ _⟩
  have HM : Hid (C.Magic w) := hm
  have HPC : Hid (g.ps.length ≤ g.pc) := hpc
  have HR : Hid (∀ w', Below w.heap.size w w' → C.RowAt w' bo xs) := fun w' hb => C.RowAt.later hr hb
  have HL : Hid (xs.length ≤ 140737488355328 ∧ xs.length ≤ cb) := ⟨Nat.le_trans hl (by omega), hc⟩
  have hxl : xs.length ≤ 140737488355328 := Nat.le_trans hl (by omega)
  have HB : Hid (C.isBytes xs) := hr.1
  have HE : Hid (checkG g (checkF g.ts g.ns) = (er, at_)) := hE
  have GE : Hid True := trivial
  have t0 : (er != er) = false := by simp
  clear hm h hpc hr hl hc hE
  subst h0
  have OK : Hid (OkC g) := OkC.of (by rw [HE.out])
  have t1 : ((0 : Int) == 0) = true := by simp
  have t7 : ((0 : Int) != 0) = false := by simp
  have GD : Hid True := trivial
  have GS : Hid True := trivial
  have HD : Hid (decE xs = (de, da)) := hd
  have t2 : (de != 0) = true := by simpa using h1
  have hpl := dec_place xs HB.out (by rw [hd]; exact h1)
  rw [hd] at hpl
  simp only at hpl
  have t4 : 0 ≤ da := hpl.1
  have t5 : da ≤ (xs.length : Int) := hpl.2
  clear hd hpl
  go_enter Tryz.func5, Tryz.ntmps5
  go_wp2_with (first
    | (go_at_call 18; refine (alive_G _ (C.Magic.later HM.out F0.out.2 HM.out.lt)).mono ?_; rintro e w1 ⟨rfl, b1⟩; have F1 : Hid (BG g w.heap.size w1 ∧ Below w.heap.size w w1) := ⟨F0.out.1.later b1, F0.out.2.trans (b1.mono F0.out.2.size)⟩; obtain ⟨x0, x1, x2, x3, x4⟩ := F1.out.1.cells; clear b1)
    | (go_at_call 19; guard_hyp GE : Hid True; refine (enc_any g _ F1.out.1.at_ HPC.out (C.Magic.later HM.out F1.out.2 HM.out.lt) 0 at_ HE.out).mono ?_; rintro e w2 ⟨xa, xN, xc, rfl, b2, hx2⟩; have F2 : Hid (BG g w.heap.size w2 ∧ Below w.heap.size w w2) := ⟨F1.out.1.later b2, F1.out.2.trans (b2.mono F1.out.2.size)⟩; have X2 : Hid (C.RowAt w2 xa (C.frame 1 (encG g)) ∧ xN = (C.frame 1 (encG g)).length ∧ xN ≤ xc ∧ xN ≤ 140737488355328) := hx2 rfl; clear x0 x1 x2 x3 x4 GE; obtain ⟨x0, x1, x2, x3, x4⟩ := F2.out.1.cells; clear b2 hx2)
    | (go_at_call 25; refine (check_G g _ F2.out.1.at_ HPC.out 0 at_ HE.out).mono ?_; rintro e w3 ⟨rfl, b3⟩; have F3 : Hid (BG g w.heap.size w3 ∧ Below w.heap.size w w3) := ⟨F2.out.1.later b3, F2.out.2.trans (b3.mono F2.out.2.size)⟩; have B3 : Hid (Below w2.heap.size w2 w3) := b3; clear x0 x1 x2 x3 x4; obtain ⟨x0, x1, x2, x3, x4⟩ := F3.out.1.cells; clear b3; have X3 : Hid (C.RowAt w3 xa (C.frame 1 (encG g)) ∧ xN = (C.frame 1 (encG g)).length ∧ (C.frame 1 (encG g)).length ≤ 140737488355328 ∧ (C.frame 1 (encG g)).length ≤ xc) := ((have q := X2.out; ⟨C.RowAt.later q.1 B3.out, q.2.1, by have := q.2.2.2; have := q.2.1; omega, by have := q.2.2.1; have := q.2.1; omega⟩)))
    | (go_at_call 16; refine (num_g _ _).mono ?_; rintro e wN ⟨rfl, rfl⟩)
    | (go_at_call 21; guard_hyp GD : Hid True; refine (decode_ok g _ xa xN xc X3.out.2.1 X3.out.2.2.1 X3.out.2.2.2 X3.out.1 (C.Magic.later HM.out F3.out.2 HM.out.lt) at_ HE.out OK.out.okd OK.out.enc_len).mono ?_; rintro e w4 ⟨y1, rfl, sm, dg, b4⟩; have F4 : Hid (BG g w.heap.size (w4.alloc (bxG y1)) ∧ Below w.heap.size w (w4.alloc (bxG y1))) := ⟨(F3.out.1.later b4).later (below_alloc _ _), (F3.out.2.trans (b4.mono F3.out.2.size)).trans ((below_alloc _ _).mono (Nat.le_trans F3.out.2.size b4.size))⟩; have Y4 : Hid (SameG g y1 ∧ GAt 1048576 (w4.alloc (bxG y1)) y1) := ⟨sm, (dg.at sm OK.out.okd).1.later (below_alloc _ _)⟩; clear x0 x1 x2 x3 x4 GD; obtain ⟨x0, x1, x2, x3, x4⟩ := F4.out.1.cells; have bx4 : (w4.alloc (bxG y1)).heap[w4.heap.size]? = some (bxG y1) := heap_alloc_new w4 _; clear sm dg b4 bx4)
    | (go_at_call 15; guard_hyp GS : Hid True; refine (samegram_g _ g y1 1048576 (by omega) (F4.out.1.at_.ok OK.out) Y4.out.2 Y4.out.1).mono ?_; rintro e w6 ⟨rfl, b6⟩; have F7 : Hid (BG g w.heap.size w6 ∧ Below w.heap.size w w6) := ⟨F4.out.1.later b6, F4.out.2.trans (b6.mono F4.out.2.size)⟩; clear GS b6)
    | (go_at_call 21; refine (dec_any _ bo xs.length cb xs rfl HL.out.1 HL.out.2 (HR.out _ F7.out.2) (C.Magic.later HM.out F7.out.2 HM.out.lt)).mono ?_; rw [HD.out]; rintro e w5 ⟨y, rfl, b5, hv, -⟩; have F5 : Hid (BG g w.heap.size w5 ∧ Below w.heap.size w w5) := ⟨F7.out.1.later b5, F7.out.2.trans (b5.mono F7.out.2.size)⟩; obtain rfl := hv h1; clear b5 hv)
    | (go_at_call 15; refine (samegram_g _ gVoid gVoid 140737488355328 (Nat.le_refl _) (gVoid_at _) (gVoid_at _) ⟨rfl, rfl, rfl, rfl, rfl⟩).mono ?_; rintro e w8 ⟨rfl, b8⟩; have F8 : Hid (Below w.heap.size w w8) := (F5.out.2.trans ((below_alloc _ _).mono F5.out.2.size)).trans (b8.mono (Nat.le_trans F5.out.2.size (below_alloc _ _).size)); clear b8))
  go_ret
  exact ⟨by simp, F8.out⟩
set_option maxRecDepth 100000 in
set_option maxHeartbeats 8000000 in
theorem back_gg (g : GV) (bo : Option Addr) (cb : Nat) (xs : List Int) (w : World) (hm : C.Magic w) (h : GAt 140737488355328 w g) (hpc : g.ps.length ≤ g.pc) (hr : C.RowAt w bo xs) (hl : xs.length ≤ 140737488351232) (hc : xs.length ≤ cb) (er at_ : Int) (hE : checkG g (checkF g.ts g.ns) = (er, at_)) (h0 : er = 0) (da : Int) (hd : decE xs = (0, da)) :
    Calls Tryz.prog 5 #[g.val, .slice bo xs.length cb] w fun e w' => e = .returned (.bool true) ∧ Below w.heap.size w w' := by
  have F0 : Hid (BG g w.heap.size (w.alloc (bxG g)) ∧ Below w.heap.size w (w.alloc (bxG g))) := ⟨BG.new h hpc, below_alloc _ _⟩
  have HM : Hid (C.Magic w) := hm
  have HPC : Hid (g.ps.length ≤ g.pc) := hpc
  have HR : Hid (∀ w', Below w.heap.size w w' → C.RowAt w' bo xs) := fun w' hb => C.RowAt.later hr hb
  have HL : Hid (xs.length ≤ 140737488355328 ∧ xs.length ≤ cb) := ⟨Nat.le_trans hl (by omega), hc⟩
  have hxl : xs.length ≤ 140737488355328 := Nat.le_trans hl (by omega)
  have HB : Hid (C.isBytes xs) := hr.1
  have HE : Hid (checkG g (checkF g.ts g.ns) = (er, at_)) := hE
  have GE : Hid True := trivial
  have t0 : (er != er) = false := by simp
  clear hm h hpc hr hl hc hE
  subst h0
  have OK : Hid (OkC g) := OkC.of (by rw [HE.out])
  have t1 : ((0 : Int) == 0) = true := by simp
  have t7 : ((0 : Int) != 0) = false := by simp
  have GD : Hid True := trivial
  have GS : Hid True := trivial
  have HD0 : Hid ((decE xs).1 = 0) := by show _ = _; rw [hd]
  have HD : Hid (decE xs = (0, da)) := hd
  have t6 : ((0 : Int) != 0) = false := by simp
  have DGD : Hid (∀ y : GV, y.core = (decG xs).1 → (decE xs).2 = 0 ∧ C.frame 1 (encG y) = xs ∧ ∃ at_, checkG y (checkF y.ts y.ns) = (0, at_)) := fun y hy => dec_good xs HB.out HD0.out y hy
  have GE2 : Hid True := trivial
  clear hd
  go_enter Tryz.func5, Tryz.ntmps5
  go_wp2_with (first
    | (go_at_call 18; refine (alive_G _ (C.Magic.later HM.out F0.out.2 HM.out.lt)).mono ?_; rintro e w1 ⟨rfl, b1⟩; have F1 : Hid (BG g w.heap.size w1 ∧ Below w.heap.size w w1) := ⟨F0.out.1.later b1, F0.out.2.trans (b1.mono F0.out.2.size)⟩; obtain ⟨x0, x1, x2, x3, x4⟩ := F1.out.1.cells; clear b1)
    | (go_at_call 19; guard_hyp GE : Hid True; refine (enc_any g _ F1.out.1.at_ HPC.out (C.Magic.later HM.out F1.out.2 HM.out.lt) 0 at_ HE.out).mono ?_; rintro e w2 ⟨xa, xN, xc, rfl, b2, hx2⟩; have F2 : Hid (BG g w.heap.size w2 ∧ Below w.heap.size w w2) := ⟨F1.out.1.later b2, F1.out.2.trans (b2.mono F1.out.2.size)⟩; have X2 : Hid (C.RowAt w2 xa (C.frame 1 (encG g)) ∧ xN = (C.frame 1 (encG g)).length ∧ xN ≤ xc ∧ xN ≤ 140737488355328) := hx2 rfl; clear x0 x1 x2 x3 x4 GE; obtain ⟨x0, x1, x2, x3, x4⟩ := F2.out.1.cells; clear b2 hx2)
    | (go_at_call 25; refine (check_G g _ F2.out.1.at_ HPC.out 0 at_ HE.out).mono ?_; rintro e w3 ⟨rfl, b3⟩; have F3 : Hid (BG g w.heap.size w3 ∧ Below w.heap.size w w3) := ⟨F2.out.1.later b3, F2.out.2.trans (b3.mono F2.out.2.size)⟩; have B3 : Hid (Below w2.heap.size w2 w3) := b3; clear x0 x1 x2 x3 x4; obtain ⟨x0, x1, x2, x3, x4⟩ := F3.out.1.cells; clear b3; have X3 : Hid (C.RowAt w3 xa (C.frame 1 (encG g)) ∧ xN = (C.frame 1 (encG g)).length ∧ (C.frame 1 (encG g)).length ≤ 140737488355328 ∧ (C.frame 1 (encG g)).length ≤ xc) := ((have q := X2.out; ⟨C.RowAt.later q.1 B3.out, q.2.1, by have := q.2.2.2; have := q.2.1; omega, by have := q.2.2.1; have := q.2.1; omega⟩)))
    | (go_at_call 16; refine (num_g _ _).mono ?_; rintro e wN ⟨rfl, rfl⟩)
    | (go_at_call 21; guard_hyp GD : Hid True; refine (decode_ok g _ xa xN xc X3.out.2.1 X3.out.2.2.1 X3.out.2.2.2 X3.out.1 (C.Magic.later HM.out F3.out.2 HM.out.lt) at_ HE.out OK.out.okd OK.out.enc_len).mono ?_; rintro e w4 ⟨y1, rfl, sm, dg, b4⟩; have F4 : Hid (BG g w.heap.size (w4.alloc (bxG y1)) ∧ Below w.heap.size w (w4.alloc (bxG y1))) := ⟨(F3.out.1.later b4).later (below_alloc _ _), (F3.out.2.trans (b4.mono F3.out.2.size)).trans ((below_alloc _ _).mono (Nat.le_trans F3.out.2.size b4.size))⟩; have Y4 : Hid (SameG g y1 ∧ GAt 1048576 (w4.alloc (bxG y1)) y1) := ⟨sm, (dg.at sm OK.out.okd).1.later (below_alloc _ _)⟩; clear x0 x1 x2 x3 x4 GD; obtain ⟨x0, x1, x2, x3, x4⟩ := F4.out.1.cells; have bx4 : (w4.alloc (bxG y1)).heap[w4.heap.size]? = some (bxG y1) := heap_alloc_new w4 _; clear sm dg b4 bx4)
    | (go_at_call 15; guard_hyp GS : Hid True; refine (samegram_g _ g y1 1048576 (by omega) (F4.out.1.at_.ok OK.out) Y4.out.2 Y4.out.1).mono ?_; rintro e w6 ⟨rfl, b6⟩; have F7 : Hid (BG g w.heap.size w6 ∧ Below w.heap.size w w6) := ⟨F4.out.1.later b6, F4.out.2.trans (b6.mono F4.out.2.size)⟩; clear GS b6)
    | (go_at_call 21; refine (dec_any _ bo xs.length cb xs rfl HL.out.1 HL.out.2 (HR.out _ F7.out.2) (C.Magic.later HM.out F7.out.2 HM.out.lt)).mono ?_; rw [HD.out]; rintro e w5 ⟨y, rfl, b5, -, hg⟩; have F5 : Hid (BG g w.heap.size w5 ∧ Below w.heap.size w w5) := ⟨F7.out.1.later b5, F7.out.2.trans (b5.mono F7.out.2.size)⟩; have Y5 : Hid (y.core = (decG xs).1) := (hg rfl).1; have Z5 : Hid (GAt 140737488355328 w5 y ∧ y.ps.length ≤ y.pc) := (have q := dec_at HB.out HD0.out (hg rfl).1 (hg rfl).2; ⟨q.1.mono (by omega), q.2⟩); clear b5 hg)
    | (go_at_call 19; guard_hyp GE2 : Hid True; refine (enc_any y _ (Z5.out.1.later (below_alloc _ _)) Z5.out.2 (C.Magic.later HM.out (F5.out.2.trans ((below_alloc _ _).mono F5.out.2.size)) HM.out.lt) 0 _ (DGD.out y Y5.out).2.2.choose_spec).mono ?_; rintro e w9 ⟨ca, cN, cc, rfl, b9, hx9⟩; have F9 : Hid (Below w.heap.size w w9) := (F5.out.2.trans ((below_alloc _ _).mono F5.out.2.size)).trans (b9.mono (Nat.le_trans F5.out.2.size (below_alloc _ _).size)); have X9 : Hid (C.RowAt w9 ca xs ∧ cN = xs.length) := (by have q := hx9 rfl; rw [(DGD.out y Y5.out).2.1] at q; exact ⟨q.1, q.2.1⟩); clear b9 hx9)
    | (go_at_call 24; refine (C.same_true ca bo cN xs.length cc cb xs _ X9.out.2 rfl HL.out.1 X9.out.1 (HR.out _ F9.out)).mono ?_; rintro e w10 ⟨rfl, s10⟩; have F10 : Hid (Below w.heap.size w w10) := F9.out.trans (s10 _); clear s10))
  go_ret
  exact ⟨by simp, F10.out⟩
theorem back_walk (g : GV) (bo : Option Addr) (cb : Nat) (xs : List Int) (w : World) (hm : C.Magic w) (h : GAt 140737488355328 w g) (hpc : g.ps.length ≤ g.pc) (hr : C.RowAt w bo xs) (hl : xs.length ≤ 140737488351232) (hc : xs.length ≤ cb) :
    Calls Tryz.prog 5 #[g.val, .slice bo xs.length cb] w fun e w' => e = .returned (.bool true) ∧ Below w.heap.size w w' := by
  obtain ⟨er, at_, hE⟩ : ∃ er at_, checkG g (checkF g.ts g.ns) = (er, at_) := ⟨_, _, rfl⟩
  obtain ⟨de, da, hd⟩ : ∃ de da, decE xs = (de, da) := ⟨_, _, rfl⟩
  by_cases h0 : er = 0
  · by_cases h1 : de = 0
    · subst h1; exact back_gg g bo cb xs w hm h hpc hr hl hc er at_ hE h0 da hd
    · exact back_gn g bo cb xs w hm h hpc hr hl hc er at_ hE h0 de da hd h1
  · by_cases h1 : de = 0
    · subst h1; exact back_ng g bo cb xs w hm h hpc hr hl hc er at_ hE h0 da hd
    · exact back_nn g bo cb xs w hm h hpc hr hl hc er at_ hE h0 de da hd h1
end Go.Proofs.YtmkakdfdfdcncaaGreatDoor
