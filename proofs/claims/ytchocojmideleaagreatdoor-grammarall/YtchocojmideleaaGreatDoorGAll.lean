import Derived.Test.YtchocojmideleaaGreatDoorGAll0
import Derived.Test.YtchocojmideleaaGreatDoorGSmallToGAlive2
import Derived.Test.YtchocojmideleaaGreatDoorGOkToSCheckR
import Derived.Test.YtchocojmideleaaGreatDoorGCheckR
import Derived.Test.YtchocojmideleaaGreatDoorBBaseToGRow
namespace Go.Proofs.YtchocojmideleaaGreatDoor
set_option linter.unusedVariables false
open Go.RowKit

theorem sumU_le (f : Nat → Nat) (c : Nat) (h : ∀ j, f j ≤ c) : ∀ n, sumU f n ≤ n * c
  | 0 => by simp [sumU]
  | n + 1 => by
    have := sumU_le f c h n
    have := h n
    simp only [sumU, Nat.succ_mul]
    omega
theorem sumU_le2 (f : Nat → Nat) (c : Nat) : ∀ n, (∀ j, j < n → f j ≤ c) → sumU f n ≤ n * c
  | 0, _ => by simp [sumU]
  | n + 1, h => by
    have := sumU_le2 f c n (fun j hj => h j (by omega))
    have := h n (by omega)
    simp only [sumU, Nat.succ_mul]
    omega
/-- What lasts through GrammarAll. -/
structure AW (g : GV) (w wr : World) : Prop where
  box : BoxG g w.heap.size wr
  at_ : GAt 140737488355328 wr g
  bel : Below w.heap.size w wr
theorem AW.later {g : GV} {w wr w' : World} (h : AW g w wr) (hb : Below wr.heap.size wr w') : AW g w w' :=
  ⟨h.box.later hb, h.at_.later hb, h.bel.trans (hb.mono h.bel.size)⟩
theorem AW.new {g : GV} {w : World} (h : GAt 140737488355328 w g) : AW g w (w.alloc (gBox g)) := ⟨BoxG.new, h.later (below_alloc w _), below_alloc w _⟩
theorem AW.magic {g : GV} {w wr : World} (h : AW g w wr) (hm : C.Magic w) : C.Magic wr := C.Magic.later hm h.bel hm.lt
set_option maxRecDepth 100000 in
set_option maxHeartbeats 4000000 in
theorem all_no (g : GV) (w : World) (hm : C.Magic w) (h : GAt 140737488355328 w g) (hpc : g.ps.length ≤ g.pc) (er at_ : Int) (hE : checkG g (checkF g.ts g.ns) = (er, at_)) (hne : er ≠ 0) :
    Calls Tryz.prog 8 #[g.val] w fun e w' => e = .returned (.bool true) ∧ Below w.heap.size w w' := by
  have A0 : Hid (AW g w (w.alloc (gBox g))) := AW.new h
  have HM : Hid (C.Magic w) := hm
  have HE : Hid (checkG g (checkF g.ts g.ns) = (er, at_) ∧ g.ps.length ≤ g.pc) := ⟨hE, hpc⟩
  have HX : Hid ((checkG g (checkF g.ts g.ns)).1 = er) := by show _ = _; rw [hE]
  have t1 : (er != 0) = true := by simpa using hne
  have t2 : (er == er) = true := by simp
  clear hm h hpc hE hne
  go_enter Tryz.func8, Tryz.ntmps8
  go_wp2_with (first
    | (go_at_call 22; refine (alive_G _ (A0.out.magic HM.out)).mono ?_; rintro e w1 ⟨rfl, hb'⟩; have A1 : Hid (AW g w w1) := A0.out.later hb'; have c0 := A1.out.box.g0; have c1 := A1.out.box.g1; have c2 := A1.out.box.g2; have c3 := A1.out.box.g3; have c4 := A1.out.box.g4; clear hb')
    | (go_at_call 10; refine (check_G g w1 A1.out.at_ HE.out.2 er at_ HE.out.1).mono ?_; rintro e w2 ⟨rfl, hb'⟩; have A2 : Hid (AW g w w2) := A1.out.later hb'; clear hb' c0 c1 c2 c3 c4; have c0 := A2.out.box.g0; have c1 := A2.out.box.g1; have c2 := A2.out.box.g2; have c3 := A2.out.box.g3; have c4 := A2.out.box.g4)
    | (go_at_call 12; refine (num_g _ _).mono ?_; rintro e w' ⟨rfl, rfl⟩)
    | (go_at_call 36; refine (refmay_G g w2 A2.out.at_).mono ?_; rintro e w3 ⟨rfl, hb'⟩; have A3 : Hid (AW g w w3) := A2.out.later hb'; rw [HX.out]; clear hb'))
  go_ret
  exact ⟨rfl, A3.out.bel⟩
set_option maxRecDepth 100000 in
set_option maxHeartbeats 1000000 in
theorem all_ok (g : GV) (w : World) (hm : C.Magic w) (h : GAt 140737488355328 w g) (hpc : g.ps.length ≤ g.pc) (at_ : Int) (hE : checkG g (checkF g.ts g.ns) = (0, at_)) :
    Calls Tryz.prog 8 #[g.val] w fun e w' => e = .returned (.bool true) ∧ Below w.heap.size w w' := by
  have A0 : Hid (AW g w (w.alloc (gBox g))) := AW.new h
  have HM : Hid (C.Magic w) := hm
  have ok : OkC g := OkC.of (by rw [hE])
  have HE : Hid (checkG g (checkF g.ts g.ns) = (0, at_) ∧ g.ps.length ≤ g.pc) := ⟨hE, hpc⟩
  have hpl := ok.pl.2
  have htl := ok.tl.2
  have hnl := ok.nl.2
  have HOK : Hid (OkC g) := ok
  have S1 : Hid (sumU (fun j => (rulesU g.ps (j : Int) g.ps.length).length) g.ns.length = g.ps.length) := rules_sum g.ps g.ns.length _ (Nat.le_refl _) ok.left
  have S2 : Hid (sumU (fun n => (usesU g.ps (2, (n : Int)) g.ps.length).length) g.ns.length + sumU (fun n => (usesU g.ps (1, (n : Int)) g.ps.length).length) g.ts.length = sumU (fun i => (g.ps.getD i .none).right.length) g.ps.length) := uses_sum g.ps g.ts.length g.ns.length _ (Nat.le_refl _) ok.sym
  have L1 : Hid (∀ n, (sumU (fun j => (rulesU g.ps (j : Int) g.ps.length).length) n) ≤ n * 256) := fun n => sumU_le _ _ (fun j => Nat.le_trans (rulesU_len _ _ _) hpl) n
  have L2 : Hid (∀ n (q : Nat → Int × Int), sumU (fun j => (usesU g.ps (q j) g.ps.length).length) n ≤ n * 4096) := fun n q => sumU_le _ _ (fun j => Nat.le_trans (usesU_len (q j) (n := 16) (fun p hp => by obtain ⟨i, hi, rfl⟩ := getD_mem (d := PV.none) hp; exact ok.right i hi) _ (Nat.le_refl _)) (by omega)) n
  clear hm h hpc hE ok
  go_enter Tryz.func8, Tryz.ntmps8
  go_wp2_with (first
    | (go_at_call 22; refine (alive_G _ (A0.out.magic HM.out)).mono ?_; rintro e w1 ⟨rfl, hb'⟩; have A1 : Hid (AW g w w1) := A0.out.later hb'; have c0 := A1.out.box.g0; have c1 := A1.out.box.g1; have c2 := A1.out.box.g2; have c3 := A1.out.box.g3; have c4 := A1.out.box.g4; clear hb')
    | (go_at_call 10; refine (check_G g w1 A1.out.at_ HE.out.2 0 at_ HE.out.1).mono ?_; rintro e w2 ⟨rfl, hb'⟩; have A2 : Hid (AW g w w2) := A1.out.later hb'; clear hb' c0 c1 c2 c3 c4)
    | (go_at_call 12; refine (num_g _ _).mono ?_; rintro e w' ⟨rfl, rfl⟩))
  clear A0 A1
  go_loopw [5, 6, 7] (fun p s z wr => ∃ n : Nat, n ≤ g.ns.length ∧ z = .int .i64 n ∧ p = .int .i64 (sumU (fun j => (rulesU g.ps (j : Int) g.ps.length).length) n) ∧ s = .int .i64 (sumU (fun j => (usesU g.ps (2, (j : Int)) g.ps.length).length) n) ∧ AW g w wr) (fun _ _ z _ => g.ns.length - (intOf z).toNat)
  case atStart => exact ⟨0, Nat.zero_le _, rfl, rfl, rfl, A2.out⟩
  case round =>
    clear A2
    obtain ⟨n, hn, rfl, rfl, rfl, hA'⟩ := hrel
    have hA : Hid (AW g w wr) := hA'
    have b0 := hA'.box.g0
    have b1 := hA'.box.g1
    have b2 := hA'.box.g2
    have b3 := hA'.box.g3
    have b4 := hA'.box.g4
    clear hA'
    have m1 := L1.out n
    have m2 := L2.out n (fun j => (2, (j : Int)))
    generalize hP : sumU (fun j => (rulesU g.ps (j : Int) g.ps.length).length) n = P at *
    generalize hS : sumU (fun j => (usesU g.ps (2, (j : Int)) g.ps.length).length) n = S at *
    by_cases hlt : n < g.ns.length
    · have HNX : Hid (sumU (fun j => (rulesU g.ps (j : Int) g.ps.length).length) (n + 1) = P + (rulesU g.ps (n : Int) g.ps.length).length) := by show _ = _; rw [← hP]; rfl
      have HSX : Hid (sumU (fun j => (usesU g.ps (2, (j : Int)) g.ps.length).length) (n + 1) = S + (usesU g.ps (2, (n : Int)) g.ps.length).length) := by show _ = _; rw [← hS]; rfl
      have m3 := rulesU_len g.ps (n : Int) g.ps.length
      have m4 : (usesU g.ps (2, (n : Int)) g.ps.length).length ≤ 4096 := Nat.le_trans (Nat.le_add_left _ _) (Nat.le_trans (Nat.le_of_eq rfl) (L2.out 1 (fun _ => (2, (n : Int)))))
      clear hP hS
      go_wp2_with (go_at_call 16; refine (rules_any g n wr (hA.out.at_.ok HOK.out)).mono ?_; rintro e w3 ⟨ra, rc, rfl, hil, hb'⟩; have A3 : Hid (AW g w w3) := hA.out.later hb'; have IR : Hid (InRow w3 ra (rulesU g.ps (n : Int) g.ps.length)) := hil.row; clear hil hb' b0 b1 b2 b3 b4)
      clear hA
      go_loopw [9] (fun z wr => ∃ i : Nat, i ≤ (rulesU g.ps (n : Int) g.ps.length).length ∧ z = .int .i64 i ∧ Below w3.heap.size w3 wr) (fun z _ => (rulesU g.ps (n : Int) g.ps.length).length - (intOf z).toNat)
      case atStart => exact ⟨0, Nat.zero_le _, rfl, Below.refl _ _⟩
      case round =>
        obtain ⟨i, hi, rfl, hb⟩ := hrel
        have AI : Hid (AW g w wr) := A3.out.later hb
        have b0 := AI.out.box.g0
        have b1 := AI.out.box.g1
        have b2 := AI.out.box.g2
        have b3 := AI.out.box.g3
        have b4 := AI.out.box.g4
        by_cases hli : i < (rulesU g.ps (n : Int) g.ps.length).length
        · obtain ⟨x, hx, hxl, hxe⟩ := rules_mem (mem_at (d := 0) hli)
          obtain ⟨lb, lo, rfl, hlb, hlc⟩ := (IR.out.later hb) (by intro e; rw [e] at hli; simp at hli)
          have l0 := hlc i hli
          rw [hx] at l0
          obtain ⟨pb, po, hpa, hpb, hpc⟩ := AI.out.at_.p.cells (by intro e; rw [e] at hxl; simp at hxl)
          obtain ⟨p0, _, _⟩ := hpc x hxl
          rw [hxe] at p0
          rw [hpa] at b3
          have t1 : decide ((x : Int) < 0) = false := by simp
          have t2 : decide (g.ps.length ≤ x) = false := by simp; omega
          have t3 : ((n : Int) != (n : Int)) = false := by simp
          by_cases h0 : i = 0
          · have t5 : decide (0 < i) = false := by simp; omega
            clear hpc hlc hpa hx hxe IR h0
            generalize (rulesU g.ps (n : Int) g.ps.length).length = RL at *
            go_wp2_with fail
            go_quiet (fail)
            go_wp2
            go_roundw
            case rel => exact ⟨i + 1, by omega, by go_num, below_drewN hb _⟩
            case measure => simp [intOf]; omega
          · obtain ⟨i', hi'⟩ : ∃ i', i = i' + 1 := ⟨i - 1, by omega⟩
            have t5 : decide (0 < i) = true := by simp; omega
            have ei : (i : Int) - 1 = (i' : Int) := by omega
            have ew : IntKind.i64.wrap (i' : Int) = (i' : Int) := IntWalk.i64_in _ ⟨by omega, by omega⟩
            have rr := rules_rise g.ps (n : Int) g.ps.length i' (by omega)
            have l1 := hlc i' (by omega)
            have hli2 : i' < (rulesU g.ps (n : Int) g.ps.length).length := by omega
            rw [← hi', hx] at rr
            clear hpc hlc hpa hx hxe IR h0 hi'
            generalize (rulesU g.ps (n : Int) g.ps.length).getD i' 0 = yy at *
            generalize (rulesU g.ps (n : Int) g.ps.length).length = RL at *
            have t6 : decide ((x : Int) ≤ yy) = false := by simpa using rr
            clear rr
            go_wp2_with fail
            go_quiet (fail)
            go_wp2
            go_roundw
            case rel => exact ⟨i + 1, by omega, by go_num, below_drewN hb _⟩
            case measure => simp [intOf]; omega
        · clear IR
          generalize (rulesU g.ps (n : Int) g.ps.length).length = RL at *
          have AE : Hid (∀ y : Ext wr, GAt 1048576 y.w g) := fun y => (AI.out.later y.h).at_.ok HOK.out
          have x0 := fun y : Ext wr => (y.cell (a := ⟨w.heap.size, 0, none⟩) AI.out.box.lt).trans b0
          have x1 := fun y : Ext wr => (y.cell (a := ⟨w.heap.size, 1, none⟩) AI.out.box.lt).trans b1
          have x2 := fun y : Ext wr => (y.cell (a := ⟨w.heap.size, 2, none⟩) AI.out.box.lt).trans b2
          have x3 := fun y : Ext wr => (y.cell (a := ⟨w.heap.size, 3, none⟩) AI.out.box.lt).trans b3
          have x4 := fun y : Ext wr => (y.cell (a := ⟨w.heap.size, 4, none⟩) AI.out.box.lt).trans b4
          go_wp2
          refine wp_region_ext (by kernel_rfl) (by kernel_rfl) fun neX => ?_
          repeat (quiet_step (first | (go_at_call 38; exact Calls.ext_of (n_any _ _)) | (go_at_call 37; exact Calls.ext_of (law_uses g 2 n _ (AE.out _)))))
          refine wpQuiet_nil ?_
          rintro _ ⟨y, rfl⟩
          have AY : Hid (AW g w y.w) := AI.out.later y.h
          clear x0 x1 x2 x3 x4 b0 b1 b2 b3 b4 AE AI
          generalize (usesU g.ps (2, (n : Int)) g.ps.length).length = UL at *
          go_wp2
          go_roundw
          case rel => exact ⟨n + 1, by omega, by go_num, by rw [HNX.out]; go_num, by rw [HSX.out, IntWalk.i64_in _ ⟨by omega, by omega⟩]; go_num, AY.out⟩
          case measure => simp [intOf]; omega
    · obtain rfl : n = g.ns.length := by omega
      have HPX : Hid (P = g.ps.length) := hP.symm.trans S1.out
      have HSX : Hid (sumU (fun n => (usesU g.ps (2, (n : Int)) g.ps.length).length) g.ns.length = S) := hS
      clear hP hS
      go_wp2
      go_loopw [6, 10] (fun s z wr => ∃ t : Nat, t ≤ g.ts.length ∧ z = .int .i64 t ∧ s = .int .i64 ((S + sumU (fun j => (usesU g.ps (1, (j : Int)) g.ps.length).length) t : Nat) : Int) ∧ AW g w wr) (fun _ z _ => g.ts.length - (intOf z).toNat)
      case atStart => exact ⟨0, Nat.zero_le _, rfl, rfl, hA.out⟩
      case round =>
        clear hA b0 b1 b2 b3 b4
        obtain ⟨t, ht, rfl, rfl, hA'⟩ := hrel
        have hA : Hid (AW g w wr) := hA'
        clear hA'
        have b0 := hA.out.box.g0
        have b1 := hA.out.box.g1
        have b2 := hA.out.box.g2
        have b3 := hA.out.box.g3
        have b4 := hA.out.box.g4
        have m5 := L2.out t (fun j => (1, (j : Int)))
        generalize hT : sumU (fun j => (usesU g.ps (1, (j : Int)) g.ps.length).length) t = T at *
        by_cases hlt2 : t < g.ts.length
        · have HTX : Hid (sumU (fun j => (usesU g.ps (1, (j : Int)) g.ps.length).length) (t + 1) = T + (usesU g.ps (1, (t : Int)) g.ps.length).length) := by show _ = _; rw [← hT]; rfl
          have m6 : (usesU g.ps (1, (t : Int)) g.ps.length).length ≤ 4096 := Nat.le_trans (Nat.le_add_left _ _) (Nat.le_trans (Nat.le_of_eq rfl) (L2.out 1 (fun _ => (1, (t : Int)))))
          have AE : Hid (∀ y : Ext wr, GAt 1048576 y.w g) := fun y => (hA.out.later y.h).at_.ok HOK.out
          clear hT
          have x0 := fun y : Ext wr => (y.cell (a := ⟨w.heap.size, 0, none⟩) hA.out.box.lt).trans b0
          have x1 := fun y : Ext wr => (y.cell (a := ⟨w.heap.size, 1, none⟩) hA.out.box.lt).trans b1
          have x2 := fun y : Ext wr => (y.cell (a := ⟨w.heap.size, 2, none⟩) hA.out.box.lt).trans b2
          have x3 := fun y : Ext wr => (y.cell (a := ⟨w.heap.size, 3, none⟩) hA.out.box.lt).trans b3
          have x4 := fun y : Ext wr => (y.cell (a := ⟨w.heap.size, 4, none⟩) hA.out.box.lt).trans b4
          go_wp2
          refine wp_region_ext (by kernel_rfl) (by kernel_rfl) fun neX => ?_
          repeat (quiet_step (first | (go_at_call 39; exact Calls.ext_of (t_any _ _)) | (go_at_call 37; exact Calls.ext_of (law_uses g 1 t _ (AE.out _)))))
          refine wpQuiet_nil ?_
          rintro _ ⟨y, rfl⟩
          have AY : Hid (AW g w y.w) := hA.out.later y.h
          clear x0 x1 x2 x3 x4 b0 b1 b2 b3 b4 AE hA
          generalize (usesU g.ps (1, (t : Int)) g.ps.length).length = UL at *
          go_wp2
          go_roundw
          case rel => exact ⟨t + 1, by omega, by go_num, by rw [HTX.out, IntWalk.i64_in _ ⟨by omega, by omega⟩]; go_num, AY.out⟩
          case measure => simp [intOf]; omega
        · obtain rfl : t = g.ts.length := by omega
          have HTX : Hid (sumU (fun n => (usesU g.ps (1, (n : Int)) g.ps.length).length) g.ts.length = T) := hT
          clear hT
          have S3 : Hid (S + T = sumU (fun i => (g.ps.getD i .none).right.length) g.ps.length) := by
            have := S2.out
            rw [HSX.out, HTX.out] at this
            exact this
          have L3 : Hid (∀ i, i ≤ g.ps.length → sumU (fun i => (g.ps.getD i .none).right.length) i ≤ i * 16) := fun i hi => sumU_le2 _ _ i (fun j hj => HOK.out.right j (by omega))
          go_wp2
          go_loopw [11, 12] (fun v z wr => ∃ i : Nat, i ≤ g.ps.length ∧ z = .int .i64 i ∧ v = .int .i64 (sumU (fun i => (g.ps.getD i .none).right.length) i) ∧ AW g w wr) (fun _ z _ => g.ps.length - (intOf z).toNat)
          case atStart => exact ⟨0, Nat.zero_le _, rfl, rfl, hA.out⟩
          case round =>
            clear hA b0 b1 b2 b3 b4
            obtain ⟨i, hi, rfl, rfl, hA'⟩ := hrel
            have hA : Hid (AW g w wr) := hA'
            clear hA'
            have b0 := hA.out.box.g0
            have b1 := hA.out.box.g1
            have b2 := hA.out.box.g2
            have b3 := hA.out.box.g3
            have b4 := hA.out.box.g4
            have m7 := L3.out i hi
            generalize hU : sumU (fun i => (g.ps.getD i .none).right.length) i = U at *
            by_cases hli : i < g.ps.length
            · have HUX : Hid (sumU (fun i => (g.ps.getD i .none).right.length) (i + 1) = U + (g.ps.getD i .none).right.length) := by show _ = _; rw [← hU]; rfl
              have m8 := HOK.out.right i hli
              obtain ⟨pb, po, hpa, hpb, hpc⟩ := hA.out.at_.p.cells (by intro e; rw [e] at hli; simp at hli)
              obtain ⟨_, p1, _⟩ := hpc i hli
              rw [hpa] at b3
              clear hpc hpa hU
              generalize g.ps.getD i .none = pp at *
              obtain ⟨pl, pra, prc, pr, pp⟩ := pp
              simp only at p1 m8
              go_wp2
              go_roundw
              case rel => exact ⟨i + 1, by omega, by go_num, by rw [HUX.out]; go_num, hA.out⟩
              case measure => simp [intOf]; omega
            · obtain rfl : i = g.ps.length := by omega
              have e1 : ((P : Int) == (g.ps.length : Int)) = true := by rw [HPX.out]; simp
              have e2 : (((S : Int) + (T : Int)) == (U : Int)) = true := by have := S3.out; rw [hU] at this; rw [← this]; simp
              clear hU
              go_wp2
              go_ret
              exact ⟨rfl, hA.out.bel⟩
theorem all_walk (g : GV) (w : World) (hm : C.Magic w) (h : GAt 140737488355328 w g) (hpc : g.ps.length ≤ g.pc) :
    Calls Tryz.prog 8 #[g.val] w fun e w' => e = .returned (.bool true) ∧ Below w.heap.size w w' := by
  obtain ⟨er, at_, hE⟩ : ∃ er at_, checkG g (checkF g.ts g.ns) = (er, at_) := ⟨_, _, rfl⟩
  by_cases he : er = 0
  · subst he; exact all_ok g w hm h hpc at_ hE
  · exact all_no g w hm h hpc er at_ hE he
end Go.Proofs.YtchocojmideleaaGreatDoor
