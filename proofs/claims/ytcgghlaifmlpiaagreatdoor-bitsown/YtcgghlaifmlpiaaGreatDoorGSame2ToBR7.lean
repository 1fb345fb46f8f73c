import Derived.Test.YtcgghlaifmlpiaaGreatDoorBBaseToGRow
import Derived.Test.YtcgghlaifmlpiaaGreatDoorHIntToBGG
import Derived.Test.YtcgghlaifmlpiaaGreatDoorBR4ToBR6
import Derived.Test.YtcgghlaifmlpiaaGreatDoorBZ14ToBZ16
namespace Go.Proofs.YtcgghlaifmlpiaaGreatDoor
set_option linter.unusedVariables false
open Go.RowKit

set_option maxHeartbeats 1000000 in
theorem samestrs_g (ao bo : Option Addr) (n m ca cb : Nat) (ss : List ByteArray) (w : World) (hn : n = ss.length) (hm : m = ss.length) (hl : ss.length ≤ 140737488355328) (hr : StrRow w ao ss) (hs : StrRow w bo ss) :
    Calls Tryz.prog 41 #[.slice ao n ca, .slice bo m cb] w fun e w' => e = .returned (.bool true) ∧ ∃ d, w' = w.drewN d := by
  subst hn hm
  have hb : ((ss.length : Int) != ss.length) = false := by simp
  go_enter Tryz.func41, Tryz.ntmps41
  go_wp2
  go_loopw [5] (fun i wr => ∃ k d : Nat, k ≤ ss.length ∧ i = .int .i64 k ∧ wr = w.drewN d) (fun i _ => ss.length - (intOf i).toNat)
  case atStart => exact ⟨0, 0, Nat.zero_le _, rfl, rfl⟩
  case round =>
    obtain ⟨k, d, hk, rfl, rfl⟩ := hrel
    by_cases hlt : k < ss.length
    · obtain ⟨b, off, rfl, _, hc⟩ := hr (by intro h; subst h; simp at hlt)
      obtain ⟨b2, off2, rfl, _, hc2⟩ := hs (by intro h; subst h; simp at hlt)
      have h1 := hc k hlt
      have h2 := hc2 k hlt
      clear hc hc2 hr hs
      generalize ss.getD k ByteArray.empty = x at *
      have het : (x.toList != x.toList) = false := by simp
      go_wp2
      go_quiet (fail)
      go_wp2
      go_roundw
      case rel => exact ⟨k + 1, _, by omega, by go_num, rfl⟩
      case measure => simp [intOf]; omega
    · go_wp2
      go_ret
      exact ⟨rfl, _, rfl⟩

set_option maxHeartbeats 1000000 in
theorem sameints_g (ao bo : Option Addr) (n m ca cb : Nat) (ss : List Int) (w : World) (hn : n = ss.length) (hm : m = ss.length) (hl : ss.length ≤ 140737488355328) (hr : InRow w ao ss) (hs : InRow w bo ss) :
    Calls Tryz.prog 16 #[.slice ao n ca, .slice bo m cb] w fun e w' => e = .returned (.bool true) ∧ ∃ d, w' = w.drewN d := by
  subst hn hm
  have hb : ((ss.length : Int) != ss.length) = false := by simp
  go_enter Tryz.func16, Tryz.ntmps16
  go_wp2
  go_loopw [5] (fun i wr => ∃ k d : Nat, k ≤ ss.length ∧ i = .int .i64 k ∧ wr = w.drewN d) (fun i _ => ss.length - (intOf i).toNat)
  case atStart => exact ⟨0, 0, Nat.zero_le _, rfl, rfl⟩
  case round =>
    obtain ⟨k, d, hk, rfl, rfl⟩ := hrel
    by_cases hlt : k < ss.length
    · obtain ⟨b, off, rfl, _, hc⟩ := hr (by intro h; subst h; simp at hlt)
      obtain ⟨b2, off2, rfl, _, hc2⟩ := hs (by intro h; subst h; simp at hlt)
      have h1 := hc k hlt
      have h2 := hc2 k hlt
      clear hc hc2 hr hs
      generalize ss.getD k 0 = x at *
      have het : (x != x) = false := by simp
      go_wp2
      go_quiet (fail)
      go_wp2
      go_roundw
      case rel => exact ⟨k + 1, _, by omega, by go_num, rfl⟩
      case measure => simp [intOf]; omega
    · go_wp2
      go_ret
      exact ⟨rfl, _, rfl⟩

end Go.Proofs.YtcgghlaifmlpiaaGreatDoor
namespace Go.Proofs.YtcgghlaifmlpiaaGreatDoor
set_option linter.unusedVariables false
open Go.RowKit

set_option maxHeartbeats 2000000 in
theorem samepairs_h (ao bo : Option Addr) (n m ca cb : Nat) (l : List (Int × Int)) (w : World) (hn : n = l.length) (hm : m = l.length) (hl : l.length ≤ 140737488355328) (hr : PrsB w ao l) (hs : PrsB w bo l) :
    Calls Tryz.prog 13 #[.slice ao n ca, .slice bo m cb] w fun e w' => e = .returned (.bool true) ∧ ∃ d, w' = w.drewN d := by
  subst hn hm
  have hb : ((l.length : Int) != l.length) = false := by simp
  go_enter Tryz.func13, Tryz.ntmps13
  go_wp2
  go_loopw [5] (fun i wr => ∃ k d : Nat, k ≤ l.length ∧ i = .int .i64 k ∧ wr = w.drewN d) (fun i _ => l.length - (intOf i).toNat)
  case atStart => exact ⟨0, 0, Nat.zero_le _, rfl, rfl⟩
  case round =>
    obtain ⟨k, d, hk, rfl, rfl⟩ := hrel
    by_cases hlt : k < l.length
    · obtain ⟨b, off, rfl, _, hc⟩ := hr (by intro h; subst h; simp at hlt)
      obtain ⟨b2, off2, rfl, _, hc2⟩ := hs (by intro h; subst h; simp at hlt)
      obtain ⟨h1, h2⟩ := hc k hlt
      obtain ⟨h3, h4⟩ := hc2 k hlt
      clear hc hc2 hr hs
      generalize l.getD k (0, 0) = q at *
      obtain ⟨q1, q2⟩ := q
      simp only at h1 h2 h3 h4
      have e1 : (q1 == q1) = true := by simp
      have e2 : (q2 == q2) = true := by simp
      go_wp2
      go_quiet (fail)
      go_wp2
      go_roundw
      case rel => exact ⟨k + 1, _, by omega, by go_num, rfl⟩
      case measure => simp [intOf]; omega
    · go_wp2
      go_ret
      exact ⟨rfl, _, rfl⟩
theorem sametrees_q (a b : Option Addr) (c d : Nat) (w : World) : Calls Tryz.prog 48 #[.slice a 0 c, .slice b 0 d] w fun e w' => e = .returned (.bool true) ∧ w' = w := by
  go_enter Tryz.func48, Tryz.ntmps48
  go_wp2
  go_loop [5] (fun i => i = .int .i64 0) (fun _ => 0)
  case atStart => rfl
  case round =>
    subst hrel
    go_wp2
    go_ret
    exact ⟨rfl, rfl⟩
theorem HE.pairRows {w : World} {e : HE} (h : e.At w) (ht : e.t = 82 ∧ e.sz = 2 ∧ ∃ zs : List (Int × Int), e.cs = symCells zs) : ∃ zs : List (Int × Int), e.N = zs.length ∧ ∀ n, PrsB (w.drewN n) (some ⟨e.g, 0, none⟩) zs ∧ PrsB (w.drewN n) e.a zs := by
  obtain ⟨t1, t2, zs, hz⟩ := ht
  obtain ⟨t, sz, g, N, a, c, cs⟩ := e
  simp only at t1 t2 hz
  subst t1 t2 hz
  have hN : N = zs.length := by have := h.len; simp only [symCells_len] at this; omega
  refine ⟨zs, hN, fun n => ?_⟩
  have hk := h.later (below_drewN (Below.refl _ _) n)
  have hsy : YPr (w.drewN n) (.slice a N c) zs := by have := hk.own; unfold YPr; rw [← hN]; exact this
  exact ⟨FullPr.row ⟨hk.hg⟩, hsy.row⟩
theorem HE.intRowsq {w : World} {e : HE} (h : e.At w) (ht : e.t = 3 ∧ e.sz = 1 ∧ ∃ zs : List Int, e.cs = zs.map (Value.int .i64 ·)) : ∃ zs : List Int, e.N = zs.length ∧ ∀ n, InRow (w.drewN n) (some ⟨e.g, 0, none⟩) zs ∧ InRow (w.drewN n) e.a zs := by
  obtain ⟨t1, t2, zs, hz⟩ := ht
  obtain ⟨t, sz, g, N, a, c, cs⟩ := e
  simp only at t1 t2 hz
  subst t1 t2 hz
  have hN : N = zs.length := by have := h.len; simpa using this.symm
  refine ⟨zs, hN, fun n => ?_⟩
  have hk := h.later (below_drewN (Below.refl _ _) n)
  have hil : IL (w.drewN n) (.slice a N c) zs := by have := hk.own; unfold IL; rw [← hN]; exact this
  refine ⟨FullI.row ⟨hk.hg⟩, ?_⟩
  intro hne
  rcases hil.2 with ⟨e, h0⟩ | ⟨g2, cap, cur, e, h1, h2, h3⟩
  · exact absurd (List.eq_nil_of_length_eq_zero h0) hne
  · have hc := fun j x hx => World.ownsRow.cells hil (g := g2) (by rw [e]; rfl) j x hx
    cases e
    refine ⟨g2, 0, rfl, lt_of_block h2, fun i hi => ?_⟩
    have r1 := hc i (.int .i64 (zs.getD i 0)) (by simp [List.getD, hi])
    rw [add_none] at r1
    exact r1
set_option maxRecDepth 100000 in
set_option maxHeartbeats 8000000 in
theorem qintact (q : Nat) (V : Nat → Value) (ty : Nat → TypeId) (E : Nat → List HE) (w : World) (hG : HInv w q V ty E) (hS : StQ E) (h1 : (E 1).length ≤ 5864062014720) (h8 : (E 8).length ≤ 5864062014720) :
    Calls Tryz.prog 17 #[.pointer (some ⟨q, 0, none⟩)] w fun e w' => e = .returned (.bool true) ∧ Below w.heap.size w w' := by
  have hemp : ∀ i, i / 2 ≠ 1 → i / 2 ≠ 8 → ∃ a c, V i = .slice a 0 c := fun i h0 h1 => by
    have hr := hG.row i
    have e : Go.Proofs.YtcgghlaifmlpiaaGreatDoor.hS E i = [] := by unfold Go.Proofs.YtcgghlaifmlpiaaGreatDoor.hS; rw [hS.no _ h0 h1]; simp
    rw [e] at hr
    exact hr.slice
  have HG : Hid (HInv w q V ty E) := hG
  obtain ⟨a0, c0, v0⟩ := hemp 0 (by decide) (by decide)
  have k0 := hG.cell (i := 0) (by omega)
  rw [v0] at k0
  obtain ⟨a1, c1, v1⟩ := hemp 1 (by decide) (by decide)
  have k1 := hG.cell (i := 1) (by omega)
  rw [v1] at k1
  have k2 := hG.cell (i := 2) (by omega)
  have R2 := hG.row 2
  obtain ⟨a2, c2, v2⟩ := R2.slice
  rw [show (Go.Proofs.YtcgghlaifmlpiaaGreatDoor.hS E 2).length = (E 1).length by show ((E 1).map HE.fst).length = _; simp] at v2
  rw [v2] at k2
  have R16 := hG.row 16
  obtain ⟨a16, c16, v16⟩ := R16.slice
  rw [show (Go.Proofs.YtcgghlaifmlpiaaGreatDoor.hS E 16).length = (E 8).length by show ((E 8).map HE.fst).length = _; simp] at v16
  clear hG R16 R2
  go_enter Tryz.func17, Tryz.ntmps17
  go_wp2
  go_loop [3] (fun i => i = .int .i64 0) (fun _ => 0)
  case atStart => rfl
  case round =>
    subst hrel
    go_wp2
    go_loopw [4] (fun i wr => ∃ (j : Nat), i = .int .i64 j ∧ j ≤ (E 1).length ∧ HInv wr q V ty E ∧ Below w.heap.size w wr) (fun i _ => (E 1).length - (intOf i).toNat)
    case atStart => exact ⟨0, rfl, Nat.zero_le _, HG.out, Below.refl _ _⟩
    case round =>
      clear HG k0 k1 k2
      obtain ⟨j, rfl, hj, hG, hst⟩ := hrel
      have k2 := hG.cell (i := 2) (by omega)
      rw [v2] at k2
      by_cases hlt : j < (E 1).length
      · obtain ⟨g, c, hLe, hcl⟩ := (hG.row 2).at j (E 1)[j].fst (by show ((E 1).map HE.fst)[j]? = _; simp [hlt])
        obtain ⟨g2, c2, hWe, hcw⟩ := (hG.row 3).at j (E 1)[j].snd (by show ((E 1).map HE.snd)[j]? = _; simp [hlt])
        rw [show (Go.Proofs.YtcgghlaifmlpiaaGreatDoor.hS E 3).length = (E 1).length by show ((E 1).map HE.snd).length = _; simp] at hWe
        have k3 := hG.cell (i := 3) (by omega)
        rw [hWe] at k3
        rw [v2] at hLe
        simp only [Value.slice.injEq] at hLe
        obtain ⟨rfl, _, rfl⟩ := hLe
        obtain ⟨zs, hN, HR⟩ := HE.intRowsq (hG.at_ 1 _ (List.getElem_mem hlt)) (hS.int _ (List.getElem_mem hlt))
        have HL : Hid (zs.length ≤ 140737488355328) := by have := (hG.at_ 1 _ (List.getElem_mem hlt)).lim; show _ ≤ _; omega
        generalize (E 1)[j] = x at *
        obtain ⟨xt, xz, xg, xN, xa, xc, xcs⟩ := x
        simp only [HE.fst, HE.snd] at hcl hcw hN HR
        subst hN
        have HR' : Hid (∀ n, InRow (wr.drewN n) (some ⟨xg, 0, none⟩) zs ∧ InRow (wr.drewN n) xa zs) := HR
        clear HR
        go_wp2
        go_quiet ((go_at_call 16; (exact Calls.quiet_of (sameints_g (some ⟨xg, 0, none⟩) xa zs.length zs.length zs.length xc zs (wr.drewN _) rfl rfl HL.out (HR'.out _).1 (HR'.out _).2))))
        go_wp2
        go_roundw
        case rel => exact ⟨j + 1, by go_num, by omega, hG.later (below_drewN (Below.refl _ _) _), below_drewN hst _⟩
        case measure => simp [intOf]; omega
      · have HG : Hid (HInv wr q V ty E) := hG
        obtain ⟨a4, c4, v4⟩ := hemp 4 (by decide) (by decide)
        have k4 := hG.cell (i := 4) (by omega)
        rw [v4] at k4
        obtain ⟨a6, c6, v6⟩ := hemp 6 (by decide) (by decide)
        have k6 := hG.cell (i := 6) (by omega)
        rw [v6] at k6
        obtain ⟨a8, c8, v8⟩ := hemp 8 (by decide) (by decide)
        have k8 := hG.cell (i := 8) (by omega)
        rw [v8] at k8
        obtain ⟨a10, c10, v10⟩ := hemp 10 (by decide) (by decide)
        have k10 := hG.cell (i := 10) (by omega)
        rw [v10] at k10
        obtain ⟨a12, c12, v12⟩ := hemp 12 (by decide) (by decide)
        have k12 := hG.cell (i := 12) (by omega)
        rw [v12] at k12
        obtain ⟨a14, c14, v14⟩ := hemp 14 (by decide) (by decide)
        have k14 := hG.cell (i := 14) (by omega)
        rw [v14] at k14
        have k16 := hG.cell (i := 16) (by omega)
        rw [v16] at k16
        clear hG
        obtain ⟨wz, rfl⟩ : ∃ wz : World, wz = wr := ⟨_, rfl⟩
        go_wp2
        go_loop [5] (fun i => i = .int .i64 0) (fun _ => 0)
        case atStart => rfl
        case round =>
          subst hrel
          go_wp2
          go_loop [6] (fun i => i = .int .i64 0) (fun _ => 0)
          case atStart => rfl
          case round =>
            subst hrel
            go_wp2
            go_loop [7] (fun i => i = .int .i64 0) (fun _ => 0)
            case atStart => rfl
            case round =>
              subst hrel
              go_wp2
              go_loop [8] (fun i => i = .int .i64 0) (fun _ => 0)
              case atStart => rfl
              case round =>
                subst hrel
                go_wp2
                go_loop [9] (fun i => i = .int .i64 0) (fun _ => 0)
                case atStart => rfl
                case round =>
                  subst hrel
                  go_wp2
                  go_loop [10] (fun i => i = .int .i64 0) (fun _ => 0)
                  case atStart => rfl
                  case round =>
                    subst hrel
                    go_wp2
                    go_loopw [11] (fun i wr => ∃ (j : Nat), i = .int .i64 j ∧ j ≤ (E 8).length ∧ HInv wr q V ty E ∧ Below w.heap.size w wr) (fun i _ => (E 8).length - (intOf i).toNat)
                    case atStart => exact ⟨0, rfl, Nat.zero_le _, HG.out, hst⟩
                    case round =>
                      clear HG k2 k4 k6 k8 k10 k12 k14 k16 hst hlt hj
                      obtain ⟨j, rfl, hj, hG, hst⟩ := hrel
                      have k16 := hG.cell (i := 16) (by omega)
                      rw [v16] at k16
                      by_cases hlt : j < (E 8).length
                      · obtain ⟨g, c, hLe, hcl⟩ := (hG.row 16).at j (E 8)[j].fst (by show ((E 8).map HE.fst)[j]? = _; simp [hlt])
                        obtain ⟨g2, c2, hWe, hcw⟩ := (hG.row 17).at j (E 8)[j].snd (by show ((E 8).map HE.snd)[j]? = _; simp [hlt])
                        rw [show (Go.Proofs.YtcgghlaifmlpiaaGreatDoor.hS E 17).length = (E 8).length by show ((E 8).map HE.snd).length = _; simp] at hWe
                        have k17 := hG.cell (i := 17) (by omega)
                        rw [hWe] at k17
                        rw [v16] at hLe
                        simp only [Value.slice.injEq] at hLe
                        obtain ⟨rfl, _, rfl⟩ := hLe
                        obtain ⟨zs, hN, HR⟩ := HE.pairRows (hG.at_ 8 _ (List.getElem_mem hlt)) (hS.pair _ (List.getElem_mem hlt))
                        have HL : Hid (zs.length ≤ 140737488355328) := by have := (hG.at_ 8 _ (List.getElem_mem hlt)).lim; show _ ≤ _; omega
                        generalize (E 8)[j] = x at *
                        obtain ⟨xt, xz, xg, xN, xa, xc, xcs⟩ := x
                        simp only [HE.fst, HE.snd] at hcl hcw hN HR
                        subst hN
                        have HR' : Hid (∀ n, PrsB (wr.drewN n) (some ⟨xg, 0, none⟩) zs ∧ PrsB (wr.drewN n) xa zs) := HR
                        clear HR
                        go_wp2
                        go_quiet ((go_at_call 13; (exact Calls.quiet_of (samepairs_h (some ⟨xg, 0, none⟩) xa zs.length zs.length zs.length xc zs (wr.drewN _) rfl rfl HL.out (HR'.out _).1 (HR'.out _).2))))
                        go_wp2
                        go_roundw
                        case rel => exact ⟨j + 1, by go_num, by omega, hG.later (below_drewN (Below.refl _ _) _), below_drewN hst _⟩
                        case measure => simp [intOf]; omega
                      · obtain ⟨a18, c18, v18⟩ := hemp 18 (by decide) (by decide)
                        have k18 := hG.cell (i := 18) (by omega)
                        rw [v18] at k18
                        obtain ⟨a20, c20, v20⟩ := hemp 20 (by decide) (by decide)
                        have k20 := hG.cell (i := 20) (by omega)
                        rw [v20] at k20
                        obtain ⟨a21, c21, v21⟩ := hemp 21 (by decide) (by decide)
                        have k21 := hG.cell (i := 21) (by omega)
                        rw [v21] at k21
                        clear hG
                        go_wp2
                        go_loop [12] (fun i => i = .int .i64 0) (fun _ => 0)
                        case atStart => rfl
                        case round =>
                          subst hrel
                          go_wp2
                          go_quiet ((go_at_call 48; (exact Calls.quiet_of_same (sametrees_q _ _ _ _ _))))
                          go_wp2
                          go_ret
                          exact ⟨rfl, below_drewN hst _⟩
end Go.Proofs.YtcgghlaifmlpiaaGreatDoor
namespace Go.Proofs.YtcgghlaifmlpiaaGreatDoor
set_option linter.unusedVariables false
open Go.RowKit Go.Shelf

theorem dig_any {w : World} (n most : Int) (fa : Option Addr) (fc : Nat) (F : List (List Int)) (hF : LrwB w fa F) (hFl : F.length ≤ 140737488355328) (hFs : ∀ l ∈ F, l.length ≤ 140737488355328) (ea : Option Addr) (ec : Nat) (E : List (Int × Int)) (hE : PrsB w ea E) (hEl : E.length ≤ 140737488355328) :
    Calls Tryz.prog 21 #[.int .i64 n, .int .i64 most, .slice fa F.length fc, .slice ea E.length ec] w (DpA w n most F E) := by
  by_cases h0 : rgE n E = 0
  · by_cases h1 : (most < 0 ∨ 4096 < most) ∨ ((0 ≤ most ∧ most ≤ 4096) ∧ (F.length : Int) ≠ n)
    · exact dig_no2 n most fa fc F hFl ea ec E hE hEl h0 h1
    · obtain ⟨m, rfl⟩ : ∃ m : Nat, most = (m : Int) := ⟨most.toNat, by omega⟩
      have hn : n = (F.length : Int) := by omega
      subst hn
      exact dig_yes (by omega) fa fc F hF rfl hFs ea ec E hE hEl h0
  · exact dig_no1 n most fa F.length fc F ea ec E hE hEl h0
theorem ed_same {E : List (Int × Int)} {n : Nat} {Ns : List Nat} (hN : RelB E n Ns) (hok : E.all (okE n) = true) (a b : Nat) : EdB Ns n a b ↔ EdE E a b := by
  constructor
  · rintro ⟨h1, h2, h3⟩
    rw [hN.bit a b h1 h2] at h3
    unfold hasE at h3
    obtain ⟨p, hp, hq⟩ := List.any_eq_true.1 h3
    simp only [Bool.and_eq_true, decide_eq_true_iff] at hq
    obtain ⟨p1, p2⟩ := p
    simp only at hq
    rw [hq.1, hq.2] at hp
    exact hp
  · intro h
    have hk := List.all_eq_true.1 hok _ h
    unfold okE at hk
    simp only [Bool.and_eq_true, decide_eq_true_iff] at hk
    refine ⟨by omega, by omega, ?_⟩
    rw [hN.bit a b (by omega) (by omega)]
    unfold hasE
    exact List.any_eq_true.2 ⟨_, h, by simp⟩
theorem tr_same {E : List (Int × Int)} {n : Nat} {Ns : List Nat} (hN : RelB E n Ns) (hok : E.all (okE n) = true) (a b : Nat) : Relation.TransGen (EdB Ns n) a b ↔ TrE E a b := by
  constructor
  · intro h
    induction h with
    | single e => exact .single ((ed_same hN hok _ _).1 e)
    | tail _ e ih => exact ih.tail ((ed_same hN hok _ _).1 e)
  · intro h
    induction h with
    | single e => exact .single ((ed_same hN hok _ _).2 e)
    | tail _ e ih => exact ih.tail ((ed_same hN hok _ _).2 e)
theorem rch_same {E : List (Int × Int)} {n : Nat} {Ns : List Nat} {Rs : List (List Bool)} (hN : RelB E n Ns) (hok : E.all (okE n) = true) (hR : RxR E n Rs) {x : Nat} (hx : x < n) (y : Nat) : cnR Rs x y = true ↔ RchB Ns n x y := by
  unfold cnR RchB
  rw [Bool.or_eq_true, decide_eq_true_iff, hR.bit x y hx, tr_same hN hok]
theorem row_same {E : List (Int × Int)} {F : List (List Int)} {n m : Nat} {Ns Fs Ms : List Nat} {Rs : List (List Bool)} (hN : RelB E n Ns) (hok : E.all (okE n) = true) (hF : FsB F n m Fs) (hM : SolB Ns Fs n Ms) (hR : RxR E n Rs) {x : Nat} (hx : x < n) : dlR F Rs n m x = nI (bitsU (Ms.getD x 0) m) := by
  unfold dlR bitsU
  congr 1
  apply List.filter_congr
  intro j hj
  have hj := List.mem_range.1 hj
  rw [Bool.eq_iff_iff, hM.bit x hx j]
  simp only [List.any_eq_true, List.mem_range, Bool.and_eq_true, decide_eq_true_iff]
  constructor
  · rintro ⟨y, q1, q2, q3⟩
    exact ⟨y, (rch_same hN hok hR hx y).1 q2, (hF.bit y q1 j).2 ⟨hj, q3⟩⟩
  · rintro ⟨y, q1, q2⟩
    have hy := q1.lt hx
    exact ⟨y, hy, (rch_same hN hok hR hx y).2 q1, ((hF.bit y hy j).1 q2).2⟩
theorem DgO.same {n most : Int} {F : List (List Int)} {E : List (Int × Int)} {k m : Nat} {Ms : List Nat} {Rs : List (List Bool)} (h : DgO n most F E k m Ms) (hR : RxR E k Rs) : (List.range k).map (dlR F Rs k m) = (List.range k).map fun x => nI (bitsU (Ms.getD x 0) m) := by
  obtain ⟨Ns, Fs, hN, hF, hM⟩ := h.ex
  apply List.map_congr_left
  intro x hx
  exact row_same hN h.ok hF hM hR (List.mem_range.1 hx)
theorem LrB.lrw {w : World} {a : Option Addr} {V : List SlV} {D : List (List Nat)} (h : LrB w a V D) : LrwB w a (D.map nI) := by
  intro hne
  have hD : 0 < D.length := by
    rcases Nat.eq_zero_or_pos D.length with e | e
    · rw [List.eq_nil_of_length_eq_zero e] at hne; simp at hne
    · exact e
  obtain ⟨b, off, xa, xc, e1, hb, _, _⟩ := h.at (i := 0) hD
  refine ⟨b, off, e1, hb, fun i hi => ?_⟩
  have hi' : i < D.length := by simpa using hi
  obtain ⟨b', off', ya, yc, e2, _, h1, h2⟩ := h.at (i := i) hi'
  rw [e1] at e2
  simp only [Option.some.injEq, Addr.mk.injEq, and_true] at e2
  obtain ⟨rfl, rfl⟩ := e2
  have e : (D.map nI).getD i [] = nI (D.getD i []) := by simp [List.getD, hi']
  rw [e, nI_len]
  exact ⟨ya, yc, h1, h2⟩
set_option maxRecDepth 100000 in
set_option maxHeartbeats 2000000 in
theorem samelists_q (aa ba : Option Addr) (n ca cb : Nat) (L : List (List Int)) (w : World) (hn : n = L.length) (hl : L.length ≤ 1048576) (hll : ∀ l ∈ L, l.length ≤ 140737488355328) (hr : LrwB w aa L) (hs : LrwB w ba L) :
    Calls Tryz.prog 15 #[.slice aa n ca, .slice ba n cb] w fun e w' => e = .returned (.bool true) ∧ Below w.heap.size w w' := by
  subst hn
  have hb : ((L.length : Int) != L.length) = false := by simp
  have HR : Hid (∀ w', Below w.heap.size w w' → LrwB w' aa L ∧ LrwB w' ba L) := fun w' hb => ⟨hr.later hb, hs.later hb⟩
  have HLL : Hid (∀ l ∈ L, l.length ≤ 140737488355328) := hll
  clear hr hs hll
  go_enter Tryz.func15, Tryz.ntmps15
  go_wp2
  go_loopw [5] (fun i wr => ∃ k : Nat, k ≤ L.length ∧ i = .int .i64 k ∧ Below w.heap.size w wr) (fun i _ => L.length - (intOf i).toNat)
  case atStart => exact ⟨0, Nat.zero_le _, rfl, Below.refl _ _⟩
  case round =>
    obtain ⟨k, hk, rfl, hbw⟩ := hrel
    have HB : Hid (Below w.heap.size w wr) := hbw
    by_cases hlt : k < L.length
    · have klt : (k : Int) < (L.length : Int) := by omega
      obtain ⟨ab, ao, la, lc, hae, hab, c0, hrow⟩ := (HR.out wr hbw).1.atR hlt
      obtain ⟨bb, bo, ma, mc, hbe, hbb, c1, hrow2⟩ := (HR.out wr hbw).2.atR hlt
      have hrl := HLL.out (L.getD k []) (by simp [List.getD, hlt])
      generalize L.getD k [] = l at *
      have HRW : Hid (∀ d, InRow (wr.drewN d) la l ∧ InRow (wr.drewN d) ma l) := fun d => ⟨hrow.laterR (below_drewN (Below.refl _ _) d), hrow2.laterR (below_drewN (Below.refl _ _) d)⟩
      subst hae hbe
      clear hbw hrow hrow2
      go_wp2
      go_quiet ((go_at_call 16; (exact Calls.quiet_of (sameints_g la ma l.length l.length lc mc l (wr.drewN _) rfl rfl hrl (HRW.out _).1 (HRW.out _).2))))
      go_wp2
      go_roundw
      case rel => exact ⟨k + 1, by omega, by go_num, below_drewN HB.out _⟩
      case measure => simp [intOf]; omega
    · have klt : ¬ (k : Int) < (L.length : Int) := by omega
      clear hbw
      go_wp2
      go_ret
      exact ⟨rfl, HB.out⟩
end Go.Proofs.YtcgghlaifmlpiaaGreatDoor
