import Derived.Test.YtboabidokkghbaaGreatHByteToGIntactB
import Derived.Test.YtboabidokkghbaaGreatHBool
import Derived.Test.YtboabidokkghbaaGreatFThyToFSame
import Derived.Test.YtboabidokkghbaaGreatGG1ToGWB
import Derived.Test.YtboabidokkghbaaGreatFRoundToFChk6
namespace Go.Proofs.YtboabidokkghbaaGreat
set_option linter.unusedVariables false
open Go.RowKit

/-- Only numbers, texts, truths and symbols were handed in. -/
structure StL (E : Nat → List HE) : Prop where
  int : ∀ e ∈ E 1, e.t = 3 ∧ e.sz = 1 ∧ ∃ zs : List Int, e.cs = zs.map (Value.int .i64 ·)
  str : ∀ e ∈ E 2, e.t = 9 ∧ e.sz = 1 ∧ ∃ zs : List ByteArray, e.cs = zs.map Value.string
  bool : ∀ e ∈ E 3, e.t = 4 ∧ e.sz = 1 ∧ ∃ zs : List Bool, e.cs = zs.map (Value.bool ·)
  sym : ∀ e ∈ E 4, e.t = 116 ∧ e.sz = 2 ∧ ∃ zs : List (Int × Int), e.cs = symCells zs
  no : ∀ κ, κ ≠ 1 → κ ≠ 2 → κ ≠ 3 → κ ≠ 4 → E κ = []
theorem HE.boolRows {w : World} {e : HE} (h : e.At w) (ht : e.t = 4 ∧ e.sz = 1 ∧ ∃ zs : List Bool, e.cs = zs.map (Value.bool ·)) : ∃ zs : List Bool, e.N = zs.length ∧ ∀ n, BRow (w.drewN n) (some ⟨e.g, 0, none⟩) zs ∧ BRow (w.drewN n) e.a zs := by
  obtain ⟨t1, t2, zs, hz⟩ := ht
  obtain ⟨t, sz, g, N, a, c, cs⟩ := e
  simp only at t1 t2 hz
  subst t1 t2 hz
  have hN : N = zs.length := by have := h.len; simpa using this.symm
  refine ⟨zs, hN, fun n => ?_⟩
  have hk := h.later (below_drewN (Below.refl _ _) n)
  have hil : BL (w.drewN n) (.slice a N c) zs := by have := hk.own; unfold BL; rw [← hN]; exact this
  refine ⟨FullU.row ⟨hk.hg⟩, ?_⟩
  intro hne
  rcases hil.2 with ⟨e, h0⟩ | ⟨g2, cap, cur, e, h1, h2, h3⟩
  · exact absurd (List.eq_nil_of_length_eq_zero h0) hne
  · have hc := fun j x hx => World.ownsRow.cells hil (g := g2) (by rw [e]; rfl) j x hx
    cases e
    refine ⟨g2, 0, rfl, lt_of_block h2, fun i hi => ?_⟩
    have r1 := hc i (.bool (zs.getD i false)) (by simp [List.getD, hi])
    rw [add_none] at r1
    exact r1
set_option maxRecDepth 100000 in
set_option maxHeartbeats 8000000 in
theorem gintactL (q : Nat) (V : Nat → Value) (ty : Nat → TypeId) (E : Nat → List HE) (w : World) (hG : HInv w q V ty E) (hS : StL E) (h1 : (E 1).length ≤ 5000000000000) (h2 : (E 2).length ≤ 5000000000000) (h3 : (E 3).length ≤ 5000000000000) (h4 : (E 4).length ≤ 5000000000000) :
    Calls Tryz.prog 12 #[.pointer (some ⟨q, 0, none⟩)] w fun e w' => e = .returned (.bool true) ∧ Below w.heap.size w w' := by
  have hemp : ∀ i, i / 2 ≠ 1 → i / 2 ≠ 2 → i / 2 ≠ 3 → i / 2 ≠ 4 → ∃ a c, V i = .slice a 0 c := fun i h0 h1 h2 h3 => by
    have hr := hG.row i
    have e : Go.Proofs.YtboabidokkghbaaGreat.hS E i = [] := by unfold Go.Proofs.YtboabidokkghbaaGreat.hS; rw [hS.no _ h0 h1 h2 h3]; simp
    rw [e] at hr
    exact hr.slice
  have HG : Hid (HInv w q V ty E) := hG
  obtain ⟨a0, c0, v0⟩ := hemp 0 (by decide) (by decide) (by decide) (by decide)
  have k0 := hG.cell (i := 0) (by omega)
  rw [v0] at k0
  obtain ⟨a1, c1, v1⟩ := hemp 1 (by decide) (by decide) (by decide) (by decide)
  have k1 := hG.cell (i := 1) (by omega)
  rw [v1] at k1
  have k2 := hG.cell (i := 2) (by omega)
  have R2 := hG.row 2
  obtain ⟨a2, c2, v2⟩ := R2.slice
  rw [show (Go.Proofs.YtboabidokkghbaaGreat.hS E 2).length = (E 1).length by show ((E 1).map HE.fst).length = _; simp] at v2
  rw [v2] at k2
  have R4 := hG.row 4
  obtain ⟨a4, c4, v4⟩ := R4.slice
  rw [show (Go.Proofs.YtboabidokkghbaaGreat.hS E 4).length = (E 2).length by show ((E 2).map HE.fst).length = _; simp] at v4
  clear hG R4 R2
  go_enter Tryz.func12, Tryz.ntmps12
  go_wp2
  go_loop [3] (fun i => i = .int .i64 0) (fun _ => 0)
  case atStart => rfl
  case round =>
    subst hrel
    go_wp2
    go_loopw [4] (fun i wr => ∃ (j : Nat), i = .int .i64 j ∧ j ≤ (E 1).length ∧ HInv wr q V ty E ∧ Below w.heap.size w wr) (fun i _ => (E 1).length - (intOf i).toNat)
    case atStart => exact ⟨0, rfl, Nat.zero_le _, HG.out, Below.refl _ _⟩
    case round =>
      clear HG k0 k1 k2
      obtain ⟨j, rfl, hj, hG, hst⟩ := hrel
      have k2 := hG.cell (i := 2) (by omega)
      rw [v2] at k2
      by_cases hlt : j < (E 1).length
      · obtain ⟨g, c, hLe, hcl⟩ := (hG.row 2).at j (E 1)[j].fst (by show ((E 1).map HE.fst)[j]? = _; simp [hlt])
        obtain ⟨g2, c2, hWe, hcw⟩ := (hG.row 3).at j (E 1)[j].snd (by show ((E 1).map HE.snd)[j]? = _; simp [hlt])
        rw [show (Go.Proofs.YtboabidokkghbaaGreat.hS E 3).length = (E 1).length by show ((E 1).map HE.snd).length = _; simp] at hWe
        have k3 := hG.cell (i := 3) (by omega)
        rw [hWe] at k3
        rw [v2] at hLe
        simp only [Value.slice.injEq] at hLe
        obtain ⟨rfl, _, rfl⟩ := hLe
        obtain ⟨zs, hN, HR⟩ := HE.intRows (hG.at_ 1 _ (List.getElem_mem hlt)) (hS.int _ (List.getElem_mem hlt))
        have HL : Hid (zs.length ≤ 140737488355328) := by have := (hG.at_ 1 _ (List.getElem_mem hlt)).lim; show _ ≤ _; omega
        generalize (E 1)[j] = x at *
        obtain ⟨xt, xz, xg, xN, xa, xc, xcs⟩ := x
        simp only [HE.fst, HE.snd] at hcl hcw hN HR
        subst hN
        have HR' : Hid (∀ n, InRow (wr.drewN n) (some ⟨xg, 0, none⟩) zs ∧ InRow (wr.drewN n) xa zs) := HR
        clear HR
        go_wp2
        go_quiet ((go_at_call 20; (exact Calls.quiet_of (sameints_g (some ⟨xg, 0, none⟩) xa zs.length zs.length zs.length xc zs (wr.drewN _) rfl rfl HL.out (HR'.out _).1 (HR'.out _).2))))
        go_wp2
        go_roundw
        case rel => exact ⟨j + 1, by go_num, by omega, hG.later (below_drewN (Below.refl _ _) _), below_drewN hst _⟩
        case measure => simp [intOf]; omega
      · have HG : Hid (HInv wr q V ty E) := hG
        have k4 := hG.cell (i := 4) (by omega)
        rw [v4] at k4
        clear hG
        obtain ⟨wz, rfl⟩ : ∃ wz : World, wz = wr := ⟨_, rfl⟩
        go_wp2
        go_loopw [5] (fun i wr => ∃ (j : Nat), i = .int .i64 j ∧ j ≤ (E 2).length ∧ HInv wr q V ty E ∧ Below w.heap.size w wr) (fun i _ => (E 2).length - (intOf i).toNat)
        case atStart => exact ⟨0, rfl, Nat.zero_le _, HG.out, hst⟩
        case round =>
          clear HG k2 k4 hst hlt hj
          obtain ⟨j, rfl, hj, hG, hst⟩ := hrel
          have k4 := hG.cell (i := 4) (by omega)
          rw [v4] at k4
          by_cases hlt : j < (E 2).length
          · obtain ⟨g, c, hLe, hcl⟩ := (hG.row 4).at j (E 2)[j].fst (by show ((E 2).map HE.fst)[j]? = _; simp [hlt])
            obtain ⟨g2, c2, hWe, hcw⟩ := (hG.row 5).at j (E 2)[j].snd (by show ((E 2).map HE.snd)[j]? = _; simp [hlt])
            rw [show (Go.Proofs.YtboabidokkghbaaGreat.hS E 5).length = (E 2).length by show ((E 2).map HE.snd).length = _; simp] at hWe
            have k5 := hG.cell (i := 5) (by omega)
            rw [hWe] at k5
            rw [v4] at hLe
            simp only [Value.slice.injEq] at hLe
            obtain ⟨rfl, _, rfl⟩ := hLe
            obtain ⟨zs, hN, HR⟩ := HE.strRows (hG.at_ 2 _ (List.getElem_mem hlt)) (hS.str _ (List.getElem_mem hlt))
            have HL : Hid (zs.length ≤ 140737488355328) := by have := (hG.at_ 2 _ (List.getElem_mem hlt)).lim; show _ ≤ _; omega
            generalize (E 2)[j] = x at *
            obtain ⟨xt, xz, xg, xN, xa, xc, xcs⟩ := x
            simp only [HE.fst, HE.snd] at hcl hcw hN HR
            subst hN
            have HR' : Hid (∀ n, StrRow (wr.drewN n) (some ⟨xg, 0, none⟩) zs ∧ StrRow (wr.drewN n) xa zs) := HR
            clear HR
            go_wp2
            go_quiet ((go_at_call 43; (exact Calls.quiet_of (samestrs_h (some ⟨xg, 0, none⟩) xa zs.length zs.length zs.length xc zs (wr.drewN _) rfl rfl HL.out (HR'.out _).1 (HR'.out _).2))))
            go_wp2
            go_roundw
            case rel => exact ⟨j + 1, by go_num, by omega, hG.later (below_drewN (Below.refl _ _) _), below_drewN hst _⟩
            case measure => simp [intOf]; omega
          · have HG : Hid (HInv wr q V ty E) := hG
            have k6 := hG.cell (i := 6) (by omega)
            obtain ⟨a6, c6, v6⟩ := (hG.row 6).slice
            rw [show (Go.Proofs.YtboabidokkghbaaGreat.hS E 6).length = (E 3).length by show ((E 3).map HE.fst).length = _; simp] at v6
            rw [v6] at k6
            clear hG
            obtain ⟨wy, rfl⟩ : ∃ wy : World, wy = wr := ⟨_, rfl⟩
            go_wp2
            go_loopw [6] (fun i wr => ∃ (j : Nat), i = .int .i64 j ∧ j ≤ (E 3).length ∧ HInv wr q V ty E ∧ Below w.heap.size w wr) (fun i _ => (E 3).length - (intOf i).toNat)
            case atStart => exact ⟨0, rfl, Nat.zero_le _, HG.out, hst⟩
            case round =>
              clear HG k4 k6 hst hlt hj
              obtain ⟨j, rfl, hj, hG, hst⟩ := hrel
              have k6 := hG.cell (i := 6) (by omega)
              rw [v6] at k6
              by_cases hlt : j < (E 3).length
              · obtain ⟨g, c, hLe, hcl⟩ := (hG.row 6).at j (E 3)[j].fst (by show ((E 3).map HE.fst)[j]? = _; simp [hlt])
                obtain ⟨g2, c2, hWe, hcw⟩ := (hG.row 7).at j (E 3)[j].snd (by show ((E 3).map HE.snd)[j]? = _; simp [hlt])
                rw [show (Go.Proofs.YtboabidokkghbaaGreat.hS E 7).length = (E 3).length by show ((E 3).map HE.snd).length = _; simp] at hWe
                have k7 := hG.cell (i := 7) (by omega)
                rw [hWe] at k7
                rw [v6] at hLe
                simp only [Value.slice.injEq] at hLe
                obtain ⟨rfl, _, rfl⟩ := hLe
                obtain ⟨zs, hN, HR⟩ := HE.boolRows (hG.at_ 3 _ (List.getElem_mem hlt)) (hS.bool _ (List.getElem_mem hlt))
                have HL : Hid (zs.length ≤ 140737488355328) := by have := (hG.at_ 3 _ (List.getElem_mem hlt)).lim; show _ ≤ _; omega
                generalize (E 3)[j] = x at *
                obtain ⟨xt, xz, xg, xN, xa, xc, xcs⟩ := x
                simp only [HE.fst, HE.snd] at hcl hcw hN HR
                subst hN
                have HR' : Hid (∀ n, BRow (wr.drewN n) (some ⟨xg, 0, none⟩) zs ∧ BRow (wr.drewN n) xa zs) := HR
                clear HR
                go_wp2
                go_quiet ((go_at_call 15; (exact Calls.quiet_of (samebools_S (some ⟨xg, 0, none⟩) xa zs.length xc zs (wr.drewN _) HL.out (HR'.out _).1 (HR'.out _).2))))
                go_wp2
                go_roundw
                case rel => exact ⟨j + 1, by go_num, by omega, hG.later (below_drewN (Below.refl _ _) _), below_drewN hst _⟩
                case measure => simp [intOf]; omega
              · have HG : Hid (HInv wr q V ty E) := hG
                have k8 := hG.cell (i := 8) (by omega)
                obtain ⟨a8, c8, v8⟩ := (hG.row 8).slice
                rw [show (Go.Proofs.YtboabidokkghbaaGreat.hS E 8).length = (E 4).length by show ((E 4).map HE.fst).length = _; simp] at v8
                rw [v8] at k8
                clear hG
                obtain ⟨wo, rfl⟩ : ∃ wo : World, wo = wr := ⟨_, rfl⟩
                go_wp2
                go_loopw [7] (fun i wr => ∃ (j : Nat), i = .int .i64 j ∧ j ≤ (E 4).length ∧ HInv wr q V ty E ∧ Below w.heap.size w wr) (fun i _ => (E 4).length - (intOf i).toNat)
                case atStart => exact ⟨0, rfl, Nat.zero_le _, HG.out, hst⟩
                case round =>
                  clear HG k6 k8 hst hlt hj
                  obtain ⟨j, rfl, hj, hG, hst⟩ := hrel
                  have k8 := hG.cell (i := 8) (by omega)
                  rw [v8] at k8
                  by_cases hlt : j < (E 4).length
                  · obtain ⟨g, c, hLe, hcl⟩ := (hG.row 8).at j (E 4)[j].fst (by show ((E 4).map HE.fst)[j]? = _; simp [hlt])
                    obtain ⟨g2, c2, hWe, hcw⟩ := (hG.row 9).at j (E 4)[j].snd (by show ((E 4).map HE.snd)[j]? = _; simp [hlt])
                    rw [show (Go.Proofs.YtboabidokkghbaaGreat.hS E 9).length = (E 4).length by show ((E 4).map HE.snd).length = _; simp] at hWe
                    have k9 := hG.cell (i := 9) (by omega)
                    rw [hWe] at k9
                    rw [v8] at hLe
                    simp only [Value.slice.injEq] at hLe
                    obtain ⟨rfl, _, rfl⟩ := hLe
                    obtain ⟨zs, hN, HR⟩ := HE.symRows (hG.at_ 4 _ (List.getElem_mem hlt)) (hS.sym _ (List.getElem_mem hlt))
                    have HL : Hid (zs.length ≤ 140737488355328) := by have := (hG.at_ 4 _ (List.getElem_mem hlt)).lim; show _ ≤ _; omega
                    generalize (E 4)[j] = x at *
                    obtain ⟨xt, xz, xg, xN, xa, xc, xcs⟩ := x
                    simp only [HE.fst, HE.snd] at hcl hcw hN HR
                    subst hN
                    have HR' : Hid (∀ n, SymRow (wr.drewN n) (some ⟨xg, 0, none⟩) zs ∧ SymRow (wr.drewN n) xa zs) := HR
                    clear HR
                    go_wp2
                    go_quiet ((go_at_call 44; (exact Calls.quiet_of (samesyms_h (some ⟨xg, 0, none⟩) xa zs.length zs.length zs.length xc zs (wr.drewN _) rfl rfl HL.out (HR'.out _).1 (HR'.out _).2))))
                    go_wp2
                    go_roundw
                    case rel => exact ⟨j + 1, by go_num, by omega, hG.later (below_drewN (Below.refl _ _) _), below_drewN hst _⟩
                    case measure => simp [intOf]; omega
                  · have hgo := hlt
                    obtain ⟨a10, c10, v10⟩ := hemp 10 (by decide) (by decide) (by decide) (by decide)
                    have k10 := hG.cell (i := 10) (by omega)
                    rw [v10] at k10
                    obtain ⟨a12, c12, v12⟩ := hemp 12 (by decide) (by decide) (by decide) (by decide)
                    have k12 := hG.cell (i := 12) (by omega)
                    rw [v12] at k12
                    obtain ⟨a14, c14, v14⟩ := hemp 14 (by decide) (by decide) (by decide) (by decide)
                    have k14 := hG.cell (i := 14) (by omega)
                    rw [v14] at k14
                    obtain ⟨a16, c16, v16⟩ := hemp 16 (by decide) (by decide) (by decide) (by decide)
                    have k16 := hG.cell (i := 16) (by omega)
                    rw [v16] at k16
                    obtain ⟨a18, c18, v18⟩ := hemp 18 (by decide) (by decide) (by decide) (by decide)
                    have k18 := hG.cell (i := 18) (by omega)
                    rw [v18] at k18
                    obtain ⟨a20, c20, v20⟩ := hemp 20 (by decide) (by decide) (by decide) (by decide)
                    have k20 := hG.cell (i := 20) (by omega)
                    rw [v20] at k20
                    obtain ⟨a21, c21, v21⟩ := hemp 21 (by decide) (by decide) (by decide) (by decide)
                    have k21 := hG.cell (i := 21) (by omega)
                    rw [v21] at k21
                    clear hG
                    go_wp2
                    go_loop [8] (fun i => i = .int .i64 0) (fun _ => 0)
                    case atStart => rfl
                    case round =>
                      subst hrel
                      go_wp2
                      go_loop [9] (fun i => i = .int .i64 0) (fun _ => 0)
                      case atStart => rfl
                      case round =>
                        subst hrel
                        go_wp2
                        go_loop [10] (fun i => i = .int .i64 0) (fun _ => 0)
                        case atStart => rfl
                        case round =>
                          subst hrel
                          go_wp2
                          go_loop [11] (fun i => i = .int .i64 0) (fun _ => 0)
                          case atStart => rfl
                          case round =>
                            subst hrel
                            go_wp2
                            go_loop [12] (fun i => i = .int .i64 0) (fun _ => 0)
                            case atStart => rfl
                            case round =>
                              subst hrel
                              go_wp2
                              go_quiet ((go_at_call 50; (exact Calls.quiet_of_same (sametrees_h _ _ _ _ _))))
                              go_wp2
                              go_ret
                              exact ⟨rfl, below_drewN hst _⟩
end Go.Proofs.YtboabidokkghbaaGreat
namespace Go.Proofs.YtboabidokkghbaaGreat
set_option linter.unusedVariables false
open Go.RowKit

theorem okT_bool : OkT 4 := by unfold OkT; decide
/-- Truths at the head of a block. -/
def UB (w : World) (g : Nat) (xs : List Bool) : Prop := ∃ zs : List Bool, w.heap[g]? = some (.cells (zs.map (Value.bool ·)).toArray 4 (0, 0)) ∧ zs.take xs.length = xs
theorem UB.oth {w w' : World} {g : Nat} {xs : List Bool} (h : UB w g xs) (ho : Oth w w') : UB w' g xs := by obtain ⟨zs, h1, h2⟩ := h; exact ⟨zs, (ho.blk _ _ _ h1 okT_bool).trans h1, h2⟩
theorem UB.row {w : World} {g : Nat} {xs : List Bool} (h : UB w g xs) : BRow w (some ⟨g, 0, none⟩) xs := by
  obtain ⟨zs, h1, h2⟩ := h
  refine fun _ => ⟨g, 0, rfl, lt_of_block h1, fun i hi => ?_⟩
  obtain ⟨hz, e⟩ := take_getD (d := false) h2 hi
  rw [Nat.zero_add, cellq_any h1, e]
  simp [List.getD, hz]
/-- A Given that was handed numbers, texts, truths and symbols, its blocks from B on. -/
structure HK (B : Nat) (w0 w : World) (q : Nat) (V : Nat → Value) (E : Nat → List HE) (n1 n2 n3 n4 : Nat) : Prop where
  inv : HInv w q V tyG E
  lo : ∀ i k, (V i).ownBlock = some k → B ≤ k
  q : B ≤ q
  bel : Below B w0 w
  sz : B ≤ w.heap.size
  st : StL E
  l1 : (E 1).length = n1
  l2 : (E 2).length = n2
  l3 : (E 3).length = n3
  l4 : (E 4).length = n4
section
variable {B : Nat} {w0 w w' : World} {q : Nat} {V : Nat → Value} {E : Nat → List HE} {n1 n2 n3 n4 : Nat}
theorem HG.hk (h : HG B w0 w q V E n1 n2 n4) : HK B w0 w q V E n1 n2 0 n4 :=
  have e3 : E 3 = [] := h.st.no 3 (by decide) (by decide) (by decide)
  ⟨h.inv, h.lo, h.q, h.bel, h.sz, ⟨h.st.int, h.st.str, (fun e he => by rw [e3] at he; cases he), h.st.sym, fun κ k1 k2 k3 k4 => h.st.no κ k1 k2 k4⟩, h.l1, h.l2, by rw [e3]; rfl, h.l4⟩
theorem HK.later (h : HK B w0 w q V E n1 n2 n3 n4) (hb : Below w.heap.size w w') : HK B w0 w' q V E n1 n2 n3 n4 := ⟨h.inv.later hb, h.lo, h.q, h.bel.trans (hb.mono h.sz), Nat.le_trans h.sz hb.size, h.st, h.l1, h.l2, h.l3, h.l4⟩
theorem hk_boolF (h : HK B w0 w q V E n1 n2 n3 n4) (hE : n3 ≤ 4900000000000) (ao : Option Addr) (cap : Nat) (xs : List Bool) (hl : xs.length ≤ 17592186044000) (hr : BRow w ao xs) :
    Calls Tryz.prog 22 #[.pointer (some ⟨q, 0, none⟩), .slice ao xs.length cap] w fun e w' => e = .returned (.slice (some ⟨w.heap.size, 0, none⟩) xs.length (xs.length + 3)) ∧ (∃ V' E', HK B w0 w' q V' E' n1 n2 (n3 + 1) n4 ∧ HF w w' q V V') ∧ Oth w w' ∧ Below B w w' ∧ UB w' w.heap.size xs := by
  refine (hbools q V tyG E ao _ cap xs w rfl (by omega) hr h.inv (by have := h.l3; omega) rfl rfl okT_bool.ty).mono ?_
  rintro e w' ⟨rfl, V', x, hI, hg, ht, hz, ⟨zs, hc, hk⟩, hf⟩
  have hb := hf.below h.sz h.q h.lo
  refine ⟨rfl, ⟨V', updE E 3 x, ⟨hI, lo_then hf h.sz h.lo, h.q, h.bel.trans hb, Nat.le_trans h.sz hf.size, ⟨fun e he => ?_, fun e he => ?_, fun e he => ?_, fun e he => ?_, fun κ k1 k2 k3 k4 => ?_⟩, by rw [upd_other _ _ (by decide)]; exact h.l1, by rw [upd_other _ _ (by decide)]; exact h.l2, by rw [upd_same]; simp [h.l3], by rw [upd_other _ _ (by decide)]; exact h.l4⟩, hf⟩, hg_oth h.inv hf, hb, ?_⟩
  · rw [upd_other _ _ (by decide)] at he; exact h.st.int e he
  · rw [upd_other _ _ (by decide)] at he; exact h.st.str e he
  · rw [upd_same] at he
    rcases List.mem_append.1 he with r | r
    · exact h.st.bool e r
    · simp at r; subst r; exact ⟨ht, hz, zs, hc⟩
  · rw [upd_other _ _ (by decide)] at he; exact h.st.sym e he
  · rw [upd_other _ _ k3]; exact h.st.no κ k1 k2 k3 k4
  · have ha := (hI.at_ 3 x (by rw [upd_same]; simp)).hg
    rw [hc, ht, hg] at ha
    exact ⟨zs, ha, hk⟩
theorem hk_intF (h : HK B w0 w q V E n1 n2 n3 n4) (hE : n1 ≤ 4900000000000) (ao : Option Addr) (cap : Nat) (xs : List Int) (hl : xs.length ≤ 17592186044000) (hr : InRow w ao xs) :
    Calls Tryz.prog 25 #[.pointer (some ⟨q, 0, none⟩), .slice ao xs.length cap] w fun e w' => e = .returned (.slice (some ⟨w.heap.size, 0, none⟩) xs.length (xs.length + 3)) ∧ (∃ V' E', HK B w0 w' q V' E' (n1 + 1) n2 n3 n4 ∧ HF w w' q V V') ∧ Oth w w' ∧ Below B w w' ∧ NB w' w.heap.size xs := by
  refine (hints q V tyG E ao _ cap xs w rfl (by omega) hr h.inv (by have := h.l1; omega) rfl rfl okT_int.ty).mono ?_
  rintro e w' ⟨rfl, V', x, hI, hg, ht, hz, ⟨zs, hc, hk⟩, hf⟩
  have hb := hf.below h.sz h.q h.lo
  refine ⟨rfl, ⟨V', updE E 1 x, ⟨hI, lo_then hf h.sz h.lo, h.q, h.bel.trans hb, Nat.le_trans h.sz hf.size, ⟨fun e he => ?_, fun e he => ?_, fun e he => ?_, fun e he => ?_, fun κ k1 k2 k3 k4 => ?_⟩, by rw [upd_same]; simp [h.l1], by rw [upd_other _ _ (by decide)]; exact h.l2, by rw [upd_other _ _ (by decide)]; exact h.l3, by rw [upd_other _ _ (by decide)]; exact h.l4⟩, hf⟩, hg_oth h.inv hf, hb, ?_⟩
  · rw [upd_same] at he
    rcases List.mem_append.1 he with r | r
    · exact h.st.int e r
    · simp at r; subst r; exact ⟨ht, hz, zs, hc⟩
  · rw [upd_other _ _ (by decide)] at he; exact h.st.str e he
  · rw [upd_other _ _ (by decide)] at he; exact h.st.bool e he
  · rw [upd_other _ _ (by decide)] at he; exact h.st.sym e he
  · rw [upd_other _ _ k1]; exact h.st.no κ k1 k2 k3 k4
  · have ha := (hI.at_ 1 x (by rw [upd_same]; simp)).hg
    rw [hc, ht, hg] at ha
    exact ⟨zs, ha, hk⟩
/-- A list of lists beside the Given's own grows. -/
theorem HInv.grew {v v' : Value} {ss : List Value} (h : HInv w q V tyG E) (hv : HL 47 w v ss) (hap : ∀ i b, v.ownBlock = some b → (V i).ownBlock ≠ some b) (g : Grew w w' v v') : HInv w' q V tyG E :=
  ⟨(g.grown.block q (lt_of_block h.hq) (hv.ne h.hq (by decide))).trans h.hq, fun i => (h.row i).kept fun k hk => g.grown.block k ((h.row i).lt k hk) (fun e => hap i k e.symm hk), h.apart, fun κ e he => (h.at_ κ e he).keptBy fun k C hk => g.grown.block k (lt_of_block hk) (hv.ne hk ((h.te κ e he).2 2)), h.tq, h.te⟩
theorem HK.grew {v v' : Value} {ss : List Value} (h : HK B w0 w q V E n1 n2 n3 n4) (hv : HL 47 w v ss) (hap : ∀ i b, v.ownBlock = some b → (V i).ownBlock ≠ some b) (hlo : ∀ b, v.ownBlock = some b → B ≤ b) (g : Grew w w' v v') : HK B w0 w' q V E n1 n2 n3 n4 ∧ Below B w w' ∧ Oth w w' := by
  have hb : Below B w w' := (Below.refl _ _).grown g.grown h.sz hlo
  exact ⟨⟨h.inv.grew hv hap g, h.lo, h.q, h.bel.trans hb, Nat.le_trans h.sz g.grown.size, h.st, h.l1, h.l2, h.l3, h.l4⟩, hb, ⟨g.grown.size, fun b C t hC ht => g.grown.block b (lt_of_block hC) (hv.ne hC ht.2.2.1)⟩⟩
end
theorem gnell : 39 ≠ 47 := by decide
theorem infoLL : SliceInfo 47 := sliceInfo_of (by kernel_rfl)
/-- What stands in the list of the lists that were handed in. -/
def entL (L : List (List Int)) (gs : List Nat) : List Value := (List.range gs.length).map fun j => .slice (some ⟨gs.getD j 0, 0, none⟩) (L.getD j []).length ((L.getD j []).length + 3)
theorem entL_snoc (L : List (List Int)) (gs : List Nat) (g : Nat) : entL L (gs ++ [g]) = entL L gs ++ [.slice (some ⟨g, 0, none⟩) (L.getD gs.length []).length ((L.getD gs.length []).length + 3)] := by
  unfold entL
  rw [List.length_append, List.length_singleton, List.range_succ, List.map_append]
  congr 1
  · apply List.map_congr_left
    intro j hj
    have := List.mem_range.1 hj
    simp [List.getD, List.getElem?_append_left this]
  · simp [List.getD]
theorem ent_row {w : World} {a : Option Addr} {n c : Nat} {L : List (List Int)} {gs : List Nat} (h : HL 47 w (.slice a n c) (entL L gs)) (hl : gs.length = L.length) (hn : ∀ j, j < gs.length → NB w (gs.getD j 0) (L.getD j [])) : n = L.length ∧ LsRow w a L := by
  have hle : (entL L gs).length = L.length := by simp [entL, hl]
  refine ⟨?_, fun hne => ?_⟩
  · obtain ⟨a', c', e⟩ := h.slice
    simp only [Value.slice.injEq] at e
    rw [e.2.1, hle]
  · have h0 : 0 < L.length := List.length_pos_iff.2 hne
    have each : ∀ i, i < L.length → (entL L gs)[i]? = some (.slice (some ⟨gs.getD i 0, 0, none⟩) (L.getD i []).length ((L.getD i []).length + 3)) := fun i hi => by
      simp [entL, show i < gs.length by omega]
    obtain ⟨g, c', e, _⟩ := h.at 0 _ (each 0 h0)
    simp only [Value.slice.injEq] at e
    obtain ⟨rfl, _, _⟩ := e
    have hlt : g < w.heap.size := h.lt g rfl
    refine ⟨g, 0, rfl, hlt, fun i hi => ?_⟩
    obtain ⟨g', c'', e', hc⟩ := h.at i _ (each i hi)
    simp only [Value.slice.injEq, Option.some.injEq, Addr.mk.injEq, and_true] at e'
    obtain ⟨rfl, _, _⟩ := e'
    rw [Nat.zero_add]
    exact ⟨_, _, hc, (hn i (by omega)).row⟩
/-- What the handing in of lists answers. -/
def LsO (B : Nat) (w0 w : World) (q n1 n2 n3 n4 : Nat) (L : List (List Int)) (e : Ending) (w' : World) : Prop := ∃ a c, e = .returned (.slice a L.length c) ∧ (∃ V' E', HK B w0 w' q V' E' (n1 + L.length) n2 n3 n4) ∧ LsRow w' a L ∧ Oth w w' ∧ Below B w w'
set_option maxRecDepth 100000 in
set_option maxHeartbeats 4000000 in
theorem hk_lists {B : Nat} {w0 w : World} {q : Nat} {V : Nat → Value} {E : Nat → List HE} {n1 n2 n3 n4 : Nat} (h : HK B w0 w q V E n1 n2 n3 n4) (fa : Option Addr) (fc : Nat) (L : List (List Int)) (hE : n1 + L.length ≤ 4900000000000) (hL : ∀ wr, Below B w wr → LsRow wr fa L) (hll : ∀ l ∈ L, l.length ≤ 17592186044000) :
    Calls Tryz.prog 23 #[.pointer (some ⟨q, 0, none⟩), .slice fa L.length fc] w fun e w' => LsO B w0 w q n1 n2 n3 n4 L e w' := by
  have HL0 : Hid (∀ wr, Below B w wr → LsRow wr fa L) := hL
  have HLL : Hid (∀ l ∈ L, l.length ≤ 17592186044000) := hll
  have H0 : Hid (HK B w0 w q V E n1 n2 n3 n4) := h
  have HSZ : Hid (B ≤ w.heap.size) := h.sz
  clear hL hll h
  go_enter Tryz.func23, Tryz.ntmps23
  go_wp2
  go_loopw [5, 6] (fun v i wr => ∃ (gs : List Nat) (V' : Nat → Value) (E' : Nat → List HE), gs.length ≤ L.length ∧ i = .int .i64 gs.length ∧ HL 47 wr v (entL L gs) ∧ (∀ j, j < gs.length → NB wr (gs.getD j 0) (L.getD j [])) ∧ HK B w0 wr q V' E' (n1 + gs.length) n2 n3 n4 ∧ (∀ i b, v.ownBlock = some b → (V' i).ownBlock ≠ some b) ∧ (∀ b, v.ownBlock = some b → B ≤ b) ∧ Below B w wr ∧ Oth w wr) (fun _ i _ => L.length - (intOf i).toNat)
  case atStart => exact ⟨[], V, E, Nat.zero_le _, rfl, HL.nil _ _, fun j hj => absurd hj (Nat.not_lt_zero j), H0.out, (fun i b hb => by cases hb), (fun b hb => by cases hb), Below.refl _ _, Oth.refl _⟩
  case round =>
    obtain ⟨gs, V1, E1, hk, rfl, hv, hn, hK, hap, hlo, hb, ho⟩ := hrel
    obtain ⟨va, vn, vc, rfl⟩ := hv.slice3
    have P : Hid (HL 47 wr (.slice va vn vc) (entL L gs) ∧ (∀ j, j < gs.length → NB wr (gs.getD j 0) (L.getD j [])) ∧ HK B w0 wr q V1 E1 (n1 + gs.length) n2 n3 n4 ∧ (∀ i b, (Value.slice va vn vc).ownBlock = some b → (V1 i).ownBlock ≠ some b) ∧ (∀ b, (Value.slice va vn vc).ownBlock = some b → B ≤ b) ∧ Below B w wr ∧ Oth w wr) := ⟨hv, hn, hK, hap, hlo, hb, ho⟩
    clear hv hn hK hap hlo hb ho
    by_cases hlt : gs.length < L.length
    · obtain ⟨lb, lo, hfa, hlb, hlc⟩ := HL0.out wr P.out.2.2.2.2.2.1 (by intro e; rw [e] at hlt; simp at hlt)
      obtain ⟨la, lc, c0, hrow⟩ := hlc gs.length hlt
      have klt : (gs.length : Int) < (L.length : Int) := by omega
      have SN : Hid (∀ g, entL L (gs ++ [g]) = entL L gs ++ [.slice (some ⟨g, 0, none⟩) (L.getD gs.length []).length ((L.getD gs.length []).length + 3)]) := entL_snoc L gs
      have NL : Hid (∀ (g : Nat) w', (∀ j, j < gs.length → NB w' (gs.getD j 0) (L.getD j [])) → NB w' g (L.getD gs.length []) → ∀ j, j < (gs ++ [g]).length → NB w' ((gs ++ [g]).getD j 0) (L.getD j [])) := fun g w' h1 h2 j hj => by
        by_cases e : j = gs.length
        · subst e; simpa [List.getD] using h2
        · have hj' : j < gs.length := by simp at hj; omega
          have := h1 j hj'
          simpa [List.getD, List.getElem?_append_left hj'] using this
      have IC : Hid (Calls Tryz.prog 25 #[.pointer (some ⟨q, 0, none⟩), .slice la (L.getD gs.length []).length lc] wr fun e w' => e = .returned (.slice (some ⟨wr.heap.size, 0, none⟩) (L.getD gs.length []).length ((L.getD gs.length []).length + 3)) ∧ (∃ V' E', HK B w0 w' q V' E' (n1 + gs.length + 1) n2 n3 n4 ∧ HF wr w' q V1 V') ∧ Oth wr w' ∧ Below B wr w' ∧ NB w' wr.heap.size (L.getD gs.length [])) := hk_intF P.out.2.2.1 (by omega) la lc (L.getD gs.length []) (HLL.out _ (by simp [List.getD, hlt])) hrow
      have LEN : Hid ((entL L gs).length ≤ 5000000000000) := by show _ ≤ _; simp [entL]; omega
      rw [hfa]
      clear hlc hrow hfa
      generalize L.getD gs.length [] = l at *
      go_wp2_with (first
        | (go_at_call 25; refine IC.out.mono ?_; rintro e w1 ⟨rfl, ⟨V2, E2, k2, f2⟩, o2, b2, nb2⟩; have Q : Hid (HL 47 w1 (.slice va vn vc) (entL L gs) ∧ HK B w0 w1 q V2 E2 (n1 + gs.length + 1) n2 n3 n4 ∧ (∀ i b, (Value.slice va vn vc).ownBlock = some b → (V2 i).ownBlock ≠ some b) ∧ Oth wr w1 ∧ Below B wr w1 ∧ NB w1 wr.heap.size l) := ⟨P.out.1.kept (fun k hk => f2.block k (P.out.1.lt k hk) (fun e => P.out.1.ne P.out.2.2.1.inv.hq gnell (e ▸ hk.symm)) (fun i e => P.out.2.2.2.1 i k hk e.symm)), k2, (fun i b hb hV => (f2.mv i b hV).elim (fun r => P.out.2.2.2.1 i b hb r) (fun r => absurd (P.out.1.lt b hb) (Nat.not_lt.2 r))), o2, b2, nb2⟩; clear k2 f2 o2 b2 nb2)
        | (at_builtin; refine wpList_hl_append Tryz.underlying28 infoLL rfl _ _ rfl (.slice va vn vc) (entL L gs) rfl (Q.out.1.later (below_alloc _ _)) w1.heap.size 1 (.slice (some ⟨wr.heap.size, 0, none⟩) l.length (l.length + 3)) rfl (cell_newI w1 _ _) rfl LEN.out ?_; intro v5 w5 hl5 hg5; obtain ⟨a5, m5, c5, rfl⟩ := hl5.slice3; have G5 : Hid (HL 47 w5 (.slice a5 m5 c5) (entL L gs ++ [.slice (some ⟨wr.heap.size, 0, none⟩) l.length (l.length + 3)]) ∧ Grew (w1.alloc (.cells #[.slice (some ⟨wr.heap.size, 0, none⟩) l.length (l.length + 3)] 47)) w5 (.slice va vn vc) (.slice a5 m5 c5)) := ⟨hl5, hg5⟩; clear hl5 hg5))
      have hbA := below_alloc w1 (.cells #[.slice (some ⟨wr.heap.size, 0, none⟩) l.length (l.length + 3)] 47)
      have hKA := Q.out.2.1.later hbA
      obtain ⟨r1, r2, r3⟩ := hKA.grew (Q.out.1.later hbA) Q.out.2.2.1 P.out.2.2.2.2.1 G5.out.2
      have hoA : Oth wr w5 := Q.out.2.2.2.1.trans ((Oth.ofBelow hbA).trans r3)
      have hbW : Below B wr w5 := Q.out.2.2.2.2.1.trans ((hbA.mono Q.out.2.1.sz).trans r2)
      have R : Hid (HL 47 w5 (.slice a5 m5 c5) (entL L (gs ++ [wr.heap.size])) ∧ (∀ j, j < (gs ++ [wr.heap.size]).length → NB w5 ((gs ++ [wr.heap.size]).getD j 0) (L.getD j [])) ∧ HK B w0 w5 q V2 E2 (n1 + (gs ++ [wr.heap.size]).length) n2 n3 n4 ∧ (∀ i b, (Value.slice a5 m5 c5).ownBlock = some b → (V2 i).ownBlock ≠ some b) ∧ (∀ b, (Value.slice a5 m5 c5).ownBlock = some b → B ≤ b) ∧ Below B w w5 ∧ Oth w w5) := by
        refine ⟨by rw [SN.out]; exact G5.out.1, NL.out _ _ (fun j hj => (P.out.2.1 j hj).oth hoA) (Q.out.2.2.2.2.2.oth ((Oth.ofBelow hbA).trans r3)), ?_, fun i b hb hV => ?_, fun b hb => ?_, P.out.2.2.2.2.2.1.trans hbW, P.out.2.2.2.2.2.2.trans hoA⟩
        · have : n1 + (gs ++ [wr.heap.size]).length = n1 + gs.length + 1 := by simp; omega
          rw [this]; exact r1
        · rcases G5.out.2.moved with r | ⟨k, r, hk⟩
          · exact Q.out.2.2.1 i b (r ▸ hb) hV
          · rw [hb] at r
            have := Option.some.inj r
            have := (hKA.inv.row i).lt b hV
            omega
        · rcases G5.out.2.moved with r | ⟨k, r, hk⟩
          · exact P.out.2.2.2.2.1 b (r ▸ hb)
          · rw [hb] at r
            have := Option.some.inj r
            have := hKA.sz
            omega
      clear hbA hKA r1 r2 r3 hoA hbW
      have GE : Hid ((gs ++ [wr.heap.size]).length = gs.length + 1) := by show _ = _; simp
      generalize gs ++ [wr.heap.size] = gs2 at *
      go_roundw
      case rel => exact ⟨gs2, V2, E2, by have := GE.out; omega, by rw [GE.out]; go_num, R.out⟩
      case measure => simp [intOf]; omega
    · have e : gs.length = L.length := by omega
      obtain ⟨q1, q2⟩ := ent_row P.out.1 e P.out.2.1
      have R : Hid (vn = L.length ∧ LsRow wr va L ∧ HK B w0 wr q V1 E1 (n1 + L.length) n2 n3 n4) := ⟨q1, q2, by rw [← e]; exact P.out.2.2.1⟩
      have klt : ¬ (gs.length : Int) < (L.length : Int) := by omega
      clear q1 q2 e
      go_wp2
      go_ret
      exact ⟨va, vc, by rw [R.out.1]; rfl, ⟨V1, E1, R.out.2.2⟩, R.out.2.1, P.out.2.2.2.2.2.2, P.out.2.2.2.2.2.1⟩
end Go.Proofs.YtboabidokkghbaaGreat
