import Derived.Test.YtndjcbcdjcnniaaSGiven2
namespace Go.Proofs.Ytndjcbcdjcnniaa
set_option linter.unusedVariables false
open Go.RowKit

set_option maxHeartbeats 1000000 in
theorem samestrs_q (ao bo : Option Addr) (n m ca cb : Nat) (ss : List ByteArray) (w : World) (hn : n = ss.length) (hm : m = ss.length) (hl : ss.length ≤ 140737488355328) (hr : StrRow w ao ss) (hs : StrRow w bo ss) :
    Calls Try.prog 27 #[.slice ao n ca, .slice bo m cb] w fun e w' => e = .returned (.bool true) ∧ ∃ d, w' = w.drewN d := by
  subst hn hm
  have hb : ((ss.length : Int) != ss.length) = false := by simp
  go_enter Try.func27, Try.ntmps27
  go_wp2
  go_loopw [5] (fun i wr => ∃ k d : Nat, k ≤ ss.length ∧ i = .int .i64 k ∧ wr = w.drewN d) (fun i _ => ss.length - (intOf i).toNat)
  case atStart => exact ⟨0, 0, Nat.zero_le _, rfl, rfl⟩
  case round =>
    obtain ⟨k, d, hk, rfl, rfl⟩ := hrel
    by_cases hlt : k < ss.length
    · obtain ⟨b, off, rfl, _, hc⟩ := hr (by intro h; subst h; simp at hlt)
      obtain ⟨b2, off2, rfl, _, hc2⟩ := hs (by intro h; subst h; simp at hlt)
      have h1 := hc k hlt
      have h2 := hc2 k hlt
      clear hc hc2 hr hs
      generalize ss.getD k ByteArray.empty = x at *
      have het : (x.toList != x.toList) = false := by simp
      go_wp2
      go_quiet (fail)
      go_wp2
      go_roundw
      case rel => exact ⟨k + 1, _, by omega, by go_num, rfl⟩
      case measure => simp [intOf]; omega
    · go_wp2
      go_ret
      exact ⟨rfl, _, rfl⟩
theorem GI.drewN {w : World} {q : Nat} {L W : Value} {ss tt : List Value} {es : List GE} (h : GI w q L W ss tt es) (n : Nat) : GI (w.drewN n) q L W ss tt es := h.later (below_drewN (Below.refl _ _) n)
theorem gl_at {w : World} {v : Value} {ss : List Value} (h : GL w v ss) (i : Nat) (x : Value) (hx : ss[i]? = some x) : ∃ g c, v = .slice (some ⟨g, 0, none⟩) ss.length c ∧ w.cell? ⟨g, i, none⟩ = some x := by
  have hi : i < ss.length := (List.getElem?_eq_some_iff.1 hx).1
  rcases h.2 with ⟨rfl, h0⟩ | ⟨g, cap, cur, rfl, hb, hg, hle, hm, hs, ht⟩
  · omega
  · refine ⟨g, cap, rfl, ?_⟩
    have := World.ownsRow.cells h (g := g) rfl i x hx
    rwa [add_none, Nat.zero_add] at this
theorem gl_len {w : World} {v : Value} {ss : List Value} (h : GL w v ss) : ∃ a c, v = .slice a ss.length c := by
  rcases h.2 with ⟨rfl, h0⟩ | ⟨g, cap, cur, rfl, _⟩
  · exact ⟨none, 0, by rw [h0]⟩
  · exact ⟨_, _, rfl⟩
theorem sametrees_nil (w : World) : Calls Try.prog 50 #[.slice none 0 0, .slice none 0 0] w fun e w' => e = .returned (.bool true) ∧ w' = w := by
  go_enter Try.func50, Try.ntmps50
  go_wp2
  go_loop [5] (fun i => i = .int .i64 0) (fun _ => 0)
  case atStart => rfl
  case round =>
    subst hrel
    go_wp2
    go_ret
    exact ⟨rfl, rfl⟩

set_option maxRecDepth 100000 in
set_option maxHeartbeats 4000000 in
theorem intact_any (q : Nat) (L W : Value) (es : List GE) (w : World) (hG : GInv w q L W es) (hes : es.length ≤ 1000) :
    Calls Try.prog 12 #[.pointer (some ⟨q, 0, none⟩)] w fun e w' => e = .returned (.bool true) ∧ Below w.heap.size w w' := by
  have HQ : Hid _ := hG.hq
  have k0 : w.cell? ⟨q, 0, none⟩ = some gNil := by rw [cellq_any HQ.out]; rfl
  have k1 : w.cell? ⟨q, 1, none⟩ = some gNil := by rw [cellq_any HQ.out]; rfl
  have k2 : w.cell? ⟨q, 2, none⟩ = some gNil := by rw [cellq_any HQ.out]; rfl
  have k3 : w.cell? ⟨q, 3, none⟩ = some gNil := by rw [cellq_any HQ.out]; rfl
  have HG : Hid (GInv w q L W es) := hG
  have c0 := hG.cell0
  have c1 := hG.cell1
  obtain ⟨La, Lc, rfl⟩ := gl_len hG.l
  clear HQ hG
  go_enter Try.func12, Try.ntmps12
  go_wp2
  go_loop [3] (fun i => i = .int .i64 0) (fun _ => 0)
  case atStart => rfl
  case round =>
    subst hrel
    go_wp2
    go_loop [4] (fun i => i = .int .i64 0) (fun _ => 0)
    case atStart => rfl
    case round =>
      subst hrel
      go_wp2
      go_loopw [5] (fun i wr => ∃ (j : Nat), i = .int .i64 j ∧ j ≤ es.length ∧ GInv wr q (.slice La (es.map GE.fst).length Lc) W es ∧ Below w.heap.size w wr) (fun i _ => es.length - (intOf i).toNat)
      case atStart => exact ⟨0, rfl, Nat.zero_le _, HG.out, Below.refl _ _⟩
      case round =>
        clear HG c0 c1 k0 k1 k2 k3
        obtain ⟨j, rfl, hj, hG, hst⟩ := hrel
        have c0 := hG.cell0
        have c1 := hG.cell1
        by_cases hlt : j < es.length
        · obtain ⟨g, c, hLe, hcl⟩ := gl_at hG.l j es[j].fst (by simp [hlt])
          obtain ⟨g2, c2, rfl, hcw⟩ := gl_at hG.w_ j es[j].snd (by simp [hlt])
          cases hLe
          have HA : Hid (∀ n, GE.At (wr.drewN n) es[j]) := fun n => (hG.at_ es[j] (List.getElem_mem hlt)).later (below_drewN (Below.refl _ _) n)
          generalize es[j] = x at *
          obtain ⟨xg, xN, xa, xM, xc, zs⟩ := x
          simp only [GE.fst, GE.snd, List.length_map] at hcl hcw c0 c1
          have HL : Hid (zs.length ≤ 140737488355328) := Nat.le_trans (HA.out 0).lim (by decide)
          have HN : Hid (xN = zs.length) := (HA.out 0).n
          have HM : Hid (xM = zs.length) := (HA.out 0).m
          have HR : Hid (∀ n, StrRow (wr.drewN n) (some ⟨xg, 0, none⟩) zs) := fun n => (HA.out n).full.row
          have HS : Hid (∀ n, StrRow (wr.drewN n) xa zs) := fun n => by
            obtain ⟨a', c', e, hr, _⟩ := (HA.out n).own.row
            simp only [Value.slice.injEq] at e
            obtain ⟨rfl, _, _⟩ := e
            exact hr
          clear HA
          go_wp2
          go_quiet ((go_at_call 27; (exact Calls.quiet_of (samestrs_q (some ⟨xg, 0, none⟩) xa xN xM xN xc zs (wr.drewN _) HN.out HM.out HL.out (HR.out _) (HS.out _)))))
          go_wp2
          go_roundw
          case rel => exact ⟨j + 1, by go_num, by omega, hG.drewN _, below_drewN hst _⟩
          case measure => simp [intOf]; omega
        · have HQ : Hid _ := hG.hq
          have k6 : wr.cell? ⟨q, 6, none⟩ = some gNil := by rw [cellq_any HQ.out]; rfl
          have k7 : wr.cell? ⟨q, 7, none⟩ = some gNil := by rw [cellq_any HQ.out]; rfl
          have k8 : wr.cell? ⟨q, 8, none⟩ = some gNil := by rw [cellq_any HQ.out]; rfl
          have k9 : wr.cell? ⟨q, 9, none⟩ = some gNil := by rw [cellq_any HQ.out]; rfl
          have k10 : wr.cell? ⟨q, 10, none⟩ = some gNil := by rw [cellq_any HQ.out]; rfl
          have k11 : wr.cell? ⟨q, 11, none⟩ = some gNil := by rw [cellq_any HQ.out]; rfl
          have k12 : wr.cell? ⟨q, 12, none⟩ = some gNil := by rw [cellq_any HQ.out]; rfl
          have k13 : wr.cell? ⟨q, 13, none⟩ = some gNil := by rw [cellq_any HQ.out]; rfl
          have k14 : wr.cell? ⟨q, 14, none⟩ = some gNil := by rw [cellq_any HQ.out]; rfl
          have k15 : wr.cell? ⟨q, 15, none⟩ = some gNil := by rw [cellq_any HQ.out]; rfl
          have k16 : wr.cell? ⟨q, 16, none⟩ = some gNil := by rw [cellq_any HQ.out]; rfl
          have k17 : wr.cell? ⟨q, 17, none⟩ = some gNil := by rw [cellq_any HQ.out]; rfl
          have k18 : wr.cell? ⟨q, 18, none⟩ = some gNil := by rw [cellq_any HQ.out]; rfl
          have k19 : wr.cell? ⟨q, 19, none⟩ = some gNil := by rw [cellq_any HQ.out]; rfl
          have k20 : wr.cell? ⟨q, 20, none⟩ = some gNil := by rw [cellq_any HQ.out]; rfl
          have k21 : wr.cell? ⟨q, 21, none⟩ = some gNil := by rw [cellq_any HQ.out]; rfl
          clear hG
          go_wp2
          go_loop [6] (fun i => i = .int .i64 0) (fun _ => 0)
          case atStart => rfl
          case round =>
            subst hrel
            go_wp2
            go_loop [7] (fun i => i = .int .i64 0) (fun _ => 0)
            case atStart => rfl
            case round =>
              subst hrel
              go_wp2
              go_loop [8] (fun i => i = .int .i64 0) (fun _ => 0)
              case atStart => rfl
              case round =>
                subst hrel
                go_wp2
                go_loop [9] (fun i => i = .int .i64 0) (fun _ => 0)
                case atStart => rfl
                case round =>
                  subst hrel
                  go_wp2
                  go_loop [10] (fun i => i = .int .i64 0) (fun _ => 0)
                  case atStart => rfl
                  case round =>
                    subst hrel
                    go_wp2
                    go_loop [11] (fun i => i = .int .i64 0) (fun _ => 0)
                    case atStart => rfl
                    case round =>
                      subst hrel
                      go_wp2
                      go_loop [12] (fun i => i = .int .i64 0) (fun _ => 0)
                      case atStart => rfl
                      case round =>
                        subst hrel
                        go_wp2
                        go_quiet ((go_at_call 50; (exact Calls.quiet_of_same (sametrees_nil _))))
                        go_wp2
                        go_ret
                        exact ⟨rfl, below_drewN hst _⟩
end Go.Proofs.Ytndjcbcdjcnniaa
