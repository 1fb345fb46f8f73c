import Derived.Test.YtnhfnihdikammabSStands
import Derived.Test.YtnhfnihdikammabOpArg
namespace Go.Proofs.Ytnhfnihdikammab
set_option linter.unusedVariables false
open Go.RowKit Go.Maps

theorem does_any {B : Nat} {w : World} {p g b q : Nat} {T N T2 N2 : Value} {D : DataW Unit} {ts ns : List ByteArray} (h : Two B w p g b q T N D T2 N2 ts ns) (kd : Int) (s : ByteArray) (k n x y : Int) (hs : s.size ≤ maxLen) :
    Calls Try.prog 10 #[.pointer (some ⟨p, 0, none⟩), .pointer (some ⟨q, 0, none⟩), .agg #[.int .i64 kd, .string s, .int .i64 k, .int .i64 n, .int .i64 x, .int .i64 y]] w (Done B w p g b q) := by
  have hs' : s.size ≤ 9223372036854775807 := by unfold maxLen at hs; omega
  by_cases h0 : kd = 0
  · subst h0; exact does_term h s k n x y hs'
  by_cases h1 : kd = 1
  · subst h1; exact does_non h s k n x y hs'
  by_cases h2 : kd = 2
  · subst h2; exact does_find h s k n x y hs
  by_cases h3 : kd = 3
  · subst h3; exact does_name h s k n x y
  by_cases hb : 0 ≤ x ∧ x ≤ ts.length ∧ 0 ≤ y ∧ y ≤ ns.length
  · obtain ⟨x', rfl⟩ : ∃ m : Nat, x = m := ⟨x.toNat, by omega⟩
    obtain ⟨y', rfl⟩ : ∃ m : Nat, y = m := ⟨y.toNat, by omega⟩
    exact does_undo_ok h kd s k n x' y' ⟨h0, h1, h2, h3⟩ (by omega) (by omega)
  · exact does_undo_no h kd s k n x y ⟨h0, h1, h2, h3⟩ hb
def Stt (B : Nat) (w : World) (p g b q : Nat) (wr : World) : Prop := ∃ T N D T2 N2 ts ns, Two B wr p g b q T N D T2 N2 ts ns ∧ Below B w wr
theorem two_new {w w1 w2 : World} {p g b : Nat} {D : DataW Unit} (h1 : Below w.heap.size w w1) (h2 : BInv w2 p g b (.slice none 0 0) (.slice none 0 0) D [] []) (hp : w1.heap.size ≤ p) (hg : w1.heap.size ≤ g) (hb : w1.heap.size ≤ b) (h3 : Below w1.heap.size w1 w2) :
    Stt w.heap.size w p g b w2.heap.size (w2.alloc (.cells #[.slice none 0 0, .slice none 0 0] 29)) := by
  have s1 := h1.size
  have s2 := h3.size
  have nb : ∀ k, (Value.slice none 0 0).ownBlock = some k → False := fun k hk => by simp [Value.ownBlock] at hk
  refine ⟨_, _, D, .slice none 0 0, .slice none 0 0, [], [], ⟨h2.later (below_alloc _ _), ⟨heap_alloc_new w2 _, GS.nil _, GS.nil _, fun k hk => (nb k hk).elim, by simp, by simp⟩, fun k hk => ?_, Fine.nil, ⟨by omega, by omega, by omega, by omega, by simp; omega⟩, fun k hk => (nb k hk).elim, fun k hk => (nb k hk).elim, fun k hk => (nb k hk).elim, fun k hk => (nb k hk).elim⟩, (h1.trans (h3.mono s1)).alloc (by omega) _⟩
  rcases hk with e | e <;> exact (nb k e).elim
set_option maxRecDepth 100000 in
set_option maxHeartbeats 4000000 in
theorem book_walk (ao : Option Addr) (M cap : Nat) (l : List OpV) (w : World) (hl : l.length ≤ 140737488355328) (hr : M = l.length ∧ OpsAt w ao l) :
    Calls Try.prog 3 #[.slice ao M cap] w fun e w' => e = .returned (.bool true) ∧ Below w.heap.size w w' := by
  obtain ⟨rfl, hz, hr⟩ := hr
  go_enter Try.func3, Try.ntmps3
  go_wp2_with (first
    | (go_at_call 8; refine (works_any _).mono ?_; rintro e w1 ⟨rfl, hb1⟩)
    | (go_at_call 9; refine (new_any _).mono ?_; rintro e w2 ⟨p, g, b, D, rfl, hI, hp, hg, hb, hb2⟩))
  go_loopw [5] (fun i wr => ∃ k : Nat, k ≤ l.length ∧ i = .int .i64 k ∧ Stt w.heap.size w p g b w2.heap.size wr) (fun i _ => l.length - (intOf i).toNat)
  case atStart => exact ⟨0, Nat.zero_le _, rfl, two_new hb1 hI hp hg hb hb2⟩
  case round =>
    obtain ⟨k, hk, rfl, T, N, D', T2, N2, ts, ns, hT, hB⟩ := hrel
    clear hI hb1 hb2
    by_cases hlt : k < l.length
    · obtain ⟨bb, off, rfl, hbl, hc⟩ := hr (by intro e; subst e; simp at hlt)
      obtain ⟨c0, c1, c2, c3, c4, c5⟩ := hc k hlt
      have hsz := hz (l.getD k .none) (by simp [List.getD, hlt])
      clear hc hr hz
      generalize l.getD k .none = o at *
      obtain ⟨kd, s, ok, on, ox, oy⟩ := o
      simp only at c0 c1 c2 c3 c4 c5 hsz
      have d0 := (hB.cell (p := ⟨bb, off + k * 6, none⟩) hbl).trans c0
      have d1 := (hB.cell (p := ⟨bb, off + k * 6 + 1, none⟩) hbl).trans c1
      have d2 := (hB.cell (p := ⟨bb, off + k * 6 + 2, none⟩) hbl).trans c2
      have d3 := (hB.cell (p := ⟨bb, off + k * 6 + 3, none⟩) hbl).trans c3
      have d4 := (hB.cell (p := ⟨bb, off + k * 6 + 4, none⟩) hbl).trans c4
      have d5 := (hB.cell (p := ⟨bb, off + k * 6 + 5, none⟩) hbl).trans c5
      clear c0 c1 c2 c3 c4 c5
      go_wp2_with (first
        | (go_at_call 10; refine (does_any hT _ _ _ _ _ _ hsz).mono ?_; rintro e w3 ⟨rfl, T3, N3, D3, T4, N4, ts3, ns3, hT3, hb3⟩)
        | (go_at_call 11; refine (stands_any hT3).mono ?_; rintro e w4 ⟨rfl, hb4⟩))
      go_roundw
      case rel => exact ⟨k + 1, by omega, by go_num, T3, N3, D3, T4, N4, ts3, ns3, hT3.later hb4, (hB.trans hb3).trans (hb4.mono hT3.lo.2.2.2.2)⟩
      case measure => simp [intOf]; omega
    · go_wp2
      go_ret
      exact ⟨rfl, hB⟩
end Go.Proofs.Ytnhfnihdikammab
