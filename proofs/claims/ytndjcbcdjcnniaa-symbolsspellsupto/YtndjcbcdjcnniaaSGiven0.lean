import Derived.Test.YtndjcbcdjcnniaaSIn
namespace Go.Proofs.Ytndjcbcdjcnniaa
set_option linter.unusedVariables false
open Go.RowKit Go.Maps

theorem conv_mark (w : World) (x y : Int) (hx0 : 0 ≤ x) (hx1 : x ≤ 255) (hy0 : 0 ≤ y) (hy1 : y ≤ 255) : ∃ m : ByteArray, m.size ≤ 16 ∧
    (convert 101 9 (.slice (some ⟨w.heap.size, 0, none⟩) 5 5)).run Try.prog (w.alloc (.cells #[.int .u8 219, .int .u8 3, .int .u8 x, .int .u8 y, .int .u8 77] 5)) = .ok (.string m) (w.alloc (.cells #[.int .u8 219, .int .u8 3, .int .u8 x, .int .u8 y, .int .u8 77] 5)) := by
  refine ⟨⟨[219, 3, UInt8.ofNat x.toNat, UInt8.ofNat y.toNat, 77].toArray⟩, by simp [ByteArray.size], ?_⟩
  refine run_convert_bytes_back (P := Try.prog) _ 101 9 5 ⟨w.heap.size, 0, none⟩ 5 [219, 3, UInt8.ofNat x.toNat, UInt8.ofNat y.toNat, 77] Try.underlying101 Try.underlying5 Try.underlying9 ?_
  have hh := heap_alloc_new w (.cells #[.int .u8 219, .int .u8 3, .int .u8 x, .int .u8 y, .int .u8 77] 5)
  intro j hj
  rw [add_none, cellq_any hh]
  match j, hj with
  | 0, _ => rfl
  | 1, _ => rfl
  | 2, _ => simp; omega
  | 3, _ => simp; omega
  | 4, _ => rfl
set_option maxRecDepth 100000 in
set_option maxHeartbeats 1000000 in
theorem markstr_any (k : Nat) (w : World) (hk : k ≤ 140737488355400) :
    Calls Try.prog 37 #[.int .i64 987, .int .i64 k] w fun e w' => ∃ m, e = .returned (.string m) ∧ m.size ≤ 16 ∧ Below w.heap.size w w' := by
  obtain ⟨m, hm, hrun⟩ := conv_mark w ((k : Int) % 256) ((k : Int) / 256 % 256) (by omega) (by omega) (by omega) (by omega)
  go_enter Try.func37, Try.ntmps37
  go_wp2
  go_ret
  exact ⟨m, rfl, hm, below_alloc w _⟩
/-- A whole row of texts behind an empty list. -/
theorem wpList_gs_copy {ops : Array Oper} {rest : List Oper} {o : Oper} {a : Act} {Q : Exit → Act → World → Prop} {w : World} (hgd : o.guard = none) (s x : Operand)
    (ho : o.op = .call { callee := .builtin .append, args := #[s, x], argTypes := #[22, 22] })
    (hs : a.eval s = .slice none 0 0) (b off c : Nat) (zs : List ByteArray) (hx : a.eval x = .slice (some ⟨b, off, none⟩) zs.length c) (hr : StrRow w (some ⟨b, off, none⟩) zs) (hlen : zs.length ≤ 8796093022208)
    (hK : ∀ a' n' c' w', GS w' (.slice a' n' c') zs → Grew w w' (.slice none 0 0) (.slice a' n' c') → wpList Try.prog ops Q rest (a.put o.dst (.slice a' n' c')) w') : wpList Try.prog ops Q (o :: rest) a w := by
  obtain ⟨i0, hi, hz0, hz1, hz2⟩ := infoStr_parts
  refine wpList_append_own_at w hgd s x 22 ho 0 9 i0 (.string ⟨#[]⟩) 1 16 Try.underlying22 hi hz0 hz1 hz2 rfl (by decide) (.slice none 0 0) 0 [] hs (World.ownsRow_nil w 0 9 1) ⟨b, off, none⟩ zs.length c (zs.map Value.string) hx (by simp) ?_ ?_ (by unfold maxLen; omega) (by omega) (Nat.zero_le _) ?_
  · intro j u hu
    have hj : j < zs.length := by have := (List.getElem?_eq_some_iff.1 hu).1; simpa using this
    obtain ⟨b', off', e, _, hc⟩ := hr (by intro h; subst h; simp at hj)
    simp at e
    obtain ⟨rfl, rfl⟩ := e
    rw [add_none, hc j hj, ← hu]
    simp [List.getD, hj]
  · intro u hu; simp at hu; obtain ⟨y, _, rfl⟩ := hu; rfl
  · intro v' w' h2 h3 _ h5
    have h6 : GS w' v' zs := by unfold GS; simpa using h2
    obtain ⟨a', c', rfl⟩ := gs_len h6
    exact hK _ _ _ w' h6 ⟨h3, h5.imp id fun e => ⟨_, e, Nat.le_refl _⟩⟩
set_option maxRecDepth 100000 in
set_option maxHeartbeats 1000000 in
theorem copystr_any (b off cap : Nat) (zs : List ByteArray) (w : World) (hl : zs.length ≤ 8796093022208) (hr : StrRow w (some ⟨b, off, none⟩) zs) :
    Calls Try.prog 38 #[.slice (some ⟨b, off, none⟩) zs.length cap] w fun e w' => ∃ a N c, e = .returned (.slice a N c) ∧ GS w' (.slice a N c) zs ∧ (∀ k, (Value.slice a N c).ownBlock = some k → w.heap.size ≤ k) ∧ Below w.heap.size w w' := by
  go_enter Try.func38, Try.ntmps38
  go_wp2_with (at_builtin; refine wpList_gs_copy rfl _ _ rfl rfl b off cap zs rfl hr hl ?_; intro a2 n2 c2 w2 ho2 hg2)
  go_ret
  refine ⟨a2, n2, c2, rfl, ho2, fun k hk => ?_, ⟨hg2.grown.os, hg2.grown.tape, hg2.grown.output, hg2.grown.size, fun k hk => hg2.grown.block k hk (by simp [Value.ownBlock])⟩⟩
  rcases hg2.moved with e | ⟨j, e, hj⟩
  · rw [e] at hk; simp [Value.ownBlock] at hk
  · rw [e] at hk; simp at hk; omega
end Go.Proofs.Ytndjcbcdjcnniaa
