import Derived.Test.YtfckmbdcfeljiaaDoorWText
namespace Go.Proofs.YtfckmbdcfeljiaaDoor
set_option linter.unusedVariables false
open Go.RowKit

set_option maxRecDepth 100000 in
set_option maxHeartbeats 1000000 in
theorem form_any (n : Int) (w : World) (h0 : 0 ≤ n) (h1 : n ≤ 18446744073709551615) :
    Calls Tryd.prog 30 #[.int .u64 n] w fun e w' => ∃ g N c, e = .returned (.slice (some ⟨g, 0, none⟩) N c) ∧ Own w' (.slice (some ⟨g, 0, none⟩) N c) (enc 10 n) ∧ w.heap.size ≤ g ∧ Below w.heap.size w w' := by
  go_enter Tryd.func30, Tryd.ntmps30
  go_wp2
  go_loopw [0, 3] (fun t s wr => ∃ (zs : List Int) (m : Int) (f : Nat), t = .int .u64 m ∧ 0 ≤ m ∧ m < 128 ^ (f + 1) ∧ m ≤ 18446744073709551615 ∧ f ≤ 9 ∧ zs.length + f = 9 ∧ zs ++ enc (f + 1) m = enc 10 n ∧ Own wr s zs ∧ Grew w wr (.slice none 0 0) s)
    (fun t _ _ => (intOf t).toNat)
  case atStart => exact ⟨[], n, 9, rfl, h0, by omega, h1, by omega, rfl, rfl, Own.nil _, Grew.refl _ _⟩
  case round =>
    obtain ⟨zs, m, f, rfl, hm0, hmf, hm1, hf, hzl, henc, ho, hg⟩ := hrel
    by_cases hbig : 128 ≤ m
    · have HE : Hid (enc (f + 1) m = (m % 128 + 128) :: enc f (m / 128)) := enc_step f m hbig
      obtain ⟨f, rfl⟩ : ∃ f', f = f' + 1 := ⟨f - 1, by rcases f with _ | f <;> omega⟩
      have hmf' : m / 128 < 128 ^ (f + 1) := by rw [Int.pow_succ] at hmf; omega
      clear hmf
      go_wp2_with (at_builtin; refine wpList_own_append rfl (.tmp 6) (.tmp 11) rfl _ _ rfl (ho.alloc _) (some ⟨wr.heap.size, 0, none⟩) 1 [m % 128 + 128] rfl ?hr no_nil ?hl ?_)
      case hr => exact rowAt_one _ _ _ (by omega) (by omega)
      case hl => (try simp); omega
      intro v1 w1 ho1 hg1 hn1
      go_wp2
      go_roundw
      case rel => exact ⟨zs ++ [m % 128 + 128], m / 128, f, by go_num, by omega, hmf', by omega, by omega, by simp; omega, by rw [← henc, HE.out]; simp, ho1, hg.trans (((Grew.refl _ _).alloc _).trans hg1)⟩
      case measure => simp [intOf]; omega
    · have HE : Hid (enc (f + 1) m = [m]) := enc_last f m (by omega)
      go_wp2_with (at_builtin; refine wpList_own_append rfl (.tmp 15) (.tmp 18) rfl _ _ rfl (ho.alloc _) (some ⟨wr.heap.size, 0, none⟩) 1 [m] rfl ?hr no_nil ?hl ?_)
      case hr => exact rowAt_one _ _ _ (by omega) (by omega)
      case hl => (try simp); omega
      intro v1 w1 ho1 hg1 hn1
      go_wp2
      go_ret
      obtain ⟨g, N, c, rfl⟩ := own_shape ho1 (fun h => by first | exact hn1 h | (have := hn1.1 h; simp at this))
      have hG := hg.trans (((Grew.refl _ _).alloc _).trans hg1)
      refine ⟨g, N, c, rfl, by rw [← henc, HE.out]; exact ho1, ?_, grew_below hG (Nat.le_refl _) (nil_own _)⟩
      rcases hG.moved with e | ⟨k, e, hk⟩
      · simp [Value.ownBlock] at e
      · simp [Value.ownBlock] at e; omega

section
variable {w : World} {q : Nat} {v : Value} {xs : List Int} {err : Int}
end
theorem Grew.ofBelow {w w1 w2 : World} {v v' : Value} (hb : Below w.heap.size w w1) (hv : ∀ k, v.ownBlock = some k → k < w.heap.size) (hg : Grew w1 w2 v v') : Grew w w2 v v' := by
  refine ⟨⟨hg.grown.os.trans hb.os, hg.grown.tape.trans hb.tape, hg.grown.output.trans hb.output, Nat.le_trans hb.size hg.grown.size, fun k hk hne => (hg.grown.block k (Nat.lt_of_lt_of_le hk hb.size) hne).trans (hb.block k hk)⟩, ?_⟩
  rcases hg.moved with e | ⟨k, e, hk⟩
  · exact .inl e
  · exact .inr ⟨k, e, Nat.le_trans hb.size hk⟩

theorem step_own_append {ops : Array Oper} {o : Oper} {a : Act} {w : World} {K : Act → World → Prop} {Q : Exit → Act → World → Prop} {E : Prop}
    (hg : o.guard = none) (s x : Operand) (hop : o.op = Op.call { callee := Callee.builtin Builtin.append, args := #[s, x], argTypes := #[22, 22] })
    (v : Value) (xs : List Int) (hs : a.eval s = v) (h : Own w v xs) (ao : Option Addr) (N c : Nat) (news : List Int) (hN : N = news.length) (hx : a.eval x = .slice ao N c) (hr : RowAt w ao news) (hc : ao = none → c = 0) (hlen : xs.length + news.length ≤ 140737488355328)
    (hK : ∀ v' w', Own w' v' (xs ++ news) → Grew w w' v v' → K (a.put o.dst v') w') :
    if Region.wanted o (yielded ops a.tmps) = true then Oper.wp Tryd.prog o a w K Q else E := by
  have hw : Region.wanted o (yielded ops a.tmps) = true := by simp [Region.wanted, hg]
  rw [if_pos hw]
  subst hN
  obtain ⟨v', w', hrun, r1, r2, _⟩ := run_own_append w o.type v xs h ao c news hr hc hlen
  unfold Oper.wp
  simp [execOp, hop, resolve, invoke, builtin, hs, hx, hrun, Result.andThen]
  exact hK v' w' r1 r2
theorem enter_form (args : Array Value) (w : World) : (callFunc 30 args).run Tryd.prog w = .ok (.enter 30 args) w := by kernel_rfl
theorem step_form {ops : Array Oper} {o : Oper} {a : Act} {w : World} {K : Act → World → Prop} {Q : Exit → Act → World → Prop} {E : Prop}
    (hg : o.guard = none) (x : Operand) (hop : o.op = Op.call { callee := Callee.value (Operand.func 30), args := #[x], argTypes := #[60] })
    (n : Int) (hx : a.eval x = .int .u64 n) (h0 : 0 ≤ n) (h1 : n ≤ 18446744073709551615)
    (hK : ∀ g N c w', Own w' (.slice (some ⟨g, 0, none⟩) N c) (enc 10 n) → w.heap.size ≤ g → Below w.heap.size w w' → K (a.put o.dst (.slice (some ⟨g, 0, none⟩) N c)) w') :
    if Region.wanted o (yielded ops a.tmps) = true then Oper.wp Tryd.prog o a w K Q else E := by
  have hw : Region.wanted o (yielded ops a.tmps) = true := by simp [Region.wanted, hg]
  rw [if_pos hw]
  have hf : a.eval (Operand.func 30) = .func (.func 30) #[] #[] := rfl
  have hcf := enter_form #[.int .u64 n] w
  have e : (execOp a.eval o).run Tryd.prog w = .ok (.enter 30 #[.int .u64 n]) w := by
    simp [execOp, hop, resolve, invoke, hx, hf, Deferred.ofValue, hcf]
  show o.upon Tryd.prog a K Q ((execOp a.eval o).run Tryd.prog w)
  rw [e, Oper.upon_enter]
  refine (form_any n w h0 h1).mono ?_
  rintro e w' ⟨g, N, c, rfl, ho, hgr, hb⟩
  exact hK g N c w' ho hgr hb

end Go.Proofs.YtfckmbdcfeljiaaDoor
