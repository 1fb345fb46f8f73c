import Derived.Test.YtgaoahifblifoaaDoorWText
namespace Go.Proofs.YtgaoahifblifoaaDoor
set_option linter.unusedVariables false
open Go.RowKit

set_option maxRecDepth 100000 in
set_option maxHeartbeats 1000000 in
theorem form_any (n : Int) (w : World) (h0 : 0 ≤ n) (h1 : n ≤ 18446744073709551615) :
    Calls Tryd.prog 40 #[.int .u64 n] w fun e w' => ∃ g N c, e = .returned (.slice (some ⟨g, 0, none⟩) N c) ∧ Own w' (.slice (some ⟨g, 0, none⟩) N c) (enc 10 n) ∧ w.heap.size ≤ g ∧ Below w.heap.size w w' := by
  go_enter Tryd.func40, Tryd.ntmps40
  go_wp2
  go_loopw [0, 3] (fun t s wr => ∃ (zs : List Int) (m : Int) (f : Nat), t = .int .u64 m ∧ 0 ≤ m ∧ m < 128 ^ (f + 1) ∧ m ≤ 18446744073709551615 ∧ f ≤ 9 ∧ zs.length + f = 9 ∧ zs ++ enc (f + 1) m = enc 10 n ∧ Own wr s zs ∧ Grew w wr (.slice none 0 0) s)
    (fun t _ _ => (intOf t).toNat)
  case atStart => exact ⟨[], n, 9, rfl, h0, by omega, h1, by omega, rfl, rfl, Own.nil _, Grew.refl _ _⟩
  case round =>
    obtain ⟨zs, m, f, rfl, hm0, hmf, hm1, hf, hzl, henc, ho, hg⟩ := hrel
    by_cases hbig : 128 ≤ m
    · have HE : Hid (enc (f + 1) m = (m % 128 + 128) :: enc f (m / 128)) := enc_step f m hbig
      obtain ⟨f, rfl⟩ : ∃ f', f = f' + 1 := ⟨f - 1, by rcases f with _ | f <;> omega⟩
      have hmf' : m / 128 < 128 ^ (f + 1) := by rw [Int.pow_succ] at hmf; omega
      clear hmf
      go_wp2_with (at_builtin; refine wpList_own_append rfl (.tmp 6) (.tmp 11) rfl _ _ rfl (ho.alloc _) (some ⟨wr.heap.size, 0, none⟩) 1 [m % 128 + 128] rfl ?hr no_nil ?hl ?_)
      case hr => exact rowAt_one _ _ _ (by omega) (by omega)
      case hl => (try simp); omega
      intro v1 w1 ho1 hg1 hn1
      go_wp2
      go_roundw
      case rel => exact ⟨zs ++ [m % 128 + 128], m / 128, f, by go_num, by omega, hmf', by omega, by omega, by simp; omega, by rw [← henc, HE.out]; simp, ho1, hg.trans (((Grew.refl _ _).alloc _).trans hg1)⟩
      case measure => simp [intOf]; omega
    · have HE : Hid (enc (f + 1) m = [m]) := enc_last f m (by omega)
      go_wp2_with (at_builtin; refine wpList_own_append rfl (.tmp 15) (.tmp 18) rfl _ _ rfl (ho.alloc _) (some ⟨wr.heap.size, 0, none⟩) 1 [m] rfl ?hr no_nil ?hl ?_)
      case hr => exact rowAt_one _ _ _ (by omega) (by omega)
      case hl => (try simp); omega
      intro v1 w1 ho1 hg1 hn1
      go_wp2
      go_ret
      obtain ⟨g, N, c, rfl⟩ := own_shape ho1 (fun h => by first | exact hn1 h | (have := hn1.1 h; simp at this))
      have hG := hg.trans (((Grew.refl _ _).alloc _).trans hg1)
      refine ⟨g, N, c, rfl, by rw [← henc, HE.out]; exact ho1, ?_, grew_below hG (Nat.le_refl _) (nil_own _)⟩
      rcases hG.moved with e | ⟨k, e, hk⟩
      · simp [Value.ownBlock] at e
      · simp [Value.ownBlock] at e; omega

/-- The document's writer: one block. -/
structure VInv (w : World) (q : Nat) (v : Value) (xs : List Int) (err : Int) : Prop where
  hq : w.heap[q]? = some (.cells #[v, .int .i64 err] 58 (0, 0))
  own : Own w v xs
section
variable {w : World} {q : Nat} {v : Value} {xs : List Int} {err : Int}
theorem VInv.cell0 (h : VInv w q v xs err) : w.cell? ⟨q, 0, none⟩ = some v := by simp [World.cell?, h.hq]
theorem VInv.cell1 (h : VInv w q v xs err) : w.cell? ⟨q, 1, none⟩ = some (.int .i64 err) := by simp [World.cell?, h.hq]
theorem VInv.free0 (h : VInv w q v xs err) : w.frozen? ⟨q, 0, none⟩ = false := by simp [World.frozen?, h.hq]
theorem VInv.free1 (h : VInv w q v xs err) : w.frozen? ⟨q, 1, none⟩ = false := by simp [World.frozen?, h.hq]
theorem VInv.neq (h : VInv w q v xs err) : some q ≠ v.ownBlock := own_ne h.own h.hq (by decide)
theorem VInv.kept (h : VInv w q v xs err) {w' : World} (hq : w'.heap[q]? = w.heap[q]?) (hv : ∀ k, v.ownBlock = some k → w'.heap[k]? = w.heap[k]?) : VInv w' q v xs err := ⟨hq.trans h.hq, h.own.kept hv⟩
theorem VInv.later (h : VInv w q v xs err) {w' : World} (hb : Below w.heap.size w w') : VInv w' q v xs err := h.kept (hb.block q (lt_of_block h.hq)) fun k hk => hb.block k (h.own.lt k hk)
theorem VInv.drew (h : VInv w q v xs err) : VInv w.drew q v xs err := h.later (Below.refl _ _).drew
theorem VInv.stored {w1 : World} {v1 : Value} {ys : List Int} (h : VInv w q v xs err) (hg : Grew w w1 v v1) (ho : Own w1 v1 ys) : VInv (w1.setCell ⟨q, 0, none⟩ v1) q v1 ys err ∧ WGrew w (w1.setCell ⟨q, 0, none⟩ v1) q v v1 := by
  have b : w1.heap[q]? = some (.cells #[v, .int .i64 err] 58 (0, 0)) := (hg.grown.block q (lt_of_block h.hq) h.neq).trans h.hq
  refine ⟨⟨by rw [heap_set b]; rfl, ho.kept fun k hk => Below.heap_setCell _ _ _ _ ?_⟩, ⟨hg.grown.os, hg.grown.tape, hg.grown.output, by have := hg.grown.size; simpa [World.setCell] using this, fun k hk hq hv => ?_, hg.moved⟩⟩
  · intro e
    exact own_ne ho b (by decide) (by rw [hk, e])
  · rw [Below.heap_setCell _ _ _ _ hq]; exact hg.grown.block k hk hv
theorem VInv.setErr (h : VInv w q v xs err) (e : Int) : VInv (w.setCell ⟨q, 1, none⟩ (.int .i64 e)) q v xs e ∧ WGrew w (w.setCell ⟨q, 1, none⟩ (.int .i64 e)) q v v :=
  ⟨⟨by rw [heap_set h.hq]; rfl, h.own.kept fun k hk => Below.heap_setCell _ _ _ _ (fun e => h.neq (by rw [hk, e]))⟩,
   ⟨rfl, rfl, rfl, by simp [World.setCell], fun k _ hk _ => Below.heap_setCell _ _ _ _ hk, .inl rfl⟩⟩
end
theorem Grew.ofBelow {w w1 w2 : World} {v v' : Value} (hb : Below w.heap.size w w1) (hv : ∀ k, v.ownBlock = some k → k < w.heap.size) (hg : Grew w1 w2 v v') : Grew w w2 v v' := by
  refine ⟨⟨hg.grown.os.trans hb.os, hg.grown.tape.trans hb.tape, hg.grown.output.trans hb.output, Nat.le_trans hb.size hg.grown.size, fun k hk hne => (hg.grown.block k (Nat.lt_of_lt_of_le hk hb.size) hne).trans (hb.block k hk)⟩, ?_⟩
  rcases hg.moved with e | ⟨k, e, hk⟩
  · exact .inl e
  · exact .inr ⟨k, e, Nat.le_trans hb.size hk⟩

theorem step_own_append {ops : Array Oper} {o : Oper} {a : Act} {w : World} {K : Act → World → Prop} {Q : Exit → Act → World → Prop} {E : Prop}
    (hg : o.guard = none) (s x : Operand) (hop : o.op = Op.call { callee := Callee.builtin Builtin.append, args := #[s, x], argTypes := #[22, 22] })
    (v : Value) (xs : List Int) (hs : a.eval s = v) (h : Own w v xs) (ao : Option Addr) (N c : Nat) (news : List Int) (hN : N = news.length) (hx : a.eval x = .slice ao N c) (hr : RowAt w ao news) (hc : ao = none → c = 0) (hlen : xs.length + news.length ≤ 140737488355328)
    (hK : ∀ v' w', Own w' v' (xs ++ news) → Grew w w' v v' → K (a.put o.dst v') w') :
    if Region.wanted o (yielded ops a.tmps) = true then Oper.wp Tryd.prog o a w K Q else E := by
  have hw : Region.wanted o (yielded ops a.tmps) = true := by simp [Region.wanted, hg]
  rw [if_pos hw]
  subst hN
  obtain ⟨v', w', hrun, r1, r2, _⟩ := run_own_append w o.type v xs h ao c news hr hc hlen
  unfold Oper.wp
  simp [execOp, hop, resolve, invoke, builtin, hs, hx, hrun, Result.andThen]
  exact hK v' w' r1 r2
theorem enter_form (args : Array Value) (w : World) : (callFunc 40 args).run Tryd.prog w = .ok (.enter 40 args) w := by kernel_rfl
theorem step_form {ops : Array Oper} {o : Oper} {a : Act} {w : World} {K : Act → World → Prop} {Q : Exit → Act → World → Prop} {E : Prop}
    (hg : o.guard = none) (x : Operand) (hop : o.op = Op.call { callee := Callee.value (Operand.func 40), args := #[x], argTypes := #[70] })
    (n : Int) (hx : a.eval x = .int .u64 n) (h0 : 0 ≤ n) (h1 : n ≤ 18446744073709551615)
    (hK : ∀ g N c w', Own w' (.slice (some ⟨g, 0, none⟩) N c) (enc 10 n) → w.heap.size ≤ g → Below w.heap.size w w' → K (a.put o.dst (.slice (some ⟨g, 0, none⟩) N c)) w') :
    if Region.wanted o (yielded ops a.tmps) = true then Oper.wp Tryd.prog o a w K Q else E := by
  have hw : Region.wanted o (yielded ops a.tmps) = true := by simp [Region.wanted, hg]
  rw [if_pos hw]
  have hf : a.eval (Operand.func 40) = .func (.func 40) #[] #[] := rfl
  have hcf := enter_form #[.int .u64 n] w
  have e : (execOp a.eval o).run Tryd.prog w = .ok (.enter 40 #[.int .u64 n]) w := by
    simp [execOp, hop, resolve, invoke, hx, hf, Deferred.ofValue, hcf]
  show o.upon Tryd.prog a K Q ((execOp a.eval o).run Tryd.prog w)
  rw [e, Oper.upon_enter]
  refine (form_any n w h0 h1).mono ?_
  rintro e w' ⟨g, N, c, rfl, ho, hgr, hb⟩
  exact hK g N c w' ho hgr hb

/-- What a writing leaves of the document's writer. -/
def VEnds (q : Nat) (v : Value) (xs : List Int) (err : Int) (w : World) (e : Ending) (w' : World) : Prop :=
  e = .returned (.tuple #[]) ∧ ∃ v', VInv w' q v' xs err ∧ WGrew w w' q v v'

set_option maxRecDepth 100000 in
set_option maxHeartbeats 1000000 in
theorem vnumber_ok {w : World} {q : Nat} {v : Value} {xs : List Int} (n : Int) (h : VInv w q v xs 0) (h0 : 0 ≤ n) (h1 : n ≤ 18446744073709551615) (hl : xs.length ≤ 140737488355300) :
    Calls Tryd.prog 56 #[.pointer (some ⟨q, 0, none⟩), .int .u64 n] w (VEnds q v (xs ++ enc 10 n) 0 w) := by
  have c0 := h.cell0
  have c1 := h.cell1
  have HL : Hid (xs.length + (enc 10 n).length ≤ 140737488355328) := by show _ ≤ _; have := enc_len 10 n; omega
  have AF : Hid (∀ w1, Below w.drew.heap.size w.drew w1 → w1.cell? ⟨q, 0, none⟩ = some v ∧ Own w1 v xs) := fun w1 hb => ⟨(h.drew.later hb).cell0, (h.drew.later hb).own⟩
  have AF2 : Hid (∀ w1 w2 v2, Below w.drew.heap.size w.drew w1 → Grew w1 w2 v v2 → w2.cell? ⟨q, 0, none⟩ = some v ∧ w2.frozen? ⟨q, 0, none⟩ = false) := fun w1 w2 v2 hb hg => by
    have h1 := h.drew.later hb
    have b : w2.heap[q]? = some (.cells #[v, .int .i64 0] 58 (0, 0)) := (hg.grown.block q (lt_of_block h1.hq) h1.neq).trans h1.hq
    exact ⟨by simp [World.cell?, b], by simp [World.frozen?, b]⟩
  have HNE : Hid (xs ++ enc 10 n ≠ []) := fun e => enc_ne n (by simp at e; exact e.2)
  go_enter Tryd.func56, Tryd.ntmps56
  go_wp2
  go_region_law (first
    | (refine step_form (by rfl) _ (by rfl) n (by rfl) h0 h1 ?_; intro g1 N1 c1' w1 ho1 hg1 hb1; obtain ⟨d0, d1⟩ := AF.out w1 hb1)
    | (refine step_own_append (by rfl) _ _ (by rfl) v xs (by rfl) d1 (some ⟨g1, 0, none⟩) N1 c1' (enc 10 n) (own_len ho1).1 (by rfl) (own_len ho1).2.1 no_nil HL.out ?_; intro v2 w2 ho2 hg2; obtain ⟨g2, N2, c2, rfl⟩ := own_some ho2 HNE.out; obtain ⟨e0, e1⟩ := AF2.out w1 w2 _ hb1 hg2))
  all_goals go_end0
  all_goals
    obtain ⟨r1, r2⟩ := h.drew.stored (Grew.ofBelow hb1 (fun k hk => h.drew.own.lt k hk) hg2) ho2
    exact ⟨rfl, _, r1, r2.ofDrew⟩
end Go.Proofs.YtgaoahifblifoaaDoor
