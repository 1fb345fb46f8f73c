import Derived.Test.YtmkakdfdfdcncaaGreatDoorPWText
import Derived.Test.YtmkakdfdfdcncaaGreatDoorPCountToBack0
namespace Go.Proofs.YtmkakdfdfdcncaaGreatDoor.C
set_option linter.unusedVariables false
set_option maxRecDepth 100000
set_option maxHeartbeats 16000000
open Go.RowKit
theorem form_any (n : Int) (w : World) (h0 : 0 <= n) (h1 : n <= 18446744073709551615) :
  Calls Tryz.prog 149 #[.int .u64 n] w fun e w' => ∃ g N c, e = .returned (.slice (some ⟨g, 0, none⟩) N c) /\ Own w' (.slice (some ⟨g, 0, none⟩) N c) (enc 10 n) /\ w.heap.size <= g /\ Below w.heap.size w w' := by
 go_enter Tryz.func149, Tryz.ntmps149
 go_wp2
 go_loopw [0, 3] (fun t s wr => ∃ (zs : List Int) (m : Int) (f : Nat), t = .int .u64 m /\ 0 <= m /\ m < 128 ^ (f + 1) /\ m <= 18446744073709551615 /\ f <= 9 /\ zs.length + f = 9 /\ zs ++ enc (f + 1) m = enc 10 n /\ Own wr s zs /\ Grew w wr (.slice none 0 0) s)
  (fun t _ _ => (intOf t).toNat)
 case atStart => exact ⟨[], n, 9, rfl, h0, by omega, h1, by omega, rfl, rfl, Own.nil _, Grew.refl _ _⟩
 case round =>
  obtain ⟨zs, m, f, rfl, hm0, hmf, hm1, hf, hzl, henc, ho, hg⟩ := hrel
  by_cases hbig : 128 <= m
  ·have HE : Hid (enc (f + 1) m = (m % 128 + 128) :: enc f (m / 128)) := enc_step f m hbig
   obtain ⟨f, rfl⟩ : ∃ f', f = f' + 1 := ⟨f - 1, by rcases f with _ | f <;> omega⟩
   have hmf' : m / 128 < 128 ^ (f + 1) := by rw [Int.pow_succ] at hmf; omega
   clear hmf
   go_wp2_with (at_builtin; refine wpList_own_append rfl (.tmp 6) (.tmp 11) rfl _ _ rfl (ho.alloc _) (some ⟨wr.heap.size, 0, none⟩) 1 [m % 128 + 128] rfl ?hr no_nil ?hl ?_)
   case hr => exact rowAt_one _ _ _ (by omega) (by omega)
   case hl => (try simp); omega
   intro v1 w1 ho1 hg1 hn1
   go_wp2
   go_roundw
   case rel => exact ⟨zs ++ [m % 128 + 128], m / 128, f, by go_num, by omega, hmf', by omega, by omega, by simp; omega, by rw [<- henc, HE.out]; simp, ho1, hg.trans (((Grew.refl _ _).alloc _).trans hg1)⟩
   case measure => simp [intOf]; omega
  ·have HE : Hid (enc (f + 1) m = [m]) := enc_last f m (by omega)
   go_wp2_with (at_builtin; refine wpList_own_append rfl (.tmp 15) (.tmp 18) rfl _ _ rfl (ho.alloc _) (some ⟨wr.heap.size, 0, none⟩) 1 [m] rfl ?hr no_nil ?hl ?_)
   case hr => exact rowAt_one _ _ _ (by omega) (by omega)
   case hl => (try simp); omega
   intro v1 w1 ho1 hg1 hn1
   go_wp2
   go_ret
   obtain ⟨g, N, c, rfl⟩ := own_shape ho1 (fun h => by first | exact hn1 h | (have := hn1.1 h; simp at this))
   have hG := hg.trans (((Grew.refl _ _).alloc _).trans hg1)
   refine ⟨g, N, c, rfl, by rw [<- henc, HE.out]; exact ho1, ?_, grew_below hG (Nat.le_refl _) (nil_own _)⟩
   rcases hG.moved with e | ⟨k, e, hk⟩
   ·simp [Value.ownBlock] at e
   ·simp [Value.ownBlock] at e; omega
structure VInv (w : World) (q : Nat) (v : Value) (xs : List Int) (err : Int) : Prop where
 hq : w.heap[q]? = some (.cells #[v, .int .i64 err] 139 (0, 0))
 own : Own w v xs
section
variable {w : World} {q : Nat} {v : Value} {xs : List Int} {err : Int}
theorem VInv.cell0 (h : VInv w q v xs err) : w.cell? ⟨q, 0, none⟩ = some v := by simp [World.cell?, h.hq]
theorem VInv.cell1 (h : VInv w q v xs err) : w.cell? ⟨q, 1, none⟩ = some (.int .i64 err) := by simp [World.cell?, h.hq]
theorem VInv.free0 (h : VInv w q v xs err) : w.frozen? ⟨q, 0, none⟩ = false := by simp [World.frozen?, h.hq]
theorem VInv.neq (h : VInv w q v xs err) : some q ≠ v.ownBlock := own_ne h.own h.hq (by decide)
theorem VInv.kept (h : VInv w q v xs err) {w' : World} (hq : w'.heap[q]? = w.heap[q]?) (hv : ∀ k, v.ownBlock = some k -> w'.heap[k]? = w.heap[k]?) : VInv w' q v xs err := ⟨hq.trans h.hq, h.own.kept hv⟩
theorem VInv.later (h : VInv w q v xs err) {w' : World} (hb : Below w.heap.size w w') : VInv w' q v xs err := h.kept (hb.block q (lt_of_block h.hq)) fun k hk => hb.block k (h.own.lt k hk)
theorem VInv.drew (h : VInv w q v xs err) : VInv w.drew q v xs err := h.later (Below.refl _ _).drew
theorem VInv.stored {w1 : World} {v1 : Value} {ys : List Int} (h : VInv w q v xs err) (hg : Grew w w1 v v1) (ho : Own w1 v1 ys) : VInv (w1.setCell ⟨q, 0, none⟩ v1) q v1 ys err /\ WGrew w (w1.setCell ⟨q, 0, none⟩ v1) q v v1 := by
 have b : w1.heap[q]? = some (.cells #[v, .int .i64 err] 139 (0, 0)) := (hg.grown.block q (lt_of_block h.hq) h.neq).trans h.hq
 refine ⟨⟨by rw [heap_set b]; rfl, ho.kept fun k hk => Below.heap_setCell _ _ _ _ ?_⟩, ⟨hg.grown.os, hg.grown.tape, hg.grown.output, by have := hg.grown.size; simpa [World.setCell] using this, fun k hk hq hv => ?_, hg.moved⟩⟩
 ·intro e
  exact own_ne ho b (by decide) (by rw [hk, e])
 ·rw [Below.heap_setCell _ _ _ _ hq]; exact hg.grown.block k hk hv
theorem VInv.setErr (h : VInv w q v xs err) (e : Int) : VInv (w.setCell ⟨q, 1, none⟩ (.int .i64 e)) q v xs e /\ WGrew w (w.setCell ⟨q, 1, none⟩ (.int .i64 e)) q v v :=
 ⟨⟨by rw [heap_set h.hq]; rfl, h.own.kept fun k hk => Below.heap_setCell _ _ _ _ (fun e => h.neq (by rw [hk, e]))⟩,
  ⟨rfl, rfl, rfl, by simp [World.setCell], fun k _ hk _ => Below.heap_setCell _ _ _ _ hk, .inl rfl⟩⟩
end
theorem Grew.ofBelow {w w1 w2 : World} {v v' : Value} (hb : Below w.heap.size w w1) (hv : ∀ k, v.ownBlock = some k -> k < w.heap.size) (hg : Grew w1 w2 v v') : Grew w w2 v v' := by
 refine ⟨⟨hg.grown.os.trans hb.os, hg.grown.tape.trans hb.tape, hg.grown.output.trans hb.output, Nat.le_trans hb.size hg.grown.size, fun k hk hne => (hg.grown.block k (Nat.lt_of_lt_of_le hk hb.size) hne).trans (hb.block k hk)⟩, ?_⟩
 rcases hg.moved with e | ⟨k, e, hk⟩
 ·exact .inl e
 ·exact .inr ⟨k, e, Nat.le_trans hb.size hk⟩
theorem step_own_append {ops : Array Oper} {o : Oper} {a : Act} {w : World} {K : Act -> World -> Prop} {Q : Exit -> Act -> World -> Prop} {E : Prop}
  (hg : o.guard = none) (s x : Operand) (hop : o.op = Op.call { callee := Callee.builtin Builtin.append, args := #[s, x], argTypes := #[54, 54] })
  (v : Value) (xs : List Int) (hs : a.eval s = v) (h : Own w v xs) (ao : Option Addr) (N c : Nat) (news : List Int) (hN : N = news.length) (hx : a.eval x = .slice ao N c) (hr : RowAt w ao news) (hc : ao = none -> c = 0) (hlen : xs.length + news.length <= 140737488355328)
  (hK : ∀ v' w', Own w' v' (xs ++ news) -> Grew w w' v v' -> K (a.put o.dst v') w') :
  if Region.wanted o (yielded ops a.tmps) = true then Oper.wp Tryz.prog o a w K Q else E := by
 have hw : Region.wanted o (yielded ops a.tmps) = true := by simp [Region.wanted, hg]
 rw [if_pos hw]
 subst hN
 obtain ⟨v', w', hrun, r1, r2, _⟩ := run_own_append w o.type v xs h ao c news hr hc hlen
 unfold Oper.wp
 simp [execOp, hop, resolve, invoke, builtin, hs, hx, hrun, Result.andThen]
 exact hK v' w' r1 r2
theorem enter_form (args : Array Value) (w : World) : (callFunc 149 args).run Tryz.prog w = .ok (.enter 149 args) w := by kernel_rfl
theorem step_form {ops : Array Oper} {o : Oper} {a : Act} {w : World} {K : Act -> World -> Prop} {Q : Exit -> Act -> World -> Prop} {E : Prop}
  (hg : o.guard = none) (x : Operand) (hop : o.op = Op.call { callee := Callee.value (Operand.func 149), args := #[x], argTypes := #[199] })
  (n : Int) (hx : a.eval x = .int .u64 n) (h0 : 0 <= n) (h1 : n <= 18446744073709551615)
  (hK : ∀ g N c w', Own w' (.slice (some ⟨g, 0, none⟩) N c) (enc 10 n) -> w.heap.size <= g -> Below w.heap.size w w' -> K (a.put o.dst (.slice (some ⟨g, 0, none⟩) N c)) w') :
  if Region.wanted o (yielded ops a.tmps) = true then Oper.wp Tryz.prog o a w K Q else E := by
 have hw : Region.wanted o (yielded ops a.tmps) = true := by simp [Region.wanted, hg]
 rw [if_pos hw]
 have hf : a.eval (Operand.func 149) = .func (.func 149) #[] #[] := rfl
 have hcf := enter_form #[.int .u64 n] w
 have e : (execOp a.eval o).run Tryz.prog w = .ok (.enter 149 #[.int .u64 n]) w := by
  simp [execOp, hop, resolve, invoke, hx, hf, Deferred.ofValue, hcf]
 show o.upon Tryz.prog a K Q ((execOp a.eval o).run Tryz.prog w)
 rw [e, Oper.upon_enter]
 refine (form_any n w h0 h1).mono ?_
 rintro e w' ⟨g, N, c, rfl, ho, hgr, hb⟩
 exact hK g N c w' ho hgr hb
def VEnds (q : Nat) (v : Value) (xs : List Int) (err : Int) (w : World) (e : Ending) (w' : World) : Prop :=
 e = .returned (.tuple #[]) /\ ∃ v', VInv w' q v' xs err /\ WGrew w w' q v v'
theorem vnumber_ok {w : World} {q : Nat} {v : Value} {xs : List Int} (n : Int) (h : VInv w q v xs 0) (h0 : 0 <= n) (h1 : n <= 18446744073709551615) (hl : xs.length <= 140737488355300) :
  Calls Tryz.prog 147 #[.pointer (some ⟨q, 0, none⟩), .int .u64 n] w (VEnds q v (xs ++ enc 10 n) 0 w) := by
 have c0 := h.cell0
 have c1 := h.cell1
 have HL : Hid (xs.length + (enc 10 n).length <= 140737488355328) := by show _ <= _; have := enc_len 10 n; omega
 have AF : Hid (∀ w1, Below w.drew.heap.size w.drew w1 -> w1.cell? ⟨q, 0, none⟩ = some v /\ Own w1 v xs) := fun w1 hb => ⟨(h.drew.later hb).cell0, (h.drew.later hb).own⟩
 have AF2 : Hid (∀ w1 w2 v2, Below w.drew.heap.size w.drew w1 -> Grew w1 w2 v v2 -> w2.cell? ⟨q, 0, none⟩ = some v /\ w2.frozen? ⟨q, 0, none⟩ = false) := fun w1 w2 v2 hb hg => by
  have h1 := h.drew.later hb
  have b : w2.heap[q]? = some (.cells #[v, .int .i64 0] 139 (0, 0)) := (hg.grown.block q (lt_of_block h1.hq) h1.neq).trans h1.hq
  exact ⟨by simp [World.cell?, b], by simp [World.frozen?, b]⟩
 have HNE : Hid (xs ++ enc 10 n ≠ []) := fun e => enc_ne n (by simp at e; exact e.2)
 go_enter Tryz.func147, Tryz.ntmps147
 go_wp2
 go_region_law (first
  | (refine step_form (by rfl) _ (by rfl) n (by rfl) h0 h1 ?_; intro g1 N1 c1' w1 ho1 hg1 hb1; obtain ⟨d0, d1⟩ := AF.out w1 hb1)
  | (refine step_own_append (by rfl) _ _ (by rfl) v xs (by rfl) d1 (some ⟨g1, 0, none⟩) N1 c1' (enc 10 n) (own_len ho1).1 (by rfl) (own_len ho1).2.1 no_nil HL.out ?_; intro v2 w2 ho2 hg2; obtain ⟨g2, N2, c2, rfl⟩ := own_some ho2 HNE.out; obtain ⟨e0, e1⟩ := AF2.out w1 w2 _ hb1 hg2))
 all_goals go_end0
 all_goals
  obtain ⟨r1, r2⟩ := h.drew.stored (Grew.ofBelow hb1 (fun k hk => h.drew.own.lt k hk) hg2) ho2
  exact ⟨rfl, _, r1, r2.ofDrew⟩
theorem wpList_own_append_str {ops : Array Oper} {rest : List Oper} {o : Oper} {a : Act} {Q : Exit -> Act -> World -> Prop} {w : World} (hgd : o.guard = none) (s x : Operand)
  (ho : o.op = .call { callee := .builtin .append, args := #[s, x], argTypes := #[54, 9] })
  (v : Value) (xs : List Int) (hs : a.eval s = v) (h : Own w v xs) (str : ByteArray) (hx : a.eval x = .string str) (hlen : xs.length + str.size <= 140737488355328)
  (hK : ∀ v' w', Own w' v' (xs ++ strBytes str) -> Grew w w' v v' -> wpList Tryz.prog ops Q rest (a.put o.dst v') w') : wpList Tryz.prog ops Q (o :: rest) a w := by
 refine wpList_plain hgd fun K hK' => ?_
 obtain ⟨v', w', hrun, h2, h3⟩ := run_own_append_str w o.type v xs h str hlen
 unfold Oper.wp execOp
 simp only [ho, resolve, invoke, builtin, Sem.run_bind, Sem.run_pure, Result.andThen_ok, List.map_toArray, List.map_cons, List.map_nil, hs, hx, hrun]
 exact hK' _ _ (hK v' w' h2 h3)
theorem cell2a {w : World} {b : Nat} {x y : Value} {t : TypeId} (h : w.heap[b]? = some (.cells #[x, y] t (0, 0))) : w.cell? ⟨b, 0, none⟩ = some x := by simp [World.cell?, h]
theorem free2a {w : World} {b : Nat} {x y : Value} {t : TypeId} (h : w.heap[b]? = some (.cells #[x, y] t (0, 0))) : w.frozen? ⟨b, 0, none⟩ = false := by simp [World.frozen?, h]
theorem vnumber_no {w : World} {q : Nat} {v : Value} {xs : List Int} {err : Int} (n : Int) (h : VInv w q v xs err) (hne : (err == 0) = false) :
  Calls Tryz.prog 147 #[.pointer (some ⟨q, 0, none⟩), .int .u64 n] w fun e w' => e = .returned (.tuple #[]) /\ w = w' := by
 have c1 := h.cell1
 go_enter Tryz.func147, Tryz.ntmps147
 go_wp2
 go_end0
 exact ⟨rfl, rfl⟩
theorem vnumber {w : World} {q : Nat} {v : Value} {xs : List Int} {err : Int} (n : Int) (h : VInv w q v xs err) (h0 : 0 <= n) (h1 : n <= 18446744073709551615) (hl : xs.length <= 140737488355300) (xs' : List Int) (hx : xs' = if err = 0 then xs ++ enc 10 n else xs) :
  Calls Tryz.prog 147 #[.pointer (some ⟨q, 0, none⟩), .int .u64 n] w (VEnds q v xs' err w) := by
 subst hx
 by_cases he : err = 0
 ·subst he
  rw [if_pos rfl]
  exact vnumber_ok n h h0 h1 hl
 ·rw [if_neg he]
  exact (vnumber_no n h (by simpa using he)).mono fun e w' ⟨a, b⟩ => by subst b; exact ⟨a, v, h, WGrew.refl _ _ _⟩
theorem vint_pos {w : World} {q : Nat} {v : Value} {xs : List Int} {err : Int} (n : Int) (h : VInv w q v xs err) (hn : 0 <= n) (hn1 : n <= 9223372036854775807) (hl : xs.length <= 140737488355300) (xs' : List Int) (hx : xs' = if err = 0 then xs ++ enc 10 n else xs) :
  Calls Tryz.prog 73 #[.pointer (some ⟨q, 0, none⟩), .int .i64 n] w (VEnds q v xs' err w) := by
 have c1 := h.cell1
 have hn2 : n <= 18446744073709551615 := by omega
 have HX : Hid _ := hx
 clear hx
 by_cases he : err = 0
 ·have hb : (err == 0) = true := by simpa using he
  clear he
  go_enter Tryz.func73, Tryz.ntmps73
  go_wp2_with (go_at_call 147; refine (vnumber n h hn hn2 hl xs' HX.out).mono ?_; rintro e w' ⟨rfl, v', r1, r2⟩)
  go_end0
  exact ⟨rfl, v', r1, r2⟩
 ·have hb : (err == 0) = false := by simpa using he
  have HXX : Hid (xs' = xs) := by have := HX.out; rw [if_neg he] at this; exact this
  clear he
  go_enter Tryz.func73, Tryz.ntmps73
  go_wp2
  go_end0
  exact ⟨rfl, v, by rw [HXX.out]; exact h, WGrew.refl _ _ _⟩
theorem zigzag_any (n : Int) (w : World) (h0 : -9223372036854775808 <= n) (h1 : n <= 9223372036854775807) :
  Calls Tryz.prog 148 #[.int .i64 n] w fun e w' => e = .returned (.int .u64 (foldS n)) /\ w = w' := by
 by_cases hn : n < 0
 ·have FS : Hid (foldS n = 2 * (-(n + 1)) + 1) := by show _ = _; rw [foldS, if_pos hn]; omega
  rw [FS.out]
  go_enter Tryz.func148, Tryz.ntmps148
  go_wp2
  go_ret
  exact ⟨by first | rfl | (congr 2; omega) | (simp; omega), rfl⟩
 ·have FS : Hid (foldS n = 2 * n) := by show _ = _; rw [foldS, if_neg hn]
  rw [FS.out]
  go_enter Tryz.func148, Tryz.ntmps148
  go_wp2
  go_ret
  exact ⟨by first | rfl | (congr 2; omega) | (simp; omega), rfl⟩
theorem vsigned {w : World} {q : Nat} {v : Value} {xs : List Int} {err : Int} (n : Int) (h : VInv w q v xs err) (h0 : -9223372036854775808 <= n) (h1 : n <= 9223372036854775807) (hl : xs.length <= 140737488355300) (xs' : List Int) (hx : xs' = if err = 0 then xs ++ enc 10 (foldS n) else xs) :
  Calls Tryz.prog 75 #[.pointer (some ⟨q, 0, none⟩), .int .i64 n] w (VEnds q v xs' err w) := by
 have HX : Hid _ := hx
 obtain ⟨b0, b1⟩ := foldS_bd n h0 h1
 clear hx
 go_enter Tryz.func75, Tryz.ntmps75
 go_wp2_with (first
  | (go_at_call 148; refine (zigzag_any n w h0 h1).mono ?_; rintro e w' ⟨rfl, rfl⟩)
  | (go_at_call 147; refine (vnumber (foldS n) h b0 b1 hl xs' HX.out).mono ?_; rintro e w' ⟨rfl, v', r1, r2⟩))
 go_end0
 exact ⟨rfl, v', r1, r2⟩
theorem WGrew.trans {w w1 w2 : World} {q : Nat} {v v1 v2 : Value} (h : WGrew w w1 q v v1) (k : WGrew w1 w2 q v1 v2) : WGrew w w2 q v v2 := by
 refine ⟨k.os.trans h.os, k.tape.trans h.tape, k.output.trans h.output, Nat.le_trans h.size k.size, fun i hi hq hne => ?_, ?_⟩
 ·refine (k.block i (Nat.lt_of_lt_of_le hi h.size) hq ?_).trans (h.block i hi hq hne)
  rcases h.moved with e | ⟨z, e, hz⟩
  ·rw [e]; exact hne
  ·rw [e]; intro e'; have := Option.some.inj e'; omega
 ·rcases k.moved with e | ⟨z, e, hz⟩
  ·rw [e]; exact h.moved
  ·exact .inr ⟨z, e, Nat.le_trans h.size hz⟩
theorem vtext {w : World} {q : Nat} {v : Value} {xs : List Int} {err : Int} (s : ByteArray) (h : VInv w q v xs err) (hl : xs.length + s.size <= 140737488355290) (xs' : List Int) (hx : xs' = if err = 0 then xs ++ enc 10 s.size ++ strBytes s else xs) :
  Calls Tryz.prog 74 #[.pointer (some ⟨q, 0, none⟩), .string s] w (VEnds q v xs' err w) := by
 have hs0 : (0 : Int) <= (s.size : Int) := by omega
 have hs1 : (s.size : Int) <= 18446744073709551615 := by omega
 have hsz : s.size <= 140737488355290 := by omega
 have HL0 : Hid (xs.length <= 140737488355300) := by show _ <= _; omega
 by_cases he : err = 0
 ·subst he
  rw [if_pos rfl] at hx
  subst hx
  have HL : Hid ((xs ++ enc 10 (s.size : Int)).length + s.size <= 140737488355328) := by show _ <= _; have := enc_len 10 (s.size : Int); simp; omega
  have HNE : Hid (xs ++ enc 10 (s.size : Int) ++ strBytes s ≠ []) := fun e => enc_ne s.size (by simp at e; exact e.2.1)
  have HXX : Hid (xs ++ enc 10 (s.size : Int) = if (0 : Int) = 0 then xs ++ enc 10 (s.size : Int) else xs) := by show _ = _; simp
  go_enter Tryz.func74, Tryz.ntmps74
  go_wp2_with (first
   | (go_at_call 147; refine (vnumber s.size h hs0 hs1 HL0.out _ HXX.out).mono ?_; rintro e w1 ⟨rfl, v1, hV1, hg1⟩; have c0 := hV1.cell0; have c1 := hV1.cell1)
   | (at_builtin; refine wpList_own_append_str rfl (.tmp 18) (.tmp 19) rfl v1 (xs ++ enc 10 (s.size : Int)) rfl hV1.own s rfl HL.out ?_; intro v2 w2 ho2 hg2; obtain ⟨g2, N2, c2, rfl⟩ := own_some ho2 HNE.out; have hb2 : w2.heap[q]? = some (.cells #[v1, .int .i64 0] 139 (0, 0)) := (hg2.grown.block q (lt_of_block hV1.hq) hV1.neq).trans hV1.hq; have d0 := cell2a hb2; have f0 := free2a hb2))
  go_end0
  obtain ⟨r1, r2⟩ := hV1.stored hg2 ho2
  exact ⟨rfl, _, r1, hg1.trans r2⟩
 ·have hb : (err == 0) = false := by simpa using he
  rw [if_neg he] at hx
  subst hx
  have HXX : Hid (xs' = if err = 0 then xs' ++ enc 10 (s.size : Int) else xs') := by show _ = _; rw [if_neg he]
  clear he
  go_enter Tryz.func74, Tryz.ntmps74
  go_wp2_with (go_at_call 147; refine (vnumber s.size h hs0 hs1 HL0.out _ HXX.out).mono ?_; rintro e w1 ⟨rfl, v1, hV1, hg1⟩; have c1 := hV1.cell1)
  go_end0
  exact ⟨rfl, v1, hV1, hg1⟩
theorem vbytes_ok {w : World} {q : Nat} {v : Value} {xs : List Int} (h : VInv w q v xs 0) (hl : xs.length <= 140737488355328) :
  Calls Tryz.prog 76 #[.pointer (some ⟨q, 0, none⟩)] w fun e w' => ∃ ao N c, e = .returned (.tuple #[.slice ao N c, .int .i64 0]) /\ Own w' (.slice ao N c) xs /\ Below w.heap.size w w' := by
 have c1 := h.cell1
 obtain ⟨a, N, c, rfl⟩ := own_slice h.own
 have c0 := h.cell0
 obtain ⟨hN, hr, hc⟩ := own_len h.own
 have HL : Hid (([] : List Int).length + xs.length <= 140737488355328) := by show _ <= _; simpa using hl
 subst hN
 go_enter Tryz.func76, Tryz.ntmps76
 go_wp2_with (at_builtin; refine wpList_own_append rfl (.tmp 14) (.tmp 18) rfl _ [] rfl (Own.nil w) a c xs rfl hr hc HL.out ?_; intro v2 w2 ho2 hg2 hn2; change Own w2 v2 xs at ho2; obtain ⟨a2, N2, c2, rfl⟩ := own_slice ho2)
 go_ret2
 exact ⟨a2, N2, c2, rfl, ho2, grew_below hg2 (Nat.le_refl _) (nil_own _)⟩
theorem refsum_any (ao : Option Addr) (cap : Nat) (xs : List Int) (w : World) (hl : xs.length <= 140737488355328) (hr : RowAt w ao xs) :
  Calls Tryz.prog 150 #[.slice ao xs.length cap] w fun e w' => e = .returned (.int .u32 (adler xs)) /\ w = w' := by
 go_enter Tryz.func150, Tryz.ntmps150
 go_wp2
 go_loop [3, 4, 5] (fun x y i => ∃ k : Nat, k <= xs.length /\ i = .int .i64 k /\ x = .int .u32 (lo (xs.take k)) /\ y = .int .u32 (hi (xs.take k))) (fun _ _ i => xs.length - (intOf i).toNat)
 case atStart => exact ⟨0, Nat.zero_le _, rfl, rfl, rfl⟩
 case round =>
  obtain ⟨k, hk, rfl, rfl, rfl⟩ := hrel
  have hlo := lo_bd (xs.take k)
  have hhi := hi_bd (xs.take k)
  by_cases hlt : k < xs.length
  ·obtain ⟨b, off, rfl, hc⟩ := hr.2 (by intro h; subst h; simp at hlt)
   have hck := hc k hlt
   have hb := hr.1.at k
   have HS1 : Hid (lo (xs.take (k + 1)) = (lo (xs.take k) + xs.getD k 0) % 65521) := by rw [take_snoc xs k hlt, lo_snoc]; rfl
   have HS2 : Hid (hi (xs.take (k + 1)) = (hi (xs.take k) + (lo (xs.take k) + xs.getD k 0) % 65521) % 65521) := by rw [take_snoc xs k hlt, hi_snoc, lo_snoc]; rfl
   clear hc hr
   generalize hx : xs.getD k 0 = x at *
   clear hx
   go_wp2
   go_round
   case rel => exact ⟨k + 1, by omega, by go_num, by rw [HS1.out], by rw [HS2.out]⟩
   case measure => simp [intOf]; omega
  ·go_wp2
   go_ret
   refine ⟨?_, rfl⟩
   have e : k = xs.length := by omega
   rw [e, List.take_length]
   rfl
theorem accStep' (k : Nat) (acc c : Int) (hk : k <= 9) (h0 : 0 <= acc) (h1 : acc < 128 ^ k) (hc0 : 0 <= c) (hc1 : c <= 255) (h9 : k = 9 -> c = 1) :
  bits .or .u64 acc (IntKind.u64.wrap (c % 128 * 2 ^ (7 * k))) = acc + c % 128 * 128 ^ k := by
 have hl := lim k hk (c % 128) (by omega) (fun e => by have := h9 e; omega)
 have hp := pow_lim k hk
 have hq := pow_pos' k
 rw [pow2_7, IntKind.wrap_u64, Int.emod_eq_of_lt (Int.mul_nonneg (by omega) (by omega)) hl]
 rw [pow128] at h1 hl hp ⊢
 exact orAcc (7 * k) acc (c % 128) h0 h1 (by omega) hl (by omega)
theorem refnum_any (ao : Option Addr) (N cap at' : Nat) (xs : List Int) (w : World) (hN : N = xs.length) (hl : xs.length <= 140737488355328) (hat : at' <= xs.length) (hr : RowAt w ao xs) (n s er : Int) (hp : parse (xs.drop at') = (n, s, er)) :
  Calls Tryz.prog 162 #[.slice ao N cap, .int .i64 at'] w fun e w' => e = .returned (.tuple #[.int .u64 n, .int .i64 (at' + s), .int .i64 er]) /\ w = w' := by
 subst hN
 have HP0 : Hid (parse (xs.drop at') = (n, s, er)) := hp
 clear hp
 go_enter Tryz.func162, Tryz.ntmps162
 go_wp2
 go_loop [7, 8] (fun x i => ∃ (k : Nat) (acc : Int), at' + k <= xs.length /\ k <= 9 /\ i = .int .i64 k /\ x = .int .u64 acc /\ 0 <= acc /\ acc < 128 ^ k /\ parseGo k acc (xs.drop (at' + k)) = (n, s, er)) (fun _ i => xs.length - (intOf i).toNat)
 case atStart => exact ⟨0, 0, by omega, by omega, rfl, rfl, by omega, by decide, HP0.out⟩
 case round =>
  obtain ⟨k, acc, hk, hk9, rfl, rfl, ha0, ha1, hp⟩ := hrel
  have HP : Hid (parseGo k acc (xs.drop (at' + k)) = (n, s, er)) := hp
  clear hp HP0
  by_cases hlt : at' + k < xs.length
  ·obtain ⟨b, off, rfl, hc⟩ := hr.2 (by intro h; subst h; simp at hlt)
   have hck := hc (at' + k) hlt
   have hb := hr.1.at (at' + k)
   have HD : Hid (xs.drop (at' + k) = xs.getD (at' + k) 0 :: xs.drop (at' + (k + 1))) := by
    show _ = _
    have e : xs.getD (at' + k) 0 = xs[at' + k] := by simp [List.getD, hlt]
    rw [e, List.drop_eq_getElem_cons hlt]; rfl
   clear hc hr
   generalize hx : xs.getD (at' + k) 0 = c at *
   clear hx
   have HA : Hid ((k = 9 -> c = 1) -> bits .or .u64 acc (IntKind.u64.wrap (c % 128 * 2 ^ (7 * k))) = acc + c % 128 * 128 ^ k) := accStep' k acc c hk9 ha0 ha1 hb.1 hb.2
   have HN : Hid (0 <= acc + c % 128 * 128 ^ k /\ acc + c % 128 * 128 ^ k < 128 ^ (k + 1)) := accNext k acc c ha0 ha1 hb.1
   have HA1 : Hid (acc < 128 ^ k) := ha1
   clear ha1
   by_cases hbad : k = 9 /\ c ≠ 1 ∨ 0 < k /\ c = 0
   ·obtain ⟨rfl, rfl, rfl⟩ : n = 0 /\ s = 0 /\ er = 13 := by
     have := HP.out
     rw [HD.out, parseGo] at this
     by_cases h9 : k = 9 /\ c ≠ 1
     ·rw [if_pos h9] at this; simp at this; omega
     ·obtain ⟨z1, z2⟩ := hbad.resolve_left h9
      rw [if_neg h9, if_neg (by omega), if_pos ⟨z2, z1⟩] at this; simp at this; omega
    clear HP HD HA HN
    by_cases h9 : k = 9 /\ c ≠ 1
    ·have h9b : ((k : Int) == 9) = true := by simp; omega
     have h1b : (c != 1) = true := by simp [h9.2]
     clear h9 hbad
     go_wp2
     go_ret3
     exact ⟨by simp, rfl⟩
    ·obtain ⟨z1, z2⟩ := hbad.resolve_left h9
     have h9b : ((k : Int) == 9) = false := by simp; intro e; exact h9 ⟨by omega, by omega⟩
     have hcb : (c == 0) = true := by simp [z2]
     clear h9 hbad z2
     go_wp2
     go_ret3
     exact ⟨by simp, rfl⟩
   ·have HB : Hid (¬ (k = 9 /\ c ≠ 1) /\ ¬ (c = 0 /\ 0 < k)) := ⟨fun h => hbad (Or.inl h), fun h => hbad (Or.inr ⟨h.2, h.1⟩)⟩
    clear hbad
    have HST : Hid (bits .or .u64 acc (IntKind.u64.wrap (c % 128 * 2 ^ (7 * k))) = acc + c % 128 * 128 ^ k) := HA.out (fun h => Classical.byContradiction fun z => HB.out.1 ⟨h, z⟩)
    by_cases hbig : 128 <= c
    ·have h9b : ((k : Int) == 9) = false := by simp; intro e; exact HB.out.1 ⟨by omega, by omega⟩
     have hcb : (c == 0) = false := by simp; omega
     by_cases hk0 : 0 < k
     ·go_wp2
      go_round
      case rel => exact ⟨k + 1, _, by omega, by have := HB.out; simp at h9b; omega, by go_num, rfl, by rw [HST.out]; exact HN.out.1, by rw [HST.out]; exact HN.out.2, by rw [HST.out, <- HP.out, HD.out]; conv => rhs; rw [parseGo, if_neg HB.out.1, if_pos hbig]⟩
      case measure => simp [intOf]; omega
     ·go_wp2
      go_round
      case rel => exact ⟨k + 1, _, by omega, by have := HB.out; simp at h9b; omega, by go_num, rfl, by rw [HST.out]; exact HN.out.1, by rw [HST.out]; exact HN.out.2, by rw [HST.out, <- HP.out, HD.out]; conv => rhs; rw [parseGo, if_neg HB.out.1, if_pos hbig]⟩
      case measure => simp [intOf]; omega
    ·have HF : Hid (n = acc + c % 128 * 128 ^ k /\ s = k + 1 /\ er = 0) := by
      have := HP.out
      rw [HD.out, parseGo, if_neg HB.out.1, if_neg hbig, if_neg HB.out.2] at this
      simp at this; exact ⟨this.1.symm, this.2.1.symm, this.2.2.symm⟩
     clear HP HD
     have fin : ∀ m : Int, m = (at' : Int) + k + 1 -> Ending.returned (.tuple #[.int .u64 (bits .or .u64 acc (IntKind.u64.wrap (c % 128 * 2 ^ (7 * k)))), .int .i64 m, .int .i64 0]) = Ending.returned (.tuple #[.int .u64 n, .int .i64 (at' + s), .int .i64 er]) := by
      intro m hm
      rw [HST.out, HF.out.1, HF.out.2.1, HF.out.2.2, hm, Int.add_assoc]
     have FIN : Hid _ := fin
     clear fin
     by_cases h9 : k = 9
     ·have h1 : c = 1 := Classical.byContradiction fun z => HB.out.1 ⟨h9, z⟩
      have h9b : ((k : Int) == 9) = true := by simp; omega
      have h1b : (c != 1) = false := by simp [h1]
      have hcb : (c == 0) = false := by simp [h1]
      have hk0 : 0 < k := by omega
      clear h9 h1
      go_wp2
      go_ret3
      exact ⟨FIN.out _ rfl, rfl⟩
     ·have h9b : ((k : Int) == 9) = false := by simp; omega
      clear h9
      by_cases hk0 : 0 < k
      ·have hcb : (c == 0) = false := by simp; intro e; exact HB.out.2 ⟨e, hk0⟩
       go_wp2
       go_ret3
       exact ⟨FIN.out _ rfl, rfl⟩
      ·go_wp2
       go_ret3
       exact ⟨FIN.out _ rfl, rfl⟩
  ·obtain ⟨rfl, rfl, rfl⟩ : n = 0 /\ s = 0 /\ er = 11 := by
    have := HP.out
    rw [List.drop_eq_nil_of_le (by omega), parseGo] at this
    simp at this; omega
   go_wp2
   go_ret3
   exact ⟨by simp, rfl⟩
theorem own_head (w : World) (k : Int) (h0 : 0 <= k) (h1 : k <= 255) : Own (w.alloc (.cells #[.int .u8 103, .int .u8 116, .int .u8 114, .int .u8 k] 5)) (.slice (some ⟨w.heap.size, 0, none⟩) 4 4) (headBytes k) :=
 ⟨headBytes_bytes k h0 h1, by simp [headBytes], .inr ⟨w.heap.size, 4, #[.int .u8 103, .int .u8 116, .int .u8 114, .int .u8 k], rfl, Nat.zero_le _, heap_alloc_new w _, Nat.le_refl _, by unfold maxLen; omega, rfl, rfl⟩⟩
theorem new_own (w : World) {n c : Nat} : ∀ k, (Value.slice (some ⟨w.heap.size, 0, none⟩) n c).ownBlock = some k -> w.heap.size <= k := fun k hk => by simp [Value.ownBlock] at hk; omega
theorem refsum_at (ao : Option Addr) (N cap : Nat) (xs : List Int) (w : World) (hN : N = xs.length) (hl : xs.length <= 140737488355328) (hr : RowAt w ao xs) :
  Calls Tryz.prog 150 #[.slice ao N cap] w fun e w' => e = .returned (.int .u32 (adler xs)) /\ w = w' := by
 subst hN; exact refsum_any ao cap xs w hl hr
theorem refseal_any (k : Int) (ao : Option Addr) (N cap : Nat) (xs : List Int) (w : World) (hN : N = xs.length) (hk0 : 0 <= k) (hk1 : k <= 255) (hl : xs.length <= 16777216) (hr : RowAt w ao xs) (hn : ao = none -> cap = 0) :
  Calls Tryz.prog 77 #[.int .u8 k, .slice ao N cap] w fun e w' => ∃ g N c, e = .returned (.tuple #[.slice (some ⟨g, 0, none⟩) N c, .int .i64 0]) /\ Own w' (.slice (some ⟨g, 0, none⟩) N c) (frame k xs) /\ w.heap.size <= g /\ Below w.heap.size w w' := by
 subst hN
 go_enter Tryz.func77, Tryz.ntmps77
 have hE := enc_len 10 (xs.length : Int)
 have hEb : Hid ((headBytes k).length + (enc 10 (xs.length : Int)).length <= 140737488355328) := by show _ <= _; simp [headBytes]; omega
 have hEc : Hid ((headBytes k ++ enc 10 (xs.length : Int)).length + xs.length <= 140737488355328) := by show _ <= _; simp [headBytes]; omega
 have hEd : Hid ((lead k xs).length <= 140737488355300) := by show _ <= _; simp [lead, headBytes]; omega
 have HAd := adler_bd (lead k xs)
 have hEe : Hid ((lead k xs).length + (sumBytes (adler (lead k xs))).length <= 140737488355328) := by have := hEd.out; show _ <= _; simp [sumBytes]; omega
 have HSB : Hid (isBytes (sumBytes (adler (lead k xs)))) := sumBytes_bytes _ HAd.1 HAd.2
 go_wp2_with (first
  | (go_at_call 149; refine (form_any (xs.length : Int) _ (by omega) (by omega)).mono ?_; rintro e w1 ⟨g1, N1, c1, rfl, ho1, hg1, hb1⟩; have hh1 := (own_head w k hk0 hk1).later hb1; have hB1 := (below_alloc w (.cells #[.int .u8 103, .int .u8 116, .int .u8 114, .int .u8 k] 5)).trans (hb1.mono (by simp)); obtain ⟨hN1, hR1, hC1⟩ := own_len ho1; subst hN1; clear ho1 hb1 hC1)
  | (at_builtin; refine wpList_own_append rfl (.tmp 13) (.tmp 17) rfl _ (headBytes k) rfl hh1 (some ⟨g1, 0, none⟩) c1 (enc 10 (xs.length : Int)) rfl hR1 no_nil hEb.out ?_; intro v2 w2 ho2 hg2 hn2; obtain ⟨hB2, hv2⟩ := grew_new hB1 (new_own w) hg2; have hr2 := hr.later hB2)
  | (at_builtin; refine wpList_own_append rfl (.tmp 19) (.tmp 20) rfl _ _ rfl ho2 ao cap xs rfl hr2 hn hEc.out ?_; intro v3 w3 ho3 hg3 hn3; change Own w3 v3 (lead k xs) at ho3; obtain ⟨hB3, hv3⟩ := grew_new hB2 hv2 hg3; obtain ⟨a3, N3, c3, rfl⟩ := own_slice ho3; have OL3 : Hid _ := own_len ho3; clear hn3 hn2 hg2 hg3)
  | (go_at_call 150; refine (refsum_at a3 N3 c3 (lead k xs) w3 OL3.out.1 (by have := hEd.out; omega) OL3.out.2.1).mono ?_; rintro e w4 ⟨rfl, rfl⟩)
  | (at_builtin; refine wpList_own_append rfl (.tmp 24) (.tmp 36) rfl _ _ rfl (ho3.alloc _) (some ⟨w3.heap.size, 0, none⟩) 4 (sumBytes (adler (lead k xs))) rfl (rowAt_new _ _ _ _ HSB.out) no_nil hEe.out ?_; intro v5 w5 ho5 hg5 hn5))
 obtain ⟨hB5, hv5⟩ := grew_new (hB3.trans ((below_alloc w3 _).mono hB3.size)) hv3 hg5
 obtain ⟨g, N, c, rfl⟩ := own_shape ho5 (fun h => by have := (hn5.1 h).2; simp [sumBytes] at this)
 go_ret2
 exact ⟨g, N, c, rfl, ho5, hv5 g rfl, hB5⟩
end Go.Proofs.YtmkakdfdfdcncaaGreatDoor.C
