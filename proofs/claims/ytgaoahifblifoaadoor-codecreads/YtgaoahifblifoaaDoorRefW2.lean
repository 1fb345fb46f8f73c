import Derived.Test.YtgaoahifblifoaaDoorRefW
import Derived.Test.YtgaoahifblifoaaDoorBack0
namespace Go.Proofs.YtgaoahifblifoaaDoor
set_option linter.unusedVariables false
open Go.RowKit

theorem wpList_own_append_str {ops : Array Oper} {rest : List Oper} {o : Oper} {a : Act} {Q : Exit → Act → World → Prop} {w : World} (hgd : o.guard = none) (s x : Operand)
    (ho : o.op = .call { callee := .builtin .append, args := #[s, x], argTypes := #[22, 9] })
    (v : Value) (xs : List Int) (hs : a.eval s = v) (h : Own w v xs) (str : ByteArray) (hx : a.eval x = .string str) (hlen : xs.length + str.size ≤ 140737488355328)
    (hK : ∀ v' w', Own w' v' (xs ++ strBytes str) → Grew w w' v v' → wpList Tryd.prog ops Q rest (a.put o.dst v') w') : wpList Tryd.prog ops Q (o :: rest) a w := by
  refine wpList_plain hgd fun K hK' => ?_
  obtain ⟨v', w', hrun, h2, h3⟩ := run_own_append_str w o.type v xs h str hlen
  unfold Oper.wp execOp
  simp only [ho, resolve, invoke, builtin, Sem.run_bind, Sem.run_pure, Result.andThen_ok, List.map_toArray, List.map_cons, List.map_nil, hs, hx, hrun]
  exact hK' _ _ (hK v' w' h2 h3)

theorem cell2a {w : World} {b : Nat} {x y : Value} {t : TypeId} (h : w.heap[b]? = some (.cells #[x, y] t (0, 0))) : w.cell? ⟨b, 0, none⟩ = some x := by simp [World.cell?, h]
theorem free2a {w : World} {b : Nat} {x y : Value} {t : TypeId} (h : w.heap[b]? = some (.cells #[x, y] t (0, 0))) : w.frozen? ⟨b, 0, none⟩ = false := by simp [World.frozen?, h]
theorem vnumber_no {w : World} {q : Nat} {v : Value} {xs : List Int} {err : Int} (n : Int) (h : VInv w q v xs err) (hne : (err == 0) = false) :
    Calls Tryd.prog 56 #[.pointer (some ⟨q, 0, none⟩), .int .u64 n] w fun e w' => e = .returned (.tuple #[]) ∧ w = w' := by
  have c1 := h.cell1
  go_enter Tryd.func56, Tryd.ntmps56
  go_wp2
  go_end0
  exact ⟨rfl, rfl⟩
theorem vnumber {w : World} {q : Nat} {v : Value} {xs : List Int} {err : Int} (n : Int) (h : VInv w q v xs err) (h0 : 0 ≤ n) (h1 : n ≤ 18446744073709551615) (hl : xs.length ≤ 140737488355300) (xs' : List Int) (hx : xs' = if err = 0 then xs ++ enc 10 n else xs) :
    Calls Tryd.prog 56 #[.pointer (some ⟨q, 0, none⟩), .int .u64 n] w (VEnds q v xs' err w) := by
  subst hx
  by_cases he : err = 0
  · subst he
    rw [if_pos rfl]
    exact vnumber_ok n h h0 h1 hl
  · rw [if_neg he]
    exact (vnumber_no n h (by simpa using he)).mono fun e w' ⟨a, b⟩ => by subst b; exact ⟨a, v, h, WGrew.refl _ _ _⟩
theorem vint_neg {w : World} {q : Nat} {v : Value} {xs : List Int} {err : Int} (n : Int) (h : VInv w q v xs err) (hn : n < 0) (err' : Int) (hx : err' = if err = 0 then 4 else err) :
    Calls Tryd.prog 57 #[.pointer (some ⟨q, 0, none⟩), .int .i64 n] w (VEnds q v xs err' w) := by
  have c1 := h.cell1
  have f1 := h.free1
  by_cases he : err = 0
  · subst he
    rw [if_pos rfl] at hx
    subst hx
    go_enter Tryd.func57, Tryd.ntmps57
    go_wp2
    go_end0
    exact ⟨rfl, v, (h.setErr 4).1, (h.setErr 4).2⟩
  · rw [if_neg he] at hx
    subst hx
    have hb : (err' == 0) = false := by simpa using he
    clear he
    go_enter Tryd.func57, Tryd.ntmps57
    go_wp2
    go_end0
    exact ⟨rfl, v, h, WGrew.refl _ _ _⟩
theorem vint_pos {w : World} {q : Nat} {v : Value} {xs : List Int} {err : Int} (n : Int) (h : VInv w q v xs err) (hn : 0 ≤ n) (hn1 : n ≤ 9223372036854775807) (hl : xs.length ≤ 140737488355300) (xs' : List Int) (hx : xs' = if err = 0 then xs ++ enc 10 n else xs) :
    Calls Tryd.prog 57 #[.pointer (some ⟨q, 0, none⟩), .int .i64 n] w (VEnds q v xs' err w) := by
  have c1 := h.cell1
  have hn2 : n ≤ 18446744073709551615 := by omega
  have HX : Hid _ := hx
  clear hx
  by_cases he : err = 0
  · have hb : (err == 0) = true := by simpa using he
    clear he
    go_enter Tryd.func57, Tryd.ntmps57
    go_wp2_with (go_at_call 56; refine (vnumber n h hn hn2 hl xs' HX.out).mono ?_; rintro e w' ⟨rfl, v', r1, r2⟩)
    go_end0
    exact ⟨rfl, v', r1, r2⟩
  · have hb : (err == 0) = false := by simpa using he
    have HXX : Hid (xs' = xs) := by have := HX.out; rw [if_neg he] at this; exact this
    clear he
    go_enter Tryd.func57, Tryd.ntmps57
    go_wp2
    go_end0
    exact ⟨rfl, v, by rw [HXX.out]; exact h, WGrew.refl _ _ _⟩
theorem zigzag_any (n : Int) (w : World) (h0 : -9223372036854775808 ≤ n) (h1 : n ≤ 9223372036854775807) :
    Calls Tryd.prog 83 #[.int .i64 n] w fun e w' => e = .returned (.int .u64 (foldS n)) ∧ w = w' := by
  by_cases hn : n < 0
  · have FS : Hid (foldS n = 2 * (-(n + 1)) + 1) := by show _ = _; rw [foldS, if_pos hn]; omega
    rw [FS.out]
    go_enter Tryd.func83, Tryd.ntmps83
    go_wp2
    go_ret
    exact ⟨by first | rfl | (congr 2; omega) | (simp; omega), rfl⟩
  · have FS : Hid (foldS n = 2 * n) := by show _ = _; rw [foldS, if_neg hn]
    rw [FS.out]
    go_enter Tryd.func83, Tryd.ntmps83
    go_wp2
    go_ret
    exact ⟨by first | rfl | (congr 2; omega) | (simp; omega), rfl⟩
theorem vsigned {w : World} {q : Nat} {v : Value} {xs : List Int} {err : Int} (n : Int) (h : VInv w q v xs err) (h0 : -9223372036854775808 ≤ n) (h1 : n ≤ 9223372036854775807) (hl : xs.length ≤ 140737488355300) (xs' : List Int) (hx : xs' = if err = 0 then xs ++ enc 10 (foldS n) else xs) :
    Calls Tryd.prog 58 #[.pointer (some ⟨q, 0, none⟩), .int .i64 n] w (VEnds q v xs' err w) := by
  have HX : Hid _ := hx
  obtain ⟨b0, b1⟩ := foldS_bd n h0 h1
  clear hx
  go_enter Tryd.func58, Tryd.ntmps58
  go_wp2_with (first
    | (go_at_call 83; refine (zigzag_any n w h0 h1).mono ?_; rintro e w' ⟨rfl, rfl⟩)
    | (go_at_call 56; refine (vnumber (foldS n) h b0 b1 hl xs' HX.out).mono ?_; rintro e w' ⟨rfl, v', r1, r2⟩))
  go_end0
  exact ⟨rfl, v', r1, r2⟩
def flagN (b : Bool) : Int := if b then 1 else 0
theorem vflag {w : World} {q : Nat} {v : Value} {xs : List Int} {err : Int} (b : Bool) (h : VInv w q v xs err) (hl : xs.length ≤ 140737488355300) (xs' : List Int) (hx : xs' = if err = 0 then xs ++ enc 10 (flagN b) else xs) :
    Calls Tryd.prog 60 #[.pointer (some ⟨q, 0, none⟩), .bool b] w (VEnds q v xs' err w) := by
  cases b
  · have HX : Hid (xs' = if err = 0 then xs ++ enc 10 0 else xs) := hx
    clear hx
    go_enter Tryd.func60, Tryd.ntmps60
    go_wp2_with (go_at_call 56; refine (vnumber 0 h (by decide) (by decide) hl xs' HX.out).mono ?_; rintro e w' ⟨rfl, v', r1, r2⟩)
    go_end0
    exact ⟨rfl, v', r1, r2⟩
  · have HX : Hid (xs' = if err = 0 then xs ++ enc 10 1 else xs) := hx
    clear hx
    go_enter Tryd.func60, Tryd.ntmps60
    go_wp2_with (go_at_call 56; refine (vnumber 1 h (by decide) (by decide) hl xs' HX.out).mono ?_; rintro e w' ⟨rfl, v', r1, r2⟩)
    go_end0
    exact ⟨rfl, v', r1, r2⟩
theorem wflag {w : World} {p q : Nat} {v : Value} {xs : List Int} {err : Int} (b : Bool) (h : WInv w p q v xs err) (hl : xs.length ≤ 140737488355300) (xs' : List Int) (hx : xs' = if err = 0 then xs ++ enc 10 (flagN b) else xs) :
    Calls Tryd.prog 59 #[.pointer (some ⟨p, 0, none⟩), .bool b] w (WEnds p q v xs' err w) := by
  cases b
  · have HX : Hid (xs' = if err = 0 then xs ++ enc 10 0 else xs) := hx
    clear hx
    go_enter Tryd.func59, Tryd.ntmps59
    go_wp2_with (go_at_call 24; refine (wnumber 0 h (by decide) (by decide) hl xs' HX.out).mono ?_; rintro e w' ⟨rfl, v', r1, r2⟩)
    go_end0
    exact ⟨rfl, v', r1, r2⟩
  · have HX : Hid (xs' = if err = 0 then xs ++ enc 10 1 else xs) := hx
    clear hx
    go_enter Tryd.func59, Tryd.ntmps59
    go_wp2_with (go_at_call 24; refine (wnumber 1 h (by decide) (by decide) hl xs' HX.out).mono ?_; rintro e w' ⟨rfl, v', r1, r2⟩)
    go_end0
    exact ⟨rfl, v', r1, r2⟩
theorem WGrew.trans {w w1 w2 : World} {q : Nat} {v v1 v2 : Value} (h : WGrew w w1 q v v1) (k : WGrew w1 w2 q v1 v2) : WGrew w w2 q v v2 := by
  refine ⟨k.os.trans h.os, k.tape.trans h.tape, k.output.trans h.output, Nat.le_trans h.size k.size, fun i hi hq hne => ?_, ?_⟩
  · refine (k.block i (Nat.lt_of_lt_of_le hi h.size) hq ?_).trans (h.block i hi hq hne)
    rcases h.moved with e | ⟨z, e, hz⟩
    · rw [e]; exact hne
    · rw [e]; intro e'; have := Option.some.inj e'; omega
  · rcases k.moved with e | ⟨z, e, hz⟩
    · rw [e]; exact h.moved
    · exact .inr ⟨z, e, Nat.le_trans h.size hz⟩

set_option maxRecDepth 100000 in
set_option maxHeartbeats 400000 in
theorem vtext {w : World} {q : Nat} {v : Value} {xs : List Int} {err : Int} (s : ByteArray) (h : VInv w q v xs err) (hl : xs.length + s.size ≤ 140737488355290) (xs' : List Int) (hx : xs' = if err = 0 then xs ++ enc 10 s.size ++ strBytes s else xs) :
    Calls Tryd.prog 61 #[.pointer (some ⟨q, 0, none⟩), .string s] w (VEnds q v xs' err w) := by
  have hs0 : (0 : Int) ≤ (s.size : Int) := by omega
  have hs1 : (s.size : Int) ≤ 18446744073709551615 := by omega
  have hsz : s.size ≤ 140737488355290 := by omega
  have HL0 : Hid (xs.length ≤ 140737488355300) := by show _ ≤ _; omega
  by_cases he : err = 0
  · subst he
    rw [if_pos rfl] at hx
    subst hx
    have HL : Hid ((xs ++ enc 10 (s.size : Int)).length + s.size ≤ 140737488355328) := by show _ ≤ _; have := enc_len 10 (s.size : Int); simp; omega
    have HNE : Hid (xs ++ enc 10 (s.size : Int) ++ strBytes s ≠ []) := fun e => enc_ne s.size (by simp at e; exact e.2.1)
    have HXX : Hid (xs ++ enc 10 (s.size : Int) = if (0 : Int) = 0 then xs ++ enc 10 (s.size : Int) else xs) := by show _ = _; simp
    go_enter Tryd.func61, Tryd.ntmps61
    go_wp2_with (first
      | (go_at_call 56; refine (vnumber s.size h hs0 hs1 HL0.out _ HXX.out).mono ?_; rintro e w1 ⟨rfl, v1, hV1, hg1⟩; have c0 := hV1.cell0; have c1 := hV1.cell1)
      | (at_builtin; refine wpList_own_append_str rfl (.tmp 18) (.tmp 19) rfl v1 (xs ++ enc 10 (s.size : Int)) rfl hV1.own s rfl HL.out ?_; intro v2 w2 ho2 hg2; obtain ⟨g2, N2, c2, rfl⟩ := own_some ho2 HNE.out; have hb2 : w2.heap[q]? = some (.cells #[v1, .int .i64 0] 58 (0, 0)) := (hg2.grown.block q (lt_of_block hV1.hq) hV1.neq).trans hV1.hq; have d0 := cell2a hb2; have f0 := free2a hb2))
    go_end0
    obtain ⟨r1, r2⟩ := hV1.stored hg2 ho2
    exact ⟨rfl, _, r1, hg1.trans r2⟩
  · have hb : (err == 0) = false := by simpa using he
    rw [if_neg he] at hx
    subst hx
    have HXX : Hid (xs' = if err = 0 then xs' ++ enc 10 (s.size : Int) else xs') := by show _ = _; rw [if_neg he]
    clear he
    go_enter Tryd.func61, Tryd.ntmps61
    go_wp2_with (go_at_call 56; refine (vnumber s.size h hs0 hs1 HL0.out _ HXX.out).mono ?_; rintro e w1 ⟨rfl, v1, hV1, hg1⟩; have c1 := hV1.cell1)
    go_end0
    exact ⟨rfl, v1, hV1, hg1⟩
set_option maxRecDepth 100000 in
set_option maxHeartbeats 400000 in
theorem vbytes_ok {w : World} {q : Nat} {v : Value} {xs : List Int} (h : VInv w q v xs 0) (hl : xs.length ≤ 140737488355328) :
    Calls Tryd.prog 62 #[.pointer (some ⟨q, 0, none⟩)] w fun e w' => ∃ ao N c, e = .returned (.tuple #[.slice ao N c, .int .i64 0]) ∧ Own w' (.slice ao N c) xs ∧ Below w.heap.size w w' := by
  have c1 := h.cell1
  obtain ⟨a, N, c, rfl⟩ := own_slice h.own
  have c0 := h.cell0
  obtain ⟨hN, hr, hc⟩ := own_len h.own
  have HL : Hid (([] : List Int).length + xs.length ≤ 140737488355328) := by show _ ≤ _; simpa using hl
  subst hN
  go_enter Tryd.func62, Tryd.ntmps62
  go_wp2_with (at_builtin; refine wpList_own_append rfl (.tmp 14) (.tmp 18) rfl _ [] rfl (Own.nil w) a c xs rfl hr hc HL.out ?_; intro v2 w2 ho2 hg2 hn2; change Own w2 v2 xs at ho2; obtain ⟨a2, N2, c2, rfl⟩ := own_slice ho2)
  go_ret2
  exact ⟨a2, N2, c2, rfl, ho2, grew_below hg2 (Nat.le_refl _) (nil_own _)⟩
theorem vbytes_err {w : World} {q : Nat} {v : Value} {xs : List Int} {err : Int} (h : VInv w q v xs err) (he : err ≠ 0) :
    Calls Tryd.prog 62 #[.pointer (some ⟨q, 0, none⟩)] w fun e w' => e = .returned (.tuple #[.slice none 0 0, .int .i64 err]) ∧ ∃ n, w' = w.drewN n := by
  have c1 := h.cell1
  have hb : (err != 0) = true := by simpa using he
  clear he
  go_enter Tryd.func62, Tryd.ntmps62
  go_wp2
  go_quiet (fail)
  go_wp2
  go_ret2
  exact ⟨rfl, _, rfl⟩
end Go.Proofs.YtgaoahifblifoaaDoor
