import Derived.Test.YthgnhdnmcjpdmaaGreatDoorPOwnToAppStr
import Derived.Deep.RegionLaw
import Derived.Test.YthgnhdnmcjpdmaaGreatDoorPSameToSums0
namespace Go.Proofs.YthgnhdnmcjpdmaaGreatDoor.C
set_option linter.unusedVariables false
set_option maxRecDepth 100000
set_option maxHeartbeats 16000000
open Go.RowKit
theorem enc_ne (n : Int) : enc 10 n ≠ [] := by
 rw [enc]
 split <;> simp
theorem appnum_wrap (v : Value) (ys : List Int) (n : Int) (w : World) (h0 : 0 <= n) (h1 : n <= 140737488355328) (hl : ys.length <= 140737488355300) (hown : Own w v ys) :
  Calls Tryz.prog 81 #[v, .int .u64 (IntKind.u64.wrap n)] w fun e w' => ∃ g N c, e = .returned (.slice (some ⟨g, 0, none⟩) N c) /\ Own w' (.slice (some ⟨g, 0, none⟩) N c) (ys ++ enc 10 n) /\ Grew w w' v (.slice (some ⟨g, 0, none⟩) N c) := by
 have e : IntKind.u64.wrap n = n := by rw [IntKind.wrap_u64]; omega
 rw [e]
 exact appnum_any v ys n w h0 (by omega) hl hown
theorem enter_appnum (args : Array Value) (w : World) : (callFunc 81 args).run Tryz.prog w = .ok (.enter 81 args) w := by kernel_rfl
theorem step_appnum {ops : Array Oper} {o : Oper} {a : Act} {w : World} {K : Act -> World -> Prop} {Q : Exit -> Act -> World -> Prop} {E : Prop}
  (hg : o.guard = none) (s x : Operand) (hop : o.op = Op.call { callee := Callee.value (Operand.func 81), args := #[s, x], argTypes := #[55, 134] })
  (v : Value) (ys : List Int) (hs : a.eval s = v) (n : Int) (hx : a.eval x = .int .u64 (IntKind.u64.wrap n)) (h0 : 0 <= n) (h1 : n <= 140737488355328) (hl : ys.length <= 140737488355300) (hown : Own w v ys)
  (hK : ∀ g N c w', Own w' (.slice (some ⟨g, 0, none⟩) N c) (ys ++ enc 10 n) -> Grew w w' v (.slice (some ⟨g, 0, none⟩) N c) -> K (a.put o.dst (.slice (some ⟨g, 0, none⟩) N c)) w') :
  if Region.wanted o (yielded ops a.tmps) = true then Oper.wp Tryz.prog o a w K Q else E := by
 have hw : Region.wanted o (yielded ops a.tmps) = true := by simp [Region.wanted, hg]
 rw [if_pos hw]
 have hf : a.eval (Operand.func 81) = .func (.func 81) #[] #[] := rfl
 have hcf := enter_appnum #[v, .int .u64 (IntKind.u64.wrap n)] w
 have e : (execOp a.eval o).run Tryz.prog w = .ok (.enter 81 #[v, .int .u64 (IntKind.u64.wrap n)]) w := by
  simp [execOp, hop, resolve, invoke, hs, hx, hf, Deferred.ofValue, hcf]
 show o.upon Tryz.prog a K Q ((execOp a.eval o).run Tryz.prog w)
 rw [e, Oper.upon_enter]
 refine (appnum_wrap v ys n w h0 h1 hl hown).mono ?_
 rintro e w' ⟨g, N, c, rfl, ho, hgr⟩
 exact hK g N c w' ho hgr
theorem text_ok {w : World} {p q : Nat} {v : Value} {xs : List Int} (s : ByteArray) (h : WInv w p q v xs 0) (hl : xs.length + s.size <= 140737488355300) :
  Calls Tryz.prog 28 #[.pointer (some ⟨p, 0, none⟩), .string s] w fun e w' => e = .returned (.tuple #[]) /\ ∃ v', WInv w' p q v' (xs ++ enc 10 s.size ++ strBytes s) 0 /\ WGrew w w' q v v' := by
 have hp := h.cellp
 have hq0 := h.cell0
 have hq1 := h.cell1
 have hf0 := h.free0
 have hsz0 : (0 : Int) <= (s.size : Int) := by omega
 have hsz1 : (s.size : Int) <= 140737488355328 := by omega
 have HX : Hid (xs.length <= 140737488355300) := by show _ <= _; omega
 have HL : Hid ((xs ++ enc 10 (s.size : Int)).length + s.size <= 140737488355328) := by show _ <= _; have := enc_len 10 (s.size : Int); simp; omega
 have HNE : Hid (xs ++ enc 10 (s.size : Int) ++ strBytes s ≠ []) := fun e => enc_ne s.size (by simp at e; exact e.2.1)
 have after : ∀ w1 v1, Grew w.drew w1 v v1 -> w1.cell? ⟨p, 0, none⟩ = some (.pointer (some ⟨q, 0, none⟩)) /\ (w1.cell? ⟨q, 0, none⟩ = some v /\ w1.frozen? ⟨q, 0, none⟩ = false) := by
  intro w1 v1 hg
  obtain ⟨a, b⟩ := (h.still (w' := w.drew) (fun _ => rfl)).grown hg
  exact ⟨by simp [World.cell?, a], by simp [World.cell?, b], by simp [World.frozen?, b]⟩
 have hpq := h.pq
 have AF : Hid _ := after
 clear after
 go_enter Tryz.func28, Tryz.ntmps28
 go_wp2_with (go_at_call 80; refine (ready_any h).mono ?_; rintro e w' ⟨rfl, rfl⟩)
 go_region_law (first
  | (refine step_appnum (by rfl) _ _ (by rfl) v xs (by rfl) s.size (by rfl) hsz0 hsz1 HX.out h.own.drew ?_; intro g1 N1 c1 w1 ho1 hg1; obtain ⟨hp1, hq1, hf1⟩ := AF.out w1 _ hg1)
  | (refine step_own_append_str (by rfl) _ _ (by rfl) _ _ (by rfl) ho1 s (by rfl) HL.out ?_; intro v2 w2 ho2 hg2; obtain ⟨g2, N2, c2, rfl⟩ := own_some ho2 HNE.out; obtain ⟨hp2, hq2, hf2⟩ := AF.out w2 _ (hg1.trans hg2)))
 all_goals go_end0
 all_goals
  obtain ⟨r1, r2⟩ := (h.still (w' := w.drew) (fun _ => rfl)).stored (hg1.trans hg2) ho2
  exact ⟨rfl, _, r1, r2.ofDrew⟩
theorem WGrew.refl (w : World) (q : Nat) (v : Value) : WGrew w w q v v := ⟨rfl, rfl, rfl, Nat.le_refl _, fun _ _ _ _ => rfl, .inl rfl⟩
theorem text_no {w : World} {p q : Nat} {v : Value} {xs : List Int} {err : Int} (s : ByteArray) (h : WInv w p q v xs err) (hne : (err == 0) = false) :
  Calls Tryz.prog 28 #[.pointer (some ⟨p, 0, none⟩), .string s] w fun e w' => e = .returned (.tuple #[]) /\ w = w' := by
 go_enter Tryz.func28, Tryz.ntmps28
 go_wp2_with (go_at_call 80; refine (ready_any h).mono ?_; rintro e w' ⟨rfl, rfl⟩)
 go_end0
 exact ⟨rfl, rfl⟩
theorem number_no {w : World} {p q : Nat} {v : Value} {xs : List Int} {err : Int} (n : Int) (h : WInv w p q v xs err) (hne : (err == 0) = false) :
  Calls Tryz.prog 83 #[.pointer (some ⟨p, 0, none⟩), .int .u64 n] w fun e w' => e = .returned (.tuple #[]) /\ w = w' := by
 go_enter Tryz.func83, Tryz.ntmps83
 go_wp2_with (go_at_call 80; refine (ready_any h).mono ?_; rintro e w' ⟨rfl, rfl⟩)
 go_end0
 exact ⟨rfl, rfl⟩
theorem WInv.setErr {w : World} {p q : Nat} {v : Value} {xs : List Int} {err : Int} (h : WInv w p q v xs err) (e : Int) : WInv (w.setCell ⟨q, 1, none⟩ (.int .i64 e)) p q v xs e /\ WGrew w (w.setCell ⟨q, 1, none⟩ (.int .i64 e)) q v v :=
 ⟨⟨by rw [Below.heap_setCell _ _ _ _ h.pq]; exact h.hp, by rw [heap_set h.hq]; rfl, h.own.kept fun k hk => Below.heap_setCell _ _ _ _ (fun e => h.neq (by rw [hk, e]))⟩,
  ⟨rfl, rfl, rfl, by simp [World.setCell], fun k _ hk _ => Below.heap_setCell _ _ _ _ hk, .inl rfl⟩⟩
def WEnds (p q : Nat) (v : Value) (xs : List Int) (err : Int) (w : World) (e : Ending) (w' : World) : Prop :=
 e = .returned (.tuple #[]) /\ ∃ v', WInv w' p q v' xs err /\ WGrew w w' q v v'
theorem wnumber {w : World} {p q : Nat} {v : Value} {xs : List Int} {err : Int} (n : Int) (h : WInv w p q v xs err) (h0 : 0 <= n) (h1 : n <= 18446744073709551615) (hl : xs.length <= 140737488355300) (xs' : List Int) (hx : xs' = if err = 0 then xs ++ enc 10 n else xs) :
  Calls Tryz.prog 83 #[.pointer (some ⟨p, 0, none⟩), .int .u64 n] w (WEnds p q v xs' err w) := by
 subst hx
 by_cases he : err = 0
 ·subst he
  rw [if_pos rfl]
  exact number_any n h h0 h1 hl
 ·rw [if_neg he]
  exact (number_no n h (by simpa using he)).mono fun e w' ⟨a, b⟩ => by subst b; exact ⟨a, v, h, WGrew.refl _ _ _⟩
theorem wtext {w : World} {p q : Nat} {v : Value} {xs : List Int} {err : Int} (s : ByteArray) (h : WInv w p q v xs err) (hl : xs.length + s.size <= 140737488355300) (xs' : List Int) (hx : xs' = if err = 0 then xs ++ enc 10 s.size ++ strBytes s else xs) :
  Calls Tryz.prog 28 #[.pointer (some ⟨p, 0, none⟩), .string s] w (WEnds p q v xs' err w) := by
 subst hx
 by_cases he : err = 0
 ·subst he
  rw [if_pos rfl]
  exact text_ok s h hl
 ·rw [if_neg he]
  exact (text_no s h (by simpa using he)).mono fun e w' ⟨a, b⟩ => by subst b; exact ⟨a, v, h, WGrew.refl _ _ _⟩
theorem wint_pos {w : World} {p q : Nat} {v : Value} {xs : List Int} {err : Int} (n : Int) (h : WInv w p q v xs err) (hn : 0 <= n) (hn1 : n <= 9223372036854775807) (hl : xs.length <= 140737488355300) (xs' : List Int) (hx : xs' = if err = 0 then xs ++ enc 10 n else xs) :
  Calls Tryz.prog 29 #[.pointer (some ⟨p, 0, none⟩), .int .i64 n] w (WEnds p q v xs' err w) := by
 have HX : Hid _ := hx
 have hn2 : n <= 18446744073709551615 := by omega
 clear hx
 go_enter Tryz.func29, Tryz.ntmps29
 go_wp2_with (go_at_call 83; refine (wnumber n h hn hn2 hl xs' HX.out).mono ?_; rintro e w' ⟨rfl, v', r1, r2⟩)
 go_end0
 exact ⟨rfl, v', r1, r2⟩
def foldS (n : Int) : Int := if n < 0 then 2 * (-n - 1) + 1 else 2 * n
theorem foldS_bd (n : Int) (h0 : -9223372036854775808 <= n) (h1 : n <= 9223372036854775807) : 0 <= foldS n /\ foldS n <= 18446744073709551615 := by unfold foldS; split <;> omega
theorem xor_ones (n : Int) (h0 : -9223372036854775808 <= n) (h1 : n <= 9223372036854775807) : bits .xor .i64 (-1) n = -n - 1 := by
 have e : (BitVec.ofInt 64 (-1) ^^^ BitVec.ofInt 64 n).toNat = 18446744073709551615 - (n % 18446744073709551616).toNat := by
  have e1 : BitVec.ofInt 64 (-1) = BitVec.allOnes 64 := by decide
  rw [e1, BitVec.allOnes_xor, BitVec.toNat_not, BitVec.toNat_ofInt]
  simp
 show IntKind.i64.wrap ((BitVec.ofInt 64 (-1) ^^^ BitVec.ofInt 64 n).toNat : Int) = _
 rw [e, IntKind.wrap_i64]
 omega
theorem fold_any (n : Int) (w : World) (h0 : -9223372036854775808 <= n) (h1 : n <= 9223372036854775807) :
  Calls Tryz.prog 127 #[.int .i64 n] w fun e w' => e = .returned (.int .u64 (foldS n)) /\ w = w' := by
 by_cases hn : n < 0
 ·have FS : Hid (IntKind.u64.wrap (IntKind.u64.wrap (2 * IntKind.u64.wrap (bits .xor .i64 (-1) n)) + 1) = foldS n) := by
   show _ = _
   rw [foldS, if_pos hn, xor_ones n h0 h1]
   simp only [IntKind.wrap_u64]
   omega
  go_enter Tryz.func127, Tryz.ntmps127
  go_wp2
  go_ret
  exact ⟨by rw [<- FS.out]; rfl, rfl⟩
 ·have FS : Hid (foldS n = 2 * n) := by show _ = _; rw [foldS, if_neg hn]
  rw [FS.out]
  go_enter Tryz.func127, Tryz.ntmps127
  go_wp2
  go_ret
  exact ⟨by first | rfl | (congr 2; omega) | (simp; omega), rfl⟩
theorem wsigned {w : World} {p q : Nat} {v : Value} {xs : List Int} {err : Int} (n : Int) (h : WInv w p q v xs err) (h0 : -9223372036854775808 <= n) (h1 : n <= 9223372036854775807) (hl : xs.length <= 140737488355300) (xs' : List Int) (hx : xs' = if err = 0 then xs ++ enc 10 (foldS n) else xs) :
  Calls Tryz.prog 86 #[.pointer (some ⟨p, 0, none⟩), .int .i64 n] w (WEnds p q v xs' err w) := by
 have HX : Hid _ := hx
 obtain ⟨b0, b1⟩ := foldS_bd n h0 h1
 clear hx
 go_enter Tryz.func86, Tryz.ntmps86
 go_wp2_with (first
  | (go_at_call 127; refine (fold_any n w h0 h1).mono ?_; rintro e w' ⟨rfl, rfl⟩)
  | (go_at_call 83; refine (wnumber (foldS n) h b0 b1 hl xs' HX.out).mono ?_; rintro e w' ⟨rfl, v', r1, r2⟩))
 go_end0
 exact ⟨rfl, v', r1, r2⟩
end Go.Proofs.YthgnhdnmcjpdmaaGreatDoor.C
