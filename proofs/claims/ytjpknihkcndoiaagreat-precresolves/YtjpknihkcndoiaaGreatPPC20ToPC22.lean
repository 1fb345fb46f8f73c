import Derived.Test.YtjpknihkcndoiaaGreatPPC18ToPC19
namespace Go.Proofs.YtjpknihkcndoiaaGreat
set_option linter.unusedVariables false
set_option maxRecDepth 100000
set_option maxHeartbeats 16000000
open Go.RowKit Go.Maps
def keepL (p : Int) (l : List Int) : List Int := l.filter fun x => decide (x ≠ p)
theorem keep_snoc (p : Int) (l : List Int) (x : Int) : keepL p (l ++ [x]) = if x = p then keepL p l else keepL p l ++ [x] := by
 unfold keepL
 rw [List.filter_append]
 by_cases h : x = p <;> simp [h]
theorem keep_len (p : Int) (l : List Int) : (keepL p l).length <= l.length := List.length_filter_le _ _
structure DS (l : List Int) (p : Int) (b cap : Nat) (w : World) (i j : Nat) (wr : World) : Prop where
 ex : ∃ cur, wr.heap[b]? = some (.cells cur 3 (0, 0)) /\ cur.size = cap /\ cur.toList.take i = (keepL p (l.take j)).map (Value.int .i64 ·) /\ ∀ x, j <= x -> x < l.length -> cur[x]? = some (.int .i64 (l.getD x 0))
 il : i = (keepL p (l.take j)).length
 oth : ∀ x, x ≠ b -> wr.heap[x]? = w.heap[x]?
 sz : wr.heap.size = w.heap.size
 bel : ∀ n0 w0, Below n0 w0 w -> n0 <= b -> Below n0 w0 wr
theorem take_snocD {l : List Int} {j : Nat} (hj : j < l.length) : l.take (j + 1) = l.take j ++ [l.getD j 0] := by
 rw [List.take_succ_eq_append_getElem hj]
 simp [List.getD, hj]
theorem DS.skip {l : List Int} {p : Int} {b cap : Nat} {w : World} {i j : Nat} {wr : World} (h : DS l p b cap w i j wr) (hj : j < l.length) (e : l.getD j 0 = p) : DS l p b cap w i (j + 1) wr := by
 obtain ⟨cur, h1, h2, h3, h4⟩ := h.ex
 have q : keepL p (l.take (j + 1)) = keepL p (l.take j) := by rw [take_snocD hj, keep_snoc, if_pos e]
 exact ⟨⟨cur, h1, h2, by rw [q]; exact h3, fun x hx hl => h4 x (by omega) hl⟩, by rw [q]; exact h.il, h.oth, h.sz, h.bel⟩
theorem DS.put {l : List Int} {p : Int} {b cap : Nat} {w : World} {i j : Nat} {wr : World} (h : DS l p b cap w i j wr) (hj : j < l.length) (hc : l.length <= cap) (e : l.getD j 0 ≠ p) : DS l p b cap w (i + 1) (j + 1) (wr.setCell ⟨b, i, none⟩ (.int .i64 (l.getD j 0))) := by
 obtain ⟨cur, h1, h2, h3, h4⟩ := h.ex
 have q : keepL p (l.take (j + 1)) = keepL p (l.take j) ++ [l.getD j 0] := by rw [take_snocD hj, keep_snoc, if_neg e]
 have hi : i <= j := by
  have := keep_len p (l.take j)
  rw [List.length_take] at this
  have := h.il
  omega
 refine ⟨⟨cur.setIfInBounds i (.int .i64 (l.getD j 0)), heap_set h1 i _, by simpa using h2, ?_, fun x hx hl => ?_⟩, by rw [q, List.length_append, <- h.il]; rfl, fun x hx => (setj_ne hx).trans (h.oth x hx), by rw [<- h.sz]; simp, fun n0 w0 hb hn => (h.bel n0 w0 hb hn).setCell (p := ⟨b, i, none⟩) hn _⟩
 ·rw [q, List.map_append, <- h3, Array.toList_setIfInBounds]
  have hlt : i < cur.toList.length := by rw [Array.length_toList, h2]; omega
  rw [List.take_succ_eq_append_getElem (by rw [List.length_set]; exact hlt), List.take_set_of_le (Nat.le_refl _)]
  simp
 ·rw [Array.getElem?_setIfInBounds_ne (by omega)]
  exact h4 x (by omega) hl
theorem DS.cell {l : List Int} {p : Int} {b cap : Nat} {w : World} {i j : Nat} {wr : World} (h : DS l p b cap w i j wr) (hj : j < l.length) : wr.cell? ⟨b, j, none⟩ = some (.int .i64 (l.getD j 0)) := by
 obtain ⟨cur, h1, h2, h3, h4⟩ := h.ex
 rw [cellq_any h1]
 exact h4 j (Nat.le_refl _) hj
theorem DS.any {l : List Int} {p : Int} {b cap : Nat} {w : World} {i j : Nat} {wr : World} (h : DS l p b cap w i j wr) {x : Nat} (hx : x < cap) : (wr.cell? ⟨b, x, none⟩).isSome = true /\ wr.frozen? ⟨b, x, none⟩ = false /\ b < wr.heap.size := by
 obtain ⟨cur, h1, h2, h3, h4⟩ := h.ex
 refine ⟨?_, frostS h1 x, lt_of_block h1⟩
 rw [cellq_any h1]
 simp [h2, hx]
theorem wpList_clear {P : Program} {ops : Array Oper} {rest : List Oper} {o : Oper} {a : Act} {Q : Exit -> Act -> World -> Prop} {w w' : World} {t : TypeId} (hgd : o.guard = none) (s : Operand)
  (ho : o.op = .call { callee := .builtin .clear, args := #[s], argTypes := #[t] }) (v : Value) (hs : a.eval s = v) (hrun : (Builtin.clear_ #[t] o.type #[v]).run P w = .ok (.tuple #[]) w')
  (hK : wpList P ops Q rest (a.put o.dst (.tuple #[])) w') : wpList P ops Q (o :: rest) a w := by
 refine wpList_plain hgd fun K hK' => ?_
 unfold Oper.wp execOp
 simp only [ho, resolve, invoke, builtin, Sem.run_bind, Sem.run_pure, Result.andThen_ok, List.map_toArray, List.map_cons, List.map_nil, hs, hrun]
 exact hK' _ _ hK
theorem zeroInt (w : World) : (zeroValue 3).run Tryz.prog w = .ok (.int .i64 0) w := by kernel_rfl
theorem setCells_heap : ∀ (xs : List Value) (w : World) (b o : Nat) (cur : Array Value) (t : TypeId), w.heap[b]? = some (.cells cur t (0, 0)) -> ∃ cur', (w.setCells b o xs).heap[b]? = some (.cells cur' t (0, 0)) /\ cur'.size = cur.size /\ (∀ x, x < o -> cur'[x]? = cur[x]?) /\ (∀ x, x ≠ b -> (w.setCells b o xs).heap[x]? = w.heap[x]?) /\ (w.setCells b o xs).heap.size = w.heap.size /\ ∀ n0 w0, Below n0 w0 w -> n0 <= b -> Below n0 w0 (w.setCells b o xs)
 | [], w, b, o, cur, t, h => ⟨cur, h, rfl, fun _ _ => rfl, fun _ _ => rfl, rfl, fun _ _ hb _ => hb⟩
 | v :: xs, w, b, o, cur, t, h => by
  obtain ⟨cur', h1, h2, h3, h4, h5, h6⟩ := setCells_heap xs (w.setCell ⟨b, o, none⟩ v) b (o + 1) (cur.setIfInBounds o v) t (heap_set h o v)
  refine ⟨cur', h1, by rw [h2]; simp, fun x hx => ?_, fun x hx => (h4 x hx).trans (setj_ne hx), by rw [show (w.setCells b o (v :: xs)) = (w.setCell ⟨b, o, none⟩ v).setCells b (o + 1) xs from rfl, h5]; simp, fun n0 w0 hb hn => h6 n0 w0 (hb.setCell (p := ⟨b, o, none⟩) hn _) hn⟩
  rw [h3 x (by omega), Array.getElem?_setIfInBounds_ne (by omega)]
end Go.Proofs.YtjpknihkcndoiaaGreat
namespace Go.Proofs.YtjpknihkcndoiaaGreat
set_option linter.unusedVariables false
set_option maxRecDepth 100000
set_option maxHeartbeats 16000000
open Go.RowKit Go.Maps
def DlO (l : List Int) (p : Int) (b cap : Nat) (w : World) (e : Ending) (w' : World) : Prop := ∃ cur', e = .returned (.slice (some ⟨b, 0, none⟩) (keepL p l).length cap) /\ w'.heap[b]? = some (.cells cur' 3 (0, 0)) /\ cur'.size = cap /\ cur'.toList.take (keepL p l).length = (keepL p l).map (Value.int .i64 ·) /\ (∀ x, x ≠ b -> w'.heap[x]? = w.heap[x]?) /\ ∀ n0 w0, Below n0 w0 w -> n0 <= b -> Below n0 w0 w'
theorem keep_none {l : List Int} {p : Int} (h : ∀ j, j < l.length -> l.getD j 0 ≠ p) : keepL p l = l := by
 unfold keepL
 rw [List.filter_eq_self]
 intro x hx
 obtain ⟨j, hj, rfl⟩ := List.mem_iff_getElem.1 hx
 have := h j hj
 simpa [List.getD, hj] using this
theorem least_idx {l : List Int} {p : Int} : ∀ (j : Nat), j < l.length -> l.getD j 0 = p -> ∃ k, k < l.length /\ l.getD k 0 = p /\ ∀ j, j < k -> l.getD j 0 ≠ p := fun j => by
 induction j using Nat.strongRecOn with
 | ind j ih =>
  intro hj e
  by_cases h : ∃ i, i < j /\ l.getD i 0 = p
  ·obtain ⟨i, hi, e'⟩ := h
   exact ih i hi (by omega) e'
  ·exact ⟨j, hj, e, fun i hi e' => h ⟨i, hi, e'⟩⟩
theorem keep_take {l : List Int} {p : Int} {k : Nat} (hk : k < l.length) (hp : l.getD k 0 = p) (h : ∀ j, j < k -> l.getD j 0 ≠ p) : keepL p (l.take (k + 1)) = l.take k := by
 rw [take_snocD hk, keep_snoc, if_pos hp]
 refine keep_none fun j hj => ?_
 rw [List.length_take] at hj
 have := h j (by omega)
 rwa [show (l.take k).getD j 0 = l.getD j 0 by simp only [List.getD, List.getElem?_take]; rw [if_pos (by omega)]]
set_option linter.unusedSimpArgs false in
theorem delete_P (l : List Int) (p : Int) (b cap db : Nat) (cur : Array Value) (w : World) (hl : l.length <= 1048576) (hcap : l.length <= cap) (hcm : cap <= maxLen) (hb : w.heap[b]? = some (.cells cur 3 (0, 0))) (hcs : cur.size = cap) (hct : cur.toList.take l.length = l.map (Value.int .i64 ·)) (hne : db ≠ b) (h : w.cell? ⟨db, 2, none⟩ = some (.int .i64 p)) :
  Calls Tryz.prog 82 #[.slice (some ⟨b, 0, none⟩) l.length cap, .func (.func 84) #[] #[.pointer (some ⟨db, 0, none⟩)]] w (DlO l p b cap w) := by
 have hcell : ∀ x, x < l.length -> cur[x]? = some (.int .i64 (l.getD x 0)) := fun x hx => by
  have e : (cur.toList.take l.length)[x]? = (l.map (Value.int .i64 ·))[x]? := by rw [hct]
  rw [List.getElem?_take, if_pos hx, List.getElem?_map, List.getElem?_eq_getElem hx] at e
  rw [<- Array.getElem?_toList, e]
  simp [List.getD, hx]
 have IX : Hid (Calls Tryz.prog 104 #[.slice (some ⟨b, 0, none⟩) l.length cap, .func (.func 84) #[] #[.pointer (some ⟨db, 0, none⟩)]] w fun e w' => ∃ v : Int, e = .returned (.int .i64 v) /\ w' = w /\ ((v = -1 /\ ∀ j, j < l.length -> l.getD j 0 ≠ p) ∨ ∃ k : Nat, v = k /\ k < l.length /\ l.getD k 0 = p /\ ∀ j, j < k -> l.getD j 0 ≠ p)) := idx_del db p b cap l w hl (fun i hi => (cellq_any hb).trans (hcell i hi)) h
 have HD : Hid (∀ i j wr v x, DS l p b cap w i j wr -> decide (v = p) = x -> Calls Tryz.prog 84 #[.int .i64 v, .pointer (some ⟨db, 0, none⟩)] wr fun e w' => e = .returned (.bool x) /\ w' = wr) := fun i j wr v x hD hx => by
  refine del_c db p v wr x hx ?_
  have q := hD.oth db hne
  unfold World.cell? at h ⊢
  simpa [q] using h
 by_cases hall : ∀ j, j < l.length -> l.getD j 0 ≠ p
 ·have E : Hid (DlO l p b cap w (.returned (.slice (some ⟨b, 0, none⟩) l.length cap)) w) := by
   have q := keep_none hall
   refine ⟨cur, by rw [q], hb, hcs, by rw [q]; exact hct, fun _ _ => rfl, fun _ _ hb _ => hb⟩
  have IX2 : Hid (Calls Tryz.prog 104 #[.slice (some ⟨b, 0, none⟩) l.length cap, .func (.func 84) #[] #[.pointer (some ⟨db, 0, none⟩)]] w fun e w' => e = .returned (.int .i64 (-1)) /\ w' = w) := IX.out.mono fun e w' ⟨v, h1, h2, h3⟩ => by
   rcases h3 with ⟨rfl, _⟩ | ⟨k, rfl, hk, hp, _⟩
   ·exact ⟨h1, h2⟩
   ·exact absurd hp (hall k hk)
  clear IX HD hall hcell hb hct h
  have t1 : ((-1 : Int) == -1) = true := by decide
  go_enter Tryz.func82, Tryz.ntmps82
  go_wp2_with (go_at_call 104; refine IX2.out.mono ?_; rintro e w1 ⟨rfl, hw1⟩; rw [hw1]; clear hw1 w1)
  go_ret
  exact E.out
 ·obtain ⟨k, hk, hp, hlt⟩ : ∃ k, k < l.length /\ l.getD k 0 = p /\ ∀ j, j < k -> l.getD j 0 ≠ p := by
   have hex : ∃ j, j < l.length /\ l.getD j 0 = p := Classical.byContradiction fun hn => hall fun j hj e => hn ⟨j, hj, e⟩
   obtain ⟨j, hj, e⟩ := hex
   exact least_idx j hj e
  have IX2 : Hid (Calls Tryz.prog 104 #[.slice (some ⟨b, 0, none⟩) l.length cap, .func (.func 84) #[] #[.pointer (some ⟨db, 0, none⟩)]] w fun e w' => e = .returned (.int .i64 (k : Int)) /\ w' = w) := IX.out.mono fun e w' ⟨v, h1, h2, h3⟩ => by
   rcases h3 with ⟨rfl, q⟩ | ⟨k', rfl, hk', hp', hq⟩
   ·exact absurd hp (q k hk)
   ·have : k' = k := by
     rcases Nat.lt_trichotomy k' k with q | q | q
     ·exact absurd hp' (hlt k' q)
     ·exact q
     ·exact absurd hp (hq k q)
    subst this
    exact ⟨h1, h2⟩
  have D0 : Hid (DS l p b cap w k (k + 1) w) := by
   refine ⟨⟨cur, hb, hcs, ?_, fun x _ hx => hcell x hx⟩, by rw [keep_take hk hp hlt, List.length_take]; omega, fun _ _ => rfl, rfl, fun _ _ hb _ => hb⟩
   rw [keep_take hk hp hlt, List.map_take, <- hct, List.take_take]
   congr 1
   omega
  have HKL : Hid ((keepL p l).length < l.length) := by
   show _ < _
   have e : l = l.take (k + 1) ++ l.drop (k + 1) := (List.take_append_drop _ _).symm
   have e2 : keepL p l = keepL p (l.take (k + 1)) ++ keepL p (l.drop (k + 1)) := by
    conv => lhs; rw [e]
    unfold keepL
    rw [List.filter_append]
   rw [e2, List.length_append, keep_take hk hp hlt, List.length_take]
   have := keep_len p (l.drop (k + 1))
   rw [List.length_drop] at this
   omega
  clear IX hall hcell hct h hp hlt
  have hne1 : ((k : Int) == -1) = false := by simp
  go_enter Tryz.func82, Tryz.ntmps82
  go_wp2_with (go_at_call 104; refine IX2.out.mono ?_; rintro e w1 ⟨rfl, hw1⟩; rw [hw1]; clear hw1 w1)
  go_loopw [5, 6] (fun y z wr => ∃ i j : Nat, j <= l.length /\ y = .int .i64 i /\ z = .int .i64 j /\ DS l p b cap w i j wr) (fun _ z _ => l.length - (intOf z).toNat)
  case atStart => exact ⟨k, k + 1, by omega, rfl, by go_num, D0.out⟩
  case round =>
   obtain ⟨i, j, hj, rfl, rfl, hD⟩ := hrel
   have hij : i <= j := by
    have := keep_len p (l.take j)
    rw [List.length_take] at this
    have := hD.il
    omega
   by_cases hlt : j < l.length
   ·have r0 := hD.cell hlt
    have jlt : (j : Int) < (l.length : Int) := by omega
    obtain ⟨q1, q2, q3⟩ := hD.any (x := i) (by omega)
    obtain ⟨u0, hu0⟩ := Option.isSome_iff_exists.1 q1
    by_cases hin : l.getD j 0 = p
    ·have HX : Hid (DS l p b cap w i (j + 1) wr) := hD.skip hlt hin
     have HD2 : Hid (Calls Tryz.prog 84 #[.int .i64 (l.getD j 0), .pointer (some ⟨db, 0, none⟩)] wr fun e w' => e = .returned (.bool true) /\ w' = wr) := HD.out _ _ _ _ _ hD (by simpa using hin)
     clear hD hin q1
     generalize hn : l.getD j 0 = n at r0 HD2
     go_wp2_with (go_at_call 84; refine HD2.out.mono ?_; rintro e w1 ⟨rfl, hw1⟩; rw [hw1]; clear hw1 w1)
     go_roundw
     case rel => exact ⟨i, j + 1, by omega, rfl, by go_num, HX.out⟩
     case measure => simp [intOf]; omega
    ·have HX : Hid (DS l p b cap w (i + 1) (j + 1) (wr.setCell ⟨b, i, none⟩ (.int .i64 (l.getD j 0)))) := hD.put hlt hcap hin
     have HD2 : Hid (Calls Tryz.prog 84 #[.int .i64 (l.getD j 0), .pointer (some ⟨db, 0, none⟩)] wr fun e w' => e = .returned (.bool false) /\ w' = wr) := HD.out _ _ _ _ _ hD (by simpa using hin)
     have ilt : (i : Int) < (l.length : Int) := by omega
     clear hD hin q1
     generalize hn : l.getD j 0 = n at r0 HD2 HX
     go_wp2_with (go_at_call 84; refine HD2.out.mono ?_; rintro e w1 ⟨rfl, hw1⟩; rw [hw1]; clear hw1 w1)
     go_roundw
     case rel => exact ⟨i + 1, j + 1, by omega, by go_num, by go_num, HX.out⟩
     case measure => simp [intOf]; omega
   ·obtain rfl : j = l.length := by omega
    have jlt : ¬ (l.length : Int) < (l.length : Int) := by omega
    have hil := hD.il
    rw [List.take_length] at hil
    have hlen := HKL.out
    rw [<- hil] at hlen
    have CL : Hid (∀ ty, (Builtin.clear_ #[42] ty #[.slice (some ⟨b, i, none⟩) (l.length - i) (cap - i)]).run Tryz.prog wr = .ok (.tuple #[]) (wr.setCells b i (List.replicate (l.length - i) (.int .i64 0)))) := fun ty => Lib.run_clear_slice wr 42 3 ty (.int .i64 0) Tryz.underlying42 zeroInt rfl rfl b i (l.length - i) (cap - i) (by omega) (fun x hx => (hD.any (x := i + x) (by omega)).1) (fun x hx => (hD.any (x := i + x) (by omega)).2.1)
    have FI : Hid (DlO l p b cap w (.returned (.slice (some ⟨b, 0, none⟩) i cap)) (wr.setCells b i (List.replicate (l.length - i) (.int .i64 0)))) := by
     obtain ⟨cur2, c1, c2, c3, c4⟩ := hD.ex
     obtain ⟨cur3, d1, d2, d3, d4, d5, d6⟩ := setCells_heap (List.replicate (l.length - i) (.int .i64 0)) wr b i cur2 3 c1
     refine ⟨cur3, by rw [<- hil], d1, by rw [d2, c2], ?_, fun x hx => (d4 x hx).trans (hD.oth x hx), fun n0 w0 hb hn => d6 n0 w0 (hD.bel n0 w0 hb hn) hn⟩
     rw [<- hil]
     rw [List.take_length] at c3
     rw [<- c3]
     apply List.ext_getElem?
     intro x
     rw [List.getElem?_take, List.getElem?_take]
     by_cases hx : x < i
     ·rw [if_pos hx, if_pos hx, Array.getElem?_toList, Array.getElem?_toList, d3 x hx]
     ·rw [if_neg hx, if_neg hx]
    clear hD hil HD
    go_wp2_with (refine wpList_clear rfl _ rfl _ rfl (CL.out _) ?_)
    go_ret
    exact FI.out
end Go.Proofs.YtjpknihkcndoiaaGreat
namespace Go.Proofs.YtjpknihkcndoiaaGreat
set_option linter.unusedVariables false
set_option maxRecDepth 100000
set_option maxHeartbeats 16000000
open Go.RowKit Go.Maps
def D2 (n : Nat) (w : World) (d : DV) (ao : Option Addr) (c : Nat) : Prop :=
 (d.drop = [] /\ ao = none /\ c = 0) ∨ ∃ b cur, n <= b /\ ao = some ⟨b, 0, none⟩ /\ w.heap[b]? = some (.cells cur 3 (0, 0)) /\ cur.size = c /\ d.drop.length <= c /\ cur.toList.take d.drop.length = d.drop.map (Value.int .i64 ·) /\ c <= maxLen
theorem D1.two {n : Nat} {w : World} {d : DV} {ao : Option Addr} {c : Nat} (h : D1 n w d ao c) : D2 n w d ao c := by
 rcases h with h | ⟨b, p, h1, h2, h3, h4, h5⟩
 ·exact .inl h
 ·exact .inr ⟨b, _, h1, h3, h5, by rw [h4]; rfl, by rw [h2, h4]; simp, by rw [h2]; rfl, by rw [h4]; decide⟩
theorem D2.kept {n m : Nat} {w w' : World} {d : DV} {ao : Option Addr} {c : Nat} (h : D2 n w d ao c) (hm : m <= n) (hb : ∀ j, n <= j -> w'.heap[j]? = w.heap[j]?) : D2 m w' d ao c := by
 rcases h with h | ⟨b, cur, h1, h2, h3, h4⟩
 ·exact .inl h
 ·exact .inr ⟨b, cur, Nat.le_trans hm h1, h2, (hb b h1).trans h3, h4⟩
theorem D2.later {n : Nat} {w w' : World} {d : DV} {ao : Option Addr} {c : Nat} (h : D2 n w d ao c) (hb : Below w.heap.size w w') : D2 n w' d ao c := by
 rcases h with h | ⟨b, cur, h1, h2, h3, h4⟩
 ·exact .inl h
 ·exact .inr ⟨b, cur, h1, h2, blk_later h3 hb, h4⟩
theorem D2.row {n : Nat} {w : World} {d : DV} {ao : Option Addr} {c : Nat} (h : D2 n w d ao c) : InRow w ao d.drop := by
 rcases h with ⟨h, _⟩ | ⟨b, cur, h1, h2, h3, h4, h5, h6, _⟩
 ·intro hn; exact absurd h hn
 ·intro _
  refine ⟨b, 0, h2, lt_of_block h3, fun i hi => ?_⟩
  rw [Nat.zero_add, cellq_any h3]
  have e : (cur.toList.take d.drop.length)[i]? = (d.drop.map (Value.int .i64 ·))[i]? := by rw [h6]
  rw [List.getElem?_take, if_pos hi, List.getElem?_map, List.getElem?_eq_getElem hi] at e
  rw [<- Array.getElem?_toList, e]
  simp [List.getD, hi]
def DrO (w : World) (d : DV) (e : Ending) (w' : World) : Prop := ∃ ao c, e = .returned (dval d ao c) /\ D2 w.heap.size w' d ao c /\ Below w.heap.size w w'
set_option linter.unusedSimpArgs false in
theorem dropping_P (d : DV) (ao : Option Addr) (c b0 off rc : Nat) (red : List Int) (w : World) (hn : red.length <= 1048576) (hr : ∀ i, i < red.length -> w.cell? ⟨b0, off + i, none⟩ = some (.int .i64 (red.getD i 0))) (hb0 : b0 < w.heap.size) :
  Calls Tryz.prog 60 #[dval d ao c, .slice (some ⟨b0, off, none⟩) red.length rc] w (DrO w (dropD d red)) := by
 have X0 : Hid (((w.alloc (.cells #[.int .i64 d.look, .int .i64 d.kind, .int .i64 d.prod, .slice ao d.drop.length c, .bool d.sd, .int .i64 d.lev] 58)).alloc dZero).heap[w.heap.size]? = some (.cells #[.int .i64 d.look, .int .i64 d.kind, .int .i64 d.prod, .slice ao d.drop.length c, .bool d.sd, .int .i64 d.lev] 58 (0, 0)) /\ ((w.alloc (.cells #[.int .i64 d.look, .int .i64 d.kind, .int .i64 d.prod, .slice ao d.drop.length c, .bool d.sd, .int .i64 d.lev] 58)).alloc dZero).heap[w.heap.size + 1]? = some (.cells #[.int .i64 0, .int .i64 0, .int .i64 0, .slice none 0 0, .bool false, .int .i64 0] 58 (0, 0)) /\ Below w.heap.size w ((w.alloc (.cells #[.int .i64 d.look, .int .i64 d.kind, .int .i64 d.prod, .slice ao d.drop.length c, .bool d.sd, .int .i64 d.lev] 58)).alloc dZero) /\ ((w.alloc (.cells #[.int .i64 d.look, .int .i64 d.kind, .int .i64 d.prod, .slice ao d.drop.length c, .bool d.sd, .int .i64 d.lev] 58)).alloc dZero).heap.size = w.heap.size + 1 + 1) := by
  have q := heap_alloc_new (w.alloc (.cells #[.int .i64 d.look, .int .i64 d.kind, .int .i64 d.prod, .slice ao d.drop.length c, .bool d.sd, .int .i64 d.lev] 58)) dZero
  rw [alZ] at q
  exact ⟨blk_later (heap_alloc_new _ _) (below_alloc _ _), q, (below_alloc w _).trans ((below_alloc _ _).mono (below_alloc w _).size), by rw [alZ, alZ]⟩
 have HC : Hid (Calls Tryz.prog 83 #[.slice (some ⟨b0, off, none⟩) red.length rc] ((w.alloc (.cells #[.int .i64 d.look, .int .i64 d.kind, .int .i64 d.prod, .slice ao d.drop.length c, .bool d.sd, .int .i64 d.lev] 58)).alloc dZero) fun e w' => ∃ b cap cur, e = .returned (.slice (some ⟨b, 0, none⟩) red.length cap) /\ w'.heap[b]? = some (.cells cur 3 (0, 0)) /\ cur.size = cap /\ cap <= maxLen /\ red.length <= cap /\ cur.toList.take red.length = red.map (Value.int .i64 ·) /\ ((w.alloc (.cells #[.int .i64 d.look, .int .i64 d.kind, .int .i64 d.prod, .slice ao d.drop.length c, .bool d.sd, .int .i64 d.lev] 58)).alloc dZero).heap.size <= b /\ Below ((w.alloc (.cells #[.int .i64 d.look, .int .i64 d.kind, .int .i64 d.prod, .slice ao d.drop.length c, .bool d.sd, .int .i64 d.lev] 58)).alloc dZero).heap.size ((w.alloc (.cells #[.int .i64 d.look, .int .i64 d.kind, .int .i64 d.prod, .slice ao d.drop.length c, .bool d.sd, .int .i64 d.lev] 58)).alloc dZero) w') := cloneI_P b0 off rc red _ hn (fun j u hu => by
  rw [List.getElem?_map] at hu
  by_cases hj : j < red.length
  ·rw [List.getElem?_eq_getElem hj] at hu
   have e : u = .int .i64 (red.getD j 0) := by simpa [List.getD, hj] using hu.symm
   rw [e]
   exact ⟨(X0.out.2.2.1.cell (p := ⟨b0, off + j, none⟩) hb0).trans (hr j hj), Nat.lt_of_lt_of_le hb0 X0.out.2.2.1.size⟩
  ·rw [List.getElem?_eq_none (by omega)] at hu
   cases hu)
 have DL : Hid (∀ w1 b cap cur, w1.heap[b]? = some (.cells cur 3 (0, 0)) -> cur.size = cap -> cap <= maxLen -> red.length <= cap -> cur.toList.take red.length = red.map (Value.int .i64 ·) -> w.heap.size ≠ b -> w1.heap[w.heap.size]? = some (.cells #[.int .i64 d.look, .int .i64 d.kind, .int .i64 d.prod, .slice ao d.drop.length c, .bool d.sd, .int .i64 d.lev] 58 (0, 0)) -> Calls Tryz.prog 82 #[.slice (some ⟨b, 0, none⟩) red.length cap, .func (.func 84) #[] #[.pointer (some ⟨w.heap.size, 0, none⟩)]] w1 (DlO red d.prod b cap w1)) := fun w1 b cap cur h1 h2 h3 h4 h5 h6 h7 => delete_P red d.prod b cap w.heap.size cur w1 hn h4 h3 h1 h2 h5 h6 ((cellq_any h7).trans rfl)
 clear hr
 go_enter Tryz.func60, Tryz.ntmps60
 go_wp2_with (first
  | (go_at_call 83; refine HC.out.mono ?_; rintro e w1 ⟨b, cap, cur, rfl, c1, c2, c3, c4, c5, c6, c7⟩; have X1 : Hid (w1.heap[w.heap.size]? = some (.cells #[.int .i64 d.look, .int .i64 d.kind, .int .i64 d.prod, .slice ao d.drop.length c, .bool d.sd, .int .i64 d.lev] 58 (0, 0)) /\ w1.heap[w.heap.size + 1]? = some (.cells #[.int .i64 0, .int .i64 0, .int .i64 0, .slice none 0 0, .bool false, .int .i64 0] 58 (0, 0)) /\ Below w.heap.size w w1 /\ w.heap.size + 1 < b) := ⟨blk_later X0.out.1 c7, blk_later X0.out.2.1 c7, X0.out.2.2.1.trans (c7.mono X0.out.2.2.1.size), (by have := X0.out.2.2.2; omega)⟩; have DL2 : Hid (Calls Tryz.prog 82 #[.slice (some ⟨b, 0, none⟩) red.length cap, .func (.func 84) #[] #[.pointer (some ⟨w.heap.size, 0, none⟩)]] w1 (DlO red d.prod b cap w1)) := DL.out w1 b cap cur c1 c2 c3 c4 c5 (by have := X1.out.2.2.2; omega) X1.out.1; have C4 : Hid (red.length <= cap) := c4; have C3 : Hid (cap <= maxLen) := c3; clear c1 c2 c3 c4 c5 c6 c7 DL HC)
  | (go_at_call 82; refine DL2.out.mono ?_; rintro e w2 ⟨cur2, rfl, d1, d2, d3, d4, d5⟩; have X2 : Hid (w2.heap[w.heap.size]? = some (.cells #[.int .i64 d.look, .int .i64 d.kind, .int .i64 d.prod, .slice ao d.drop.length c, .bool d.sd, .int .i64 d.lev] 58 (0, 0)) /\ w2.heap[w.heap.size + 1]? = some (.cells #[.int .i64 0, .int .i64 0, .int .i64 0, .slice none 0 0, .bool false, .int .i64 0] 58 (0, 0)) /\ Below w.heap.size w w2 /\ w2.heap[b]? = some (.cells cur2 3 (0, 0)) /\ cur2.size = cap /\ cur2.toList.take (keepL d.prod red).length = (keepL d.prod red).map (Value.int .i64 ·)) := ⟨(d4 _ (by have := X1.out.2.2.2; omega)).trans X1.out.1, (d4 _ (by have := X1.out.2.2.2; omega)).trans X1.out.2.1, d5 _ _ X1.out.2.2.1 (by have := X1.out.2.2.2; omega), d1, d2, d3⟩; clear d1 d2 d3 d4 d5; have a0 : w2.cell? ⟨w.heap.size, 0, none⟩ = some (.int .i64 d.look) := (cellq_any X2.out.1).trans rfl; have a1 : w2.cell? ⟨w.heap.size, 1, none⟩ = some (.int .i64 d.kind) := (cellq_any X2.out.1).trans rfl; have a2 : w2.cell? ⟨w.heap.size, 2, none⟩ = some (.int .i64 d.prod) := (cellq_any X2.out.1).trans rfl; have a3 : w2.cell? ⟨w.heap.size, 3, none⟩ = some (.slice ao d.drop.length c) := (cellq_any X2.out.1).trans rfl; have a4 : w2.cell? ⟨w.heap.size, 4, none⟩ = some (.bool d.sd) := (cellq_any X2.out.1).trans rfl; have a5 : w2.cell? ⟨w.heap.size, 5, none⟩ = some (.int .i64 d.lev) := (cellq_any X2.out.1).trans rfl; have fa := frostS X2.out.1 3; have hza := lt_of_block X2.out.1; have Y2 : Hid ((w2.setCell ⟨w.heap.size, 3, none⟩ (.slice (some ⟨b, 0, none⟩) (keepL d.prod red).length cap)).heap[w.heap.size + 1]? = some (.cells #[.int .i64 0, .int .i64 0, .int .i64 0, .slice none 0 0, .bool false, .int .i64 0] 58 (0, 0)) /\ Below w.heap.size w (w2.setCell ⟨w.heap.size, 3, none⟩ (.slice (some ⟨b, 0, none⟩) (keepL d.prod red).length cap))) := ⟨(setj_ne (by omega)).trans X2.out.2.1, X2.out.2.2.1.setCell (p := ⟨w.heap.size, 3, none⟩) (Nat.le_refl _) _⟩; obtain ⟨⟨z0, z1, z2, z3, z4, z5⟩, ⟨f0, f1, f2, f3, f4, f5⟩, hzz⟩ := dz_cells Y2.out.1))
 obtain ⟨q1, q2, q3⟩ := six_set Y2.out.1 (.int .i64 d.look) (.int .i64 d.kind) (.int .i64 d.prod) (.slice (some ⟨b, 0, none⟩) (keepL d.prod red).length cap) (.bool d.sd) (.int .i64 d.lev)
 have q4 := q3 _ _ Y2.out.2 (Nat.le_succ _)
 have q5 : D2 w.heap.size (((((((w2.setCell ⟨w.heap.size, 3, none⟩ (.slice (some ⟨b, 0, none⟩) (keepL d.prod red).length cap)).setCell ⟨w.heap.size + 1, 0, none⟩ (.int .i64 d.look)).setCell ⟨w.heap.size + 1, 1, none⟩ (.int .i64 d.kind)).setCell ⟨w.heap.size + 1, 2, none⟩ (.int .i64 d.prod)).setCell ⟨w.heap.size + 1, 3, none⟩ (.slice (some ⟨b, 0, none⟩) (keepL d.prod red).length cap)).setCell ⟨w.heap.size + 1, 4, none⟩ (.bool d.sd)).setCell ⟨w.heap.size + 1, 5, none⟩ (.int .i64 d.lev)) (dropD d red) (some ⟨b, 0, none⟩) cap := .inr ⟨b, cur2, by have := X1.out.2.2.2; omega, rfl, ((q2 b (by have := X1.out.2.2.2; omega)).trans (setj_ne (by have := X1.out.2.2.2; omega))).trans X2.out.2.2.2.1, X2.out.2.2.2.2.1, Nat.le_trans (keep_len _ _) C4.out, X2.out.2.2.2.2.2, C3.out⟩
 generalize (((((((w2.setCell ⟨w.heap.size, 3, none⟩ (.slice (some ⟨b, 0, none⟩) (keepL d.prod red).length cap)).setCell ⟨w.heap.size + 1, 0, none⟩ (.int .i64 d.look)).setCell ⟨w.heap.size + 1, 1, none⟩ (.int .i64 d.kind)).setCell ⟨w.heap.size + 1, 2, none⟩ (.int .i64 d.prod)).setCell ⟨w.heap.size + 1, 3, none⟩ (.slice (some ⟨b, 0, none⟩) (keepL d.prod red).length cap)).setCell ⟨w.heap.size + 1, 4, none⟩ (.bool d.sd)).setCell ⟨w.heap.size + 1, 5, none⟩ (.int .i64 d.lev)) = W4 at *
 have r0 : W4.cell? ⟨w.heap.size + 1, 0, none⟩ = some (.int .i64 d.look) := (cellq_any q1).trans rfl
 have r1 : W4.cell? ⟨w.heap.size + 1, 1, none⟩ = some (.int .i64 d.kind) := (cellq_any q1).trans rfl
 have r2 : W4.cell? ⟨w.heap.size + 1, 2, none⟩ = some (.int .i64 d.prod) := (cellq_any q1).trans rfl
 have r3 : W4.cell? ⟨w.heap.size + 1, 3, none⟩ = some (.slice (some ⟨b, 0, none⟩) (keepL d.prod red).length cap) := (cellq_any q1).trans rfl
 have r4 : W4.cell? ⟨w.heap.size + 1, 4, none⟩ = some (.bool d.sd) := (cellq_any q1).trans rfl
 have r5 : W4.cell? ⟨w.heap.size + 1, 5, none⟩ = some (.int .i64 d.lev) := (cellq_any q1).trans rfl
 refine bodyPost_ret (v := .agg #[.int .i64 d.look, .int .i64 d.kind, .int .i64 d.prod, .slice (some ⟨b, 0, none⟩) (keepL d.prod red).length cap, .bool d.sd, .int .i64 d.lev]) (by simp [results, Tryz.results60, go_sem, r0, r1, r2, r3, r4, r5]) rfl ?_
 exact ⟨some ⟨b, 0, none⟩, cap, rfl, q5, q4⟩
end Go.Proofs.YtjpknihkcndoiaaGreat
