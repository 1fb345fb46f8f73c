import Derived.WalkKit
import Derived.Laws.BitsAllLaws
import Derived.Test.YtobhemaikomdaaaGreatDoorProg
import Derived.WalkSpells
import Derived.WalkLawsBesides
import Derived.Handy
import Derived.Laws.AppendOwnNone
import Derived.Deep.RegionWith
import Derived.Deep.AppendSrc
import Derived.Deep.RegionHeld3
import Derived.Deep.QuietTactic
import Derived.BigQuiet
import Derived.Lib.SlBytesConst
import Derived.Deep.RegionLaw
/- Plain facts on lists of bytes: no program in sight. -/
namespace Go.Proofs.YtobhemaikomdaaaGreatDoor.C
set_option linter.unusedVariables false
open Go.RowKit
def lo (xs : List Int) : Int := xs.foldl (fun a c => (a + c) % 65521) 1
def hi (xs : List Int) : Int := (xs.foldl (fun (p : Int × Int) c => ((p.1 + c) % 65521, (p.2 + (p.1 + c) % 65521) % 65521)) (1, 0)).2
theorem lo_snoc (xs : List Int) (c : Int) : lo (xs ++ [c]) = (lo xs + c) % 65521 := by simp [lo]
theorem pair_fst (xs : List Int) (p : Int × Int) : (xs.foldl (fun (p : Int × Int) c => ((p.1 + c) % 65521, (p.2 + (p.1 + c) % 65521) % 65521)) p).1 = xs.foldl (fun a c => (a + c) % 65521) p.1 := by
 induction xs generalizing p with
 | nil => rfl
 | cons x r ih => simp only [List.foldl_cons]; rw [ih]
theorem hi_snoc (xs : List Int) (c : Int) : hi (xs ++ [c]) = (hi xs + lo (xs ++ [c])) % 65521 := by
 simp only [hi, lo, List.foldl_append, List.foldl_cons, List.foldl_nil]
 rw [pair_fst]
theorem lo_bd (xs : List Int) : 0 <= lo xs /\ lo xs < 65521 := by
 rcases List.eq_nil_or_concat xs with rfl | ⟨ys, c, rfl⟩
 ·simp [lo]
 ·rw [List.concat_eq_append, lo_snoc]; omega
theorem hi_bd (xs : List Int) : 0 <= hi xs /\ hi xs < 65521 := by
 rcases List.eq_nil_or_concat xs with rfl | ⟨ys, c, rfl⟩
 ·simp [hi]
 ·rw [List.concat_eq_append, hi_snoc]; omega
def adler (xs : List Int) : Int := hi xs * 65536 + lo xs
def isBytes (xs : List Int) : Prop := ∀ x ∈ xs, 0 <= x /\ x <= 255
theorem isBytes.at {xs : List Int} (h : isBytes xs) (i : Nat) : 0 <= xs.getD i 0 /\ xs.getD i 0 <= 255 := by
 by_cases hi : i < xs.length
 ·have := h (xs[i]) (List.getElem_mem hi); simpa [List.getD, hi] using this
 ·simp [List.getD, hi]
theorem take_snoc (xs : List Int) (k : Nat) (h : k < xs.length) : xs.take (k + 1) = xs.take k ++ [xs.getD k 0] := by
 rw [List.take_succ_eq_append_getElem h]; simp [List.getD, h]
def RowAt (w : World) (ao : Option Addr) (xs : List Int) : Prop :=
 isBytes xs /\ (xs ≠ [] -> ∃ b off, ao = some ⟨b, off, none⟩ /\ ∀ i, i < xs.length -> w.cell? ⟨b, off + i, none⟩ = some (.int .u8 (xs.getD i 0)))
theorem RowAt.later {w w' : World} {ao : Option Addr} {xs : List Int} (h : RowAt w ao xs) (hb : Below w.heap.size w w') : RowAt w' ao xs := by
 refine ⟨h.1, fun hne => ?_⟩
 obtain ⟨b, off, rfl, hc⟩ := h.2 hne
 refine ⟨b, off, rfl, fun i hi => ?_⟩
 rw [hb.cell (p := ⟨b, off + i, none⟩) (World.block_lt_of_cell? w _ (hc i hi))]
 exact hc i hi
theorem isBytes_nil : isBytes [] := fun _ h => by cases h
theorem isBytes_append {xs ys : List Int} (h : isBytes xs) (k : isBytes ys) : isBytes (xs ++ ys) := fun x hx => by
 rcases List.mem_append.1 hx with q | q
 ·exact h x q
 ·exact k x q
theorem RowAt.nil (w : World) (ao : Option Addr) : RowAt w ao [] := ⟨isBytes_nil, fun h => absurd rfl h⟩
theorem isBytes_take {xs : List Int} (h : isBytes xs) (k : Nat) : isBytes (xs.take k) := fun x hx => h x (List.mem_of_mem_take hx)
theorem isBytes_drop {xs : List Int} (h : isBytes xs) (k : Nat) : isBytes (xs.drop k) := fun x hx => h x (List.mem_of_mem_drop hx)
abbrev vals (xs : List Int) : List Value := xs.map (Value.int .u8)
theorem vals_oneCell (xs : List Int) : ∀ u ∈ vals xs, u.oneCell' = true := by
 intro u hu
 obtain ⟨x, _, rfl⟩ := List.mem_map.1 hu
 rfl
theorem rowAt_of_owns {w : World} {base : Nat} {e : TypeId} {v : Value} {xs : List Int} (hb : isBytes xs) (h : w.ownsRow base e 1 v xs.length (vals xs)) : ∃ ao cap, v = .slice ao xs.length cap /\ (ao = none -> xs = [] /\ cap = 0) /\ RowAt w ao xs := by
 obtain ⟨_, h2⟩ := h
 rcases h2 with ⟨rfl, hn⟩ | ⟨g, cap, cur, rfl, hg, hh, hl, hm, hs, ht⟩
 ·obtain rfl : xs = [] := List.eq_nil_of_length_eq_zero hn
  exact ⟨none, 0, rfl, fun _ => ⟨rfl, rfl⟩, RowAt.nil _ _⟩
 ·refine ⟨_, cap, rfl, (fun h => by cases h), hb, fun _ => ⟨g, 0, rfl, fun i hi => ?_⟩⟩
  have e1 : cur.toList[i]? = some (.int .u8 (xs.getD i 0)) := by
   have : (cur.toList.take (xs.length * 1))[i]? = (vals xs)[i]? := by rw [ht]
   rw [List.getElem?_take_of_lt (by omega)] at this
   rw [this]; simp [List.getD, hi]
  simp only [World.cell?, hh, Nat.zero_add]
  simpa using e1
theorem add_none (b off j : Nat) : (⟨b, off, none⟩ : Addr).add j = ⟨b, off + j, none⟩ := by
 unfold Addr.add
 by_cases h : j = 0 <;> simp [h]
theorem RowAt.news {w : World} {ad : Addr} {xs : List Int} (h : RowAt w (some ad) xs) : ∀ j u, (vals xs)[j]? = some u -> w.cell? (ad.add j) = some u := by
 intro j u hj
 have hjl : j < xs.length := by simpa using (List.getElem?_eq_some_iff.1 hj).1
 obtain ⟨b, off, he, hc⟩ := h.2 (by intro h; subst h; simp at hjl)
 obtain rfl := Option.some.inj he
 have := hc j hjl
 simp [List.getD, hjl] at this hj
 subst hj
 rw [add_none]
 exact this
theorem below_alloc (w : World) (o : Obj) : Below w.heap.size w (w.alloc o) := (Below.refl _ _).alloc (Nat.le_refl _) _
theorem orJoin32 (h l : Int) (h0 : 0 <= h) (h1 : h < 65536) (l0 : 0 <= l) (l1 : l < 65536) : bits .or .u32 (h * 65536) l = h * 65536 + l := by
 rw [u32_or _ _ (by omega) (by omega) (by omega) (by omega), nat_join 16 _ _ (by omega) (by omega)]; omega
set_option maxHeartbeats 400000 in
theorem sum_any (ao : Option Addr) (cap : Nat) (xs : List Int) (w : World) (hl : xs.length <= 140737488355328) (hr : RowAt w ao xs) :
  Calls Tryz.prog 68 #[.slice ao xs.length cap] w fun e w' => e = .returned (.int .u32 (adler xs)) /\ w' = w := by
 go_enter Tryz.func68, Tryz.ntmps68
 go_wp2
 go_loop [3, 4, 9] (fun x y i => ∃ k : Nat, k <= xs.length /\ i = .int .i64 k /\ x = .int .u32 (lo (xs.take k)) /\ y = .int .u32 (hi (xs.take k))) (fun _ _ i => xs.length - (intOf i).toNat)
 case atStart => exact ⟨0, Nat.zero_le _, rfl, rfl, rfl⟩
 case round =>
  obtain ⟨k, hk, rfl, rfl, rfl⟩ := hrel
  have hlo := lo_bd (xs.take k)
  have hhi := hi_bd (xs.take k)
  by_cases hlt : k < xs.length
  ·obtain ⟨b, off, rfl, hc⟩ := hr.2 (by intro h; subst h; simp at hlt)
   have hck := hc k hlt
   have hb := hr.1.at k
   have HS1 : Hid (lo (xs.take (k + 1)) = (lo (xs.take k) + xs.getD k 0) % 65521) := by rw [take_snoc xs k hlt, lo_snoc]; rfl
   have HS2 : Hid (hi (xs.take (k + 1)) = (hi (xs.take k) + (lo (xs.take k) + xs.getD k 0) % 65521) % 65521) := by rw [take_snoc xs k hlt, hi_snoc, lo_snoc]; rfl
   clear hc hr
   generalize hx : xs.getD k 0 = x at *
   clear hx
   go_wp2
   go_round
   case rel => exact ⟨k + 1, by omega, by go_num, by rw [HS1.out], by rw [HS2.out]⟩
   case measure => simp [intOf]; omega
  ·go_wp2
   go_ret
   refine ⟨?_, rfl⟩
   have e : k = xs.length := by omega
   rw [e, List.take_length]
   rw [e, List.take_length] at hlo hhi
   show Ending.returned (Value.int _ (bits _ _ _ _)) = _
   rw [orJoin32 _ _ hhi.1 (by omega) hlo.1 (by omega)]
   rfl
theorem info5 : (Tryz.prog.info? 5).map (fun i => (i.zero, i.size, i.bytes)) = some (some (.int .u8 0), 1, 1) := by kernel_rfl
def Own (w : World) (v : Value) (xs : List Int) : Prop := isBytes xs /\ w.ownsRow 0 5 1 v xs.length (vals xs)
structure Grew (w w' : World) (v v' : Value) : Prop where
 grown : w.grownBy w' v.ownBlock
 moved : v'.ownBlock = v.ownBlock ∨ ∃ k, v'.ownBlock = some k /\ w.heap.size <= k
theorem Grew.refl (w : World) (v : Value) : Grew w w v v := ⟨⟨rfl, rfl, rfl, Nat.le_refl _, fun _ _ _ => rfl⟩, .inl rfl⟩
theorem Grew.trans {w w1 w2 : World} {v v1 v2 : Value} (h : Grew w w1 v v1) (k : Grew w1 w2 v1 v2) : Grew w w2 v v2 := by
 refine ⟨⟨k.grown.os.trans h.grown.os, k.grown.tape.trans h.grown.tape, k.grown.output.trans h.grown.output, Nat.le_trans h.grown.size k.grown.size, fun i hi hne => ?_⟩, ?_⟩
 ·refine (k.grown.block i (Nat.lt_of_lt_of_le hi h.grown.size) ?_).trans (h.grown.block i hi hne)
  rcases h.moved with e | ⟨q, e, hq⟩
  ·rw [e]; exact hne
  ·rw [e]; intro e'; have := Option.some.inj e'; omega
 ·rcases k.moved with e | ⟨q, e, hq⟩
  ·rw [e]; exact h.moved
  ·exact .inr ⟨q, e, Nat.le_trans h.grown.size hq⟩
theorem Grew.alloc {w w' : World} {v v' : Value} (h : Grew w w' v v') (o : Obj) : Grew w (w'.alloc o) v v' := by
 refine ⟨⟨h.grown.os, h.grown.tape, h.grown.output, by have := h.grown.size; simp; omega, fun i hi hne => ?_⟩, h.moved⟩
 exact (Below.heap_alloc w' o i (Nat.lt_of_lt_of_le hi h.grown.size)).trans (h.grown.block i hi hne)
theorem Own.alloc {w : World} {v : Value} {xs : List Int} (h : Own w v xs) (o : Obj) : Own (w.alloc o) v xs := ⟨h.1, h.2.alloc o⟩
theorem Own.drew {w : World} {v : Value} {xs : List Int} (h : Own w v xs) : Own w.drew v xs := ⟨h.1, h.2.drew⟩
theorem Own.lt {w : World} {v : Value} {xs : List Int} (h : Own w v xs) : ∀ k, v.ownBlock = some k -> k < w.heap.size := fun k hk => (h.2.lt k hk).2
theorem Own.kept {w w' : World} {v : Value} {xs : List Int} (h : Own w v xs) (hb : ∀ k, v.ownBlock = some k -> w'.heap[k]? = w.heap[k]?) : Own w' v xs := by
 refine ⟨h.1, h.2.1, ?_⟩
 rcases h.2.2 with hn | ⟨g, cap, cur, rfl, hb', hgg, rest⟩
 ·exact .inl hn
 ·exact .inr ⟨g, cap, cur, rfl, hb', by rw [hb g rfl]; exact hgg, rest⟩
theorem Own.nil (w : World) : Own w (.slice none 0 0) [] := ⟨isBytes_nil, World.ownsRow_nil w 0 5 1⟩
theorem Own.row {w : World} {v : Value} {xs : List Int} (h : Own w v xs) : ∃ ao cap, v = .slice ao xs.length cap /\ (ao = none -> xs = [] /\ cap = 0) /\ RowAt w ao xs := rowAt_of_owns h.1 h.2
theorem grew_below {w w' : World} {v v' : Value} {B : Nat} (h : Grew w w' v v') (hB : B <= w.heap.size) (hv : ∀ k, v.ownBlock = some k -> B <= k) : Below B w w' :=
 (Below.refl _ _).grown h.grown hB hv
theorem rowAt_one (w : World) (t : TypeId) (x : Int) (h0 : 0 <= x) (h1 : x <= 255) : RowAt (w.alloc (.cells #[.int .u8 x] t)) (some ⟨w.heap.size, 0, none⟩) [x] :=
 ⟨fun y hy => by simp at hy; omega, fun _ => ⟨_, 0, rfl, fun i hi => by
  obtain rfl : i = 0 := by simp at hi; omega
  simp⟩⟩
theorem rowAt_new (w : World) (t : TypeId) (xs : List Int) (fz : Nat × Nat) (h : isBytes xs) : RowAt (w.alloc (.cells (vals xs).toArray t fz)) (some ⟨w.heap.size, 0, none⟩) xs := by
 refine ⟨h, fun _ => ⟨_, 0, rfl, fun i hi => ?_⟩⟩
 rw [World.cell?_alloc_mark]
 simp [hi, List.getD]
theorem not_nil {g : Addr} {N c : Nat} {p : Prop} (h : Value.slice (some g) N c = .slice none 0 0 /\ p) : False := by have := h.1; simp at this
theorem no_nil {a : Addr} {c : Nat} (h : some a = none) : c = 0 := by cases h
theorem own_shape {w : World} {v : Value} {xs : List Int} (h : Own w v xs) (hn : v ≠ .slice none 0 0) : ∃ g N c, v = .slice (some ⟨g, 0, none⟩) N c := by
 rcases h.2.2 with ⟨rfl, _⟩ | ⟨g, cap, cur, rfl, _⟩
 ·exact absurd rfl hn
 ·exact ⟨g, _, cap, rfl⟩
theorem own_len {w : World} {a : Option Addr} {N c : Nat} {xs : List Int} (h : Own w (.slice a N c) xs) : N = xs.length /\ RowAt w a xs /\ (a = none -> c = 0) := by
 obtain ⟨ao, cap, e, hn, hr⟩ := h.row
 simp only [Value.slice.injEq] at e
 obtain ⟨rfl, rfl, rfl⟩ := e
 exact ⟨rfl, hr, fun h => (hn h).2⟩
theorem sum_at (ao : Option Addr) (N cap : Nat) (xs : List Int) (w : World) (hN : N = xs.length) (hl : xs.length <= 140737488355328) (hr : RowAt w ao xs) :
  Calls Tryz.prog 68 #[.slice ao N cap] w fun e w' => e = .returned (.int .u32 (adler xs)) /\ w = w' := by
 subst hN
 exact (sum_any ao cap xs w hl hr).mono fun e w' h => ⟨h.1, h.2.symm⟩
theorem adler_bd (xs : List Int) : 0 <= adler xs /\ adler xs <= 4294967295 := by
 have h1 := lo_bd xs
 have h2 := hi_bd xs
 unfold adler; omega
theorem run_own_append (w : World) (ty : TypeId) (v : Value) (xs : List Int) (h : Own w v xs) (ao : Option Addr) (c : Nat) (news : List Int) (hr : RowAt w ao news) (hc : ao = none -> c = 0) (hlen : xs.length + news.length <= 140737488355328) :
  ∃ v' w', (Builtin.append_ #[46, 46] ty #[v, .slice ao news.length c]).run Tryz.prog w = .ok v' w' /\ Own w' v' (xs ++ news) /\ Grew w w' v v' /\ (v' = .slice none 0 0 ↔ v = .slice none 0 0 /\ news = []) := by
 obtain ⟨i0, hi, hz0, hz1, hz2⟩ := info_parts info5
 have hby : isBytes (xs ++ news) := isBytes_append h.1 hr.1
 match ao with
 | none =>
  obtain rfl := hc rfl
  have hn : news = [] := by
   by_cases hn : news = []
   ·exact hn
   ·obtain ⟨b, off, he, _⟩ := hr.2 hn; cases he
  subst hn
  exact ⟨v, w, run_append_owned_none (P := Tryz.prog) (w := w) 0 46 ty 5 i0 1 Tryz.underlying46 hi v _ _ h.2, by simpa using h, Grew.refl _ _, by simp⟩
 | some ad =>
  obtain ⟨v', w', hrun, hown, hgrow, hnil⟩ := run_append_own (P := Tryz.prog) w 0 46 ty 5 i0 (.int .u8 0) 1 1 Tryz.underlying46 hi hz0 hz1 hz2 rfl (by decide) v xs.length (vals xs) h.2 ad news.length c (vals news) (by simp) hr.news (vals_oneCell news) (by unfold maxLen; omega) (by omega) (Nat.zero_le _)
  refine ⟨v', w', hrun, ⟨hby, by simpa using hown⟩, ⟨hgrow, ?_⟩, by simpa using hnil⟩
  rcases h.2.2 with ⟨rfl, hn0⟩ | ⟨g, cap, cur, rfl, hbg, hg, hnc, hcm, hcs, htake⟩
  ·obtain rfl : xs = [] := List.eq_nil_of_length_eq_zero hn0
   by_cases hm : news = []
   ·subst hm; left; simp at hnil; rw [hnil]
   ·have hpos : 0 < news.length := List.length_pos_iff.2 hm
    have hr2 := run_append_nil (P := Tryz.prog) w 46 ty 5 i0 (.int .u8 0) Tryz.underlying46 hi hz0 ad news.length c (vals news) (by rw [hz1]; simp) hr.news (by omega) (by omega) (by rw [hz2]; omega)
    have e := hrun.symm.trans hr2
    right
    simp only [Result.ok.injEq] at e
    rw [e.1]
    exact ⟨w.heap.size, rfl, Nat.le_refl _⟩
  ·by_cases hroom : xs.length + news.length <= cap
   ·have hr2 := run_append_room (P := Tryz.prog) w 46 ty 5 i0 Tryz.underlying46 hi g xs.length cap cur hg ad news.length c (vals news) (by rw [hz1]; simp) hr.news (vals_oneCell news) hroom (by rw [hz1]; simp; omega)
    have e := hrun.symm.trans hr2
    simp only [Result.ok.injEq] at e
    left
    rw [e.1]; rfl
   ·have hr2 := run_append_grow (P := Tryz.prog) w 46 ty 5 i0 (.int .u8 0) Tryz.underlying46 hi hz0 ⟨g, 0, none⟩ xs.length cap (vals xs) (by rw [hz1]; simp) (h.2.cells (g := g) rfl) ad news.length c (vals news) (by rw [hz1]; simp) hr.news (by omega) (by omega) (growslice_fits (by omega) (by rw [hz2]; omega))
    have e := hrun.symm.trans hr2
    simp only [Result.ok.injEq] at e
    right
    rw [e.1]
    exact ⟨w.heap.size, rfl, Nat.le_refl _⟩
theorem wpList_own_append {ops : Array Oper} {rest : List Oper} {o : Oper} {a : Act} {Q : Exit -> Act -> World -> Prop} {w : World} (hgd : o.guard = none) (s x : Operand)
  (ho : o.op = .call { callee := .builtin .append, args := #[s, x], argTypes := #[46, 46] })
  (v : Value) (xs : List Int) (hs : a.eval s = v) (h : Own w v xs) (ao : Option Addr) (c : Nat) (news : List Int) (hx : a.eval x = .slice ao news.length c) (hr : RowAt w ao news) (hc : ao = none -> c = 0) (hlen : xs.length + news.length <= 140737488355328)
  (hK : ∀ v' w', Own w' v' (xs ++ news) -> Grew w w' v v' -> (v' = .slice none 0 0 ↔ v = .slice none 0 0 /\ news = []) -> wpList Tryz.prog ops Q rest (a.put o.dst v') w') : wpList Tryz.prog ops Q (o :: rest) a w := by
 refine wpList_plain hgd fun K hK' => ?_
 obtain ⟨v', w', hrun, h2, h3, h4⟩ := run_own_append w o.type v xs h ao c news hr hc hlen
 unfold Oper.wp execOp
 simp only [ho, resolve, invoke, builtin, Sem.run_bind, Sem.run_pure, Result.andThen_ok, List.map_toArray, List.map_cons, List.map_nil, hs, hx, hrun]
 exact hK' _ _ (hK v' w' h2 h3 h4)
def enc : Nat -> Int -> List Int
 | 0, _ => []
 | f + 1, n => if 128 <= n then (n % 128 + 128) :: enc f (n / 128) else [n]
theorem enc_len (f : Nat) (n : Int) : (enc f n).length <= f := by
 induction f generalizing n with
 | zero => simp [enc]
 | succ f ih =>
  unfold enc
  split
  ·have := ih (n / 128); simp; omega
  ·simp
theorem orMore (n : Int) (h0 : 0 <= n) (h1 : n < 256) : bits .or .u8 n 128 = n % 128 + 128 := by
 rw [u8_or n 128 h0 h1 (by decide) (by decide)]
 have e : n.toNat ||| 128 = n.toNat % 128 + 128 := by
  have h : ∀ m : Nat, m < 256 -> m ||| 128 = m % 128 + 128 := by decide +kernel
  exact h n.toNat (by omega)
 show ((n.toNat ||| 128 : Nat) : Int) = _
 rw [e]; omega
theorem enc_step (f : Nat) (m : Int) (h : 128 <= m) : enc (f + 1) m = (m % 128 + 128) :: enc f (m / 128) := by rw [enc, if_pos h]
theorem enc_last (f : Nat) (m : Int) (h : m < 128) : enc (f + 1) m = [m] := by rw [enc, if_neg (by omega)]
set_option maxRecDepth 100000 in
set_option maxHeartbeats 1000000 in
theorem appnum_any (v : Value) (ys : List Int) (n : Int) (w : World) (h0 : 0 <= n) (h1 : n <= 18446744073709551615) (hl : ys.length <= 140737488355300) (hown : Own w v ys) :
  Calls Tryz.prog 66 #[v, .int .u64 n] w fun e w' => ∃ g N c, e = .returned (.slice (some ⟨g, 0, none⟩) N c) /\ Own w' (.slice (some ⟨g, 0, none⟩) N c) (ys ++ enc 10 n) /\ Grew w w' v (.slice (some ⟨g, 0, none⟩) N c) := by
 go_enter Tryz.func66, Tryz.ntmps66
 go_wp2
 go_loopw [0, 1] (fun s t wr => ∃ (zs : List Int) (m : Int) (f : Nat), t = .int .u64 m /\ 0 <= m /\ m < 128 ^ (f + 1) /\ m <= 18446744073709551615 /\ f <= 9 /\ zs.length + f = 9 /\ zs ++ enc (f + 1) m = enc 10 n /\ Own wr s (ys ++ zs) /\ Grew w wr v s)
  (fun _ t _ => (intOf t).toNat)
 case atStart => exact ⟨[], n, 9, rfl, h0, by omega, h1, by omega, rfl, rfl, by simpa using hown, Grew.refl _ _⟩
 case round =>
  obtain ⟨zs, m, f, rfl, hm0, hmf, hm1, hf, hzl, henc, ho, hg⟩ := hrel
  by_cases hbig : 128 <= m
  ·have HE : Hid (enc (f + 1) m = (m % 128 + 128) :: enc f (m / 128)) := enc_step f m hbig
   obtain ⟨f, rfl⟩ : ∃ f', f = f' + 1 := ⟨f - 1, by rcases f with _ | f <;> omega⟩
   have hmf' : m / 128 < 128 ^ (f + 1) := by rw [Int.pow_succ] at hmf; omega
   clear hmf
   have HO : Hid (bits .or .u8 (m % 256) 128 = m % 256 % 128 + 128) := orMore _ (by omega) (by omega)
   go_wp2_with (at_builtin; refine wpList_own_append rfl (.tmp 7) (.tmp 11) rfl _ _ rfl (ho.alloc _) (some ⟨wr.heap.size, 0, none⟩) 1 [bits .or .u8 (m % 256) 128] rfl ?hr no_nil ?hl ?_)
   case hr => exact rowAt_one _ _ _ (by rw [HO.out]; omega) (by rw [HO.out]; omega)
   case hl => (try simp); omega
   intro v1 w1 ho1 hg1 hn1
   go_wp2
   go_roundw
   case rel =>
    refine ⟨zs ++ [m % 128 + 128], m / 128, f, by go_num, by omega, hmf', by omega, by omega, by simp; omega, by rw [<- henc, HE.out]; simp, ?_, hg.trans (((Grew.refl _ _).alloc _).trans hg1)⟩
    rw [HO.out] at ho1
    have e : m % 256 % 128 = m % 128 := by omega
    rw [e] at ho1
    simpa using ho1
   case measure => simp [intOf]; omega
  ·have HE : Hid (enc (f + 1) m = [m]) := enc_last f m (by omega)
   go_wp2_with (at_builtin; refine wpList_own_append rfl (.tmp 15) (.tmp 18) rfl _ _ rfl (ho.alloc _) (some ⟨wr.heap.size, 0, none⟩) 1 [m] rfl ?hr no_nil ?hl ?_)
   case hr => exact rowAt_one _ _ _ (by omega) (by omega)
   case hl => (try simp); omega
   intro v1 w1 ho1 hg1 hn1
   go_wp2
   go_ret
   obtain ⟨g, N, c, rfl⟩ := own_shape ho1 (fun h => by first | exact hn1 h | (have := hn1.1 h; simp at this))
   refine ⟨g, N, c, rfl, ?_, hg.trans (((Grew.refl _ _).alloc _).trans hg1)⟩
   rw [<- henc, HE.out]
   simpa using ho1
set_option maxRecDepth 100000 in
theorem clone_nil (w : World) :
  Calls Tryz.prog 64 #[.slice none 0 0] w fun e w' => e = .returned (.slice none 0 0) /\ w' = w := by
 have hne := fun wx a n c => Lib.run_eql_slice_nil (P := Tryz.prog) (w := wx) 46 5 a n c 0 0 Tryz.underlying46
 go_enter Tryz.func64, Tryz.ntmps64
 go_wp2
 go_ret
 exact ⟨rfl, rfl⟩
theorem own_made (w : World) : Own (w.alloc (.cells #[] 5)) (.slice (some ⟨w.heap.size, 0, none⟩) 0 0) [] := ⟨isBytes_nil, World.ownsRow_made w #[] 0 (Nat.zero_le _) (Nat.zero_le _) rfl⟩
set_option maxRecDepth 100000 in
set_option maxHeartbeats 400000 in
theorem clone_some (ad : Addr) (cap : Nat) (xs : List Int) (w : World) (hl : xs.length <= 140737488355328) (hr : RowAt w (some ad) xs) :
  Calls Tryz.prog 64 #[.slice (some ad) xs.length cap] w fun e w' => ∃ g c, e = .returned (.slice (some ⟨g, 0, none⟩) xs.length c) /\ Own w' (.slice (some ⟨g, 0, none⟩) xs.length c) xs /\ w.heap.size <= g /\ Below w.heap.size w w' := by
 have hne := fun wx a n c => Lib.run_eql_slice_nil (P := Tryz.prog) (w := wx) 46 5 a n c 0 0 Tryz.underlying46
 go_enter Tryz.func64, Tryz.ntmps64
 go_wp2_with (at_builtin; refine wpList_own_append rfl _ _ rfl _ [] rfl (own_made w) (some ad) cap xs rfl (hr.later (below_alloc _ _)) (fun h => by cases h) (by simp; omega) ?_)
 intro v' w1 hown hgrow hnil
 go_wp2
 go_ret
 have hsz : w.heap.size <= w1.heap.size := by have := hgrow.grown.size; simp at this; omega
 have hbel : Below w.heap.size w w1 := (below_alloc w _).trans (grew_below hgrow (by simp) (fun k hk => by simp [Value.ownBlock] at hk; omega))
 rcases hown.2.2 with ⟨rfl, _⟩ | ⟨g, cap, cur, rfl, _⟩
 ·simp at hnil
 ·refine ⟨g, cap, by simp, by simpa using hown, ?_, hbel⟩
  rcases hgrow.moved with e | ⟨k, e, hk⟩
  ·simp [Value.ownBlock] at e; omega
  ·simp [Value.ownBlock] at e hk; omega
structure WInv (w : World) (p q : Nat) (v : Value) (xs : List Int) (err : Int) : Prop where
 hp : w.heap[p]? = some (.cells #[.pointer (some ⟨q, 0, none⟩)] 112 (0, 0))
 hq : w.heap[q]? = some (.cells #[v, .int .i64 err] 110 (0, 0))
 own : Own w v xs
structure WGrew (w w' : World) (q : Nat) (v v' : Value) : Prop where
 os : w'.os = w.os
 tape : w'.tape = w.tape
 output : w'.output = w.output
 size : w.heap.size <= w'.heap.size
 block : ∀ k, k < w.heap.size -> k ≠ q -> some k ≠ v.ownBlock -> w'.heap[k]? = w.heap[k]?
 moved : v'.ownBlock = v.ownBlock ∨ ∃ k, v'.ownBlock = some k /\ w.heap.size <= k
theorem WGrew.ofDrew {w w' : World} {q : Nat} {v v' : Value} (h : WGrew w.drew w' q v v') : WGrew w w' q v v' := ⟨h.os, h.tape, h.output, h.size, h.block, h.moved⟩
theorem WInv.cellp {w : World} {p q : Nat} {v : Value} {xs : List Int} {err : Int} (h : WInv w p q v xs err) : w.cell? ⟨p, 0, none⟩ = some (.pointer (some ⟨q, 0, none⟩)) := by simp [World.cell?, h.hp]
theorem WInv.cell0 {w : World} {p q : Nat} {v : Value} {xs : List Int} {err : Int} (h : WInv w p q v xs err) : w.cell? ⟨q, 0, none⟩ = some v := by simp [World.cell?, h.hq]
theorem WInv.cell1 {w : World} {p q : Nat} {v : Value} {xs : List Int} {err : Int} (h : WInv w p q v xs err) : w.cell? ⟨q, 1, none⟩ = some (.int .i64 err) := by simp [World.cell?, h.hq]
theorem WInv.free0 {w : World} {p q : Nat} {v : Value} {xs : List Int} {err : Int} (h : WInv w p q v xs err) : w.frozen? ⟨q, 0, none⟩ = false := by simp [World.frozen?, h.hq]
theorem heap_set {w : World} {b : Nat} {C : Array Value} {t : TypeId} (h : w.heap[b]? = some (.cells C t (0, 0))) (o : Nat) (u : Value) : (w.setCell ⟨b, o, none⟩ u).heap[b]? = some (.cells (C.setIfInBounds o u) t (0, 0)) := by
 have hlt := lt_of_block h
 have h' : w.heap[b] = .cells C t (0, 0) := by simpa [Array.getElem?_eq_getElem hlt] using h
 show (w.heap.modify b _)[b]? = _
 rw [Array.getElem?_eq_getElem (by simpa using hlt), Array.getElem_modify_self, h']
 rfl
theorem own_ne {w : World} {v : Value} {xs : List Int} (h : Own w v xs) {b : Nat} {C : Array Value} {t : TypeId} (hb : w.heap[b]? = some (.cells C t (0, 0))) (ht : t ≠ 5) : some b ≠ v.ownBlock := by
 intro e
 rcases h.2.2 with ⟨rfl, _⟩ | ⟨g, cap, cur, rfl, _, hg, _⟩
 ·simp [Value.ownBlock] at e
 ·simp [Value.ownBlock] at e
  subst e
  rw [hb] at hg
  simp at hg
  exact ht hg.2
theorem WInv.nep {w : World} {p q : Nat} {v : Value} {xs : List Int} {err : Int} (h : WInv w p q v xs err) : some p ≠ v.ownBlock := own_ne h.own h.hp (by decide)
theorem WInv.neq {w : World} {p q : Nat} {v : Value} {xs : List Int} {err : Int} (h : WInv w p q v xs err) : some q ≠ v.ownBlock := own_ne h.own h.hq (by decide)
theorem WInv.pq {w : World} {p q : Nat} {v : Value} {xs : List Int} {err : Int} (h : WInv w p q v xs err) : p ≠ q := by
 intro e; have h1 := h.hp; rw [e, h.hq] at h1; simp at h1
theorem WInv.still {w w' : World} {p q : Nat} {v : Value} {xs : List Int} {err : Int} (h : WInv w p q v xs err) (hs : ∀ k : Nat, w'.heap[k]? = w.heap[k]?) : WInv w' p q v xs err :=
 ⟨(hs p).trans h.hp, (hs q).trans h.hq, h.own.kept fun k _ => hs k⟩
theorem WInv.grown {w w1 : World} {p q : Nat} {v v1 : Value} {xs : List Int} {err : Int} (h : WInv w p q v xs err) (hg : Grew w w1 v v1) : w1.heap[p]? = some (.cells #[.pointer (some ⟨q, 0, none⟩)] 112 (0, 0)) /\ w1.heap[q]? = some (.cells #[v, .int .i64 err] 110 (0, 0)) :=
 ⟨(hg.grown.block p (lt_of_block h.hp) h.nep).trans h.hp, (hg.grown.block q (lt_of_block h.hq) h.neq).trans h.hq⟩
theorem WInv.stored {w w1 : World} {p q : Nat} {v v1 : Value} {xs ys : List Int} {err : Int} (h : WInv w p q v xs err) (hg : Grew w w1 v v1) (ho : Own w1 v1 ys) : WInv (w1.setCell ⟨q, 0, none⟩ v1) p q v1 ys err /\ WGrew w (w1.setCell ⟨q, 0, none⟩ v1) q v v1 := by
 obtain ⟨a, b⟩ := h.grown hg
 refine ⟨⟨?_, ?_, ?_⟩, ⟨hg.grown.os, hg.grown.tape, hg.grown.output, by have := hg.grown.size; simpa [World.setCell] using this, fun k hk hq hv => ?_, hg.moved⟩⟩
 ·rw [Below.heap_setCell _ _ _ _ h.pq]; exact a
 ·rw [heap_set b]; rfl
 ·refine ho.kept fun k hk => Below.heap_setCell _ _ _ _ ?_
  intro e
  exact own_ne ho b (by decide) (by rw [hk, e])
 ·rw [Below.heap_setCell _ _ _ _ hq]; exact hg.grown.block k hk hv
theorem newwriter_any (w : World) : Calls Tryz.prog 28 #[] w fun e w' => e = .returned (.pointer (some ⟨w.heap.size + 1, 0, none⟩)) /\ w' = (w.alloc (.cells #[.slice none 0 0, .int .i64 0] 110)).alloc (.cells #[.pointer (some ⟨w.heap.size, 0, none⟩)] 112) := by
 go_enter Tryz.func28, Tryz.ntmps28
 go_wp2
 go_ret
 exact ⟨rfl, rfl⟩
theorem made_any {w : World} {p q : Nat} {v : Value} {xs : List Int} {err : Int} (h : WInv w p q v xs err) : Calls Tryz.prog 63 #[.pointer (some ⟨p, 0, none⟩)] w fun e w' => e = .returned (.bool true) /\ w = w' := by
 have hp := h.cellp
 go_enter Tryz.func63, Tryz.ntmps63
 go_wp2
 go_ret
 exact ⟨rfl, rfl⟩
theorem ready_any {w : World} {p q : Nat} {v : Value} {xs : List Int} {err : Int} (h : WInv w p q v xs err) : Calls Tryz.prog 100 #[.pointer (some ⟨p, 0, none⟩)] w fun e w' => e = .returned (.bool (err == 0)) /\ w = w' := by
 have hp := h.cellp
 have h1 := h.cell1
 go_enter Tryz.func100, Tryz.ntmps100
 go_wp2_with (go_at_call 63; refine (made_any h).mono ?_; rintro e w' ⟨rfl, rfl⟩)
 go_ret
 exact ⟨rfl, rfl⟩
set_option maxRecDepth 100000 in
set_option maxHeartbeats 1000000 in
theorem number_any {w : World} {p q : Nat} {v : Value} {xs : List Int} (n : Int) (h : WInv w p q v xs 0) (h0 : 0 <= n) (h1 : n <= 18446744073709551615) (hl : xs.length <= 140737488355300) :
  Calls Tryz.prog 98 #[.pointer (some ⟨p, 0, none⟩), .int .u64 n] w fun e w' => e = .returned (.tuple #[]) /\ ∃ v', WInv w' p q v' (xs ++ enc 10 n) 0 /\ WGrew w w' q v v' := by
 have hp := h.cellp
 have hq0 := h.cell0
 have hq1 := h.cell1
 have hf0 := h.free0
 go_enter Tryz.func98, Tryz.ntmps98
 go_wp2_with (go_at_call 100; refine (ready_any h).mono ?_; rintro e w' ⟨rfl, rfl⟩)
 have after : ∀ w1 v1, Grew w.drew w1 v v1 -> w1.cell? ⟨p, 0, none⟩ = some (.pointer (some ⟨q, 0, none⟩)) /\ (w1.cell? ⟨q, 0, none⟩ = some v /\ w1.frozen? ⟨q, 0, none⟩ = false) := by
  intro w1 v1 hg
  obtain ⟨a, b⟩ := (h.still (w' := w.drew) (fun _ => rfl)).grown hg
  exact ⟨by simp [World.cell?, a], by simp [World.cell?, b], by simp [World.frozen?, b]⟩
 have AF : Hid _ := after
 clear after
 go_region_with (go_at_call 66; refine (appnum_any v xs n _ h0 h1 hl h.own.drew).mono ?_; rintro e w1 ⟨g1, N1, c1, rfl, ho1, hg1⟩; obtain ⟨hp1, hq1, hf1⟩ := AF.out w1 _ hg1)
 all_goals go_end0
 all_goals
  obtain ⟨r1, r2⟩ := (h.still (w' := w.drew) (fun _ => rfl)).stored hg1 ho1
  exact ⟨rfl, _, r1, r2.ofDrew⟩
set_option maxRecDepth 100000 in
set_option maxHeartbeats 1000000 in
theorem wbytes_any {w : World} {p q : Nat} {v : Value} {xs : List Int} (h : WInv w p q v xs 0) (hl : xs.length <= 140737488355328) :
  Calls Tryz.prog 33 #[.pointer (some ⟨p, 0, none⟩)] w fun e w' => ∃ ao c, e = .returned (.tuple #[.slice ao xs.length c, .int .i64 0]) /\ Own w' (.slice ao xs.length c) xs /\ (∀ k, (Value.slice ao xs.length c).ownBlock = some k -> w.heap.size <= k) /\ Below w.heap.size w w' := by
 have hp := h.cellp
 have hq0 := h.cell0
 have hq1 := h.cell1
 obtain ⟨ao, c, rfl, hnil, hr⟩ := h.own.row
 match ao with
 | none =>
  obtain ⟨rfl, rfl⟩ := hnil rfl
  go_enter Tryz.func33, Tryz.ntmps33
  go_wp2_with (first | (go_at_call 63; refine (made_any h).mono ?_; rintro e w' ⟨rfl, rfl⟩) | (go_at_call 64; refine (clone_nil w).mono ?_; rintro e w' ⟨rfl, rfl⟩))
  go_ret2
  exact ⟨none, 0, rfl, Own.nil _, fun k hk => by simp [Value.ownBlock] at hk, Below.refl _ _⟩
 | some ad =>
  go_enter Tryz.func33, Tryz.ntmps33
  go_wp2_with (first | (go_at_call 63; refine (made_any h).mono ?_; rintro e w' ⟨rfl, rfl⟩) | (go_at_call 64; refine (clone_some ad c xs w hl hr).mono ?_; rintro e w1 ⟨g, c1, rfl, ho1, hg1, hb1⟩))
  go_ret2
  exact ⟨_, c1, rfl, ho1, fun k hk => by simp [Value.ownBlock] at hk; omega, hb1⟩
def strBytes (s : ByteArray) : List Int := s.data.toList.map fun b => (b.toNat : Int)
theorem strBytes_len (s : ByteArray) : (strBytes s).length = s.size := by
 unfold strBytes
 rw [List.length_map, Array.length_toList]
 rfl
theorem strBytes_bytes (s : ByteArray) : isBytes (strBytes s) := by
 intro x hx
 obtain ⟨b, _, rfl⟩ := List.mem_map.1 hx
 have := b.toNat_lt
 omega
theorem vals_str (s : ByteArray) : vals (strBytes s) = byteCells s := by simp [vals, strBytes, byteCells, List.map_map, Function.comp_def]
theorem setCells_row (g : Nat) (t : TypeId) : ∀ (vs : List Value) (o : Nat) (w : World) (cur : Array Value), w.heap[g]? = some (.cells cur t (0, 0)) -> o + vs.length <= cur.size ->
  ∃ cur' : Array Value, (w.setCells g o vs).heap[g]? = some (.cells cur' t (0, 0)) /\ cur'.size = cur.size /\ cur'.toList.take (o + vs.length) = cur.toList.take o ++ vs := by
 intro vs
 induction vs with
 | nil => intro o w cur h _; exact ⟨cur, h, rfl, by simp⟩
 | cons v r ih =>
  intro o w cur h hfit
  simp only [List.length_cons] at hfit
  obtain ⟨cur', h1, h2, h3⟩ := ih (o + 1) (w.setCell ⟨g, o, none⟩ v) (cur.setIfInBounds o v) (heap_set h o v) (by simpa using by omega)
  refine ⟨cur', h1, by simpa using h2, ?_⟩
  rw [List.length_cons, show o + (r.length + 1) = o + 1 + r.length by omega, h3]
  have hlt : o < cur.toList.length := by simpa using by omega
  rw [Array.toList_setIfInBounds, List.take_succ_eq_append_getElem (by simpa using hlt)]
  have e : List.take o (cur.toList.set o v) = List.take o cur.toList := by
   apply List.ext_getElem?
   intro i
   simp only [List.getElem?_take, List.getElem?_set]
   by_cases hi : i < o
   ·rw [if_pos hi, if_pos hi, if_neg (by omega)]
   ·rw [if_neg hi, if_neg hi]
  rw [e]
  simp
theorem setCells_rest (g : Nat) : ∀ (vs : List Value) (o : Nat) (w : World), (w.setCells g o vs).os = w.os /\ (w.setCells g o vs).tape = w.tape /\ (w.setCells g o vs).output = w.output /\ (w.setCells g o vs).heap.size = w.heap.size /\ ∀ k, k ≠ g -> (w.setCells g o vs).heap[k]? = w.heap[k]? := by
 intro vs
 induction vs with
 | nil => intro o w; exact ⟨rfl, rfl, rfl, rfl, fun _ _ => rfl⟩
 | cons v r ih =>
  intro o w
  obtain ⟨a, b, c, d, e⟩ := ih (o + 1) (w.setCell ⟨g, o, none⟩ v)
  exact ⟨a, b, c, d.trans (by simp [World.setCell]), fun k hk => (e k hk).trans (Below.heap_setCell _ _ _ _ hk)⟩
theorem run_own_append_str (w : World) (ty : TypeId) (v : Value) (xs : List Int) (h : Own w v xs) (s : ByteArray) (hlen : xs.length + s.size <= 140737488355328) :
  ∃ v' w', (Builtin.append_ #[46, 9] ty #[v, .string s]).run Tryz.prog w = .ok v' w' /\ Own w' v' (xs ++ strBytes s) /\ Grew w w' v v' := by
 obtain ⟨i0, hi, hz0, hz1, hz2⟩ := info_parts info5
 have hby : isBytes (xs ++ strBytes s) := isBytes_append h.1 (strBytes_bytes s)
 have hsl := strBytes_len s
 have hsrc : Src Tryz.prog i0.size 9 (.string s) s.size (byteCells s) w := by rw [hz1]; exact Src.ofString w Tryz.underlying9 s
 have grow : ∀ (base : Option Addr) (cap : Nat), v = .slice base xs.length cap -> cap < xs.length + s.size -> (Builtin.firstCells i0.size xs.length (.slice base xs.length cap)).run Tryz.prog w.drew = .ok (vals xs).toArray w.drew ->
   ∃ v' w', (Builtin.append_ #[46, 9] ty #[v, .string s]).run Tryz.prog w = .ok v' w' /\ Own w' v' (xs ++ strBytes s) /\ Grew w w' v v' := by
  rintro base cap rfl hg hold
  have hrun := run_append_grow_src (P := Tryz.prog) w 46 9 ty 5 i0 (.int .u8 0) Tryz.underlying46 hi hz0 base xs.length cap (vals xs) hold (.string s) s.size (byteCells s) hsrc hg (by omega) (growslice_fits hg (by rw [hz2]; omega))
  have hge := grownCap_ge w (xs.length + s.size) cap 5
  have hcm := grownCap_le_maxLen w (xs.length + s.size) cap 5 (by unfold maxLen; omega)
  refine ⟨_, _, hrun, ⟨hby, by simp, .inr ⟨w.heap.size, _, _, by rw [List.length_append, hsl], Nat.zero_le _, heap_alloc_new w.drew _, by rw [List.length_append, hsl]; exact hge, hcm, ?_, ?_⟩⟩, ⟨⟨rfl, rfl, rfl, by simp, fun k hk _ => Below.heap_alloc w.drew _ k hk⟩, .inr ⟨w.heap.size, rfl, Nat.le_refl _⟩⟩⟩
  ·rw [Array.size_append, List.size_toArray, List.length_append, List.length_map, byteCells_length, size_zeroCells]
   simp [Value.cells]
   omega
  ·have e : ((vals xs ++ byteCells s).toArray ++ Builtin.zeroCells (Value.cells (.int .u8 0)) (grownCap w (xs.length + s.size) cap 5 - (xs.length + s.size))).toList = (vals xs ++ byteCells s) ++ (Builtin.zeroCells (Value.cells (.int .u8 0)) (grownCap w (xs.length + s.size) cap 5 - (xs.length + s.size))).toList := by simp
   rw [Nat.mul_one]
   first
    | (rw [e, List.take_left' (by simp [byteCells_length, hsl])]; simp [vals_str])
    | (simp only [Array.toList_append, List.append_assoc]; rw [<- List.append_assoc, List.take_left' (by simp [byteCells_length, hsl])]; simp [vals_str])
 rcases h.2.2 with ⟨rfl, hn0⟩ | ⟨g, cap, cur, rfl, hbg, hg, hnc, hcm, hcs, htake⟩
 ·obtain rfl : xs = [] := List.eq_nil_of_length_eq_zero hn0
  by_cases hm : s.size = 0
  ·have hse : strBytes s = [] := List.eq_nil_of_length_eq_zero (by rw [hsl]; exact hm)
   refine ⟨.slice none 0 0, w, ?_, by rw [hse]; exact Own.nil w, Grew.refl _ _⟩
   have hcells := hsrc.cells
   rw [hm] at hcells
   rcases hsrc.kind with ⟨e', hk⟩ | hk
   ·simp [Tryz.underlying9] at hk
   ·simp [Builtin.append_, run_underlying Tryz.underlying46, run_underlying hk, sizeOf, typeInfo, hi, Builtin.lenOf, hm, hcells]
  ·exact grow none 0 rfl (by simp; omega) (by simp [Builtin.firstCells])
 ·by_cases hroom : xs.length + s.size <= cap
  ·have hsz : cur.size = cap := by simpa using hcs
   have hcell : ∀ j, j < cap -> w.cell? ⟨g, j, none⟩ = cur[j]? := fun j _ => by simp [World.cell?, hg]
   have hrun := run_append_room_src (P := Tryz.prog) w 46 9 ty 5 i0 Tryz.underlying46 hi g 0 xs.length cap (.string s) s.size (byteCells s) hsrc hroom
    (fun j hj => by
     rw [byteCells_length] at hj
     have : w.cell? ⟨g, 0 + xs.length * i0.size + j, none⟩ = cur[0 + xs.length * i0.size + j]? := by simp [World.cell?, hg]
     rw [this, hz1]
     simp; omega)
    (fun j hj => by simp [World.frozen?, hg])
   obtain ⟨cur', h1, h2, h3⟩ := setCells_row g 5 (byteCells s) (0 + xs.length * i0.size) w cur hg (by rw [byteCells_length, hz1]; omega)
   obtain ⟨r1, r2, r3, r4, r5⟩ := setCells_rest g (byteCells s) (0 + xs.length * i0.size) w
   refine ⟨_, _, hrun, ⟨hby, by simp, .inr ⟨g, cap, cur', by rw [List.length_append, hsl], Nat.zero_le _, h1, by rw [List.length_append, hsl]; exact hroom, hcm, by rw [h2, hsz]; simp, ?_⟩⟩, ⟨⟨r1, r2, r3, by rw [r4]; exact Nat.le_refl _, fun k hk hne => r5 k (fun e => hne (by simp [Value.ownBlock, e]))⟩, .inl rfl⟩⟩
   rw [hz1, byteCells_length] at h3
   simp only [Nat.mul_one, Nat.zero_add] at h3 htake ⊢
   rw [List.length_append, hsl, h3, htake]
   simp [vals_str]
  ·refine grow (some ⟨g, 0, none⟩) cap rfl (by omega) ?_
   have hc2 := h.2.cells (g := g) rfl
   rw [hz1]
   have := run_firstCells_some (P := Tryz.prog) w.drew 1 xs.length ⟨g, 0, none⟩ xs.length cap (vals xs) (by simp) (by simpa using hc2)
   simpa using this
theorem step_own_append_str {ops : Array Oper} {o : Oper} {a : Act} {w : World} {K : Act -> World -> Prop} {Q : Exit -> Act -> World -> Prop} {E : Prop}
  (hg : o.guard = none) (s x : Operand) (hop : o.op = Op.call { callee := Callee.builtin Builtin.append, args := #[s, x], argTypes := #[46, 9] })
  (v : Value) (xs : List Int) (hs : a.eval s = v) (h : Own w v xs) (str : ByteArray) (hx : a.eval x = .string str) (hlen : xs.length + str.size <= 140737488355328)
  (hK : ∀ v' w', Own w' v' (xs ++ strBytes str) -> Grew w w' v v' -> K (a.put o.dst v') w') :
  if Region.wanted o (yielded ops a.tmps) = true then Oper.wp Tryz.prog o a w K Q else E := by
 have hw : Region.wanted o (yielded ops a.tmps) = true := by simp [Region.wanted, hg]
 rw [if_pos hw]
 obtain ⟨v', w', hrun, r1, r2⟩ := run_own_append_str w o.type v xs h str hlen
 unfold Oper.wp
 simp [execOp, hop, resolve, invoke, builtin, hs, hx, hrun, Result.andThen]
 exact hK v' w' r1 r2
def Magic (w : World) : Prop := w.cell? ⟨0, 0, none⟩ = some (.int .u8 103) /\ w.cell? ⟨0, 1, none⟩ = some (.int .u8 116) /\ w.cell? ⟨0, 2, none⟩ = some (.int .u8 114)
theorem Magic.lt {w : World} (h : Magic w) : 0 < w.heap.size := World.block_lt_of_cell? w _ h.1
theorem Magic.later {w w' : World} {B : Nat} (h : Magic w) (hb : Below B w w') (hB : 0 < B) : Magic w' := by
 obtain ⟨a, b, c⟩ := h
 exact ⟨(hb.cell (p := ⟨0, 0, none⟩) hB).trans a, (hb.cell (p := ⟨0, 1, none⟩) hB).trans b, (hb.cell (p := ⟨0, 2, none⟩) hB).trans c⟩
set_option maxHeartbeats 400000 in
theorem head_any (k : Int) (w : World) (hm : Magic w) :
  Calls Tryz.prog 65 #[.int .u8 k] w fun e w' => e = .returned (.agg #[.int .u8 103, .int .u8 116, .int .u8 114, .int .u8 k]) /\ Below w.heap.size w w' := by
 have hz := hm.lt
 obtain ⟨h0, h1, h2⟩ := hm
 go_enter Tryz.func65, Tryz.ntmps65
 have i0 : ∀ w, (Instr.index 164 (.agg #[.int .u8 103, .int .u8 116, .int .u8 114]) (.int .i64 0)).run Tryz.prog w = .ok (.int .u8 103) w := fun _ => by kernel_rfl
 have i1 : ∀ w, (Instr.index 164 (.agg #[.int .u8 103, .int .u8 116, .int .u8 114]) (.int .i64 1)).run Tryz.prog w = .ok (.int .u8 116) w := fun _ => by kernel_rfl
 have i2 : ∀ w, (Instr.index 164 (.agg #[.int .u8 103, .int .u8 116, .int .u8 114]) (.int .i64 2)).run Tryz.prog w = .ok (.int .u8 114) w := fun _ => by kernel_rfl
 go_wp2
 go_rounds 4
 go_returns
 exact ⟨rfl, by go_grown⟩
def chk : List Int -> Nat -> List Int -> Int × Int
 | [], _, _ => (0, 0)
 | _ :: _, i, [] => (11, i)
 | h :: t, i, x :: r => if x = h then chk t (i + 1) r else (14, i)
def headBytes (k : Int) : List Int := [103, 116, 114, k]
def checkHead (k : Int) (xs : List Int) : Int × Int := chk (headBytes k) 0 xs
theorem index0 (k : Int) (w : World) : (Instr.index 116 (.agg #[.int .u8 103, .int .u8 116, .int .u8 114, .int .u8 k]) (.int .i64 0)).run Tryz.prog w = .ok (.int .u8 103) w := by kernel_rfl
theorem index1 (k : Int) (w : World) : (Instr.index 116 (.agg #[.int .u8 103, .int .u8 116, .int .u8 114, .int .u8 k]) (.int .i64 1)).run Tryz.prog w = .ok (.int .u8 116) w := by kernel_rfl
theorem index2 (k : Int) (w : World) : (Instr.index 116 (.agg #[.int .u8 103, .int .u8 116, .int .u8 114, .int .u8 k]) (.int .i64 2)).run Tryz.prog w = .ok (.int .u8 114) w := by kernel_rfl
theorem index3 (k : Int) (w : World) : (Instr.index 116 (.agg #[.int .u8 103, .int .u8 116, .int .u8 114, .int .u8 k]) (.int .i64 3)).run Tryz.prog w = .ok (.int .u8 k) w := by kernel_rfl
set_option maxRecDepth 100000 in
set_option maxHeartbeats 1000000 in
theorem checkhead_any (k : Int) (ao : Option Addr) (cap : Nat) (xs : List Int) (w : World) (hk0 : 0 <= k) (hk1 : k <= 255) (hl : xs.length <= 140737488355328) (hm : Magic w) (hr : RowAt w ao xs) :
  Calls Tryz.prog 69 #[.int .u8 k, .slice ao xs.length cap] w fun e w' => e = .returned (.tuple #[.int .i64 (checkHead k xs).1, .int .i64 (checkHead k xs).2]) /\ Below w.heap.size w w' := by
 have ix : ∀ j : Nat, j < 4 -> ∀ w, (Instr.index 116 (.agg #[.int .u8 103, .int .u8 116, .int .u8 114, .int .u8 k]) (.int .i64 j)).run Tryz.prog w = .ok (.int .u8 ((headBytes k).getD j 0)) w := by
  intro j hj w
  match j, hj with
  | 0, _ => exact index0 k w
  | 1, _ => exact index1 k w
  | 2, _ => exact index2 k w
  | 3, _ => exact index3 k w
 go_enter Tryz.func69, Tryz.ntmps69
 go_wp2_with (go_at_call 65; refine (head_any k w hm).mono ?_; rintro e w1 ⟨rfl, hb1⟩)
 go_loop [10] (fun i => ∃ j : Nat, j <= 4 /\ j <= xs.length /\ i = .int .i64 j /\ checkHead k xs = chk ((headBytes k).drop j) j (xs.drop j)) (fun i => 4 - (intOf i).toNat)
 case atStart => exact ⟨0, by omega, by omega, rfl, rfl⟩
 case round =>
  obtain ⟨j, hj4, hjl, rfl, hp⟩ := hrel
  have HP : Hid (checkHead k xs = chk ((headBytes k).drop j) j (xs.drop j)) := hp
  clear hp
  by_cases hj : j < 4
  ·have hix := ix j hj
   clear ix
   have hhb : 0 <= (headBytes k).getD j 0 /\ (headBytes k).getD j 0 <= 255 := by
    match j, hj with
    | 0, _ => exact ⟨by simp [headBytes], by simp [headBytes]⟩
    | 1, _ => exact ⟨by simp [headBytes], by simp [headBytes]⟩
    | 2, _ => exact ⟨by simp [headBytes], by simp [headBytes]⟩
    | 3, _ => exact ⟨hk0, hk1⟩
   have HH : Hid ((headBytes k).drop j = (headBytes k).getD j 0 :: (headBytes k).drop (j + 1)) := by
    match j, hj with
    | 0, _ => rfl
    | 1, _ => rfl
    | 2, _ => rfl
    | 3, _ => rfl
   generalize (headBytes k).getD j 0 = h at *
   by_cases hlt : j < xs.length
   ·obtain ⟨b, off, rfl, hc⟩ := hr.2 (by intro h; subst h; simp at hlt)
    have hck : w1.cell? ⟨b, off + j, none⟩ = some (.int .u8 (xs.getD j 0)) := (hb1.cell (p := ⟨b, off + j, none⟩) (World.block_lt_of_cell? w _ (hc j hlt))).trans (hc j hlt)
    have hb := hr.1.at j
    have HD : Hid (xs.drop j = xs.getD j 0 :: xs.drop (j + 1)) := by
     show _ = _
     rw [List.drop_eq_getElem_cons hlt]; simp [List.getD, hlt]
    have hne : ((j : Int) == (xs.length : Int)) = false := by simp; omega
    clear hc hr
    generalize xs.getD j 0 = c at *
    by_cases he : c = h
    ·have het : (c != h) = false := by simp [he]
     have HE : Hid (c = h) := he
     clear he
     go_wp2
     go_round
     case rel => exact ⟨j + 1, by omega, by omega, by go_num, by rw [HP.out, HH.out, HD.out, chk, if_pos HE.out]⟩
     case measure => simp [intOf]; omega
    ·have het : (c != h) = true := by simp [he]
     have HE : Hid (c ≠ h) := he
     clear he
     go_wp2
     go_ret2
     exact ⟨by rw [HP.out, HH.out, HD.out, chk, if_neg HE.out]; rfl, hb1⟩
   ·have hee : ((j : Int) == (xs.length : Int)) = true := by simp; omega
    have HD : Hid (xs.drop j = []) := List.drop_eq_nil_of_le (by omega)
    clear hr
    go_wp2
    go_ret2
    exact ⟨by rw [HP.out, HH.out, HD.out, chk]; rfl, hb1⟩
  ·have e4 : j = 4 := by omega
   subst e4
   go_wp2
   go_ret2
   exact ⟨by rw [HP.out]; rfl, hb1⟩
def sumBytes (s : Int) : List Int := [s / 16777216, s / 65536 % 256, s / 256 % 256, s % 256]
theorem sumBytes_bytes (s : Int) (h0 : 0 <= s) (h1 : s <= 4294967295) : isBytes (sumBytes s) := by intro x hx; simp [sumBytes] at hx; omega
set_option maxRecDepth 100000 in
set_option maxHeartbeats 400000 in
theorem appsum_any (v : Value) (ys : List Int) (s : Int) (w : World) (h0 : 0 <= s) (h1 : s <= 4294967295) (hl : ys.length <= 140737488355300) (hown : Own w v ys) :
  Calls Tryz.prog 67 #[v, .int .u32 s] w fun e w' => ∃ g N c, e = .returned (.slice (some ⟨g, 0, none⟩) N c) /\ Own w' (.slice (some ⟨g, 0, none⟩) N c) (ys ++ sumBytes s) /\ Grew w w' v (.slice (some ⟨g, 0, none⟩) N c) := by
 go_enter Tryz.func67, Tryz.ntmps67
 go_wp2_with (at_builtin; refine wpList_own_append rfl _ _ rfl _ _ rfl (hown.alloc _) (some ⟨w.heap.size, 0, none⟩) 4 (sumBytes s) rfl ?hr no_nil ?hl ?_)
 case hr => exact rowAt_new _ _ _ _ (sumBytes_bytes s h0 h1)
 case hl => simp [sumBytes]; omega
 intro v1 w1 ho1 hg1 hn1
 go_wp2
 go_ret
 obtain ⟨g, N, c, rfl⟩ := own_shape ho1 (fun h => by first | exact hn1 h | (have := hn1.1 h; simp [sumBytes] at this))
 exact ⟨g, N, c, rfl, ho1, (((Grew.refl _ _).alloc _).trans hg1)⟩
def lead (k : Int) (xs : List Int) : List Int := headBytes k ++ enc 10 xs.length ++ xs
def frame (k : Int) (xs : List Int) : List Int := lead k xs ++ sumBytes (adler (lead k xs))
theorem headBytes_bytes (k : Int) (h0 : 0 <= k) (h1 : k <= 255) : isBytes (headBytes k) := by intro x hx; simp [headBytes] at hx; omega
theorem seal_long (k : Int) (ao : Option Addr) (cap n : Nat) (w : World) (hl : n <= 140737488355328) (h : 16777216 < n) :
  Calls Tryz.prog 34 #[.int .u8 k, .slice ao n cap] w fun e w' => e = .returned (.tuple #[.slice none 0 0, .int .i64 5]) /\ w = w' := by
 go_enter Tryz.func34, Tryz.ntmps34
 go_wp2
 go_ret2
 exact ⟨rfl, rfl⟩
theorem grew_new {w w1 w2 : World} {v v' : Value} (hb : Below w.heap.size w w1) (hv : ∀ k, v.ownBlock = some k -> w.heap.size <= k) (hg : Grew w1 w2 v v') : Below w.heap.size w w2 /\ ∀ k, v'.ownBlock = some k -> w.heap.size <= k := by
 refine ⟨hb.trans (grew_below hg hb.size hv), fun k hk => ?_⟩
 rcases hg.moved with e | ⟨q, e, hq⟩
 ·exact hv k (e ▸ hk)
 ·rw [hk] at e; have := Option.some.inj e; have := hb.size; omega
set_option maxRecDepth 100000 in
set_option maxHeartbeats 400000 in
theorem seal_any (k : Int) (ao : Option Addr) (cap : Nat) (xs : List Int) (w : World) (hk0 : 0 <= k) (hk1 : k <= 255) (hl : xs.length <= 16777216) (hm : Magic w) (hr : RowAt w ao xs) (hn : ao = none -> cap = 0) :
  Calls Tryz.prog 34 #[.int .u8 k, .slice ao xs.length cap] w fun e w' => ∃ g N c, e = .returned (.tuple #[.slice (some ⟨g, 0, none⟩) N c, .int .i64 0]) /\ Own w' (.slice (some ⟨g, 0, none⟩) N c) (frame k xs) /\ w.heap.size <= g /\ Below w.heap.size w w' := by
 obtain ⟨i0, hi, hz0, hz1, hz2⟩ := info_parts info5
 have ix : ∀ j : Nat, j < 4 -> ∀ w, (Instr.index 116 (.agg #[.int .u8 103, .int .u8 116, .int .u8 114, .int .u8 k]) (.int .i64 j)).run Tryz.prog w = .ok (.int .u8 ((headBytes k).getD j 0)) w := by
  intro j hj w
  match j, hj with
  | 0, _ => exact index0 k w
  | 1, _ => exact index1 k w
  | 2, _ => exact index2 k w
  | 3, _ => exact index3 k w
 have IX : Hid _ := ix
 have HHB := headBytes_bytes k hk0 hk1
 clear ix
 go_enter Tryz.func34, Tryz.ntmps34
 go_wp2_with (at_make; refine wpList_make_own _ rfl _ _ 46 rfl 0 5 i0 (.int .u8 0) 1 Tryz.underlying46 hi hz0 hz1 _ _ _ (14 + xs.length + 4) rfl rfl ?b1 ?b2 ?b3 (Nat.zero_le _) ?_)
 case b1 => omega
 case b2 => rw [hz2]; omega
 case b3 => unfold maxLen; omega
 intro w0 hown0 hgrow0
 have hb0 : Below w.heap.size w w0 := (Below.refl _ _).grown hgrow0 (Nat.le_refl _) (fun k h => by cases h)
 have ho0 : Own w0 (.slice (some ⟨w.heap.size, 0, none⟩) 0 (14 + xs.length + 4)) [] := ⟨isBytes_nil, hown0⟩
 have hm0 := hm.later hb0 hm.lt
 clear hown0 hgrow0
 go_wp2_with (go_at_call 65; refine (head_any k w0 hm0).mono ?_; rintro e w1 ⟨rfl, hb1⟩)
 have hb1' : Below w.heap.size w w1 := hb0.trans (hb1.mono hb0.size)
 have ho1 : Own w1 (.slice (some ⟨w.heap.size, 0, none⟩) 0 (14 + xs.length + 4)) [] := ho0.kept fun k hk => hb1.block k (ho0.lt k hk)
 clear hb0 hb1 ho0
 go_loopw [6, 19] (fun s i wr => ∃ j : Nat, j <= 4 /\ i = .int .i64 j /\ Own wr s ((headBytes k).take j) /\ (∀ b, s.ownBlock = some b -> w.heap.size <= b) /\ Below w.heap.size w wr) (fun _ i _ => 4 - (intOf i).toNat)
 case atStart => exact ⟨0, by omega, rfl, ho1, fun b hb => by simp [Value.ownBlock] at hb; omega, hb1'⟩
 case round =>
  obtain ⟨j, hj4, rfl, ho, hv, hb⟩ := hrel
  by_cases hj : j < 4
  ·have hix := IX.out j hj
   have hhb := HHB.at j
   have HT : Hid ((headBytes k).take (j + 1) = (headBytes k).take j ++ [(headBytes k).getD j 0]) := take_snoc _ _ (by simpa [headBytes] using hj)
   have HL : Hid (((headBytes k).take j).length <= 4) := List.length_take_le' _ _
   clear hr
   generalize (headBytes k).getD j 0 = h at *
   generalize (headBytes k).take j = hs at *
   go_wp2_with (at_builtin; refine wpList_own_append rfl (.tmp 22) (.tmp 24) rfl _ hs rfl (ho.alloc _) (some ⟨wr.heap.size, 0, none⟩) 1 [h] rfl ?hr no_nil ?hl ?_)
   case hr => exact rowAt_one _ _ _ (by omega) (by omega)
   case hl => have := HL.out; (try simp); omega
   intro v1 w2 ho2 hg2 hn2
   go_wp2
   go_roundw
   case rel =>
    obtain ⟨q1, q2⟩ := grew_new hb hv (((Grew.refl _ _).alloc _).trans hg2)
    exact ⟨j + 1, by omega, by go_num, by rw [HT.out]; exact ho2, q2, q1⟩
   case measure => simp [intOf]; omega
  ·obtain rfl : j = 4 := by omega
   have ho' : Own wr u6 (headBytes k) := ho
   have hel := enc_len 10 (xs.length : Int)
   have H1 : Hid ((headBytes k).length <= 140737488355300) := by show _ <= _; simp [headBytes]
   have H2 : Hid ((headBytes k ++ enc 10 (xs.length : Int)).length + xs.length <= 140737488355328) := by show _ <= _; simp [headBytes]; omega
   have H3 : Hid ((lead k xs).length <= 140737488355300) := by show _ <= _; simp [lead, headBytes]; omega
   have H3' : Hid ((lead k xs).length <= 140737488355328) := Nat.le_trans H3.out (by decide)
   have HA := adler_bd (lead k xs)
   clear ho HHB IX hel
   go_wp2_with (first
    | (go_at_call 66; refine (appnum_any u6 (headBytes k) xs.length wr (by omega) (by omega) H1.out ho').mono ?_; rintro e w2 ⟨g2, N2, c2, rfl, ho2, hg2⟩; obtain ⟨q1, q2⟩ := grew_new hb hv hg2; have hr2 := hr.later q1)
    | (at_builtin; refine wpList_own_append rfl (.tmp 32) (.tmp 33) rfl _ _ rfl ho2 ao cap xs rfl hr2 hn H2.out ?_; intro v3 w3 ho3 hg3 hn3; change Own w3 v3 (lead k xs) at ho3; obtain ⟨g3, N3, c3, rfl⟩ := own_shape ho3 (fun h => not_nil (hn3.1 h)); obtain ⟨q3, q4⟩ := grew_new q1 q2 hg3; have OL : Hid _ := own_len ho3)
    | (go_at_call 68; refine (sum_at _ N3 c3 (lead k xs) w3 OL.out.1 H3'.out OL.out.2.1).mono ?_; rintro e w4 ⟨rfl, rfl⟩)
    | (go_at_call 67; refine (appsum_any _ (lead k xs) (adler (lead k xs)) w3 HA.1 HA.2 H3.out ho3).mono ?_; rintro e w5 ⟨g5, N5, c5, rfl, ho5, hg5⟩; obtain ⟨q5, q6⟩ := grew_new q3 q4 hg5))
   go_ret2
   exact ⟨g5, N5, c5, rfl, ho5, q6 _ rfl, q5⟩
def parseGo : Nat -> Int -> List Int -> Int × Int × Int
 | _, _, [] => (0, 0, 11)
 | i, acc, c :: r =>
  if i = 9 /\ c ≠ 1 then (0, 0, 13)
  else if 128 <= c then parseGo (i + 1) (acc + c % 128 * 128 ^ i) r
  else if c = 0 /\ 0 < i then (0, 0, 13)
  else (acc + c % 128 * 128 ^ i, i + 1, 0)
def parse (xs : List Int) : Int × Int × Int := parseGo 0 0 xs
theorem andNot128 (c : Int) (h0 : 0 <= c) (h1 : c < 256) : bits .andNot .u8 c 128 = c % 128 := by
 rw [u8_andNot c 128 h0 h1 (by decide) (by decide)]
 have h : ∀ m : Nat, m < 256 -> m &&& (255 - 128) = m % 128 := by decide +kernel
 have e := h c.toNat (by omega)
 show ((c.toNat &&& (255 - 128) : Nat) : Int) = _
 rw [e]; omega
theorem orAcc (i : Nat) (acc c : Int) (h0 : 0 <= acc) (h1 : acc < ((2 ^ i : Nat) : Int)) (hc0 : 0 <= c) (hlim : c * ((2 ^ i : Nat) : Int) < 18446744073709551616) (ha : acc < 18446744073709551616) :
  bits .or .u64 acc (c * ((2 ^ i : Nat) : Int)) = acc + c * ((2 ^ i : Nat) : Int) := by
 obtain ⟨a, rfl⟩ := Int.eq_ofNat_of_zero_le h0
 obtain ⟨d, rfl⟩ := Int.eq_ofNat_of_zero_le hc0
 have e : (d : Int) * ((2 ^ i : Nat) : Int) = ((d * 2 ^ i : Nat) : Int) := by simp
 rw [e] at hlim ⊢
 rw [u64_or_nat a (d * 2 ^ i) (by omega) (by omega), Nat.or_comm, nat_join i (d * 2 ^ i) a (by simp) (by omega)]
 simp [Int.add_comm]
theorem pow128 (k : Nat) : (128 : Int) ^ k = ((2 ^ (7 * k) : Nat) : Int) := by
 rw [Nat.pow_mul]; simp
theorem pow2_7 (k : Nat) : (2 : Int) ^ (7 * k) = 128 ^ k := by
 rw [Int.pow_mul]; rfl
theorem lim (k : Nat) (hk : k <= 9) (d : Int) (h1 : d < 128) (h9 : k = 9 -> d <= 1) : d * 128 ^ k < 18446744073709551616 := by
 have h : k = 0 ∨ k = 1 ∨ k = 2 ∨ k = 3 ∨ k = 4 ∨ k = 5 ∨ k = 6 ∨ k = 7 ∨ k = 8 ∨ k = 9 := by omega
 rcases h with rfl | rfl | rfl | rfl | rfl | rfl | rfl | rfl | rfl | rfl <;> simp at h9 ⊢ <;> omega
theorem pow_lim (k : Nat) (hk : k <= 9) : (128 : Int) ^ k <= 9223372036854775808 := by
 have h : k = 0 ∨ k = 1 ∨ k = 2 ∨ k = 3 ∨ k = 4 ∨ k = 5 ∨ k = 6 ∨ k = 7 ∨ k = 8 ∨ k = 9 := by omega
 rcases h with rfl | rfl | rfl | rfl | rfl | rfl | rfl | rfl | rfl | rfl <;> simp
theorem pow_pos' (k : Nat) : (0 : Int) < 128 ^ k := by rw [pow128]; exact Int.natCast_pos.2 (Nat.two_pow_pos _)
theorem accStep (k : Nat) (acc c : Int) (hk : k <= 9) (h0 : 0 <= acc) (h1 : acc < 128 ^ k) (hc0 : 0 <= c) (hc1 : c <= 255) (h9 : k = 9 -> c = 1) :
  bits .or .u64 acc (IntKind.u64.wrap (IntKind.u64.wrap (bits .andNot .u8 c 128) * 2 ^ (7 * k))) = acc + c % 128 * 128 ^ k := by
 have hl := lim k hk (c % 128) (by omega) (fun e => by have := h9 e; omega)
 have hp := pow_lim k hk
 have hq := pow_pos' k
 rw [andNot128 c hc0 (by omega), pow2_7, IntKind.wrap_u64, IntKind.wrap_u64, Int.emod_eq_of_lt (a := c % 128) (by omega) (by omega), Int.emod_eq_of_lt (Int.mul_nonneg (by omega) (by omega)) hl]
 rw [pow128] at h1 hl hp ⊢
 exact orAcc (7 * k) acc (c % 128) h0 h1 (by omega) hl (by omega)
theorem accNext (k : Nat) (acc c : Int) (h0 : 0 <= acc) (h1 : acc < 128 ^ k) (hc0 : 0 <= c) : 0 <= acc + c % 128 * 128 ^ k /\ acc + c % 128 * 128 ^ k < 128 ^ (k + 1) := by
 have hq := pow_pos' k
 have h2 : c % 128 * 128 ^ k <= 127 * 128 ^ k := Int.mul_le_mul_of_nonneg_right (by omega) (by omega)
 have h3 : 0 <= c % 128 * 128 ^ k := Int.mul_nonneg (by omega) (by omega)
 rw [Int.pow_succ]
 omega
set_option maxRecDepth 100000 in
set_option maxHeartbeats 1000000 in
theorem parsenum_any (ao : Option Addr) (cap : Nat) (xs : List Int) (w : World) (hl : xs.length <= 140737488355328) (hr : RowAt w ao xs) :
  Calls Tryz.prog 70 #[.slice ao xs.length cap] w fun e w' => e = .returned (.tuple #[.int .u64 (parse xs).1, .int .i64 (parse xs).2.1, .int .i64 (parse xs).2.2]) /\ w' = w := by
 go_enter Tryz.func70, Tryz.ntmps70
 go_wp2
 go_loop [5, 10] (fun x i => ∃ (k : Nat) (acc : Int), k <= xs.length /\ k <= 9 /\ i = .int .i64 k /\ x = .int .u64 acc /\ 0 <= acc /\ acc < 128 ^ k /\ parse xs = parseGo k acc (xs.drop k)) (fun _ i => xs.length - (intOf i).toNat)
 case atStart => exact ⟨0, 0, Nat.zero_le _, by omega, rfl, rfl, by omega, by decide, rfl⟩
 case round =>
  obtain ⟨k, acc, hk, hk9, rfl, rfl, ha0, ha1, hp⟩ := hrel
  have HP : Hid (parse xs = parseGo k acc (xs.drop k)) := hp
  clear hp
  by_cases hlt : k < xs.length
  ·obtain ⟨b, off, rfl, hc⟩ := hr.2 (by intro h; subst h; simp at hlt)
   have hck := hc k hlt
   have hb := hr.1.at k
   have HD : Hid (xs.drop k = xs.getD k 0 :: xs.drop (k + 1)) := by
    show _ = _
    rw [List.drop_eq_getElem_cons hlt]; simp [List.getD, hlt]
   clear hc hr
   generalize hx : xs.getD k 0 = c at *
   clear hx
   have HA : Hid ((k = 9 -> c = 1) -> bits .or .u64 acc (IntKind.u64.wrap (IntKind.u64.wrap (bits .andNot .u8 c 128) * 2 ^ (7 * k))) = acc + c % 128 * 128 ^ k) := accStep k acc c hk9 ha0 ha1 hb.1 hb.2
   have HN : Hid (0 <= acc + c % 128 * 128 ^ k /\ acc + c % 128 * 128 ^ k < 128 ^ (k + 1)) := accNext k acc c ha0 ha1 hb.1
   have HA1 : Hid (acc < 128 ^ k) := ha1
   clear ha1
   by_cases h9 : k = 9
   ·have h9b : ((k : Int) == 9) = true := by simp; omega
    have H9 : Hid (k = 9) := h9
    clear h9
    by_cases h1 : c = 1
    ·have h1b : (c != 1) = false := by simp [h1]
     have hcb : (c == 0) = false := by simp [h1]
     have hsm : c < 128 := by omega
     have fin : Ending.returned (.tuple #[.int .u64 (bits .or .u64 acc (IntKind.u64.wrap (IntKind.u64.wrap (bits .andNot .u8 c 128) * 2 ^ (7 * k)))), .int .i64 ((k : Int) + 1), .int .i64 0]) = Ending.returned (.tuple #[.int .u64 (parse xs).1, .int .i64 (parse xs).2.1, .int .i64 (parse xs).2.2]) := by
      rw [HA.out (fun _ => h1), HP.out, HD.out, parseGo, if_neg (fun h => h.2 h1), if_neg (by omega), if_neg (by omega)]
     have FIN : Hid _ := fin
     clear fin h1
     go_wp2
     go_ret3
     exact ⟨FIN.out, rfl⟩
    ·have h1b : (c != 1) = true := by simp [h1]
     have fin : Ending.returned (.tuple #[.int .u64 0, .int .i64 0, .int .i64 13]) = Ending.returned (.tuple #[.int .u64 (parse xs).1, .int .i64 (parse xs).2.1, .int .i64 (parse xs).2.2]) := by
      rw [HP.out, HD.out, parseGo, if_pos ⟨H9.out, h1⟩]
     have FIN : Hid _ := fin
     clear fin h1
     go_wp2
     go_ret3
     exact ⟨FIN.out, rfl⟩
   ·have h9b : ((k : Int) == 9) = false := by simp; omega
    have e1 : ¬ (k = 9 /\ c ≠ 1) := fun h => h9 h.1
    have H9 : Hid (k ≠ 9) := h9
    have HE1 : Hid (¬ (k = 9 /\ c ≠ 1)) := e1
    clear h9 e1
    by_cases hbig : 128 <= c
    ·go_wp2
     go_round
     case rel => exact ⟨k + 1, _, by omega, by have := H9.out; omega, by go_num, rfl, by rw [HA.out (fun h => absurd h H9.out)]; exact HN.out.1, by rw [HA.out (fun h => absurd h H9.out)]; exact HN.out.2, by rw [HA.out (fun h => absurd h H9.out), HP.out, HD.out, parseGo, if_neg HE1.out, if_pos hbig]⟩
     case measure => simp [intOf]; omega
    ·by_cases hz : c = 0 /\ 0 < k
     ·have hcb : (c == 0) = true := by simp [hz.1]
      have hk0 : 0 < k := hz.2
      have fin : Ending.returned (.tuple #[.int .u64 0, .int .i64 0, .int .i64 13]) = Ending.returned (.tuple #[.int .u64 (parse xs).1, .int .i64 (parse xs).2.1, .int .i64 (parse xs).2.2]) := by
       rw [HP.out, HD.out, parseGo, if_neg HE1.out, if_neg (by omega), if_pos hz]
      have FIN : Hid _ := fin
      clear fin hz
      go_wp2
      go_ret3
      exact ⟨FIN.out, rfl⟩
     ·have HZ : Hid (¬ (c = 0 /\ 0 < k)) := hz
      have fin : Ending.returned (.tuple #[.int .u64 (bits .or .u64 acc (IntKind.u64.wrap (IntKind.u64.wrap (bits .andNot .u8 c 128) * 2 ^ (7 * k)))), .int .i64 ((k : Int) + 1), .int .i64 0]) = Ending.returned (.tuple #[.int .u64 (parse xs).1, .int .i64 (parse xs).2.1, .int .i64 (parse xs).2.2]) := by
       rw [HA.out (fun h => absurd h H9.out), HP.out, HD.out, parseGo, if_neg HE1.out, if_neg hbig, if_neg HZ.out]
      have FIN : Hid _ := fin
      clear fin hz
      by_cases hc : c = 0
      ·have hk0 : ¬ 0 < k := fun h => HZ.out ⟨hc, h⟩
       have hcb : (c == 0) = true := by simp [hc]
       clear hc
       go_wp2
       go_ret3
       exact ⟨FIN.out, rfl⟩
      ·have hcb : (c == 0) = false := by simp [hc]
       clear hc
       go_wp2
       go_ret3
       exact ⟨FIN.out, rfl⟩
  ·have fin : Ending.returned (.tuple #[.int .u64 0, .int .i64 0, .int .i64 11]) = Ending.returned (.tuple #[.int .u64 (parse xs).1, .int .i64 (parse xs).2.1, .int .i64 (parse xs).2.2]) := by
    rw [HP.out, List.drop_eq_nil_of_le (by omega), parseGo]
   have FIN : Hid _ := fin
   clear fin
   go_wp2
   go_ret3
   exact ⟨FIN.out, rfl⟩
def joinSum (xs : List Int) : Int := xs.foldl (fun a c => a * 256 % 4294967296 + c) 0
theorem joinSum_snoc (xs : List Int) (c : Int) : joinSum (xs ++ [c]) = joinSum xs * 256 % 4294967296 + c := by simp [joinSum]
theorem joinSum_bd (xs : List Int) (h : isBytes xs) : 0 <= joinSum xs /\ joinSum xs < 4294967296 := by
 rcases List.eq_nil_or_concat xs with rfl | ⟨ys, c, rfl⟩
 ·simp [joinSum]
 ·rw [List.concat_eq_append, joinSum_snoc]
  have := h c (by simp)
  omega
theorem orJoin8 (a c : Int) (h0 : 0 <= c) (h1 : c < 256) : bits .or .u32 (a * 256 % 4294967296) c = a * 256 % 4294967296 + c := by
 rw [u32_or _ _ (by omega) (by omega) (by omega) (by omega), nat_join 8 _ _ (by omega) (by omega)]; omega
set_option maxHeartbeats 400000 in
theorem parsesum_any (ao : Option Addr) (cap : Nat) (xs : List Int) (w : World) (hl : xs.length <= 140737488355328) (hr : RowAt w ao xs) :
  Calls Tryz.prog 71 #[.slice ao xs.length cap] w fun e w' => e = .returned (.int .u32 (joinSum xs)) /\ w' = w := by
 go_enter Tryz.func71, Tryz.ntmps71
 go_wp2
 go_loop [3, 8] (fun x i => ∃ k : Nat, k <= xs.length /\ i = .int .i64 k /\ x = .int .u32 (joinSum (xs.take k))) (fun _ i => xs.length - (intOf i).toNat)
 case atStart => exact ⟨0, Nat.zero_le _, rfl, rfl⟩
 case round =>
  obtain ⟨k, hk, rfl, rfl⟩ := hrel
  have hbd := joinSum_bd (xs.take k) (isBytes_take hr.1 k)
  by_cases hlt : k < xs.length
  ·obtain ⟨b, off, rfl, hc⟩ := hr.2 (by intro h; subst h; simp at hlt)
   have hck := hc k hlt
   have hb := hr.1.at k
   have HS1 : Hid (joinSum (xs.take (k + 1)) = joinSum (xs.take k) * 256 % 4294967296 + xs.getD k 0) := by rw [take_snoc xs k hlt, joinSum_snoc]; rfl
   have HJ : Hid (bits .or .u32 (joinSum (xs.take k) * 256 % 4294967296) (xs.getD k 0) = joinSum (xs.take k) * 256 % 4294967296 + xs.getD k 0) := orJoin8 _ _ hb.1 (by omega)
   clear hc hr
   generalize hx : xs.getD k 0 = x at *
   clear hx
   go_wp2
   go_round
   case rel => exact ⟨k + 1, by omega, by go_num, by rw [HS1.out, <- HJ.out]⟩
   case measure => simp [intOf]; omega
  ·go_wp2
   go_ret
   have e : k = xs.length := by omega
   rw [e, List.take_length]
   exact ⟨rfl, rfl⟩
theorem chk_none (k : Int) (xs : List Int) (h : (checkHead k xs).1 = 0) : ∃ r, xs = headBytes k ++ r /\ (checkHead k xs).2 = 0 := by
 unfold checkHead headBytes at *
 match xs with
 | [] => simp [chk] at h
 | [a] => simp [chk] at h; split at h <;> simp at h
 | [a, b] => simp [chk] at h; split at h <;> (try split at h) <;> simp at h
 | [a, b, c] => simp [chk] at h; split at h <;> (try split at h) <;> (try split at h) <;> simp at h
 | a :: b :: c :: d :: r =>
  simp [chk] at h ⊢
  by_cases ha : a = 103 <;> by_cases hb : b = 116 <;> by_cases hc : c = 114 <;> by_cases hd : d = k <;> simp_all
theorem RowAt.drop {w : World} {b off : Nat} {xs : List Int} (h : RowAt w (some ⟨b, off, none⟩) xs) (n : Nat) : RowAt w (some ⟨b, off + n, none⟩) (xs.drop n) := by
 refine ⟨isBytes_drop h.1 n, fun hne => ⟨b, off + n, rfl, fun i hi => ?_⟩⟩
 have hx : xs ≠ [] := fun e => hne (by rw [e]; simp)
 obtain ⟨b', off', he, hc⟩ := h.2 hx
 simp only [Option.some.injEq, Addr.mk.injEq, and_true] at he
 obtain ⟨rfl, rfl⟩ := he
 simp only [List.length_drop] at hi
 have := hc (n + i) (by omega)
 rw [show off + (n + i) = off + n + i by omega] at this
 rw [this]; simp [List.getD]
theorem RowAt.take {w : World} {ao : Option Addr} {xs : List Int} (h : RowAt w ao xs) (n : Nat) : RowAt w ao (xs.take n) := by
 refine ⟨isBytes_take h.1 n, fun hne => ?_⟩
 have hx : xs ≠ [] := fun e => hne (by rw [e]; simp)
 obtain ⟨b, off, rfl, hc⟩ := h.2 hx
 refine ⟨b, off, rfl, fun i hi => ?_⟩
 simp only [List.length_take] at hi
 rw [hc i (by omega)]
 simp [List.getD, show i < n by omega]
theorem RowAt.drewN {w : World} {ao : Option Addr} {xs : List Int} (h : RowAt w ao xs) (n : Nat) : RowAt (w.drewN n) ao xs := h.later (below_drewN (Below.refl _ _) n)
theorem parsenum_eq (ao : Option Addr) (N cap : Nat) (xs : List Int) (w : World) (n s e : Int) (hp : parse xs = (n, s, e)) (hN : N = xs.length) (hl : xs.length <= 140737488355328) (hr : RowAt w ao xs) :
  Calls Tryz.prog 70 #[.slice ao N cap] w fun r w' => r = .returned (.tuple #[.int .u64 n, .int .i64 s, .int .i64 e]) /\ w = w' := by
 subst hN
 have h := parsenum_any ao cap xs w hl hr
 rw [hp] at h
 exact h.mono fun e w' h => ⟨h.1, h.2.symm⟩
theorem checkhead_eq (k : Int) (ao : Option Addr) (cap : Nat) (xs : List Int) (w : World) (ec ac : Int) (hc : checkHead k xs = (ec, ac)) (hk0 : 0 <= k) (hk1 : k <= 255) (hl : xs.length <= 140737488355328) (hm : Magic w) (hr : RowAt w ao xs) :
  Calls Tryz.prog 69 #[.int .u8 k, .slice ao xs.length cap] w fun e w' => e = .returned (.tuple #[.int .i64 ec, .int .i64 ac]) /\ Below w.heap.size w w' := by
 have h := checkhead_any k ao cap xs w hk0 hk1 hl hm hr
 rw [hc] at h
 exact h
theorem checkhead_four (k : Int) (ao : Option Addr) (cap : Nat) (xs : List Int) (w : World) (ec ac : Int) (hc : checkHead k xs = (ec, ac)) (hk0 : 0 <= k) (hk1 : k <= 255) (h4 : xs.length = 4) (hm : Magic w) (hr : RowAt w ao xs) :
  Calls Tryz.prog 69 #[.int .u8 k, .slice ao 4 cap] w fun e w' => e = .returned (.tuple #[.int .i64 ec, .int .i64 ac]) /\ Below w.heap.size w w' := by
 have h := checkhead_eq k ao cap xs w ec ac hc hk0 hk1 (by omega) hm hr
 rw [h4] at h
 exact h
theorem sum_q (ao : Option Addr) (N cap : Nat) (xs : List Int) (w : World) (hN : N = xs.length) (hl : xs.length <= 140737488355328) (hr : RowAt w ao xs) :
  Calls Tryz.prog 68 #[.slice ao N cap] w fun e w' => e = .returned (.int .u32 (adler xs)) /\ w' = w := by
 subst hN
 exact sum_any ao cap xs w hl hr
theorem clone_at (ad : Addr) (N cap : Nat) (xs : List Int) (w : World) (hN : N = xs.length) (hl : xs.length <= 140737488355328) (hr : RowAt w (some ad) xs) :
  Calls Tryz.prog 64 #[.slice (some ad) N cap] w fun e w' => ∃ g N' c, e = .returned (.slice (some ⟨g, 0, none⟩) N' c) /\ Own w' (.slice (some ⟨g, 0, none⟩) N' c) xs /\ w.heap.size <= g /\ Below w.heap.size w w' := by
 subst hN
 exact (clone_some ad cap xs w hl hr).mono fun e w' ⟨g, c, h⟩ => ⟨g, _, c, h⟩
theorem parsesum_at (ao : Option Addr) (N cap : Nat) (xs : List Int) (w : World) (hN : N = xs.length) (hl : xs.length <= 140737488355328) (hr : RowAt w ao xs) :
  Calls Tryz.prog 71 #[.slice ao N cap] w fun e w' => e = .returned (.int .u32 (joinSum xs)) /\ w' = w := by
 subst hN
 exact parsesum_any ao cap xs w hl hr
def openS (k : Int) (xs : List Int) : List Int × Int × Int :=
 if (checkHead k xs).1 ≠ 0 then ([], (checkHead k xs).1, (checkHead k xs).2)
 else if (parse (xs.drop 4)).2.2 = 11 then ([], 11, xs.length)
 else if (parse (xs.drop 4)).2.2 ≠ 0 then ([], (parse (xs.drop 4)).2.2, 4)
 else if 16777216 < (parse (xs.drop 4)).1 then ([], 5, 4)
 else if (xs.length : Int) < 4 + (parse (xs.drop 4)).2.1 + (parse (xs.drop 4)).1 + 4 then ([], 11, xs.length)
 else if 4 + (parse (xs.drop 4)).2.1 + (parse (xs.drop 4)).1 + 4 < (xs.length : Int) then ([], 12, 4 + (parse (xs.drop 4)).2.1 + (parse (xs.drop 4)).1 + 4)
 else if joinSum (xs.drop (4 + (parse (xs.drop 4)).2.1 + (parse (xs.drop 4)).1).toNat) ≠ adler (xs.take (4 + (parse (xs.drop 4)).2.1 + (parse (xs.drop 4)).1).toNat) then ([], 15, 4 + (parse (xs.drop 4)).2.1 + (parse (xs.drop 4)).1)
 else ((xs.take (4 + (parse (xs.drop 4)).2.1 + (parse (xs.drop 4)).1).toNat).drop (4 + (parse (xs.drop 4)).2.1).toNat, 0, 0)
theorem parseGo_facts (xs : List Int) (hb : isBytes xs) : ∀ (i : Nat) (acc : Int), i <= 9 -> 0 <= acc -> acc < 128 ^ i -> ∀ n s e, parseGo i acc xs = (n, s, e) -> (e = 11 ∨ e = 13 ∨ e = 0) /\ (e = 0 -> (i : Int) + 1 <= s /\ s <= 10 /\ s <= i + xs.length /\ 0 <= n /\ n < 18446744073709551616) := by
 induction xs with
 | nil => intro i acc _ _ _ n s e h; simp [parseGo] at h; obtain ⟨rfl, rfl, rfl⟩ := h; simp
 | cons c r ih =>
  intro i acc hi ha hlt n s e h
  have hc := hb c (by simp)
  rw [parseGo] at h
  by_cases h9 : i = 9 /\ c ≠ 1
  ·rw [if_pos h9] at h; simp at h; obtain ⟨rfl, rfl, rfl⟩ := h; simp
  ·rw [if_neg h9] at h
   have hnx := accNext i acc c ha hlt hc.1
   by_cases hbig : 128 <= c
   ·rw [if_pos hbig] at h
    have hi9 : i ≠ 9 := fun q => by have : c = 1 := Classical.byContradiction fun z => h9 ⟨q, z⟩; omega
    obtain ⟨q1, q2⟩ := ih (fun x hx => hb x (by simp [hx])) (i + 1) _ (by omega) hnx.1 hnx.2 n s e h
    refine ⟨q1, fun h0 => ?_⟩
    have := q2 h0
    simp only [List.length_cons]
    omega
   ·rw [if_neg hbig] at h
    by_cases hz : c = 0 /\ 0 < i
    ·rw [if_pos hz] at h; simp at h; obtain ⟨rfl, rfl, rfl⟩ := h; simp
    ·rw [if_neg hz] at h
     simp only [Prod.mk.injEq] at h
     obtain ⟨rfl, rfl, rfl⟩ := h
     refine ⟨by simp, fun _ => ?_⟩
     have hlim := lim i hi (c % 128) (by omega) (fun q => by have : c = 1 := Classical.byContradiction fun z => h9 ⟨q, z⟩; omega)
     have hp := pow_lim i hi
     simp only [List.length_cons]
     refine ⟨by omega, by omega, by omega, hnx.1, ?_⟩
     by_cases hi9 : i = 9
     ·have : c = 1 := Classical.byContradiction fun z => h9 ⟨hi9, z⟩
      subst this
      subst hi9
      simp at hlt ⊢; omega
     ·have : (128 : Int) ^ (i + 1) <= 9223372036854775808 := pow_lim (i + 1) (by omega)
      omega
theorem parse_facts (xs : List Int) (hb : isBytes xs) (n s e : Int) (h : parse xs = (n, s, e)) : (e = 11 ∨ e = 13 ∨ e = 0) /\ (e = 0 -> 1 <= s /\ s <= 10 /\ s <= xs.length /\ 0 <= n /\ n < 18446744073709551616) := by
 have := parseGo_facts xs hb 0 0 (by omega) (by omega) (by decide) n s e h
 simpa using this
def OpenEnds (k : Int) (xs : List Int) (w : World) (e : Ending) (w' : World) : Prop :=
 ∃ v, e = .returned (.tuple #[v, .int .i64 (openS k xs).2.1, .int .i64 (openS k xs).2.2]) /\ Own w' v (openS k xs).1 /\ (∀ b, v.ownBlock = some b -> w.heap.size <= b) /\ Below w.heap.size w w'
theorem openEnds_nil {k : Int} {xs : List Int} {w w' : World} {er at' : Int} (h : openS k xs = ([], er, at')) (hb : Below w.heap.size w w') : OpenEnds k xs w (.returned (.tuple #[.slice none 0 0, .int .i64 er, .int .i64 at'])) w' :=
 ⟨.slice none 0 0, by rw [h], by rw [h]; exact Own.nil _, fun b hb => by simp [Value.ownBlock] at hb, hb⟩
set_option maxRecDepth 100000 in
set_option maxHeartbeats 400000 in
theorem open_head (k : Int) (ao : Option Addr) (cap : Nat) (xs : List Int) (w : World) (hk0 : 0 <= k) (hk1 : k <= 255) (hl : xs.length <= 140737488355328) (hm : Magic w) (hr : RowAt w ao xs) (h1 : (checkHead k xs).1 ≠ 0) :
  Calls Tryz.prog 35 #[.int .u8 k, .slice ao xs.length cap] w (OpenEnds k xs w) := by
 have fin := fun w' => @openEnds_nil k xs w w' (checkHead k xs).1 (checkHead k xs).2 (by rw [openS, if_pos h1])
 have FIN : Hid _ := fin
 obtain ⟨ec, ac, hc⟩ : ∃ ec ac, checkHead k xs = (ec, ac) := ⟨_, _, rfl⟩
 rw [hc] at FIN h1
 have hne : (ec != 0) = true := by simpa using h1
 have HC : Hid _ := hc
 clear hc h1 fin
 go_enter Tryz.func35, Tryz.ntmps35
 go_wp2_with (go_at_call 69; refine (checkhead_eq k _ cap xs w ec ac HC.out hk0 hk1 hl hm hr).mono ?_; rintro e w1 ⟨rfl, hb1⟩)
 go_ret3
 exact FIN.out w1 hb1
set_option maxRecDepth 100000 in
set_option maxHeartbeats 1000000 in
theorem open_four (k : Int) (b off : Nat) (xs : List Int) (w : World) (hk0 : 0 <= k) (hk1 : k <= 255) (h4 : xs.length = 4) (hm : Magic w) (hr : RowAt w (some ⟨b, off, none⟩) xs)
  (h1 : (checkHead k xs).1 = 0) : Calls Tryz.prog 35 #[.int .u8 k, .slice (some ⟨b, off, none⟩) 4 4] w (OpenEnds k xs w) := by
 obtain ⟨rest, hx, hc2⟩ := chk_none k xs h1
 have HC : Hid (checkHead k xs = (0, 0)) := Prod.ext h1 hc2
 have hd : xs.drop 4 = [] := List.drop_eq_nil_of_le (by omega)
 have FIN : Hid _ := fun w' => @openEnds_nil k xs w w' 11 4 (by rw [openS, if_neg (by simp [h1]), hd]; simp [parse, parseGo, h4])
 have H4 : Hid _ := h4
 clear hx hc2 h1 hd h4
 go_enter Tryz.func35, Tryz.ntmps35
 go_wp2_with (first
  | (go_at_call 69; refine (checkhead_four k _ 4 xs w 0 0 HC.out hk0 hk1 H4.out hm hr).mono ?_; rintro e w1 ⟨rfl, hb1⟩)
  | (go_at_call 70; refine (parsenum_eq _ _ _ [] w1 0 0 11 rfl rfl (by simp) (RowAt.nil _ _)).mono ?_; rintro e w2 ⟨rfl, rfl⟩))
 go_ret3
 exact FIN.out _ hb1
set_option maxRecDepth 100000 in
set_option maxHeartbeats 2000000 in
theorem open_rest (k : Int) (b off : Nat) (cap : Nat) (xs : List Int) (w : World) (hk0 : 0 <= k) (hk1 : k <= 255) (hl : xs.length <= 140737488355328) (hcap : xs.length <= cap) (hc4 : 4 < cap) (hm : Magic w) (hr : RowAt w (some ⟨b, off, none⟩) xs)
  (h1 : (checkHead k xs).1 = 0) : Calls Tryz.prog 35 #[.int .u8 k, .slice (some ⟨b, off, none⟩) xs.length cap] w (OpenEnds k xs w) := by
 obtain ⟨rest, hx, hc2⟩ := chk_none k xs h1
 have h4 : 4 <= xs.length := by rw [hx]; simp [headBytes]
 have HC : Hid (checkHead k xs = (0, 0)) := Prod.ext h1 hc2
 obtain ⟨n, s, ep, hp⟩ : ∃ n s e, parse (xs.drop 4) = (n, s, e) := ⟨_, _, _, rfl⟩
 have hO : openS k xs = openS k xs := rfl
 conv at hO => rhs; rw [openS, if_neg (by simp [h1]), hp]
 obtain ⟨hpe, hpf⟩ := parse_facts (xs.drop 4) (isBytes_drop hr.1 4) n s ep hp
 have HP : Hid _ := hp
 have HN : Hid (xs.length - 4 = (xs.drop 4).length) := by show _ = _; simp
 have HL : Hid ((xs.drop 4).length <= 140737488355328) := by show _ <= _; simp; omega
 clear hx hc2 h1 hp
 rcases hpe with rfl | rfl | rfl
 ·conv at hO => rhs; rw [if_pos rfl]
  have FIN : Hid _ := fun w' => @openEnds_nil k xs w w' _ _ hO
  clear hO hpf
  go_enter Tryz.func35, Tryz.ntmps35
  go_wp2_with (first | (go_at_call 69; refine (checkhead_eq k _ cap xs w 0 0 HC.out hk0 hk1 hl hm hr).mono ?_; rintro e w1 ⟨rfl, hb1⟩; have hr1 := hr.later hb1) | (go_at_call 70; refine (parsenum_eq _ _ _ (xs.drop 4) w1 n s 11 HP.out HN.out HL.out (hr1.drop 4)).mono ?_; rintro e w2 ⟨rfl, rfl⟩))
  go_ret3
  exact FIN.out _ hb1
 ·conv at hO => rhs; rw [if_neg (by simp), if_pos (by simp)]
  have FIN : Hid _ := fun w' => @openEnds_nil k xs w w' _ _ hO
  clear hO hpf
  go_enter Tryz.func35, Tryz.ntmps35
  go_wp2_with (first | (go_at_call 69; refine (checkhead_eq k _ cap xs w 0 0 HC.out hk0 hk1 hl hm hr).mono ?_; rintro e w1 ⟨rfl, hb1⟩; have hr1 := hr.later hb1) | (go_at_call 70; refine (parsenum_eq _ _ _ (xs.drop 4) w1 n s 13 HP.out HN.out HL.out (hr1.drop 4)).mono ?_; rintro e w2 ⟨rfl, rfl⟩))
  go_ret3
  exact FIN.out _ hb1
 ·conv at hO => rhs; rw [if_neg (by simp), if_neg (by simp)]
  obtain ⟨hs1, hs2, hs3, hn1, hn2⟩ := hpf rfl
  clear hpf
  simp only [List.length_drop] at hs3
  by_cases hlong : 16777216 < n
  ·conv at hO => rhs; rw [if_pos hlong]
   have FIN : Hid _ := fun w' => @openEnds_nil k xs w w' _ _ hO
   clear hO
   go_enter Tryz.func35, Tryz.ntmps35
   go_wp2_with (first | (go_at_call 69; refine (checkhead_eq k _ cap xs w 0 0 HC.out hk0 hk1 hl hm hr).mono ?_; rintro e w1 ⟨rfl, hb1⟩; have hr1 := hr.later hb1) | (go_at_call 70; refine (parsenum_eq _ _ _ (xs.drop 4) w1 n s 0 HP.out HN.out HL.out (hr1.drop 4)).mono ?_; rintro e w2 ⟨rfl, rfl⟩))
   go_ret3
   exact FIN.out _ hb1
  ·conv at hO => rhs; rw [if_neg hlong]
   by_cases hshort : (xs.length : Int) < 4 + s + n + 4
   ·conv at hO => rhs; rw [if_pos hshort]
    have FIN : Hid _ := fun w' => @openEnds_nil k xs w w' _ _ hO
    clear hO
    go_enter Tryz.func35, Tryz.ntmps35
    go_wp2_with (first | (go_at_call 69; refine (checkhead_eq k _ cap xs w 0 0 HC.out hk0 hk1 hl hm hr).mono ?_; rintro e w1 ⟨rfl, hb1⟩; have hr1 := hr.later hb1) | (go_at_call 70; refine (parsenum_eq _ _ _ (xs.drop 4) w1 n s 0 HP.out HN.out HL.out (hr1.drop 4)).mono ?_; rintro e w2 ⟨rfl, rfl⟩))
    go_ret3
    exact FIN.out _ hb1
   ·conv at hO => rhs; rw [if_neg hshort]
    by_cases htail : 4 + s + n + 4 < (xs.length : Int)
    ·conv at hO => rhs; rw [if_pos htail]
     have FIN : Hid _ := fun w' => @openEnds_nil k xs w w' _ _ hO
     clear hO
     go_enter Tryz.func35, Tryz.ntmps35
     go_wp2_with (first | (go_at_call 69; refine (checkhead_eq k _ cap xs w 0 0 HC.out hk0 hk1 hl hm hr).mono ?_; rintro e w1 ⟨rfl, hb1⟩; have hr1 := hr.later hb1) | (go_at_call 70; refine (parsenum_eq _ _ _ (xs.drop 4) w1 n s 0 HP.out HN.out HL.out (hr1.drop 4)).mono ?_; rintro e w2 ⟨rfl, rfl⟩))
     go_ret3
     exact FIN.out _ hb1
    ·conv at hO => rhs; rw [if_neg htail]
     obtain ⟨n, rfl⟩ := Int.eq_ofNat_of_zero_le hn1
     obtain ⟨s, rfl⟩ := Int.eq_ofNat_of_zero_le (show 0 <= s by omega)
     have hT : (4 + (s : Int) + (n : Int)).toNat = 4 + s + n := by omega
     have hF : (4 + (s : Int)).toNat = 4 + s := by omega
     rw [hT, hF] at hO
     have hlen : xs.length = 4 + s + n + 4 := by omega
     have HK1 : Hid (xs.length - (4 + s + n) = (xs.drop (4 + s + n)).length) := by show _ = _; simp
     have HK2 : Hid (4 + s + n = (xs.take (4 + s + n)).length) := by show _ = _; simp; omega
     have HK3 : Hid ((xs.drop (4 + s + n)).length <= 140737488355328) := by show _ <= _; simp; omega
     have HK4 : Hid ((xs.take (4 + s + n)).length <= 140737488355328) := by show _ <= _; simp; omega
     have hle : 4 + s + n + 4 <= xs.length := by omega
     have hge : xs.length <= 4 + s + n + 4 := by omega
     have hn3 : n <= 16777216 := by omega
     have hs4 : s <= 10 := by omega
     clear hlen hT hF hshort htail hlong hs1 hs2 hs3 hn1 hn2
     by_cases hsum : joinSum (xs.drop (4 + s + n)) = adler (xs.take (4 + s + n))
     ·conv at hO => rhs; rw [if_neg (by simp [hsum])]
      have hne : (joinSum (xs.drop (4 + s + n)) != adler (xs.take (4 + s + n))) = false := by simpa using hsum
      have HO : Hid _ := hO
      have HK5 : Hid (n = ((xs.take (4 + s + n)).drop (4 + s)).length) := by show _ = _; simp; omega
      have HK6 : Hid (((xs.take (4 + s + n)).drop (4 + s)).length <= 140737488355328) := by show _ <= _; simp; omega
      clear hO hsum
      go_enter Tryz.func35, Tryz.ntmps35
      go_wp2_with (first | (go_at_call 69; refine (checkhead_eq k _ cap xs w 0 0 HC.out hk0 hk1 hl hm hr).mono ?_; rintro e w1 ⟨rfl, hb1⟩; have hr1 := hr.later hb1) | (go_at_call 70; refine (parsenum_eq _ _ _ (xs.drop 4) w1 (n : Int) (s : Int) 0 HP.out HN.out HL.out (hr1.drop 4)).mono ?_; rintro e w2 ⟨rfl, rfl⟩))
      go_quiet ((first | (go_at_call 71; exact Calls.quiet_of_same (parsesum_at _ _ _ (xs.drop (4 + s + n)) _ HK1.out HK3.out (hr1.drop (4 + s + n)))) | (go_at_call 68; exact Calls.quiet_of_same (sum_q _ _ _ (xs.take (4 + s + n)) _ HK2.out HK4.out (hr1.take (4 + s + n))))))
      go_wp2_with (go_at_call 64; refine (clone_at _ _ _ ((xs.take (4 + s + n)).drop (4 + s)) (w1.drewN _) HK5.out HK6.out (((hr1.take (4 + s + n)).drop (4 + s)).drewN _)).mono ?_; rintro e w3 ⟨g, N3, c3, rfl, ho3, hg3, hb3⟩)
      go_ret3
      refine ⟨_, by rw [HO.out]; rfl, by rw [HO.out]; exact ho3, fun q hq => ?_, ?_⟩
      ·simp [Value.ownBlock] at hq
       have := hb1.size
       simp at hg3
       omega
      ·exact (below_drewN hb1 _).trans (hb3.mono (by simpa using hb1.size))
     ·conv at hO => rhs; rw [if_pos hsum]
      have FIN : Hid _ := fun w' => @openEnds_nil k xs w w' _ _ hO
      have hne : (joinSum (xs.drop (4 + s + n)) != adler (xs.take (4 + s + n))) = true := by simpa using hsum
      clear hO hsum
      go_enter Tryz.func35, Tryz.ntmps35
      go_wp2_with (first | (go_at_call 69; refine (checkhead_eq k _ cap xs w 0 0 HC.out hk0 hk1 hl hm hr).mono ?_; rintro e w1 ⟨rfl, hb1⟩; have hr1 := hr.later hb1) | (go_at_call 70; refine (parsenum_eq _ _ _ (xs.drop 4) w1 (n : Int) (s : Int) 0 HP.out HN.out HL.out (hr1.drop 4)).mono ?_; rintro e w2 ⟨rfl, rfl⟩))
      go_quiet ((first | (go_at_call 71; exact Calls.quiet_of_same (parsesum_at _ _ _ (xs.drop (4 + s + n)) _ HK1.out HK3.out (hr1.drop (4 + s + n)))) | (go_at_call 68; exact Calls.quiet_of_same (sum_q _ _ _ (xs.take (4 + s + n)) _ HK2.out HK4.out (hr1.take (4 + s + n))))))
      go_wp2
      go_ret3
      exact FIN.out _ (below_drewN hb1 _)
def Still (w w' : World) : Prop := ∀ B, Below B w w'
theorem Still.refl (w : World) : Still w w := fun B => Below.refl B w
theorem Still.drew {w w' : World} (h : Still w w') : Still w w'.drew := fun B => (h B).drew
theorem Still.trans {w w1 w2 : World} (h : Still w w1) (k : Still w1 w2) : Still w w2 := fun B => (h B).trans (k B)
theorem Still.cell {w w' : World} (h : Still w w') (b o : Nat) : w'.cell? ⟨b, o, none⟩ = w.cell? ⟨b, o, none⟩ := (h (b + 1)).cell (p := ⟨b, o, none⟩) (Nat.lt_succ_self b)
theorem Still.row {w w' : World} (h : Still w w') {ao : Option Addr} {xs : List Int} (hr : RowAt w ao xs) : RowAt w' ao xs := hr.later (h _)
theorem Still.own {w w' : World} (h : Still w w') {v : Value} {xs : List Int} (hr : Own w v xs) : Own w' v xs := hr.kept fun k _ => (h (k + 1)).block k (Nat.lt_succ_self k)
theorem Own.later {w w' : World} {v : Value} {xs : List Int} (h : Own w v xs) (hb : Below w.heap.size w w') : Own w' v xs := h.kept fun k hk => hb.block k (h.lt k hk)
theorem open_any (k : Int) (ao : Option Addr) (N cap : Nat) (xs : List Int) (w : World) (hN : N = xs.length) (hk0 : 0 <= k) (hk1 : k <= 255) (hl : xs.length <= 140737488355328) (hcap : xs.length <= cap) (hm : Magic w) (hr : RowAt w ao xs) :
  Calls Tryz.prog 35 #[.int .u8 k, .slice ao N cap] w (OpenEnds k xs w) := by
 subst hN
 by_cases h : (checkHead k xs).1 = 0
 ·have hne : xs ≠ [] := by intro e; subst e; simp [checkHead, headBytes, chk] at h
  obtain ⟨b, off, rfl, _⟩ := hr.2 hne
  by_cases hc : 4 < cap
  ·exact open_rest k b off cap xs w hk0 hk1 hl hcap hc hm hr h
  ·obtain ⟨rest, hx, _⟩ := chk_none k xs h
   have h4 : 4 <= xs.length := by rw [hx]; simp [headBytes]
   have e4 : xs.length = 4 := by omega
   have ec : cap = 4 := by omega
   subst ec
   have := open_four k b off xs w hk0 hk1 e4 hm hr h
   rw [e4]
   exact this
 ·exact open_head k ao cap xs w hk0 hk1 hl hm hr h
theorem seal_at (k : Int) (ao : Option Addr) (N cap : Nat) (xs : List Int) (w : World) (hN : N = xs.length) (hk0 : 0 <= k) (hk1 : k <= 255) (hl : xs.length <= 16777216) (hm : Magic w) (hr : RowAt w ao xs) (hn : ao = none -> cap = 0) :
  Calls Tryz.prog 34 #[.int .u8 k, .slice ao N cap] w fun e w' => ∃ g N c, e = .returned (.tuple #[.slice (some ⟨g, 0, none⟩) N c, .int .i64 0]) /\ Own w' (.slice (some ⟨g, 0, none⟩) N c) (frame k xs) /\ w.heap.size <= g /\ Below w.heap.size w w' := by
 subst hN; exact seal_any k ao cap xs w hk0 hk1 hl hm hr hn
theorem own_cap {w : World} {a : Option Addr} {N c : Nat} {xs : List Int} (h : Own w (.slice a N c) xs) : xs.length <= c := by
 rcases h.2.2 with ⟨e, hn⟩ | ⟨g, cap, cur, e, _, _, hnc, _⟩
 ·simp only [Value.slice.injEq] at e
  obtain ⟨rfl, rfl, rfl⟩ := e
  have := h.1
  omega
 ·simp only [Value.slice.injEq] at e
  obtain ⟨rfl, rfl, rfl⟩ := e
  exact hnc
theorem winv_new (w : World) : WInv ((w.alloc (.cells #[.slice none 0 0, .int .i64 0] 110)).alloc (.cells #[.pointer (some ⟨w.heap.size, 0, none⟩)] 112)) (w.heap.size + 1) w.heap.size (.slice none 0 0) [] 0 := by
 refine ⟨?_, ?_, Own.nil _⟩
 ·have := heap_alloc_new (w.alloc (.cells #[.slice none 0 0, .int .i64 0] 110)) (.cells #[.pointer (some ⟨w.heap.size, 0, none⟩)] 112)
  simpa using this
 ·rw [Below.heap_alloc _ _ _ (by simp)]
  exact heap_alloc_new w _
theorem below_two (w : World) (o p : Obj) : Below w.heap.size w ((w.alloc o).alloc p) := (below_alloc w o).trans ((below_alloc (w.alloc o) p).mono (by simp))
theorem own_some {w : World} {v : Value} {xs : List Int} (h : Own w v xs) (hn : xs ≠ []) : ∃ g N c, v = .slice (some ⟨g, 0, none⟩) N c := by
 refine own_shape h fun e => ?_
 subst e
 have := (own_len h).1
 exact hn (List.eq_nil_of_length_eq_zero this.symm)
theorem enc_ne (n : Int) : enc 10 n ≠ [] := by
 rw [enc]
 split <;> simp
theorem appnum_wrap (v : Value) (ys : List Int) (n : Int) (w : World) (h0 : 0 <= n) (h1 : n <= 140737488355328) (hl : ys.length <= 140737488355300) (hown : Own w v ys) :
  Calls Tryz.prog 66 #[v, .int .u64 (IntKind.u64.wrap n)] w fun e w' => ∃ g N c, e = .returned (.slice (some ⟨g, 0, none⟩) N c) /\ Own w' (.slice (some ⟨g, 0, none⟩) N c) (ys ++ enc 10 n) /\ Grew w w' v (.slice (some ⟨g, 0, none⟩) N c) := by
 have e : IntKind.u64.wrap n = n := by rw [IntKind.wrap_u64]; omega
 rw [e]
 exact appnum_any v ys n w h0 (by omega) hl hown
theorem enter_appnum (args : Array Value) (w : World) : (callFunc 66 args).run Tryz.prog w = .ok (.enter 66 args) w := by kernel_rfl
theorem step_appnum {ops : Array Oper} {o : Oper} {a : Act} {w : World} {K : Act -> World -> Prop} {Q : Exit -> Act -> World -> Prop} {E : Prop}
  (hg : o.guard = none) (s x : Operand) (hop : o.op = Op.call { callee := Callee.value (Operand.func 66), args := #[s, x], argTypes := #[46, 119] })
  (v : Value) (ys : List Int) (hs : a.eval s = v) (n : Int) (hx : a.eval x = .int .u64 (IntKind.u64.wrap n)) (h0 : 0 <= n) (h1 : n <= 140737488355328) (hl : ys.length <= 140737488355300) (hown : Own w v ys)
  (hK : ∀ g N c w', Own w' (.slice (some ⟨g, 0, none⟩) N c) (ys ++ enc 10 n) -> Grew w w' v (.slice (some ⟨g, 0, none⟩) N c) -> K (a.put o.dst (.slice (some ⟨g, 0, none⟩) N c)) w') :
  if Region.wanted o (yielded ops a.tmps) = true then Oper.wp Tryz.prog o a w K Q else E := by
 have hw : Region.wanted o (yielded ops a.tmps) = true := by simp [Region.wanted, hg]
 rw [if_pos hw]
 have hf : a.eval (Operand.func 66) = .func (.func 66) #[] #[] := rfl
 have hcf := enter_appnum #[v, .int .u64 (IntKind.u64.wrap n)] w
 have e : (execOp a.eval o).run Tryz.prog w = .ok (.enter 66 #[v, .int .u64 (IntKind.u64.wrap n)]) w := by
  simp [execOp, hop, resolve, invoke, hs, hx, hf, Deferred.ofValue, hcf]
 show o.upon Tryz.prog a K Q ((execOp a.eval o).run Tryz.prog w)
 rw [e, Oper.upon_enter]
 refine (appnum_wrap v ys n w h0 h1 hl hown).mono ?_
 rintro e w' ⟨g, N, c, rfl, ho, hgr⟩
 exact hK g N c w' ho hgr
set_option maxRecDepth 100000 in
set_option maxHeartbeats 400000 in
theorem text_ok {w : World} {p q : Nat} {v : Value} {xs : List Int} (s : ByteArray) (h : WInv w p q v xs 0) (hl : xs.length + s.size <= 140737488355300) :
  Calls Tryz.prog 62 #[.pointer (some ⟨p, 0, none⟩), .string s] w fun e w' => e = .returned (.tuple #[]) /\ ∃ v', WInv w' p q v' (xs ++ enc 10 s.size ++ strBytes s) 0 /\ WGrew w w' q v v' := by
 have hp := h.cellp
 have hq0 := h.cell0
 have hq1 := h.cell1
 have hf0 := h.free0
 have hsz0 : (0 : Int) <= (s.size : Int) := by omega
 have hsz1 : (s.size : Int) <= 140737488355328 := by omega
 have HX : Hid (xs.length <= 140737488355300) := by show _ <= _; omega
 have HL : Hid ((xs ++ enc 10 (s.size : Int)).length + s.size <= 140737488355328) := by show _ <= _; have := enc_len 10 (s.size : Int); simp; omega
 have HNE : Hid (xs ++ enc 10 (s.size : Int) ++ strBytes s ≠ []) := fun e => enc_ne s.size (by simp at e; exact e.2.1)
 have after : ∀ w1 v1, Grew w.drew w1 v v1 -> w1.cell? ⟨p, 0, none⟩ = some (.pointer (some ⟨q, 0, none⟩)) /\ (w1.cell? ⟨q, 0, none⟩ = some v /\ w1.frozen? ⟨q, 0, none⟩ = false) := by
  intro w1 v1 hg
  obtain ⟨a, b⟩ := (h.still (w' := w.drew) (fun _ => rfl)).grown hg
  exact ⟨by simp [World.cell?, a], by simp [World.cell?, b], by simp [World.frozen?, b]⟩
 have hpq := h.pq
 have AF : Hid _ := after
 clear after
 go_enter Tryz.func62, Tryz.ntmps62
 go_wp2_with (go_at_call 100; refine (ready_any h).mono ?_; rintro e w' ⟨rfl, rfl⟩)
 go_region_law (first
  | (refine step_appnum (by rfl) _ _ (by rfl) v xs (by rfl) s.size (by rfl) hsz0 hsz1 HX.out h.own.drew ?_; intro g1 N1 c1 w1 ho1 hg1; obtain ⟨hp1, hq1, hf1⟩ := AF.out w1 _ hg1)
  | (refine step_own_append_str (by rfl) _ _ (by rfl) _ _ (by rfl) ho1 s (by rfl) HL.out ?_; intro v2 w2 ho2 hg2; obtain ⟨g2, N2, c2, rfl⟩ := own_some ho2 HNE.out; obtain ⟨hp2, hq2, hf2⟩ := AF.out w2 _ (hg1.trans hg2)))
 all_goals go_end0
 all_goals
  obtain ⟨r1, r2⟩ := (h.still (w' := w.drew) (fun _ => rfl)).stored (hg1.trans hg2) ho2
  exact ⟨rfl, _, r1, r2.ofDrew⟩
theorem WGrew.refl (w : World) (q : Nat) (v : Value) : WGrew w w q v v := ⟨rfl, rfl, rfl, Nat.le_refl _, fun _ _ _ _ => rfl, .inl rfl⟩
theorem text_no {w : World} {p q : Nat} {v : Value} {xs : List Int} {err : Int} (s : ByteArray) (h : WInv w p q v xs err) (hne : (err == 0) = false) :
  Calls Tryz.prog 62 #[.pointer (some ⟨p, 0, none⟩), .string s] w fun e w' => e = .returned (.tuple #[]) /\ w = w' := by
 go_enter Tryz.func62, Tryz.ntmps62
 go_wp2_with (go_at_call 100; refine (ready_any h).mono ?_; rintro e w' ⟨rfl, rfl⟩)
 go_end0
 exact ⟨rfl, rfl⟩
theorem number_no {w : World} {p q : Nat} {v : Value} {xs : List Int} {err : Int} (n : Int) (h : WInv w p q v xs err) (hne : (err == 0) = false) :
  Calls Tryz.prog 98 #[.pointer (some ⟨p, 0, none⟩), .int .u64 n] w fun e w' => e = .returned (.tuple #[]) /\ w = w' := by
 go_enter Tryz.func98, Tryz.ntmps98
 go_wp2_with (go_at_call 100; refine (ready_any h).mono ?_; rintro e w' ⟨rfl, rfl⟩)
 go_end0
 exact ⟨rfl, rfl⟩
theorem WInv.setErr {w : World} {p q : Nat} {v : Value} {xs : List Int} {err : Int} (h : WInv w p q v xs err) (e : Int) : WInv (w.setCell ⟨q, 1, none⟩ (.int .i64 e)) p q v xs e /\ WGrew w (w.setCell ⟨q, 1, none⟩ (.int .i64 e)) q v v :=
 ⟨⟨by rw [Below.heap_setCell _ _ _ _ h.pq]; exact h.hp, by rw [heap_set h.hq]; rfl, h.own.kept fun k hk => Below.heap_setCell _ _ _ _ (fun e => h.neq (by rw [hk, e]))⟩,
  ⟨rfl, rfl, rfl, by simp [World.setCell], fun k _ hk _ => Below.heap_setCell _ _ _ _ hk, .inl rfl⟩⟩
def WEnds (p q : Nat) (v : Value) (xs : List Int) (err : Int) (w : World) (e : Ending) (w' : World) : Prop :=
 e = .returned (.tuple #[]) /\ ∃ v', WInv w' p q v' xs err /\ WGrew w w' q v v'
theorem wnumber {w : World} {p q : Nat} {v : Value} {xs : List Int} {err : Int} (n : Int) (h : WInv w p q v xs err) (h0 : 0 <= n) (h1 : n <= 18446744073709551615) (hl : xs.length <= 140737488355300) (xs' : List Int) (hx : xs' = if err = 0 then xs ++ enc 10 n else xs) :
  Calls Tryz.prog 98 #[.pointer (some ⟨p, 0, none⟩), .int .u64 n] w (WEnds p q v xs' err w) := by
 subst hx
 by_cases he : err = 0
 ·subst he
  rw [if_pos rfl]
  exact number_any n h h0 h1 hl
 ·rw [if_neg he]
  exact (number_no n h (by simpa using he)).mono fun e w' ⟨a, b⟩ => by subst b; exact ⟨a, v, h, WGrew.refl _ _ _⟩
theorem wtext {w : World} {p q : Nat} {v : Value} {xs : List Int} {err : Int} (s : ByteArray) (h : WInv w p q v xs err) (hl : xs.length + s.size <= 140737488355300) (xs' : List Int) (hx : xs' = if err = 0 then xs ++ enc 10 s.size ++ strBytes s else xs) :
  Calls Tryz.prog 62 #[.pointer (some ⟨p, 0, none⟩), .string s] w (WEnds p q v xs' err w) := by
 subst hx
 by_cases he : err = 0
 ·subst he
  rw [if_pos rfl]
  exact text_ok s h hl
 ·rw [if_neg he]
  exact (text_no s h (by simpa using he)).mono fun e w' ⟨a, b⟩ => by subst b; exact ⟨a, v, h, WGrew.refl _ _ _⟩
theorem wint_pos {w : World} {p q : Nat} {v : Value} {xs : List Int} {err : Int} (n : Int) (h : WInv w p q v xs err) (hn : 0 <= n) (hn1 : n <= 9223372036854775807) (hl : xs.length <= 140737488355300) (xs' : List Int) (hx : xs' = if err = 0 then xs ++ enc 10 n else xs) :
  Calls Tryz.prog 60 #[.pointer (some ⟨p, 0, none⟩), .int .i64 n] w (WEnds p q v xs' err w) := by
 have HX : Hid _ := hx
 have hn2 : n <= 18446744073709551615 := by omega
 clear hx
 go_enter Tryz.func60, Tryz.ntmps60
 go_wp2_with (go_at_call 98; refine (wnumber n h hn hn2 hl xs' HX.out).mono ?_; rintro e w' ⟨rfl, v', r1, r2⟩)
 go_end0
 exact ⟨rfl, v', r1, r2⟩
def foldS (n : Int) : Int := if n < 0 then 2 * (-n - 1) + 1 else 2 * n
theorem foldS_bd (n : Int) (h0 : -9223372036854775808 <= n) (h1 : n <= 9223372036854775807) : 0 <= foldS n /\ foldS n <= 18446744073709551615 := by unfold foldS; split <;> omega
theorem xor_ones (n : Int) (h0 : -9223372036854775808 <= n) (h1 : n <= 9223372036854775807) : bits .xor .i64 (-1) n = -n - 1 := by
 have e : (BitVec.ofInt 64 (-1) ^^^ BitVec.ofInt 64 n).toNat = 18446744073709551615 - (n % 18446744073709551616).toNat := by
  have e1 : BitVec.ofInt 64 (-1) = BitVec.allOnes 64 := by decide
  rw [e1, BitVec.allOnes_xor, BitVec.toNat_not, BitVec.toNat_ofInt]
  simp
 show IntKind.i64.wrap ((BitVec.ofInt 64 (-1) ^^^ BitVec.ofInt 64 n).toNat : Int) = _
 rw [e, IntKind.wrap_i64]
 omega
theorem fold_any (n : Int) (w : World) (h0 : -9223372036854775808 <= n) (h1 : n <= 9223372036854775807) :
  Calls Tryz.prog 99 #[.int .i64 n] w fun e w' => e = .returned (.int .u64 (foldS n)) /\ w = w' := by
 by_cases hn : n < 0
 ·have FS : Hid (IntKind.u64.wrap (IntKind.u64.wrap (2 * IntKind.u64.wrap (bits .xor .i64 (-1) n)) + 1) = foldS n) := by
   show _ = _
   rw [foldS, if_pos hn, xor_ones n h0 h1]
   simp only [IntKind.wrap_u64]
   omega
  go_enter Tryz.func99, Tryz.ntmps99
  go_wp2
  go_ret
  exact ⟨by rw [<- FS.out]; rfl, rfl⟩
 ·have FS : Hid (foldS n = 2 * n) := by show _ = _; rw [foldS, if_neg hn]
  rw [FS.out]
  go_enter Tryz.func99, Tryz.ntmps99
  go_wp2
  go_ret
  exact ⟨by first | rfl | (congr 2; omega) | (simp; omega), rfl⟩
theorem wsigned {w : World} {p q : Nat} {v : Value} {xs : List Int} {err : Int} (n : Int) (h : WInv w p q v xs err) (h0 : -9223372036854775808 <= n) (h1 : n <= 9223372036854775807) (hl : xs.length <= 140737488355300) (xs' : List Int) (hx : xs' = if err = 0 then xs ++ enc 10 (foldS n) else xs) :
  Calls Tryz.prog 61 #[.pointer (some ⟨p, 0, none⟩), .int .i64 n] w (WEnds p q v xs' err w) := by
 have HX : Hid _ := hx
 obtain ⟨b0, b1⟩ := foldS_bd n h0 h1
 clear hx
 go_enter Tryz.func61, Tryz.ntmps61
 go_wp2_with (first
  | (go_at_call 99; refine (fold_any n w h0 h1).mono ?_; rintro e w' ⟨rfl, rfl⟩)
  | (go_at_call 98; refine (wnumber (foldS n) h b0 b1 hl xs' HX.out).mono ?_; rintro e w' ⟨rfl, v', r1, r2⟩))
 go_end0
 exact ⟨rfl, v', r1, r2⟩
end Go.Proofs.YtobhemaikomdaaaGreatDoor.C
