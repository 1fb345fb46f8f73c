import Derived.Test.YtpbpombjndlnbaaGreatPFThyToFSame
import Derived.Test.YtpbpombjndlnbaaGreatPFChk1ToFOf
import Derived.Laws.AppendOwnNone
import Derived.Maps.AppendAt
import Derived.Test.YtpbpombjndlnbaaGreatPGRulesToGIn2
namespace Go.Proofs.YtpbpombjndlnbaaGreat
set_option linter.unusedVariables false
set_option maxRecDepth 100000
set_option maxHeartbeats 16000000
open Go.RowKit
def SL (l : List Int) : Prop := l.Pairwise (· < ·) /\ ∀ x ∈ l, 0 <= x /\ x < 128
theorem rise_ext : ∀ {a b : List Int}, a.Pairwise (· < ·) -> b.Pairwise (· < ·) -> (∀ x, x ∈ a ↔ x ∈ b) -> a = b
 | [], [], _, _, _ => rfl
 | [], y :: b, _, _, h => by have := (h y).2 (by simp); cases this
 | x :: a, [], _, _, h => by have := (h x).1 (by simp); cases this
 | x :: a, y :: b, ha, hb, h => by
  have ha' := List.pairwise_cons.1 ha
  have hb' := List.pairwise_cons.1 hb
  have e : x = y := by
   rcases List.mem_cons.1 ((h x).1 (by simp)) with q | q
   ·exact q
   ·rcases List.mem_cons.1 ((h y).2 (by simp)) with r | r
    ·exact r.symm
    ·have := hb'.1 x q
     have := ha'.1 y r
     omega
  subst e
  congr 1
  refine rise_ext ha'.2 hb'.2 (fun z => ⟨fun hz => ?_, fun hz => ?_⟩)
  ·rcases List.mem_cons.1 ((h z).1 (by simp [hz])) with q | q
   ·subst q; have := ha'.1 z hz; omega
   ·exact q
  ·rcases List.mem_cons.1 ((h z).2 (by simp [hz])) with q | q
   ·subst q; have := hb'.1 z hz; omega
   ·exact q
theorem SL.of (s : BS) : SL (listS s 128) := ⟨listS_rises s 128, fun x hx => by have := (listS_mem s 128 x).1 hx; omega⟩
theorem mem_set {l : List Int} (h : ∀ x ∈ l, 0 <= x /\ x < 128) (x : Int) : x ∈ l ↔ 0 <= x /\ x < 128 /\ hasS (setS l) x.toNat = true := by
 constructor
 ·intro hx
  have q := h x hx
  refine ⟨q.1, q.2, (setS_has h x.toNat (by omega)).2 ?_⟩
  rwa [show ((x.toNat : Nat) : Int) = x by omega]
 ·rintro ⟨a, b, c⟩
  have := (setS_has h x.toNat (by omega)).1 c
  rwa [show ((x.toNat : Nat) : Int) = x by omega] at this
theorem rise_set {l : List Int} {s : BS} (h : SL l) (hs : ∀ x, x ∈ l ↔ 0 <= x /\ x < 128 /\ hasS s x.toNat = true) : l = listS s 128 := rise_ext h.1 (listS_rises s 128) (fun x => by rw [hs, listS_mem]; simp)
theorem SL.list {l : List Int} (h : SL l) : listS (setS l) 128 = l := (rise_set h (mem_set h.2)).symm
theorem single_has {x : Int} (hx : 0 <= x /\ x < 128) (y : Int) (hy : 0 <= y /\ y < 128) : hasS (setS [x]) y.toNat = true ↔ y = x := by
 have := setS_has (l := [x]) (fun z hz => by obtain rfl := List.mem_singleton.1 hz; exact hx) y.toNat (by omega)
 rw [this, List.mem_singleton]
 omega
theorem SL.had {l : List Int} {x : Int} (h : SL l) (hx : x ∈ l) : l = listS (withS (setS l) (setS [x])) 128 := by
 have q := h.2 x hx
 refine rise_set h (fun y => ?_)
 rw [hasS_with]
 constructor
 ·intro hy
  have := (mem_set h.2 y).1 hy
  exact ⟨this.1, this.2.1, by rw [this.2.2]; rfl⟩
 ·rintro ⟨a, b, c⟩
  rcases Bool.or_eq_true_iff.1 c with c | c
  ·exact (mem_set h.2 y).2 ⟨a, b, c⟩
  ·rw [(single_has q y ⟨a, b⟩).1 c]; exact hx
theorem SL.ins {l : List Int} {x : Int} {i : Nat} (h : SL l) (hx : 0 <= x /\ x < 128) (hi : i <= l.length) (hb : ∀ j, j < i -> l.getD j 0 < x) (hc : i < l.length -> x < l.getD i 0) : l.take i ++ [x] ++ l.drop i = listS (withS (setS l) (setS [x])) 128 := by
 have ht : ∀ a ∈ l.take i, a < x := fun a ha => by
  obtain ⟨j, hj, rfl⟩ := List.getElem_of_mem ha
  have hj' : j < i /\ j < l.length := by simp at hj; omega
  have := hb j hj'.1
  simpa [List.getD, hj'.2] using this
 have hd : ∀ b ∈ l.drop i, x < b := fun b hb2 => by
  obtain ⟨k, hk, rfl⟩ := List.getElem_of_mem hb2
  have hk' : i + k < l.length := by simp at hk; omega
  have h0 := hc (by omega)
  rw [List.getElem_drop]
  rcases Nat.eq_zero_or_pos k with rfl | q
  ·simpa [List.getD, show i < l.length by omega] using h0
  ·have := List.pairwise_iff_getElem.1 h.1 i (i + k) (by omega) hk' (by omega)
   rw [show l.getD i 0 = l[i] by simp [List.getD, show i < l.length by omega]] at h0
   omega
 have hp : (l.take i ++ l.drop i).Pairwise (· < ·) := by rw [List.take_append_drop]; exact h.1
 have hp' := List.pairwise_append.1 hp
 have hm : ∀ y, y ∈ l.take i ++ [x] ++ l.drop i ↔ y ∈ l ∨ y = x := fun y => by
  have e : y ∈ l ↔ y ∈ l.take i ∨ y ∈ l.drop i := by rw [<- List.mem_append, List.take_append_drop]
  rw [e]
  simp only [List.mem_append, List.mem_singleton]
  constructor
  ·rintro ((a | a) | a)
   ·exact .inl (.inl a)
   ·exact .inr a
   ·exact .inl (.inr a)
  ·rintro ((a | a) | a)
   ·exact .inl (.inl a)
   ·exact .inr a
   ·exact .inl (.inr a)
 have hs : SL (l.take i ++ [x] ++ l.drop i) := by
  refine ⟨?_, fun y hy => ?_⟩
  ·refine List.pairwise_append.2 ⟨List.pairwise_append.2 ⟨hp'.1, by simp, fun a ha b hb2 => ?_⟩, hp'.2.1, fun a ha b hb2 => ?_⟩
   ·obtain rfl := List.mem_singleton.1 hb2; exact ht a ha
   ·rcases List.mem_append.1 ha with q | q
    ·exact hp'.2.2 a q b hb2
    ·obtain rfl := List.mem_singleton.1 q; exact hd b hb2
  ·rcases (hm y).1 hy with q | q
   ·exact h.2 y q
   ·rw [q]; exact hx
 refine rise_set hs (fun y => ?_)
 rw [hm, hasS_with]
 constructor
 ·rintro (a | a)
  ·have := (mem_set h.2 y).1 a
   exact ⟨this.1, this.2.1, by rw [this.2.2]; rfl⟩
  ·subst a
   exact ⟨hx.1, hx.2, by rw [(single_has hx y hx).2 rfl]; simp⟩
 ·rintro ⟨a, b, c⟩
  rcases Bool.or_eq_true_iff.1 c with c | c
  ·exact .inl ((mem_set h.2 y).2 ⟨a, b, c⟩)
  ·exact .inr ((single_has hx y ⟨a, b⟩).1 c)
theorem with_comm (a b : BS) : withS a b = withS b a := by simp [withS, Nat.or_comm]
theorem with_assoc (a b c : BS) : withS (withS a b) c = withS a (withS b c) := by simp [withS, Nat.or_assoc]
theorem with_zero (a : BS) : withS a (0, 0) = a := by simp [withS]
theorem zero_with (a : BS) : withS (0, 0) a = a := by simp [withS]
theorem setS_snoc (l : List Int) (x : Int) (hl : ∀ y ∈ l, 0 <= y /\ y < 128) (hx : 0 <= x /\ x < 128) : setS (l ++ [x]) = withS (setS l) (setS [x]) := by
 have h1 : ∀ y ∈ [x], 0 <= y /\ y < 128 := fun y hy => by obtain rfl := List.mem_singleton.1 hy; exact hx
 have h2 : ∀ y ∈ l ++ [x], 0 <= y /\ y < 128 := fun y hy => by
  rcases List.mem_append.1 hy with q | q
  ·exact hl y q
  ·exact h1 y q
 refine setS_ext (setS_ok h2) ((setS_ok hl).with (setS_ok h1)) (fun n hn => ?_)
 rw [hasS_with, Bool.eq_iff_iff, setS_has h2 n hn, Bool.or_eq_true_iff, setS_has hl n hn, setS_has h1 n hn, List.mem_append]
theorem setS_nil : setS [] = (0, 0) := rfl
theorem of_cons (N : List Bool) (F : List BS) (s : Int × Int) (r : List (Int × Int)) (k : BS) : ofS N F (s :: r) k = aheadS N F s (ofS N F r k) := rfl
theorem of_term {N : List Bool} {F : List BS} {l : List (Int × Int)} {i : Nat} (hi : i < l.length) (h : (l.getD i (0, 0)).1 = 1) : ofS N F (l.drop i) (0, 0) = setS [(l.getD i (0, 0)).2] := by
 rw [List.drop_eq_getElem_cons hi, of_cons, show l[i] = l.getD i (0, 0) by simp [List.getD, hi], aheadS, if_pos h]
theorem of_stop {N : List Bool} {F : List BS} {l : List (Int × Int)} {i : Nat} (hi : i < l.length) (h : (l.getD i (0, 0)).1 ≠ 1) (hn : N.getD (l.getD i (0, 0)).2.toNat false = false) : ofS N F (l.drop i) (0, 0) = F.getD (l.getD i (0, 0)).2.toNat (0, 0) := by
 rw [List.drop_eq_getElem_cons hi, of_cons, show l[i] = l.getD i (0, 0) by simp [List.getD, hi], aheadS, if_neg h, hn]
 rfl
theorem of_next {N : List Bool} {F : List BS} {l : List (Int × Int)} {i : Nat} (hi : i < l.length) (h : (l.getD i (0, 0)).1 ≠ 1) (hn : N.getD (l.getD i (0, 0)).2.toNat false = true) (acc : BS) : withS acc (ofS N F (l.drop i) (0, 0)) = withS (withS acc (F.getD (l.getD i (0, 0)).2.toNat (0, 0))) (ofS N F (l.drop (i + 1)) (0, 0)) := by
 rw [List.drop_eq_getElem_cons hi, of_cons, show l[i] = l.getD i (0, 0) by simp [List.getD, hi], aheadS, if_neg h, if_pos hn, with_assoc, with_comm (F.getD _ _)]
theorem of_end {N : List Bool} {F : List BS} {l : List (Int × Int)} : ofS N F (l.drop l.length) (0, 0) = (0, 0) := by
 rw [List.drop_length]; rfl
theorem part_within {s : BS} {l : List Int} (hs : OkS s) (hl : ∀ x ∈ l, 0 <= x /\ x < 128) : partL (listS s 128) l = decide (withS s (setS l) = setS l) := by
 rw [Bool.eq_iff_iff, decide_eq_true_eq, within_iff hs (setS_ok hl)]
 unfold partL
 rw [List.all_eq_true]
 constructor
 ·intro h n hn q
  have := h (n : Int) ((listS_mem s 128 _).2 ⟨by omega, by omega, by simpa using q⟩)
  obtain ⟨y, hy, e⟩ := List.any_eq_true.1 this
  have e' : y = (n : Int) := by simpa using e
  subst e'
  exact (setS_has hl n hn).2 hy
 ·intro h x hx
  have q := (listS_mem s 128 x).1 hx
  have := (setS_has hl x.toNat (by omega)).1 (h x.toNat (by omega) q.2.2)
  rw [show ((x.toNat : Nat) : Int) = x by omega] at this
  exact List.any_eq_true.2 ⟨x, this, by simp⟩
theorem rin_S (la : Option Addr) (lc : Nat) (l : List Int) (x : Int) (w : World) (hl : InRow w la l) (hll : l.length <= 140737488355328) :
  Calls Tryz.prog 73 #[.slice la l.length lc, .int .i64 x] w fun en w' => en = .returned (.bool (inL l x)) /\ Below w.heap.size w w' := by
 have HL : Hid (InRow w la l) := hl
 have HF : Hid (∀ k, k < l.length -> l.getD k 0 = x -> inL l x = true) := fun k hk h => List.any_eq_true.2 ⟨l.getD k 0, by simp [List.getD, hk], decide_eq_true h⟩
 have HY : Hid ((∀ k, k < l.length -> l.getD k 0 ≠ x) -> inL l x = false) := fun h => by
  rw [Bool.eq_false_iff]
  intro q
  obtain ⟨y, hy, e⟩ := List.any_eq_true.1 q
  obtain ⟨i, hi, rfl⟩ := List.getElem_of_mem hy
  exact h i hi (by simpa [List.getD, hi] using e)
 clear hl
 generalize hX : inL l x = X at *
 clear hX
 go_enter Tryz.func73, Tryz.ntmps73
 go_wp2
 go_loopw [5] (fun z wr => ∃ k : Nat, k <= l.length /\ z = .int .i64 k /\ wr = w /\ (∀ j, j < k -> l.getD j 0 ≠ x)) (fun z _ => l.length - (intOf z).toNat)
 case atStart => exact ⟨0, Nat.zero_le _, rfl, rfl, fun j hj => absurd hj (Nat.not_lt_zero j)⟩
 case round =>
  obtain ⟨k, hk, rfl, rfl, hf⟩ := hrel
  by_cases hlt : k < l.length
  ·obtain ⟨b, o, rfl, hbl, hc⟩ := HL.out (by intro e; rw [e] at hlt; simp at hlt)
   have c0 := hc k hlt
   have klt : (k : Int) < (l.length : Int) := by omega
   have HN : Hid (l.getD k 0 = x -> X = true) := HF.out k hlt
   have HS : Hid (∀ y, l.getD k 0 = y -> y ≠ x -> ∀ j, j < k + 1 -> l.getD j 0 ≠ x) := fun y hy h j hj => by
    by_cases q : j = k
    ·subst q; rw [hy]; exact h
    ·exact hf j (by omega)
   generalize hx : l.getD k 0 = y at *
   by_cases h1 : y = x
   ·have R : Hid (X = true) := HN.out h1
    have t1 : (y == x) = true := by simpa using h1
    clear hc hf hx h1
    go_wp2
    go_ret
    exact ⟨by rw [R.out]; rfl, Below.refl _ _⟩
   ·have R : Hid (∀ j, j < k + 1 -> l.getD j 0 ≠ x) := HS.out y rfl h1
    have t1 : (y == x) = false := by simpa using h1
    clear hc hf hx h1
    go_wp2
    go_roundw
    case rel => exact ⟨k + 1, by omega, by go_num, by first | rfl | trivial, R.out⟩
    case measure => simp [intOf]; omega
  ·obtain rfl : k = l.length := by omega
   have R : Hid (X = false) := HY.out hf
   clear hf
   go_wp2
   go_ret
   exact ⟨by rw [R.out]; rfl, Below.refl _ _⟩
theorem rwithin_S (aa la : Option Addr) (ac lc : Nat) (a l : List Int) (w : World) (ha : InRow w aa a) (hl : InRow w la l) (hal : a.length <= 140737488355328) (hll : l.length <= 140737488355328) :
  Calls Tryz.prog 43 #[.slice aa a.length ac, .slice la l.length lc] w fun en w' => en = .returned (.bool (partL a l)) /\ Below w.heap.size w w' := by
 have HL : Hid (∀ w', Below w.heap.size w w' -> InRow w' aa a) := fun w' hb => ha.later hb
 have IC : Hid (∀ w' x, Below w.heap.size w w' -> Calls Tryz.prog 73 #[.slice la l.length lc, .int .i64 x] w' fun en w'' => en = .returned (.bool (inL l x)) /\ Below w'.heap.size w' w'') := fun w' x hb => rin_S la lc l x w' (hl.later hb) hll
 have HF : Hid (∀ k, k < a.length -> inL l (a.getD k 0) = false -> partL a l = false) := fun k hk h => all_no hk h
 have HY : Hid ((∀ k, k < a.length -> inL l (a.getD k 0) = true) -> partL a l = true) := all_yes
 clear hl ha
 generalize hX : partL a l = X at *
 clear hX
 go_enter Tryz.func43, Tryz.ntmps43
 go_wp2
 go_loopw [5] (fun z wr => ∃ k : Nat, k <= a.length /\ z = .int .i64 k /\ Below w.heap.size w wr /\ (∀ j, j < k -> inL l (a.getD j 0) = true)) (fun z _ => a.length - (intOf z).toNat)
 case atStart => exact ⟨0, Nat.zero_le _, rfl, Below.refl _ _, fun j hj => absurd hj (Nat.not_lt_zero j)⟩
 case round =>
  obtain ⟨k, hk, rfl, hb, hf⟩ := hrel
  have HB : Hid (Below w.heap.size w wr) := hb
  by_cases hlt : k < a.length
  ·obtain ⟨b, o, rfl, hbl, hc⟩ := HL.out wr hb (by intro e; rw [e] at hlt; simp at hlt)
   have c0 := hc k hlt
   have klt : (k : Int) < (a.length : Int) := by omega
   have HN : Hid (inL l (a.getD k 0) = false -> X = false) := HF.out k hlt
   have HS : Hid (inL l (a.getD k 0) = true -> ∀ j, j < k + 1 -> inL l (a.getD j 0) = true) := fun h j hj => by
    by_cases q : j = k
    ·subst q; exact h
    ·exact hf j (by omega)
   have AC : Hid (Calls Tryz.prog 73 #[.slice la l.length lc, .int .i64 (a.getD k 0)] wr fun en w'' => en = .returned (.bool (inL l (a.getD k 0))) /\ Below wr.heap.size wr w'') := IC.out wr _ hb
   generalize inL l (a.getD k 0) = v at *
   generalize a.getD k 0 = y at *
   clear hc hf hb
   cases v
   ·have R : Hid (X = false) := HN.out rfl
    go_wp2_with (go_at_call 73; refine AC.out.mono ?_; rintro e w2 ⟨rfl, b2⟩; have B2 : Hid (Below w.heap.size w w2) := HB.out.trans (b2.mono HB.out.size); clear b2)
    go_ret
    exact ⟨by rw [R.out]; rfl, B2.out⟩
   ·have R : Hid (∀ j, j < k + 1 -> inL l (a.getD j 0) = true) := HS.out rfl
    go_wp2_with (go_at_call 73; refine AC.out.mono ?_; rintro e w2 ⟨rfl, b2⟩; have B2 : Hid (Below w.heap.size w w2) := HB.out.trans (b2.mono HB.out.size); clear b2)
    go_roundw
    case rel => exact ⟨k + 1, by omega, by go_num, B2.out, R.out⟩
    case measure => simp [intOf]; omega
  ·obtain rfl : k = a.length := by omega
   have R : Hid (X = true) := HY.out hf
   clear hf hb
   go_wp2
   go_ret
   exact ⟨by rw [R.out]; rfl, HB.out⟩
theorem rall_S (na : Option Addr) (nc : Nat) (N : List Bool) (la : Option Addr) (lc : Nat) (l : List (Int × Int)) (w : World) (hN : BRow w na N) (hl : SymRow w la l) (hll : l.length <= 1048576) (hnl : N.length <= 1048576) (hr : ∀ s ∈ l, s.1 = 2 -> 0 <= s.2 /\ s.2 < N.length) :
  Calls Tryz.prog 41 #[.slice na N.length nc, .slice la l.length lc] w fun e w' => e = .returned (.bool (allN N l)) /\ Below w.heap.size w w' := by
 have HK : Hid (BRow w na N) := hN
 have HL : Hid (SymRow w la l) := hl
 have HR : Hid (∀ s ∈ l, s.1 = 2 -> 0 <= s.2 /\ s.2 < N.length) := hr
 have HF : Hid (∀ k, k < l.length -> null1 N (l.getD k (0, 0)) = false -> allN N l = false) := fun k hk h => all_no hk h
 have HY : Hid ((∀ k, k < l.length -> null1 N (l.getD k (0, 0)) = true) -> allN N l = true) := all_yes
 clear hN hl hr
 generalize hX : allN N l = X at *
 clear hX
 go_enter Tryz.func41, Tryz.ntmps41
 go_wp2
 go_loopw [5] (fun z wr => ∃ k : Nat, k <= l.length /\ z = .int .i64 k /\ (∀ j, j < k -> null1 N (l.getD j (0, 0)) = true) /\ wr = w) (fun z _ => l.length - (intOf z).toNat)
 case atStart => exact ⟨0, Nat.zero_le _, rfl, fun j hj => absurd hj (Nat.not_lt_zero j), rfl⟩
 case round =>
  obtain ⟨k, hk, rfl, hf, rfl⟩ := hrel
  by_cases hlt : k < l.length
  ·obtain ⟨b, o, rfl, hbl, hc⟩ := HL.out (by intro e; rw [e] at hlt; simp at hlt)
   obtain ⟨c0, c1⟩ := hc k hlt
   have hm : l.getD k (0, 0) ∈ l := by simp [List.getD, hlt]
   have hin := HR.out _ hm
   have HN : Hid (null1 N (l.getD k (0, 0)) = false -> X = false) := HF.out k hlt
   have klt : (k : Int) < (l.length : Int) := by omega
   have HS : Hid (∀ x, l.getD k (0, 0) = x -> null1 N x = true -> ∀ j, j < k + 1 -> null1 N (l.getD j (0, 0)) = true) := fun x hx h j hj => by
    by_cases e : j = k
    ·subst e; rw [hx]; exact h
    ·exact hf j (by omega)
   generalize hx : l.getD k (0, 0) = x at *
   obtain ⟨x1, x2⟩ := x
   simp only at c0 c1 hin
   by_cases h2 : x1 = 2
   ·obtain ⟨i0, i1⟩ := hin h2
    subst h2
    obtain ⟨m, rfl⟩ : ∃ m : Nat, x2 = (m : Int) := ⟨x2.toNat, by omega⟩
    have hm2 : m < N.length := by omega
    obtain ⟨nb, no, rfl, hnb, hnc⟩ := HK.out (by intro e; rw [e] at hm2; simp at hm2)
    have kc := hnc m hm2
    have e2 : ((2 : Int) != 2) = false := by decide
    have V : Hid (null1 N (2, (m : Int)) = N.getD m false) := by show _ = _; simp [null1]
    generalize hv : N.getD m false = v at *
    cases v
    ·have R : Hid (X = false) := HN.out V.out
     clear hc hf hm hx hv hnc
     go_wp2
     go_ret
     exact ⟨by rw [R.out]; rfl, Below.refl _ _⟩
    ·have R : Hid (∀ j, j < k + 1 -> null1 N (l.getD j (0, 0)) = true) := HS.out _ rfl V.out
     clear hc hf hm hx hv hnc
     go_wp2
     go_roundw
     case rel => exact ⟨k + 1, by omega, by go_num, R.out, by first | rfl | trivial⟩
     case measure => simp [intOf]; omega
   ·have e2 : (x1 != 2) = true := by simp [h2]
    have R : Hid (X = false) := HN.out (by simp [null1, h2])
    clear hc hf hm hx
    go_wp2
    go_ret
    exact ⟨by rw [R.out]; rfl, Below.refl _ _⟩
  ·obtain rfl : k = l.length := by omega
   have R : Hid (X = true) := HY.out hf
   clear hf
   go_wp2
   go_ret
   exact ⟨by rw [R.out]; rfl, Below.refl _ _⟩
def Shp (la : Option Addr) (lc : Nat) : Prop := (la = none /\ lc = 0) ∨ ∃ b o, la = some ⟨b, o, none⟩
theorem InRow.take {w : World} {la : Option Addr} {l : List Int} (h : InRow w la l) (i : Nat) : InRow w la (l.take i) := fun hne => by
 have hl : l ≠ [] := fun e => hne (by rw [e]; simp)
 obtain ⟨b, o, e, hb, hc⟩ := h hl
 refine ⟨b, o, e, hb, fun k hk => ?_⟩
 have hk' : k < i /\ k < l.length := by simp at hk; omega
 rw [hc k hk'.2]
 simp [List.getD, hk'.1]
theorem InRow.drop {w : World} {b o : Nat} {l : List Int} (h : InRow w (some ⟨b, o, none⟩) l) (i : Nat) : InRow w (some ⟨b, o + i, none⟩) (l.drop i) := fun hne => by
 have hl : l ≠ [] := fun e => hne (by rw [e]; simp)
 obtain ⟨b', o', e, hb, hc⟩ := h hl
 simp only [Option.some.injEq, Addr.mk.injEq, and_true] at e
 obtain ⟨rfl, rfl⟩ := e
 refine ⟨b, o + i, rfl, hb, fun k hk => ?_⟩
 have hk' : i + k < l.length := by simp at hk; omega
 have := hc (i + k) hk'
 rw [<- Nat.add_assoc] at this
 rw [this]
 simp [List.getD]
theorem InRow.nilr (w : World) (la : Option Addr) : InRow w la [] := fun h => absurd rfl h
theorem slice_to (la : Option Addr) (lc len i : Nat) (hi : i <= lc) (hs : Shp la lc) :
  ∃ ya c', (∀ w, (Instr.slice 47 (.slice la len lc) none (some (.int .i64 (i : Int))) none).run Tryz.prog w = .ok (.slice ya i c') w) /\ Shp ya c' /\ ∀ w l, InRow w la l -> InRow w ya (l.take i) := by
 obtain ⟨i0, hinf, _, hz1, _⟩ := infoInt_parts
 have hu : Tryz.prog.underlying 47 = some (.slice (Tryz.prog.elem 47)) := by kernel_rfl
 have he : Tryz.prog.elem 47 = 3 := by kernel_rfl
 have hrun : ∀ w : World, (Instr.slice 47 (.slice la len lc) none (some (.int .i64 (i : Int))) none).run Tryz.prog w = .ok (sliced la 0 i lc 1) w := by
  intro w
  have := run_slice_h (P := Tryz.prog) (w := w) 47 la len lc hu .i64 (i : Int) (by omega) (by omega)
  rw [this, he]
  simp [sizeOf, typeInfo, hinf, hz1]
 have e : sliced la 0 i lc 1 = .slice la i lc := by
  unfold sliced
  rcases hs with ⟨rfl, rfl⟩ | ⟨b, o, rfl⟩
  ·simp
  ·split <;> simp [add_none]
 exact ⟨la, lc, fun w => by rw [hrun w, e], hs, fun w l h => h.take i⟩
theorem slice_fro (la : Option Addr) (lc len i : Nat) (hi : i <= len) (hc : len <= lc) (hs : Shp la lc) :
  ∃ ya c', (∀ w, (Instr.slice 47 (.slice la len lc) (some (.int .i64 (i : Int))) none none).run Tryz.prog w = .ok (.slice ya (len - i) c') w) /\ Shp ya c' /\ ∀ w (l : List Int), l.length = len -> InRow w la l -> InRow w ya (l.drop i) := by
 obtain ⟨i0, hinf, _, hz1, _⟩ := infoInt_parts
 have hu : Tryz.prog.underlying 47 = some (.slice (Tryz.prog.elem 47)) := by kernel_rfl
 have he : Tryz.prog.elem 47 = 3 := by kernel_rfl
 have hrun : ∀ w : World, (Instr.slice 47 (.slice la len lc) (some (.int .i64 (i : Int))) none none).run Tryz.prog w = .ok (sliced la i len lc 1) w := by
  intro w
  have := run_slice_l (P := Tryz.prog) (w := w) 47 la len lc hu .i64 (i : Int) (by omega) (by omega)
  rw [this, he]
  simp [sizeOf, typeInfo, hinf, hz1]
 by_cases hcp : lc = i
 ·refine ⟨la, lc - i, fun w => by rw [hrun w]; simp [sliced, hcp], ?_, fun w l hl h => ?_⟩
  ·rcases hs with ⟨rfl, rfl⟩ | q
   ·exact .inl ⟨rfl, by omega⟩
   ·exact .inr q
  ·rw [List.drop_eq_nil_of_le (by omega)]
   exact InRow.nilr _ _
 ·rcases hs with ⟨rfl, rfl⟩ | ⟨b, o, rfl⟩
  ·omega
  ·exact ⟨some ⟨b, o + i, none⟩, lc - i, fun w => by rw [hrun w]; simp [sliced, hcp, add_none], .inr ⟨b, o + i, rfl⟩, fun w l _ h => h.drop i⟩
theorem wpList_il_cat {ops : Array Oper} {rest : List Oper} {o : Oper} {a : Act} {Q : Exit -> Act -> World -> Prop} {w : World} (hgd : o.guard = none) (s x : Operand)
  (ho : o.op = .call { callee := .builtin .append, args := #[s, x], argTypes := #[47, 47] })
  (v : Value) (l : List Int) (hs : a.eval s = v) (h : IL w v l) (ya : Option Addr) (c : Nat) (n : Nat) (zs : List Int) (hx : a.eval x = .slice ya n c) (hn : zs.length = n) (hya : Shp ya c) (hr : InRow w ya zs) (hlen : l.length + zs.length <= 100000000)
  (hK : ∀ a' n' c' w', IL w' (.slice a' n' c') (l ++ zs) -> Grew w w' v (.slice a' n' c') -> wpList Tryz.prog ops Q rest (a.put o.dst (.slice a' n' c')) w') : wpList Tryz.prog ops Q (o :: rest) a w := by
 obtain ⟨i0, hi, hz0, hz1, hz2⟩ := infoInt_parts
 subst hn
 rcases hya with ⟨rfl, rfl⟩ | ⟨b, off, rfl⟩
 ·have hz : zs = [] := by
   by_cases q : zs = []
   ·exact q
   ·obtain ⟨_, _, e, _⟩ := hr q; cases e
  subst hz
  refine wpList_append_own_none hgd s x 47 ho 0 3 i0 1 Tryz.underlying47 hi v l.length (l.map (.int .i64 ·)) hs h hx ?_
  obtain ⟨a', c', rfl⟩ := il_len h
  exact hK _ _ _ w (by simpa using h) ⟨⟨rfl, rfl, rfl, Nat.le_refl _, fun _ _ _ => rfl⟩, .inl rfl⟩
 ·refine wpList_append_own_at w hgd s x 47 ho 0 3 i0 (.int .i64 0) 1 8 Tryz.underlying47 hi hz0 hz1 hz2 rfl (by decide) v l.length (l.map (.int .i64 ·)) hs h ⟨b, off, none⟩ zs.length c (zs.map (.int .i64 ·)) hx (by simp) ?_ ?_ (by unfold maxLen; omega) (by omega) (Nat.zero_le _) ?_
  ·intro j u hu
   have hj : j < zs.length := by have := (List.getElem?_eq_some_iff.1 hu).1; simpa using this
   obtain ⟨b', off', e, _, hc⟩ := hr (by intro h; subst h; simp at hj)
   simp at e
   obtain ⟨rfl, rfl⟩ := e
   rw [add_none, hc j hj, <- hu]
   simp [List.getD, hj]
  ·intro u hu; simp at hu; obtain ⟨y, _, rfl⟩ := hu; rfl
  ·intro v' w' h2 h3 _ h5
   have h6 : IL w' v' (l ++ zs) := by unfold IL; simpa using h2
   obtain ⟨a', c', rfl⟩ := il_len h6
   exact hK _ _ _ w' h6 ⟨h3, h5.imp id fun e => ⟨_, e, Nat.le_refl _⟩⟩
theorem IL.inrow4 {w : World} {a : Option Addr} {n c : Nat} {l : List Int} (h : IL w (.slice a n c) l) : n = l.length /\ InRow w a l /\ Shp a c /\ l.length <= c := by
 rcases h.2 with ⟨e, h0⟩ | ⟨g2, cap, cur, e, h1, h2, h3, h4⟩
 ·simp only [Value.slice.injEq] at e
  obtain ⟨rfl, rfl, rfl⟩ := e
  have : l = [] := List.eq_nil_of_length_eq_zero h0
  subst this
  exact ⟨rfl, InRow.nilr _ _, .inl ⟨rfl, rfl⟩, Nat.le_refl _⟩
 ·have hc := fun j x hx => World.ownsRow.cells h (g := g2) (by rw [e]; rfl) j x hx
  simp only [Value.slice.injEq] at e
  obtain ⟨rfl, rfl, rfl⟩ := e
  refine ⟨rfl, fun hne => ⟨g2, 0, rfl, lt_of_block h2, fun i hi => ?_⟩, .inr ⟨g2, 0, rfl⟩, h3⟩
  have r1 := hc i (.int .i64 (l.getD i 0)) (by simp [List.getD, hi])
  rw [add_none] at r1
  exact r1
theorem cell_newX (w : World) (x : Value) (t : TypeId) : (w.alloc (.cells #[x] t)).cell? ⟨w.heap.size, 0, none⟩ = some x := by
 have := heap_alloc_new w (.cells #[x] t)
 simp only [World.cell?, this]; rfl
theorem own_nil (B : Nat) : ∀ k, (Value.slice none 0 0).ownBlock = some k -> B <= k := fun k h => by cases h
theorem SL.len {l : List Int} (h : SL l) : l.length <= 128 := by rw [<- h.list]; exact listS_len _ _
theorem radd_S (la : Option Addr) (lc : Nat) (l : List Int) (x : Int) (w : World) (hl : InRow w la l) (hs : SL l) (hx : 0 <= x /\ x < 128) (hcap : l.length <= lc) (hsh : Shp la lc) :
  Calls Tryz.prog 72 #[.slice la l.length lc, .int .i64 x] w fun e w' => ∃ a c, e = .returned (.slice a (listS (withS (setS l) (setS [x])) 128).length c) /\ InRow w' a (listS (withS (setS l) (setS [x])) 128) /\ Shp a c /\ (listS (withS (setS l) (setS [x])) 128).length <= c /\ Below w.heap.size w w' := by
 have hll := hs.len
 have T0 : Hid True := trivial
 have HL : Hid (InRow w la l) := hl
 have HSH : Hid (Shp la lc) := hsh
 have HAD : Hid (∀ k, k < l.length -> l.getD k 0 = x -> l = listS (withS (setS l) (setS [x])) 128) := fun k hk e => hs.had (by rw [<- e]; simp [List.getD, hk])
 have HIN : Hid (∀ i, i <= l.length -> (∀ j, j < i -> l.getD j 0 < x) -> (i < l.length -> x < l.getD i 0) -> l.take i ++ [x] ++ l.drop i = listS (withS (setS l) (setS [x])) 128) := fun i hi hb hc => hs.ins hx hi hb hc
 clear hl hs hsh hx
 generalize listS (withS (setS l) (setS [x])) 128 = R at *
 go_enter Tryz.func72, Tryz.ntmps72
 go_wp2
 go_loopw [5] (fun z wr => ∃ k : Nat, k <= l.length /\ z = .int .i64 k /\ (∀ j, j < k -> l.getD j 0 < x) /\ w = wr) (fun z _ => l.length - (intOf z).toNat)
 case atStart => exact ⟨0, Nat.zero_le _, rfl, fun j hj => absurd hj (Nat.not_lt_zero j), rfl⟩
 case round =>
  obtain ⟨k, hk, rfl, hf, rfl⟩ := hrel
  by_cases hlt : k < l.length
  ·obtain ⟨b, o, hla, hbl, hc⟩ := HL.out (by intro e; rw [e] at hlt; simp at hlt)
   subst hla
   have c0 := hc k hlt
   have klt : (k : Int) < (l.length : Int) := by omega
   have HS : Hid (l.getD k 0 < x -> ∀ j, j < k + 1 -> l.getD j 0 < x) := fun h j hj => by
    by_cases q : j = k
    ·subst q; exact h
    ·exact hf j (by omega)
   have HA : Hid (l.getD k 0 = x -> l = R) := HAD.out k hlt
   have HI : Hid (x < l.getD k 0 -> l.take k ++ [x] ++ l.drop k = R) := fun h => HIN.out k hk hf (fun _ => h)
   clear hc
   generalize l.getD k 0 = y at *
   by_cases h1 : y < x
   ·have R1 : Hid (∀ j, j < k + 1 -> l.getD j 0 < x) := HS.out h1
    clear hf
    go_wp2
    go_roundw
    case rel => exact ⟨k + 1, by omega, by go_num, R1.out, by first | rfl | trivial⟩
    case measure => simp [intOf]; omega
   ·by_cases h2 : y = x
    ·have R1 : Hid (l = R) := HA.out h2
     have t1 : (y == x) = true := by simpa using h2
     clear hf h2
     go_wp2
     go_ret
     exact ⟨some ⟨b, o, none⟩, lc, by rw [<- R1.out]; rfl, by rw [<- R1.out]; exact HL.out, HSH.out, by rw [<- R1.out]; exact hcap, Below.refl _ _⟩
    ·have t1 : (y == x) = false := by simpa using h2
     have RI : Hid (l.take k ++ [x] ++ l.drop k = R) := HI.out (by omega)
     clear h2 HA HI HS
     obtain ⟨y1, e1, hsl1, sh1, rw1⟩ := slice_to (some ⟨b, o, none⟩) lc l.length k (by omega) HSH.out
     obtain ⟨y2, e2, hsl2, sh2, rw2⟩ := slice_fro (some ⟨b, o, none⟩) lc l.length k (by omega) hcap HSH.out
     have Q1 : Hid (Shp y1 e1 /\ InRow w y1 (l.take k) /\ (l.take k).length = k) := ⟨sh1, rw1 w l HL.out, by rw [List.length_take]; omega⟩
     have Q2 : Hid (Shp y2 e2 /\ ∀ w', Below w.heap.size w w' -> InRow w' y2 (l.drop k)) := ⟨sh2, fun w' hb => rw2 w' l rfl (HL.out.later hb)⟩
     have Q3 : Hid ((l.drop k).length = l.length - k /\ (l.take k).length <= 128 /\ (l.drop k).length <= 128) := ⟨List.length_drop .., by rw [List.length_take]; omega, by rw [List.length_drop]; omega⟩
     clear sh1 rw1 sh2 rw2 HL HSH HAD HIN hf
     generalize l.take k = l1 at *
     generalize l.drop k = l2 at *
     go_wp2_with (first
      | (at_builtin; guard_hyp T0 : Hid True; clear T0; refine wpList_il_cat rfl _ _ rfl (.slice none 0 0) [] rfl (IL.nil _) y1 e1 k l1 rfl Q1.out.2.2 Q1.out.1 Q1.out.2.1 (by have := Q3.out; simp; omega) ?_; intro a2 n2 c2 w2 i2 g2; have G2 : Hid (IL w2 (.slice a2 n2 c2) l1 /\ Below w.heap.size w w2 /\ ∀ k, (Value.slice a2 n2 c2).ownBlock = some k -> w.heap.size <= k) := ⟨i2, grew_belowI (Below.refl _ _) (own_nil _) g2⟩; clear i2 g2; have T1 : Hid True := trivial)
      | (at_builtin; guard_hyp T1 : Hid True; clear T1; refine wpList_il_append rfl _ _ rfl (.slice a2 n2 c2) l1 rfl (G2.out.1.later (below_alloc _ _)) w2.heap.size 1 x rfl (cell_newX w2 _ _) (by have := Q3.out; omega) ?_; intro a3 n3 c3 w3 i3 g3; have G3 : Hid (IL w3 (.slice a3 n3 c3) (l1 ++ [x]) /\ Below w.heap.size w w3 /\ ∀ k, (Value.slice a3 n3 c3).ownBlock = some k -> w.heap.size <= k) := ⟨i3, grew_belowI (G2.out.2.1.alloc G2.out.2.1.size _) G2.out.2.2 g3⟩; clear i3 g3; have T2 : Hid True := trivial)
      | (at_builtin; guard_hyp T2 : Hid True; clear T2; refine wpList_il_cat rfl _ _ rfl (.slice a3 n3 c3) (l1 ++ [x]) rfl G3.out.1 y2 e2 (l.length - k) l2 rfl Q3.out.1 Q2.out.1 (Q2.out.2 _ G3.out.2.1) (by have := Q3.out; simp; omega) ?_; intro a4 n4 c4 w4 i4 g4; have G4 : Hid (IL w4 (.slice a4 n4 c4) (l1 ++ [x] ++ l2) /\ Below w.heap.size w w4) := ⟨i4, (grew_belowI G3.out.2.1 G3.out.2.2 g4).1⟩; clear i4 g4))
     go_ret
     obtain ⟨q1, q2, q3, q4⟩ := G4.out.1.inrow4
     rw [RI.out] at q1 q2 q4
     subst q1
     exact ⟨a4, c4, rfl, q2, q3, q4, G4.out.2⟩
  ·have RI : Hid (l.take k ++ [x] ++ l.drop k = R) := HIN.out k hk hf (fun h => absurd h hlt)
   have klt : ¬ (k : Int) < (l.length : Int) := by omega
   obtain ⟨y1, e1, hsl1, sh1, rw1⟩ := slice_to la lc l.length k (by omega) HSH.out
   obtain ⟨y2, e2, hsl2, sh2, rw2⟩ := slice_fro la lc l.length k (by omega) hcap HSH.out
   have Q1 : Hid (Shp y1 e1 /\ InRow w y1 (l.take k) /\ (l.take k).length = k) := ⟨sh1, rw1 w l HL.out, by rw [List.length_take]; omega⟩
   have Q2 : Hid (Shp y2 e2 /\ ∀ w', Below w.heap.size w w' -> InRow w' y2 (l.drop k)) := ⟨sh2, fun w' hb => rw2 w' l rfl (HL.out.later hb)⟩
   have Q3 : Hid ((l.drop k).length = l.length - k /\ (l.take k).length <= 128 /\ (l.drop k).length <= 128) := ⟨List.length_drop .., by rw [List.length_take]; omega, by rw [List.length_drop]; omega⟩
   clear sh1 rw1 sh2 rw2 HL HSH HAD HIN hf
   generalize l.take k = l1 at *
   generalize l.drop k = l2 at *
   go_wp2_with (first
    | (at_builtin; guard_hyp T0 : Hid True; clear T0; refine wpList_il_cat rfl _ _ rfl (.slice none 0 0) [] rfl (IL.nil _) y1 e1 k l1 rfl Q1.out.2.2 Q1.out.1 Q1.out.2.1 (by have := Q3.out; simp; omega) ?_; intro a2 n2 c2 w2 i2 g2; have G2 : Hid (IL w2 (.slice a2 n2 c2) l1 /\ Below w.heap.size w w2 /\ ∀ k, (Value.slice a2 n2 c2).ownBlock = some k -> w.heap.size <= k) := ⟨i2, grew_belowI (Below.refl _ _) (own_nil _) g2⟩; clear i2 g2; have T1 : Hid True := trivial)
    | (at_builtin; guard_hyp T1 : Hid True; clear T1; refine wpList_il_append rfl _ _ rfl (.slice a2 n2 c2) l1 rfl (G2.out.1.later (below_alloc _ _)) w2.heap.size 1 x rfl (cell_newX w2 _ _) (by have := Q3.out; omega) ?_; intro a3 n3 c3 w3 i3 g3; have G3 : Hid (IL w3 (.slice a3 n3 c3) (l1 ++ [x]) /\ Below w.heap.size w w3 /\ ∀ k, (Value.slice a3 n3 c3).ownBlock = some k -> w.heap.size <= k) := ⟨i3, grew_belowI (G2.out.2.1.alloc G2.out.2.1.size _) G2.out.2.2 g3⟩; clear i3 g3; have T2 : Hid True := trivial)
    | (at_builtin; guard_hyp T2 : Hid True; clear T2; refine wpList_il_cat rfl _ _ rfl (.slice a3 n3 c3) (l1 ++ [x]) rfl G3.out.1 y2 e2 (l.length - k) l2 rfl Q3.out.1 Q2.out.1 (Q2.out.2 _ G3.out.2.1) (by have := Q3.out; simp; omega) ?_; intro a4 n4 c4 w4 i4 g4; have G4 : Hid (IL w4 (.slice a4 n4 c4) (l1 ++ [x] ++ l2) /\ Below w.heap.size w w4) := ⟨i4, (grew_belowI G3.out.2.1 G3.out.2.2 g4).1⟩; clear i4 g4))
   go_ret
   obtain ⟨q1, q2, q3, q4⟩ := G4.out.1.inrow4
   rw [RI.out] at q1 q2 q4
   subst q1
   exact ⟨a4, c4, rfl, q2, q3, q4, G4.out.2⟩
def JL (w : World) (v : Value) (s : BS) : Prop := ∃ a c, v = .slice a (listS s 128).length c /\ InRow w a (listS s 128) /\ Shp a c /\ (listS s 128).length <= c
theorem JL.later {w w' : World} {v : Value} {s : BS} (h : JL w v s) (hb : Below w.heap.size w w') : JL w' v s := by
 obtain ⟨a, c, e, r, q⟩ := h
 exact ⟨a, c, e, r.later hb, q⟩
theorem JL.val {w : World} {v : Value} {s : BS} (h : JL w v s) : ∃ a n c, v = .slice a n c /\ JL w (.slice a n c) s := by
 obtain ⟨a, c, rfl, q⟩ := h
 exact ⟨a, _, c, rfl, a, c, rfl, q⟩
theorem listS_zero : listS (0, 0) 128 = [] := by decide +kernel
theorem JL.nil (w : World) : JL w (.slice none 0 0) (0, 0) := ⟨none, 0, by rw [listS_zero]; rfl, by rw [listS_zero]; exact InRow.nilr _ _, .inl ⟨rfl, rfl⟩, by rw [listS_zero]; simp⟩
theorem radd_J (v : Value) (s : BS) (x : Int) (w : World) (h : JL w v s) (hs : OkS s) (hx : 0 <= x /\ x < 128) :
  Calls Tryz.prog 72 #[v, .int .i64 x] w fun e w' => ∃ v', e = .returned v' /\ JL w' v' (withS s (setS [x])) /\ Below w.heap.size w w' := by
 obtain ⟨a, c, rfl, r, q1, q2⟩ := h
 refine (radd_S a c (listS s 128) x w r (SL.of s) hx q2 q1).mono ?_
 rw [set_list hs]
 rintro e w' ⟨a', c', rfl, r', q', l', b'⟩
 exact ⟨_, rfl, ⟨a', c', rfl, r', q', l'⟩, b'⟩
theorem take_snoc {α : Type} (l : List α) (d : α) {k : Nat} (hk : k < l.length) : l.take (k + 1) = l.take k ++ [l.getD k d] := by
 rw [List.take_succ_eq_append_getElem hk]
 simp [List.getD, hk]
theorem setS_step {l : List Int} (h : ∀ x ∈ l, 0 <= x /\ x < 128) {k : Nat} (hk : k < l.length) : withS (setS (l.take k)) (setS [l.getD k 0]) = setS (l.take (k + 1)) := by
 rw [take_snoc l 0 hk, setS_snoc _ _ (fun y hy => h y (List.mem_of_mem_take hy)) (h _ (by simp [List.getD, hk]))]
theorem rjoin_S (va : Value) (s : BS) (ba : Option Addr) (bc : Nat) (b : List Int) (w : World) (hva : JL w va s) (hs : OkS s) (hb : InRow w ba b) (hbr : ∀ x ∈ b, 0 <= x /\ x < 128) (hbl : b.length <= 140737488355328) :
  Calls Tryz.prog 44 #[va, .slice ba b.length bc] w fun e w' => ∃ v, e = .returned v /\ JL w' v (withS s (setS b)) /\ Below w.heap.size w w' := by
 obtain ⟨aa, ac, rfl, har, _, _⟩ := hva
 have hal := listS_len s 128
 have HA : Hid (∀ w', Below w.heap.size w w' -> InRow w' aa (listS s 128)) := fun w' hb => har.later hb
 have HB : Hid (∀ w', Below w.heap.size w w' -> InRow w' ba b) := fun w' h => hb.later h
 have HS1 : Hid (∀ k, k < (listS s 128).length -> 0 <= (listS s 128).getD k 0 /\ (listS s 128).getD k 0 < 128) := fun k hk => (SL.of s).2 _ (by simp [List.getD, hk])
 have HS2 : Hid (∀ k, k < b.length -> 0 <= b.getD k 0 /\ b.getD k 0 < 128) := fun k hk => hbr _ (by simp [List.getD, hk])
 have HT1 : Hid (∀ k, k < (listS s 128).length -> withS (setS ((listS s 128).take k)) (setS [(listS s 128).getD k 0]) = setS ((listS s 128).take (k + 1))) := fun k hk => setS_step (SL.of s).2 hk
 have HT2 : Hid (∀ k, k < b.length -> withS (withS s (setS (b.take k))) (setS [b.getD k 0]) = withS s (setS (b.take (k + 1)))) := fun k hk => by rw [with_assoc, setS_step hbr hk]
 have HE : Hid (setS ((listS s 128).take (listS s 128).length) = s) := by show _ = _; rw [List.take_length]; exact set_list hs
 have HO1 : Hid (∀ k, OkS (setS ((listS s 128).take k))) := fun k => setS_ok (fun y hy => (SL.of s).2 y (List.mem_of_mem_take hy))
 have HO2 : Hid (∀ k, OkS (withS s (setS (b.take k)))) := fun k => hs.with (setS_ok (fun y hy => hbr y (List.mem_of_mem_take hy)))
 have HZ : Hid (withS s (setS (b.take 0)) = s /\ withS s (setS (b.take b.length)) = withS s (setS b)) := ⟨by rw [List.take_zero, setS_nil, with_zero], by rw [List.take_length]⟩
 clear har hb hbr hs
 generalize listS s 128 = a at *
 go_enter Tryz.func44, Tryz.ntmps44
 go_wp2
 go_loopw [5, 6] (fun v i wr => ∃ k : Nat, k <= a.length /\ i = .int .i64 k /\ JL wr v (setS (a.take k)) /\ Below w.heap.size w wr) (fun _ i _ => a.length - (intOf i).toNat)
 case atStart => exact ⟨0, Nat.zero_le _, rfl, JL.nil _, Below.refl _ _⟩
 case round =>
  obtain ⟨k, hk, rfl, hJ, hbw⟩ := hrel
  obtain ⟨qa, qn, qc, rfl, hJ⟩ := hJ.val
  have W1 : Hid (Below w.heap.size w wr) := hbw
  by_cases hlt : k < a.length
  ·obtain ⟨b1, o1, rfl, hb1, hc⟩ := HA.out wr hbw (by intro e; rw [e] at hlt; simp at hlt)
   have c0 := hc k hlt
   have klt : (k : Int) < (a.length : Int) := by omega
   have AC : Hid (Calls Tryz.prog 72 #[.slice qa qn qc, .int .i64 (a.getD k 0)] wr fun e w' => ∃ v', e = .returned v' /\ JL w' v' (setS (a.take (k + 1))) /\ Below wr.heap.size wr w') := by
    have := radd_J (.slice qa qn qc) _ (a.getD k 0) wr hJ (HO1.out k) (HS1.out k hlt)
    rwa [HT1.out k hlt] at this
   clear hc hJ hbw
   generalize a.getD k 0 = y at *
   go_wp2_with (go_at_call 72; refine AC.out.mono ?_; rintro e w2 ⟨v2, rfl, j2, b2⟩; obtain ⟨ra, rn, rc, rfl, j2⟩ := j2.val; have B2 : Hid (JL w2 (.slice ra rn rc) (setS (a.take (k + 1))) /\ Below w.heap.size w w2) := ⟨j2, W1.out.trans (b2.mono W1.out.size)⟩; clear j2 b2)
   go_roundw
   case rel => exact ⟨k + 1, by omega, by go_num, B2.out.1, B2.out.2⟩
   case measure => simp [intOf]; omega
  ·obtain rfl : k = a.length := by omega
   have J1 : Hid (JL wr (.slice qa qn qc) (withS s (setS (b.take 0)))) := by show JL _ _ _; rw [HZ.out.1, <- HE.out]; exact hJ
   clear hJ hbw
   go_wp2
   go_loopw [5, 7] (fun v i wr => ∃ k : Nat, k <= b.length /\ i = .int .i64 k /\ JL wr v (withS s (setS (b.take k))) /\ Below w.heap.size w wr) (fun _ i _ => b.length - (intOf i).toNat)
   case atStart => exact ⟨0, Nat.zero_le _, rfl, J1.out, W1.out⟩
   case round =>
    obtain ⟨k, hk, rfl, hJ, hbw⟩ := hrel
    obtain ⟨qa, qn, qc, rfl, hJ⟩ := hJ.val
    have W2 : Hid (Below w.heap.size w wr) := hbw
    by_cases hlt : k < b.length
    ·obtain ⟨b1, o1, rfl, hb1, hc⟩ := HB.out wr hbw (by intro e; rw [e] at hlt; simp at hlt)
     have c0 := hc k hlt
     have klt : (k : Int) < (b.length : Int) := by omega
     have AC : Hid (Calls Tryz.prog 72 #[.slice qa qn qc, .int .i64 (b.getD k 0)] wr fun e w' => ∃ v', e = .returned v' /\ JL w' v' (withS s (setS (b.take (k + 1)))) /\ Below wr.heap.size wr w') := by
      have := radd_J (.slice qa qn qc) _ (b.getD k 0) wr hJ (HO2.out k) (HS2.out k hlt)
      rwa [HT2.out k hlt] at this
     clear hc hJ hbw
     generalize b.getD k 0 = y at *
     go_wp2_with (go_at_call 72; refine AC.out.mono ?_; rintro e w2 ⟨v2, rfl, j2, b2⟩; obtain ⟨ra, rn, rc, rfl, j2⟩ := j2.val; have B2 : Hid (JL w2 (.slice ra rn rc) (withS s (setS (b.take (k + 1)))) /\ Below w.heap.size w w2) := ⟨j2, W2.out.trans (b2.mono W2.out.size)⟩; clear j2 b2)
     go_roundw
     case rel => exact ⟨k + 1, by omega, by go_num, B2.out.1, B2.out.2⟩
     case measure => simp [intOf]; omega
    ·obtain rfl : k = b.length := by omega
     have J2 : Hid (JL wr (.slice qa qn qc) (withS s (setS b))) := by show JL _ _ _; rw [<- HZ.out.2]; exact hJ
     clear hJ hbw
     go_wp2
     go_ret
     exact ⟨_, rfl, J2.out, W2.out⟩
theorem rbegins_S (na : Option Addr) (nc : Nat) (N : List Bool) (fa : Option Addr) (fc : Nat) (L : List (List Int)) (la : Option Addr) (lc : Nat) (l : List (Int × Int)) (w : World) (hN : BRow w na N) (hL : LsRow w fa L) (hl : SymRow w la l) (hll : l.length <= 140737488355328) (hnl : N.length <= 1048576) (hLN : L.length = N.length) (hs : ∀ s ∈ l, SymIn N.length s) (hr : ∀ z ∈ L, (∀ x ∈ z, 0 <= x /\ x < 128) /\ z.length <= 140737488355328) :
  Calls Tryz.prog 42 #[.slice na N.length nc, .slice fa L.length fc, .slice la l.length lc] w fun e w' => ∃ v, e = .returned v /\ JL w' v (ofS N (L.map setS) l (0, 0)) /\ Below w.heap.size w w' := by
 have HN : Hid (∀ w', Below w.heap.size w w' -> BRow w' na N) := fun w' hb => hN.later hb
 have HL : Hid (∀ w', Below w.heap.size w w' -> LsRow w' fa L) := fun w' hb => hL.later hb
 have HY : Hid (∀ w', Below w.heap.size w w' -> SymRow w' la l) := fun w' hb => hl.later (Nat.le_refl _) hb
 have HS : Hid (∀ s ∈ l, SymIn N.length s) := hs
 have HR : Hid (∀ z ∈ L, (∀ x ∈ z, 0 <= x /\ x < 128) /\ z.length <= 140737488355328) := hr
 have HLN : Hid (L.length = N.length) := hLN
 have HM : Hid (∀ m, m < L.length -> (L.map setS).getD m (0, 0) = setS (L.getD m [])) := fun m hm => by simp [List.getD, hm]
 have O1 : Hid (∀ i, i < l.length -> (l.getD i (0, 0)).1 = 1 -> ofS N (L.map setS) (l.drop i) (0, 0) = setS [(l.getD i (0, 0)).2]) := fun i hi h => of_term hi h
 have O2 : Hid (∀ i, i < l.length -> (l.getD i (0, 0)).1 ≠ 1 -> N.getD (l.getD i (0, 0)).2.toNat false = false -> ofS N (L.map setS) (l.drop i) (0, 0) = (L.map setS).getD (l.getD i (0, 0)).2.toNat (0, 0)) := fun i hi h hn => of_stop hi h hn
 have O3 : Hid (∀ i acc, i < l.length -> (l.getD i (0, 0)).1 ≠ 1 -> N.getD (l.getD i (0, 0)).2.toNat false = true -> withS acc (ofS N (L.map setS) (l.drop i) (0, 0)) = withS (withS acc ((L.map setS).getD (l.getD i (0, 0)).2.toNat (0, 0))) (ofS N (L.map setS) (l.drop (i + 1)) (0, 0))) := fun i acc hi h hn => of_next hi h hn acc
 have O4 : Hid (ofS N (L.map setS) (l.drop l.length) (0, 0) = (0, 0)) := of_end
 have O5 : Hid (withS (0, 0) (ofS N (L.map setS) (l.drop 0) (0, 0)) = ofS N (L.map setS) l (0, 0)) := zero_with _
 clear hN hL hl hs hr hLN
 generalize L.map setS = F at *
 generalize ofS N F l (0, 0) = R at *
 go_enter Tryz.func42, Tryz.ntmps42
 go_wp2
 go_loopw [7, 8] (fun v i wr => ∃ (k : Nat) (s : BS), k <= l.length /\ i = .int .i64 k /\ JL wr v s /\ OkS s /\ withS s (ofS N F (l.drop k) (0, 0)) = R /\ Below w.heap.size w wr) (fun _ i _ => l.length - (intOf i).toNat)
 case atStart => exact ⟨0, (0, 0), Nat.zero_le _, rfl, JL.nil _, OkS.zero, O5.out, Below.refl _ _⟩
 case round =>
  obtain ⟨k, s, hk, rfl, hJ, hok, hR, hbw⟩ := hrel
  obtain ⟨qa, qn, qc, rfl, hJ⟩ := hJ.val
  have W1 : Hid (Below w.heap.size w wr) := hbw
  have J0 : Hid (JL wr (.slice qa qn qc) s /\ OkS s /\ withS s (ofS N F (l.drop k) (0, 0)) = R) := ⟨hJ, hok, hR⟩
  by_cases hlt : k < l.length
  ·obtain ⟨b, o, hla, hbl, hc⟩ := HY.out wr hbw (by intro e; rw [e] at hlt; simp at hlt)
   obtain ⟨c0, c1⟩ := hc k hlt
   have klt : (k : Int) < (l.length : Int) := by omega
   have hin := HS.out _ (show l.getD k (0, 0) ∈ l by simp [List.getD, hlt])
   have P1 := O1.out k hlt
   have P2 := O2.out k hlt
   have P3 := O3.out k s hlt
   clear hc hJ hok hR hbw
   generalize l.getD k (0, 0) = x at *
   obtain ⟨x1, x2⟩ := x
   simp only [SymIn] at c0 c1 hin P1 P2 P3
   by_cases h1 : x1 = 1
   ·have hx2 : 0 <= x2 /\ x2 < 128 := by omega
    have AC : Hid (Calls Tryz.prog 72 #[.slice qa qn qc, .int .i64 x2] wr fun e w' => ∃ v', e = .returned v' /\ JL w' v' R /\ Below wr.heap.size wr w') := by
     have := radd_J (.slice qa qn qc) s x2 wr J0.out.1 J0.out.2.1 hx2
     rwa [<- P1 h1, J0.out.2.2] at this
    have t1 : (x1 == 1) = true := by simpa using h1
    clear hin P1 P2 P3 h1
    rw [hla]
    clear hla
    go_wp2_with (go_at_call 72; refine AC.out.mono ?_; rintro e w2 ⟨v2, rfl, j2, b2⟩; obtain ⟨ra, rn, rc, rfl, j2⟩ := j2.val; have B2 : Hid (JL w2 (.slice ra rn rc) R /\ Below w.heap.size w w2) := ⟨j2, W1.out.trans (b2.mono W1.out.size)⟩; clear j2 b2)
    go_ret
    exact ⟨_, rfl, B2.out⟩
   ·have t1 : (x1 == 1) = false := by simpa using h1
    have hx : x1 = 2 /\ 0 <= x2 /\ x2 < N.length := by omega
    obtain ⟨m, rfl⟩ : ∃ m : Nat, x2 = (m : Int) := ⟨x2.toNat, by omega⟩
    have hmN : m < N.length := by omega
    have hmL : m < L.length := by rw [HLN.out]; exact hmN
    have mlN : (m : Int) < (N.length : Int) := by omega
    have mlL : (m : Int) < (L.length : Int) := by omega
    obtain ⟨fb, fo, hfa, hfb, hfc⟩ := HL.out wr W1.out (by intro e; rw [e] at hmL; simp at hmL)
    obtain ⟨za, zc, z0, zr⟩ := hfc m hmL
    obtain ⟨zz1, zz2⟩ := HR.out (L.getD m []) (by simp [List.getD, hmL])
    have hset := HM.out m hmL
    have P2' : Hid (N.getD m false = false -> ofS N F (l.drop k) (0, 0) = setS (L.getD m [])) := fun h => by
     have := P2 h1 (by simpa using h)
     rw [this, <- hset]; simp
    have P3' : Hid (N.getD m false = true -> withS s (ofS N F (l.drop k) (0, 0)) = withS (withS s (setS (L.getD m []))) (ofS N F (l.drop (k + 1)) (0, 0))) := fun h => by
     have := P3 h1 (by simpa using h)
     rw [this, <- hset]; simp
    have AC : Hid (Calls Tryz.prog 44 #[.slice qa qn qc, .slice za (L.getD m []).length zc] wr fun e w' => ∃ v', e = .returned v' /\ JL w' v' (withS s (setS (L.getD m []))) /\ Below wr.heap.size wr w') := rjoin_S (.slice qa qn qc) s za zc (L.getD m []) wr J0.out.1 J0.out.2.1 zr zz1 zz2
    have OK2 : Hid (OkS (withS s (setS (L.getD m [])))) := J0.out.2.1.with (setS_ok zz1)
    clear hfc zr zz1 zz2 hset P1 P2 P3 hin h1
    generalize L.getD m [] = z at *
    have NB : Hid (∀ w', Below w.heap.size w w' -> ∃ nb no, na = some ⟨nb, no, none⟩ /\ w'.cell? ⟨nb, no + m, none⟩ = some (.bool (N.getD m false))) := fun w' hb => by
     obtain ⟨nb, no, e, _, hc⟩ := HN.out w' hb (by intro e; rw [e] at hmN; simp at hmN)
     exact ⟨nb, no, e, hc m hmN⟩
    rw [hla, hfa]
    generalize N.getD m false = nv at *
    obtain ⟨nb, no, hna, hnc⟩ := NB.out wr W1.out
    have NB2 : Hid (∀ w', Below w.heap.size w w' -> w'.cell? ⟨nb, no + m, none⟩ = some (.bool nv)) := fun w' hb => by
     obtain ⟨nb', no', e, hc⟩ := NB.out w' hb
     rw [hna] at e
     simp only [Option.some.injEq, Addr.mk.injEq, and_true] at e
     obtain ⟨rfl, rfl⟩ := e
     exact hc
    have SY2 : Hid (∀ w', Below wr.heap.size wr w' -> w'.cell? ⟨b, o + k * 2 + 1, none⟩ = some (.int .i64 (m : Int))) := fun w' hb => (hb.cell (p := ⟨b, o + k * 2 + 1, none⟩) hbl).trans c1
    rw [hna]
    clear hla hfa hna hnc NB hx
    cases nv
    ·have E1 : Hid (withS s (setS z) = R) := by show _ = _; rw [<- J0.out.2.2, P2'.out rfl]
     go_wp2_with (go_at_call 44; refine AC.out.mono ?_; rintro e w2 ⟨v2, rfl, j2, b2⟩; obtain ⟨ra, rn, rc, rfl, j2⟩ := j2.val; have B2 : Hid (JL w2 (.slice ra rn rc) (withS s (setS z)) /\ Below w.heap.size w w2) := ⟨j2, W1.out.trans (b2.mono W1.out.size)⟩; have n2 := NB2.out w2 B2.out.2; have y2 := SY2.out w2 b2; clear j2 b2)
     go_ret
     exact ⟨_, rfl, by rw [<- E1.out]; exact B2.out.1, B2.out.2⟩
    ·have E1 : Hid (withS (withS s (setS z)) (ofS N F (l.drop (k + 1)) (0, 0)) = R) := by show _ = _; rw [<- P3'.out rfl]; exact J0.out.2.2
     go_wp2_with (go_at_call 44; refine AC.out.mono ?_; rintro e w2 ⟨v2, rfl, j2, b2⟩; obtain ⟨ra, rn, rc, rfl, j2⟩ := j2.val; have B2 : Hid (JL w2 (.slice ra rn rc) (withS s (setS z)) /\ Below w.heap.size w w2) := ⟨j2, W1.out.trans (b2.mono W1.out.size)⟩; have n2 := NB2.out w2 B2.out.2; have y2 := SY2.out w2 b2; clear j2 b2)
     go_roundw
     case rel => exact ⟨k + 1, _, by omega, by go_num, B2.out.1, OK2.out, E1.out, B2.out.2⟩
     case measure => simp [intOf]; omega
  ·obtain rfl : k = l.length := by omega
   have J2 : Hid (JL wr (.slice qa qn qc) R) := by show JL _ _ _; rw [<- hR, O4.out, with_zero]; exact hJ
   clear hJ hok hR hbw
   go_wp2
   go_ret
   exact ⟨_, rfl, J2.out, W1.out⟩
end Go.Proofs.YtpbpombjndlnbaaGreat
