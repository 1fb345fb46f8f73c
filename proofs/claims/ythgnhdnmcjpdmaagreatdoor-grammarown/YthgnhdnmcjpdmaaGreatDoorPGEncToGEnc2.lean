import Derived.Test.YthgnhdnmcjpdmaaGreatDoorPBBaseToGRow
import Derived.Test.YthgnhdnmcjpdmaaGreatDoorPWText
import Derived.Test.YthgnhdnmcjpdmaaGreatDoorPSameToSums0
namespace Go.Proofs.YthgnhdnmcjpdmaaGreatDoor
set_option linter.unusedVariables false
set_option maxRecDepth 100000
set_option maxHeartbeats 16000000
open Go.RowKit
structure EW (w0 : World) (p q : Nat) (v : Value) (xs : List Int) (wr : World) : Prop where
 inv : C.WInv wr p q v xs 0
 bel : Below w0.heap.size w0 wr
 lq : w0.heap.size <= q
 lv : ∀ k, v.ownBlock = some k -> w0.heap.size <= k
section
variable {w0 wr w' : World} {p q : Nat} {v v' : Value} {xs xs' : List Int}
theorem EW.step (h : EW w0 p q v xs wr) (hw : C.WInv w' p q v' xs' 0) (hg : C.WGrew wr w' q v v') : EW w0 p q v' xs' w' := by
 have hs := h.bel.size
 refine ⟨hw, h.bel.trans ⟨hg.os, hg.tape, hg.output, hg.size, fun k hk => hg.block k (by omega) (by have := h.lq; omega) (fun e => by have := h.lv k e.symm; omega)⟩, h.lq, fun k hk => ?_⟩
 rcases hg.moved with e | ⟨k', e, hk'⟩
 ·exact h.lv k (e ▸ hk)
 ·rw [hk] at e; have := Option.some.inj e; omega
theorem EW.later (h : EW w0 p q v xs wr) (hb : Below wr.heap.size wr w') : EW w0 p q v xs w' :=
 ⟨⟨(hb.block p (lt_of_block h.inv.hp)).trans h.inv.hp, (hb.block q (lt_of_block h.inv.hq)).trans h.inv.hq, h.inv.own.later hb⟩, h.bel.trans (hb.mono h.bel.size), h.lq, h.lv⟩
def EF (w w' : World) : Prop := ∀ (k : Nat) (C : Array Value) (t : TypeId), w.heap[k]? = some (.cells C t (0, 0)) -> t ≠ 130 -> t ≠ 5 -> w'.heap[k]? = w.heap[k]?
theorem EF.refl (w : World) : EF w w := fun _ _ _ _ _ _ => rfl
theorem EF.ofBelow {w w' : World} (h : Below w.heap.size w w') : EF w w' := fun k _ _ hk _ _ => h.block k (lt_of_block hk)
theorem EF.trans {a b c : World} (h : EF a b) (k : EF b c) : EF a c := fun z C t hz h1 h2 => (k z C t ((h z C t hz h1 h2).trans hz) h1 h2).trans (h z C t hz h1 h2)
theorem EW.frame (h : EW w0 p q v xs wr) (hg : C.WGrew wr w' q v v') : EF wr w' := fun k Cc t hk h1 h2 => hg.block k (lt_of_block hk) (fun e => by have := h.inv.hq; rw [<- e, hk] at this; simp at this; exact h1 this.2) (C.own_ne h.inv.own hk h2)
abbrev EE (w0 wr : World) (p q : Nat) (xs : List Int) (e : Ending) (w' : World) : Prop := e = .returned (.tuple #[]) /\ ∃ v', EW w0 p q v' xs w' /\ EF wr w'
theorem eint (h : EW w0 p q v xs wr) (n : Int) (h0 : 0 <= n) (h1 : n <= 9223372036854775807) (hl : xs.length <= 1000000000) : Calls Tryz.prog 29 #[.pointer (some ⟨p, 0, none⟩), .int .i64 n] wr (EE w0 wr p q (xs ++ C.enc 10 n)) :=
 (C.wint_pos n h.inv h0 h1 (by omega) (xs ++ C.enc 10 n) (if_pos rfl).symm).mono fun _ _ ⟨he, v', h1, h2⟩ => ⟨he, v', h.step h1 h2, h.frame h2⟩
theorem etext (h : EW w0 p q v xs wr) (s : ByteArray) (hs : s.size <= 1000000000) (hl : xs.length <= 1000000000) : Calls Tryz.prog 28 #[.pointer (some ⟨p, 0, none⟩), .string s] wr (EE w0 wr p q (xs ++ (C.enc 10 s.size ++ C.strBytes s))) :=
 (C.wtext s h.inv (by omega) (xs ++ (C.enc 10 s.size ++ C.strBytes s)) (by rw [if_pos rfl, List.append_assoc])).mono fun _ _ ⟨he, v', h1, h2⟩ => ⟨he, v', h.step h1 h2, h.frame h2⟩
theorem esigned (h : EW w0 p q v xs wr) (n : Int) (h0 : -9223372036854775808 <= n) (h1 : n <= 9223372036854775807) (hl : xs.length <= 1000000000) : Calls Tryz.prog 86 #[.pointer (some ⟨p, 0, none⟩), .int .i64 n] wr (EE w0 wr p q (xs ++ C.enc 10 (C.foldS n))) :=
 (C.wsigned n h.inv h0 h1 (by omega) (xs ++ C.enc 10 (C.foldS n)) (if_pos rfl).symm).mono fun _ _ ⟨he, v', h1, h2⟩ => ⟨he, v', h.step h1 h2, h.frame h2⟩
end
def encL {α : Type} (f : α -> List Int) (l : List α) : List Int := C.enc 10 l.length ++ l.flatMap f
theorem flat_le {α : Type} (f : α -> List Int) (l : List α) (k : Nat) : ((l.take k).flatMap f).length <= (l.flatMap f).length := by
 conv => rhs; rw [<- List.take_append_drop k l, List.flatMap_append, List.length_append]
 omega
theorem flat_succ {α : Type} (f : α -> List Int) (l : List α) (k : Nat) (d : α) (h : k < l.length) : (l.take (k + 1)).flatMap f = (l.take k).flatMap f ++ f (l.getD k d) := by
 rw [List.take_succ_eq_append_getElem h, List.flatMap_append]
 simp [List.getD, h]
def encS (s : ByteArray) : List Int := C.enc 10 s.size ++ C.strBytes s
theorem wl_str {w0 wr : World} {p q : Nat} {v : Value} {xs : List Int} (ao : Option Addr) (cap : Nat) (l : List ByteArray) (h : EW w0 p q v xs wr) (hr : StrRow w0 ao l) (hl : l.length <= 1048576) (hz : ∀ s ∈ l, s.size <= 1000000000) (hn : xs.length + (encL encS l).length <= 1000000000) :
  Calls Tryz.prog 27 #[.pointer (some ⟨p, 0, none⟩), .slice ao l.length cap, .func (.func 28) #[] #[]] wr (EE w0 wr p q (xs ++ encL encS l)) := by
 have HI : Hid (EW w0 p q v xs wr) := h
 have HR : Hid (StrRow w0 ao l) := hr
 have HN : Hid (xs.length + (encL encS l).length <= 1000000000) := hn
 have HN0 : Hid (xs.length <= 1000000000) := by show _ <= _; omega
 have HX : Hid (∀ k, (xs ++ C.enc 10 l.length ++ (l.take k).flatMap encS).length <= 1000000000) := fun k => by
  have h1 := flat_le encS l k
  unfold encL at hn
  rw [List.length_append] at hn
  rw [List.length_append, List.length_append]
  omega
 have HZ : Hid (∀ s ∈ l, s.size <= 1000000000) := hz
 clear hz
 clear h hr hn
 go_enter Tryz.func27, Tryz.ntmps27
 go_wp2_with (go_at_call 29; refine (eint HI.out (l.length : Int) (by omega) (by omega) HN0.out).mono ?_; rintro e w1 ⟨rfl, v1, h1', f1'⟩; have h1 : Hid (EW w0 p q v1 (xs ++ C.enc 10 l.length) w1) := h1'; have f1 : Hid (EF wr w1) := f1'; clear h1' f1')
 obtain ⟨ws, HWS⟩ : ∃ ws : World, Hid (ws = wr) := ⟨_, rfl⟩
 have f2 : Hid (EF ws w1) := by rw [HWS.out]; exact f1.out
 go_loopw [14] (fun z wr => ∃ (k : Nat) (v : Value), k <= l.length /\ z = .int .i64 k /\ EW w0 p q v (xs ++ C.enc 10 l.length ++ (l.take k).flatMap encS) wr /\ EF ws wr) (fun z _ => l.length - (intOf z).toNat)
 case atStart => exact ⟨0, v1, Nat.zero_le _, rfl, by simpa using h1.out, f2.out⟩
 case round =>
  clear h1 f1 f2
  obtain ⟨k, v2, hk, rfl, h2', g2'⟩ := hrel
  have h2 : Hid (EW w0 p q v2 (xs ++ C.enc 10 l.length ++ (l.take k).flatMap encS) wr) := h2'
  have g2 : Hid (EF ws wr) := g2'
  clear h2' g2'
  by_cases hlt : k < l.length
  ·have klt : (k : Int) < (l.length : Int) := by omega
   have HS : Hid (xs ++ C.enc 10 l.length ++ (l.take (k + 1)).flatMap encS = xs ++ C.enc 10 l.length ++ (l.take k).flatMap encS ++ encS (l.getD k ByteArray.empty)) := by show _ = _; rw [flat_succ encS l k ByteArray.empty hlt, <- List.append_assoc]
   have HK : Hid _ := HX.out k
   have hmem : l.getD k ByteArray.empty ∈ l := by simp [List.getD, hlt]
   obtain ⟨b, off, rfl, _, hc⟩ := (HR.out.later h2.out.bel) (by intro e; subst e; simp at hlt)
   have c0 := hc k hlt
   have HZk : Hid _ := HZ.out _ hmem
   clear hc hmem
   generalize l.getD k ByteArray.empty = s at *
   go_wp2_with (go_at_call 28; refine (etext h2.out s HZk.out HK.out).mono ?_; rintro e w3 ⟨rfl, v3, h3, f3⟩)
   go_roundw
   case rel => exact ⟨k + 1, v3, by omega, by go_num, by rw [HS.out]; exact h3, g2.out.trans f3⟩
   case measure => simp [intOf]; omega
  ·obtain rfl : k = l.length := by omega
   go_wp2
   go_end0
   exact ⟨rfl, v2, by have := h2.out; rw [List.take_length, List.append_assoc] at this; exact this, by have := g2.out; rw [HWS.out] at this; exact this⟩
def encI (n : Int) : List Int := C.enc 10 n
theorem wl_int {w0 wr : World} {p q : Nat} {v : Value} {xs : List Int} (ao : Option Addr) (cap : Nat) (l : List Int) (h : EW w0 p q v xs wr) (hr : InRow w0 ao l) (hl : l.length <= 1048576) (hz : ∀ s ∈ l, 0 <= s /\ s <= 9223372036854775807) (hn : xs.length + (encL encI l).length <= 1000000000) :
  Calls Tryz.prog 87 #[.pointer (some ⟨p, 0, none⟩), .slice ao l.length cap, .func (.func 29) #[] #[]] wr (EE w0 wr p q (xs ++ encL encI l)) := by
 have HI : Hid (EW w0 p q v xs wr) := h
 have HR : Hid (InRow w0 ao l) := hr
 have HN : Hid (xs.length + (encL encI l).length <= 1000000000) := hn
 have HN0 : Hid (xs.length <= 1000000000) := by show _ <= _; omega
 have HX : Hid (∀ k, (xs ++ C.enc 10 l.length ++ (l.take k).flatMap encI).length <= 1000000000) := fun k => by
  have h1 := flat_le encI l k
  unfold encL at hn
  rw [List.length_append] at hn
  rw [List.length_append, List.length_append]
  omega
 have HZ : Hid (∀ s ∈ l, 0 <= s /\ s <= 9223372036854775807) := hz
 clear hz
 clear h hr hn
 go_enter Tryz.func87, Tryz.ntmps87
 go_wp2_with (go_at_call 29; refine (eint HI.out (l.length : Int) (by omega) (by omega) HN0.out).mono ?_; rintro e w1 ⟨rfl, v1, h1', f1'⟩; have h1 : Hid (EW w0 p q v1 (xs ++ C.enc 10 l.length) w1) := h1'; have f1 : Hid (EF wr w1) := f1'; clear h1' f1')
 obtain ⟨ws, HWS⟩ : ∃ ws : World, Hid (ws = wr) := ⟨_, rfl⟩
 have f2 : Hid (EF ws w1) := by rw [HWS.out]; exact f1.out
 go_loopw [14] (fun z wr => ∃ (k : Nat) (v : Value), k <= l.length /\ z = .int .i64 k /\ EW w0 p q v (xs ++ C.enc 10 l.length ++ (l.take k).flatMap encI) wr /\ EF ws wr) (fun z _ => l.length - (intOf z).toNat)
 case atStart => exact ⟨0, v1, Nat.zero_le _, rfl, by simpa using h1.out, f2.out⟩
 case round =>
  clear h1 f1 f2
  obtain ⟨k, v2, hk, rfl, h2', g2'⟩ := hrel
  have h2 : Hid (EW w0 p q v2 (xs ++ C.enc 10 l.length ++ (l.take k).flatMap encI) wr) := h2'
  have g2 : Hid (EF ws wr) := g2'
  clear h2' g2'
  by_cases hlt : k < l.length
  ·have klt : (k : Int) < (l.length : Int) := by omega
   have HS : Hid (xs ++ C.enc 10 l.length ++ (l.take (k + 1)).flatMap encI = xs ++ C.enc 10 l.length ++ (l.take k).flatMap encI ++ encI (l.getD k 0)) := by show _ = _; rw [flat_succ encI l k 0 hlt, <- List.append_assoc]
   have HK : Hid _ := HX.out k
   have hmem : l.getD k 0 ∈ l := by simp [List.getD, hlt]
   obtain ⟨b, off, rfl, _, hc⟩ := (HR.out.later h2.out.bel) (by intro e; subst e; simp at hlt)
   have c0 := hc k hlt
   have HZk : Hid _ := HZ.out _ hmem
   clear hc hmem
   generalize l.getD k 0 = s at *
   go_wp2_with (go_at_call 29; refine (eint h2.out s HZk.out.1 HZk.out.2 HK.out).mono ?_; rintro e w3 ⟨rfl, v3, h3, f3⟩)
   go_roundw
   case rel => exact ⟨k + 1, v3, by omega, by go_num, by rw [HS.out]; exact h3, g2.out.trans f3⟩
   case measure => simp [intOf]; omega
  ·obtain rfl : k = l.length := by omega
   go_wp2
   go_end0
   exact ⟨rfl, v2, by have := h2.out; rw [List.take_length, List.append_assoc] at this; exact this, by have := g2.out; rw [HWS.out] at this; exact this⟩
def encY (s : Int × Int) : List Int := C.enc 10 (2 * s.2 + if s.1 = 2 then 1 else 0)
theorem esym {w0 wr : World} {p q : Nat} {v : Value} {xs : List Int} (h : EW w0 p q v xs wr) (k n : Int) (h0 : 0 <= n) (h1 : n <= 1048576) (hl : xs.length <= 1000000000) :
  Calls Tryz.prog 85 #[.pointer (some ⟨p, 0, none⟩), .agg #[.int .i64 k, .int .i64 n]] wr (EE w0 wr p q (xs ++ encY (k, n))) := by
 have H : Hid (EW w0 p q v xs (wr.alloc (.cells #[.int .i64 k, .int .i64 n] 30))) := h.later (below_alloc wr _)
 clear h
 by_cases hk : k = 2
 ·subst hk
  have HY : Hid (encY (2, n) = C.enc 10 (2 * n + 1)) := by show _ = _; unfold encY; simp
  go_enter Tryz.func85, Tryz.ntmps85
  go_wp2_with (go_at_call 29; refine (eint H.out (2 * n + 1) (by omega) (by omega) hl).mono ?_; rintro e w1 ⟨rfl, v1, h1, f1⟩)
  go_end0
  exact ⟨rfl, v1, by rw [HY.out]; exact h1, (EF.ofBelow (below_alloc wr _)).trans f1⟩
 ·have t1 : (k == 2) = false := by simpa using hk
  have HY : Hid (encY (k, n) = C.enc 10 (2 * n)) := by show _ = _; unfold encY; simp [hk]
  clear hk
  go_enter Tryz.func85, Tryz.ntmps85
  go_wp2_with (go_at_call 29; refine (eint H.out (2 * n) (by omega) (by omega) hl).mono ?_; rintro e w1 ⟨rfl, v1, h1, f1⟩)
  go_end0
  exact ⟨rfl, v1, by rw [HY.out]; exact h1, (EF.ofBelow (below_alloc wr _)).trans f1⟩
theorem wl_sym {w0 wr : World} {p q : Nat} {v : Value} {xs : List Int} (ao : Option Addr) (cap : Nat) (l : List (Int × Int)) (h : EW w0 p q v xs wr) (hr : SymRow w0 ao l) (hl : l.length <= 1048576) (hz : ∀ s ∈ l, 0 <= s.2 /\ s.2 <= 1048576) (hn : xs.length + (encL encY l).length <= 1000000000) :
  Calls Tryz.prog 84 #[.pointer (some ⟨p, 0, none⟩), .slice ao l.length cap, .func (.func 85) #[] #[]] wr (EE w0 wr p q (xs ++ encL encY l)) := by
 have HI : Hid (EW w0 p q v xs wr) := h
 have HR : Hid (SymRow w0 ao l) := hr
 have HN : Hid (xs.length + (encL encY l).length <= 1000000000) := hn
 have HN0 : Hid (xs.length <= 1000000000) := by show _ <= _; omega
 have HX : Hid (∀ k, (xs ++ C.enc 10 l.length ++ (l.take k).flatMap encY).length <= 1000000000) := fun k => by
  have h1 := flat_le encY l k
  unfold encL at hn
  rw [List.length_append] at hn
  rw [List.length_append, List.length_append]
  omega
 have HZ : Hid (∀ s ∈ l, 0 <= s.2 /\ s.2 <= 1048576) := hz
 clear hz
 clear h hr hn
 go_enter Tryz.func84, Tryz.ntmps84
 go_wp2_with (go_at_call 29; refine (eint HI.out (l.length : Int) (by omega) (by omega) HN0.out).mono ?_; rintro e w1 ⟨rfl, v1, h1', f1'⟩; have h1 : Hid (EW w0 p q v1 (xs ++ C.enc 10 l.length) w1) := h1'; have f1 : Hid (EF wr w1) := f1'; clear h1' f1')
 obtain ⟨ws, HWS⟩ : ∃ ws : World, Hid (ws = wr) := ⟨_, rfl⟩
 have f2 : Hid (EF ws w1) := by rw [HWS.out]; exact f1.out
 go_loopw [14] (fun z wr => ∃ (k : Nat) (v : Value), k <= l.length /\ z = .int .i64 k /\ EW w0 p q v (xs ++ C.enc 10 l.length ++ (l.take k).flatMap encY) wr /\ EF ws wr) (fun z _ => l.length - (intOf z).toNat)
 case atStart => exact ⟨0, v1, Nat.zero_le _, rfl, by simpa using h1.out, f2.out⟩
 case round =>
  clear h1 f1 f2
  obtain ⟨k, v2, hk, rfl, h2', g2'⟩ := hrel
  have h2 : Hid (EW w0 p q v2 (xs ++ C.enc 10 l.length ++ (l.take k).flatMap encY) wr) := h2'
  have g2 : Hid (EF ws wr) := g2'
  clear h2' g2'
  by_cases hlt : k < l.length
  ·have klt : (k : Int) < (l.length : Int) := by omega
   have HS : Hid (xs ++ C.enc 10 l.length ++ (l.take (k + 1)).flatMap encY = xs ++ C.enc 10 l.length ++ (l.take k).flatMap encY ++ encY (l.getD k (0, 0))) := by show _ = _; rw [flat_succ encY l k (0, 0) hlt, <- List.append_assoc]
   have HK : Hid _ := HX.out k
   have hmem : l.getD k (0, 0) ∈ l := by simp [List.getD, hlt]
   obtain ⟨b, off, rfl, _, hc⟩ := (HR.out.later (Nat.le_refl _) h2.out.bel) (by intro e; subst e; simp at hlt)
   obtain ⟨c0, c1⟩ := hc k hlt
   have HZk : Hid _ := HZ.out _ hmem
   clear hc hmem
   generalize l.getD k (0, 0) = s at *
   obtain ⟨s1, s2⟩ := s
   simp only at c0 c1
   go_wp2_with (go_at_call 85; refine (esym (h2.out.later (below_alloc wr _)) s1 s2 HZk.out.1 HZk.out.2 HK.out).mono ?_; rintro e w3 ⟨rfl, v3, h3, f3⟩)
   go_roundw
   case rel => exact ⟨k + 1, v3, by omega, by go_num, by rw [HS.out]; exact h3, g2.out.trans ((EF.ofBelow (below_alloc wr _)).trans f3)⟩
   case measure => simp [intOf]; omega
  ·obtain rfl : k = l.length := by omega
   go_wp2
   go_end0
   exact ⟨rfl, v2, by have := h2.out; rw [List.take_length, List.append_assoc] at this; exact this, by have := g2.out; rw [HWS.out] at this; exact this⟩
def encP (p : PV) : List Int := C.enc 10 p.left ++ (encL encY p.right ++ C.enc 10 (C.foldS p.prec))
structure OkP (P : PV) : Prop where
 l : P.right.length <= 1048576
 h0 : 0 <= P.left /\ P.left <= 1048576
 h1 : -1 <= P.prec /\ P.prec <= 1048576
 z : ∀ s ∈ P.right, 0 <= s.2 /\ s.2 <= 1048576
theorem eprod {w0 wr : World} {p q : Nat} {v : Value} {xs : List Int} (h : EW w0 p q v xs wr) (P : PV) (hr : SymRow w0 P.ra P.right) (ok : OkP P) (hn : xs.length + (encP P).length <= 1000000000) :
  Calls Tryz.prog 31 #[.pointer (some ⟨p, 0, none⟩), .agg #[.int .i64 P.left, .slice P.ra P.right.length P.rc, .int .i64 P.prec]] wr (EE w0 wr p q (xs ++ encP P)) := by
 obtain ⟨pl, ra, rc, right, prec⟩ := P
 obtain ⟨hl1, h0, h1, hz⟩ := ok
 simp only at hr hl1 h0 h1 hz
 have H : Hid (EW w0 p q v xs (wr.alloc (.cells #[.int .i64 pl, .slice ra right.length rc, .int .i64 prec] 75))) := h.later (below_alloc wr _)
 have E1 : Hid ((wr.alloc (.cells #[.int .i64 pl, .slice ra right.length rc, .int .i64 prec] 75)).heap[wr.heap.size]? = some (.cells #[.int .i64 pl, .slice ra right.length rc, .int .i64 prec] 75)) := heap_alloc_new wr _
 have CX : Hid (∀ w', EF (wr.alloc (.cells #[.int .i64 pl, .slice ra right.length rc, .int .i64 prec] 75)) w' -> w'.cell? ⟨wr.heap.size, 1, none⟩ = some (.slice ra right.length rc) /\ w'.cell? ⟨wr.heap.size, 2, none⟩ = some (.int .i64 prec)) := fun w' hf => by
  have e := (hf _ _ _ E1.out (by decide) (by decide)).trans E1.out
  exact ⟨by rw [cellq_any e]; rfl, by rw [cellq_any e]; rfl⟩
 have HN : Hid (xs.length <= 1000000000 /\ (xs ++ C.enc 10 pl).length + (encL encY right).length <= 1000000000 /\ (xs ++ C.enc 10 pl ++ encL encY right).length <= 1000000000) := by
  unfold encP at hn
  simp only [List.length_append] at hn
  exact ⟨by omega, by rw [List.length_append]; omega, by rw [List.length_append, List.length_append]; omega⟩
 have HR : Hid (SymRow w0 ra right /\ (∀ s ∈ right, 0 <= s.2 /\ s.2 <= 1048576) /\ 0 <= pl /\ pl <= 1048576 /\ -1 <= prec /\ prec <= 1048576) := ⟨hr, hz, h0.1, h0.2, h1.1, h1.2⟩
 clear h hr hz hn h0 h1
 go_enter Tryz.func31, Tryz.ntmps31
 go_wp2_with (first
  | (go_at_call 29; refine (eint H.out pl HR.out.2.2.1 (by have := HR.out.2.2.2.1; omega) HN.out.1).mono ?_; rintro e w1 ⟨rfl, v1, h1', f1'⟩; have h1 : Hid (EW w0 p q v1 (xs ++ C.enc 10 pl) w1) := h1'; have f1 : Hid (EF (wr.alloc (.cells #[.int .i64 pl, .slice ra right.length rc, .int .i64 prec] 75)) w1) := f1'; obtain ⟨k1, k2⟩ := CX.out w1 f1'; clear h1' f1')
  | (go_at_call 84; refine (wl_sym ra rc right h1.out HR.out.1 hl1 HR.out.2.1 HN.out.2.1).mono ?_; rintro e w2 ⟨rfl, v2, h2', f2'⟩; have h2 : Hid (EW w0 p q v2 (xs ++ C.enc 10 pl ++ encL encY right) w2) := h2'; have f2 : Hid (EF (wr.alloc (.cells #[.int .i64 pl, .slice ra right.length rc, .int .i64 prec] 75)) w2) := f1.out.trans f2'; obtain ⟨k3, k4⟩ := CX.out w2 f2.out; clear h2' f2')
  | (go_at_call 86; refine (esigned h2.out prec (by have := HR.out.2.2.2.2.1; omega) (by have := HR.out.2.2.2.2.2; omega) HN.out.2.2).mono ?_; rintro e w3 ⟨rfl, v3, h3, f3⟩))
 go_end0
 exact ⟨rfl, v3, by unfold encP; rw [<- List.append_assoc, <- List.append_assoc]; exact h3, (EF.ofBelow (below_alloc wr _)).trans (f2.out.trans f3)⟩
theorem wl_prod {w0 wr : World} {p q : Nat} {v : Value} {xs : List Int} (ao : Option Addr) (cap : Nat) (l : List PV) (h : EW w0 p q v xs wr) (hr : PrRow w0 ao l) (hl : l.length <= 1048576) (hz : ∀ s ∈ l, OkP s) (hn : xs.length + (encL encP l).length <= 1000000000) :
  Calls Tryz.prog 30 #[.pointer (some ⟨p, 0, none⟩), .slice ao l.length cap, .func (.func 31) #[] #[]] wr (EE w0 wr p q (xs ++ encL encP l)) := by
 have HI : Hid (EW w0 p q v xs wr) := h
 have HR : Hid (PrRow w0 ao l) := hr
 have HN : Hid (xs.length + (encL encP l).length <= 1000000000) := hn
 have HN0 : Hid (xs.length <= 1000000000) := by show _ <= _; omega
 have HX : Hid (∀ k, (xs ++ C.enc 10 l.length ++ (l.take k).flatMap encP).length <= 1000000000) := fun k => by
  have h1 := flat_le encP l k
  unfold encL at hn
  rw [List.length_append] at hn
  rw [List.length_append, List.length_append]
  omega
 have HZ : Hid (∀ s ∈ l, OkP s) := hz
 clear hz
 clear h hr hn
 go_enter Tryz.func30, Tryz.ntmps30
 go_wp2_with (go_at_call 29; refine (eint HI.out (l.length : Int) (by omega) (by omega) HN0.out).mono ?_; rintro e w1 ⟨rfl, v1, h1', f1'⟩; have h1 : Hid (EW w0 p q v1 (xs ++ C.enc 10 l.length) w1) := h1'; have f1 : Hid (EF wr w1) := f1'; clear h1' f1')
 obtain ⟨ws, HWS⟩ : ∃ ws : World, Hid (ws = wr) := ⟨_, rfl⟩
 have f2 : Hid (EF ws w1) := by rw [HWS.out]; exact f1.out
 go_loopw [14] (fun z wr => ∃ (k : Nat) (v : Value), k <= l.length /\ z = .int .i64 k /\ EW w0 p q v (xs ++ C.enc 10 l.length ++ (l.take k).flatMap encP) wr /\ EF ws wr) (fun z _ => l.length - (intOf z).toNat)
 case atStart => exact ⟨0, v1, Nat.zero_le _, rfl, by simpa using h1.out, f2.out⟩
 case round =>
  clear h1 f1 f2
  obtain ⟨k, v2, hk, rfl, h2', g2'⟩ := hrel
  have h2 : Hid (EW w0 p q v2 (xs ++ C.enc 10 l.length ++ (l.take k).flatMap encP) wr) := h2'
  have g2 : Hid (EF ws wr) := g2'
  clear h2' g2'
  by_cases hlt : k < l.length
  ·have klt : (k : Int) < (l.length : Int) := by omega
   have HS : Hid (xs ++ C.enc 10 l.length ++ (l.take (k + 1)).flatMap encP = xs ++ C.enc 10 l.length ++ (l.take k).flatMap encP ++ encP (l.getD k .none)) := by show _ = _; rw [flat_succ encP l k .none hlt, <- List.append_assoc]
   have HK : Hid _ := HX.out k
   have hmem : l.getD k .none ∈ l := by simp [List.getD, hlt]
   obtain ⟨b, off, rfl, _, hc⟩ := (HR.out.later h2.out.bel).cells (by intro e; subst e; simp at hlt)
   obtain ⟨c0, c1, c2⟩ := hc k hlt
   have HZk : Hid _ := HZ.out _ hmem
   have HRk : Hid _ := HR.out.rows _ hmem
   have HLk : Hid ((xs ++ C.enc 10 l.length ++ (l.take k).flatMap encP).length + (encP (l.getD k .none)).length <= 1000000000) := by
    have e1 := HX.out (k + 1)
    have e2 := HS.out
    rw [e2, List.length_append] at e1
    exact e1
   clear hc hmem
   generalize l.getD k .none = s at *
   obtain ⟨s1, s2, s3, s4, s5⟩ := s
   simp only at c0 c1 c2
   go_wp2_with (go_at_call 31; refine (eprod (h2.out.later (below_alloc wr _)) ⟨s1, s2, s3, s4, s5⟩ HRk.out HZk.out HLk.out).mono ?_; rintro e w3 ⟨rfl, v3, h3, f3⟩)
   go_roundw
   case rel => exact ⟨k + 1, v3, by omega, by go_num, by rw [HS.out]; exact h3, g2.out.trans ((EF.ofBelow (below_alloc wr _)).trans f3)⟩
   case measure => simp [intOf]; omega
  ·obtain rfl : k = l.length := by omega
   go_wp2
   go_end0
   exact ⟨rfl, v2, by have := h2.out; rw [List.take_length, List.append_assoc] at this; exact this, by have := g2.out; rw [HWS.out] at this; exact this⟩
end Go.Proofs.YthgnhdnmcjpdmaaGreatDoor
