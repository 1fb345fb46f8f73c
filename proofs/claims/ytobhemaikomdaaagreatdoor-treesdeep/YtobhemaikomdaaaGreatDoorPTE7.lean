import Derived.Test.YtobhemaikomdaaaGreatDoorPTE4ToTE5
import Derived.Test.YtobhemaikomdaaaGreatDoorPTW3ToRegX
import Derived.Test.YtobhemaikomdaaaGreatDoorPGEncToBack0
namespace Go.Proofs.YtobhemaikomdaaaGreatDoor
set_option linter.unusedVariables false
open Go.RowKit
section
variable {p q : Nat} {t : TV} {w : World}
set_option linter.unusedSimpArgs false in
set_option maxRecDepth 100000 in
set_option maxHeartbeats 4000000 in
theorem codeFault_W (h : TBx w p q t) : Calls Tryz.prog 30 #[.pointer (some ⟨p, q, none⟩)] w fun e w' => e = .returned (.int .i64 (cdF t)) /\ w' = w := by
 have CI : Hid (Calls Tryz.prog 21 #[.pointer (some ⟨p, q, none⟩)] w fun e w' => e = .returned (.bool (t.prod == -1)) /\ w' = w) := isLeaf_W p q t w h
 obtain ⟨-, c0, c1, c2, c3⟩ := h
 have HC : Hid (cdF t = if t.prod = -1 then (if t.kind < -4611686018427387904 ∨ 4611686018427387904 < t.kind then 4 else if t.kids.length ≠ 0 then 82 else 0) else if t.prod < 0 ∨ 1073741824 < t.prod ∨ t.kind ≠ 0 ∨ t.tx.toList ≠ [] then 4 else 0) := rfl
 generalize cdF t = cd at *
 generalize t.prod = tp at *
 generalize t.kind = tk at *
 generalize t.tx = tx at *
 generalize t.kids.length = tn at *
 generalize t.ka = ta at *
 generalize t.kc = tc at *
 by_cases hp : tp = -1
 ·have t1 : (tp == -1) = true := by simpa using hp
  rw [t1] at CI
  subst hp
  have HD : Hid (cd = if tk < -4611686018427387904 ∨ 4611686018427387904 < tk then 4 else if tn ≠ 0 then 82 else 0) := by show _ = _; rw [HC.out, if_pos rfl]
  clear HC t1
  by_cases k1 : tk < -4611686018427387904
  ·have HE : Hid (cd = 4) := by show _ = _; rw [HD.out, if_pos (.inl k1)]
   clear HD
   go_enter Tryz.func30, Tryz.ntmps30
   go_wp2_with (go_at_call 21; refine CI.out.mono ?_; rintro e w1 ⟨rfl, hz⟩; rw [hz]; clear hz w1)
   go_ret
   exact ⟨by have e := HE.out; subst e; rfl, rfl⟩
  ·by_cases k2 : 4611686018427387904 < tk
   ·have HE : Hid (cd = 4) := by show _ = _; rw [HD.out, if_pos (.inr k2)]
    have k3 : -4611686018427387904 <= tk := by omega
    clear HD k1
    go_enter Tryz.func30, Tryz.ntmps30
    go_wp2_with (go_at_call 21; refine CI.out.mono ?_; rintro e w1 ⟨rfl, hz⟩; rw [hz]; clear hz w1)
    go_ret
    exact ⟨by have e := HE.out; subst e; rfl, rfl⟩
   ·have k3 : -4611686018427387904 <= tk := by omega
    have k4 : tk <= 4611686018427387904 := by omega
    by_cases k5 : tn = 0
    ·have HE : Hid (cd = 0) := by show _ = _; rw [HD.out, if_neg (by omega), if_neg (by simpa using k5)]
     subst k5
     clear HD k1 k2
     go_enter Tryz.func30, Tryz.ntmps30
     go_wp2_with (go_at_call 21; refine CI.out.mono ?_; rintro e w1 ⟨rfl, hz⟩; rw [hz]; clear hz w1)
     go_ret
     exact ⟨by have e := HE.out; subst e; rfl, rfl⟩
    ·have HE : Hid (cd = 82) := by show _ = _; rw [HD.out, if_neg (by omega), if_pos (by simpa using k5)]
     have k6 : ((tn : Int) != 0) = true := by simp; omega
     clear HD k1 k2 k5
     go_enter Tryz.func30, Tryz.ntmps30
     go_wp2_with (go_at_call 21; refine CI.out.mono ?_; rintro e w1 ⟨rfl, hz⟩; rw [hz]; clear hz w1)
     go_ret
     exact ⟨by have e := HE.out; subst e; rfl, rfl⟩
 ·have t1 : (tp == -1) = false := by simpa using hp
  rw [t1] at CI
  have HD : Hid (cd = if tp < 0 ∨ 1073741824 < tp ∨ tk ≠ 0 ∨ tx.toList ≠ [] then 4 else 0) := by show _ = _; rw [HC.out, if_neg hp]
  clear HC t1 hp
  by_cases k1 : tp < 0
  ·have HE : Hid (cd = 4) := by show _ = _; rw [HD.out, if_pos (.inl k1)]
   clear HD
   go_enter Tryz.func30, Tryz.ntmps30
   go_wp2_with (go_at_call 21; refine CI.out.mono ?_; rintro e w1 ⟨rfl, hz⟩; rw [hz]; clear hz w1)
   go_ret
   exact ⟨by have e := HE.out; subst e; rfl, rfl⟩
  ·have k3 : 0 <= tp := by omega
   by_cases k2 : 1073741824 < tp
   ·have HE : Hid (cd = 4) := by show _ = _; rw [HD.out, if_pos (.inr (.inl k2))]
    clear HD k1
    go_enter Tryz.func30, Tryz.ntmps30
    go_wp2_with (go_at_call 21; refine CI.out.mono ?_; rintro e w1 ⟨rfl, hz⟩; rw [hz]; clear hz w1)
    go_ret
    exact ⟨by have e := HE.out; subst e; rfl, rfl⟩
   ·have k4 : tp <= 1073741824 := by omega
    by_cases k5 : tk = 0
    ·subst k5
     by_cases k6 : tx.toList = []
     ·have HE : Hid (cd = 0) := by show _ = _; rw [HD.out, if_neg (by simp only [not_or, Decidable.not_not]; exact ⟨by omega, by omega, trivial, k6⟩)]
      obtain rfl : tx = ⟨#[]⟩ := by
       rw [ByteArray.toList_eq] at k6
       exact ByteArray.ext (Array.toList_eq_nil_iff.1 k6)
      clear HD k1 k2 k6
      go_enter Tryz.func30, Tryz.ntmps30
      go_wp2_with (go_at_call 21; refine CI.out.mono ?_; rintro e w1 ⟨rfl, hz⟩; rw [hz]; clear hz w1)
      go_ret
      exact ⟨by have e := HE.out; subst e; rfl, rfl⟩
     ·have HE : Hid (cd = 4) := by show _ = _; rw [HD.out, if_pos (.inr (.inr (.inr k6)))]
      have k7 : ¬ tx.toList = [] := k6
      clear HD k1 k2 k6
      go_enter Tryz.func30, Tryz.ntmps30
      go_wp2_with (go_at_call 21; refine CI.out.mono ?_; rintro e w1 ⟨rfl, hz⟩; rw [hz]; clear hz w1)
      go_ret
      exact ⟨by have e := HE.out; subst e; rfl, rfl⟩
    ·have HE : Hid (cd = 4) := by show _ = _; rw [HD.out, if_pos (.inr (.inr (.inl k5)))]
     clear HD k1 k2
     go_enter Tryz.func30, Tryz.ntmps30
     go_wp2_with (go_at_call 21; refine CI.out.mono ?_; rintro e w1 ⟨rfl, hz⟩; rw [hz]; clear hz w1)
     go_ret
     exact ⟨by have e := HE.out; subst e; rfl, rfl⟩
def lsZ (t : TV) : Nat := if t.prod = -1 then 3 + t.tx.size else 2
set_option maxRecDepth 100000 in
set_option maxHeartbeats 4000000 in
theorem leastSize_W (h : TBx w p q t) (hs : t.tx.size <= 1000000000) : Calls Tryz.prog 31 #[.pointer (some ⟨p, q, none⟩)] w fun e w' => e = .returned (.int .i64 (lsZ t : Int)) /\ w' = w := by
 have CI : Hid (Calls Tryz.prog 21 #[.pointer (some ⟨p, q, none⟩)] w fun e w' => e = .returned (.bool (t.prod == -1)) /\ w' = w) := isLeaf_W p q t w h
 have c2 := h.c2
 clear h
 by_cases hp : t.prod = -1
 ·have t1 : (t.prod == -1) = true := by simpa using hp
  rw [t1] at CI
  have HE : Hid ((lsZ t : Int) = 3 + (t.tx.size : Int)) := by show _ = _; unfold lsZ; rw [if_pos hp]; omega
  have wr1 : IntKind.i64.wrap (3 + (t.tx.size : Int)) = 3 + (t.tx.size : Int) := wrapI (by omega) (by omega)
  clear hp t1
  generalize t.tx = tx at *
  generalize (lsZ t : Int) = ls at *
  go_enter Tryz.func31, Tryz.ntmps31
  go_wp2_with (go_at_call 21; refine CI.out.mono ?_; rintro e w1 ⟨rfl, hz⟩; rw [hz]; clear hz w1)
  go_ret
  exact ⟨by have e := HE.out; subst e; rfl, rfl⟩
 ·have t1 : (t.prod == -1) = false := by simpa using hp
  rw [t1] at CI
  have HE : Hid ((lsZ t : Int) = 2) := by show _ = _; unfold lsZ; rw [if_neg hp]; rfl
  clear hp t1 c2
  generalize (lsZ t : Int) = ls at *
  go_enter Tryz.func31, Tryz.ntmps31
  go_wp2_with (go_at_call 21; refine CI.out.mono ?_; rintro e w1 ⟨rfl, hz⟩; rw [hz]; clear hz w1)
  go_ret
  exact ⟨by have e := HE.out; subst e; rfl, rfl⟩
end
section
variable {w0 wr : World} {a b p q : Nat} {v : Value} {xs : List Int} {t : TV}
set_option maxRecDepth 100000 in
set_option maxHeartbeats 4000000 in
theorem writePlace_W (h : EW w0 a b v xs wr) (ht : TBx w0 p q t) (hc : cdF t = 0) (hs : t.tx.size <= 500000000) (hk : t.kids.length <= 1000000000) (hx : xs.length <= 400000000) : Calls Tryz.prog 32 #[.pointer (some ⟨a, 0, none⟩), .pointer (some ⟨p, q, none⟩)] wr (EE w0 wr a b (xs ++ plB t)) := by
 have hen : ∀ n : Int, (C.enc 10 n).length <= 10 := fun n => C.enc_len 10 n
 have TB : Hid (∀ w', Below w0.heap.size w0 w' -> TBx w' p q t) := fun w' hb => by
  have e : ∀ j, w'.cell? ⟨p, j, none⟩ = w0.cell? ⟨p, j, none⟩ := fun j => hb.cell (p := ⟨p, j, none⟩) ht.lt
  exact ⟨Nat.lt_of_lt_of_le ht.lt hb.size, (e _).trans ht.c0, (e _).trans ht.c1, (e _).trans ht.c2, (e _).trans ht.c3⟩
 by_cases hp : t.prod = -1
 ·obtain ⟨k1, k2, k3⟩ := cd_leaf hc hp
  have HP : Hid (xs ++ plB t = xs ++ C.enc 10 0 ++ C.enc 10 (C.foldS t.kind) ++ encS t.tx) := by
   show _ = _
   unfold plB
   rw [if_pos hp, hp]
   simp only [List.append_assoc]
   rfl
  have hf : 0 <= C.foldS t.kind /\ C.foldS t.kind <= 9223372036854775808 := by unfold C.foldS; split <;> omega
  have CA : Hid (Calls Tryz.prog 60 #[.pointer (some ⟨a, 0, none⟩), .int .i64 0] wr (EE w0 wr a b (xs ++ C.enc 10 0))) := eint h 0 (by decide) (by decide) (by omega)
  have CI : Hid (∀ w', Below w0.heap.size w0 w' -> Calls Tryz.prog 21 #[.pointer (some ⟨p, q, none⟩)] w' fun e w'' => e = .returned (.bool true) /\ w'' = w') := fun w' hb => by
   have := isLeaf_W p q t w' (TB.out w' hb)
   rw [show (t.prod == -1) = true by simpa using hp] at this
   exact this
  have e0 := hen 0
  have e1 := hen (C.foldS t.kind)
  have CS : Hid (∀ w' v', EW w0 a b v' (xs ++ C.enc 10 0) w' -> Calls Tryz.prog 61 #[.pointer (some ⟨a, 0, none⟩), .int .i64 t.kind] w' (EE w0 w' a b (xs ++ C.enc 10 0 ++ C.enc 10 (C.foldS t.kind)))) := fun w' v' hw => esigned hw t.kind (by omega) (by omega) (by rw [List.length_append]; omega)
  have CT : Hid (∀ w' v', EW w0 a b v' (xs ++ C.enc 10 0 ++ C.enc 10 (C.foldS t.kind)) w' -> Calls Tryz.prog 62 #[.pointer (some ⟨a, 0, none⟩), .string t.tx] w' (EE w0 w' a b (xs ++ C.enc 10 0 ++ C.enc 10 (C.foldS t.kind) ++ encS t.tx))) := fun w' v' hw => etext hw t.tx (by omega) (by rw [List.length_append, List.length_append]; omega)
  obtain ⟨x0, x1, x2⟩ : wr.cell? ⟨p, q, none⟩ = some (.int .i64 (-1)) /\ True /\ True := ⟨by rw [<- hp]; exact (TB.out wr h.bel).c0, trivial, trivial⟩
  rw [HP.out]
  clear hc hs hk hx hp k1 k2 k3 hf e0 e1 h ht hen HP x1 x2
  generalize C.enc 10 (C.foldS t.kind) = ek at *
  go_enter Tryz.func32, Tryz.ntmps32
  go_wp2_with (first
   | (go_at_call 60; refine CA.out.mono ?_; rintro e w1 ⟨rfl, v1, h1', f1'⟩; have H1 : Hid (EW w0 a b v1 (xs ++ C.enc 10 0) w1 /\ EF wr w1) := ⟨h1', f1'⟩; clear h1' f1' x0; have y1 := (TB.out w1 H1.out.1.bel).c1; have y2 := (TB.out w1 H1.out.1.bel).c2)
   | (go_at_call 21; refine (CI.out _ H1.out.1.bel).mono ?_; rintro e w2 ⟨rfl, hz⟩; rw [hz]; clear hz w2)
   | (go_at_call 61; refine (CS.out _ _ H1.out.1).mono ?_; rintro e w3 ⟨rfl, v3, h3', f3'⟩; have H3 : Hid (EW w0 a b v3 (xs ++ C.enc 10 0 ++ ek) w3 /\ EF wr w3) := ⟨h3', H1.out.2.trans f3'⟩; clear h3' f3' y1 y2; have z2 := (TB.out w3 H3.out.1.bel).c2)
   | (go_at_call 62; refine (CT.out _ _ H3.out.1).mono ?_; rintro e w4 ⟨rfl, v4, h4', f4'⟩; have H4 : Hid (EW w0 a b v4 (xs ++ C.enc 10 0 ++ ek ++ encS t.tx) w4 /\ EF wr w4) := ⟨h4', H3.out.2.trans f4'⟩; clear h4' f4'))
  refine bodyPost_end (results_none rfl _ _ _) rfl ?_
  exact ⟨rfl, v4, H4.out⟩
 ·obtain ⟨k1, k2, k3, k4⟩ := cd_node hc hp
  have HP : Hid (xs ++ plB t = xs ++ C.enc 10 (t.prod + 1) ++ C.enc 10 (t.kids.length : Int)) := by
   show _ = _
   unfold plB
   rw [if_neg hp]
   simp only [List.append_assoc]
  have CA : Hid (Calls Tryz.prog 60 #[.pointer (some ⟨a, 0, none⟩), .int .i64 (t.prod + 1)] wr (EE w0 wr a b (xs ++ C.enc 10 (t.prod + 1)))) := eint h _ (by omega) (by omega) (by omega)
  have CI : Hid (∀ w', Below w0.heap.size w0 w' -> Calls Tryz.prog 21 #[.pointer (some ⟨p, q, none⟩)] w' fun e w'' => e = .returned (.bool false) /\ w'' = w') := fun w' hb => by
   have := isLeaf_W p q t w' (TB.out w' hb)
   rw [show (t.prod == -1) = false by simpa using hp] at this
   exact this
  have e0 := hen (t.prod + 1)
  have CB : Hid (∀ w' v', EW w0 a b v' (xs ++ C.enc 10 (t.prod + 1)) w' -> Calls Tryz.prog 60 #[.pointer (some ⟨a, 0, none⟩), .int .i64 (t.kids.length : Int)] w' (EE w0 w' a b (xs ++ C.enc 10 (t.prod + 1) ++ C.enc 10 (t.kids.length : Int)))) := fun w' v' hw => eint hw _ (by omega) (by omega) (by rw [List.length_append]; omega)
  have x0 := (TB.out wr h.bel).c0
  have wr1 : IntKind.i64.wrap (t.prod + 1) = t.prod + 1 := wrapI (by omega) (by omega)
  rw [HP.out]
  clear hc hs hk hx hp k1 k2 k3 k4 e0 h ht hen HP
  have H1 : Hid True := trivial
  go_enter Tryz.func32, Tryz.ntmps32
  go_wp2_with (first
   | (go_at_call 60; guard_hyp H1 : Hid True; clear H1; refine CA.out.mono ?_; rintro e w1 ⟨rfl, v1, h1', f1'⟩; have H1 : Hid (EW w0 a b v1 (xs ++ C.enc 10 (t.prod + 1)) w1 /\ EF wr w1) := ⟨h1', f1'⟩; clear h1' f1' x0 CA; have y3 := (TB.out w1 H1.out.1.bel).c3)
   | (go_at_call 21; refine (CI.out _ H1.out.1.bel).mono ?_; rintro e w2 ⟨rfl, hz⟩; rw [hz]; clear hz w2)
   | (go_at_call 60; refine (CB.out _ _ H1.out.1).mono ?_; rintro e w3 ⟨rfl, v3, h3', f3'⟩; have H3 : Hid (EW w0 a b v3 (xs ++ C.enc 10 (t.prod + 1) ++ C.enc 10 (t.kids.length : Int)) w3 /\ EF wr w3) := ⟨h3', H1.out.2.trans f3'⟩; clear h3' f3'))
  refine bodyPost_end (results_none rfl _ _ _) rfl ?_
  exact ⟨rfl, v3, H3.out⟩
end
end Go.Proofs.YtobhemaikomdaaaGreatDoor
