import Derived.Test.YtchocojmideleaaGreatDoorCheckHeadToSeal
import Derived.Test.YtchocojmideleaaGreatDoorParseNumToParseSum
import Derived.Test.YtchocojmideleaaGreatDoorCloneToWriter
import Derived.Deep.QuietTactic
import Derived.BigQuiet
namespace Go.Proofs.YtchocojmideleaaGreatDoor.C
set_option linter.unusedVariables false
open Go.RowKit

theorem chk_none (k : Int) (xs : List Int) (h : (checkHead k xs).1 = 0) : ∃ r, xs = headBytes k ++ r ∧ (checkHead k xs).2 = 0 := by
  unfold checkHead headBytes at *
  match xs with
  | [] => simp [chk] at h
  | [a] => simp [chk] at h; split at h <;> simp at h
  | [a, b] => simp [chk] at h; split at h <;> (try split at h) <;> simp at h
  | [a, b, c] => simp [chk] at h; split at h <;> (try split at h) <;> (try split at h) <;> simp at h
  | a :: b :: c :: d :: r =>
    simp [chk] at h ⊢
    by_cases ha : a = 103 <;> by_cases hb : b = 116 <;> by_cases hc : c = 114 <;> by_cases hd : d = k <;> simp_all

theorem RowAt.drop {w : World} {b off : Nat} {xs : List Int} (h : RowAt w (some ⟨b, off, none⟩) xs) (n : Nat) : RowAt w (some ⟨b, off + n, none⟩) (xs.drop n) := by
  refine ⟨isBytes_drop h.1 n, fun hne => ⟨b, off + n, rfl, fun i hi => ?_⟩⟩
  have hx : xs ≠ [] := fun e => hne (by rw [e]; simp)
  obtain ⟨b', off', he, hc⟩ := h.2 hx
  simp only [Option.some.injEq, Addr.mk.injEq, and_true] at he
  obtain ⟨rfl, rfl⟩ := he
  simp only [List.length_drop] at hi
  have := hc (n + i) (by omega)
  rw [show off + (n + i) = off + n + i by omega] at this
  rw [this]; simp [List.getD]
theorem RowAt.take {w : World} {ao : Option Addr} {xs : List Int} (h : RowAt w ao xs) (n : Nat) : RowAt w ao (xs.take n) := by
  refine ⟨isBytes_take h.1 n, fun hne => ?_⟩
  have hx : xs ≠ [] := fun e => hne (by rw [e]; simp)
  obtain ⟨b, off, rfl, hc⟩ := h.2 hx
  refine ⟨b, off, rfl, fun i hi => ?_⟩
  simp only [List.length_take] at hi
  rw [hc i (by omega)]
  simp [List.getD, show i < n by omega]

theorem RowAt.drewN {w : World} {ao : Option Addr} {xs : List Int} (h : RowAt w ao xs) (n : Nat) : RowAt (w.drewN n) ao xs := h.later (below_drewN (Below.refl _ _) n)
theorem parsenum_eq (ao : Option Addr) (N cap : Nat) (xs : List Int) (w : World) (n s e : Int) (hp : parse xs = (n, s, e)) (hN : N = xs.length) (hl : xs.length ≤ 140737488355328) (hr : RowAt w ao xs) :
    Calls Tryz.prog 143 #[.slice ao N cap] w fun r w' => r = .returned (.tuple #[.int .u64 n, .int .i64 s, .int .i64 e]) ∧ w = w' := by
  subst hN
  have h := parsenum_any ao cap xs w hl hr
  rw [hp] at h
  exact h.mono fun e w' h => ⟨h.1, h.2.symm⟩
theorem checkhead_eq (k : Int) (ao : Option Addr) (cap : Nat) (xs : List Int) (w : World) (ec ac : Int) (hc : checkHead k xs = (ec, ac)) (hk0 : 0 ≤ k) (hk1 : k ≤ 255) (hl : xs.length ≤ 140737488355328) (hm : Magic w) (hr : RowAt w ao xs) :
    Calls Tryz.prog 142 #[.int .u8 k, .slice ao xs.length cap] w fun e w' => e = .returned (.tuple #[.int .i64 ec, .int .i64 ac]) ∧ Below w.heap.size w w' := by
  have h := checkhead_any k ao cap xs w hk0 hk1 hl hm hr
  rw [hc] at h
  exact h
theorem checkhead_four (k : Int) (ao : Option Addr) (cap : Nat) (xs : List Int) (w : World) (ec ac : Int) (hc : checkHead k xs = (ec, ac)) (hk0 : 0 ≤ k) (hk1 : k ≤ 255) (h4 : xs.length = 4) (hm : Magic w) (hr : RowAt w ao xs) :
    Calls Tryz.prog 142 #[.int .u8 k, .slice ao 4 cap] w fun e w' => e = .returned (.tuple #[.int .i64 ec, .int .i64 ac]) ∧ Below w.heap.size w w' := by
  have h := checkhead_eq k ao cap xs w ec ac hc hk0 hk1 (by omega) hm hr
  rw [h4] at h
  exact h
theorem sum_q (ao : Option Addr) (N cap : Nat) (xs : List Int) (w : World) (hN : N = xs.length) (hl : xs.length ≤ 140737488355328) (hr : RowAt w ao xs) :
    Calls Tryz.prog 137 #[.slice ao N cap] w fun e w' => e = .returned (.int .u32 (adler xs)) ∧ w' = w := by
  subst hN
  exact sum_any ao cap xs w hl hr
theorem clone_at (ad : Addr) (N cap : Nat) (xs : List Int) (w : World) (hN : N = xs.length) (hl : xs.length ≤ 140737488355328) (hr : RowAt w (some ad) xs) :
    Calls Tryz.prog 134 #[.slice (some ad) N cap] w fun e w' => ∃ g N' c, e = .returned (.slice (some ⟨g, 0, none⟩) N' c) ∧ Own w' (.slice (some ⟨g, 0, none⟩) N' c) xs ∧ w.heap.size ≤ g ∧ Below w.heap.size w w' := by
  subst hN
  exact (clone_some ad cap xs w hl hr).mono fun e w' ⟨g, c, h⟩ => ⟨g, _, c, h⟩
theorem parsesum_at (ao : Option Addr) (N cap : Nat) (xs : List Int) (w : World) (hN : N = xs.length) (hl : xs.length ≤ 140737488355328) (hr : RowAt w ao xs) :
    Calls Tryz.prog 144 #[.slice ao N cap] w fun e w' => e = .returned (.int .u32 (joinSum xs)) ∧ w' = w := by
  subst hN
  exact parsesum_any ao cap xs w hl hr

/-- What Open answers: the body, the error, its place. -/
def openS (k : Int) (xs : List Int) : List Int × Int × Int :=
  if (checkHead k xs).1 ≠ 0 then ([], (checkHead k xs).1, (checkHead k xs).2)
  else if (parse (xs.drop 4)).2.2 = 11 then ([], 11, xs.length)
  else if (parse (xs.drop 4)).2.2 ≠ 0 then ([], (parse (xs.drop 4)).2.2, 4)
  else if 16777216 < (parse (xs.drop 4)).1 then ([], 5, 4)
  else if (xs.length : Int) < 4 + (parse (xs.drop 4)).2.1 + (parse (xs.drop 4)).1 + 4 then ([], 11, xs.length)
  else if 4 + (parse (xs.drop 4)).2.1 + (parse (xs.drop 4)).1 + 4 < (xs.length : Int) then ([], 12, 4 + (parse (xs.drop 4)).2.1 + (parse (xs.drop 4)).1 + 4)
  else if joinSum (xs.drop (4 + (parse (xs.drop 4)).2.1 + (parse (xs.drop 4)).1).toNat) ≠ adler (xs.take (4 + (parse (xs.drop 4)).2.1 + (parse (xs.drop 4)).1).toNat) then ([], 15, 4 + (parse (xs.drop 4)).2.1 + (parse (xs.drop 4)).1)
  else ((xs.take (4 + (parse (xs.drop 4)).2.1 + (parse (xs.drop 4)).1).toNat).drop (4 + (parse (xs.drop 4)).2.1).toNat, 0, 0)

theorem parseGo_facts (xs : List Int) (hb : isBytes xs) : ∀ (i : Nat) (acc : Int), i ≤ 9 → 0 ≤ acc → acc < 128 ^ i → ∀ n s e, parseGo i acc xs = (n, s, e) → (e = 11 ∨ e = 13 ∨ e = 0) ∧ (e = 0 → (i : Int) + 1 ≤ s ∧ s ≤ 10 ∧ s ≤ i + xs.length ∧ 0 ≤ n ∧ n < 18446744073709551616) := by
  induction xs with
  | nil => intro i acc _ _ _ n s e h; simp [parseGo] at h; obtain ⟨rfl, rfl, rfl⟩ := h; simp
  | cons c r ih =>
    intro i acc hi ha hlt n s e h
    have hc := hb c (by simp)
    rw [parseGo] at h
    by_cases h9 : i = 9 ∧ c ≠ 1
    · rw [if_pos h9] at h; simp at h; obtain ⟨rfl, rfl, rfl⟩ := h; simp
    · rw [if_neg h9] at h
      have hnx := accNext i acc c ha hlt hc.1
      by_cases hbig : 128 ≤ c
      · rw [if_pos hbig] at h
        have hi9 : i ≠ 9 := fun q => by have : c = 1 := Classical.byContradiction fun z => h9 ⟨q, z⟩; omega
        obtain ⟨q1, q2⟩ := ih (fun x hx => hb x (by simp [hx])) (i + 1) _ (by omega) hnx.1 hnx.2 n s e h
        refine ⟨q1, fun h0 => ?_⟩
        have := q2 h0
        simp only [List.length_cons]
        omega
      · rw [if_neg hbig] at h
        by_cases hz : c = 0 ∧ 0 < i
        · rw [if_pos hz] at h; simp at h; obtain ⟨rfl, rfl, rfl⟩ := h; simp
        · rw [if_neg hz] at h
          simp only [Prod.mk.injEq] at h
          obtain ⟨rfl, rfl, rfl⟩ := h
          refine ⟨by simp, fun _ => ?_⟩
          have hlim := lim i hi (c % 128) (by omega) (fun q => by have : c = 1 := Classical.byContradiction fun z => h9 ⟨q, z⟩; omega)
          have hp := pow_lim i hi
          simp only [List.length_cons]
          refine ⟨by omega, by omega, by omega, hnx.1, ?_⟩
          by_cases hi9 : i = 9
          · have : c = 1 := Classical.byContradiction fun z => h9 ⟨hi9, z⟩
            subst this
            subst hi9
            simp at hlt ⊢; omega
          · have : (128 : Int) ^ (i + 1) ≤ 9223372036854775808 := pow_lim (i + 1) (by omega)
            omega
theorem parse_facts (xs : List Int) (hb : isBytes xs) (n s e : Int) (h : parse xs = (n, s, e)) : (e = 11 ∨ e = 13 ∨ e = 0) ∧ (e = 0 → 1 ≤ s ∧ s ≤ 10 ∧ s ≤ xs.length ∧ 0 ≤ n ∧ n < 18446744073709551616) := by
  have := parseGo_facts xs hb 0 0 (by omega) (by omega) (by decide) n s e h
  simpa using this

/-- Its claim, of a call that ends so. -/
def OpenEnds (k : Int) (xs : List Int) (w : World) (e : Ending) (w' : World) : Prop :=
  ∃ v, e = .returned (.tuple #[v, .int .i64 (openS k xs).2.1, .int .i64 (openS k xs).2.2]) ∧ Own w' v (openS k xs).1 ∧ (∀ b, v.ownBlock = some b → w.heap.size ≤ b) ∧ Below w.heap.size w w'
theorem openEnds_nil {k : Int} {xs : List Int} {w w' : World} {er at' : Int} (h : openS k xs = ([], er, at')) (hb : Below w.heap.size w w') : OpenEnds k xs w (.returned (.tuple #[.slice none 0 0, .int .i64 er, .int .i64 at'])) w' :=
  ⟨.slice none 0 0, by rw [h], by rw [h]; exact Own.nil _, fun b hb => by simp [Value.ownBlock] at hb, hb⟩

set_option maxRecDepth 100000 in
set_option maxHeartbeats 400000 in
theorem open_head (k : Int) (ao : Option Addr) (cap : Nat) (xs : List Int) (w : World) (hk0 : 0 ≤ k) (hk1 : k ≤ 255) (hl : xs.length ≤ 140737488355328) (hm : Magic w) (hr : RowAt w ao xs) (h1 : (checkHead k xs).1 ≠ 0) :
    Calls Tryz.prog 88 #[.int .u8 k, .slice ao xs.length cap] w (OpenEnds k xs w) := by
  have fin := fun w' => @openEnds_nil k xs w w' (checkHead k xs).1 (checkHead k xs).2 (by rw [openS, if_pos h1])
  have FIN : Hid _ := fin
  obtain ⟨ec, ac, hc⟩ : ∃ ec ac, checkHead k xs = (ec, ac) := ⟨_, _, rfl⟩
  rw [hc] at FIN h1
  have hne : (ec != 0) = true := by simpa using h1
  have HC : Hid _ := hc
  clear hc h1 fin
  go_enter Tryz.func88, Tryz.ntmps88
  go_wp2_with (go_at_call 142; refine (checkhead_eq k _ cap xs w ec ac HC.out hk0 hk1 hl hm hr).mono ?_; rintro e w1 ⟨rfl, hb1⟩)
  go_ret3
  exact FIN.out w1 hb1

set_option maxRecDepth 100000 in
set_option maxHeartbeats 1000000 in
/-- There is room for no byte behind the head. -/
theorem open_four (k : Int) (b off : Nat) (xs : List Int) (w : World) (hk0 : 0 ≤ k) (hk1 : k ≤ 255) (h4 : xs.length = 4) (hm : Magic w) (hr : RowAt w (some ⟨b, off, none⟩) xs)
    (h1 : (checkHead k xs).1 = 0) : Calls Tryz.prog 88 #[.int .u8 k, .slice (some ⟨b, off, none⟩) 4 4] w (OpenEnds k xs w) := by
  obtain ⟨rest, hx, hc2⟩ := chk_none k xs h1
  have HC : Hid (checkHead k xs = (0, 0)) := Prod.ext h1 hc2
  have hd : xs.drop 4 = [] := List.drop_eq_nil_of_le (by omega)
  have FIN : Hid _ := fun w' => @openEnds_nil k xs w w' 11 4 (by rw [openS, if_neg (by simp [h1]), hd]; simp [parse, parseGo, h4])
  have H4 : Hid _ := h4
  clear hx hc2 h1 hd h4
  go_enter Tryz.func88, Tryz.ntmps88
  go_wp2_with (first
    | (go_at_call 142; refine (checkhead_four k _ 4 xs w 0 0 HC.out hk0 hk1 H4.out hm hr).mono ?_; rintro e w1 ⟨rfl, hb1⟩)
    | (go_at_call 143; refine (parsenum_eq _ _ _ [] w1 0 0 11 rfl rfl (by simp) (RowAt.nil _ _)).mono ?_; rintro e w2 ⟨rfl, rfl⟩))
  go_ret3
  exact FIN.out _ hb1

set_option maxRecDepth 100000 in
set_option maxHeartbeats 2000000 in
theorem open_rest (k : Int) (b off : Nat) (cap : Nat) (xs : List Int) (w : World) (hk0 : 0 ≤ k) (hk1 : k ≤ 255) (hl : xs.length ≤ 140737488355328) (hcap : xs.length ≤ cap) (hc4 : 4 < cap) (hm : Magic w) (hr : RowAt w (some ⟨b, off, none⟩) xs)
    (h1 : (checkHead k xs).1 = 0) : Calls Tryz.prog 88 #[.int .u8 k, .slice (some ⟨b, off, none⟩) xs.length cap] w (OpenEnds k xs w) := by
  obtain ⟨rest, hx, hc2⟩ := chk_none k xs h1
  have h4 : 4 ≤ xs.length := by rw [hx]; simp [headBytes]
  have HC : Hid (checkHead k xs = (0, 0)) := Prod.ext h1 hc2
  obtain ⟨n, s, ep, hp⟩ : ∃ n s e, parse (xs.drop 4) = (n, s, e) := ⟨_, _, _, rfl⟩
  have hO : openS k xs = openS k xs := rfl
  conv at hO => rhs; rw [openS, if_neg (by simp [h1]), hp]
  obtain ⟨hpe, hpf⟩ := parse_facts (xs.drop 4) (isBytes_drop hr.1 4) n s ep hp
  have HP : Hid _ := hp
  have HN : Hid (xs.length - 4 = (xs.drop 4).length) := by show _ = _; simp
  have HL : Hid ((xs.drop 4).length ≤ 140737488355328) := by show _ ≤ _; simp; omega
  clear hx hc2 h1 hp
  rcases hpe with rfl | rfl | rfl
  · conv at hO => rhs; rw [if_pos rfl]
    have FIN : Hid _ := fun w' => @openEnds_nil k xs w w' _ _ hO
    clear hO hpf
    go_enter Tryz.func88, Tryz.ntmps88
    go_wp2_with (first | (go_at_call 142; refine (checkhead_eq k _ cap xs w 0 0 HC.out hk0 hk1 hl hm hr).mono ?_; rintro e w1 ⟨rfl, hb1⟩; have hr1 := hr.later hb1) | (go_at_call 143; refine (parsenum_eq _ _ _ (xs.drop 4) w1 n s 11 HP.out HN.out HL.out (hr1.drop 4)).mono ?_; rintro e w2 ⟨rfl, rfl⟩))
    go_ret3
    exact FIN.out _ hb1
  · conv at hO => rhs; rw [if_neg (by simp), if_pos (by simp)]
    have FIN : Hid _ := fun w' => @openEnds_nil k xs w w' _ _ hO
    clear hO hpf
    go_enter Tryz.func88, Tryz.ntmps88
    go_wp2_with (first | (go_at_call 142; refine (checkhead_eq k _ cap xs w 0 0 HC.out hk0 hk1 hl hm hr).mono ?_; rintro e w1 ⟨rfl, hb1⟩; have hr1 := hr.later hb1) | (go_at_call 143; refine (parsenum_eq _ _ _ (xs.drop 4) w1 n s 13 HP.out HN.out HL.out (hr1.drop 4)).mono ?_; rintro e w2 ⟨rfl, rfl⟩))
    go_ret3
    exact FIN.out _ hb1
  · conv at hO => rhs; rw [if_neg (by simp), if_neg (by simp)]
    obtain ⟨hs1, hs2, hs3, hn1, hn2⟩ := hpf rfl
    clear hpf
    simp only [List.length_drop] at hs3
    by_cases hlong : 16777216 < n
    · conv at hO => rhs; rw [if_pos hlong]
      have FIN : Hid _ := fun w' => @openEnds_nil k xs w w' _ _ hO
      clear hO
      go_enter Tryz.func88, Tryz.ntmps88
      go_wp2_with (first | (go_at_call 142; refine (checkhead_eq k _ cap xs w 0 0 HC.out hk0 hk1 hl hm hr).mono ?_; rintro e w1 ⟨rfl, hb1⟩; have hr1 := hr.later hb1) | (go_at_call 143; refine (parsenum_eq _ _ _ (xs.drop 4) w1 n s 0 HP.out HN.out HL.out (hr1.drop 4)).mono ?_; rintro e w2 ⟨rfl, rfl⟩))
      go_ret3
      exact FIN.out _ hb1
    · conv at hO => rhs; rw [if_neg hlong]
      by_cases hshort : (xs.length : Int) < 4 + s + n + 4
      · conv at hO => rhs; rw [if_pos hshort]
        have FIN : Hid _ := fun w' => @openEnds_nil k xs w w' _ _ hO
        clear hO
        go_enter Tryz.func88, Tryz.ntmps88
        go_wp2_with (first | (go_at_call 142; refine (checkhead_eq k _ cap xs w 0 0 HC.out hk0 hk1 hl hm hr).mono ?_; rintro e w1 ⟨rfl, hb1⟩; have hr1 := hr.later hb1) | (go_at_call 143; refine (parsenum_eq _ _ _ (xs.drop 4) w1 n s 0 HP.out HN.out HL.out (hr1.drop 4)).mono ?_; rintro e w2 ⟨rfl, rfl⟩))
        go_ret3
        exact FIN.out _ hb1
      · conv at hO => rhs; rw [if_neg hshort]
        by_cases htail : 4 + s + n + 4 < (xs.length : Int)
        · conv at hO => rhs; rw [if_pos htail]
          have FIN : Hid _ := fun w' => @openEnds_nil k xs w w' _ _ hO
          clear hO
          go_enter Tryz.func88, Tryz.ntmps88
          go_wp2_with (first | (go_at_call 142; refine (checkhead_eq k _ cap xs w 0 0 HC.out hk0 hk1 hl hm hr).mono ?_; rintro e w1 ⟨rfl, hb1⟩; have hr1 := hr.later hb1) | (go_at_call 143; refine (parsenum_eq _ _ _ (xs.drop 4) w1 n s 0 HP.out HN.out HL.out (hr1.drop 4)).mono ?_; rintro e w2 ⟨rfl, rfl⟩))
          go_ret3
          exact FIN.out _ hb1
        · conv at hO => rhs; rw [if_neg htail]
          obtain ⟨n, rfl⟩ := Int.eq_ofNat_of_zero_le hn1
          obtain ⟨s, rfl⟩ := Int.eq_ofNat_of_zero_le (show 0 ≤ s by omega)
          have hT : (4 + (s : Int) + (n : Int)).toNat = 4 + s + n := by omega
          have hF : (4 + (s : Int)).toNat = 4 + s := by omega
          rw [hT, hF] at hO
          have hlen : xs.length = 4 + s + n + 4 := by omega
          have HK1 : Hid (xs.length - (4 + s + n) = (xs.drop (4 + s + n)).length) := by show _ = _; simp
          have HK2 : Hid (4 + s + n = (xs.take (4 + s + n)).length) := by show _ = _; simp; omega
          have HK3 : Hid ((xs.drop (4 + s + n)).length ≤ 140737488355328) := by show _ ≤ _; simp; omega
          have HK4 : Hid ((xs.take (4 + s + n)).length ≤ 140737488355328) := by show _ ≤ _; simp; omega
          have hle : 4 + s + n + 4 ≤ xs.length := by omega
          have hge : xs.length ≤ 4 + s + n + 4 := by omega
          have hn3 : n ≤ 16777216 := by omega
          have hs4 : s ≤ 10 := by omega
          clear hlen hT hF hshort htail hlong hs1 hs2 hs3 hn1 hn2
          by_cases hsum : joinSum (xs.drop (4 + s + n)) = adler (xs.take (4 + s + n))
          · conv at hO => rhs; rw [if_neg (by simp [hsum])]
            have hne : (joinSum (xs.drop (4 + s + n)) != adler (xs.take (4 + s + n))) = false := by simpa using hsum
            have HO : Hid _ := hO
            have HK5 : Hid (n = ((xs.take (4 + s + n)).drop (4 + s)).length) := by show _ = _; simp; omega
            have HK6 : Hid (((xs.take (4 + s + n)).drop (4 + s)).length ≤ 140737488355328) := by show _ ≤ _; simp; omega
            clear hO hsum
            go_enter Tryz.func88, Tryz.ntmps88
            go_wp2_with (first | (go_at_call 142; refine (checkhead_eq k _ cap xs w 0 0 HC.out hk0 hk1 hl hm hr).mono ?_; rintro e w1 ⟨rfl, hb1⟩; have hr1 := hr.later hb1) | (go_at_call 143; refine (parsenum_eq _ _ _ (xs.drop 4) w1 (n : Int) (s : Int) 0 HP.out HN.out HL.out (hr1.drop 4)).mono ?_; rintro e w2 ⟨rfl, rfl⟩))
            go_quiet ((first | (go_at_call 144; exact Calls.quiet_of_same (parsesum_at _ _ _ (xs.drop (4 + s + n)) _ HK1.out HK3.out (hr1.drop (4 + s + n)))) | (go_at_call 137; exact Calls.quiet_of_same (sum_q _ _ _ (xs.take (4 + s + n)) _ HK2.out HK4.out (hr1.take (4 + s + n))))))
            go_wp2_with (go_at_call 134; refine (clone_at _ _ _ ((xs.take (4 + s + n)).drop (4 + s)) (w1.drewN _) HK5.out HK6.out (((hr1.take (4 + s + n)).drop (4 + s)).drewN _)).mono ?_; rintro e w3 ⟨g, N3, c3, rfl, ho3, hg3, hb3⟩)
            go_ret3
            refine ⟨_, by rw [HO.out]; rfl, by rw [HO.out]; exact ho3, fun q hq => ?_, ?_⟩
            · simp [Value.ownBlock] at hq
              have := hb1.size
              simp at hg3
              omega
            · exact (below_drewN hb1 _).trans (hb3.mono (by simpa using hb1.size))
          · conv at hO => rhs; rw [if_pos hsum]
            have FIN : Hid _ := fun w' => @openEnds_nil k xs w w' _ _ hO
            have hne : (joinSum (xs.drop (4 + s + n)) != adler (xs.take (4 + s + n))) = true := by simpa using hsum
            clear hO hsum
            go_enter Tryz.func88, Tryz.ntmps88
            go_wp2_with (first | (go_at_call 142; refine (checkhead_eq k _ cap xs w 0 0 HC.out hk0 hk1 hl hm hr).mono ?_; rintro e w1 ⟨rfl, hb1⟩; have hr1 := hr.later hb1) | (go_at_call 143; refine (parsenum_eq _ _ _ (xs.drop 4) w1 (n : Int) (s : Int) 0 HP.out HN.out HL.out (hr1.drop 4)).mono ?_; rintro e w2 ⟨rfl, rfl⟩))
            go_quiet ((first | (go_at_call 144; exact Calls.quiet_of_same (parsesum_at _ _ _ (xs.drop (4 + s + n)) _ HK1.out HK3.out (hr1.drop (4 + s + n)))) | (go_at_call 137; exact Calls.quiet_of_same (sum_q _ _ _ (xs.take (4 + s + n)) _ HK2.out HK4.out (hr1.take (4 + s + n))))))
            go_wp2
            go_ret3
            exact FIN.out _ (below_drewN hb1 _)
end Go.Proofs.YtchocojmideleaaGreatDoor.C
