import Derived.Test.YtndjcbcdjcnniaaSBack0
namespace Go.Proofs.Ytndjcbcdjcnniaa
set_option linter.unusedVariables false
open Go.RowKit Go.Maps

theorem cnb_at (a1 a2 : Option Addr) (c1 c2 : Nat) (ts ns : List ByteArray) (w : World) (er at_ : Int) (hc : checkF ts ns = (er, at_)) (hz1 : ∀ s ∈ ts, s.size ≤ maxLen) (hz2 : ∀ s ∈ ns, s.size ≤ maxLen) (hr1 : StrRow w a1 ts) (hr2 : StrRow w a2 ns) :
    Calls Try.prog 8 #[.slice a1 ts.length c1, .slice a2 ns.length c2] w fun e w' => e = .returned (.tuple #[.int .i64 er, .int .i64 at_]) ∧ Below w.heap.size w w' :=
  (checknames_any a1 a2 c1 c2 _ _ ts ns w rfl rfl hz1 hz2 hr1 hr2).mono fun e w' ⟨_, _, he, h1, h2, hb⟩ => ⟨by rw [he, h1, h2, hc], hb⟩
theorem spell_all (ta na la : Option Addr) (tc nc lc : Nat) (ts ns : List ByteArray) (l : List (Int × Int)) (w : World) (h1 : ts.length ≤ 64) (h2 : ns.length ≤ 64) (hF : Fine ts ns) (hr1 : StrRow w ta ts) (hr2 : StrRow w na ns) (hr3 : SymRow w la l) (hl : l.length ≤ 1048576) (hall : ∀ q ∈ l, okN ts ns q = true) :
    Calls Try.prog 14 #[.slice ta ts.length tc, .slice na ns.length nc, .slice la l.length lc] w fun e w' => e = .returned (.tuple #[.string ⟨(joinU (l.map (nameU ts ns))).toArray⟩, .int .i64 0]) ∧ Below w.heap.size w w' := by
  refine (spell_any ta na la tc nc lc ts ns l w h1 h2 hr1 hr2 hr3 (fun q _ => nameF_size hF q.1 q.2) hl).mono fun e w' ⟨h, hb⟩ => ⟨?_, hb⟩
  rcases h with ⟨_, he⟩ | ⟨⟨q, hq, hf⟩, _⟩
  · exact he
  · rw [hall q hq] at hf; cases hf
theorem spell_no (ta na la : Option Addr) (tc nc lc : Nat) (ts ns : List ByteArray) (l : List (Int × Int)) (w : World) (h1 : ts.length ≤ 64) (h2 : ns.length ≤ 64) (hF : Fine ts ns) (hr1 : StrRow w ta ts) (hr2 : StrRow w na ns) (hr3 : SymRow w la l) (hl : l.length ≤ 1048576) (hno : ¬ ∀ q ∈ l, okN ts ns q = true) :
    Calls Try.prog 14 #[.slice ta ts.length tc, .slice na ns.length nc, .slice la l.length lc] w fun e w' => e = .returned (.tuple #[.string ⟨#[]⟩, .int .i64 35]) ∧ Below w.heap.size w w' := by
  refine (spell_any ta na la tc nc lc ts ns l w h1 h2 hr1 hr2 hr3 (fun q _ => nameF_size hF q.1 q.2) hl).mono fun e w' ⟨h, hb⟩ => ⟨?_, hb⟩
  rcases h with ⟨ha, _⟩ | ⟨_, he⟩
  · exact absurd ha hno
  · exact he
theorem read_spelled (ta na : Option Addr) (tc nc : Nat) (ts ns : List ByteArray) (l : List (Int × Int)) (w : World) (h1 : ts.length ≤ 64) (h2 : ns.length ≤ 64) (hF : Fine ts ns) (hr1 : StrRow w ta ts) (hr2 : StrRow w na ns) (hl : l.length ≤ 1048576) (hall : ∀ q ∈ l, okN ts ns q = true) :
    Calls Try.prog 17 #[.slice ta ts.length tc, .slice na ns.length nc, .string ⟨(joinU (l.map (nameU ts ns))).toArray⟩] w fun e w' => ∃ a c, e = .returned (.tuple #[.slice a l.length c, .int .i64 0, .int .i64 0]) ∧ SY w' (.slice a l.length c) l ∧ Below w.heap.size w w' := by
  have em : l.map (nameU ts ns) = (l.map fun q => (nameF ts ns q.1 q.2).1).map fun x => x.data.toList := by rw [List.map_map]; rfl
  have hb := join_bound ts ns l (fun q _ => nameF_size hF q.1 q.2) hl l.length
  rw [List.take_length] at hb
  have hsz : (⟨(joinU (l.map (nameU ts ns))).toArray⟩ : ByteArray).size = (joinU (l.map (nameU ts ns))).length := by show (joinU (l.map (nameU ts ns))).toArray.size = _; simp
  refine read_any ta na tc nc ts ns l _ w h1 h2 hF hr1 hr2 hall hl (by omega) (fun i => offU (l.map (nameU ts ns)) i) (offU_zero _) (fun i hi => ?_) (fun i hi => ?_) ?_
  · rw [offU_succ _ i (by simpa using hi)]
    simp only [List.getElem_map, nameU, Array.length_toList]
    have e : l.getD i (0, 0) = l[i] := by simp [List.getD, hi]
    rw [e]
    rfl
  · have e : l.getD i (0, 0) = l[i] := by simp [List.getD, hi]
    rw [e, em]
    have := word_at (l.map fun q => (nameF ts ns q.1 q.2).1) (fun x hx => by
      obtain ⟨q, hq, rfl⟩ := List.mem_map.1 hx
      exact (name_known hF (k := q.1) (n := q.2) (hall q hq)).1) i (by simpa using hi)
    simpa using this
  · rw [hsz]
    have := off_end (l.map (nameU ts ns))
    simpa using this
/-- What comes in. -/
structure BIn (a0 a1 a2 : Option Addr) (ts ns : List ByteArray) (l : List (Int × Int)) (w : World) : Prop where
  z1 : ∀ s ∈ ts, s.size ≤ maxLen
  z2 : ∀ s ∈ ns, s.size ≤ maxLen
  r1 : StrRow w a0 ts
  r2 : StrRow w a1 ns
  r3 : SymRow w a2 l
  l1 : ts.length ≤ 1048576
  l2 : ns.length ≤ 1048576
  l3 : l.length ≤ 1048576
theorem BIn.later {a0 a1 a2 : Option Addr} {ts ns : List ByteArray} {l : List (Int × Int)} {w w' : World} (h : BIn a0 a1 a2 ts ns l w) (hb : Below w.heap.size w w') : BIn a0 a1 a2 ts ns l w' := ⟨h.z1, h.z2, h.r1.later hb, h.r2.later hb, h.r3.later (Nat.le_refl _) hb, h.l1, h.l2, h.l3⟩
set_option maxRecDepth 100000 in
set_option maxHeartbeats 4000000 in
theorem back_bad (a0 a1 a2 : Option Addr) (c0 c1 c2 : Nat) (ts ns : List ByteArray) (l : List (Int × Int)) (n : Int) (w : World) (h : BIn a0 a1 a2 ts ns l w) (er at_ : Int) (hc : Hid (checkF ts ns = (er, at_))) (he : (er == 0) = false) :
    Calls Try.prog 5 #[.slice a0 ts.length c0, .slice a1 ns.length c1, .slice a2 l.length c2, .int .i64 n] w fun e w' => e = .returned (.bool true) ∧ Below w.heap.size w w' := by
  go_enter Try.func5, Try.ntmps5
  go_wp2_with (first
    | (go_at_call 13; refine (works_any _).mono ?_; rintro e w1 ⟨rfl, hb1⟩; have h1 := h.later hb1)
    | (go_at_call 8; refine (cnb_at a0 a1 c0 c1 ts ns _ er at_ hc.out h1.z1 h1.z2 h1.r1 h1.r2).mono ?_; rintro e w2 ⟨rfl, hb2⟩; have B2 := hb1.trans (hb2.mono hb1.size)))
  go_ret
  exact ⟨rfl, B2⟩
set_option maxRecDepth 100000 in
set_option maxHeartbeats 4000000 in
theorem back_no (a0 a1 a2 : Option Addr) (c0 c1 c2 : Nat) (ts ns : List ByteArray) (l : List (Int × Int)) (n : Int) (w : World) (h : BIn a0 a1 a2 ts ns l w) (at_ : Int) (hc : Hid (checkF ts ns = (0, at_))) (hn : -9223372036854775808 ≤ n) (hn' : n ≤ 9223372036854775807) (hno : Hid (¬ ∀ q ∈ l, okN ts ns q = true)) :
    Calls Try.prog 5 #[.slice a0 ts.length c0, .slice a1 ns.length c1, .slice a2 l.length c2, .int .i64 n] w fun e w' => e = .returned (.bool true) ∧ Below w.heap.size w w' := by
  obtain ⟨hF', l1, l2⟩ := check_ok hc.out
  have hF : Hid (Fine ts ns) := hF'
  clear hF'
  rcases sparse_cases l1 l2 n with ⟨s1, hs'⟩ | ⟨s1, s2, hs'⟩ | ⟨k, i, hs', hd', hi0, hi1⟩
  all_goals
    have hs : Hid _ := hs'
    clear hs'
  case' inr.inr =>
    have hd : Hid _ := hd'
    have e1 : (n == n) = true := by simp
    clear hd'
  all_goals
    go_enter Try.func5, Try.ntmps5
    go_wp2_with (first
      | (go_at_call 13; refine (works_any _).mono ?_; rintro e w1 ⟨rfl, hb1⟩; have h1 := h.later hb1)
      | (go_at_call 8; refine (cnb_at a0 a1 c0 c1 ts ns _ 0 at_ hc.out h1.z1 h1.z2 h1.r1 h1.r2).mono ?_; rintro e w2 ⟨rfl, hb2⟩; have B2 := hb1.trans (hb2.mono hb1.size); have h2 := h1.later hb2; clear hb2 h1)
      | (go_at_call 14; refine (spell_no a0 a1 a2 c0 c1 c2 ts ns l _ l1 l2 hF.out h2.r1 h2.r2 h2.r3 h2.l3 hno.out).mono ?_; rintro e w3 ⟨rfl, hb3⟩; have B3 := B2.trans (hb3.mono B2.size); clear hb3 h2 B2)
      | (go_at_call 21; refine (sparse_at _ hn hn' hs.out).mono ?_; rintro e w4 ⟨rfl, hb4⟩; have B4 := (B3.trans (hb4.mono B3.size)); clear hb4 B3)
      | (go_at_call 20; refine (dense_at _ (by omega) (by omega) hd.out).mono ?_; rintro e w5 ⟨rfl, hb5⟩))
    go_ret
    first
      | exact ⟨rfl, B4.trans ((below_alloc w4 _).mono B4.size)⟩
      | exact ⟨rfl, (B4.trans ((below_alloc w4 _).mono B4.size)).trans (hb5.mono (by have := B4.size; simp; omega))⟩
end Go.Proofs.Ytndjcbcdjcnniaa
