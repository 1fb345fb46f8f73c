import Derived.Test.YtnhfnihdikammabSCall3
namespace Go.Proofs.Ytnhfnihdikammab
set_option linter.unusedVariables false
open Go.RowKit Go.Maps

/-- The document's book. -/
structure RB (w : World) (q : Nat) (T N : Value) (ts ns : List ByteArray) : Prop where
  hq : w.heap[q]? = some (.cells #[T, N] 29 (0, 0))
  tn : GS w T ts
  nn : GS w N ns
  apart : ∀ k, T.ownBlock = some k → N.ownBlock ≠ some k
  tl : ts.length ≤ 64
  nl : ns.length ≤ 64
theorem RB.later {w w' : World} {q : Nat} {T N : Value} {ts ns : List ByteArray} (h : RB w q T N ts ns) (hb : Below w.heap.size w w') : RB w' q T N ts ns :=
  ⟨(hb.block q (lt_of_block h.hq)).trans h.hq, h.tn.later hb, h.nn.later hb, h.apart, h.tl, h.nl⟩
theorem gs_num {w : World} {a : Option Addr} {n c : Nat} {ss : List ByteArray} {y : ByteArray} (h : GS w (.slice a n c) (ss ++ [y])) : n = ss.length + 1 := by
  obtain ⟨a', c', e⟩ := gs_len h
  simp at e
  exact e.2.1
theorem in_own {w : World} {v : Value} {ss : List ByteArray} (h : GS w v ss) (s : ByteArray) (hl : ss.length ≤ 140737488355328) : Calls Try.prog 75 #[v, .string s] w fun e w' => e = .returned (.int .i64 (inS ss s)) ∧ w = w' := by
  obtain ⟨a, c, rfl, hr, _, _⟩ := h.row
  exact in_any a _ c ss s w rfl hl hr
theorem inS_some {ss : List ByteArray} {s : ByteArray} {i : Nat} (h : placeS ss s = some i) : inS ss s = i := by unfold inS; rw [h]
theorem inS_none {ss : List ByteArray} {s : ByteArray} (h : placeS ss s = none) : inS ss s = -1 := by unfold inS; rw [h]

theorem RB.newTerm {w w4 : World} {q : Nat} {T N V' : Value} {ts ns : List ByteArray} {s : ByteArray} (h : RB w q T N ts ns) (hg : Grew (w.alloc (.cells #[.string s] 9)) w4 T V') (ho : GS w4 V' (ts ++ [s])) (hl : ts.length < 64) :
    RB (w4.setCell ⟨q, 0, none⟩ V') q V' N (ts ++ [s]) ns ∧ BFr w (w4.setCell ⟨q, 0, none⟩ V') q q T N V' N := by
  have x1 : w4.heap[q]? = some (.cells #[T, N] 29 (0, 0)) := (hg.grown.block q (by have := lt_of_block h.hq; simp; omega) (h.tn.ne h.hq (by decide))).trans ((Below.heap_alloc _ _ q (lt_of_block h.hq)).trans h.hq)
  have oth : ∀ k, N.ownBlock = some k → (w4.setCell ⟨q, 0, none⟩ V').heap[k]? = w.heap[k]? := fun k hk => by
    have kl := h.nn.lt k hk
    have kq : k ≠ q := fun e => h.nn.ne h.hq (by decide) (by rw [hk, e])
    rw [Below.heap_setCell _ _ _ _ kq, hg.grown.block k (by simp; omega) (fun e => h.apart k e.symm hk), Below.heap_alloc _ _ k kl]
  refine ⟨⟨?_, ho.kept fun k hk => Below.heap_setCell _ _ _ _ fun e => ho.ne x1 (by decide) (by rw [hk, e]), h.nn.kept oth, fun k hk hn => ?_, by simp; omega, h.nl⟩, ⟨hg.grown.os, hg.grown.tape, hg.grown.output, ?_, fun k hk hkg _ hkT hkN => ?_, fun k hk => ?_, fun k hk => .inl hk⟩⟩
  · exact heap_set x1 _ _
  · rcases hg.moved with e | ⟨k', e, hk'⟩
    · exact h.apart k (by rw [← e]; exact hk) hn
    · rw [e] at hk
      have := h.nn.lt k hn
      simp at hk hk'
      omega
  · have := hg.grown.size
    have h0 : (w4.setCell ⟨q, 0, none⟩ V').heap.size = w4.heap.size := by simp [World.setCell]
    rw [h0]
    simp at this
    omega
  · rw [Below.heap_setCell _ _ _ _ hkg, hg.grown.block k (by simp; omega) hkT, Below.heap_alloc _ _ k hk]
  · rcases hg.moved with e | ⟨k', e, hk'⟩
    · exact .inl (by rw [← e]; exact hk)
    · rw [e] at hk; simp at hk hk'; exact .inr (by omega)
set_option maxHeartbeats 2000000 in
theorem refTerm_any {w : World} {q : Nat} {T N : Value} {ts ns : List ByteArray} (h : RB w q T N ts ns) (s : ByteArray) (hs : s.size ≤ 9223372036854775807) :
    Calls Try.prog 34 #[.pointer (some ⟨q, 0, none⟩), .string s] w fun e w' => ∃ n er, e = .returned (.tuple #[.int .i64 n, .int .i64 er]) ∧ ∃ V', n = (termF ts ns s).1 ∧ er = (termF ts ns s).2.1 ∧ RB w' q V' N (termF ts ns s).2.2 ns ∧ BFr w w' q q T N V' N := by
  have c0 : w.cell? ⟨q, 0, none⟩ = some T := by rw [cellq_any h.hq]; rfl
  have c1 : w.cell? ⟨q, 1, none⟩ = some N := by rw [cellq_any h.hq]; rfl
  have hql := lt_of_block h.hq
  have hmy : ts.length ≤ 140737488355328 := by have := h.tl; omega
  have hot : ns.length ≤ 140737488355328 := by have := h.nl; omega
  by_cases hb : termS s = false
  · have HE : Hid (termF ts ns s = (0, 21, ts)) := by unfold Hid; simp [termF, hb]
    have hw : wordS s = false := by simp [termS] at hb; exact hb.1
    have hqd : quotedS s = false := by simp [termS] at hb; exact hb.2
    go_enter Try.func34, Try.ntmps34
    go_wp2_with (first | (go_at_call 73; refine (refword_any s _ hs).mono ?_; rintro e w' ⟨rfl, rfl⟩) | (go_at_call 74; refine (refquoted_any s _ hs).mono ?_; rintro e w' ⟨rfl, rfl⟩))
    go_returns
    exact ⟨_, _, rfl, _, by rw [HE.out], by rw [HE.out], by rw [HE.out]; exact h, BFr.refl w q q _ _⟩
  have hb : termS s = true := by simpa using hb
  have hwq : wordS s = true ∨ wordS s = false ∧ quotedS s = true := by
    simp [termS] at hb
    cases h1 : wordS s
    · exact .inr ⟨rfl, by simpa [h1] using hb⟩
    · exact .inl rfl
  rcases hwq with hw | ⟨hw, hqd⟩
  all_goals
    cases hm : placeS ts s with
    | some i =>
      have HE : Hid (termF ts ns s = ((i : Int), 0, ts)) := by unfold Hid; simp [termF, findS, *]
      have ei : inS ts s = i := inS_some hm
      go_enter Try.func34, Try.ntmps34
      go_wp2_with (first | (go_at_call 73; refine (refword_any s _ hs).mono ?_; rintro e w' ⟨rfl, rfl⟩) | (go_at_call 74; refine (refquoted_any s _ hs).mono ?_; rintro e w' ⟨rfl, rfl⟩) | (go_at_call 75; (with_reducible refine (in_own h.tn s hmy).mono ?_); rintro e w' ⟨rfl, rfl⟩) | (go_at_call 75; (with_reducible refine (in_own h.nn s hot).mono ?_); rintro e w' ⟨rfl, rfl⟩))
      go_returns
      exact ⟨_, _, rfl, _, by rw [HE.out], by rw [HE.out], by rw [HE.out]; exact h, BFr.refl w q q _ _⟩
    | none =>
      have ei : inS ts s = -1 := inS_none hm
      cases ho : placeS ns s with
      | some j =>
        have HE : Hid (termF ts ns s = (0, 6, ts)) := by unfold Hid; simp [termF, findS, *]
        have ej : inS ns s = j := inS_some ho
        go_enter Try.func34, Try.ntmps34
        go_wp2_with (first | (go_at_call 73; refine (refword_any s _ hs).mono ?_; rintro e w' ⟨rfl, rfl⟩) | (go_at_call 74; refine (refquoted_any s _ hs).mono ?_; rintro e w' ⟨rfl, rfl⟩) | (go_at_call 75; (with_reducible refine (in_own h.tn s hmy).mono ?_); rintro e w' ⟨rfl, rfl⟩) | (go_at_call 75; (with_reducible refine (in_own h.nn s hot).mono ?_); rintro e w' ⟨rfl, rfl⟩))
        go_returns
        exact ⟨_, _, rfl, _, by rw [HE.out], by rw [HE.out], by rw [HE.out]; exact h, BFr.refl w q q _ _⟩
      | none =>
        have ej : inS ns s = -1 := inS_none ho
        by_cases hl : ts.length = 64
        · have HE : Hid (termF ts ns s = (0, 31, ts)) := by unfold Hid; simp [termF, findS, *]
          obtain ⟨a, c, rfl⟩ := gs_len h.tn
          have hge : (64 : Int) ≤ ts.length := by omega
          clear hl
          go_enter Try.func34, Try.ntmps34
          go_wp2_with (first | (go_at_call 73; refine (refword_any s _ hs).mono ?_; rintro e w' ⟨rfl, rfl⟩) | (go_at_call 74; refine (refquoted_any s _ hs).mono ?_; rintro e w' ⟨rfl, rfl⟩) | (go_at_call 75; (with_reducible refine (in_own h.tn s hmy).mono ?_); rintro e w' ⟨rfl, rfl⟩) | (go_at_call 75; (with_reducible refine (in_own h.nn s hot).mono ?_); rintro e w' ⟨rfl, rfl⟩))
          go_returns
          exact ⟨_, _, rfl, _, by rw [HE.out], by rw [HE.out], by rw [HE.out]; exact h, BFr.refl w q q _ _⟩
        · have hl2 : ts.length < 64 := by have := h.tl; omega
          have HE : Hid (termF ts ns s = ((ts.length : Int), 0, ts ++ [s])) := by unfold Hid; simp [termF, findS, *]
          obtain ⟨a, c, rfl⟩ := gs_len h.tn
          have hnA : GS (w.alloc (.cells #[.string s] 9)) (.slice a ts.length c) ts := h.tn.later (below_alloc w _)
          have hy : (w.alloc (.cells #[.string s] 9)).cell? ⟨w.heap.size, 0, none⟩ = some (.string s) := by simp
          have hle : ts.length ≤ 1000000 := by omega
          have AF : Hid (∀ w4, (w.alloc (.cells #[.string s] 9)).grownBy w4 (Value.slice a ts.length c).ownBlock → w4.cell? ⟨q, 0, none⟩ = some (.slice a ts.length c) ∧ w4.frozen? ⟨q, 0, none⟩ = false) := by
            intro w4 hg4
            have x1 := (hg4.block q (by simp; omega) (h.tn.ne h.hq (by decide))).trans ((Below.heap_alloc _ _ q hql).trans h.hq)
            exact ⟨by rw [cellq_any x1]; rfl, by simp [World.frozen?, x1]⟩
          go_enter Try.func34, Try.ntmps34
          go_wp2_with (first | (go_at_call 73; refine (refword_any s _ hs).mono ?_; rintro e w' ⟨rfl, rfl⟩) | (go_at_call 74; refine (refquoted_any s _ hs).mono ?_; rintro e w' ⟨rfl, rfl⟩) | (go_at_call 75; (with_reducible refine (in_own h.tn s hmy).mono ?_); rintro e w' ⟨rfl, rfl⟩) | (go_at_call 75; (with_reducible refine (in_own h.nn s hot).mono ?_); rintro e w' ⟨rfl, rfl⟩) | (at_builtin; refine wpList_gs_append rfl _ _ rfl (.slice a ts.length c) ts rfl hnA _ _ s rfl hy hle ?_; intro a4 n4 c4 w4 ho4 hg4; obtain ⟨x3, x4⟩ := AF.out w4 hg4.grown; obtain rfl := gs_num ho4))
          go_returns
          obtain ⟨r1, r2⟩ := h.newTerm hg4 ho4 hl2
          exact ⟨_, _, rfl, _, by rw [HE.out], by rw [HE.out], by rw [HE.out]; exact r1, r2⟩

theorem RB.newNon {w w4 : World} {q : Nat} {T N V' : Value} {ts ns : List ByteArray} {s : ByteArray} (h : RB w q T N ts ns) (hg : Grew (w.alloc (.cells #[.string s] 9)) w4 N V') (ho : GS w4 V' (ns ++ [s])) (hl : ns.length < 64) :
    RB (w4.setCell ⟨q, 1, none⟩ V') q T V' ts (ns ++ [s]) ∧ BFr w (w4.setCell ⟨q, 1, none⟩ V') q q T N T V' := by
  have x1 : w4.heap[q]? = some (.cells #[T, N] 29 (0, 0)) := (hg.grown.block q (by have := lt_of_block h.hq; simp; omega) (h.nn.ne h.hq (by decide))).trans ((Below.heap_alloc _ _ q (lt_of_block h.hq)).trans h.hq)
  have oth : ∀ k, T.ownBlock = some k → (w4.setCell ⟨q, 1, none⟩ V').heap[k]? = w.heap[k]? := fun k hk => by
    have kl := h.tn.lt k hk
    have kq : k ≠ q := fun e => h.tn.ne h.hq (by decide) (by rw [hk, e])
    rw [Below.heap_setCell _ _ _ _ kq, hg.grown.block k (by simp; omega) (fun e => h.apart k hk e.symm), Below.heap_alloc _ _ k kl]
  refine ⟨⟨?_, h.tn.kept oth, ho.kept fun k hk => Below.heap_setCell _ _ _ _ fun e => ho.ne x1 (by decide) (by rw [hk, e]), fun k hk hn => ?_, h.tl, by simp; omega⟩, ⟨hg.grown.os, hg.grown.tape, hg.grown.output, ?_, fun k hk hkg _ hkT hkN => ?_, fun k hk => .inl hk, fun k hk => ?_⟩⟩
  · exact heap_set x1 _ _
  · rcases hg.moved with e | ⟨k', e, hk'⟩
    · exact h.apart k hk (by rw [← e]; exact hn)
    · rw [e] at hn
      have := h.tn.lt k hk
      simp at hn hk'
      omega
  · have := hg.grown.size
    have h0 : (w4.setCell ⟨q, 1, none⟩ V').heap.size = w4.heap.size := by simp [World.setCell]
    rw [h0]
    simp at this
    omega
  · rw [Below.heap_setCell _ _ _ _ hkg, hg.grown.block k (by simp; omega) hkN, Below.heap_alloc _ _ k hk]
  · rcases hg.moved with e | ⟨k', e, hk'⟩
    · exact .inl (by rw [← e]; exact hk)
    · rw [e] at hk; simp at hk hk'; exact .inr (by omega)
set_option maxHeartbeats 2000000 in
theorem refNon_any {w : World} {q : Nat} {T N : Value} {ts ns : List ByteArray} (h : RB w q T N ts ns) (hap : ∀ s i, placeS ns s = some i → placeS ts s = none) (s : ByteArray) (hs : s.size ≤ 9223372036854775807) :
    Calls Try.prog 35 #[.pointer (some ⟨q, 0, none⟩), .string s] w fun e w' => ∃ n er, e = .returned (.tuple #[.int .i64 n, .int .i64 er]) ∧ ∃ V', n = (nonF ts ns s).1 ∧ er = (nonF ts ns s).2.1 ∧ RB w' q T V' ts (nonF ts ns s).2.2 ∧ BFr w w' q q T N T V' := by
  have c0 : w.cell? ⟨q, 0, none⟩ = some T := by rw [cellq_any h.hq]; rfl
  have c1 : w.cell? ⟨q, 1, none⟩ = some N := by rw [cellq_any h.hq]; rfl
  have hql := lt_of_block h.hq
  have hmy : ns.length ≤ 140737488355328 := by have := h.nl; omega
  have hot : ts.length ≤ 140737488355328 := by have := h.tl; omega
  by_cases hb : wordS s = false
  · have HE : Hid (nonF ts ns s = (0, 21, ns)) := by unfold Hid; simp [nonF, hb]
    go_enter Try.func35, Try.ntmps35
    go_wp2_with (first | (go_at_call 73; refine (refword_any s _ hs).mono ?_; rintro e w' ⟨rfl, rfl⟩))
    go_returns
    exact ⟨_, _, rfl, _, by rw [HE.out], by rw [HE.out], by rw [HE.out]; exact h, BFr.refl w q q _ _⟩
  have hb : wordS s = true := by simpa using hb
  cases hm : placeS ns s with
  | some i =>
    have hot0 := hap s i hm
    have HE : Hid (nonF ts ns s = ((i : Int), 0, ns)) := by unfold Hid; simp [nonF, findS, *]
    have ei : inS ns s = i := inS_some hm
    go_enter Try.func35, Try.ntmps35
    go_wp2_with (first | (go_at_call 73; refine (refword_any s _ hs).mono ?_; rintro e w' ⟨rfl, rfl⟩) | (go_at_call 75; (with_reducible refine (in_own h.nn s hmy).mono ?_); rintro e w' ⟨rfl, rfl⟩) | (go_at_call 75; (with_reducible refine (in_own h.tn s hot).mono ?_); rintro e w' ⟨rfl, rfl⟩))
    go_returns
    exact ⟨_, _, rfl, _, by rw [HE.out], by rw [HE.out], by rw [HE.out]; exact h, BFr.refl w q q _ _⟩
  | none =>
    have ei : inS ns s = -1 := inS_none hm
    cases ho : placeS ts s with
    | some j =>
      have HE : Hid (nonF ts ns s = (0, 6, ns)) := by unfold Hid; simp [nonF, findS, *]
      have ej : inS ts s = j := inS_some ho
      go_enter Try.func35, Try.ntmps35
      go_wp2_with (first | (go_at_call 73; refine (refword_any s _ hs).mono ?_; rintro e w' ⟨rfl, rfl⟩) | (go_at_call 75; (with_reducible refine (in_own h.nn s hmy).mono ?_); rintro e w' ⟨rfl, rfl⟩) | (go_at_call 75; (with_reducible refine (in_own h.tn s hot).mono ?_); rintro e w' ⟨rfl, rfl⟩))
      go_returns
      exact ⟨_, _, rfl, _, by rw [HE.out], by rw [HE.out], by rw [HE.out]; exact h, BFr.refl w q q _ _⟩
    | none =>
      have ej : inS ts s = -1 := inS_none ho
      by_cases hl : ns.length = 64
      · have HE : Hid (nonF ts ns s = (0, 32, ns)) := by unfold Hid; simp [nonF, findS, *]
        obtain ⟨a, c, rfl⟩ := gs_len h.nn
        have hge : (64 : Int) ≤ ns.length := by omega
        clear hl
        go_enter Try.func35, Try.ntmps35
        go_wp2_with (first | (go_at_call 73; refine (refword_any s _ hs).mono ?_; rintro e w' ⟨rfl, rfl⟩) | (go_at_call 75; (with_reducible refine (in_own h.nn s hmy).mono ?_); rintro e w' ⟨rfl, rfl⟩) | (go_at_call 75; (with_reducible refine (in_own h.tn s hot).mono ?_); rintro e w' ⟨rfl, rfl⟩))
        go_returns
        exact ⟨_, _, rfl, _, by rw [HE.out], by rw [HE.out], by rw [HE.out]; exact h, BFr.refl w q q _ _⟩
      · have hl2 : ns.length < 64 := by have := h.nl; omega
        have HE : Hid (nonF ts ns s = ((ns.length : Int), 0, ns ++ [s])) := by unfold Hid; simp [nonF, findS, *]
        obtain ⟨a, c, rfl⟩ := gs_len h.nn
        have hnA : GS (w.alloc (.cells #[.string s] 9)) (.slice a ns.length c) ns := h.nn.later (below_alloc w _)
        have hy : (w.alloc (.cells #[.string s] 9)).cell? ⟨w.heap.size, 0, none⟩ = some (.string s) := by simp
        have hle : ns.length ≤ 1000000 := by omega
        have AF : Hid (∀ w4, (w.alloc (.cells #[.string s] 9)).grownBy w4 (Value.slice a ns.length c).ownBlock → w4.cell? ⟨q, 1, none⟩ = some (.slice a ns.length c) ∧ w4.frozen? ⟨q, 1, none⟩ = false) := by
          intro w4 hg4
          have x1 := (hg4.block q (by simp; omega) (h.nn.ne h.hq (by decide))).trans ((Below.heap_alloc _ _ q hql).trans h.hq)
          exact ⟨by rw [cellq_any x1]; rfl, by simp [World.frozen?, x1]⟩
        go_enter Try.func35, Try.ntmps35
        go_wp2_with (first | (go_at_call 73; refine (refword_any s _ hs).mono ?_; rintro e w' ⟨rfl, rfl⟩) | (go_at_call 75; (with_reducible refine (in_own h.nn s hmy).mono ?_); rintro e w' ⟨rfl, rfl⟩) | (go_at_call 75; (with_reducible refine (in_own h.tn s hot).mono ?_); rintro e w' ⟨rfl, rfl⟩) | (at_builtin; refine wpList_gs_append rfl _ _ rfl (.slice a ns.length c) ns rfl hnA _ _ s rfl hy hle ?_; intro a4 n4 c4 w4 ho4 hg4; obtain ⟨x3, x4⟩ := AF.out w4 hg4.grown; obtain rfl := gs_num ho4))
        go_returns
        obtain ⟨r1, r2⟩ := h.newNon hg4 ho4 hl2
        exact ⟨_, _, rfl, _, by rw [HE.out], by rw [HE.out], by rw [HE.out]; exact r1, r2⟩
end Go.Proofs.Ytnhfnihdikammab
