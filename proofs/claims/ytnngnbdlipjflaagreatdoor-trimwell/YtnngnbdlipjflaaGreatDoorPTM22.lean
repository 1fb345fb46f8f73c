import Derived.Test.YtnngnbdlipjflaaGreatDoorPTM20ToTM21
namespace Go.Proofs.YtnngnbdlipjflaaGreatDoor
set_option linter.unusedVariables false
open Go.RowKit Go.Shelf

set_option maxRecDepth 100000 in
theorem unr1_P (p : PV) (w : World) : Calls Tryz.prog 78 #[pVal p] w fun e w' => e = .returned (.bool true) ∧ Below w.heap.size w w' := by
  unfold pVal
  go_enter Tryz.func78, Tryz.ntmps78
  go_wp2
  go_ret
  exact ⟨rfl, below_alloc _ _⟩
theorem unr1_C (g : GV) (w : World) : CntF g (fun _ => true) w 78 #[] := ⟨fun args w => by simp, fun wq p _ _ => by
  have := unr1_P p wq
  simpa using this⟩
/-- The mark of a symbol. -/
def mkY (T N : List Bool) (s : Int × Int) : Bool := if s.1 = 1 then T.getD s.2.toNat false else N.getD s.2.toNat false
def unY (T N : List Bool) (l : List (Int × Int)) : List (Int × Int) := l.filter fun s => !mkY T N s
theorem unY_one (T N : List Bool) (k : Nat) : unY T N (syD 1 k) = offY 1 T k := by
  unfold unY syD offY offU
  rw [List.filter_map, List.map_map]
  congr 1
  apply List.filter_congr
  intro i _
  simp [mkY]
theorem unY_two (T N : List Bool) (k : Nat) : unY T N (syD 2 k) = offY 2 N k := by
  unfold unY syD offY offU
  rw [List.filter_map, List.map_map]
  congr 1
  apply List.filter_congr
  intro i _
  simp [mkY]
theorem unY_take {T N : List Bool} {L : List (Int × Int)} {k : Nat} (hk : k < L.length) : unY T N (L.take (k + 1)) = if mkY T N (L.getD k (0, 0)) = true then unY T N (L.take k) else unY T N (L.take k) ++ [L.getD k (0, 0)] := by
  have e : L.take (k + 1) = L.take k ++ [L.getD k (0, 0)] := by
    rw [List.take_add_one, List.getElem?_eq_getElem hk, List.getD_eq_getElem?_getD, List.getElem?_eq_getElem hk]
    rfl
  rw [e]
  unfold unY
  rw [List.filter_append]
  split
  · rename_i h
    rw [List.filter_cons_of_neg (by rw [h]; decide)]
    simp
  · rename_i h
    rw [List.filter_cons_of_pos (by rw [Bool.eq_false_iff.2 h]; rfl)]
    simp
theorem unY_len (T N : List Bool) (L : List (Int × Int)) (k : Nat) : (unY T N (L.take k)).length ≤ k := by
  refine Nat.le_trans (List.length_filter_le _ _) ?_
  rw [List.length_take]
  omega
/-- The list of all symbols has symbols. -/
theorem syD_in {g : GV} {s : Int × Int} (h : s ∈ syD 1 g.ts.length ++ syD 2 g.ns.length) : (s.1 = 1 ∧ 0 ≤ s.2 ∧ s.2 < g.ts.length) ∨ (s.1 = 2 ∧ 0 ≤ s.2 ∧ s.2 < g.ns.length) := by
  rcases List.mem_append.1 h with h | h
  · obtain ⟨i, hi, rfl⟩ := List.mem_map.1 h
    have := List.mem_range.1 hi
    exact .inl ⟨rfl, by simp only; omega, by simp only; omega⟩
  · obtain ⟨i, hi, rfl⟩ := List.mem_map.1 h
    have := List.mem_range.1 hi
    exact .inr ⟨rfl, by simp only; omega, by simp only; omega⟩
theorem has_any {g : GV} {w : World} {tb nb : Nat} {T N : List Bool} (ht : g.ts.length ≤ 64) (hn : g.ns.length ≤ 64) (hT : T.length = g.ts.length) (hN : N.length = g.ns.length) (bt : BB w tb T) (bn : BB w nb N) {s : Int × Int} (hs : (s.1 = 1 ∧ 0 ≤ s.2 ∧ s.2 < g.ts.length) ∨ (s.1 = 2 ∧ 0 ≤ s.2 ∧ s.2 < g.ns.length)) :
    Calls Tryz.prog 57 #[.agg #[.slice (some ⟨tb, 0, none⟩) g.ts.length g.ts.length, .slice (some ⟨nb, 0, none⟩) g.ns.length g.ns.length], .agg #[.int .i64 s.1, .int .i64 s.2]] w fun e w' => e = .returned (.bool (mkY T N s)) ∧ Below w.heap.size w w' := by
  rcases hs with ⟨h1, i0, i1⟩ | ⟨h1, i0, i1⟩
  · obtain ⟨i, hi⟩ : ∃ i : Nat, s.2 = (i : Int) := ⟨s.2.toNat, by omega⟩
    have := has_P (some ⟨tb, 0, none⟩) (some ⟨nb, 0, none⟩) g.ts.length g.ts.length g.ns.length g.ns.length s.1 i tb g.ts.length g.ts.length (T.getD i false) w (by rw [if_pos h1]) (by omega) (by omega) (bt.cell (by omega))
    rw [← hi] at this
    have e : mkY T N s = T.getD i false := by unfold mkY; rw [if_pos h1, hi]; rfl
    rw [e]
    exact this
  · obtain ⟨i, hi⟩ : ∃ i : Nat, s.2 = (i : Int) := ⟨s.2.toNat, by omega⟩
    have := has_P (some ⟨tb, 0, none⟩) (some ⟨nb, 0, none⟩) g.ts.length g.ts.length g.ns.length g.ns.length s.1 i nb g.ns.length g.ns.length (N.getD i false) w (by rw [if_neg (by omega)]) (by omega) (by omega) (bn.cell (by omega))
    rw [← hi] at this
    have e : mkY T N s = N.getD i false := by unfold mkY; rw [if_neg (by omega), hi]; rfl
    rw [e]
    exact this
/-- An own list of symbols as an answer. -/
structure YBs (w : World) (l : List (Int × Int)) (v : Value) (wr : World) : Prop where
  sy : SY wr v l
  own : ∀ j, v.ownBlock = some j → w.heap.size ≤ j
  bel : Below w.heap.size w wr
theorem YBs.any {w wr w' : World} {l : List (Int × Int)} {v : Value} (h : YBs w l v wr) (hb : Below wr.heap.size wr w') : YBs w l v w' := ⟨h.sy.later hb, h.own, h.bel.trans (hb.mono h.bel.size)⟩
/-- Two boxes and what lies below. -/
structure UQ (g : GV) (w : World) (mb tb nb : Nat) (T N : List Bool) (wr : World) : Prop where
  ls : RLst g T N
  bt : BB wr tb T
  bn : BB wr nb N
  box : wr.heap[w.heap.size]? = some (gBox g)
  var : wr.heap[mb]? = some (.cells #[.slice (some ⟨tb, 0, none⟩) g.ts.length g.ts.length, .slice (some ⟨nb, 0, none⟩) g.ns.length g.ns.length] 107)
  bel : Below w.heap.size w wr
theorem UQ.any {g : GV} {w wr w' : World} {mb tb nb : Nat} {T N : List Bool} (h : UQ g w mb tb nb T N wr) (hb : Below wr.heap.size wr w') : UQ g w mb tb nb T N w' :=
  ⟨h.ls, h.bt.later hb, h.bn.later hb, (hb.block _ (lt_of_block h.box)).trans h.box, (hb.block _ (lt_of_block h.var)).trans h.var, h.bel.trans (hb.mono h.bel.size)⟩
set_option maxRecDepth 100000 in
set_option maxHeartbeats 8000000 in
/-- The program's list of unreached ones. -/
theorem unreached_P (g : GV) (w : World) (hfg : FG w g) (hst : 0 ≤ g.start ∧ g.start < g.ns.length) :
    Calls Tryz.prog 35 #[g.val] w fun e w' => ∃ v T N, e = .returned v ∧ RLst g T N ∧ YBs w (offY 1 T g.ts.length ++ offY 2 N g.ns.length) v w' := by
  have X0 : Hid ((w.alloc (gBox g)).heap[w.heap.size]? = some (gBox g)) := heap_alloc_new _ _
  have HFG : Hid (∀ w', Below w.heap.size w w' → FG w' g) := fun w' hb => hfg.later hb
  have RC : Hid (Calls Tryz.prog 54 #[g.val, .func (.func 78) #[] #[]] (w.alloc (gBox g)) fun e w' => ∃ tb nb T N, e = .returned (.agg #[.slice (some ⟨tb, 0, none⟩) g.ts.length g.ts.length, .slice (some ⟨nb, 0, none⟩) g.ns.length g.ns.length]) ∧ RLst g T N ∧ BB w' tb T ∧ BB w' nb N ∧ Below (w.alloc (gBox g)).heap.size (w.alloc (gBox g)) w') := by
    have := reached_P g (fun _ => true) (w.alloc (gBox g)) 78 #[] (hfg.later (below_alloc _ _)) hst (unr1_C g _)
    rw [gF_all] at this
    exact this.mono fun e w' ⟨tb, nb, T, N, h1, h2, h3, h4, _, _, h5⟩ => ⟨tb, nb, T, N, h1, h2, h3, h4, h5⟩
  obtain ⟨x0, x1, x2, x3, x4⟩ := gb_cells X0.out
  have hnl := hfg.nl.2
  have htl := hfg.tl.2
  have SO : Hid (∀ wq, Below w.heap.size w wq → Calls Tryz.prog 79 #[g.val] wq fun e w' => ∃ v, e = .returned v ∧ SY w' v (syD 1 g.ts.length ++ syD 2 g.ns.length) ∧ Below wq.heap.size wq w') := fun wq hb => (symbolsOf_P g wq (HFG.out wq hb)).mono fun e w' ⟨v, q1, q2, _, q4⟩ => ⟨v, q1, q2, q4⟩
  have HLL : (syD 1 g.ts.length ++ syD 2 g.ns.length).length ≤ 128 := by simp [syD]; omega
  have HIN : Hid (∀ s ∈ syD 1 g.ts.length ++ syD 2 g.ns.length, (s.1 = 1 ∧ 0 ≤ s.2 ∧ s.2 < g.ts.length) ∨ (s.1 = 2 ∧ 0 ≤ s.2 ∧ s.2 < g.ns.length)) := fun s hs => syD_in hs
  have HFI : Hid (∀ T N, unY T N (syD 1 g.ts.length ++ syD 2 g.ns.length) = offY 1 T g.ts.length ++ offY 2 N g.ns.length) := fun T N => by
    rw [← unY_one T N, ← unY_two T N]
    unfold unY
    rw [List.filter_append]
  generalize syD 1 g.ts.length ++ syD 2 g.ns.length = L at *
  clear hfg hst
  go_enter Tryz.func35, Tryz.ntmps35
  go_wp2_with (first
    | (go_at_call 54; refine RC.out.mono ?_; rintro e w2 ⟨tb, nb, T, N, rfl, m2, t2, n2, b2⟩; have U2 : Hid (UQ g w w2.heap.size tb nb T N (w2.alloc (.cells #[.slice (some ⟨tb, 0, none⟩) g.ts.length g.ts.length, .slice (some ⟨nb, 0, none⟩) g.ns.length g.ns.length] 107))) := ⟨m2, t2.later (below_alloc _ _), n2.later (below_alloc _ _), ((below_alloc w2 _).block _ (Nat.lt_of_lt_of_le (lt_of_block X0.out) b2.size)).trans ((b2.block _ (lt_of_block X0.out)).trans X0.out), heap_alloc_new _ _, ((below_alloc w _).trans (b2.mono (below_alloc w _).size)).trans ((below_alloc w2 _).mono ((below_alloc w _).trans (b2.mono (below_alloc w _).size)).size)⟩; clear m2 t2 n2 b2 x0 x1 x2 x3 x4; obtain ⟨x0, x1, x2, x3, x4⟩ := gb_cells U2.out.box)
    | (go_at_call 79; refine (SO.out _ U2.out.bel).mono ?_; rintro e w3 ⟨yv, rfl, y3, b3⟩; obtain ⟨ya, yc, rfl⟩ := sy_lenP y3; have U3 : Hid (UQ g w w2.heap.size tb nb T N w3 ∧ SymRow w3 ya L) := ⟨U2.out.any b3, y3.row⟩; clear y3 b3 x0 x1 x2 x3 x4))
  generalize w2.heap.size = mb at *
  clear U2
  go_loopw [4, 12] (fun v i wr => ∃ k : Nat, k ≤ L.length ∧ i = .int .i64 k ∧ YBs w3 (unY T N (L.take k)) v wr) (fun _ i _ => L.length - (intOf i).toNat)
  case atStart => exact ⟨0, Nat.zero_le _, rfl, SY.nil _, (fun j hj => by simp [Value.ownBlock] at hj), Below.refl _ _⟩
  case round =>
    obtain ⟨k, hk, rfl, hY⟩ := hrel
    obtain ⟨va, vc, rfl⟩ := sy_lenP hY.sy
    have HY : Hid (YBs w3 (unY T N (L.take k)) (.slice va (unY T N (L.take k)).length vc) wr) := hY
    by_cases hlt : k < L.length
    · obtain ⟨sb, so, hya, hsl, hsc⟩ := (U3.out.2.later (Nat.le_refl _) hY.bel) (by intro e; rw [e] at hlt; simp at hlt)
      obtain ⟨s0, s1⟩ := hsc k hlt
      have klt : (k : Int) < (L.length : Int) := by omega
      have hin := HIN.out _ (by simp [List.getD, hlt] : L.getD k (0, 0) ∈ L)
      have HST : Hid _ := unY_take (T := T) (N := N) hlt
      have hrl := unY_len T N L k
      have HSZ : Hid (L.getD k (0, 0) = L.getD k (0, 0)) := rfl
      obtain ⟨x, hx⟩ : ∃ x, L.getD k (0, 0) = x := ⟨_, rfl⟩
      rw [hx] at s0 s1 hin HST
      obtain ⟨wa, hwa⟩ : ∃ wa : World, wa = wr.alloc (.cells #[.int .i64 x.1, .int .i64 x.2] 54) := ⟨_, rfl⟩
      have ba : Below wr.heap.size wr wa := by rw [hwa]; exact below_alloc _ _
      have b3a : Below w3.heap.size w3 wa := hY.bel.trans (ba.mono hY.bel.size)
      have Ua := U3.out.1.any b3a
      have v0 : wa.cell? ⟨mb, 0, none⟩ = some (.slice (some ⟨tb, 0, none⟩) g.ts.length g.ts.length) := (cellq_any Ua.var).trans rfl
      have v1 : wa.cell? ⟨mb, 1, none⟩ = some (.slice (some ⟨nb, 0, none⟩) g.ns.length g.ns.length) := (cellq_any Ua.var).trans rfl
      have AD : Hid (Calls Tryz.prog 57 #[.agg #[.slice (some ⟨tb, 0, none⟩) g.ts.length g.ts.length, .slice (some ⟨nb, 0, none⟩) g.ns.length g.ns.length], .agg #[.int .i64 x.1, .int .i64 x.2]] wa fun e w' => e = .returned (.bool (mkY T N x)) ∧ Below wa.heap.size wa w') := has_any htl hnl Ua.ls.tl Ua.ls.nl Ua.bt Ua.bn hin
      have HA : Hid (Below wr.heap.size wr wa ∧ wa.heap[wr.heap.size]? = some (.cells #[.int .i64 x.1, .int .i64 x.2] 54)) := ⟨ba, by rw [hwa]; exact heap_alloc_new _ _⟩
      clear hsc hsl hin hY ba b3a Ua hx HSZ
      rw [hya]
      clear hya
      generalize unY T N (L.take k) = R at *
      generalize mkY T N x = mv at *
      obtain ⟨x1, x2⟩ := x
      simp only at s0 s1 hwa AD HA HST
      subst hwa
      cases mv
      · have E : Hid (unY T N (L.take (k + 1)) = R ++ [(x1, x2)]) := by
          show _ = _
          have := HST.out
          simpa using this
        have HLT : Hid (R.length ≤ 2000000) := by show _ ≤ _; omega
        clear HST
        go_wp2_with (first
          | (go_at_call 57; refine AD.out.mono ?_; rintro e w4 ⟨rfl, b4⟩; have B4 : Hid (Below wr.heap.size wr w4 ∧ w4.heap[wr.heap.size]? = some (.cells #[.int .i64 x1, .int .i64 x2] 54)) := ⟨HA.out.1.trans (b4.mono HA.out.1.size), (b4.block _ (lt_of_block HA.out.2)).trans HA.out.2⟩; obtain ⟨d0, d1, d2, d3⟩ := two_cells B4.out.2; clear b4)
          | (at_builtin; refine wpList_sy_append rfl _ _ rfl (.slice va R.length vc) R rfl ((HY.out.sy.later B4.out.1).later (below_alloc _ _)) w4.heap.size 1 x1 x2 rfl (by simp) (by simp) HLT.out ?_; intro a4 n4 c4 w5 ho4 hg4))
        obtain ⟨q1, q2⟩ := grew_belowI ((HY.out.bel.trans (B4.out.1.mono HY.out.bel.size)).alloc (HY.out.bel.trans (B4.out.1.mono HY.out.bel.size)).size _) HY.out.own hg4
        have R5 : Hid (YBs w3 (unY T N (L.take (k + 1))) (.slice a4 n4 c4) w5) := ⟨by rw [E.out]; exact ho4, q2, q1⟩
        clear q1 q2 ho4 hg4 d0 d1 d2 d3
        go_wp2
        go_roundw
        case rel => exact ⟨k + 1, by omega, by go_num, R5.out⟩
        case measure => simp [intOf]; omega
      · have E : Hid (unY T N (L.take (k + 1)) = R) := by
          show _ = _
          have := HST.out
          simpa using this
        clear HST
        go_wp2_with (go_at_call 57; refine AD.out.mono ?_; rintro e w4 ⟨rfl, b4⟩; have R5 : Hid (YBs w3 (unY T N (L.take (k + 1))) (.slice va R.length vc) w4) := (by rw [E.out]; exact (HY.out.any HA.out.1).any b4); clear b4)
        go_roundw
        case rel => exact ⟨k + 1, by omega, by go_num, R5.out⟩
        case measure => simp [intOf]; omega
    · obtain rfl : k = L.length := by omega
      have R5 : Hid (YBs w (offY 1 T g.ts.length ++ offY 2 N g.ns.length) (.slice va (unY T N (L.take L.length)).length vc) wr) := by
        show YBs _ _ _ _
        rw [← HFI.out T N]
        have := HY.out
        rw [List.take_length] at this ⊢
        exact ⟨this.sy, fun j hj => Nat.le_trans U3.out.1.bel.size (this.own j hj), U3.out.1.bel.trans (this.bel.mono U3.out.1.bel.size)⟩
      clear hY
      go_wp2
      go_ret
      exact ⟨_, T, N, rfl, U3.out.1.ls, R5.out⟩
end Go.Proofs.YtnngnbdlipjflaaGreatDoor
