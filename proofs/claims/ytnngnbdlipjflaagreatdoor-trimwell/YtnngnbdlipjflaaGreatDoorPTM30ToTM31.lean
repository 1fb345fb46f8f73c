import Derived.Test.YtnngnbdlipjflaaGreatDoorPTM28
namespace Go.Proofs.YtnngnbdlipjflaaGreatDoor
set_option linter.unusedVariables false
open Go.RowKit Go.Shelf

/-- A list of numbers of one's own in a block with room behind. -/
def LG (w : World) (b c : Nat) (L : List Int) : Prop := ∃ cur : Array Value, w.heap[b]? = some (.cells cur 3 (0, 0)) ∧ cur.size = c ∧ L.length ≤ c ∧ ∀ i, i < L.length → cur[i]? = some (.int .i64 (L.getD i 0))
theorem LG.of {w : World} {a : Option Addr} {n c : Nat} {L : List Int} (h : IL w (.slice a n c) L) (hne : L ≠ []) : ∃ b, a = some ⟨b, 0, none⟩ ∧ n = L.length ∧ LG w b c L := by
  rcases h.2 with ⟨e, h0⟩ | ⟨g, cap, cur, e, h1, h2, h3, h4, h5, h6⟩
  · exact absurd (List.eq_nil_of_length_eq_zero h0) hne
  · simp only [Value.slice.injEq] at e
    obtain ⟨rfl, rfl, rfl⟩ := e
    refine ⟨g, rfl, rfl, cur, h2, by omega, h3, fun i hi => ?_⟩
    have h7 : (cur.toList.take (L.length * 1))[i]? = (L.map (Value.int .i64 ·))[i]? := by rw [h6]
    rw [Nat.mul_one, List.getElem?_take_of_lt hi, Array.getElem?_toList, List.getElem?_map, List.getElem?_eq_getElem hi] at h7
    rw [h7, List.getD_eq_getElem?_getD, List.getElem?_eq_getElem hi]
    rfl
section
variable {w w' : World} {b c : Nat} {L : List Int}
theorem LG.lt (h : LG w b c L) : b < w.heap.size := by
  obtain ⟨cur, h1, _⟩ := h
  exact lt_of_block h1
theorem LG.later (h : LG w b c L) (hb : Below w.heap.size w w') : LG w' b c L := by
  obtain ⟨cur, h1, h2⟩ := h
  exact ⟨cur, (hb.block _ (lt_of_block h1)).trans h1, h2⟩
theorem LG.cell (h : LG w b c L) {i : Nat} (hi : i < L.length) : w.cell? ⟨b, i, none⟩ = some (.int .i64 (L.getD i 0)) := by
  obtain ⟨cur, h1, h2, h3, h4⟩ := h
  rw [cellq_any h1]
  exact h4 i hi
theorem LG.free (h : LG w b c L) (i : Nat) : w.frozen? ⟨b, i, none⟩ = false := by
  obtain ⟨cur, h1, _⟩ := h
  simp [World.frozen?, h1]
theorem LG.set (h : LG w b c L) (i : Nat) (x : Int) : LG (w.setCell ⟨b, i, none⟩ (.int .i64 x)) b c (L.set i x) := by
  obtain ⟨cur, h1, h2, h3, h4⟩ := h
  refine ⟨_, heap_set h1 i (.int .i64 x), by simpa using h2, by simpa using h3, fun j hj => ?_⟩
  have hj : j < L.length := by simpa using hj
  rw [Array.getElem?_setIfInBounds]
  by_cases e : i = j
  · subst e
    rw [if_pos rfl, if_pos (by omega), List.getD_eq_getElem?_getD, List.getElem?_set_self hj]
    rfl
  · rw [if_neg e, h4 j hj, List.getD_eq_getElem?_getD, List.getD_eq_getElem?_getD, List.getElem?_set_ne e]
theorem LG.row (h : LG w b c L) : InRow w (some ⟨b, 0, none⟩) L := fun _ => ⟨b, 0, rfl, h.lt, fun i hi => by
  rw [Nat.zero_add]
  exact h.cell hi⟩
end
/-- How much the numbers can still fall. -/
def wtI (x : Int) : Nat := if x < 0 then 2147483648 else x.toNat
def wtV : Value → Nat
  | .int _ x => wtI x
  | _ => 0
def wtS : List Value → Nat
  | [] => 0
  | v :: l => wtV v + wtS l
theorem wtS_set : ∀ (l : List Value) (i : Nat) (x y : Value), l[i]? = some x → wtV y < wtV x → wtS (l.set i y) + 1 ≤ wtS l
  | [], _, _, _, h, _ => by simp at h
  | v :: l, 0, x, y, h, hw => by
    obtain rfl : v = x := by simpa using h
    show wtV y + wtS l + 1 ≤ wtV v + wtS l
    omega
  | v :: l, i + 1, x, y, h, hw => by
    have := wtS_set l i x y (by simpa using h) hw
    show wtV v + wtS (l.set i y) + 1 ≤ wtV v + wtS l
    omega
def mesL (b : Nat) (w : World) : Nat := match w.heap[b]? with
  | some (.cells cur _ _) => wtS cur.toList
  | _ => 0
theorem LG.mes {w w' : World} {b c : Nat} {L : List Int} (h : LG w b c L) (hb : Below w.heap.size w w') : mesL b w' = mesL b w := by
  obtain ⟨cur, h1, _⟩ := h
  unfold mesL
  rw [hb.block _ (lt_of_block h1)]
theorem LG.fall {w : World} {b c : Nat} {L : List Int} (h : LG w b c L) {i : Nat} (hi : i < L.length) {x : Int} (hw : wtI x < wtI (L.getD i 0)) : mesL b (w.setCell ⟨b, i, none⟩ (.int .i64 x)) + 1 ≤ mesL b w := by
  obtain ⟨cur, h1, h2, h3, h4⟩ := h
  unfold mesL
  rw [heap_set h1 i (.int .i64 x), h1]
  show wtS (cur.setIfInBounds i (.int .i64 x)).toList + 1 ≤ wtS cur.toList
  rw [Array.toList_setIfInBounds]
  exact wtS_set _ _ (.int .i64 (L.getD i 0)) _ (by rw [Array.getElem?_toList]; exact h4 i hi) hw
/-- A symbol that has a length. -/
def okL (L : List Int) (s : Int × Int) : Prop := s.1 = 2 → 0 ≤ L.getD s.2.toNat 0
def ClK (g : GV) (L : List Int) (k : Nat) : Prop := ∀ j, j < k → (∀ s ∈ (g.ps.getD j .none).right, okL L s) → 0 ≤ L.getD (g.ps.getD j .none).left.toNat 0
/-- Lengths under way. -/
structure LW (g : GV) (w : World) (b c : Nat) (L : List Int) (wr : World) : Prop where
  lg : LG wr b c L
  len : L.length = g.ns.length
  rg : ∀ i, -1 ≤ L.getD i 0 ∧ L.getD i 0 ≤ 2147483647
  box : wr.heap[w.heap.size]? = some (gBox g)
  lo : w.heap.size < b
  bel : Below w.heap.size w wr
section
variable {g : GV} {w wr w' : World} {b c : Nat} {L : List Int}
theorem LW.any (h : LW g w b c L wr) (hb : Below wr.heap.size wr w') : LW g w b c L w' :=
  ⟨h.lg.later hb, h.len, h.rg, (hb.block _ (lt_of_block h.box)).trans h.box, h.lo, h.bel.trans (hb.mono h.bel.size)⟩
theorem LW.set (h : LW g w b c L wr) (i : Nat) {x : Int} (hx : -1 ≤ x ∧ x ≤ 2147483647) : LW g w b c (L.set i x) (wr.setCell ⟨b, i, none⟩ (.int .i64 x)) :=
  ⟨h.lg.set i x, by rw [List.length_set]; exact h.len, fun j => by
    by_cases e : i = j
    · subst e
      by_cases hl : i < L.length
      · rw [List.getD_eq_getElem?_getD, List.getElem?_set_self hl]; exact hx
      · rw [List.set_eq_of_length_le (by omega)]; exact h.rg i
    · have := h.rg j
      rw [List.getD_eq_getElem?_getD] at this
      rw [List.getD_eq_getElem?_getD, List.getElem?_set_ne e]
      exact this, (Below.heap_setCell _ _ _ _ (by show w.heap.size ≠ b; have := h.lo; omega)).trans h.box, h.lo, h.bel.setCell (p := ⟨b, i, none⟩) (Nat.le_of_lt h.lo) _⟩
end
theorem rep_m1 (k : Nat) : List.replicate (k + 1) (-1 : Int) = List.replicate k (-1) ++ [-1] := by rw [List.replicate_succ']
end Go.Proofs.YtnngnbdlipjflaaGreatDoor
namespace Go.Proofs.YtnngnbdlipjflaaGreatDoor
set_option linter.unusedVariables false
open Go.RowKit Go.Shelf

set_option maxRecDepth 100000 in
set_option maxHeartbeats 8000000 in
/-- The page's Lengths: a nonterminal whose production's right side has lengths has one. -/
theorem lengths_Y (g : GV) (w : World) (h : GAt 140737488355328 w g) (at_ : Int) (hE : checkG g (checkF g.ts g.ns) = (0, at_)) :
    Calls Tryz.prog 27 #[g.val] w fun e w' => ∃ b c L, e = .returned (.tuple #[.slice (some ⟨b, 0, none⟩) g.ns.length c, .int .i64 0]) ∧ LG w' b c L ∧ L.length = g.ns.length ∧ ClK g L g.ps.length ∧ Below w.heap.size w w' := by
  have ok : OkC g := OkC.of (by rw [hE])
  have X0 : Hid ((w.alloc (gBox g)).heap[w.heap.size]? = some (gBox g)) := heap_alloc_new _ _
  have MY : Hid (Calls Tryz.prog 26 #[g.val] (w.alloc (gBox g)) fun e w' => e = .returned (.int .i64 0) ∧ Below (w.alloc (gBox g)).heap.size (w.alloc (gBox g)) w') := by
    have := refmay_G g _ (h.later (below_alloc w (gBox g)))
    rwa [hE] at this
  have HFG : Hid (∀ w', Below w.heap.size w w' → FG w' g) := fun w' hb => ok.fg (h.later hb)
  obtain ⟨x0, x1, x2, x3, x4⟩ := gb_cells X0.out
  have hnl := ok.nl
  have hpl := (ok.fg h).pl
  have t1 : ((0 : Int) != 0) = false := by decide
  clear h hE ok
  go_enter Tryz.func27, Tryz.ntmps27
  go_wp2_with (go_at_call 26; refine MY.out.mono ?_; rintro e w2 ⟨rfl, b2⟩; have B2 : Hid (Below w.heap.size w w2 ∧ w2.heap[w.heap.size]? = some (gBox g)) := ⟨(below_alloc w _).trans (b2.mono (below_alloc w _).size), (b2.block _ (lt_of_block X0.out)).trans X0.out⟩; clear b2 x0 x1 x2 x3 x4)
  go_loopw [5, 6] (fun v i wr => ∃ k : Nat, k ≤ g.ns.length ∧ i = .int .i64 k ∧ LBs w2 (List.replicate k (-1)) v wr) (fun _ i _ => g.ns.length - (intOf i).toNat)
  case atStart => exact ⟨0, Nat.zero_le _, rfl, IL.nil _, (fun j hj => by simp [Value.ownBlock] at hj), Below.refl _ _⟩
  case round =>
    obtain ⟨k, hk, rfl, hL⟩ := hrel
    obtain ⟨va, vc, hv⟩ := il_len hL.il
    rw [List.length_replicate] at hv
    subst hv
    have HL : Hid (LBs w2 (List.replicate k (-1)) (.slice va k vc) wr) := hL
    have BX : Hid (wr.heap[w.heap.size]? = some (gBox g)) := (hL.bel.block _ (lt_of_block B2.out.2)).trans B2.out.2
    obtain ⟨x0, x1, x2, x3, x4⟩ := gb_cells BX.out
    clear hL
    by_cases hlt : k < g.ns.length
    · have klt : (k : Int) < (g.ns.length : Int) := by omega
      have HIA : Hid (IL (wr.alloc (.cells #[.int .i64 (-1)] 3)) (.slice va k vc) (List.replicate k (-1))) := HL.out.il.later (below_alloc _ _)
      have HLT : Hid ((List.replicate k (-1 : Int)).length ≤ 2000000) := by show _ ≤ _; rw [List.length_replicate]; omega
      go_wp2_with (at_builtin; refine wpList_il_append rfl _ _ rfl (.slice va k vc) (List.replicate k (-1)) rfl HIA.out _ 1 (-1) rfl (by simp) HLT.out ?_; intro a4 n4 c4 w4 ho4 hg4)
      obtain ⟨q1, q2⟩ := grew_belowI (HL.out.bel.alloc HL.out.bel.size _) HL.out.own hg4
      have R4 : Hid (LBs w2 (List.replicate (k + 1) (-1)) (.slice a4 n4 c4) w4) := ⟨by rw [rep_m1]; exact ho4, q2, q1⟩
      clear q1 q2 ho4 hg4 x0 x1 x2 x3 x4
      go_wp2
      go_roundw
      case rel => exact ⟨k + 1, by omega, by go_num, R4.out⟩
      case measure => simp [intOf]; omega
    · obtain rfl : k = g.ns.length := by omega
      obtain ⟨b, rfl, -, lg⟩ := LG.of HL.out.il (by intro e; have := congrArg List.length e; rw [List.length_replicate, List.length_nil] at this; omega)
      have W0 : Hid (LW g w b vc (List.replicate g.ns.length (-1)) wr) := by
        have lo : w.heap.size < b := Nat.lt_of_lt_of_le (lt_of_block B2.out.2) (HL.out.own b rfl)
        exact ⟨lg, by simp, fun i => by simp [List.getD, List.getElem?_replicate]; split <;> simp, BX.out, lo, B2.out.1.trans (HL.out.bel.mono B2.out.1.size)⟩
      clear lg HL BX
      go_wp2
      clear x0 x1 x2 x3 x4
      go_loopw [7] (fun z wr => ∃ (bo : Bool) (L : List Int), z = .bool bo ∧ LW g w b vc L wr ∧ (bo = false → ClK g L g.ps.length)) (fun z wr => mesL b wr + tOf z)
      case atStart => exact ⟨true, _, rfl, W0.out, fun h => by cases h⟩
      case round =>
        clear W0
        obtain ⟨bo, L, rfl, hW, hcl⟩ := hrel
        have HW : Hid (LW g w b vc L wr) := hW
        cases bo
        · have R : Hid (ClK g L g.ps.length) := hcl rfl
          clear hW hcl
          go_wp2
          refine bodyPost_ret (results_tmp2 rfl _ _ _) rfl ?_
          exact ⟨b, vc, L, rfl, HW.out.lg, HW.out.len, R.out, HW.out.bel⟩
        · clear hcl hW
          obtain ⟨wz, rfl⟩ : ∃ wz : World, wz = wr := ⟨_, rfl⟩
          go_wp2
          go_loopw [7, 8] (fun z i wr2 => ∃ (k : Nat) (b2 : Bool) (L2 : List Int), k ≤ g.ps.length ∧ z = .bool b2 ∧ i = .int .i64 k ∧ LW g w b vc L2 wr2 ∧ mesL b wr2 + (if b2 then 1 else 0) ≤ mesL b wz ∧ (b2 = false → L2 = L ∧ ClK g L k)) (fun _ i _ => g.ps.length - (intOf i).toNat)
          case atStart => exact ⟨0, false, L, Nat.zero_le _, rfl, rfl, HW.out, by simp, fun _ => ⟨rfl, fun j hj => absurd hj (Nat.not_lt_zero j)⟩⟩
          case round =>
            obtain ⟨k, b2, L2, hk, rfl, rfl, hW2, hle, hcl⟩ := hrel
            have HW2 : Hid (LW g w b vc L2 wr) := hW2
            obtain ⟨x0, x1, x2, x3, x4⟩ := gb_cells hW2.box
            by_cases hlt : k < g.ps.length
            · have klt : (k : Int) < (g.ps.length : Int) := by omega
              have hmem : g.ps.getD k .none ∈ g.ps := by simp [List.getD, hlt]
              have HCL : Hid (b2 = false → L2 = L ∧ ClK g L k) := hcl
              have HLE : Hid (mesL b wr + (if b2 then 1 else 0) ≤ mesL b wz) := hle
              obtain ⟨p, hp⟩ : ∃ p, g.ps.getD k .none = p := ⟨_, rfl⟩
              have HC : Hid (∀ w', Below w.heap.size w w' → ∃ b o, g.pa = some ⟨b, o, none⟩ ∧ w'.cell? ⟨b, o + k * 3, none⟩ = some (.int .i64 p.left) ∧ w'.cell? ⟨b, o + k * 3 + 1, none⟩ = some (.slice p.ra p.right.length p.rc)) := fun w' hb => by
                obtain ⟨b, o, hpa, hbl, hc⟩ := (HFG.out _ hb).p.cells (by intro e; rw [e] at hlt; simp at hlt)
                obtain ⟨c0, c1, c2⟩ := hc k hlt
                rw [hp] at c0 c1
                exact ⟨b, o, hpa, c0, c1⟩
              rw [hp] at hmem
              have HP : Hid (g.ps.getD k .none = p) := hp
              have HRO : Hid (∀ w', Below w.heap.size w w' → SymRow w' p.ra p.right) := fun w' hb => (HFG.out _ hb).p.rows _ hmem
              obtain ⟨l0, l1⟩ := (HFG.out _ hW2.bel).left _ hmem
              have hrl := (HFG.out _ hW2.bel).rl _ hmem
              have HSY : Hid (∀ s ∈ p.right, (s.1 = 1 ∧ 0 ≤ s.2 ∧ s.2 < g.ts.length) ∨ (s.1 = 2 ∧ 0 ≤ s.2 ∧ s.2 < g.ns.length)) := (HFG.out _ hW2.bel).sym _ hmem
              obtain ⟨m, hm⟩ : ∃ m : Nat, p.left = (m : Int) := ⟨p.left.toNat, by omega⟩
              have HL : Hid (p.left.toNat = m) := by show _ = _; omega
              have mlt : (m : Int) < (g.ns.length : Int) := by omega
              rw [hm] at HC
              obtain ⟨pb, po, hpa, c0, c1⟩ := HC.out _ hW2.bel
              rw [hpa] at x3
              clear hmem hcl hle hW2 hp hm l0 l1
              obtain ⟨wy, hwy⟩ : ∃ wy : World, wy = wr := ⟨_, rfl⟩
              have MW : Hid (mesL b wr = mesL b wy) := by rw [hwy]; exact rfl
              rw [← hwy] at HLE
              have HLE2 : Hid (mesL b wy + (if b2 then 1 else 0) ≤ mesL b wz) := HLE.out
              clear HLE hwy
              go_wp2
              go_loopw [9, 10] (fun z i wr3 => ∃ (q : Nat) (s : Int), q ≤ p.right.length ∧ z = .int .i64 s ∧ i = .int .i64 q ∧ LW g w b vc L2 wr3 ∧ mesL b wr3 = mesL b wy ∧ (-1 ≤ s ∧ s ≤ 2147483647) ∧ (0 ≤ s ↔ ∀ j, j < q → okL L2 (p.right.getD j (0, 0)))) (fun _ i _ => p.right.length - (intOf i).toNat)
              case atStart => exact ⟨0, 0, Nat.zero_le _, rfl, rfl, HW2.out, MW.out, by omega, fun _ j hj => absurd hj (Nat.not_lt_zero j), fun _ => Int.le_refl 0⟩
              case round =>
                clear x0 x1 x2 x3 x4 c0 c1 MW HW2
                obtain ⟨q, s, hq, rfl, rfl, hW3, hmes, hsr, hiff⟩ := hrel
                have HW3 : Hid (LW g w b vc L2 wr ∧ mesL b wr = mesL b wy) := ⟨hW3, hmes⟩
                obtain ⟨x0, x1, x2, x3, x4⟩ := gb_cells hW3.box
                obtain ⟨pb', po', hpa', c0, c1⟩ := HC.out _ hW3.bel
                obtain ⟨rfl, rfl⟩ : pb' = pb ∧ po' = po := by rw [hpa] at hpa'; simp at hpa'; exact ⟨hpa'.1.symm, hpa'.2.symm⟩
                clear hpa'
                rw [hpa] at x3
                have HIFF : Hid (0 ≤ s ↔ ∀ j, j < q → okL L2 (p.right.getD j (0, 0))) := hiff
                clear hiff hmes
                by_cases hgo : q < p.right.length ∧ 0 ≤ s
                · obtain ⟨hql, hs0⟩ := hgo
                  obtain ⟨sb, so, hpr, hsl, hsc⟩ := HRO.out _ hW3.bel (by intro e; rw [e] at hql; simp at hql)
                  obtain ⟨s0, s1⟩ := hsc q hql
                  have qlt : (q : Int) < (p.right.length : Int) := by omega
                  have sge : (0 : Int) ≤ s := hs0
                  have hsm : p.right.getD q (0, 0) ∈ p.right := by simp [List.getD, hql]
                  have hin := HSY.out _ hsm
                  have HPREV : Hid (∀ j, j < q → okL L2 (p.right.getD j (0, 0))) := HIFF.out.1 hs0
                  rw [hpr] at c1
                  clear hsc hsl hpr HIFF
                  generalize hx : p.right.getD q (0, 0) = x at *
                  obtain ⟨x1', x2'⟩ := x
                  simp only at s0 s1 hin
                  have HX : Hid (p.right.getD q (0, 0) = (x1', x2')) := hx
                  have HNEXT : Hid (∀ y : Int, (0 ≤ y ↔ okL L2 (x1', x2')) → (0 ≤ y ↔ ∀ j, j < q + 1 → okL L2 (p.right.getD j (0, 0)))) := fun y hy => by
                    rw [hy]
                    constructor
                    · intro a j hj
                      by_cases r : j = q
                      · subst r; rw [HX.out]; exact a
                      · exact HPREV.out j (by omega)
                    · intro a
                      have := a q (by omega)
                      rwa [HX.out] at this
                  have HW1 : Hid (LW g w b vc L2 (wr.alloc (.cells #[.int .i64 x1', .int .i64 x2'] 54)) ∧ mesL b (wr.alloc (.cells #[.int .i64 x1', .int .i64 x2'] 54)) = mesL b wy) := ⟨hW3.any (below_alloc _ _), (hW3.lg.mes (below_alloc _ _)).trans HW3.out.2⟩
                  clear hx hsm hW3
                  rcases hin with ⟨h1, i0, i1⟩ | ⟨h1, i0, i1⟩
                  · subst h1
                    have e1 : ((1 : Int) == 1) = true := by decide
                    have OK : Hid (okL L2 (1, x2')) := fun e => by simp at e
                    by_cases hbig : s + 1 > 2147483647
                    · have e2 : decide (s + 1 > 2147483647) = true := by simpa using hbig
                      have R : Hid (0 ≤ (2147483647 : Int) ↔ ∀ j, j < q + 1 → okL L2 (p.right.getD j (0, 0))) := HNEXT.out _ ⟨fun _ => OK.out, fun _ => by omega⟩
                      go_wp2
                      go_roundw
                      case rel => exact ⟨q + 1, 2147483647, by omega, rfl, by go_num, HW1.out.1, HW1.out.2, by omega, R.out⟩
                      case measure => simp [intOf]; omega
                    · have e2 : decide (s + 1 > 2147483647) = false := by simpa using hbig
                      have R : Hid (0 ≤ s + 1 ↔ ∀ j, j < q + 1 → okL L2 (p.right.getD j (0, 0))) := HNEXT.out _ ⟨fun _ => OK.out, fun _ => by omega⟩
                      go_wp2
                      go_roundw
                      case rel => exact ⟨q + 1, s + 1, by omega, by go_num, by go_num, HW1.out.1, HW1.out.2, by omega, R.out⟩
                      case measure => simp [intOf]; omega
                  · obtain ⟨n, rfl⟩ : ∃ n : Nat, x2' = (n : Int) := ⟨x2'.toNat, by omega⟩
                    subst h1
                    have e1 : ((2 : Int) == 1) = false := by decide
                    have hn : n < L2.length := by rw [HW1.out.1.len]; omega
                    have nlt : (n : Int) < (g.ns.length : Int) := by omega
                    have ct := HW1.out.1.lg.cell hn
                    have hrg := HW1.out.1.rg n
                    have OKN : Hid (okL L2 (2, (n : Int)) ↔ 0 ≤ L2.getD n 0) := by
                      show _ ↔ _
                      unfold okL
                      simp only [Int.toNat_natCast]
                      exact ⟨fun a => a (by simp), fun a _ => a⟩
                    generalize L2.getD n 0 = y at *
                    by_cases hy : y < 0
                    · have e2 : decide (y < 0) = true := by simpa using hy
                      have R : Hid (0 ≤ (-1 : Int) ↔ ∀ j, j < q + 1 → okL L2 (p.right.getD j (0, 0))) := HNEXT.out _ ⟨fun a => by omega, fun a => by have := OKN.out.1 a; omega⟩
                      go_wp2
                      go_roundw
                      case rel => exact ⟨q + 1, -1, by omega, rfl, by go_num, HW1.out.1, HW1.out.2, by omega, R.out⟩
                      case measure => simp [intOf]; omega
                    · have e2 : decide (y < 0) = false := by simpa using hy
                      have OK : Hid (okL L2 (2, (n : Int))) := OKN.out.2 (by omega)
                      by_cases hbig : s + y > 2147483647
                      · have e3 : decide (s + y > 2147483647) = true := by simpa using hbig
                        have R : Hid (0 ≤ (2147483647 : Int) ↔ ∀ j, j < q + 1 → okL L2 (p.right.getD j (0, 0))) := HNEXT.out _ ⟨fun _ => OK.out, fun _ => by omega⟩
                        go_wp2
                        go_roundw
                        case rel => exact ⟨q + 1, 2147483647, by omega, rfl, by go_num, HW1.out.1, HW1.out.2, by omega, R.out⟩
                        case measure => simp [intOf]; omega
                      · have e3 : decide (s + y > 2147483647) = false := by simpa using hbig
                        have R : Hid (0 ≤ s + y ↔ ∀ j, j < q + 1 → okL L2 (p.right.getD j (0, 0))) := HNEXT.out _ ⟨fun _ => OK.out, fun _ => by omega⟩
                        go_wp2
                        go_roundw
                        case rel => exact ⟨q + 1, s + y, by omega, by go_num, by go_num, HW1.out.1, HW1.out.2, by omega, R.out⟩
                        case measure => simp [intOf]; omega
                · have HALL : Hid (0 ≤ s ↔ ∀ t ∈ p.right, okL L2 t) := by
                    constructor
                    · intro a t ht
                      obtain ⟨i, hi, rfl⟩ := List.getElem_of_mem ht
                      have := HIFF.out.1 a i (by omega)
                      simpa [List.getD, hi] using this
                    · intro a
                      refine HIFF.out.2 fun j hj => a _ ?_
                      have hj2 : j < p.right.length := by omega
                      simp [List.getD, hj2]
                  clear HIFF
                  have hml : m < L2.length := by rw [hW3.len]; omega
                  have cm := hW3.lg.cell hml
                  have fm := hW3.lg.free m
                  have hmr := hW3.rg m
                  have FALL : Hid (∀ y, wtI y < wtI (L2.getD m 0) → mesL b (wr.setCell ⟨b, m, none⟩ (.int .i64 y)) + 1 ≤ mesL b wr) := fun y hy => hW3.lg.fall hml hy
                  have NEW : Hid (LW g w b vc (L2.set m s) (wr.setCell ⟨b, m, none⟩ (.int .i64 s))) := hW3.set m hsr
                  have KEEP : Hid ((0 ≤ s → 0 ≤ L2.getD m 0) → b2 = false → L2 = L ∧ ClK g L (k + 1)) := fun a hb => by
                    obtain ⟨e1, e2⟩ := HCL.out hb
                    refine ⟨e1, fun j hj hr => ?_⟩
                    by_cases r : j = k
                    · subst r
                      rw [HP.out] at hr ⊢
                      rw [HL.out, ← e1]
                      rw [← e1] at hr
                      exact a (HALL.out.2 hr)
                    · exact e2 j (by omega) hr
                  have STOP : Hid (¬ (q < p.right.length ∧ 0 ≤ s)) := hgo
                  have HZ : Hid (LW g w b vc L2 wr ∧ mesL b wr = mesL b wy) := HW3.out
                  generalize L2.getD m 0 = y at *
                  clear hW3 HW3 hgo
                  by_cases hql : q < p.right.length
                  · have hsn : s < 0 := by have := STOP.out; omega
                    have qlt : (q : Int) < (p.right.length : Int) := by omega
                    have s2 : decide (s ≥ 0) = false := by simp; omega
                    have s3 : ¬ (0 : Int) ≤ s := by omega
                    have R : Hid (b2 = false → L2 = L ∧ ClK g L (k + 1)) := KEEP.out (fun a => by omega)
                    have LE : Hid (mesL b wr + (if b2 then 1 else 0) ≤ mesL b wz) := by show _ ≤ _; rw [HZ.out.2]; exact HLE2.out
                    go_wp2
                    go_roundw
                    case rel => exact ⟨k + 1, b2, L2, by omega, rfl, by go_num, HZ.out.1, LE.out, R.out⟩
                    case measure => simp [intOf]; omega
                  · by_cases hsn : s < 0
                    · have qlt : ¬ (q : Int) < (p.right.length : Int) := by omega
                      have s2 : decide (s ≥ 0) = false := by simp; omega
                      have s3 : ¬ (0 : Int) ≤ s := by omega
                      have R : Hid (b2 = false → L2 = L ∧ ClK g L (k + 1)) := KEEP.out (fun a => by omega)
                      have LE : Hid (mesL b wr + (if b2 then 1 else 0) ≤ mesL b wz) := by show _ ≤ _; rw [HZ.out.2]; exact HLE2.out
                      go_wp2
                      go_roundw
                      case rel => exact ⟨k + 1, b2, L2, by omega, rfl, by go_num, HZ.out.1, LE.out, R.out⟩
                      case measure => simp [intOf]; omega
                    · have qlt : ¬ (q : Int) < (p.right.length : Int) := by omega
                      have s2 : decide (s ≥ 0) = true := by simp; omega
                      have s3 : (0 : Int) ≤ s := by omega
                      by_cases hy : y < 0
                      · have y2 : decide (y < 0) = true := by simpa using hy
                        have LE : Hid (mesL b (wr.setCell ⟨b, m, none⟩ (.int .i64 s)) + 1 ≤ mesL b wz) := by
                          have h1 := FALL.out s (by unfold wtI; rw [if_neg (by omega), if_pos hy]; omega)
                          have h2 := HLE2.out
                          have h3 := HZ.out.2
                          show _ ≤ _
                          omega
                        go_wp2
                        go_roundw
                        case rel => exact ⟨k + 1, true, _, by omega, rfl, by go_num, NEW.out, LE.out, fun a => by cases a⟩
                        case measure => simp [intOf]; omega
                      · have y2 : decide (y < 0) = false := by simpa using hy
                        by_cases hsy : s < y
                        · have y3 : decide (s < y) = true := by simpa using hsy
                          have LE : Hid (mesL b (wr.setCell ⟨b, m, none⟩ (.int .i64 s)) + 1 ≤ mesL b wz) := by
                            have h1 := FALL.out s (by unfold wtI; rw [if_neg (by omega), if_neg hy]; omega)
                            have h2 := HLE2.out
                            have h3 := HZ.out.2
                            show _ ≤ _
                            omega
                          go_wp2
                          go_roundw
                          case rel => exact ⟨k + 1, true, _, by omega, rfl, by go_num, NEW.out, LE.out, fun a => by cases a⟩
                          case measure => simp [intOf]; omega
                        · have y3 : decide (s < y) = false := by simpa using hsy
                          have R : Hid (b2 = false → L2 = L ∧ ClK g L (k + 1)) := KEEP.out (fun a => by omega)
                          have LE : Hid (mesL b wr + (if b2 then 1 else 0) ≤ mesL b wz) := by show _ ≤ _; rw [HZ.out.2]; exact HLE2.out
                          go_wp2
                          go_roundw
                          case rel => exact ⟨k + 1, b2, L2, by omega, rfl, by go_num, HZ.out.1, LE.out, R.out⟩
                          case measure => simp [intOf]; omega
            · have klt : ¬ (k : Int) < (g.ps.length : Int) := by omega
              have R : Hid (LW g w b vc L2 wr ∧ (b2 = false → ClK g L2 g.ps.length)) := ⟨hW2, fun hb => by
                obtain ⟨e, q⟩ := hcl hb
                rw [e]
                exact fun j hj => q j (by omega)⟩
              have ME : Hid (mesL b wr + (if b2 then 1 else 0) ≤ mesL b wz) := hle
              clear hW2 hcl hle
              go_wp2
              go_roundw
              case rel => exact ⟨b2, L2, rfl, R.out.1, R.out.2⟩
              case measure =>
                have := ME.out
                cases b2 <;> simp [tOf] at this ⊢ <;> omega
end Go.Proofs.YtnngnbdlipjflaaGreatDoor
