import Derived.Test.YtboabidokkghbaaGreatGL2
import Derived.Test.YtboabidokkghbaaGreatFO3ToFO4
import Derived.Test.YtboabidokkghbaaGreatFSamToFClo
import Derived.Test.YtboabidokkghbaaGreatGDec12ToGDec14
import Derived.Test.YtboabidokkghbaaGreatFChkW
namespace Go.Proofs.YtboabidokkghbaaGreat
set_option linter.unusedVariables false
open Go.RowKit

/-- What lasts through FirstOf, behind what was handed in. -/
structure FM (g x : GV) (w : World) (V : Nat → Value) (E : Nat → List HE) (n1 : Nat) (nb : Nat) (ma : Option Addr) (sb kb : Nat) (N : List Bool) (L : List (List Int)) (l : List (Int × Int)) (look : List Int) (wr : World) : Prop where
  bel : Below w.heap.size w wr
  box : wr.heap[w.heap.size]? = some (gBox g)
  hk : HK (w.heap.size + 1) (w.alloc (gBox g)) wr (w.heap.size + 1) V E n1 (0 + 2) (0 + 1) (0 + g.ps.length + 1)
  same : SameG g x
  gx : GX wr x
  ub : UB wr nb N
  ls : LsRow wr ma L
  yb : YB wr sb l
  nb : NB wr kb look
theorem FM.later {g x : GV} {w wr w' : World} {V : Nat → Value} {E : Nat → List HE} {n1 nb sb kb : Nat} {ma : Option Addr} {N : List Bool} {L : List (List Int)} {l : List (Int × Int)} {look : List Int} (h : FM g x w V E n1 nb ma sb kb N L l look wr) (hb : Below wr.heap.size wr w') : FM g x w V E n1 nb ma sb kb N L l look w' :=
  ⟨h.bel.trans (hb.mono h.bel.size), blk_later h.box hb, h.hk.later hb, h.same, h.gx.later hb, h.ub.oth (Oth.ofBelow hb), h.ls.later hb, h.yb.oth (Oth.ofBelow hb), h.nb.oth (Oth.ofBelow hb)⟩
theorem same_inG {g x : GV} (h : SameG g x) (k n : Int) : inG x k n = inG g k n := by unfold inG inT inN; rw [h.ts, h.ns]
theorem same_allI {g x : GV} (h : SameG g x) (l : List (Int × Int)) : allI x l = allI g l := by
  unfold allI
  congr 1
  funext s
  exact same_inG h _ _
theorem same_isNE {g x : GV} (h : SameG g x) (n : Nat) (l : List (Int × Int)) (er : Int) : isNE x n l er = isNE g n l er := by unfold isNE askU; rw [same_allI h, h.ns]
theorem same_isNV {g x : GV} (h : SameG g x) (N : List Bool) (l : List (Int × Int)) (er : Int) : isNV x N l er = isNV g N l er := by unfold isNV; rw [same_isNE h]
theorem same_ofE {g x : GV} (h : SameG g x) (n : Nat) (L : List (List Int)) (l : List (Int × Int)) (look : List Int) (er : Int) : ofE x n L l look er = ofE g n L l look er := by unfold ofE askC askU; rw [same_allI h, h.ns, h.ts]
theorem same_ofL {g x : GV} (h : SameG g x) (N : List Bool) (L : List (List Int)) (l : List (Int × Int)) (look : List Int) (er : Int) : ofL x N L l look er = ofL g N L l look er := by unfold ofL; rw [same_ofE h]
theorem ofE_bad (g : GV) (n : Nat) (L : List (List Int)) (l : List (Int × Int)) (look : List Int) {er : Int} (h : er ≠ 0) : ofE g n L l look er = er := by simp [ofE, askC, askU, h]
theorem ofL_bad (g : GV) (N : List Bool) (L : List (List Int)) (l : List (Int × Int)) (look : List Int) {er : Int} (h : er ≠ 0) : ofL g N L l look er = [] := by rw [ofL, ofE_bad g _ L l look h, if_neg h]
theorem isNE_bad (g : GV) (n : Nat) (l : List (Int × Int)) {er : Int} (h : er ≠ 0) : isNE g n l er = er := by simp [isNE, askU, h]
theorem isNV_bad (g : GV) (N : List Bool) (l : List (Int × Int)) {er : Int} (h : er ≠ 0) : isNV g N l er = false := by rw [isNV, isNE_bad g _ l h, if_neg h]
theorem ofL_len (g : GV) (N : List Bool) (L : List (List Int)) (l : List (Int × Int)) (look : List Int) (er : Int) : (ofL g N L l look er).length ≤ 128 := by
  unfold ofL
  split
  · exact listS_len _ _
  · simp
set_option maxRecDepth 100000 in
set_option maxHeartbeats 16000000 in
theorem of_walk (g : GV) (na fa la ka : Option Addr) (nc fc lc kc : Nat) (N : List Bool) (L : List (List Int)) (l : List (Int × Int)) (look : List Int) (w : World) (h : GAt 1048576 w g) (hN : BRow w na N) (hNl : N.length ≤ 1048576) (hL : LsRow w fa L) (hll : L.length ≤ 1048576 ∧ ∀ l ∈ L, l.length ≤ 1048576) (hl : SymRow w la l) (hsl : l.length ≤ 1048576) (hk : InRow w ka look) (hkl : look.length ≤ 1048576) :
    Calls Tryz.prog 4 #[g.val, .slice na N.length nc, .slice fa L.length fc, .slice la l.length lc, .slice ka look.length kc] w fun e w' => e = .returned (.bool true) ∧ Below w.heap.size w w' := by
  have X0 : Hid ((w.alloc (gBox g)).heap[w.heap.size]? = some (gBox g)) := heap_alloc_new _ _
  have H0 : Hid (HG (w.heap.size + 1) (w.alloc (gBox g)) ((w.alloc (gBox g)).alloc gvBoxT) (w.heap.size + 1) (fun _ => hNil) (fun _ => []) 0 0 0) := by
    have := hg_newT (w.heap.size + 1) (w.alloc (gBox g)) (w.alloc (gBox g)) (Below.refl _ _) (by simp)
    rw [show (w.alloc (gBox g)).heap.size = w.heap.size + 1 by simp] at this
    exact this
  have B0 : Hid (∀ wr, Below (w.heap.size + 1) (w.alloc (gBox g)) wr → Below w.heap.size w wr ∧ wr.heap[w.heap.size]? = some (gBox g) ∧ GAt 1048576 wr g ∧ BRow wr na N ∧ LsRow wr fa L ∧ SymRow wr la l ∧ InRow wr ka look) := fun wr hb => by
    have b1 : Below w.heap.size w wr := (below_alloc w _).trans (hb.mono (by omega))
    exact ⟨b1, (hb.block _ (by omega)).trans (heap_alloc_new _ _), h.later b1, hN.later b1, hL.later b1, hl.later (Nat.le_refl _) b1, hk.later b1⟩
  have HLL : Hid (L.length ≤ 1048576 ∧ ∀ l ∈ L, l.length ≤ 1048576) := hll
  have t7 := h.ll
  have t8 := h.pl
  obtain ⟨er, at_, HE⟩ : ∃ er at_, Hid (checkG g (checkF g.ts g.ns) = (er, at_)) := ⟨_, _, rfl⟩
  have CO : Hid (∀ x V E n1 nb ma mc sb kb wr, FM g x w V E n1 nb ma sb kb N L l look wr → Calls Tryz.prog 26 #[x.val, .slice (some ⟨nb, 0, none⟩) N.length (N.length + 3), .slice ma L.length mc, .slice (some ⟨sb, 0, none⟩) l.length (l.length + 3), .slice (some ⟨kb, 0, none⟩) look.length (look.length + 3)] wr fun e w' => OfO wr (ofL g N L l look er) (ofE g N.length L l look er) e w') := fun x V E n1 nb ma mc sb kb wr k => by
    have ha := k.gx.at k.same h
    have := firstOf_S x (some ⟨nb, 0, none⟩) (N.length + 3) N ma mc L (some ⟨sb, 0, none⟩) (l.length + 3) l (some ⟨kb, 0, none⟩) (look.length + 3) look wr (ha.1.mono (by omega)) ha.2 er at_ ((same_check k.same).trans HE.out) k.ub.row k.ls k.yb.row k.nb.row hll hsl hkl
    rwa [same_ofL k.same, same_ofE k.same] at this
  have CI : Hid (∀ x V E n1 nb ma sb kb wr, FM g x w V E n1 nb ma sb kb N L l look wr → Calls Tryz.prog 27 #[x.val, .slice (some ⟨nb, 0, none⟩) N.length (N.length + 3), .slice (some ⟨sb, 0, none⟩) l.length (l.length + 3)] wr fun e w' => e = .returned (.tuple #[.bool (isNV g N l er), .int .i64 (isNE g N.length l er)]) ∧ Below wr.heap.size wr w') := fun x V E n1 nb ma sb kb wr k => by
    have ha := k.gx.at k.same h
    have := isNull_S x (some ⟨nb, 0, none⟩) (N.length + 3) N (some ⟨sb, 0, none⟩) (l.length + 3) l wr (ha.1.mono (by omega)) ha.2 er at_ ((same_check k.same).trans HE.out) k.ub.row k.yb.row hsl
    rwa [same_isNV k.same, same_isNE k.same] at this
  have MY : Hid (∀ wr, Below w.heap.size w wr → Calls Tryz.prog 11 #[g.val] wr fun e w' => e = .returned (.int .i64 er) ∧ Below wr.heap.size wr w') := fun wr hb => by
    have := refmay_G g wr ((h.later hb).mono (by omega))
    rwa [HE.out] at this
  obtain ⟨x0, x1, x2, x3, x4⟩ := gb_cells (b := w.heap.size) (w' := (w.alloc (gBox g)).alloc gvBoxT) (((below_alloc (w.alloc (gBox g)) gvBoxT).block _ (by simp)).trans X0.out)
  by_cases h0 : er = 0
  · subst h0
    have ok : OkC g := OkC.of (by rw [HE.out])
    have RO : Hid (∀ wr, Below w.heap.size w wr → Calls Tryz.prog 28 #[g.val, .slice na N.length nc, .slice fa L.length fc, .slice la l.length lc, .slice ka look.length kc] wr fun e w' => OfO wr (ofL g N L l look 0) (ofE g N.length L l look 0) e w') := fun wr hb => rof_S g na nc N fa fc L la lc l ka kc look wr (ok.fg (h.later hb)) (hN.later hb) (hL.later hb) (hl.later (Nat.le_refl _) hb) (hk.later hb) hNl hll hsl hkl
    have RI : Hid (∀ wr, Below w.heap.size w wr → Calls Tryz.prog 29 #[g.val, .slice na N.length nc, .slice la l.length lc] wr fun e w' => e = .returned (.tuple #[.bool (isNV g N l 0), .int .i64 (isNE g N.length l 0)]) ∧ Below wr.heap.size wr w') := fun wr hb => risNull_S g na nc N la lc l wr (ok.fg (h.later hb)) (hN.later hb) (by omega) (hl.later (Nat.le_refl _) hb) hsl
    have HRL : Hid ((ofL g N L l look 0).length ≤ 140737488355328) := Nat.le_trans (ofL_len g N L l look 0) (by omega)
    have t1 : ((0 : Int) != 0) = false := by decide
    clear h hN hL hll ok hl hk
    generalize ofL g N L l look 0 = RL at *
    generalize ofE g N.length L l look 0 = c1 at *
    generalize isNV g N l 0 = c2 at *
    generalize isNE g N.length l 0 = c3 at *
    have t2 : (c1 == c1) = true := by simp
    have t3 : (c2 == c2) = true := by simp
    have t4 : (c3 == c3) = true := by simp
    go_enter Tryz.func4, Tryz.ntmps4
    go_wp2_with (first
    | (go_at_call 6; refine (hg_gram H0.out (by omega) (by omega) (by omega) g (GAt.fine (B0.out _ (H0.out.bel)).2.2.1) (fun wr hb => (B0.out wr (H0.out.bel.trans hb)).2.2.1.mono (by omega))).mono ?_; rintro e w1 ⟨x, rfl, hs, hx, ho⟩; obtain ⟨V1, E1, h1⟩ := ho.ex; have A1 : Hid (HK (w.heap.size + 1) (w.alloc (gBox g)) w1 (w.heap.size + 1) V1 E1 (0 + g.ls.length) (0 + 2) 0 (0 + g.ps.length) ∧ SameG g x ∧ GX w1 x) := ⟨h1.hk, hs, hx⟩; clear hs hx ho h1 x0 x1 x2 x3 x4)
    | (go_at_call 22; refine (hk_boolF A1.out.1 (by omega) na nc N (by omega) (B0.out w1 A1.out.1.bel).2.2.2.1).mono ?_; rintro e w2 ⟨rfl, ⟨V2, E2, k2, f2⟩, o2, b2, u2⟩; have A2 : Hid (HK (w.heap.size + 1) (w.alloc (gBox g)) w2 (w.heap.size + 1) V2 E2 (0 + g.ls.length) (0 + 2) (0 + 1) (0 + g.ps.length) ∧ SameG g x ∧ GX w2 x ∧ UB w2 w1.heap.size N) := ⟨k2, A1.out.2.1, A1.out.2.2.oth o2, u2⟩; clear k2 f2 o2 b2 u2)
    | (go_at_call 23; refine (hk_lists2 A2.out.1 fa fc L (by have := HLL.out.1; omega) (fun wr hb => (B0.out wr (A2.out.1.bel.trans hb)).2.2.2.2.1) (fun l hl => Nat.le_trans (HLL.out.2 l hl) (by omega))).mono ?_; rintro e w3 ⟨ma, mc, V3, E3, rfl, k3, l3, o3, b3⟩; have A3 : Hid (HK (w.heap.size + 1) (w.alloc (gBox g)) w3 (w.heap.size + 1) V3 E3 (0 + g.ls.length + L.length) (0 + 2) (0 + 1) (0 + g.ps.length) ∧ SameG g x ∧ GX w3 x ∧ UB w3 w1.heap.size N ∧ LsK w3 V3 (.slice ma L.length mc) L) := ⟨k3, A2.out.2.1, A2.out.2.2.1.oth o3, A2.out.2.2.2.oth o3, l3⟩; clear k3 l3 o3 b3)
    | (go_at_call 24; refine (hk_symF A3.out.1 (by omega) la lc l (by omega) (B0.out w3 A3.out.1.bel).2.2.2.2.2.1).mono ?_; rintro e w4 ⟨rfl, ⟨V4, E4, k4, f4⟩, o4, b4, u4⟩; have A4 : Hid (HK (w.heap.size + 1) (w.alloc (gBox g)) w4 (w.heap.size + 1) V4 E4 (0 + g.ls.length + L.length) (0 + 2) (0 + 1) (0 + g.ps.length + 1) ∧ SameG g x ∧ GX w4 x ∧ UB w4 w1.heap.size N ∧ LsK w4 V4 (.slice ma L.length mc) L ∧ YB w4 w3.heap.size l) := ⟨k4, A3.out.2.1, A3.out.2.2.1.oth o4, A3.out.2.2.2.1.oth o4, A3.out.2.2.2.2.hf A3.out.1.inv f4 o4, u4⟩; clear k4 f4 o4 b4 u4)
    | (go_at_call 25; refine (hk_intF A4.out.1 (by have := HLL.out.1; omega) ka kc look (by omega) (B0.out w4 A4.out.1.bel).2.2.2.2.2.2).mono ?_; rintro e w5 ⟨rfl, ⟨V5, E5, k5, f5⟩, o5, b5, u5⟩; have A5 : Hid (FM g x w V5 E5 (0 + g.ls.length + L.length + 1) w1.heap.size ma w3.heap.size w4.heap.size N L l look (w5.alloc (gBox x)) ∧ (w5.alloc (gBox x)).heap[w5.heap.size]? = some (gBox x)) := ⟨FM.later ⟨(B0.out w5 k5.bel).1, (B0.out w5 k5.bel).2.1, k5, A4.out.2.1, A4.out.2.2.1.oth o5, A4.out.2.2.2.1.oth o5, (A4.out.2.2.2.2.1.hf A4.out.1.inv f5 o5).row, A4.out.2.2.2.2.2.oth o5, u5⟩ (below_alloc _ _), heap_alloc_new _ _⟩; clear k5 f5 o5 b5 u5)
    | (go_at_call 26; refine (CO.out x _ _ _ _ _ mc _ _ _ A5.out.1).mono ?_; rintro e w6 ⟨oa, oc, rfl, r6, b6⟩; have A6 : Hid (FM g x w V5 E5 (0 + g.ls.length + L.length + 1) w1.heap.size ma w3.heap.size w4.heap.size N L l look w6 ∧ w6.heap[w5.heap.size]? = some (gBox x) ∧ InRow w6 oa RL) := ⟨A5.out.1.later b6, box_on A5.out.2 b6, r6⟩; clear b6 r6; obtain ⟨y0, y1, y2, y3, y4⟩ := gb_cells A6.out.2.1)
    | (go_at_call 27; refine (CI.out x _ _ _ _ _ _ _ _ A6.out.1).mono ?_; rintro e w7 ⟨rfl, b7⟩; have A7 : Hid (FM g x w V5 E5 (0 + g.ls.length + L.length + 1) w1.heap.size ma w3.heap.size w4.heap.size N L l look w7 ∧ InRow w7 oa RL) := ⟨A6.out.1.later b7, A6.out.2.2.later b7⟩; clear b7 y0 y1 y2 y3 y4; obtain ⟨y0, y1, y2, y3, y4⟩ := gb_cells A7.out.1.box)
    | (go_at_call 11; refine (MY.out w7 A7.out.1.bel).mono ?_; rintro e w8 ⟨rfl, b8⟩; have A8 : Hid (FM g x w V5 E5 (0 + g.ls.length + L.length + 1) w1.heap.size ma w3.heap.size w4.heap.size N L l look w8 ∧ InRow w8 oa RL) := ⟨A7.out.1.later b8, A7.out.2.later b8⟩; clear b8 y0 y1 y2 y3 y4)
    | (go_at_call 12; refine (gintactL _ V5 tyG E5 w8 A8.out.1.hk.inv A8.out.1.hk.st (by have := A8.out.1.hk.l1; have := HLL.out.1; omega) (by have := A8.out.1.hk.l2; omega) (by have := A8.out.1.hk.l3; omega) (by have := A8.out.1.hk.l4; have := t8; omega)).mono ?_; rintro e w9 ⟨rfl, b9⟩; have A9 : Hid (FM g x w V5 E5 (0 + g.ls.length + L.length + 1) w1.heap.size ma w3.heap.size w4.heap.size N L l look w9 ∧ InRow w9 oa RL) := ⟨A8.out.1.later b9, A8.out.2.later b9⟩; clear b9)
    | (go_at_call 14; refine (works_S w9).mono ?_; rintro e w10 ⟨rfl, b10⟩; have A10 : Hid (FM g x w V5 E5 (0 + g.ls.length + L.length + 1) w1.heap.size ma w3.heap.size w4.heap.size N L l look w10 ∧ InRow w10 oa RL) := ⟨A9.out.1.later b10, A9.out.2.later b10⟩; clear b10; obtain ⟨y0, y1, y2, y3, y4⟩ := gb_cells A10.out.1.box)
    | (go_at_call 13; refine (num_S _ _).mono ?_; rintro e w7 ⟨rfl, rfl⟩)
    | (go_at_call 28; refine (RO.out w10 A10.out.1.bel).mono ?_; rintro e w11 ⟨pa, pc, rfl, r11, b11⟩; have A11 : Hid (FM g x w V5 E5 (0 + g.ls.length + L.length + 1) w1.heap.size ma w3.heap.size w4.heap.size N L l look w11 ∧ InRow w11 oa RL ∧ InRow w11 pa RL) := ⟨A10.out.1.later b11, A10.out.2.later b11, r11⟩; clear b11 r11 y0 y1 y2 y3 y4; obtain ⟨y0, y1, y2, y3, y4⟩ := gb_cells A11.out.1.box)
    | (go_at_call 29; refine (RI.out w11 A11.out.1.bel).mono ?_; rintro e w12 ⟨rfl, b12⟩; have A12 : Hid (Below w.heap.size w w12 ∧ InRow w12 oa RL ∧ InRow w12 pa RL) := ⟨A11.out.1.bel.trans (b12.mono A11.out.1.bel.size), A11.out.2.1.later b12, A11.out.2.2.later b12⟩; clear b12 y0 y1 y2 y3 y4)
    | (go_at_call 20; refine (sameints_g oa pa _ _ oc pc RL w12 rfl rfl HRL.out A12.out.2.1 A12.out.2.2).mono ?_; rintro e w13 ⟨rfl, d13, hd13⟩; have A13 : Hid (Below w.heap.size w w13) := A12.out.1.trans ((hd13 ▸ drewN_below w12 d13).mono A12.out.1.size); clear hd13))
    go_ret
    exact ⟨rfl, A13.out⟩
  · have t1 : (er != 0) = true := by simpa using h0
    have t2 : (er == er) = true := by simp
    rw [ofL_bad g N L l look h0, ofE_bad g N.length L l look h0] at CO
    rw [isNV_bad g N l h0, isNE_bad g N.length l h0] at CI
    clear h hN hL hll h0 hl hk
    go_enter Tryz.func4, Tryz.ntmps4
    go_wp2_with (first
    | (go_at_call 6; refine (hg_gram H0.out (by omega) (by omega) (by omega) g (GAt.fine (B0.out _ (H0.out.bel)).2.2.1) (fun wr hb => (B0.out wr (H0.out.bel.trans hb)).2.2.1.mono (by omega))).mono ?_; rintro e w1 ⟨x, rfl, hs, hx, ho⟩; obtain ⟨V1, E1, h1⟩ := ho.ex; have A1 : Hid (HK (w.heap.size + 1) (w.alloc (gBox g)) w1 (w.heap.size + 1) V1 E1 (0 + g.ls.length) (0 + 2) 0 (0 + g.ps.length) ∧ SameG g x ∧ GX w1 x) := ⟨h1.hk, hs, hx⟩; clear hs hx ho h1 x0 x1 x2 x3 x4)
    | (go_at_call 22; refine (hk_boolF A1.out.1 (by omega) na nc N (by omega) (B0.out w1 A1.out.1.bel).2.2.2.1).mono ?_; rintro e w2 ⟨rfl, ⟨V2, E2, k2, f2⟩, o2, b2, u2⟩; have A2 : Hid (HK (w.heap.size + 1) (w.alloc (gBox g)) w2 (w.heap.size + 1) V2 E2 (0 + g.ls.length) (0 + 2) (0 + 1) (0 + g.ps.length) ∧ SameG g x ∧ GX w2 x ∧ UB w2 w1.heap.size N) := ⟨k2, A1.out.2.1, A1.out.2.2.oth o2, u2⟩; clear k2 f2 o2 b2 u2)
    | (go_at_call 23; refine (hk_lists2 A2.out.1 fa fc L (by have := HLL.out.1; omega) (fun wr hb => (B0.out wr (A2.out.1.bel.trans hb)).2.2.2.2.1) (fun l hl => Nat.le_trans (HLL.out.2 l hl) (by omega))).mono ?_; rintro e w3 ⟨ma, mc, V3, E3, rfl, k3, l3, o3, b3⟩; have A3 : Hid (HK (w.heap.size + 1) (w.alloc (gBox g)) w3 (w.heap.size + 1) V3 E3 (0 + g.ls.length + L.length) (0 + 2) (0 + 1) (0 + g.ps.length) ∧ SameG g x ∧ GX w3 x ∧ UB w3 w1.heap.size N ∧ LsK w3 V3 (.slice ma L.length mc) L) := ⟨k3, A2.out.2.1, A2.out.2.2.1.oth o3, A2.out.2.2.2.oth o3, l3⟩; clear k3 l3 o3 b3)
    | (go_at_call 24; refine (hk_symF A3.out.1 (by omega) la lc l (by omega) (B0.out w3 A3.out.1.bel).2.2.2.2.2.1).mono ?_; rintro e w4 ⟨rfl, ⟨V4, E4, k4, f4⟩, o4, b4, u4⟩; have A4 : Hid (HK (w.heap.size + 1) (w.alloc (gBox g)) w4 (w.heap.size + 1) V4 E4 (0 + g.ls.length + L.length) (0 + 2) (0 + 1) (0 + g.ps.length + 1) ∧ SameG g x ∧ GX w4 x ∧ UB w4 w1.heap.size N ∧ LsK w4 V4 (.slice ma L.length mc) L ∧ YB w4 w3.heap.size l) := ⟨k4, A3.out.2.1, A3.out.2.2.1.oth o4, A3.out.2.2.2.1.oth o4, A3.out.2.2.2.2.hf A3.out.1.inv f4 o4, u4⟩; clear k4 f4 o4 b4 u4)
    | (go_at_call 25; refine (hk_intF A4.out.1 (by have := HLL.out.1; omega) ka kc look (by omega) (B0.out w4 A4.out.1.bel).2.2.2.2.2.2).mono ?_; rintro e w5 ⟨rfl, ⟨V5, E5, k5, f5⟩, o5, b5, u5⟩; have A5 : Hid (FM g x w V5 E5 (0 + g.ls.length + L.length + 1) w1.heap.size ma w3.heap.size w4.heap.size N L l look (w5.alloc (gBox x)) ∧ (w5.alloc (gBox x)).heap[w5.heap.size]? = some (gBox x)) := ⟨FM.later ⟨(B0.out w5 k5.bel).1, (B0.out w5 k5.bel).2.1, k5, A4.out.2.1, A4.out.2.2.1.oth o5, A4.out.2.2.2.1.oth o5, (A4.out.2.2.2.2.1.hf A4.out.1.inv f5 o5).row, A4.out.2.2.2.2.2.oth o5, u5⟩ (below_alloc _ _), heap_alloc_new _ _⟩; clear k5 f5 o5 b5 u5)
    | (go_at_call 26; refine (CO.out x _ _ _ _ _ mc _ _ _ A5.out.1).mono ?_; rintro e w6 ⟨oa, oc, rfl, r6, b6⟩; have A6 : Hid (FM g x w V5 E5 (0 + g.ls.length + L.length + 1) w1.heap.size ma w3.heap.size w4.heap.size N L l look w6 ∧ w6.heap[w5.heap.size]? = some (gBox x) ∧ InRow w6 oa ([] : List Int)) := ⟨A5.out.1.later b6, box_on A5.out.2 b6, r6⟩; clear b6 r6; obtain ⟨y0, y1, y2, y3, y4⟩ := gb_cells A6.out.2.1)
    | (go_at_call 27; refine (CI.out x _ _ _ _ _ _ _ _ A6.out.1).mono ?_; rintro e w7 ⟨rfl, b7⟩; have A7 : Hid (FM g x w V5 E5 (0 + g.ls.length + L.length + 1) w1.heap.size ma w3.heap.size w4.heap.size N L l look w7 ∧ InRow w7 oa ([] : List Int)) := ⟨A6.out.1.later b7, A6.out.2.2.later b7⟩; clear b7 y0 y1 y2 y3 y4; obtain ⟨y0, y1, y2, y3, y4⟩ := gb_cells A7.out.1.box)
    | (go_at_call 11; refine (MY.out w7 A7.out.1.bel).mono ?_; rintro e w8 ⟨rfl, b8⟩; have A8 : Hid (FM g x w V5 E5 (0 + g.ls.length + L.length + 1) w1.heap.size ma w3.heap.size w4.heap.size N L l look w8 ∧ InRow w8 oa ([] : List Int)) := ⟨A7.out.1.later b8, A7.out.2.later b8⟩; clear b8 y0 y1 y2 y3 y4)
    | (go_at_call 12; refine (gintactL _ V5 tyG E5 w8 A8.out.1.hk.inv A8.out.1.hk.st (by have := A8.out.1.hk.l1; have := HLL.out.1; omega) (by have := A8.out.1.hk.l2; omega) (by have := A8.out.1.hk.l3; omega) (by have := A8.out.1.hk.l4; have := t8; omega)).mono ?_; rintro e w9 ⟨rfl, b9⟩; have A9 : Hid (FM g x w V5 E5 (0 + g.ls.length + L.length + 1) w1.heap.size ma w3.heap.size w4.heap.size N L l look w9 ∧ InRow w9 oa ([] : List Int)) := ⟨A8.out.1.later b9, A8.out.2.later b9⟩; clear b9)
    | (go_at_call 14; refine (works_S w9).mono ?_; rintro e w10 ⟨rfl, b10⟩; have A10 : Hid (FM g x w V5 E5 (0 + g.ls.length + L.length + 1) w1.heap.size ma w3.heap.size w4.heap.size N L l look w10 ∧ InRow w10 oa ([] : List Int)) := ⟨A9.out.1.later b10, A9.out.2.later b10⟩; clear b10; obtain ⟨y0, y1, y2, y3, y4⟩ := gb_cells A10.out.1.box)
    | (go_at_call 13; refine (num_S _ _).mono ?_; rintro e w7 ⟨rfl, rfl⟩))
    go_ret
    exact ⟨rfl, A10.out.1.bel⟩
end Go.Proofs.YtboabidokkghbaaGreat
