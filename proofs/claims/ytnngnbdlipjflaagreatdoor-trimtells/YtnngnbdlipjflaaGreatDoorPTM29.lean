import Derived.Test.YtnngnbdlipjflaaGreatDoorPTM28
import Derived.Test.YtnngnbdlipjflaaGreatDoorPGG1ToGWB
import Derived.Test.YtnngnbdlipjflaaGreatDoorPGIntactToGDec13
import Derived.Test.YtnngnbdlipjflaaGreatDoorPGCheckPToGSame2
namespace Go.Proofs.YtnngnbdlipjflaaGreatDoor
set_option linter.unusedVariables false
open Go.RowKit Go.Shelf

theorem GX.caps {w : World} {x : GV} (h : GX w x) : ∀ p ∈ x.ps, p.right.length ≤ p.rc := fun p hp => by
  obtain ⟨b, e, _⟩ := h.pe p hp
  exact e.2
theorem BrL.len {g : GV} {l : List Int} (h : BrL g l) : l.length ≤ g.ns.length := by
  obtain ⟨M, _, rfl⟩ := h
  exact offU_len _ _ _
theorem CiL.len {g : GV} {l : List Int} (h : CiL g l) : l.length ≤ g.ns.length := by
  obtain ⟨M, NU, _, _, rfl⟩ := h
  exact offU_len _ _ _
theorem UnL.len {g : GV} {l : List (Int × Int)} (h : UnL g l) : l.length ≤ g.ts.length + g.ns.length := by
  obtain ⟨T, N, _, rfl⟩ := h
  rw [List.length_append]
  have h1 := offY_len 1 T g.ts.length
  have h2 := offY_len 2 N g.ns.length
  omega
/-- The walk of TrimTells under way: the copy, its box, and what the calls have answered. -/
structure TL (g x : GV) (w : World) (V : Nat → Value) (E : Nat → List HE) (b1 : Nat) (A : List (Option Addr × List Int)) (Y : List (Option Addr × List (Int × Int))) (S : List (Nat × Int × Int)) (wr : World) : Prop where
  tw : TW g x w V E (0 + g.ls.length) wr
  bx : wr.heap[b1]? = some (gBox x)
  ro : ∀ q ∈ A, InRow wr q.1 q.2
  so : ∀ q ∈ Y, SymRow wr q.1 q.2
  bo : ∀ q ∈ S, wr.heap[q.1]? = some (.cells #[.int .i64 q.2.1, .int .i64 q.2.2] 54)
section
variable {g x : GV} {w wr w' : World} {V : Nat → Value} {E : Nat → List HE} {b1 : Nat} {A : List (Option Addr × List Int)} {Y : List (Option Addr × List (Int × Int))} {S : List (Nat × Int × Int)}
theorem TL.later (h : TL g x w V E b1 A Y S wr) (hb : Below wr.heap.size wr w') : TL g x w V E b1 A Y S w' :=
  ⟨h.tw.later hb, blk_later h.bx hb, fun q hq => (h.ro q hq).later hb, fun q hq => (h.so q hq).later (Nat.le_refl _) hb, fun q hq => blk_later (h.bo q hq) hb⟩
theorem TL.row (h : TL g x w V E b1 A Y S wr) (hb : Below wr.heap.size wr w') {a : Option Addr} {l : List Int} (hr : InRow w' a l) : TL g x w V E b1 ((a, l) :: A) Y S w' :=
  have k := h.later hb
  ⟨k.tw, k.bx, fun q hq => by rcases List.mem_cons.1 hq with rfl | r; exact hr; exact k.ro q r, k.so, k.bo⟩
theorem TL.syms (h : TL g x w V E b1 A Y S wr) (hb : Below wr.heap.size wr w') {a : Option Addr} {l : List (Int × Int)} (hr : SymRow w' a l) : TL g x w V E b1 A ((a, l) :: Y) S w' :=
  have k := h.later hb
  ⟨k.tw, k.bx, k.ro, fun q hq => by rcases List.mem_cons.1 hq with rfl | r; exact hr; exact k.so q r, k.bo⟩
theorem TL.box (h : TL g x w V E b1 A Y S wr) (hb : Below wr.heap.size wr w') (k n : Int) : TL g x w V E b1 A Y ((w'.heap.size, k, n) :: S) (w'.alloc (.cells #[.int .i64 k, .int .i64 n] 54)) :=
  have k := (h.later hb).later (below_alloc w' _)
  ⟨k.tw, k.bx, k.ro, k.so, fun q hq => by rcases List.mem_cons.1 hq with rfl | r; exact heap_alloc_new _ _; exact k.bo q r⟩
end
set_option maxRecDepth 100000 in
set_option maxHeartbeats 16000000 in
/-- The law holds of every grammar. -/
theorem tells_walk (g : GV) (w : World) (h : GAt 140737488355328 w g) (hfi : GFine g) (hcap : ∀ p ∈ g.ps, p.right.length ≤ p.rc) (hT : TabB w) :
    Calls Tryz.prog 3 #[g.val] w fun e w' => e = .returned (.bool true) ∧ Below w.heap.size w w' := by
  obtain ⟨er, at_, hE⟩ : ∃ er at_, checkG g (checkF g.ts g.ns) = (er, at_) := ⟨_, _, rfl⟩
  have X0 : Hid ((w.alloc (gBox g)).heap[w.heap.size]? = some (gBox g)) := heap_alloc_new _ _
  have H0 : Hid (HG (w.heap.size + 1) (w.alloc (gBox g)) ((w.alloc (gBox g)).alloc gvBoxT) (w.heap.size + 1) (fun _ => hNil) (fun _ => []) 0 0 0) := by
    have := hg_newT (w.heap.size + 1) (w.alloc (gBox g)) (w.alloc (gBox g)) (Below.refl _ _) (by simp)
    rw [show (w.alloc (gBox g)).heap.size = w.heap.size + 1 by simp] at this
    exact this
  have B0 : Hid (∀ wr, Below (w.heap.size + 1) (w.alloc (gBox g)) wr → Below w.heap.size w wr ∧ wr.heap[w.heap.size]? = some (gBox g) ∧ GAt 140737488355328 wr g) := fun wr hb => by
    have b1 : Below w.heap.size w wr := (below_alloc w _).trans (hb.mono (by omega))
    exact ⟨b1, (hb.block _ (by omega)).trans (heap_alloc_new _ _), h.later b1⟩
  have HFI : Hid (GFine g) := hfi
  have HXA : Hid (∀ x V E n1 wr, TW g x w V E n1 wr → GAt 140737488355328 wr x ∧ x.ps.length ≤ x.pc) := fun x V E n1 wr k => ⟨(k.gx.at k.same h).1, (k.gx.at k.same h).2⟩
  have HT : Hid (∀ wr, Below w.heap.size w wr → TabB wr) := fun wr hb => hT.later hb
  have PB : Hid (∀ x V E b1 A Y S wr, TL g x w V E b1 A Y S wr → Calls Tryz.prog 8 #[x.val] wr fun e w' => ∃ a c l, e = .returned (.tuple #[.slice a l.length c, .int .i64 er]) ∧ BrE g er l ∧ InRow w' a l ∧ Below wr.heap.size wr w') := fun x V E b1 A Y S wr k => (Barren_P x wr (HXA.out _ _ _ _ _ k.tw).1 (HXA.out _ _ _ _ _ k.tw).2 er at_ ((same_check k.tw.same).trans hE)).mono fun e w' ⟨v, l, q1, q2, q3⟩ => by
    obtain ⟨a, c, rfl⟩ := il_len q3.il
    exact ⟨a, c, l, q1, q2.same k.tw.same, IL.inrow q3.il, q3.bel⟩
  have PU : Hid (∀ x V E b1 A Y S wr, TL g x w V E b1 A Y S wr → Calls Tryz.prog 10 #[x.val] wr fun e w' => ∃ a c l, e = .returned (.tuple #[.slice a l.length c, .int .i64 er]) ∧ UnE g er l ∧ SymRow w' a l ∧ Below wr.heap.size wr w') := fun x V E b1 A Y S wr k => (Unreached_P x wr (HXA.out _ _ _ _ _ k.tw).1 (HXA.out _ _ _ _ _ k.tw).2 er at_ ((same_check k.tw.same).trans hE)).mono fun e w' ⟨v, l, q1, q2, q3⟩ => by
    obtain ⟨a, c, rfl⟩ := sy_lenP q3.sy
    exact ⟨a, c, l, q1, q2.same k.tw.same, q3.sy.row, q3.bel⟩
  have PC : Hid (∀ x V E b1 A Y S wr, TL g x w V E b1 A Y S wr → Calls Tryz.prog 12 #[x.val] wr fun e w' => ∃ a c l, e = .returned (.tuple #[.slice a l.length c, .int .i64 er]) ∧ CiE g er l ∧ InRow w' a l ∧ Below wr.heap.size wr w') := fun x V E b1 A Y S wr k => (Circular_P x wr (HXA.out _ _ _ _ _ k.tw).1 (HXA.out _ _ _ _ _ k.tw).2 er at_ ((same_check k.tw.same).trans hE) k.tw.gx.caps (HT.out _ k.tw.bel)).mono fun e w' ⟨v, l, q1, q2, q3⟩ => by
    obtain ⟨a, c, rfl⟩ := il_len q3.il
    exact ⟨a, c, l, q1, q2.same k.tw.same, IL.inrow q3.il, q3.bel⟩
  have PW : Hid (∀ x V E b1 A Y S wr, TL g x w V E b1 A Y S wr → Calls Tryz.prog 14 #[x.val] wr fun e w' => ∃ k s, e = .returned (.tuple #[.int .i64 k, .agg #[.int .i64 s.1, .int .i64 s.2]]) ∧ WeE g er k s ∧ Below wr.heap.size wr w') := fun x V E b1 A Y S wr k => (Well_P2 x wr (HXA.out _ _ _ _ _ k.tw).1 (HXA.out _ _ _ _ _ k.tw).2 er at_ ((same_check k.tw.same).trans hE) k.tw.gx.caps (HT.out _ k.tw.bel)).mono fun e w' ⟨kk, s, q1, q2, q3⟩ => ⟨kk, s, q1, q2.same k.tw.same, q3⟩
  have RB : Hid (∀ wr, Below w.heap.size w wr → Calls Tryz.prog 9 #[g.val] wr fun e w' => NumO wr (BrE g er) er e w') := fun wr hb => Barren_Y g wr (h.later hb) er at_ hE
  have RU : Hid (∀ wr, Below w.heap.size w wr → Calls Tryz.prog 11 #[g.val] wr fun e w' => SymO wr (UnE g er) er e w') := fun wr hb => Unreached_Y g wr (h.later hb) er at_ hE
  have RC : Hid (∀ wr, Below w.heap.size w wr → Calls Tryz.prog 13 #[g.val] wr fun e w' => NumO wr (CiE g er) er e w') := fun wr hb => Circular_Y g wr (h.later hb) er at_ hE hcap
  have RW : Hid (∀ wr, Below w.heap.size w wr → Calls Tryz.prog 15 #[g.val] wr fun e w' => ∃ k s, e = .returned (.tuple #[.int .i64 k, .agg #[.int .i64 s.1, .int .i64 s.2]]) ∧ WeE g er k s ∧ Below wr.heap.size wr w') := fun wr hb => Well_Y g wr (h.later hb) er at_ hE hcap
  have OKL : er = 0 → g.ns.length ≤ 64 ∧ g.ts.length ≤ 64 := fun e => by
    have ok : OkC g := OkC.of (by rw [hE]; exact e)
    exact ⟨ok.nl.2, ok.tl.2⟩
  have LB : Hid (∀ l, BrE g er l → l.length ≤ 140737488355328) := fun l q => by
    by_cases e : er = 0
    · have := (q.1 e).len; have := OKL e; omega
    · rw [q.2 e]; simp
  have LU : Hid (∀ l, UnE g er l → l.length ≤ 140737488355328) := fun l q => by
    by_cases e : er = 0
    · have := (q.1 e).len; have := OKL e; omega
    · rw [q.2 e]; simp
  have LC : Hid (∀ l, CiE g er l → l.length ≤ 140737488355328) := fun l q => by
    by_cases e : er = 0
    · have := (q.1 e).len; have := OKL e; omega
    · rw [q.2 e]; simp
  have SI : Hid (∀ wr a b c c' (l : List Int), l.length ≤ 140737488355328 → InRow wr a l → InRow wr b l → Calls Tryz.prog 16 #[.slice a l.length c, .slice b l.length c'] wr fun e w' => e = .returned (.bool true) ∧ Below wr.heap.size wr w') := fun wr a b c c' l hl h1 h2 => (sameints_g a b l.length l.length c c' l wr rfl rfl hl h1 h2).mono fun e w' ⟨q1, d, q2⟩ => ⟨q1, by rw [q2]; exact below_drewN (Below.refl _ _) _⟩
  have SS : Hid (∀ wr a b c c' (l : List (Int × Int)), l.length ≤ 140737488355328 → SymRow wr a l → SymRow wr b l → Calls Tryz.prog 18 #[.slice a l.length c, .slice b l.length c'] wr fun e w' => e = .returned (.bool true) ∧ Below wr.heap.size wr w') := fun wr a b c c' l hl h1 h2 => (samesyms_g a b l.length l.length c c' l l wr rfl rfl hl hl h1 h2).mono fun e w' ⟨q1, d, q2⟩ => ⟨by rw [q1]; simp, by rw [q2]; exact below_drewN (Below.refl _ _) _⟩
  obtain ⟨x0, x1, x2, x3, x4⟩ := gb_cells (b := w.heap.size) (w' := (w.alloc (gBox g)).alloc gvBoxT) (((below_alloc (w.alloc (gBox g)) gvBoxT).block _ (by simp)).trans X0.out)
  have t2 : (er == er) = true := by simp
  have T0 : Hid True := trivial
  clear h hfi hE hcap hT OKL
  go_enter Tryz.func3, Tryz.ntmps3
  go_wp2_with (first
    | (go_at_call 7; refine (hg_gram H0.out (by omega) (by omega) (by omega) g HFI.out (fun wr hb => (B0.out wr (H0.out.bel.trans hb)).2.2)).mono ?_; rintro e w1 ⟨x, rfl, hs, hx, ho⟩; obtain ⟨V1, E1, k1⟩ := ho.ex; have A1 : Hid (TL g x w V1 E1 w1.heap.size [] [] [] (w1.alloc (gBox x))) := ⟨TW.later ⟨(B0.out w1 (H0.out.bel.trans ho.bel)).1, (B0.out w1 (H0.out.bel.trans ho.bel)).2.1, k1, hs, hx⟩ (below_alloc _ _), heap_alloc_new _ _, fun q hq => (by cases hq), fun q hq => (by cases hq), fun q hq => (by cases hq)⟩; clear hs hx ho k1 x0 x1 x2 x3 x4)
    | (go_at_call 8; refine (PB.out _ _ _ _ _ _ _ _ A1.out).mono ?_; rintro e w2 ⟨a2, c2, l2, rfl, p2, r2, b2⟩; have P2 : Hid (BrE g er l2) := p2; have A2 : Hid (TL g x w V1 E1 w1.heap.size [(a2, l2)] [] [] w2) := A1.out.row b2 r2; clear p2 r2 b2; obtain ⟨y0, y1, y2, y3, y4⟩ := gb_cells A2.out.tw.box)
    | (go_at_call 9; refine (RB.out _ A2.out.tw.bel).mono ?_; rintro e w3 ⟨a3, c3, l3, rfl, p3, r3, b3⟩; obtain rfl : l3 = l2 := p3.one P2.out; have A3 : Hid (TL g x w V1 E1 w1.heap.size [(a3, l3), (a2, l3)] [] [] w3) := A2.out.row b3 r3; clear p3 r3 b3 y0 y1 y2 y3 y4; obtain ⟨y0, y1, y2, y3, y4⟩ := gb_cells A3.out.bx)
    | (go_at_call 10; refine (PU.out _ _ _ _ _ _ _ _ A3.out).mono ?_; rintro e w4 ⟨a4, c4, l4, rfl, p4, r4, b4⟩; have P4 : Hid (UnE g er l4) := p4; have A4 : Hid (TL g x w V1 E1 w1.heap.size [(a3, l3), (a2, l3)] [(a4, l4)] [] w4) := A3.out.syms b4 r4; clear p4 r4 b4 y0 y1 y2 y3 y4; obtain ⟨y0, y1, y2, y3, y4⟩ := gb_cells A4.out.tw.box)
    | (go_at_call 11; refine (RU.out _ A4.out.tw.bel).mono ?_; rintro e w5 ⟨a5, c5, l5, rfl, p5, r5, b5⟩; obtain rfl : l5 = l4 := p5.one P4.out; have A5 : Hid (TL g x w V1 E1 w1.heap.size [(a3, l3), (a2, l3)] [(a5, l5), (a4, l5)] [] w5) := A4.out.syms b5 r5; clear p5 r5 b5 y0 y1 y2 y3 y4; obtain ⟨y0, y1, y2, y3, y4⟩ := gb_cells A5.out.bx)
    | (go_at_call 12; refine (PC.out _ _ _ _ _ _ _ _ A5.out).mono ?_; rintro e w6 ⟨a6, c6, l6, rfl, p6, r6, b6⟩; have P6 : Hid (CiE g er l6) := p6; have A6 : Hid (TL g x w V1 E1 w1.heap.size [(a6, l6), (a3, l3), (a2, l3)] [(a5, l5), (a4, l5)] [] w6) := A5.out.row b6 r6; clear p6 r6 b6 y0 y1 y2 y3 y4; obtain ⟨y0, y1, y2, y3, y4⟩ := gb_cells A6.out.tw.box)
    | (go_at_call 13; refine (RC.out _ A6.out.tw.bel).mono ?_; rintro e w7 ⟨a7, c7, l7, rfl, p7, r7, b7⟩; obtain rfl : l7 = l6 := p7.one P6.out; have A7 : Hid (TL g x w V1 E1 w1.heap.size [(a7, l7), (a6, l7), (a3, l3), (a2, l3)] [(a5, l5), (a4, l5)] [] w7) := A6.out.row b7 r7; clear p7 r7 b7 y0 y1 y2 y3 y4; obtain ⟨y0, y1, y2, y3, y4⟩ := gb_cells A7.out.bx)
    | (go_at_call 14; refine (PW.out _ _ _ _ _ _ _ _ A7.out).mono ?_; rintro e w8 ⟨k8, ⟨s8, n8⟩, rfl, p8, b8⟩; have P8 : Hid (WeE g er k8 (s8, n8)) := p8; have A8 : Hid (TL g x w V1 E1 w1.heap.size [(a7, l7), (a6, l7), (a3, l3), (a2, l3)] [(a5, l5), (a4, l5)] [(w8.heap.size, s8, n8)] (w8.alloc (.cells #[.int .i64 s8, .int .i64 n8] 54))) := A7.out.box b8 s8 n8; clear p8 b8 y0 y1 y2 y3 y4; obtain ⟨y0, y1, y2, y3, y4⟩ := gb_cells A8.out.tw.box)
    | (go_at_call 15; refine (RW.out _ A8.out.tw.bel).mono ?_; rintro e w9 ⟨k9, ⟨s9, n9⟩, rfl, p9, b9⟩; obtain ⟨rfl, e9⟩ := p9.one P8.out; simp only [Prod.mk.injEq] at e9; obtain ⟨rfl, rfl⟩ := e9; have A9 : Hid (TL g x w V1 E1 w1.heap.size [(a7, l7), (a6, l7), (a3, l3), (a2, l3)] [(a5, l5), (a4, l5)] [(w9.heap.size, s9, n9), (w8.heap.size, s9, n9)] (w9.alloc (.cells #[.int .i64 s9, .int .i64 n9] 54))) := A8.out.box b9 s9 n9; clear p9 b9 y0 y1 y2 y3 y4)
    | (go_at_call 16; have T1 : Hid True := T0; clear T0; refine (SI.out _ _ _ _ _ l3 (LB.out _ P2.out) (A9.out.ro (a2, l3) (by simp)) (A9.out.ro (a3, l3) (by simp))).mono ?_; rintro e w10 ⟨rfl, b10⟩; have A10 : Hid (TL g x w V1 E1 w1.heap.size [(a7, l7), (a6, l7), (a3, l3), (a2, l3)] [(a5, l5), (a4, l5)] [(w9.heap.size, s9, n9), (w8.heap.size, s9, n9)] w10) := A9.out.later b10; clear b10)
    | (go_at_call 18; refine (SS.out _ _ _ _ _ l5 (LU.out _ P4.out) (A10.out.so (a4, l5) (by simp)) (A10.out.so (a5, l5) (by simp))).mono ?_; rintro e w11 ⟨rfl, b11⟩; have A11 : Hid (TL g x w V1 E1 w1.heap.size [(a7, l7), (a6, l7), (a3, l3), (a2, l3)] [(a5, l5), (a4, l5)] [(w9.heap.size, s9, n9), (w8.heap.size, s9, n9)] w11) := A10.out.later b11; clear b11)
    | (go_at_call 16; have T2 : Hid True := T1; clear T1; refine (SI.out _ _ _ _ _ l7 (LC.out _ P6.out) (A11.out.ro (a6, l7) (by simp)) (A11.out.ro (a7, l7) (by simp))).mono ?_; rintro e w12 ⟨rfl, b12⟩; have A12 : Hid (TL g x w V1 E1 w1.heap.size [(a7, l7), (a6, l7), (a3, l3), (a2, l3)] [(a5, l5), (a4, l5)] [(w9.heap.size, s9, n9), (w8.heap.size, s9, n9)] w12) := A11.out.later b12; clear b12; obtain ⟨z0, z1, z2, z3⟩ := two_cells (A12.out.bo (w8.heap.size, s9, n9) (by simp)); obtain ⟨v0, v1, v2, v3⟩ := two_cells (A12.out.bo (w9.heap.size, s9, n9) (by simp)))
    | (go_at_call 17; refine (num07_P _ _).mono ?_; rintro e w9' ⟨rfl, rfl⟩)
    | (go_at_call 19; refine (gintact _ V1 tyG E1 w12 A12.out.tw.hg.inv A12.out.tw.hg.st (by have := A12.out.tw.hg.l1; have := HFI.out.ll; omega) (by have := A12.out.tw.hg.l2; omega) (by have := A12.out.tw.hg.l4; have := HFI.out.pl; omega)).mono ?_; rintro e w13 ⟨rfl, b13⟩; have A13 : Hid (TL g x w V1 E1 w1.heap.size [(a7, l7), (a6, l7), (a3, l3), (a2, l3)] [(a5, l5), (a4, l5)] [(w9.heap.size, s9, n9), (w8.heap.size, s9, n9)] w13) := A12.out.later b13; clear b13)
    | (go_at_call 20; refine (alive_T w13 (HT.out _ A13.out.tw.bel)).mono ?_; rintro e w14 ⟨rfl, b14⟩; have A14 : Hid (TL g x w V1 E1 w1.heap.size [(a7, l7), (a6, l7), (a3, l3), (a2, l3)] [(a5, l5), (a4, l5)] [(w9.heap.size, s9, n9), (w8.heap.size, s9, n9)] w14) := A13.out.later b14; clear b14))
  go_ret
  exact ⟨rfl, A14.out.tw.bel⟩
end Go.Proofs.YtnngnbdlipjflaaGreatDoor
