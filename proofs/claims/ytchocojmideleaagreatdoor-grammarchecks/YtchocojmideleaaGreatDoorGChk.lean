import Derived.Test.YtchocojmideleaaGreatDoorGG1
import Derived.Test.YtchocojmideleaaGreatDoorGIntact
import Derived.Test.YtchocojmideleaaGreatDoorGChk0
import Derived.Test.YtchocojmideleaaGreatDoorGCores
import Derived.Test.YtchocojmideleaaGreatDoorGAll0
import Derived.Test.YtchocojmideleaaGreatDoorGSmallToGAlive2
import Derived.Test.YtchocojmideleaaGreatDoorGCheckR
namespace Go.Proofs.YtchocojmideleaaGreatDoor
set_option linter.unusedVariables false
open Go.RowKit

abbrev gvBox : Obj := .cells #[hNil, hNil, hNil, hNil, hNil, hNil, hNil, hNil, hNil, hNil, hNil, hNil, hNil, hNil, hNil, hNil, hNil, hNil, hNil, hNil, hNil, hNil] 42
/-- What lasts through GrammarChecks, before the grammar is handed in. -/
structure CW0 (g : GV) (k m : Int) (w wr : World) : Prop where
  box : BoxG g w.heap.size wr
  sy : wr.cell? ⟨w.heap.size + 1, 0, none⟩ = some (.int .i64 k) ∧ wr.cell? ⟨w.heap.size + 1, 1, none⟩ = some (.int .i64 m)
  at_ : GAt 1048576 wr g
  bel : Below w.heap.size w wr
theorem CW0.of {g : GV} {k m : Int} {w wr : World} (h : GAt 1048576 w g) (hb : Below ((w.alloc (gBox g)).alloc (syBox k m)).heap.size ((w.alloc (gBox g)).alloc (syBox k m)) wr) : CW0 g k m w wr := by
  have hbox := heap_alloc_new (w.alloc (gBox g)) (syBox k m)
  have hW := two_box w g k m
  have q := (hb.block _ (lt_of_block hbox)).trans hbox
  have e : (w.alloc (gBox g)).heap.size = w.heap.size + 1 := by simp
  rw [e] at q
  have hw := hW.trans (hb.mono hW.size)
  exact ⟨(BoxG.new.later (below_alloc _ _)).later hb, ⟨(cellq_any q).trans rfl, (cellq_any q).trans rfl⟩, h.later hw, hw⟩
/-- And after. -/
structure CW (g x : GV) (k m : Int) (w : World) (V : Nat → Value) (E : Nat → List HE) (wr : World) : Prop where
  c0 : CW0 g k m w wr
  hg : HG (w.heap.size + 1 + 1) ((w.alloc (gBox g)).alloc (syBox k m)) wr (w.heap.size + 1 + 1) V E (0 + g.ls.length) (0 + 2) (0 + g.ps.length)
  same : SameG g x
  xat : GAt 1048576 wr x ∧ x.ps.length ≤ x.pc
theorem CW.later {g x : GV} {k m : Int} {w wr w' : World} {V : Nat → Value} {E : Nat → List HE} (h : CW g x k m w V E wr) (hb : Below wr.heap.size wr w') : CW g x k m w V E w' := by
  refine ⟨⟨h.c0.box.later hb, ?_, h.c0.at_.later hb, h.c0.bel.trans (hb.mono h.c0.bel.size)⟩, h.hg.later hb, h.same, h.xat.1.later hb, h.xat.2⟩
  have s := h.c0.sy
  exact ⟨(hb.cell (World.block_lt_of_cell? _ _ s.1)).trans s.1, (hb.cell (World.block_lt_of_cell? _ _ s.2)).trans s.2⟩
theorem in_x {g x : GV} (hs : SameG g x) (k n : Int) (w : World) (h : GAt 1048576 w x) : Calls Tryz.prog 13 #[x.val, .agg #[.int .i64 k, .int .i64 n]] w fun e w' => e = .returned (.bool (inG g k n)) ∧ Below w.heap.size w w' := by
  rw [← same_in hs]
  exact in_g x k n w (Nat.le_trans h.tl (by omega)) (Nat.le_trans h.nl (by omega))
theorem rules_x {g x : GV} (hs : SameG g x) (n : Int) (w : World) (h : GAt 1048576 w x) : Calls Tryz.prog 16 #[x.val, .int .i64 n] w fun e w' => ∃ a c, e = .returned (.slice a (rulesU g.ps n g.ps.length).length c) ∧ IL w' (.slice a (rulesU g.ps n g.ps.length).length c) (rulesU g.ps n g.ps.length) ∧ Below w.heap.size w w' := by
  rw [← same_rules hs]
  exact rules_any x n w h
theorem uses_x {g x : GV} (hs : SameG g x) (k n : Int) (w : World) (h : GAt 1048576 w x) : Calls Tryz.prog 19 #[x.val, .agg #[.int .i64 k, .int .i64 n]] w fun e w' => ∃ a c, e = .returned (.slice a (usesU g.ps (k, n) g.ps.length).length c) ∧ CL w' (.slice a (usesU g.ps (k, n) g.ps.length).length c) (usesU g.ps (k, n) g.ps.length) ∧ Below w.heap.size w w' := by
  rw [← same_uses hs]
  exact uses_any x k n w h
theorem keepC {g x : GV} {k m : Int} {w wr : World} {V : Nat → Value} {E : Nat → List HE} {b : Nat} (h : CW g x k m w V E wr) (hx : BoxG x b wr) :
    wr.cell? ⟨w.heap.size, 0, none⟩ = some (.slice g.ta g.ts.length g.tc) ∧ wr.cell? ⟨w.heap.size, 1, none⟩ = some (.slice g.na g.ns.length g.nc) ∧ wr.cell? ⟨w.heap.size, 2, none⟩ = some (.int .i64 g.start) ∧ wr.cell? ⟨w.heap.size, 3, none⟩ = some (.slice g.pa g.ps.length g.pc) ∧ wr.cell? ⟨w.heap.size, 4, none⟩ = some (.slice g.la g.ls.length g.lc) ∧
    wr.cell? ⟨w.heap.size + 1, 0, none⟩ = some (.int .i64 k) ∧ wr.cell? ⟨w.heap.size + 1, 1, none⟩ = some (.int .i64 m) ∧
    wr.cell? ⟨b, 0, none⟩ = some (.slice x.ta x.ts.length x.tc) ∧ wr.cell? ⟨b, 1, none⟩ = some (.slice x.na x.ns.length x.nc) ∧ wr.cell? ⟨b, 2, none⟩ = some (.int .i64 x.start) ∧ wr.cell? ⟨b, 3, none⟩ = some (.slice x.pa x.ps.length x.pc) ∧ wr.cell? ⟨b, 4, none⟩ = some (.slice x.la x.ls.length x.lc) :=
  ⟨h.c0.box.g0, h.c0.box.g1, h.c0.box.g2, h.c0.box.g3, h.c0.box.g4, h.c0.sy.1, h.c0.sy.2, hx.g0, hx.g1, hx.g2, hx.g3, hx.g4⟩
set_option maxRecDepth 100000 in
set_option maxHeartbeats 1000000 in
theorem checks_walk (g : GV) (k m z : Int) (w : World) (hm : C.Magic w) (h : GAt 1048576 w g) (hpc : g.ps.length ≤ g.pc) (er at_ : Int) (hE : checkG g (checkF g.ts g.ns) = (er, at_)) :
    Calls Tryz.prog 3 #[g.val, .agg #[.int .i64 k, .int .i64 m], .int .i64 z] w fun e w' => e = .returned (.bool true) ∧ Below w.heap.size w w' := by
  have e2 : ((w.alloc (gBox g)).alloc (syBox k m)).heap.size = w.heap.size + 1 + 1 := by simp
  have H0 : Hid (HG (w.heap.size + 1 + 1) ((w.alloc (gBox g)).alloc (syBox k m)) (((w.alloc (gBox g)).alloc (syBox k m)).alloc gvBox) (w.heap.size + 1 + 1) (fun _ => hNil) (fun _ => []) 0 0 0) := by
    have := hg_new _ ((w.alloc (gBox g)).alloc (syBox k m)) ((w.alloc (gBox g)).alloc (syBox k m)) (Below.refl _ _) (Nat.le_refl _)
    rw [e2] at this
    exact this
  have B0 : Hid (∀ wr, Below (w.heap.size + 1 + 1) (((w.alloc (gBox g)).alloc (syBox k m)).alloc gvBox) wr → CW0 g k m w wr) := fun wr hb => CW0.of h (by rw [e2]; have := below_alloc ((w.alloc (gBox g)).alloc (syBox k m)) gvBox; rw [e2] at this; exact this.trans hb)
  have HM : Hid (C.Magic w) := hm
  have HE : Hid (checkG g (checkF g.ts g.ns) = (er, at_)) := hE
  have HR : Hid ((rulesU g.ps z g.ps.length).length ≤ 140737488355328) := Nat.le_trans (rulesU_len _ _ _) (Nat.le_trans h.pl (by omega))
  have HU : Hid ((usesU g.ps (k, m) g.ps.length).length ≤ 140737488355328) := Nat.le_trans (usesU_len (k, m) h.rl g.ps.length (Nat.le_refl _)) (Nat.le_trans (Nat.mul_le_mul_right _ h.pl) (by omega))
  have t1 : (er == er) = true := by simp
  have t2 : (at_ == at_) = true := by simp
  have t3 : (inG g k m == inG g k m) = true := by simp
  clear hm h hpc hE e2
  go_enter Tryz.func3, Tryz.ntmps3
  go_wp2_with (first
    | (go_at_call 9; refine (hg_gram H0.out (by omega) (by omega) (by omega) g (fun wr hb => (B0.out wr hb).at_)).mono ?_; rintro e w1 ⟨x, rfl, hs, hx, ho⟩; obtain ⟨V1, E1, h1⟩ := ho.ex; have A1 : Hid (CW g x k m w V1 E1 w1) := ⟨B0.out w1 ho.bel, h1, hs, hx.at hs (B0.out w1 ho.bel).at_⟩; clear hs hx ho h1)
    | (go_at_call 10; have A2 : Hid (CW g x k m w V1 E1 (w1.alloc (gBox x))) := A1.out.later (below_alloc _ _); refine (check_G x _ (A2.out.xat.1.mono (by omega)) A2.out.xat.2 er at_ ((same_check A2.out.same).trans HE.out)).mono ?_; rintro e w2 ⟨rfl, hb'⟩; have A3 : Hid (CW g x k m w V1 E1 w2) := A2.out.later hb'; have X3 : Hid (BoxG x w1.heap.size w2) := BoxG.new.later hb'; clear hb'; have c0 := A3.out.c0.box.g0; have c1 := A3.out.c0.box.g1; have c2 := A3.out.c0.box.g2; have c3 := A3.out.c0.box.g3; have c4 := A3.out.c0.box.g4)
    | (go_at_call 11; refine (refcheck_G g w2 (A3.out.c0.at_.mono (by omega)) er at_ HE.out).mono ?_; rintro e w3 ⟨rfl, hb'⟩; have A4 : Hid (CW g x k m w V1 E1 w3) := A3.out.later hb'; have X4 : Hid (BoxG x w1.heap.size w3) := X3.out.later hb'; clear hb' c0 c1 c2 c3 c4))
  clear A1 A2 A3 X3 H0 B0 HE
  have c0 := A4.out.c0.box.g0
  have c1 := A4.out.c0.box.g1
  have c2 := A4.out.c0.box.g2
  have c3 := A4.out.c0.box.g3
  have c4 := A4.out.c0.box.g4
  have s0 := A4.out.c0.sy.1
  have s1 := A4.out.c0.sy.2
  have x0 := X4.out.g0
  have x1 := X4.out.g1
  have x2 := X4.out.g2
  have x3 := X4.out.g3
  have x4 := X4.out.g4
  have hdr : Below w3.heap.size w3 w3.drew := by go_grown
  have A0 : Hid (CW g x k m w V1 E1 w3.drew) := A4.out.later hdr
  have X0 : Hid (BoxG x w1.heap.size w3.drew) := X4.out.later hdr
  clear hdr
  go_region_held3 (fun w' => w'.cell? ⟨w.heap.size, 0, none⟩ = some (.slice g.ta g.ts.length g.tc) ∧ w'.cell? ⟨w.heap.size, 1, none⟩ = some (.slice g.na g.ns.length g.nc) ∧ w'.cell? ⟨w.heap.size, 2, none⟩ = some (.int .i64 g.start) ∧ w'.cell? ⟨w.heap.size, 3, none⟩ = some (.slice g.pa g.ps.length g.pc) ∧ w'.cell? ⟨w.heap.size, 4, none⟩ = some (.slice g.la g.ls.length g.lc) ∧ w'.cell? ⟨w.heap.size + 1, 0, none⟩ = some (.int .i64 k) ∧ w'.cell? ⟨w.heap.size + 1, 1, none⟩ = some (.int .i64 m) ∧ w'.cell? ⟨w1.heap.size, 0, none⟩ = some (.slice x.ta x.ts.length x.tc) ∧ w'.cell? ⟨w1.heap.size, 1, none⟩ = some (.slice x.na x.ns.length x.nc) ∧ w'.cell? ⟨w1.heap.size, 2, none⟩ = some (.int .i64 x.start) ∧ w'.cell? ⟨w1.heap.size, 3, none⟩ = some (.slice x.pa x.ps.length x.pc) ∧ w'.cell? ⟨w1.heap.size, 4, none⟩ = some (.slice x.la x.ls.length x.lc)) (first | (with_reducible exact keepC A14.out X14.out) | (with_reducible exact keepC A13.out X13.out) | (with_reducible exact keepC A12.out X12.out) | (with_reducible exact keepC A11.out X11.out) | (with_reducible exact keepC A10.out X10.out) | (with_reducible exact keepC A9.out X9.out) | (with_reducible exact keepC A8.out X8.out) | (with_reducible exact keepC A7.out X7.out) | (with_reducible exact keepC A6.out X6.out) | (with_reducible exact keepC A5.out X5.out) | (with_reducible exact keepC A4.out X4.out) | (with_reducible exact keepC A0.out X0.out)) (first
    | (go_at_call 12; refine (num_g _ _).mono ?_; rintro e w' ⟨rfl, rfl⟩)
    | (go_at_call 13; refine (in_x A0.out.same k m _ A0.out.xat.1).mono ?_; rintro e w4 ⟨rfl, hb'⟩; have A5 : Hid (CW g x k m w V1 E1 w4) := A0.out.later hb'; have X5 : Hid (BoxG x w1.heap.size w4) := X0.out.later hb'; clear hb')
    | (go_at_call 14; refine (refin_g g k m w4 (Nat.le_trans A5.out.c0.at_.tl (by omega)) (Nat.le_trans A5.out.c0.at_.nl (by omega))).mono ?_; rintro e w5 ⟨rfl, hb'⟩; have A6 : Hid (CW g x k m w V1 E1 w5) := A5.out.later hb'; have X6 : Hid (BoxG x w1.heap.size w5) := X5.out.later hb'; clear hb')
    | (go_at_call 16; refine (rules_x A6.out.same z w5 A6.out.xat.1).mono ?_; rintro e w6 ⟨ra, rc, rfl, hl1, hb'⟩; have A7 : Hid (CW g x k m w V1 E1 w6) := A6.out.later hb'; have X7 : Hid (BoxG x w1.heap.size w6) := X6.out.later hb'; have R1 : Hid (InRow w6 ra (rulesU g.ps z g.ps.length)) := hl1.row; clear hb' hl1)
    | (go_at_call 17; refine (refrules_any g z w6 A7.out.c0.at_).mono ?_; rintro e w7 ⟨sa, sc, rfl, hl1, hb'⟩; have A8 : Hid (CW g x k m w V1 E1 w7) := A7.out.later hb'; have X8 : Hid (BoxG x w1.heap.size w7) := X7.out.later hb'; have R2 : Hid (InRow w7 ra (rulesU g.ps z g.ps.length) ∧ InRow w7 sa (rulesU g.ps z g.ps.length)) := ⟨R1.out.later hb', hl1.row⟩; clear hb' hl1)
    | (go_at_call 15; refine (sameints_g ra sa _ _ rc sc (rulesU g.ps z g.ps.length) w7 rfl rfl HR.out R2.out.1 R2.out.2).mono ?_; rintro e w8 ⟨rfl, d8, hd8⟩; have hb' : Below w7.heap.size w7 w8 := hd8 ▸ below_drewN (Below.refl _ w7) d8; have A9 : Hid (CW g x k m w V1 E1 w8) := A8.out.later hb'; have X9 : Hid (BoxG x w1.heap.size w8) := X8.out.later hb'; clear hb' hd8)
    | (go_at_call 19; refine (uses_x A9.out.same k m w8 A9.out.xat.1).mono ?_; rintro e w9 ⟨ua, uc, rfl, hl1, hb'⟩; have A10 : Hid (CW g x k m w V1 E1 w9) := A9.out.later hb'; have X10 : Hid (BoxG x w1.heap.size w9) := X9.out.later hb'; have U1 : Hid (SymRow w9 ua (usesU g.ps (k, m) g.ps.length)) := hl1.row; clear hb' hl1)
    | (go_at_call 20; refine (refuses_any g k m w9 A10.out.c0.at_).mono ?_; rintro e w10 ⟨va, vc, rfl, hl1, hb'⟩; have A11 : Hid (CW g x k m w V1 E1 w10) := A10.out.later hb'; have X11 : Hid (BoxG x w1.heap.size w10) := X10.out.later hb'; have U2 : Hid (SymRow w10 ua (usesU g.ps (k, m) g.ps.length) ∧ SymRow w10 va (usesU g.ps (k, m) g.ps.length)) := ⟨U1.out.later (Nat.le_refl _) hb', hl1.row⟩; clear hb' hl1)
    | (go_at_call 18; refine (samecores_g ua va _ _ uc vc (usesU g.ps (k, m) g.ps.length) w10 rfl rfl HU.out U2.out.1 U2.out.2).mono ?_; rintro e w11 ⟨rfl, d11, hd11⟩; have hb' : Below w10.heap.size w10 w11 := hd11 ▸ below_drewN (Below.refl _ w10) d11; have A12 : Hid (CW g x k m w V1 E1 w11) := A11.out.later hb'; have X12 : Hid (BoxG x w1.heap.size w11) := X11.out.later hb'; clear hb' hd11)
    | (go_at_call 21; refine (gintact _ V1 tyG E1 w11 A12.out.hg.inv A12.out.hg.st (by have := A12.out.hg.l1; have := A12.out.c0.at_.ll; omega) (by have := A12.out.hg.l2; omega) (by have := A12.out.hg.l4; have := A12.out.c0.at_.pl; omega)).mono ?_; rintro e w12 ⟨rfl, hb'⟩; have A13 : Hid (CW g x k m w V1 E1 w12) := A12.out.later hb'; have X13 : Hid (BoxG x w1.heap.size w12) := X12.out.later hb'; clear hb')
    | (go_at_call 22; refine (alive_G w12 (C.Magic.later HM.out A13.out.c0.bel HM.out.lt)).mono ?_; rintro e w13 ⟨rfl, hb'⟩; have A14 : Hid (CW g x k m w V1 E1 w13) := A13.out.later hb'; have X14 : Hid (BoxG x w1.heap.size w13) := X13.out.later hb'; clear hb'))
  go_wp2
  go_ret
  exact ⟨rfl, A14.out.c0.bel⟩
end Go.Proofs.YtchocojmideleaaGreatDoor
