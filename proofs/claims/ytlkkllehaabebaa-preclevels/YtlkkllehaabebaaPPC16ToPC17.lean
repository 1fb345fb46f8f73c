import Derived.Test.YtlkkllehaabebaaPPC14ToPC15
import Derived.Test.YtlkkllehaabebaaPHByteToGIntactB
import Derived.Test.YtlkkllehaabebaaPGDec12ToGDec14
namespace Go.Proofs.Ytlkkllehaabebaa
set_option linter.unusedVariables false
set_option maxRecDepth 100000
set_option maxHeartbeats 16000000
open Go.RowKit Go.Maps
theorem lev_core (ls : List LV) (t : Int) : levU ls t = match (ls.map LV.core).findIdx? fun c => c.2.contains t with
  | some i => (i : Int)
  | none => -1 := by
 unfold levU
 rw [List.findIdx?_map]
 rfl
theorem same_lev {g x : GV} (h : SameG g x) (t : Int) : levU x.ls t = levU g.ls t := by rw [lev_core, lev_core, h.ls]
theorem same_own {g x : GV} (h : SameG g x) (i : Nat) : ownU (x.ps.getD i .none) = ownU (g.ps.getD i .none) := by
 have e : (x.ps.map PV.core).getD i (PV.core .none) = (g.ps.map PV.core).getD i (PV.core .none) := by rw [h.ps]
 have m : ∀ l : List PV, (l.map PV.core).getD i (PV.core .none) = PV.core (l.getD i .none) := fun l => by
  simp only [List.getD, List.getElem?_map]
  cases l[i]? <;> rfl
 rw [m, m] at e
 generalize x.ps.getD i .none = p at e
 generalize g.ps.getD i .none = q at e
 simp only [PV.core, Prod.mk.injEq] at e
 unfold ownU
 rw [e.2.1, e.2.2]
theorem same_len {g x : GV} (h : SameG g x) : x.ps.length = g.ps.length := by simpa using congrArg List.length h.ps
theorem same_assoc {g x : GV} (h : SameG g x) (i : Nat) : (x.ls.getD i .none).assoc = (g.ls.getD i .none).assoc := by
 have e : (x.ls.map LV.core).getD i (LV.core .none) = (g.ls.map LV.core).getD i (LV.core .none) := by rw [h.ls]
 have m : ∀ l : List LV, (l.map LV.core).getD i (LV.core .none) = LV.core (l.getD i .none) := fun l => by
  simp only [List.getD, List.getElem?_map]
  cases l[i]? <;> rfl
 rw [m, m] at e
 simp only [LV.core, Prod.mk.injEq] at e
 exact e.1
theorem same_inT {g x : GV} (h : SameG g x) (t : Int) : inT x t = inT g t := by unfold inT; rw [h.ts]
theorem same_inP {g x : GV} (h : SameG g x) (t : Int) : inP x t = inP g t := by unfold inP; rw [same_len h]
theorem same_levF {g x : GV} (h : SameG g x) (er t : Int) : levF x er t = levF g er t := by unfold levF; rw [same_inT h, same_lev h]
theorem same_terF {g x : GV} (h : SameG g x) (er t : Int) : terF x er t = terF g er t := by unfold terF; rw [same_inP h, same_own h]
theorem same_prlF {g x : GV} (h : SameG g x) (er t : Int) : prlF x er t = prlF g er t := by unfold prlF; rw [same_terF h, same_lev h]
theorem same_decU {g x : GV} (h : SameG g x) (p : Nat) (t : Int) : decU x p t = decU g p t := by
 unfold decU duelD plvU
 rw [same_own h, same_lev h, same_lev h, same_assoc h]
theorem same_decF {g x : GV} (h : SameG g x) (er p t : Int) : decF x er p t = decF g er p t := by unfold decF; rw [same_inP h, same_inT h, same_decU h]
theorem decU_len (g : GV) (p : Nat) (t : Int) : (decU g p t).drop.length <= 1 := by
 unfold decU duelD eqD
 repeat' split
 all_goals simp [noneD, redD, shiD, errD]
theorem dec_len (g : GV) (er p t : Int) : (decF g er p t).1.drop.length <= 1 := by
 unfold decF
 split
 ·simp [DV.zero]
 ·split
  ·simp [DV.zero]
  ·split
   ·simp [DV.zero]
   ·exact decU_len g _ _
end Go.Proofs.Ytlkkllehaabebaa
namespace Go.Proofs.Ytlkkllehaabebaa
set_option linter.unusedVariables false
set_option maxRecDepth 100000
set_option maxHeartbeats 16000000
open Go.RowKit Go.Maps
set_option linter.unusedSimpArgs false in
theorem levels_no (g : GV) (p t : Int) (w : World) (h : GAt 140737488355328 w g) (hfi : GFine g) (er at_ : Int) (hE : checkG g (checkF g.ts g.ns) = (er, at_)) (h0 : er ≠ 0) :
  Calls Try.prog 3 #[g.val, .int .i64 p, .int .i64 t] w fun e w' => e = .returned (.bool true) /\ Below w.heap.size w w' := by
 have X0 : Hid ((w.alloc (gBox g)).heap[w.heap.size]? = some (gBox g)) := heap_alloc_new _ _
 have H0 : Hid (HG (w.heap.size + 1) (w.alloc (gBox g)) ((w.alloc (gBox g)).alloc gvBoxT) (w.heap.size + 1) (fun _ => hNil) (fun _ => []) 0 0 0) := by
  have := hg_newT (w.heap.size + 1) (w.alloc (gBox g)) (w.alloc (gBox g)) (Below.refl _ _) (by simp)
  rw [show (w.alloc (gBox g)).heap.size = w.heap.size + 1 by simp] at this
  exact this
 have B0 : Hid (∀ wr, Below (w.heap.size + 1) (w.alloc (gBox g)) wr -> Below w.heap.size w wr /\ wr.heap[w.heap.size]? = some (gBox g) /\ GAt 140737488355328 wr g) := fun wr hb => by
  have b1 : Below w.heap.size w wr := (below_alloc w _).trans (hb.mono (by omega))
  exact ⟨b1, (hb.block _ (by omega)).trans (heap_alloc_new _ _), h.later b1⟩
 have HFI : Hid (GFine g) := hfi
 have HXA : Hid (∀ x V E n1 wr, TW g x w V E n1 wr -> GAt 140737488355328 wr x /\ x.ps.length <= x.pc /\ checkG x (checkF x.ts x.ns) = (er, at_)) := fun x V E n1 wr k => ⟨(k.gx.at k.same h).1, (k.gx.at k.same h).2, (same_check k.same).trans hE⟩
 have MY : Hid (∀ wr, Below w.heap.size w wr -> Calls Try.prog 13 #[g.val] wr fun e w' => e = .returned (.int .i64 er) /\ Below wr.heap.size wr w') := fun wr hb => by
  have := refmay_G g wr (h.later hb)
  rwa [hE] at this
 obtain ⟨x0, x1, x2, x3, x4⟩ := gb_cells (b := w.heap.size) (w' := (w.alloc (gBox g)).alloc gvBoxT) (((below_alloc (w.alloc (gBox g)) gvBoxT).block _ (by simp)).trans X0.out)
 have LC : Hid (∀ x V E n1 wr, TW g x w V E n1 wr -> Calls Try.prog 9 #[x.val, .int .i64 t] wr fun e w' => e = .returned (.tuple #[.int .i64 (levF g er t).1, .int .i64 (levF g er t).2]) /\ Below wr.heap.size wr w') := fun x V E n1 wr k => by
  have := LevelOf_P x t wr (HXA.out _ _ _ _ _ k).1 (HXA.out _ _ _ _ _ k).2.1 er at_ (HXA.out _ _ _ _ _ k).2.2
  rwa [same_levF k.same] at this
 have TC : Hid (∀ x V E n1 wr, TW g x w V E n1 wr -> Calls Try.prog 10 #[x.val, .int .i64 p] wr fun e w' => e = .returned (.tuple #[.int .i64 (terF g er p).1, .int .i64 (terF g er p).2]) /\ Below wr.heap.size wr w') := fun x V E n1 wr k => by
  have := TerminalOf_P x p wr (HXA.out _ _ _ _ _ k).1 (HXA.out _ _ _ _ _ k).2.1 er at_ (HXA.out _ _ _ _ _ k).2.2
  rwa [same_terF k.same] at this
 have PC : Hid (∀ x V E n1 wr, TW g x w V E n1 wr -> Calls Try.prog 11 #[x.val, .int .i64 p] wr fun e w' => e = .returned (.tuple #[.int .i64 (prlF g er p).1, .int .i64 (prlF g er p).2]) /\ Below wr.heap.size wr w') := fun x V E n1 wr k => by
  have := ProdLevel_P x p wr (HXA.out _ _ _ _ _ k).1 (HXA.out _ _ _ _ _ k).2.1 er at_ (HXA.out _ _ _ _ _ k).2.2
  rwa [same_prlF k.same] at this
 have DC : Hid (∀ x V E n1 wr, TW g x w V E n1 wr -> Calls Try.prog 12 #[x.val, .int .i64 p, .int .i64 t] wr (DcO wr (decF g er p t))) := fun x V E n1 wr k => by
  have := Decide_P x p t wr (HXA.out _ _ _ _ _ k).1 (HXA.out _ _ _ _ _ k).2.1 er at_ (HXA.out _ _ _ _ _ k).2.2
  rwa [same_decF k.same] at this
 have SM : Hid (∀ (d : DV) wr ao c bo e, d.drop.length <= 1 -> InRow wr ao d.drop -> InRow wr bo d.drop -> Calls Try.prog 17 #[dval d ao c, dval d bo e] wr fun e' w' => e' = .returned (.bool true) /\ Below wr.heap.size wr w') := fun d wr ao c bo e hl h1 h2 => same_P d ao bo c e wr (by omega) h1 h2
 rw [show levF g er t = (0, er) by simp [levF, h0]] at LC
 have e1 : terF g er p = (0, er) := by simp [terF, h0]
 rw [e1] at TC
 rw [show prlF g er p = (0, er) by unfold prlF; rw [e1]; simp [h0]] at PC
 rw [show decF g er p t = (DV.zero, er) by simp [decF, h0]] at DC
 obtain ⟨d, hd⟩ : ∃ d, d = DV.zero := ⟨_, rfl⟩
 rw [<- hd] at DC
 have HD0 : Hid (d = DV.zero) := hd
 have t1 : (er != 0) = true := by simpa using h0
 have t2 : (er == er) = true := by simp
 clear h hfi hE h0 e1 hd
 go_enter Try.func3, Try.ntmps3
 go_wp2_with (first
  | (go_at_call 8; refine (hg_gram H0.out (by omega) (by omega) (by omega) g HFI.out (fun wr hb => (B0.out wr (H0.out.bel.trans hb)).2.2)).mono ?_; rintro e w1 ⟨x, rfl, hs, hx, ho⟩; obtain ⟨V1, E1, k1⟩ := ho.ex; have A1 : Hid (TW g x w V1 E1 (0 + g.ls.length) (w1.alloc (gBox x)) /\ (w1.alloc (gBox x)).heap[w1.heap.size]? = some (gBox x)) := ⟨TW.later ⟨(B0.out w1 (H0.out.bel.trans ho.bel)).1, (B0.out w1 (H0.out.bel.trans ho.bel)).2.1, k1, hs, hx⟩ (below_alloc _ _), heap_alloc_new _ _⟩; clear hs hx ho k1 x0 x1 x2 x3 x4)
  | (go_at_call 9; refine (LC.out x _ _ _ _ A1.out.1).mono ?_; rintro e w2 ⟨rfl, b2⟩; have A2 : Hid (TW g x w V1 E1 (0 + g.ls.length) w2 /\ w2.heap[w1.heap.size]? = some (gBox x)) := ⟨A1.out.1.later b2, blk_later A1.out.2 b2⟩; clear b2; obtain ⟨y0, y1, y2, y3, y4⟩ := gb_cells A2.out.2)
  | (go_at_call 10; refine (TC.out x _ _ _ _ A2.out.1).mono ?_; rintro e w3 ⟨rfl, b3⟩; have A3 : Hid (TW g x w V1 E1 (0 + g.ls.length) w3 /\ w3.heap[w1.heap.size]? = some (gBox x)) := ⟨A2.out.1.later b3, blk_later A2.out.2 b3⟩; clear b3 y0 y1 y2 y3 y4; obtain ⟨y0, y1, y2, y3, y4⟩ := gb_cells A3.out.2)
  | (go_at_call 11; refine (PC.out x _ _ _ _ A3.out.1).mono ?_; rintro e w4 ⟨rfl, b4⟩; have A4 : Hid (TW g x w V1 E1 (0 + g.ls.length) w4 /\ w4.heap[w1.heap.size]? = some (gBox x)) := ⟨A3.out.1.later b4, blk_later A3.out.2 b4⟩; clear b4 y0 y1 y2 y3 y4; obtain ⟨y0, y1, y2, y3, y4⟩ := gb_cells A4.out.2)
  | (go_at_call 12; refine (DC.out x _ _ _ _ A4.out.1).mono ?_; rintro e w5 ⟨ao, c, rfl, d5', b5⟩; have A5 : Hid (TW g x w V1 E1 (0 + g.ls.length) (w5.alloc (.cells #[.int .i64 d.look, .int .i64 d.kind, .int .i64 d.prod, .slice ao d.drop.length c, .bool d.sd, .int .i64 d.lev] 47)) /\ (w5.alloc (.cells #[.int .i64 d.look, .int .i64 d.kind, .int .i64 d.prod, .slice ao d.drop.length c, .bool d.sd, .int .i64 d.lev] 47)).heap[w5.heap.size]? = some (.cells #[.int .i64 d.look, .int .i64 d.kind, .int .i64 d.prod, .slice ao d.drop.length c, .bool d.sd, .int .i64 d.lev] 47 (0, 0)) /\ InRow (w5.alloc (.cells #[.int .i64 d.look, .int .i64 d.kind, .int .i64 d.prod, .slice ao d.drop.length c, .bool d.sd, .int .i64 d.lev] 47)) ao d.drop) := ⟨(A4.out.1.later b5).later (below_alloc _ _), heap_alloc_new _ _, d5'.row.later (below_alloc _ _)⟩; clear b5 d5' y0 y1 y2 y3 y4; obtain ⟨y0, y1, y2, y3, y4⟩ := gb_cells A5.out.1.box)
  | (go_at_call 13; refine (MY.out _ A5.out.1.bel).mono ?_; rintro e w6 ⟨rfl, b6⟩; have A6 : Hid (TW g x w V1 E1 (0 + g.ls.length) w6 /\ w6.heap[w5.heap.size]? = some (.cells #[.int .i64 d.look, .int .i64 d.kind, .int .i64 d.prod, .slice ao d.drop.length c, .bool d.sd, .int .i64 d.lev] 47 (0, 0)) /\ InRow w6 ao d.drop) := ⟨A5.out.1.later b6, blk_later A5.out.2.1 b6, A5.out.2.2.later b6⟩; clear b6; clear y0 y1 y2 y3 y4)
  | (go_at_call 14; refine (gintact _ V1 tyG E1 w6 A6.out.1.hg.inv A6.out.1.hg.st (by have := A6.out.1.hg.l1; have := HFI.out.ll; omega) (by have := A6.out.1.hg.l2; omega) (by have := A6.out.1.hg.l4; have := HFI.out.pl; omega)).mono ?_; rintro e w7 ⟨rfl, b7⟩; have A7 : Hid (TW g x w V1 E1 (0 + g.ls.length) w7 /\ w7.heap[w5.heap.size]? = some (.cells #[.int .i64 d.look, .int .i64 d.kind, .int .i64 d.prod, .slice ao d.drop.length c, .bool d.sd, .int .i64 d.lev] 47 (0, 0)) /\ InRow w7 ao d.drop) := ⟨A6.out.1.later b7, blk_later A6.out.2.1 b7, A6.out.2.2.later b7⟩; clear b7)
  | (go_at_call 15; refine (works_P w7).mono ?_; rintro e w8 ⟨rfl, b8⟩; have A8 : Hid (TW g x w V1 E1 (0 + g.ls.length) w8 /\ w8.heap[w5.heap.size]? = some (.cells #[.int .i64 d.look, .int .i64 d.kind, .int .i64 d.prod, .slice ao d.drop.length c, .bool d.sd, .int .i64 d.lev] 47 (0, 0)) /\ InRow w8 ao d.drop) := ⟨A7.out.1.later b8, blk_later A7.out.2.1 b8, A7.out.2.2.later b8⟩; clear b8; have z0 : w8.cell? ⟨w5.heap.size, 0, none⟩ = some (.int .i64 d.look) := (cellq_any A8.out.2.1).trans rfl; have z1 : w8.cell? ⟨w5.heap.size, 1, none⟩ = some (.int .i64 d.kind) := (cellq_any A8.out.2.1).trans rfl; have z2 : w8.cell? ⟨w5.heap.size, 2, none⟩ = some (.int .i64 d.prod) := (cellq_any A8.out.2.1).trans rfl; have z3 : w8.cell? ⟨w5.heap.size, 3, none⟩ = some (.slice ao d.drop.length c) := (cellq_any A8.out.2.1).trans rfl; have z4 : w8.cell? ⟨w5.heap.size, 4, none⟩ = some (.bool d.sd) := (cellq_any A8.out.2.1).trans rfl; have z5 : w8.cell? ⟨w5.heap.size, 5, none⟩ = some (.int .i64 d.lev) := (cellq_any A8.out.2.1).trans rfl)
  | (go_at_call 16; refine (num14_P _ _).mono ?_; rintro e wn ⟨rfl, rfl⟩)
  | (go_at_call 17; refine ((by rw [HD0.out]; exact SM.out DV.zero w8 ao c none 0 (by decide) (by have := A8.out.2.2; rwa [HD0.out] at this) (fun hn => absurd rfl hn) : Calls Try.prog 17 #[dval d ao c, .agg #[.int .i64 0, .int .i64 0, .int .i64 0, .slice none 0 0, .bool false, .int .i64 0]] w8 fun e' w' => e' = .returned (.bool true) /\ Below w8.heap.size w8 w')).mono ?_; rintro e w9 ⟨rfl, b9⟩; have A9 : Hid (Below w.heap.size w w9) := A8.out.1.bel.trans (b9.mono A8.out.1.bel.size); clear b9))
 go_ret
 exact ⟨rfl, A9.out⟩
set_option linter.unusedSimpArgs false in
theorem levels_ok (g : GV) (p t : Int) (w : World) (h : GAt 140737488355328 w g) (hfi : GFine g) (at_ : Int) (hE' : checkG g (checkF g.ts g.ns) = (0, at_)) :
  Calls Try.prog 3 #[g.val, .int .i64 p, .int .i64 t] w fun e w' => e = .returned (.bool true) /\ Below w.heap.size w w' := by
 obtain ⟨er, her⟩ : ∃ er : Int, er = 0 := ⟨0, rfl⟩
 have hE : checkG g (checkF g.ts g.ns) = (er, at_) := by rw [her]; exact hE'
 have ok : OkC g := OkC.of (by rw [hE'])
 have X0 : Hid ((w.alloc (gBox g)).heap[w.heap.size]? = some (gBox g)) := heap_alloc_new _ _
 have H0 : Hid (HG (w.heap.size + 1) (w.alloc (gBox g)) ((w.alloc (gBox g)).alloc gvBoxT) (w.heap.size + 1) (fun _ => hNil) (fun _ => []) 0 0 0) := by
  have := hg_newT (w.heap.size + 1) (w.alloc (gBox g)) (w.alloc (gBox g)) (Below.refl _ _) (by simp)
  rw [show (w.alloc (gBox g)).heap.size = w.heap.size + 1 by simp] at this
  exact this
 have B0 : Hid (∀ wr, Below (w.heap.size + 1) (w.alloc (gBox g)) wr -> Below w.heap.size w wr /\ wr.heap[w.heap.size]? = some (gBox g) /\ GAt 140737488355328 wr g) := fun wr hb => by
  have b1 : Below w.heap.size w wr := (below_alloc w _).trans (hb.mono (by omega))
  exact ⟨b1, (hb.block _ (by omega)).trans (heap_alloc_new _ _), h.later b1⟩
 have HFI : Hid (GFine g) := hfi
 have HXA : Hid (∀ x V E n1 wr, TW g x w V E n1 wr -> GAt 140737488355328 wr x /\ x.ps.length <= x.pc /\ checkG x (checkF x.ts x.ns) = (er, at_)) := fun x V E n1 wr k => ⟨(k.gx.at k.same h).1, (k.gx.at k.same h).2, (same_check k.same).trans hE⟩
 have MY : Hid (∀ wr, Below w.heap.size w wr -> Calls Try.prog 13 #[g.val] wr fun e w' => e = .returned (.int .i64 er) /\ Below wr.heap.size wr w') := fun wr hb => by
  have := refmay_G g wr (h.later hb)
  rwa [hE] at this
 obtain ⟨x0, x1, x2, x3, x4⟩ := gb_cells (b := w.heap.size) (w' := (w.alloc (gBox g)).alloc gvBoxT) (((below_alloc (w.alloc (gBox g)) gvBoxT).block _ (by simp)).trans X0.out)
 have LC : Hid (∀ x V E n1 wr, TW g x w V E n1 wr -> Calls Try.prog 9 #[x.val, .int .i64 t] wr fun e w' => e = .returned (.tuple #[.int .i64 (levF g er t).1, .int .i64 (levF g er t).2]) /\ Below wr.heap.size wr w') := fun x V E n1 wr k => by
  have := LevelOf_P x t wr (HXA.out _ _ _ _ _ k).1 (HXA.out _ _ _ _ _ k).2.1 er at_ (HXA.out _ _ _ _ _ k).2.2
  rwa [same_levF k.same] at this
 have TC : Hid (∀ x V E n1 wr, TW g x w V E n1 wr -> Calls Try.prog 10 #[x.val, .int .i64 p] wr fun e w' => e = .returned (.tuple #[.int .i64 (terF g er p).1, .int .i64 (terF g er p).2]) /\ Below wr.heap.size wr w') := fun x V E n1 wr k => by
  have := TerminalOf_P x p wr (HXA.out _ _ _ _ _ k).1 (HXA.out _ _ _ _ _ k).2.1 er at_ (HXA.out _ _ _ _ _ k).2.2
  rwa [same_terF k.same] at this
 have PC : Hid (∀ x V E n1 wr, TW g x w V E n1 wr -> Calls Try.prog 11 #[x.val, .int .i64 p] wr fun e w' => e = .returned (.tuple #[.int .i64 (prlF g er p).1, .int .i64 (prlF g er p).2]) /\ Below wr.heap.size wr w') := fun x V E n1 wr k => by
  have := ProdLevel_P x p wr (HXA.out _ _ _ _ _ k).1 (HXA.out _ _ _ _ _ k).2.1 er at_ (HXA.out _ _ _ _ _ k).2.2
  rwa [same_prlF k.same] at this
 have DC : Hid (∀ x V E n1 wr, TW g x w V E n1 wr -> Calls Try.prog 12 #[x.val, .int .i64 p, .int .i64 t] wr (DcO wr (decF g er p t))) := fun x V E n1 wr k => by
  have := Decide_P x p t wr (HXA.out _ _ _ _ _ k).1 (HXA.out _ _ _ _ _ k).2.1 er at_ (HXA.out _ _ _ _ _ k).2.2
  rwa [same_decF k.same] at this
 have SM : Hid (∀ (d : DV) wr ao c bo e, d.drop.length <= 1 -> InRow wr ao d.drop -> InRow wr bo d.drop -> Calls Try.prog 17 #[dval d ao c, dval d bo e] wr fun e' w' => e' = .returned (.bool true) /\ Below wr.heap.size wr w') := fun d wr ao c bo e hl h1 h2 => same_P d ao bo c e wr (by omega) h1 h2
 subst her
 have RL : Hid (∀ wr, Below w.heap.size w wr -> Calls Try.prog 18 #[g.val, .int .i64 t] wr fun e w' => e = .returned (.tuple #[.int .i64 (levF g 0 t).1, .int .i64 (levF g 0 t).2]) /\ Below wr.heap.size wr w') := fun wr hb => rLevelOf_P g t wr (h.later hb)
 have RT : Hid (∀ wr, Below w.heap.size w wr -> Calls Try.prog 19 #[g.val, .int .i64 p] wr fun e w' => e = .returned (.tuple #[.int .i64 (terF g 0 p).1, .int .i64 (terF g 0 p).2]) /\ Below wr.heap.size wr w') := fun wr hb => rTerminalOf_P g p wr (h.later hb)
 have RP : Hid (∀ wr, Below w.heap.size w wr -> Calls Try.prog 20 #[g.val, .int .i64 p] wr fun e w' => e = .returned (.tuple #[.int .i64 (prlF g 0 p).1, .int .i64 (prlF g 0 p).2]) /\ Below wr.heap.size wr w') := fun wr hb => rProdLevel_P g p wr (h.later hb) ok
 have RD : Hid (∀ wr, Below w.heap.size w wr -> Calls Try.prog 21 #[g.val, .int .i64 p, .int .i64 t] wr (DcO wr (decF g 0 p t))) := fun wr hb => rDecide_P g p t wr (h.later hb) ok
 have HDL : Hid ((decF g 0 p t).1.drop.length <= 1) := dec_len g 0 p t
 generalize levF g 0 t = r1 at *
 generalize terF g 0 p = r2 at *
 generalize prlF g 0 p = r3 at *
 generalize decF g 0 p t = r4 at *
 obtain ⟨l1, l2⟩ := r1
 obtain ⟨m1, m2⟩ := r2
 obtain ⟨n1, n2⟩ := r3
 obtain ⟨d, d2⟩ := r4
 simp only at LC TC PC RL RT RP HDL
 have t1 : ((0 : Int) != 0) = false := by decide
 have s1 : (l1 == l1) = true := by simp
 have s2 : (l2 == l2) = true := by simp
 have s3 : (m1 == m1) = true := by simp
 have s4 : (m2 == m2) = true := by simp
 have s5 : (n1 == n1) = true := by simp
 have s6 : (n2 == n2) = true := by simp
 have s7 : (d2 == d2) = true := by simp
 clear h hfi hE hE' ok
 go_enter Try.func3, Try.ntmps3
 go_wp2_with (first
  | (go_at_call 8; refine (hg_gram H0.out (by omega) (by omega) (by omega) g HFI.out (fun wr hb => (B0.out wr (H0.out.bel.trans hb)).2.2)).mono ?_; rintro e w1 ⟨x, rfl, hs, hx, ho⟩; obtain ⟨V1, E1, k1⟩ := ho.ex; have A1 : Hid (TW g x w V1 E1 (0 + g.ls.length) (w1.alloc (gBox x)) /\ (w1.alloc (gBox x)).heap[w1.heap.size]? = some (gBox x)) := ⟨TW.later ⟨(B0.out w1 (H0.out.bel.trans ho.bel)).1, (B0.out w1 (H0.out.bel.trans ho.bel)).2.1, k1, hs, hx⟩ (below_alloc _ _), heap_alloc_new _ _⟩; clear hs hx ho k1 x0 x1 x2 x3 x4)
  | (go_at_call 9; refine (LC.out x _ _ _ _ A1.out.1).mono ?_; rintro e w2 ⟨rfl, b2⟩; have A2 : Hid (TW g x w V1 E1 (0 + g.ls.length) w2 /\ w2.heap[w1.heap.size]? = some (gBox x)) := ⟨A1.out.1.later b2, blk_later A1.out.2 b2⟩; clear b2; obtain ⟨y0, y1, y2, y3, y4⟩ := gb_cells A2.out.2)
  | (go_at_call 10; refine (TC.out x _ _ _ _ A2.out.1).mono ?_; rintro e w3 ⟨rfl, b3⟩; have A3 : Hid (TW g x w V1 E1 (0 + g.ls.length) w3 /\ w3.heap[w1.heap.size]? = some (gBox x)) := ⟨A2.out.1.later b3, blk_later A2.out.2 b3⟩; clear b3 y0 y1 y2 y3 y4; obtain ⟨y0, y1, y2, y3, y4⟩ := gb_cells A3.out.2)
  | (go_at_call 11; refine (PC.out x _ _ _ _ A3.out.1).mono ?_; rintro e w4 ⟨rfl, b4⟩; have A4 : Hid (TW g x w V1 E1 (0 + g.ls.length) w4 /\ w4.heap[w1.heap.size]? = some (gBox x)) := ⟨A3.out.1.later b4, blk_later A3.out.2 b4⟩; clear b4 y0 y1 y2 y3 y4; obtain ⟨y0, y1, y2, y3, y4⟩ := gb_cells A4.out.2)
  | (go_at_call 12; refine (DC.out x _ _ _ _ A4.out.1).mono ?_; rintro e w5 ⟨ao, c, rfl, d5', b5⟩; have A5 : Hid (TW g x w V1 E1 (0 + g.ls.length) (w5.alloc (.cells #[.int .i64 d.look, .int .i64 d.kind, .int .i64 d.prod, .slice ao d.drop.length c, .bool d.sd, .int .i64 d.lev] 47)) /\ (w5.alloc (.cells #[.int .i64 d.look, .int .i64 d.kind, .int .i64 d.prod, .slice ao d.drop.length c, .bool d.sd, .int .i64 d.lev] 47)).heap[w5.heap.size]? = some (.cells #[.int .i64 d.look, .int .i64 d.kind, .int .i64 d.prod, .slice ao d.drop.length c, .bool d.sd, .int .i64 d.lev] 47 (0, 0)) /\ InRow (w5.alloc (.cells #[.int .i64 d.look, .int .i64 d.kind, .int .i64 d.prod, .slice ao d.drop.length c, .bool d.sd, .int .i64 d.lev] 47)) ao d.drop) := ⟨(A4.out.1.later b5).later (below_alloc _ _), heap_alloc_new _ _, d5'.row.later (below_alloc _ _)⟩; clear b5 d5' y0 y1 y2 y3 y4; obtain ⟨y0, y1, y2, y3, y4⟩ := gb_cells A5.out.1.box)
  | (go_at_call 13; refine (MY.out _ A5.out.1.bel).mono ?_; rintro e w6 ⟨rfl, b6⟩; have A6 : Hid (TW g x w V1 E1 (0 + g.ls.length) w6 /\ w6.heap[w5.heap.size]? = some (.cells #[.int .i64 d.look, .int .i64 d.kind, .int .i64 d.prod, .slice ao d.drop.length c, .bool d.sd, .int .i64 d.lev] 47 (0, 0)) /\ InRow w6 ao d.drop) := ⟨A5.out.1.later b6, blk_later A5.out.2.1 b6, A5.out.2.2.later b6⟩; clear b6; clear y0 y1 y2 y3 y4)
  | (go_at_call 14; refine (gintact _ V1 tyG E1 w6 A6.out.1.hg.inv A6.out.1.hg.st (by have := A6.out.1.hg.l1; have := HFI.out.ll; omega) (by have := A6.out.1.hg.l2; omega) (by have := A6.out.1.hg.l4; have := HFI.out.pl; omega)).mono ?_; rintro e w7 ⟨rfl, b7⟩; have A7 : Hid (TW g x w V1 E1 (0 + g.ls.length) w7 /\ w7.heap[w5.heap.size]? = some (.cells #[.int .i64 d.look, .int .i64 d.kind, .int .i64 d.prod, .slice ao d.drop.length c, .bool d.sd, .int .i64 d.lev] 47 (0, 0)) /\ InRow w7 ao d.drop) := ⟨A6.out.1.later b7, blk_later A6.out.2.1 b7, A6.out.2.2.later b7⟩; clear b7)
  | (go_at_call 15; refine (works_P w7).mono ?_; rintro e w8 ⟨rfl, b8⟩; have A8 : Hid (TW g x w V1 E1 (0 + g.ls.length) w8 /\ w8.heap[w5.heap.size]? = some (.cells #[.int .i64 d.look, .int .i64 d.kind, .int .i64 d.prod, .slice ao d.drop.length c, .bool d.sd, .int .i64 d.lev] 47 (0, 0)) /\ InRow w8 ao d.drop) := ⟨A7.out.1.later b8, blk_later A7.out.2.1 b8, A7.out.2.2.later b8⟩; clear b8; obtain ⟨y0, y1, y2, y3, y4⟩ := gb_cells A8.out.1.box)
  | (go_at_call 16; refine (num14_P _ _).mono ?_; rintro e wn ⟨rfl, rfl⟩)
  | (go_at_call 18; refine (RL.out _ A8.out.1.bel).mono ?_; rintro e w9 ⟨rfl, b9⟩; clear y0 y1 y2 y3 y4; have A9 : Hid (TW g x w V1 E1 (0 + g.ls.length) w9 /\ w9.heap[w5.heap.size]? = some (.cells #[.int .i64 d.look, .int .i64 d.kind, .int .i64 d.prod, .slice ao d.drop.length c, .bool d.sd, .int .i64 d.lev] 47 (0, 0)) /\ InRow w9 ao d.drop) := ⟨A8.out.1.later b9, blk_later A8.out.2.1 b9, A8.out.2.2.later b9⟩; clear b9; obtain ⟨y0, y1, y2, y3, y4⟩ := gb_cells A9.out.1.box)
  | (go_at_call 19; refine (RT.out _ A9.out.1.bel).mono ?_; rintro e w10 ⟨rfl, b10⟩; clear y0 y1 y2 y3 y4; have A10 : Hid (TW g x w V1 E1 (0 + g.ls.length) w10 /\ w10.heap[w5.heap.size]? = some (.cells #[.int .i64 d.look, .int .i64 d.kind, .int .i64 d.prod, .slice ao d.drop.length c, .bool d.sd, .int .i64 d.lev] 47 (0, 0)) /\ InRow w10 ao d.drop) := ⟨A9.out.1.later b10, blk_later A9.out.2.1 b10, A9.out.2.2.later b10⟩; clear b10; obtain ⟨y0, y1, y2, y3, y4⟩ := gb_cells A10.out.1.box)
  | (go_at_call 20; refine (RP.out _ A10.out.1.bel).mono ?_; rintro e w11 ⟨rfl, b11⟩; clear y0 y1 y2 y3 y4; have A11 : Hid (TW g x w V1 E1 (0 + g.ls.length) w11 /\ w11.heap[w5.heap.size]? = some (.cells #[.int .i64 d.look, .int .i64 d.kind, .int .i64 d.prod, .slice ao d.drop.length c, .bool d.sd, .int .i64 d.lev] 47 (0, 0)) /\ InRow w11 ao d.drop) := ⟨A10.out.1.later b11, blk_later A10.out.2.1 b11, A10.out.2.2.later b11⟩; clear b11; obtain ⟨y0, y1, y2, y3, y4⟩ := gb_cells A11.out.1.box)
  | (go_at_call 21; refine (RD.out _ A11.out.1.bel).mono ?_; rintro e w12 ⟨bo, c2, rfl, d12', b12⟩; clear y0 y1 y2 y3 y4; have A12 : Hid (Below w.heap.size w (w12.alloc (.cells #[.int .i64 d.look, .int .i64 d.kind, .int .i64 d.prod, .slice bo d.drop.length c2, .bool d.sd, .int .i64 d.lev] 47)) /\ InRow (w12.alloc (.cells #[.int .i64 d.look, .int .i64 d.kind, .int .i64 d.prod, .slice bo d.drop.length c2, .bool d.sd, .int .i64 d.lev] 47)) ao d.drop /\ InRow (w12.alloc (.cells #[.int .i64 d.look, .int .i64 d.kind, .int .i64 d.prod, .slice bo d.drop.length c2, .bool d.sd, .int .i64 d.lev] 47)) bo d.drop) := ⟨A11.out.1.bel.trans ((b12.mono A11.out.1.bel.size).trans ((below_alloc _ _).mono (by have := A11.out.1.bel.size; have := b12.size; omega))), (A11.out.2.2.later b12).later (below_alloc _ _), d12'.row.later (below_alloc _ _)⟩; have q5 := blk_later (blk_later A11.out.2.1 b12) (below_alloc w12 (.cells #[.int .i64 d.look, .int .i64 d.kind, .int .i64 d.prod, .slice bo d.drop.length c2, .bool d.sd, .int .i64 d.lev] 47)); have q12 := heap_alloc_new w12 (.cells #[.int .i64 d.look, .int .i64 d.kind, .int .i64 d.prod, .slice bo d.drop.length c2, .bool d.sd, .int .i64 d.lev] 47); have z0 : (w12.alloc (.cells #[.int .i64 d.look, .int .i64 d.kind, .int .i64 d.prod, .slice bo d.drop.length c2, .bool d.sd, .int .i64 d.lev] 47)).cell? ⟨w5.heap.size, 0, none⟩ = some (.int .i64 d.look) := (cellq_any q5).trans rfl; have z1 : (w12.alloc (.cells #[.int .i64 d.look, .int .i64 d.kind, .int .i64 d.prod, .slice bo d.drop.length c2, .bool d.sd, .int .i64 d.lev] 47)).cell? ⟨w5.heap.size, 1, none⟩ = some (.int .i64 d.kind) := (cellq_any q5).trans rfl; have z2 : (w12.alloc (.cells #[.int .i64 d.look, .int .i64 d.kind, .int .i64 d.prod, .slice bo d.drop.length c2, .bool d.sd, .int .i64 d.lev] 47)).cell? ⟨w5.heap.size, 2, none⟩ = some (.int .i64 d.prod) := (cellq_any q5).trans rfl; have z3 : (w12.alloc (.cells #[.int .i64 d.look, .int .i64 d.kind, .int .i64 d.prod, .slice bo d.drop.length c2, .bool d.sd, .int .i64 d.lev] 47)).cell? ⟨w5.heap.size, 3, none⟩ = some (.slice ao d.drop.length c) := (cellq_any q5).trans rfl; have z4 : (w12.alloc (.cells #[.int .i64 d.look, .int .i64 d.kind, .int .i64 d.prod, .slice bo d.drop.length c2, .bool d.sd, .int .i64 d.lev] 47)).cell? ⟨w5.heap.size, 4, none⟩ = some (.bool d.sd) := (cellq_any q5).trans rfl; have z5 : (w12.alloc (.cells #[.int .i64 d.look, .int .i64 d.kind, .int .i64 d.prod, .slice bo d.drop.length c2, .bool d.sd, .int .i64 d.lev] 47)).cell? ⟨w5.heap.size, 5, none⟩ = some (.int .i64 d.lev) := (cellq_any q5).trans rfl; have u0 : (w12.alloc (.cells #[.int .i64 d.look, .int .i64 d.kind, .int .i64 d.prod, .slice bo d.drop.length c2, .bool d.sd, .int .i64 d.lev] 47)).cell? ⟨w12.heap.size, 0, none⟩ = some (.int .i64 d.look) := (cellq_any q12).trans rfl; have u1 : (w12.alloc (.cells #[.int .i64 d.look, .int .i64 d.kind, .int .i64 d.prod, .slice bo d.drop.length c2, .bool d.sd, .int .i64 d.lev] 47)).cell? ⟨w12.heap.size, 1, none⟩ = some (.int .i64 d.kind) := (cellq_any q12).trans rfl; have u2 : (w12.alloc (.cells #[.int .i64 d.look, .int .i64 d.kind, .int .i64 d.prod, .slice bo d.drop.length c2, .bool d.sd, .int .i64 d.lev] 47)).cell? ⟨w12.heap.size, 2, none⟩ = some (.int .i64 d.prod) := (cellq_any q12).trans rfl; have u3 : (w12.alloc (.cells #[.int .i64 d.look, .int .i64 d.kind, .int .i64 d.prod, .slice bo d.drop.length c2, .bool d.sd, .int .i64 d.lev] 47)).cell? ⟨w12.heap.size, 3, none⟩ = some (.slice bo d.drop.length c2) := (cellq_any q12).trans rfl; have u4 : (w12.alloc (.cells #[.int .i64 d.look, .int .i64 d.kind, .int .i64 d.prod, .slice bo d.drop.length c2, .bool d.sd, .int .i64 d.lev] 47)).cell? ⟨w12.heap.size, 4, none⟩ = some (.bool d.sd) := (cellq_any q12).trans rfl; have u5 : (w12.alloc (.cells #[.int .i64 d.look, .int .i64 d.kind, .int .i64 d.prod, .slice bo d.drop.length c2, .bool d.sd, .int .i64 d.lev] 47)).cell? ⟨w12.heap.size, 5, none⟩ = some (.int .i64 d.lev) := (cellq_any q12).trans rfl; clear b12 d12' q5 q12)
  | (go_at_call 17; refine (SM.out d _ ao c bo c2 HDL.out A12.out.2.1 A12.out.2.2).mono ?_; rintro e w13 ⟨rfl, b13⟩; have A13 : Hid (Below w.heap.size w w13) := A12.out.1.trans (b13.mono A12.out.1.size); clear b13))
 go_ret
 exact ⟨rfl, A13.out⟩
theorem levels_walk (g : GV) (p t : Int) (w : World) (h : GAt 140737488355328 w g) (hfi : GFine g) :
  Calls Try.prog 3 #[g.val, .int .i64 p, .int .i64 t] w fun e w' => e = .returned (.bool true) /\ Below w.heap.size w w' := by
 by_cases h0 : (checkG g (checkF g.ts g.ns)).1 = 0
 ·exact levels_ok g p t w h hfi (checkG g (checkF g.ts g.ns)).2 (by rw [<- h0])
 ·exact levels_no g p t w h hfi _ _ rfl h0
end Go.Proofs.Ytlkkllehaabebaa
