import Derived.Test.YtohgnodjdolcnaaPTF1
import Derived.Test.YtohgnodjdolcnaaPFThyToFSame
namespace Go.Proofs.Ytohgnodjdolcnaa
set_option linter.unusedVariables false
set_option maxRecDepth 100000
set_option maxHeartbeats 16000000
open Go.RowKit
theorem lsrow_getT {w : World} {nb k : Nat} {L : List (List Int)} (h : LsRow w (some ⟨nb, 0, none⟩) L) (hk : k < L.length) : nb < w.heap.size /\ ∃ a c, w.cell? ⟨nb, k, none⟩ = some (.slice a (L.getD k []).length c) /\ InRow w a (L.getD k []) := by
 obtain ⟨b, off, e, hb, hc⟩ := h (by intro q; rw [q] at hk; simp at hk)
 simp only [Option.some.injEq, Addr.mk.injEq] at e
 obtain ⟨rfl, rfl, _⟩ := e
 have := hc k hk
 rw [Nat.zero_add] at this
 exact ⟨hb, this⟩
theorem null_clos {g : GV} (hg : GP g) : ClosN (nullU g.ps g.ns.length) g.ps := fun p hp h => (nullU_iff _).2 (htU_closed g.ps g.ns.length hg.left p hp (fun s hs => ⟨(h s hs).1, (nullU_iff _).1 (h s hs).2⟩))
set_option linter.unusedSimpArgs false in
theorem follows_loop (g : GV) (t : TV) (w : World) (h : GAt 140737488355328 w g) (hpc : g.ps.length <= g.pc) (ht : TAt w t) (hsz : (plT 0 t).length <= 100000000) (at_ : Int) (hE : checkG g (checkF g.ts g.ns) = (0, at_)) :
  Calls Try.prog 4 #[g.val, t.val] w fun e w' => e = .returned (.bool true) /\ Below w.heap.size w w' := by
 have ok : OkC g := OkC.of (by rw [hE])
 have hpl := h.pl
 have X0 : Hid (Below w.heap.size w ((w.alloc (gBox g)).alloc (tBox t)) /\ ((w.alloc (gBox g)).alloc (tBox t)).heap[w.heap.size]? = some (gBox g) /\ ((w.alloc (gBox g)).alloc (tBox t)).heap[w.heap.size + 1]? = some (tBox t)) := two_gt w g t
 have FC : Hid (∀ w', Below w.heap.size w w' -> Calls Try.prog 17 #[g.val] w' fun e w'' => ∃ b F E, LeastF g F /\ LstW g F E /\ e = .returned (.tuple #[.slice (some ⟨b, 0, none⟩) g.ns.length g.ns.length, .int .i64 0]) /\ LLk w'' b (listsU E) g.ns.length /\ w'.heap.size <= b /\ Below w'.heap.size w' w'') := fun w' hb => follow_ok g w' (h.later hb) hpc at_ hE
 have MC : Hid (∀ w', Below w.heap.size w w' -> Calls Try.prog 8 #[g.val] w' fun e w'' => e = .returned (.int .i64 0) /\ Below w'.heap.size w' w'') := fun w' hb => by
  have := refmay_G g w' (h.later hb)
  rwa [hE] at this
 have CC : Hid (∀ w', Below w.heap.size w w' -> Calls Try.prog 10 #[g.val, t.val] w' fun e w'' => e = .returned (.tuple #[.int .i64 (runU g (ckT g (0, 0) false t) 0).1, .int .i64 ((runU g (ckT g (0, 0) false t) 0).2 : Int)]) /\ Below w'.heap.size w' w'') := fun w' hb => check_S g t w' (h.later hb) (ht.later hb) hsz
 have LC : Hid (∀ w', Below w.heap.size w w' -> Calls Try.prog 18 #[t.val] w' fun e w'' => ∃ a c, e = .returned (.slice a (plT 0 t).length c) /\ FLo w'' (.slice a (plT 0 t).length c) (plT 0 t) /\ (∀ j, (Value.slice a (plT 0 t).length c).ownBlock = some j -> w'.heap.size < j) /\ Below w'.heap.size w' w'') := fun w' hb => flatten_S t w' (ht.later hb) hsz
 have HGA : Hid (∀ w', Below w.heap.size w w' -> GAt 140737488355328 w' g) := fun w' hb => h.later hb
 have HGP : Hid (GP g) := (ok.fg h).gp
 have HRT : Hid ((runU g (ckT g (0, 0) false t) 0).1 = 0 -> RT g t) := fun e => RT.of t _ _ (runU_zero _ _ e)
 have HSZ : Hid ((plT 0 t).length <= 100000000) := hsz
 have hnl := ok.nl.2
 have htl := (ok.fg h).gp.tl
 have HLE : Hid (∀ F E, LstW g F E -> (listsU E).length = g.ns.length) := fun F E hE => by simp [listsU, hE.len]
 have t1 : ((0 : Int) != 0) = false := by decide
 clear h ht hsz hE ok
 generalize (runU g (ckT g (0, 0) false t) 0).1 = bad at *
 generalize ((runU g (ckT g (0, 0) false t) 0).2 : Int) = cnt at *
 go_enter Try.func4, Try.ntmps4
 go_wp2_with (first
  | (go_at_call 5; refine (works_S _).mono ?_; rintro e w1 ⟨rfl, b1⟩; have B1 : Hid (Below w.heap.size w w1 /\ w1.heap[w.heap.size]? = some (gBox g) /\ w1.heap[w.heap.size + 1]? = some (tBox t)) := ⟨X0.out.1.trans (b1.mono X0.out.1.size), tbox_on X0.out.2.1 b1, tbox_on X0.out.2.2 b1⟩; clear b1; obtain ⟨x0, x1, x2, x3, x4⟩ := gb_cells B1.out.2.1)
  | (go_at_call 17; refine (FC.out _ B1.out.1).mono ?_; rintro e w3 ⟨fb, F, E, hF, hEE, rfl, n3, -, b3⟩; have HF : Hid (LeastF g F /\ LstW g F E) := ⟨hF, hEE⟩; have B3 : Hid (Below w.heap.size w w3 /\ w3.heap[w.heap.size]? = some (gBox g) /\ w3.heap[w.heap.size + 1]? = some (tBox t) /\ LsRow w3 (some ⟨fb, 0, none⟩) (listsU E)) := ⟨B1.out.1.trans (b3.mono B1.out.1.size), tbox_on B1.out.2.1 b3, tbox_on B1.out.2.2 b3, LLk.row (by rw [HLE.out F E hEE]; exact n3)⟩; clear b3 n3 hF hEE x0 x1 x2 x3 x4; obtain ⟨x0, x1, x2, x3, x4⟩ := gb_cells B3.out.2.1)
  | (go_at_call 8; refine (MC.out _ B3.out.1).mono ?_; rintro e w5 ⟨rfl, b5⟩; have B5 : Hid (Below w.heap.size w w5 /\ w5.heap[w.heap.size]? = some (gBox g) /\ w5.heap[w.heap.size + 1]? = some (tBox t) /\ LsRow w5 (some ⟨fb, 0, none⟩) (listsU E)) := ⟨B3.out.1.trans (b5.mono B3.out.1.size), tbox_on B3.out.2.1 b5, tbox_on B3.out.2.2.1 b5, B3.out.2.2.2.later b5⟩; clear b5 x0 x1 x2 x3 x4; obtain ⟨x0, x1, x2, x3, x4⟩ := gb_cells B5.out.2.1; obtain ⟨y0, y1, y2, y3⟩ := tb_cells B5.out.2.2.1)
  | (go_at_call 10; refine (CC.out _ B5.out.1).mono ?_; rintro e w6 ⟨rfl, b6⟩; have B6 : Hid (Below w.heap.size w w6 /\ w6.heap[w.heap.size]? = some (gBox g) /\ w6.heap[w.heap.size + 1]? = some (tBox t) /\ LsRow w6 (some ⟨fb, 0, none⟩) (listsU E)) := ⟨B5.out.1.trans (b6.mono B5.out.1.size), tbox_on B5.out.2.1 b6, tbox_on B5.out.2.2.1 b6, B5.out.2.2.2.later b6⟩; clear b6 x0 x1 x2 x3 x4 y0 y1 y2 y3))
 clear X0 B1 B3 B5
 have KB : Hid (∀ w', w'.heap[w.heap.size]? = some (gBox g) -> w'.heap[w.heap.size + 1]? = some (tBox t) -> (fun w' : World => (w'.cell? ⟨w.heap.size, 2, none⟩ = some (.int .i64 g.start) /\ w'.cell? ⟨w.heap.size, 3, none⟩ = some (.slice g.pa g.ps.length g.pc)) /\ w'.cell? ⟨w.heap.size + 1, 0, none⟩ = some (.int .i64 t.prod)) w') := fun w' h1 h2 => by
  obtain ⟨x0, x1, x2, x3, x4⟩ := gb_cells h1
  exact ⟨⟨x2, x3⟩, (tb_cells h2).1⟩
 by_cases hbad : bad = 0
 ·subst hbad
  have hrt := HRT.out rfl
  have HR : Hid (RT g t) := hrt
  by_cases hneg : t.prod < 0
  ·have hs : Hid ((fun w' : World => (w'.cell? ⟨w.heap.size, 2, none⟩ = some (.int .i64 g.start) /\ w'.cell? ⟨w.heap.size, 3, none⟩ = some (.slice g.pa g.ps.length g.pc)) /\ w'.cell? ⟨w.heap.size + 1, 0, none⟩ = some (.int .i64 t.prod)) w6.drew) := KB.out _ B6.out.2.1 B6.out.2.2.1
   have d1 : decide (t.prod < 0) = true := decide_eq_true hneg
   clear hrt HRT
   refine wp_region_x (S := fun _ => (fun w' : World => (w'.cell? ⟨w.heap.size, 2, none⟩ = some (.int .i64 g.start) /\ w'.cell? ⟨w.heap.size, 3, none⟩ = some (.slice g.pa g.ps.length g.pc)) /\ w'.cell? ⟨w.heap.size + 1, 0, none⟩ = some (.int .i64 t.prod))) (by kernel_rfl) ?_
   refine takeF (i := 0) (v := ?_) rfl (by kernel_rfl) (by decide +kernel) (by decide +kernel) (fun _ _ _ h => h) (Or.inl ⟨by rfl, ?_⟩) hs.out ?_
   rotate_left
   ·(intro w hSw; (try dsimp only at hSw); go_simp; try (with_reducible rfl))
   (try simp only [Act.put, lsA, lsZ, lsN])
   refine takeF (i := 1) (v := ?_) rfl (by kernel_rfl) (by decide +kernel) (by decide +kernel) (fun _ _ _ h => h) (Or.inl ⟨by rfl, ?_⟩) hs.out ?_
   rotate_left
   ·(intro w hSw; (try dsimp only at hSw); go_simp; try (with_reducible rfl))
   (try simp only [Act.put, lsA, lsZ, lsN])
   refine takeF (i := 2) (v := ?_) rfl (by kernel_rfl) (by decide +kernel) (by decide +kernel) (fun _ _ _ h => h) (Or.inl ⟨by rfl, ?_⟩) hs.out ?_
   rotate_left
   ·(intro w hSw; (try dsimp only at hSw); go_simp; try (with_reducible rfl))
   (try simp only [Act.put, lsA, lsZ, lsN])
   refine takeF (i := 3) (v := ?_) rfl (by kernel_rfl) (by decide +kernel) (by decide +kernel) (fun _ _ _ h => h) (Or.inl ⟨by rfl, ?_⟩) hs.out ?_
   rotate_left
   ·(intro w hSw; (try dsimp only at hSw); go_simp; try (with_reducible rfl))
   (try simp only [Act.put, lsA, lsZ, lsN])
   refine takeF (i := 4) (v := ?_) rfl (by kernel_rfl) (by decide +kernel) (by decide +kernel) (fun _ _ _ h => h) (Or.inl ⟨by rfl, ?_⟩) hs.out ?_
   rotate_left
   ·(intro w hSw; (try dsimp only at hSw); go_simp; try (with_reducible rfl))
   (try simp only [Act.put, lsA, lsZ, lsN])
   refine takeF (i := 5) (v := ?_) rfl (by kernel_rfl) (by decide +kernel) (by decide +kernel) (fun _ _ _ h => h) (Or.inl ⟨by rfl, ?_⟩) hs.out ?_
   rotate_left
   ·(intro w hSw; (try dsimp only at hSw); go_simp; try (with_reducible rfl))
   (try simp only [Act.put, lsA, lsZ, lsN])
   refine takeF (i := 6) (v := ?_) rfl (by kernel_rfl) (by decide +kernel) (by decide +kernel) (fun _ _ _ h => h) (Or.inl ⟨by rfl, ?_⟩) hs.out ?_
   rotate_left
   ·(intro w hSw; (try dsimp only at hSw); go_simp; try (with_reducible rfl))
   (try simp only [Act.put, lsA, lsZ, lsN])
   refine takeF (i := 7) (v := ?_) rfl (by kernel_rfl) (by decide +kernel) (by decide +kernel) (fun _ _ _ h => h) (Or.inl ⟨by rfl, ?_⟩) hs.out ?_
   rotate_left
   ·(intro w hSw; (try dsimp only at hSw); go_simp; try (with_reducible rfl))
   (try simp only [Act.put, lsA, lsZ, lsN])
   refine takeF (i := 8) (v := undef) rfl (by kernel_rfl) (by decide +kernel) (by decide +kernel) (fun _ _ _ h => h) (Or.inr ⟨by rfl, rfl⟩) hs.out ?_
   (try simp only [Act.put, lsA, lsZ, lsN])
   refine takeF (i := 9) (v := undef) rfl (by kernel_rfl) (by decide +kernel) (by decide +kernel) (fun _ _ _ h => h) (Or.inr ⟨by rfl, rfl⟩) hs.out ?_
   (try simp only [Act.put, lsA, lsZ, lsN])
   refine takeF (i := 10) (v := undef) rfl (by kernel_rfl) (by decide +kernel) (by decide +kernel) (fun _ _ _ h => h) (Or.inr ⟨by rfl, rfl⟩) hs.out ?_
   (try simp only [Act.put, lsA, lsZ, lsN])
   refine takeF (i := 11) (v := undef) rfl (by kernel_rfl) (by decide +kernel) (by decide +kernel) (fun _ _ _ h => h) (Or.inr ⟨by rfl, rfl⟩) hs.out ?_
   (try simp only [Act.put, lsA, lsZ, lsN])
   refine takeF (i := 12) (v := undef) rfl (by kernel_rfl) (by decide +kernel) (by decide +kernel) (fun _ _ _ h => h) (Or.inr ⟨by rfl, rfl⟩) hs.out ?_
   (try simp only [Act.put, lsA, lsZ, lsN])
   refine takeF (i := 13) (v := undef) rfl (by kernel_rfl) (by decide +kernel) (by decide +kernel) (fun _ _ _ h => h) (Or.inr ⟨by rfl, rfl⟩) hs.out ?_
   (try simp only [Act.put, lsA, lsZ, lsN])
   refine takeF (i := 14) (v := undef) rfl (by kernel_rfl) (by decide +kernel) (by decide +kernel) (fun _ _ _ h => h) (Or.inr ⟨by rfl, rfl⟩) hs.out ?_
   (try simp only [Act.put, lsA, lsZ, lsN])
   refine takeF (i := 15) (v := undef) rfl (by kernel_rfl) (by decide +kernel) (by decide +kernel) (fun _ _ _ h => h) (Or.inr ⟨by rfl, rfl⟩) hs.out ?_
   (try simp only [Act.put, lsA, lsZ, lsN])
   refine takeF (i := 16) (v := undef) rfl (by kernel_rfl) (by decide +kernel) (by decide +kernel) (fun _ _ _ h => h) (Or.inr ⟨by rfl, rfl⟩) hs.out ?_
   (try simp only [Act.put, lsA, lsZ, lsN])
   refine takeF (i := 17) (v := undef) rfl (by kernel_rfl) (by decide +kernel) (by decide +kernel) (fun _ _ _ h => h) (Or.inr ⟨by rfl, rfl⟩) hs.out ?_
   (try simp only [Act.put, lsA, lsZ, lsN])
   refine takeF (i := 18) (v := ?_) rfl (by kernel_rfl) (by decide +kernel) (by decide +kernel) (fun _ _ _ h => h) (Or.inl ⟨by rfl, ?_⟩) hs.out ?_
   rotate_left
   ·(intro w hSw; (try dsimp only at hSw); go_simp; try (with_reducible rfl))
   (try simp only [Act.put, lsA, lsZ, lsN])
   refine wpAnyX_done (by decide +kernel) ?_
   clear hs
   go_wp2
   go_ret
   exact ⟨rfl, B6.out.1.drew⟩
  ·have hpr := hrt.prodB (by omega)
   obtain ⟨jn, hjn⟩ : ∃ jn : Nat, t.prod = (jn : Int) := ⟨t.prod.toNat, by omega⟩
   have hjl : jn < g.ps.length := by omega
   obtain ⟨pb, po, hpa, -, -⟩ := ps_cells (HGA.out _ B6.out.1) hjl
   obtain ⟨lf, hlf⟩ : ∃ lf, (g.ps.getD jn .none).left = lf := ⟨_, rfl⟩
   have HLF : Hid (rootU g t = (2, lf)) := by
    show _ = _
    rw [root_node hpr.1 hpr.2, hjn, <- hlf]
    rfl
   have hs : Hid ((fun w' : World => (w'.cell? ⟨w.heap.size, 2, none⟩ = some (.int .i64 g.start) /\ w'.cell? ⟨w.heap.size, 3, none⟩ = some (.slice (some ⟨pb, po, none⟩) g.ps.length g.pc)) /\ w'.cell? ⟨w.heap.size + 1, 0, none⟩ = some (.int .i64 (jn : Int)) /\ w'.cell? ⟨pb, po + jn * 3, none⟩ = some (.int .i64 lf)) w6.drew) := by
    obtain ⟨⟨z2, z3⟩, z0⟩ := KB.out _ B6.out.2.1 B6.out.2.2.1
    obtain ⟨pb', po', hpa', -, c0, -⟩ := ps_cells (HGA.out _ B6.out.1) hjl
    rw [hpa] at hpa' z3
    simp only [Option.some.injEq, Addr.mk.injEq, and_true] at hpa'
    obtain ⟨rfl, rfl⟩ := hpa'
    rw [hjn] at z0
    rw [hlf] at c0
    exact ⟨⟨z2, z3⟩, z0, c0⟩
   have d1 : decide ((jn : Int) < 0) = false := decide_eq_false (by omega)
   have jlt : (jn : Int) < (g.ps.length : Int) := by omega
   have HPA : Hid (g.pa = some ⟨pb, po, none⟩) := hpa
   clear hneg hrt hpr hjn hpa hlf KB HRT
   refine wp_region_x (S := fun _ => (fun w' : World => (w'.cell? ⟨w.heap.size, 2, none⟩ = some (.int .i64 g.start) /\ w'.cell? ⟨w.heap.size, 3, none⟩ = some (.slice (some ⟨pb, po, none⟩) g.ps.length g.pc)) /\ w'.cell? ⟨w.heap.size + 1, 0, none⟩ = some (.int .i64 (jn : Int)) /\ w'.cell? ⟨pb, po + jn * 3, none⟩ = some (.int .i64 lf))) (by kernel_rfl) ?_
   refine takeF (i := 0) (v := ?_) rfl (by kernel_rfl) (by decide +kernel) (by decide +kernel) (fun _ _ _ h => h) (Or.inl ⟨by rfl, ?_⟩) hs.out ?_
   rotate_left
   ·(intro w hSw; (try dsimp only at hSw); go_simp; try (with_reducible rfl))
   (try simp only [Act.put, lsA, lsZ, lsN])
   refine takeF (i := 1) (v := ?_) rfl (by kernel_rfl) (by decide +kernel) (by decide +kernel) (fun _ _ _ h => h) (Or.inl ⟨by rfl, ?_⟩) hs.out ?_
   rotate_left
   ·(intro w hSw; (try dsimp only at hSw); go_simp; try (with_reducible rfl))
   (try simp only [Act.put, lsA, lsZ, lsN])
   refine takeF (i := 2) (v := ?_) rfl (by kernel_rfl) (by decide +kernel) (by decide +kernel) (fun _ _ _ h => h) (Or.inl ⟨by rfl, ?_⟩) hs.out ?_
   rotate_left
   ·(intro w hSw; (try dsimp only at hSw); go_simp; try (with_reducible rfl))
   (try simp only [Act.put, lsA, lsZ, lsN])
   refine takeF (i := 3) (v := ?_) rfl (by kernel_rfl) (by decide +kernel) (by decide +kernel) (fun _ _ _ h => h) (Or.inl ⟨by rfl, ?_⟩) hs.out ?_
   rotate_left
   ·(intro w hSw; (try dsimp only at hSw); go_simp; try (with_reducible rfl))
   (try simp only [Act.put, lsA, lsZ, lsN])
   refine takeF (i := 4) (v := ?_) rfl (by kernel_rfl) (by decide +kernel) (by decide +kernel) (fun _ _ _ h => h) (Or.inl ⟨by rfl, ?_⟩) hs.out ?_
   rotate_left
   ·(intro w hSw; (try dsimp only at hSw); go_simp; try (with_reducible rfl))
   (try simp only [Act.put, lsA, lsZ, lsN])
   refine takeF (i := 5) (v := ?_) rfl (by kernel_rfl) (by decide +kernel) (by decide +kernel) (fun _ _ _ h => h) (Or.inl ⟨by rfl, ?_⟩) hs.out ?_
   rotate_left
   ·(intro w hSw; (try dsimp only at hSw); go_simp; try (with_reducible rfl))
   (try simp only [Act.put, lsA, lsZ, lsN])
   refine takeF (i := 6) (v := ?_) rfl (by kernel_rfl) (by decide +kernel) (by decide +kernel) (fun _ _ _ h => h) (Or.inl ⟨by rfl, ?_⟩) hs.out ?_
   rotate_left
   ·(intro w hSw; (try dsimp only at hSw); go_simp; try (with_reducible rfl))
   (try simp only [Act.put, lsA, lsZ, lsN])
   refine takeF (i := 7) (v := ?_) rfl (by kernel_rfl) (by decide +kernel) (by decide +kernel) (fun _ _ _ h => h) (Or.inl ⟨by rfl, ?_⟩) hs.out ?_
   rotate_left
   ·(intro w hSw; (try dsimp only at hSw); go_simp; try (with_reducible rfl))
   (try simp only [Act.put, lsA, lsZ, lsN])
   refine takeF (i := 8) (v := ?_) rfl (by kernel_rfl) (by decide +kernel) (by decide +kernel) (fun _ _ _ h => h) (Or.inl ⟨by rfl, ?_⟩) hs.out ?_
   rotate_left
   ·(intro w hSw; (try dsimp only at hSw); go_simp; try (with_reducible rfl))
   (try simp only [Act.put, lsA, lsZ, lsN])
   refine takeF (i := 9) (v := ?_) rfl (by kernel_rfl) (by decide +kernel) (by decide +kernel) (fun _ _ _ h => h) (Or.inl ⟨by rfl, ?_⟩) hs.out ?_
   rotate_left
   ·(intro w hSw; (try dsimp only at hSw); go_simp; try (with_reducible rfl))
   (try simp only [Act.put, lsA, lsZ, lsN])
   refine takeF (i := 10) (v := ?_) rfl (by kernel_rfl) (by decide +kernel) (by decide +kernel) (fun _ _ _ h => h) (Or.inl ⟨by rfl, ?_⟩) hs.out ?_
   rotate_left
   ·(intro w hSw; (try dsimp only at hSw); go_simp; try (with_reducible rfl))
   (try simp only [Act.put, lsA, lsZ, lsN])
   refine takeF (i := 11) (v := ?_) rfl (by kernel_rfl) (by decide +kernel) (by decide +kernel) (fun _ _ _ h => h) (Or.inl ⟨by rfl, ?_⟩) hs.out ?_
   rotate_left
   ·(intro w hSw; (try dsimp only at hSw); go_simp; try (with_reducible rfl))
   (try simp only [Act.put, lsA, lsZ, lsN])
   refine takeF (i := 12) (v := ?_) rfl (by kernel_rfl) (by decide +kernel) (by decide +kernel) (fun _ _ _ h => h) (Or.inl ⟨by rfl, ?_⟩) hs.out ?_
   rotate_left
   ·(intro w hSw; (try dsimp only at hSw); go_simp; try (with_reducible rfl))
   (try simp only [Act.put, lsA, lsZ, lsN])
   refine takeF (i := 13) (v := ?_) rfl (by kernel_rfl) (by decide +kernel) (by decide +kernel) (fun _ _ _ h => h) (Or.inl ⟨by rfl, ?_⟩) hs.out ?_
   rotate_left
   ·(intro w hSw; (try dsimp only at hSw); go_simp; try (with_reducible rfl))
   (try simp only [Act.put, lsA, lsZ, lsN])
   refine takeF (i := 14) (v := ?_) rfl (by kernel_rfl) (by decide +kernel) (by decide +kernel) (fun _ _ _ h => h) (Or.inl ⟨by rfl, ?_⟩) hs.out ?_
   rotate_left
   ·(intro w hSw; (try dsimp only at hSw); go_simp; try (with_reducible rfl))
   (try simp only [Act.put, lsA, lsZ, lsN])
   refine takeF (i := 15) (v := ?_) rfl (by kernel_rfl) (by decide +kernel) (by decide +kernel) (fun _ _ _ h => h) (Or.inl ⟨by rfl, ?_⟩) hs.out ?_
   rotate_left
   ·(intro w hSw; (try dsimp only at hSw); go_simp; try (with_reducible rfl))
   (try simp only [Act.put, lsA, lsZ, lsN])
   refine takeF (i := 16) (v := ?_) rfl (by kernel_rfl) (by decide +kernel) (by decide +kernel) (fun _ _ _ h => h) (Or.inl ⟨by rfl, ?_⟩) hs.out ?_
   rotate_left
   ·(intro w hSw; (try dsimp only at hSw); go_simp; try (with_reducible rfl))
   (try simp only [Act.put, lsA, lsZ, lsN])
   refine takeF (i := 17) (v := ?_) rfl (by kernel_rfl) (by decide +kernel) (by decide +kernel) (fun _ _ _ h => h) (Or.inl ⟨by rfl, ?_⟩) hs.out ?_
   rotate_left
   ·(intro w hSw; (try dsimp only at hSw); go_simp; try (with_reducible rfl))
   (try simp only [Act.put, lsA, lsZ, lsN])
   by_cases hst : lf = g.start
   ·have e5 : (lf != g.start) = false := by rw [hst]; simp
    have HST : Hid (lf = g.start) := hst
    clear hst
    rw [e5]
    clear e5
    refine takeF (i := 18) (v := ?_) rfl (by kernel_rfl) (by decide +kernel) (by decide +kernel) (fun _ _ _ h => h) (Or.inl ⟨by rfl, ?_⟩) hs.out ?_
    rotate_left
    ·(intro w hSw; (try dsimp only at hSw); go_simp; try (with_reducible rfl))
    (try simp only [Act.put, lsA, lsZ, lsN])
    refine wpAnyX_done (by decide +kernel) ?_
    have B7 : Hid (Below w.heap.size w w6.drew /\ w6.drew.heap[w.heap.size]? = some (gBox g) /\ w6.drew.heap[w.heap.size + 1]? = some (tBox t) /\ LsRow w6.drew (some ⟨fb, 0, none⟩) (listsU E)) := ⟨B6.out.1.drew, B6.out.2.1, B6.out.2.2.1, B6.out.2.2.2.later (Below.refl _ _).drew⟩
    clear hs B6
    generalize w6.drew = w7 at *
    obtain ⟨y0, y1, y2, y3⟩ := tb_cells B7.out.2.2.1
    have HPL : Hid (∀ i, i < (plT 0 t).length -> Beh g E (plT 0 t) [] i) := RT.beh HGP.out (null_clos HGP.out) (HF.out.1.closed HGP.out) HF.out.2.cl t HR.out 0 [] (by show g.ts.length < 128; omega) (fun _ => by
     rw [HLF.out, HST.out]
     exact HF.out.2.st)
    have HPR : Hid (∀ y ∈ plT 0 t, RT g y.t) := HR.out.places t 0
    obtain ⟨P, hP⟩ : ∃ P, plT 0 t = P := ⟨_, rfl⟩
    rw [hP] at HPL HPR LC HSZ
    clear hP
    go_wp2_with (go_at_call 18; refine (LC.out _ B7.out.1).mono ?_; rintro e w8 ⟨la, lc, rfl, f8, -, b8⟩; have W8 : Hid (FFw g t w fb E la lc P w8) := ⟨B7.out.2.2.2.later b8, f8, tbox_on B7.out.2.1 b8, B7.out.1.trans (b8.mono B7.out.1.size)⟩; clear b8 f8 y0 y1 y2 y3)
    clear B7
    clear FC MC CC LC jlt d1 hjl
    go_loopw [10] (fun z wr => ∃ i : Nat, i <= P.length /\ z = .int .i64 i /\ FFw g t w fb E la lc P wr) (fun z _ => P.length - (intOf z).toNat)
    case atStart => exact ⟨0, Nat.zero_le _, rfl, W8.out⟩
    case round =>
     clear W8
     obtain ⟨i, hi, rfl, hF⟩ := hrel
     have hPb := HSZ.out
     by_cases hlt : i < P.length
     ·have ilt : (i : Int) < (P.length : Int) := by omega
      obtain ⟨lb, c', hv, -, -⟩ := RO.cell (f := flCells) (fun _ => rfl) hF.fl hlt
      simp only [Value.slice.injEq, true_and] at hv
      obtain ⟨hla, -⟩ := hv
      subst hla
      obtain ⟨l1, x, d, l2, hPd, hl1, hrx, hfol⟩ := HPL.out i hlt
      rw [List.append_nil] at hfol
      have hdrop : P.drop i = plT d x ++ l2 := by rw [hPd, <- hl1, List.append_assoc, List.drop_left]
      have hPi : P[i]? = some ⟨x, d, (0, 0), false⟩ := by
       have e := hdrop
       rw [plT_eq] at e
       exact (drop_cons e).2.1
      obtain ⟨c0, -, -⟩ := hF.at rfl hPi
      have HF0 : Hid (FFw g t w fb E (some ⟨lb, 0, none⟩) lc P wr) := hF
      by_cases hxp : x.prod = -1
      ·have e0 : (x.prod == -1) = true := by simpa using hxp
       clear hxp hfol hPi hdrop hPd hF
       dsimp only at c0
       go_wp2
       go_roundw
       case rel => exact ⟨i + 1, by omega, by go_num, HF0.out⟩
       case measure => simp [intOf]; omega
      ·have e0 : (x.prod == -1) = false := by simpa using hxp
       have hxb := hrx.prodB hxp
       have hfo := hfol hxp
       rw [root_node hxb.1 hxb.2] at hfo
       obtain ⟨jx, hjx0⟩ : ∃ jx : Nat, x.prod = (jx : Int) := ⟨x.prod.toNat, by omega⟩
       have hjxl : jx < g.ps.length := by omega
       rw [hjx0, Int.toNat_natCast] at hfo
       have hlb := HGP.out.left _ (psD hjxl)
       obtain ⟨mx, hmx0⟩ : ∃ mx : Nat, (g.ps.getD jx .none).left = (mx : Int) := ⟨(g.ps.getD jx .none).left.toNat, by omega⟩
       rw [hmx0] at hfo hlb
       simp only [Int.toNat_natCast] at hfo
       have hmxl : mx < g.ns.length := by omega
       have HFOL : Hid (hasS (E.getD mx (0, 0)) (tokN g l2) = true) := hfo
       have HJX : Hid (x.prod = (jx : Int)) := hjx0
       have HLX : Hid ((g.ps.getD jx .none).left = (mx : Int)) := hmx0
       have HPI : Hid (P[i]? = some ⟨x, d, (0, 0), false⟩) := hPi
       have HDR : Hid (P.drop i = plS [⟨x, d, (0, 0), false⟩] ++ l2) := by
        show _ = _
        rw [hdrop]
        simp [plS]
       dsimp only at c0
       clear hxp hfol hfo hjx0 hmx0 hPi hdrop hPd hrx hxb hlb hF hl1
       obtain ⟨wy, rfl⟩ : ∃ wy : World, wy = wr := ⟨_, rfl⟩
       go_wp2
       clear c0 e0
       go_loopw [11, 12] (fun z1 z2 wr => ∃ (e : Nat) (K : List SP), z1 = .int .i64 (e : Int) /\ z2 = .int .i64 (K.length : Int) /\ e <= P.length /\ P.drop e = plS K ++ l2 /\ (∀ y ∈ K, y.s = (0, 0) /\ y.u = false) /\ FFw g t w fb E (some ⟨lb, 0, none⟩) lc P wr) (fun z _ _ => P.length - (intOf z).toNat)
       case atStart => exact ⟨i, [⟨x, d, (0, 0), false⟩], rfl, rfl, hi, HDR.out, fun y hy => by obtain rfl := List.mem_singleton.1 hy; exact ⟨rfl, rfl⟩, HF0.out⟩
       case round =>
        clear HF0 HDR
        obtain ⟨e, K, rfl, rfl, he, hdr, hK, hF⟩ := hrel
        rcases K with _ | ⟨y, K'⟩
        ·have HD2 : Hid (tokN g (P.drop e) = tokN g l2) := by
          show _ = _
          rw [hdr]
          rfl
         have HF0 : Hid (FFw g t w fb E (some ⟨lb, 0, none⟩) lc P wr) := hF
         obtain ⟨g0, -, -, -, -⟩ := gb_cells hF.box
         clear hdr hK hF
         obtain ⟨wv, rfl⟩ : ∃ wv : World, wv = wr := ⟨_, rfl⟩
         go_wp2
         clear g0
         go_loopw [13, 14] (fun z1 z2 wr => ∃ k : Nat, z1 = .int .i64 (g.ts.length : Int) /\ z2 = .int .i64 (k : Int) /\ k <= P.length /\ tokN g (P.drop k) = tokN g l2 /\ FFw g t w fb E (some ⟨lb, 0, none⟩) lc P wr) (fun _ z _ => P.length - (intOf z).toNat)
         case atStart => exact ⟨e, rfl, rfl, he, HD2.out, HF0.out⟩
         case round =>
          clear HF0 HD2
          obtain ⟨k, rfl, rfl, hk, hto, hF⟩ := hrel
          by_cases hkl : k < P.length
          ·have klt : (k : Int) < (P.length : Int) := by omega
           obtain ⟨y, hy⟩ : ∃ y, P[k] = y := ⟨_, rfl⟩
           have hyr : RT g y.t := by rw [<- hy]; exact HPR.out _ (List.getElem_mem hkl)
           have hyk : P[k]? = some y := by rw [<- hy]; exact List.getElem?_eq_getElem hkl
           have hdk : P.drop k = y :: P.drop (k + 1) := by rw [<- hy]; exact List.drop_eq_getElem_cons hkl
           obtain ⟨c0, c1, -⟩ := hF.at rfl hyk
           by_cases hyp : y.t.prod = -1
           ·have e0 : (y.t.prod == -1) = true := by simpa using hyp
            have hkb := hyr.kindB hyp
            have htk : tokN g l2 = y.t.kind.toNat := by rw [<- hto, hdk]; unfold tokN; rw [lv_cons, if_pos hyp]
            clear hyp hyr hyk hy hto hdk
            obtain ⟨hfl, ea, ec, cE, hrowE⟩ := lsrow_getT hF.ls (k := mx) (by rw [HLE.out F E HF.out.2]; omega)
            have hEl : (listsU E).getD mx [] = listS (E.getD mx (0, 0)) 128 := by simp [listsU, List.getD, show mx < E.length by rw [HF.out.2.len]; omega]
            have hin : inL ((listsU E).getD mx []) y.t.kind = true := by
             rw [hEl]
             refine List.any_eq_true.2 ⟨y.t.kind, (listS_mem _ _ _).2 ⟨by omega, by omega, ?_⟩, by simp⟩
             have q := HFOL.out
             rw [htk] at q
             exact q
            have hell : ((listsU E).getD mx []).length <= 128 := by rw [hEl]; exact listS_len _ _
            have IN5 : Hid (∀ w', Below wr.heap.size wr w' -> Calls Try.prog 16 #[.slice ea ((listsU E).getD mx []).length ec, .int .i64 y.t.kind] w' fun e w'' => e = .returned (.bool true) /\ Below w'.heap.size w' w'') := fun w' hb => by
             have := in_S ea ec ((listsU E).getD mx []) y.t.kind w' (hrowE.later hb) (by omega)
             rwa [hin] at this
            have KS5 : Hid (∀ w', Below wr.heap.size wr w' -> FFw g t w fb E (some ⟨lb, 0, none⟩) lc P w' -> (fun w' : World => (w'.cell? ⟨w.heap.size, 3, none⟩ = some (.slice (some ⟨pb, po, none⟩) g.ps.length g.pc) /\ w'.cell? ⟨lb, i * 4, none⟩ = some (.int .i64 (jx : Int))) /\ w'.cell? ⟨pb, po + jx * 3, none⟩ = some (.int .i64 (mx : Int)) /\ w'.cell? ⟨fb, mx, none⟩ = some (.slice ea ((listsU E).getD mx []).length ec)) w') := fun w' hb hF' => by
             obtain ⟨z0, -, -⟩ := hF'.at rfl HPI.out
             obtain ⟨-, -, -, x3, -⟩ := gb_cells hF'.box
             obtain ⟨pb', po', hpa', -, c0, -⟩ := ps_cells (HGA.out _ hF'.bel) hjxl
             rw [HPA.out] at hpa' x3
             simp only [Option.some.injEq, Addr.mk.injEq, and_true] at hpa'
             obtain ⟨rfl, rfl⟩ := hpa'
             rw [HLX.out] at c0
             rw [HJX.out] at z0
             exact ⟨⟨x3, z0⟩, c0, (hb.cell (p := ⟨fb, mx, none⟩) hfl).trans cE⟩
            have HF5 : Hid (FFw g t w fb E (some ⟨lb, 0, none⟩) lc P wr) := hF
            have hmx : (mx : Int) < (g.ns.length : Int) := by omega
            have hjx : (jx : Int) < (g.ps.length : Int) := by omega
            have hi5 : (i : Int) < (P.length : Int) := by omega
            have BD : Hid (Below wr.heap.size wr wr.drew) := (Below.refl _ _).drew
            clear cE hrowE hin hell hEl hfl hF
            generalize ((listsU E).getD mx []).length = el at *
            go_wp2
            clear c0 c1 e0
            have KS : Hid ((fun w' : World => (w'.cell? ⟨w.heap.size, 3, none⟩ = some (.slice (some ⟨pb, po, none⟩) g.ps.length g.pc) /\ w'.cell? ⟨lb, i * 4, none⟩ = some (.int .i64 (jx : Int))) /\ w'.cell? ⟨pb, po + jx * 3, none⟩ = some (.int .i64 (mx : Int)) /\ w'.cell? ⟨fb, mx, none⟩ = some (.slice ea el ec)) wr.drew) := KS5.out _ BD.out (HF5.out.any BD.out)
            refine wp_region_x (S := fun _ => (fun w' : World => (w'.cell? ⟨w.heap.size, 3, none⟩ = some (.slice (some ⟨pb, po, none⟩) g.ps.length g.pc) /\ w'.cell? ⟨lb, i * 4, none⟩ = some (.int .i64 (jx : Int))) /\ w'.cell? ⟨pb, po + jx * 3, none⟩ = some (.int .i64 (mx : Int)) /\ w'.cell? ⟨fb, mx, none⟩ = some (.slice ea el ec))) (by kernel_rfl) ?_
            refine takeF (i := 0) (v := ?_) rfl (by kernel_rfl) (by decide +kernel) (by decide +kernel) (fun _ _ _ h => h) (Or.inl ⟨by rfl, ?_⟩) KS.out ?_
            rotate_left
            ·(intro w hSw; (try dsimp only at hSw); go_simp; try (with_reducible rfl))
            (try simp only [Act.put, lsA, lsZ, lsN])
            refine takeF (i := 1) (v := ?_) rfl (by kernel_rfl) (by decide +kernel) (by decide +kernel) (fun _ _ _ h => h) (Or.inl ⟨by rfl, ?_⟩) KS.out ?_
            rotate_left
            ·(intro w hSw; (try dsimp only at hSw); go_simp; try (with_reducible rfl))
            (try simp only [Act.put, lsA, lsZ, lsN])
            refine takeF (i := 2) (v := ?_) rfl (by kernel_rfl) (by decide +kernel) (by decide +kernel) (fun _ _ _ h => h) (Or.inl ⟨by rfl, ?_⟩) KS.out ?_
            rotate_left
            ·(intro w hSw; (try dsimp only at hSw); go_simp; try (with_reducible rfl))
            (try simp only [Act.put, lsA, lsZ, lsN])
            refine takeF (i := 3) (v := ?_) rfl (by kernel_rfl) (by decide +kernel) (by decide +kernel) (fun _ _ _ h => h) (Or.inl ⟨by rfl, ?_⟩) KS.out ?_
            rotate_left
            ·(intro w hSw; (try dsimp only at hSw); go_simp; try (with_reducible rfl))
            (try simp only [Act.put, lsA, lsZ, lsN])
            refine takeF (i := 4) (v := ?_) rfl (by kernel_rfl) (by decide +kernel) (by decide +kernel) (fun _ _ _ h => h) (Or.inl ⟨by rfl, ?_⟩) KS.out ?_
            rotate_left
            ·(intro w hSw; (try dsimp only at hSw); go_simp; try (with_reducible rfl))
            (try simp only [Act.put, lsA, lsZ, lsN])
            refine takeF (i := 5) (v := ?_) rfl (by kernel_rfl) (by decide +kernel) (by decide +kernel) (fun _ _ _ h => h) (Or.inl ⟨by rfl, ?_⟩) KS.out ?_
            rotate_left
            ·(intro w hSw; (try dsimp only at hSw); go_simp; try (with_reducible rfl))
            (try simp only [Act.put, lsA, lsZ, lsN])
            refine takeF (i := 6) (v := ?_) rfl (by kernel_rfl) (by decide +kernel) (by decide +kernel) (fun _ _ _ h => h) (Or.inl ⟨by rfl, ?_⟩) KS.out ?_
            rotate_left
            ·(intro w hSw; (try dsimp only at hSw); go_simp; try (with_reducible rfl))
            (try simp only [Act.put, lsA, lsZ, lsN])
            refine takeF (i := 7) (v := ?_) rfl (by kernel_rfl) (by decide +kernel) (by decide +kernel) (fun _ _ _ h => h) (Or.inl ⟨by rfl, ?_⟩) KS.out ?_
            rotate_left
            ·(intro w hSw; (try dsimp only at hSw); go_simp; try (with_reducible rfl))
            (try simp only [Act.put, lsA, lsZ, lsN])
            refine takeF (i := 8) (v := ?_) rfl (by kernel_rfl) (by decide +kernel) (by decide +kernel) (fun _ _ _ h => h) (Or.inl ⟨by rfl, ?_⟩) KS.out ?_
            rotate_left
            ·(intro w hSw; (try dsimp only at hSw); go_simp; try (with_reducible rfl))
            (try simp only [Act.put, lsA, lsZ, lsN])
            refine takeF (i := 9) (v := ?_) rfl (by kernel_rfl) (by decide +kernel) (by decide +kernel) (fun _ _ _ h => h) (Or.inl ⟨by rfl, ?_⟩) KS.out ?_
            rotate_left
            ·(intro w hSw; (try dsimp only at hSw); go_simp; try (with_reducible rfl))
            (try simp only [Act.put, lsA, lsZ, lsN])
            refine takeF (i := 10) (v := ?_) rfl (by kernel_rfl) (by decide +kernel) (by decide +kernel) (fun _ _ _ h => h) (Or.inl ⟨by rfl, ?_⟩) KS.out ?_
            rotate_left
            ·(intro w hSw; (try dsimp only at hSw); go_simp; try (with_reducible rfl))
            (try simp only [Act.put, lsA, lsZ, lsN])
            refine takeF (i := 11) (v := ?_) rfl (by kernel_rfl) (by decide +kernel) (by decide +kernel) (fun _ _ _ h => h) (Or.inl ⟨by rfl, ?_⟩) KS.out ?_
            rotate_left
            ·(intro w hSw; (try dsimp only at hSw); go_simp; try (with_reducible rfl))
            (try simp only [Act.put, lsA, lsZ, lsN])
            refine takeF (i := 12) (v := ?_) rfl (by kernel_rfl) (by decide +kernel) (by decide +kernel) (fun _ _ _ h => h) (Or.inl ⟨by rfl, ?_⟩) KS.out ?_
            rotate_left
            ·(intro w hSw; (try dsimp only at hSw); go_simp; try (with_reducible rfl))
            (try simp only [Act.put, lsA, lsZ, lsN])
            refine takeF (i := 13) (v := ?_) rfl (by kernel_rfl) (by decide +kernel) (by decide +kernel) (fun _ _ _ h => h) (Or.inl ⟨by rfl, ?_⟩) KS.out ?_
            rotate_left
            ·(intro w hSw; (try dsimp only at hSw); go_simp; try (with_reducible rfl))
            (try simp only [Act.put, lsA, lsZ, lsN])
            refine wpAnyX_one (j := 14) (by decide +kernel) rfl (fun K' hK => ?_)
            refine step_callXT (by rfl) 16 #[.slice ea el ec, .int .i64 y.t.kind] _ (run_inT (v0 := .slice ea el ec) (v1 := .int .i64 y.t.kind) (by rfl) (by rfl) (by rfl) _) (IN5.out _ BD.out) ?_
            rintro e w9 ⟨rfl, b9⟩
            have W9 : Hid (FFw g t w fb E (some ⟨lb, 0, none⟩) lc P w9) := (HF5.out.any BD.out).any b9
            have K9 := KS5.out _ (BD.out.trans (b9.mono (Nat.le_refl _))) W9.out
            have H9 : Hid ((fun w' : World => (w'.cell? ⟨w.heap.size, 3, none⟩ = some (.slice (some ⟨pb, po, none⟩) g.ps.length g.pc) /\ w'.cell? ⟨lb, i * 4, none⟩ = some (.int .i64 (jx : Int))) /\ w'.cell? ⟨pb, po + jx * 3, none⟩ = some (.int .i64 (mx : Int)) /\ w'.cell? ⟨fb, mx, none⟩ = some (.slice ea el ec)) w9) := K9
            clear b9 K9
            refine ⟨_, rfl, hK.out _ _ H9.out ?_⟩
            clear hK K' KS
            (try simp only [Act.put, lsA, lsZ, lsN])
            refine takeF (i := 15) (v := ?_) rfl (by kernel_rfl) (by decide +kernel) (by decide +kernel) (fun _ _ _ h => h) (Or.inl ⟨by rfl, ?_⟩) H9.out ?_
            rotate_left
            ·(intro w hSw; (try dsimp only at hSw); go_simp; try (with_reducible rfl))
            (try simp only [Act.put, lsA, lsZ, lsN])
            refine wpAnyX_done (by decide +kernel) ?_
            clear KS5 IN5 HF5 H9
            go_wp2
            go_roundw
            case rel => exact ⟨i + 1, by omega, by go_num, W9.out⟩
            case measure => simp [intOf]; omega
           ·have e0 : (y.t.prod == -1) = false := by simpa using hyp
            have HN : Hid (tokN g (P.drop (k + 1)) = tokN g l2) := by
             show _ = _
             rw [<- hto, hdk]
             unfold tokN
             rw [lv_cons, if_neg hyp]
            have HF0 : Hid (FFw g t w fb E (some ⟨lb, 0, none⟩) lc P wr) := hF
            clear hyp hyr hyk hy hto hdk hF
            go_wp2
            go_roundw
            case rel => exact ⟨k + 1, rfl, by go_num, by omega, HN.out, HF0.out⟩
            case measure => simp [intOf]; omega
          ·obtain rfl : k = P.length := by omega
           have klt : ¬ (P.length : Int) < (P.length : Int) := by omega
           have htk : tokN g l2 = g.ts.length := by rw [<- hto, List.drop_length]; rfl
           clear hto
           obtain ⟨hfl, ea, ec, cE, hrowE⟩ := lsrow_getT hF.ls (k := mx) (by rw [HLE.out F E HF.out.2]; omega)
           have hEl : (listsU E).getD mx [] = listS (E.getD mx (0, 0)) 128 := by simp [listsU, List.getD, show mx < E.length by rw [HF.out.2.len]; omega]
           have hin : inL ((listsU E).getD mx []) (g.ts.length : Int) = true := by
            rw [hEl]
            refine List.any_eq_true.2 ⟨(g.ts.length : Int), (listS_mem _ _ _).2 ⟨by omega, by omega, ?_⟩, by simp⟩
            have q := HFOL.out
            rw [htk] at q
            exact q
           have hell : ((listsU E).getD mx []).length <= 128 := by rw [hEl]; exact listS_len _ _
           have IN5 : Hid (∀ w', Below wr.heap.size wr w' -> Calls Try.prog 16 #[.slice ea ((listsU E).getD mx []).length ec, .int .i64 (g.ts.length : Int)] w' fun e w'' => e = .returned (.bool true) /\ Below w'.heap.size w' w'') := fun w' hb => by
            have := in_S ea ec ((listsU E).getD mx []) (g.ts.length : Int) w' (hrowE.later hb) (by omega)
            rwa [hin] at this
           have KS5 : Hid (∀ w', Below wr.heap.size wr w' -> FFw g t w fb E (some ⟨lb, 0, none⟩) lc P w' -> (fun w' : World => (w'.cell? ⟨w.heap.size, 3, none⟩ = some (.slice (some ⟨pb, po, none⟩) g.ps.length g.pc) /\ w'.cell? ⟨lb, i * 4, none⟩ = some (.int .i64 (jx : Int))) /\ w'.cell? ⟨pb, po + jx * 3, none⟩ = some (.int .i64 (mx : Int)) /\ w'.cell? ⟨fb, mx, none⟩ = some (.slice ea ((listsU E).getD mx []).length ec)) w') := fun w' hb hF' => by
            obtain ⟨z0, -, -⟩ := hF'.at rfl HPI.out
            obtain ⟨-, -, -, x3, -⟩ := gb_cells hF'.box
            obtain ⟨pb', po', hpa', -, c0, -⟩ := ps_cells (HGA.out _ hF'.bel) hjxl
            rw [HPA.out] at hpa' x3
            simp only [Option.some.injEq, Addr.mk.injEq, and_true] at hpa'
            obtain ⟨rfl, rfl⟩ := hpa'
            rw [HLX.out] at c0
            rw [HJX.out] at z0
            exact ⟨⟨x3, z0⟩, c0, (hb.cell (p := ⟨fb, mx, none⟩) hfl).trans cE⟩
           have HF5 : Hid (FFw g t w fb E (some ⟨lb, 0, none⟩) lc P wr) := hF
           have hmx : (mx : Int) < (g.ns.length : Int) := by omega
           have hjx : (jx : Int) < (g.ps.length : Int) := by omega
           have hi5 : (i : Int) < (P.length : Int) := by omega
           have BD : Hid (Below wr.heap.size wr wr.drew) := (Below.refl _ _).drew
           clear cE hrowE hin hell hEl hfl hF
           generalize ((listsU E).getD mx []).length = el at *
           go_wp2
           have KS : Hid ((fun w' : World => (w'.cell? ⟨w.heap.size, 3, none⟩ = some (.slice (some ⟨pb, po, none⟩) g.ps.length g.pc) /\ w'.cell? ⟨lb, i * 4, none⟩ = some (.int .i64 (jx : Int))) /\ w'.cell? ⟨pb, po + jx * 3, none⟩ = some (.int .i64 (mx : Int)) /\ w'.cell? ⟨fb, mx, none⟩ = some (.slice ea el ec)) wr.drew) := KS5.out _ BD.out (HF5.out.any BD.out)
           refine wp_region_x (S := fun _ => (fun w' : World => (w'.cell? ⟨w.heap.size, 3, none⟩ = some (.slice (some ⟨pb, po, none⟩) g.ps.length g.pc) /\ w'.cell? ⟨lb, i * 4, none⟩ = some (.int .i64 (jx : Int))) /\ w'.cell? ⟨pb, po + jx * 3, none⟩ = some (.int .i64 (mx : Int)) /\ w'.cell? ⟨fb, mx, none⟩ = some (.slice ea el ec))) (by kernel_rfl) ?_
           refine takeF (i := 0) (v := ?_) rfl (by kernel_rfl) (by decide +kernel) (by decide +kernel) (fun _ _ _ h => h) (Or.inl ⟨by rfl, ?_⟩) KS.out ?_
           rotate_left
           ·(intro w hSw; (try dsimp only at hSw); go_simp; try (with_reducible rfl))
           (try simp only [Act.put, lsA, lsZ, lsN])
           refine takeF (i := 1) (v := ?_) rfl (by kernel_rfl) (by decide +kernel) (by decide +kernel) (fun _ _ _ h => h) (Or.inl ⟨by rfl, ?_⟩) KS.out ?_
           rotate_left
           ·(intro w hSw; (try dsimp only at hSw); go_simp; try (with_reducible rfl))
           (try simp only [Act.put, lsA, lsZ, lsN])
           refine takeF (i := 2) (v := ?_) rfl (by kernel_rfl) (by decide +kernel) (by decide +kernel) (fun _ _ _ h => h) (Or.inl ⟨by rfl, ?_⟩) KS.out ?_
           rotate_left
           ·(intro w hSw; (try dsimp only at hSw); go_simp; try (with_reducible rfl))
           (try simp only [Act.put, lsA, lsZ, lsN])
           refine takeF (i := 3) (v := ?_) rfl (by kernel_rfl) (by decide +kernel) (by decide +kernel) (fun _ _ _ h => h) (Or.inl ⟨by rfl, ?_⟩) KS.out ?_
           rotate_left
           ·(intro w hSw; (try dsimp only at hSw); go_simp; try (with_reducible rfl))
           (try simp only [Act.put, lsA, lsZ, lsN])
           refine takeF (i := 4) (v := ?_) rfl (by kernel_rfl) (by decide +kernel) (by decide +kernel) (fun _ _ _ h => h) (Or.inl ⟨by rfl, ?_⟩) KS.out ?_
           rotate_left
           ·(intro w hSw; (try dsimp only at hSw); go_simp; try (with_reducible rfl))
           (try simp only [Act.put, lsA, lsZ, lsN])
           refine takeF (i := 5) (v := ?_) rfl (by kernel_rfl) (by decide +kernel) (by decide +kernel) (fun _ _ _ h => h) (Or.inl ⟨by rfl, ?_⟩) KS.out ?_
           rotate_left
           ·(intro w hSw; (try dsimp only at hSw); go_simp; try (with_reducible rfl))
           (try simp only [Act.put, lsA, lsZ, lsN])
           refine takeF (i := 6) (v := ?_) rfl (by kernel_rfl) (by decide +kernel) (by decide +kernel) (fun _ _ _ h => h) (Or.inl ⟨by rfl, ?_⟩) KS.out ?_
           rotate_left
           ·(intro w hSw; (try dsimp only at hSw); go_simp; try (with_reducible rfl))
           (try simp only [Act.put, lsA, lsZ, lsN])
           refine takeF (i := 7) (v := ?_) rfl (by kernel_rfl) (by decide +kernel) (by decide +kernel) (fun _ _ _ h => h) (Or.inl ⟨by rfl, ?_⟩) KS.out ?_
           rotate_left
           ·(intro w hSw; (try dsimp only at hSw); go_simp; try (with_reducible rfl))
           (try simp only [Act.put, lsA, lsZ, lsN])
           refine takeF (i := 8) (v := ?_) rfl (by kernel_rfl) (by decide +kernel) (by decide +kernel) (fun _ _ _ h => h) (Or.inl ⟨by rfl, ?_⟩) KS.out ?_
           rotate_left
           ·(intro w hSw; (try dsimp only at hSw); go_simp; try (with_reducible rfl))
           (try simp only [Act.put, lsA, lsZ, lsN])
           refine takeF (i := 9) (v := ?_) rfl (by kernel_rfl) (by decide +kernel) (by decide +kernel) (fun _ _ _ h => h) (Or.inl ⟨by rfl, ?_⟩) KS.out ?_
           rotate_left
           ·(intro w hSw; (try dsimp only at hSw); go_simp; try (with_reducible rfl))
           (try simp only [Act.put, lsA, lsZ, lsN])
           refine takeF (i := 10) (v := ?_) rfl (by kernel_rfl) (by decide +kernel) (by decide +kernel) (fun _ _ _ h => h) (Or.inl ⟨by rfl, ?_⟩) KS.out ?_
           rotate_left
           ·(intro w hSw; (try dsimp only at hSw); go_simp; try (with_reducible rfl))
           (try simp only [Act.put, lsA, lsZ, lsN])
           refine takeF (i := 11) (v := ?_) rfl (by kernel_rfl) (by decide +kernel) (by decide +kernel) (fun _ _ _ h => h) (Or.inl ⟨by rfl, ?_⟩) KS.out ?_
           rotate_left
           ·(intro w hSw; (try dsimp only at hSw); go_simp; try (with_reducible rfl))
           (try simp only [Act.put, lsA, lsZ, lsN])
           refine takeF (i := 12) (v := ?_) rfl (by kernel_rfl) (by decide +kernel) (by decide +kernel) (fun _ _ _ h => h) (Or.inl ⟨by rfl, ?_⟩) KS.out ?_
           rotate_left
           ·(intro w hSw; (try dsimp only at hSw); go_simp; try (with_reducible rfl))
           (try simp only [Act.put, lsA, lsZ, lsN])
           refine takeF (i := 13) (v := ?_) rfl (by kernel_rfl) (by decide +kernel) (by decide +kernel) (fun _ _ _ h => h) (Or.inl ⟨by rfl, ?_⟩) KS.out ?_
           rotate_left
           ·(intro w hSw; (try dsimp only at hSw); go_simp; try (with_reducible rfl))
           (try simp only [Act.put, lsA, lsZ, lsN])
           refine wpAnyX_one (j := 14) (by decide +kernel) rfl (fun K' hK => ?_)
           refine step_callXT (by rfl) 16 #[.slice ea el ec, .int .i64 (g.ts.length : Int)] _ (run_inT (v0 := .slice ea el ec) (v1 := .int .i64 (g.ts.length : Int)) (by rfl) (by rfl) (by rfl) _) (IN5.out _ BD.out) ?_
           rintro e w9 ⟨rfl, b9⟩
           have W9 : Hid (FFw g t w fb E (some ⟨lb, 0, none⟩) lc P w9) := (HF5.out.any BD.out).any b9
           have K9 := KS5.out _ (BD.out.trans (b9.mono (Nat.le_refl _))) W9.out
           have H9 : Hid ((fun w' : World => (w'.cell? ⟨w.heap.size, 3, none⟩ = some (.slice (some ⟨pb, po, none⟩) g.ps.length g.pc) /\ w'.cell? ⟨lb, i * 4, none⟩ = some (.int .i64 (jx : Int))) /\ w'.cell? ⟨pb, po + jx * 3, none⟩ = some (.int .i64 (mx : Int)) /\ w'.cell? ⟨fb, mx, none⟩ = some (.slice ea el ec)) w9) := K9
           clear b9 K9
           refine ⟨_, rfl, hK.out _ _ H9.out ?_⟩
           clear hK K' KS
           (try simp only [Act.put, lsA, lsZ, lsN])
           refine takeF (i := 15) (v := ?_) rfl (by kernel_rfl) (by decide +kernel) (by decide +kernel) (fun _ _ _ h => h) (Or.inl ⟨by rfl, ?_⟩) H9.out ?_
           rotate_left
           ·(intro w hSw; (try dsimp only at hSw); go_simp; try (with_reducible rfl))
           (try simp only [Act.put, lsA, lsZ, lsN])
           refine wpAnyX_done (by decide +kernel) ?_
           clear KS5 IN5 HF5 H9
           go_wp2
           go_roundw
           case rel => exact ⟨i + 1, by omega, by go_num, W9.out⟩
           case measure => simp [intOf]; omega
        ·have hy := hK y (List.mem_cons_self ..)
         have e1 : plS (y :: K') = y :: (plS (kidS y) ++ plS K') := by
          have := plS_app [y] K'
          rw [plS_one y hy] at this
          exact this
         rw [e1] at hdr
         obtain ⟨hel, hye, hdr2⟩ := drop_cons (r := (plS (kidS y) ++ plS K') ++ l2) hdr
         obtain ⟨-, -, c3⟩ := hF.at rfl hye
         have HD2 : Hid (P.drop (e + 1) = plS (kidS y ++ K') ++ l2) := by
          show _ = _
          rw [hdr2, plS_app]
         have HK2 : Hid (∀ z ∈ kidS y ++ K', z.s = (0, 0) /\ z.u = false) := fun z hz => by
          rcases List.mem_append.1 hz with q | q
          ·unfold kidS at q
           obtain ⟨k, _, rfl⟩ := List.mem_map.1 q
           exact ⟨rfl, rfl⟩
          ·exact hK z (List.mem_cons_of_mem _ q)
         have HKL : Hid ((kidS y ++ K').length = K'.length + y.t.kids.length) := by
          show _ = _
          rw [List.length_append]
          simp [kidS]
          omega
         have hbd : K'.length + y.t.kids.length <= 100000000 := by
          have q1 := congrArg List.length hdr2
          rw [List.length_drop, List.length_append, List.length_append] at q1
          have q2 := plS_len (kidS y)
          have q3 := plS_len K'
          have q4 : (kidS y).length = y.t.kids.length := by simp [kidS]
          omega
         have elt : (e : Int) < (P.length : Int) := by omega
         have HF0 : Hid (FFw g t w fb E (some ⟨lb, 0, none⟩) lc P wr) := hF
         have hcl : ((y :: K').length : Int) = (K'.length : Int) + 1 := by simp
         rw [hcl]
         clear hy e1 hdr hdr2 hye hK hF hcl
         generalize y.t.kids.length = kn at *
         obtain ⟨n', hn'⟩ : ∃ n', K'.length = n' := ⟨_, rfl⟩
         rw [hn'] at hbd HKL ⊢
         clear hn'
         go_wp2
         go_roundw
         case rel => exact ⟨e + 1, kidS y ++ K', by go_num, by rw [HKL.out]; go_num, by omega, HD2.out, HK2.out, HF0.out⟩
         case measure => simp [intOf]; omega
     ·obtain rfl : i = P.length := by omega
      have ilt : ¬ (P.length : Int) < (P.length : Int) := by omega
      have HB : Hid (Below w.heap.size w wr) := hF.bel
      clear hF
      go_wp2
      go_ret
      exact ⟨rfl, HB.out⟩
   ·have e5 : (lf != g.start) = true := by simpa using hst
    clear hst
    rw [e5]
    clear e5
    refine takeF (i := 18) (v := ?_) rfl (by kernel_rfl) (by decide +kernel) (by decide +kernel) (fun _ _ _ h => h) (Or.inl ⟨by rfl, ?_⟩) hs.out ?_
    rotate_left
    ·(intro w hSw; (try dsimp only at hSw); go_simp; try (with_reducible rfl))
    (try simp only [Act.put, lsA, lsZ, lsN])
    refine wpAnyX_done (by decide +kernel) ?_
    clear hs
    go_wp2
    go_ret
    exact ⟨rfl, B6.out.1.drew⟩
 ·have e5 : (bad != 0) = true := by simpa using hbad
  have hs : Hid ((fun w' : World => (w'.cell? ⟨w.heap.size, 2, none⟩ = some (.int .i64 g.start) /\ w'.cell? ⟨w.heap.size, 3, none⟩ = some (.slice g.pa g.ps.length g.pc)) /\ w'.cell? ⟨w.heap.size + 1, 0, none⟩ = some (.int .i64 t.prod)) w6.drew) := KB.out _ B6.out.2.1 B6.out.2.2.1
  clear hbad HRT
  refine wp_region_x (S := fun _ => (fun w' : World => (w'.cell? ⟨w.heap.size, 2, none⟩ = some (.int .i64 g.start) /\ w'.cell? ⟨w.heap.size, 3, none⟩ = some (.slice g.pa g.ps.length g.pc)) /\ w'.cell? ⟨w.heap.size + 1, 0, none⟩ = some (.int .i64 t.prod))) (by kernel_rfl) ?_
  refine takeF (i := 0) (v := ?_) rfl (by kernel_rfl) (by decide +kernel) (by decide +kernel) (fun _ _ _ h => h) (Or.inl ⟨by rfl, ?_⟩) hs.out ?_
  rotate_left
  ·(intro w hSw; (try dsimp only at hSw); go_simp; try (with_reducible rfl))
  (try simp only [Act.put, lsA, lsZ, lsN])
  refine takeF (i := 1) (v := ?_) rfl (by kernel_rfl) (by decide +kernel) (by decide +kernel) (fun _ _ _ h => h) (Or.inl ⟨by rfl, ?_⟩) hs.out ?_
  rotate_left
  ·(intro w hSw; (try dsimp only at hSw); go_simp; try (with_reducible rfl))
  (try simp only [Act.put, lsA, lsZ, lsN])
  refine takeF (i := 2) (v := ?_) rfl (by kernel_rfl) (by decide +kernel) (by decide +kernel) (fun _ _ _ h => h) (Or.inl ⟨by rfl, ?_⟩) hs.out ?_
  rotate_left
  ·(intro w hSw; (try dsimp only at hSw); go_simp; try (with_reducible rfl))
  (try simp only [Act.put, lsA, lsZ, lsN])
  refine takeF (i := 3) (v := undef) rfl (by kernel_rfl) (by decide +kernel) (by decide +kernel) (fun _ _ _ h => h) (Or.inr ⟨by rfl, rfl⟩) hs.out ?_
  (try simp only [Act.put, lsA, lsZ, lsN])
  refine takeF (i := 4) (v := undef) rfl (by kernel_rfl) (by decide +kernel) (by decide +kernel) (fun _ _ _ h => h) (Or.inr ⟨by rfl, rfl⟩) hs.out ?_
  (try simp only [Act.put, lsA, lsZ, lsN])
  refine takeF (i := 5) (v := undef) rfl (by kernel_rfl) (by decide +kernel) (by decide +kernel) (fun _ _ _ h => h) (Or.inr ⟨by rfl, rfl⟩) hs.out ?_
  (try simp only [Act.put, lsA, lsZ, lsN])
  refine takeF (i := 6) (v := ?_) rfl (by kernel_rfl) (by decide +kernel) (by decide +kernel) (fun _ _ _ h => h) (Or.inl ⟨by rfl, ?_⟩) hs.out ?_
  rotate_left
  ·(intro w hSw; (try dsimp only at hSw); go_simp; try (with_reducible rfl))
  (try simp only [Act.put, lsA, lsZ, lsN])
  refine takeF (i := 7) (v := ?_) rfl (by kernel_rfl) (by decide +kernel) (by decide +kernel) (fun _ _ _ h => h) (Or.inl ⟨by rfl, ?_⟩) hs.out ?_
  rotate_left
  ·(intro w hSw; (try dsimp only at hSw); go_simp; try (with_reducible rfl))
  (try simp only [Act.put, lsA, lsZ, lsN])
  refine takeF (i := 8) (v := undef) rfl (by kernel_rfl) (by decide +kernel) (by decide +kernel) (fun _ _ _ h => h) (Or.inr ⟨by rfl, rfl⟩) hs.out ?_
  (try simp only [Act.put, lsA, lsZ, lsN])
  refine takeF (i := 9) (v := undef) rfl (by kernel_rfl) (by decide +kernel) (by decide +kernel) (fun _ _ _ h => h) (Or.inr ⟨by rfl, rfl⟩) hs.out ?_
  (try simp only [Act.put, lsA, lsZ, lsN])
  refine takeF (i := 10) (v := undef) rfl (by kernel_rfl) (by decide +kernel) (by decide +kernel) (fun _ _ _ h => h) (Or.inr ⟨by rfl, rfl⟩) hs.out ?_
  (try simp only [Act.put, lsA, lsZ, lsN])
  refine takeF (i := 11) (v := undef) rfl (by kernel_rfl) (by decide +kernel) (by decide +kernel) (fun _ _ _ h => h) (Or.inr ⟨by rfl, rfl⟩) hs.out ?_
  (try simp only [Act.put, lsA, lsZ, lsN])
  refine takeF (i := 12) (v := undef) rfl (by kernel_rfl) (by decide +kernel) (by decide +kernel) (fun _ _ _ h => h) (Or.inr ⟨by rfl, rfl⟩) hs.out ?_
  (try simp only [Act.put, lsA, lsZ, lsN])
  refine takeF (i := 13) (v := undef) rfl (by kernel_rfl) (by decide +kernel) (by decide +kernel) (fun _ _ _ h => h) (Or.inr ⟨by rfl, rfl⟩) hs.out ?_
  (try simp only [Act.put, lsA, lsZ, lsN])
  refine takeF (i := 14) (v := undef) rfl (by kernel_rfl) (by decide +kernel) (by decide +kernel) (fun _ _ _ h => h) (Or.inr ⟨by rfl, rfl⟩) hs.out ?_
  (try simp only [Act.put, lsA, lsZ, lsN])
  refine takeF (i := 15) (v := undef) rfl (by kernel_rfl) (by decide +kernel) (by decide +kernel) (fun _ _ _ h => h) (Or.inr ⟨by rfl, rfl⟩) hs.out ?_
  (try simp only [Act.put, lsA, lsZ, lsN])
  refine takeF (i := 16) (v := undef) rfl (by kernel_rfl) (by decide +kernel) (by decide +kernel) (fun _ _ _ h => h) (Or.inr ⟨by rfl, rfl⟩) hs.out ?_
  (try simp only [Act.put, lsA, lsZ, lsN])
  refine takeF (i := 17) (v := undef) rfl (by kernel_rfl) (by decide +kernel) (by decide +kernel) (fun _ _ _ h => h) (Or.inr ⟨by rfl, rfl⟩) hs.out ?_
  (try simp only [Act.put, lsA, lsZ, lsN])
  refine takeF (i := 18) (v := ?_) rfl (by kernel_rfl) (by decide +kernel) (by decide +kernel) (fun _ _ _ h => h) (Or.inl ⟨by rfl, ?_⟩) hs.out ?_
  rotate_left
  ·(intro w hSw; (try dsimp only at hSw); go_simp; try (with_reducible rfl))
  (try simp only [Act.put, lsA, lsZ, lsN])
  refine wpAnyX_done (by decide +kernel) ?_
  clear hs
  go_wp2
  go_ret
  exact ⟨rfl, B6.out.1.drew⟩
theorem follows_walk (g : GV) (t : TV) (w : World) (h : GAt 140737488355328 w g) (hpc : g.ps.length <= g.pc) (ht : TAt w t) (hsz : ∀ d, (plT d t).length <= 100000000) :
  Calls Try.prog 4 #[g.val, t.val] w fun e w' => e = .returned (.bool true) /\ Below w.heap.size w w' := by
 by_cases h0 : (checkG g (checkF g.ts g.ns)).1 = 0
 ·exact follows_loop g t w h hpc ht (hsz 0) (checkG g (checkF g.ts g.ns)).2 (by rw [<- h0])
 ·exact follows_no g t w h hpc _ _ rfl h0
end Go.Proofs.Ytohgnodjdolcnaa
