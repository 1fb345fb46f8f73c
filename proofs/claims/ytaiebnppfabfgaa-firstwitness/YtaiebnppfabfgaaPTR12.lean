import Derived.Test.YtaiebnppfabfgaaPTR11
namespace Go.Proofs.Ytaiebnppfabfgaa
set_option linter.unusedVariables false
set_option maxRecDepth 100000
set_option maxHeartbeats 16000000
open Go.RowKit
structure WW (g : GV) (w : World) (nb fb kb : Nat) (F : List BS) (wr : World) : Prop where
 bb : BB wr nb (nullU g.ps g.ns.length)
 ls : LsRow wr (some ⟨fb, 0, none⟩) (listsU F)
 kk : KB wr kb (htU g.ps g.ns.length g.ns.length)
 box : wr.heap[w.heap.size]? = some (gBox g)
 bel : Below w.heap.size w wr
theorem WW.any {g : GV} {w wr w' : World} {nb fb kb : Nat} {F : List BS} (h : WW g w nb fb kb F wr) (hb : Below wr.heap.size wr w') : WW g w nb fb kb F w' :=
 ⟨h.bb.later hb, h.ls.later hb, (hb.block _ h.kk.lt).trans h.kk, box_on h.box hb, h.bel.trans (hb.mono h.bel.size)⟩
set_option linter.unusedSimpArgs false in
theorem witness_ok (g : GV) (w : World) (h : GAt 140737488355328 w g) (hpc : g.ps.length <= g.pc) (at_ : Int) (hE : checkG g (checkF g.ts g.ns) = (0, at_)) (hcap : ∀ p ∈ g.ps, p.right.length <= p.rc) :
  Calls Try.prog 3 #[g.val] w fun e w' => e = .returned (.bool true) /\ Below w.heap.size w w' := by
 have ok : OkC g := OkC.of (by rw [hE])
 have X0 : Hid ((w.alloc (gBox g)).heap[w.heap.size]? = some (gBox g)) := heap_alloc_new _ _
 have NC : Hid (∀ w', Below w.heap.size w w' -> Calls Try.prog 5 #[g.val] w' fun e w'' => ∃ nb, e = .returned (.tuple #[.slice (some ⟨nb, 0, none⟩) g.ns.length g.ns.length, .int .i64 0]) /\ BB w'' nb (nullU g.ps g.ns.length) /\ w'.heap.size <= nb /\ Below w'.heap.size w' w'') := fun w' hb => nullable_ok g w' (h.later hb) hpc at_ hE
 have FC : Hid (∀ w', Below w.heap.size w w' -> Calls Try.prog 6 #[g.val] w' fun e w'' => ∃ b F, LeastF g F /\ e = .returned (.tuple #[.slice (some ⟨b, 0, none⟩) g.ns.length g.ns.length, .int .i64 0]) /\ LLk w'' b (listsU F) g.ns.length /\ w'.heap.size <= b /\ Below w'.heap.size w' w'') := fun w' hb => first_ok g w' (h.later hb) hpc at_ hE
 have HC : Hid (∀ w', Below w.heap.size w w' -> Calls Try.prog 7 #[g.val] w' fun e w'' => ∃ kb, e = .returned (.tuple #[.slice (some ⟨kb, 0, none⟩) g.ns.length g.ns.length, .int .i64 0]) /\ KB w'' kb (htU g.ps g.ns.length g.ns.length) /\ w'.heap.size <= kb /\ Below w'.heap.size w' w'') := fun w' hb => heights_ok g w' (h.later hb) hpc at_ hE
 have MC : Hid (∀ w', Below w.heap.size w w' -> Calls Try.prog 8 #[g.val] w' fun e w'' => e = .returned (.int .i64 0) /\ Below w'.heap.size w' w'') := fun w' hb => by
  have := refmay_G g w' (h.later hb)
  rwa [hE] at this
 have WC : Hid (∀ w', Below w.heap.size w w' -> Calls Try.prog 11 #[g.val] w' fun e w'' => WellO w' e w'') := fun w' hb => well_R g w' (h.later hb) at_ hE hcap
 have HFG : Hid (∀ w', Below w.heap.size w w' -> FG w' g) := fun w' hb => ok.fg (h.later hb)
 have HGP : Hid (GP g) := (ok.fg h).gp
 have t1 : ((0 : Int) != 0) = false := by decide
 have hnl := ok.nl.2
 have HLF : Hid (∀ F, LeastF g F -> (listsU F).length = g.ns.length) := fun F hF => by
  obtain ⟨_, _, _, _, e⟩ := hF
  simp [listsU, e]
 clear h hE hcap ok
 go_enter Try.func3, Try.ntmps3
 go_wp2_with (first
  | (go_at_call 4; refine (works_S _).mono ?_; rintro e w1 ⟨rfl, b1⟩; have B1 : Hid (Below w.heap.size w w1 /\ w1.heap[w.heap.size]? = some (gBox g)) := ⟨(below_alloc w _).trans (b1.mono (below_alloc w _).size), box_on X0.out b1⟩; clear b1; obtain ⟨x0, x1, x2, x3, x4⟩ := gb_cells B1.out.2)
  | (go_at_call 5; refine (NC.out _ B1.out.1).mono ?_; rintro e w2 ⟨nb, rfl, n2, -, b2⟩; have B2 : Hid (Below w.heap.size w w2 /\ w2.heap[w.heap.size]? = some (gBox g) /\ BB w2 nb (nullU g.ps g.ns.length)) := ⟨B1.out.1.trans (b2.mono B1.out.1.size), box_on B1.out.2 b2, n2⟩; clear b2 n2 x0 x1 x2 x3 x4; obtain ⟨x0, x1, x2, x3, x4⟩ := gb_cells B2.out.2.1)
  | (go_at_call 6; refine (FC.out _ B2.out.1).mono ?_; rintro e w3 ⟨fb, F, hF, rfl, n3, -, b3⟩; have HF : Hid (LeastF g F) := hF; have B3 : Hid (Below w.heap.size w w3 /\ w3.heap[w.heap.size]? = some (gBox g) /\ BB w3 nb (nullU g.ps g.ns.length) /\ LsRow w3 (some ⟨fb, 0, none⟩) (listsU F)) := ⟨B2.out.1.trans (b3.mono B2.out.1.size), box_on B2.out.2.1 b3, B2.out.2.2.later b3, LLk.row (by rw [HLF.out F hF]; exact n3)⟩; clear b3 n3 hF x0 x1 x2 x3 x4; obtain ⟨x0, x1, x2, x3, x4⟩ := gb_cells B3.out.2.1)
  | (go_at_call 7; refine (HC.out _ B3.out.1).mono ?_; rintro e w4 ⟨kb, rfl, n4, -, b4⟩; have B4 : Hid (WW g w nb fb kb F w4) := ⟨B3.out.2.2.1.later b4, B3.out.2.2.2.later b4, n4, box_on B3.out.2.1 b4, B3.out.1.trans (b4.mono B3.out.1.size)⟩; clear b4 n4 x0 x1 x2 x3 x4; obtain ⟨x0, x1, x2, x3, x4⟩ := gb_cells B4.out.box)
  | (go_at_call 8; refine (MC.out _ B4.out.bel).mono ?_; rintro e w5 ⟨rfl, b5⟩; have B5 : Hid (WW g w nb fb kb F w5) := B4.out.any b5; clear b5 x0 x1 x2 x3 x4))
 clear X0 B1 B2 B3 B4
 go_loopw [9] (fun z wr => ∃ k : Nat, k <= g.ns.length /\ z = .int .i64 k /\ WW g w nb fb kb F wr) (fun z _ => g.ns.length - (intOf z).toNat)
 case atStart => exact ⟨0, Nat.zero_le _, rfl, B5.out⟩
 case round =>
  clear B5
  obtain ⟨k, hk, rfl, hW⟩ := hrel
  have HW : Hid (WW g w nb fb kb F wr) := hW
  obtain ⟨x0, x1, x2, x3, x4⟩ := gb_cells hW.box
  by_cases hlt : k < g.ns.length
  ·have klt : (k : Int) < (g.ns.length : Int) := by omega
   have cn := hW.bb.cell (i := k) (by rw [nullU_len]; exact hlt)
   have ck := hW.kk.cell (i := k) (by rw [htU_len]; exact hlt)
   have hiff := nullU_iff (g := g) k
   have hbd := htU_bd g.ps g.ns.length g.ns.length k
   have MD : Hid (∀ w', Below wr.heap.size wr w' -> (htU g.ps g.ns.length g.ns.length).getD k 0 ≠ 0 -> Calls Try.prog 10 #[g.val, .slice (some ⟨kb, 0, none⟩) g.ns.length g.ns.length, .int .i64 (k : Int)] w' fun e w'' => e = .returned (.bool true) /\ Below w'.heap.size w' w'') := fun w' hb hne => made_S g kb _ k w' (HFG.out _ (hW.any hb).bel) (hW.any hb).kk.row (htU_len _ _ _) (fun i => by have := htU_bd g.ps g.ns.length g.ns.length i; omega) hlt (made_ex HGP.out k hne)
   obtain ⟨nv, hnv⟩ : ∃ nv, (nullU g.ps g.ns.length).getD k false = nv := ⟨_, rfl⟩
   obtain ⟨hv, hhv⟩ : ∃ hv, (htU g.ps g.ns.length g.ns.length).getD k 0 = hv := ⟨_, rfl⟩
   rw [hnv] at cn hiff
   rw [hhv] at ck hiff hbd MD
   clear hnv hhv
   cases nv
   ·obtain rfl : hv = 0 := by
     by_cases q : hv = 0
     ·exact q
     ·exact absurd (hiff.2 q) (by decide)
    clear hiff hbd MD hW
    go_wp2
    go_quiet (fail)
    have RN : Hid (WW g w nb fb kb F (wr.drewN nq)) := HW.out.any (below_drewN (Below.refl _ _) _)
    clear x0 x1 x2 x3 x4 cn ck
    generalize wr.drewN nq = wq at *
    go_wp2
    go_roundw
    case rel => exact ⟨k + 1, by omega, by go_num, RN.out⟩
    case measure => simp [intOf]; omega
   ·have hpos : (0 : Int) < hv := by
     have := hiff.1 rfl
     omega
    have MD1 : Hid (∀ w', Below wr.heap.size wr w' -> Calls Try.prog 10 #[g.val, .slice (some ⟨kb, 0, none⟩) g.ns.length g.ns.length, .int .i64 (k : Int)] w' fun e w'' => e = .returned (.bool true) /\ Below w'.heap.size w' w'') := fun w' hb => MD.out w' hb (by omega)
    have KS0 : Hid (∀ w', Below wr.heap.size wr w' -> (fun w' : World => w'.cell? ⟨nb, k, none⟩ = some (.bool true) /\ w'.cell? ⟨kb, k, none⟩ = some (.int .i64 hv) /\ w'.cell? ⟨w.heap.size, 0, none⟩ = some (.slice g.ta g.ts.length g.tc) /\ w'.cell? ⟨w.heap.size, 1, none⟩ = some (.slice g.na g.ns.length g.nc) /\ w'.cell? ⟨w.heap.size, 2, none⟩ = some (.int .i64 g.start) /\ w'.cell? ⟨w.heap.size, 3, none⟩ = some (.slice g.pa g.ps.length g.pc) /\ w'.cell? ⟨w.heap.size, 4, none⟩ = some (.slice g.la g.ls.length g.lc)) w') := fun w' hb => ⟨(hb.cell (p := ⟨nb, k, none⟩) HW.out.bb.lt).trans cn, (hb.cell (p := ⟨kb, k, none⟩) HW.out.kk.lt).trans ck, gb_cells (HW.out.any hb).box⟩
    have BD : Hid (Below wr.heap.size wr wr.drew) := (Below.refl _ _).drew
    have hs : Hid ((fun w' : World => w'.cell? ⟨nb, k, none⟩ = some (.bool true) /\ w'.cell? ⟨kb, k, none⟩ = some (.int .i64 hv) /\ w'.cell? ⟨w.heap.size, 0, none⟩ = some (.slice g.ta g.ts.length g.tc) /\ w'.cell? ⟨w.heap.size, 1, none⟩ = some (.slice g.na g.ns.length g.nc) /\ w'.cell? ⟨w.heap.size, 2, none⟩ = some (.int .i64 g.start) /\ w'.cell? ⟨w.heap.size, 3, none⟩ = some (.slice g.pa g.ps.length g.pc) /\ w'.cell? ⟨w.heap.size, 4, none⟩ = some (.slice g.la g.ls.length g.lc)) wr.drew) := KS0.out _ BD.out
    clear hiff hbd MD hW cn ck
    go_wp2
    clear x0 x1 x2 x3 x4
    refine wp_region_x (S := fun _ => (fun w' : World => w'.cell? ⟨nb, k, none⟩ = some (.bool true) /\ w'.cell? ⟨kb, k, none⟩ = some (.int .i64 hv) /\ w'.cell? ⟨w.heap.size, 0, none⟩ = some (.slice g.ta g.ts.length g.tc) /\ w'.cell? ⟨w.heap.size, 1, none⟩ = some (.slice g.na g.ns.length g.nc) /\ w'.cell? ⟨w.heap.size, 2, none⟩ = some (.int .i64 g.start) /\ w'.cell? ⟨w.heap.size, 3, none⟩ = some (.slice g.pa g.ps.length g.pc) /\ w'.cell? ⟨w.heap.size, 4, none⟩ = some (.slice g.la g.ls.length g.lc))) (by kernel_rfl) ?_
    refine takeF (i := 0) (v := ?_) rfl (by kernel_rfl) (by decide +kernel) (by decide +kernel) (fun _ _ _ h => h) (Or.inl ⟨by rfl, ?_⟩) hs.out ?_
    rotate_left
    ·(intro w hSw; (try dsimp only at hSw); go_simp; try (with_reducible rfl))
    (try simp only [Act.put, lsA, lsZ, lsN])
    refine takeF (i := 1) (v := ?_) rfl (by kernel_rfl) (by decide +kernel) (by decide +kernel) (fun _ _ _ h => h) (Or.inl ⟨by rfl, ?_⟩) hs.out ?_
    rotate_left
    ·(intro w hSw; (try dsimp only at hSw); go_simp; try (with_reducible rfl))
    (try simp only [Act.put, lsA, lsZ, lsN])
    refine takeF (i := 2) (v := ?_) rfl (by kernel_rfl) (by decide +kernel) (by decide +kernel) (fun _ _ _ h => h) (Or.inl ⟨by rfl, ?_⟩) hs.out ?_
    rotate_left
    ·(intro w hSw; (try dsimp only at hSw); go_simp; try (with_reducible rfl))
    (try simp only [Act.put, lsA, lsZ, lsN])
    refine takeF (i := 3) (v := ?_) rfl (by kernel_rfl) (by decide +kernel) (by decide +kernel) (fun _ _ _ h => h) (Or.inl ⟨by rfl, ?_⟩) hs.out ?_
    rotate_left
    ·(intro w hSw; (try dsimp only at hSw); go_simp; try (with_reducible rfl))
    (try simp only [Act.put, lsA, lsZ, lsN])
    refine takeF (i := 4) (v := ?_) rfl (by kernel_rfl) (by decide +kernel) (by decide +kernel) (fun _ _ _ h => h) (Or.inl ⟨by rfl, ?_⟩) hs.out ?_
    rotate_left
    ·(intro w hSw; (try dsimp only at hSw); go_simp; try (with_reducible rfl))
    (try simp only [Act.put, lsA, lsZ, lsN])
    refine takeF (i := 5) (v := ?_) rfl (by kernel_rfl) (by decide +kernel) (by decide +kernel) (fun _ _ _ h => h) (Or.inl ⟨by rfl, ?_⟩) hs.out ?_
    rotate_left
    ·(intro w hSw; (try dsimp only at hSw); go_simp; try (with_reducible rfl))
    (try simp only [Act.put, lsA, lsZ, lsN])
    refine takeF (i := 6) (v := ?_) rfl (by kernel_rfl) (by decide +kernel) (by decide +kernel) (fun _ _ _ h => h) (Or.inl ⟨by rfl, ?_⟩) hs.out ?_
    rotate_left
    ·(intro w hSw; (try dsimp only at hSw); go_simp; try (with_reducible rfl))
    (try simp only [Act.put, lsA, lsZ, lsN])
    refine takeF (i := 7) (v := ?_) rfl (by kernel_rfl) (by decide +kernel) (by decide +kernel) (fun _ _ _ h => h) (Or.inl ⟨by rfl, ?_⟩) hs.out ?_
    rotate_left
    ·(intro w hSw; (try dsimp only at hSw); go_simp; try (with_reducible rfl))
    (try simp only [Act.put, lsA, lsZ, lsN])
    refine takeF (i := 8) (v := ?_) rfl (by kernel_rfl) (by decide +kernel) (by decide +kernel) (fun _ _ _ h => h) (Or.inl ⟨by rfl, ?_⟩) hs.out ?_
    rotate_left
    ·(intro w hSw; (try dsimp only at hSw); go_simp; try (with_reducible rfl))
    (try simp only [Act.put, lsA, lsZ, lsN])
    refine takeF (i := 9) (v := ?_) rfl (by kernel_rfl) (by decide +kernel) (by decide +kernel) (fun _ _ _ h => h) (Or.inl ⟨by rfl, ?_⟩) hs.out ?_
    rotate_left
    ·(intro w hSw; (try dsimp only at hSw); go_simp; try (with_reducible rfl))
    (try simp only [Act.put, lsA, lsZ, lsN])
    refine takeF (i := 10) (v := ?_) rfl (by kernel_rfl) (by decide +kernel) (by decide +kernel) (fun _ _ _ h => h) (Or.inl ⟨by rfl, ?_⟩) hs.out ?_
    rotate_left
    ·(intro w hSw; (try dsimp only at hSw); go_simp; try (with_reducible rfl))
    (try simp only [Act.put, lsA, lsZ, lsN])
    refine takeF (i := 11) (v := ?_) rfl (by kernel_rfl) (by decide +kernel) (by decide +kernel) (fun _ _ _ h => h) (Or.inl ⟨by rfl, ?_⟩) hs.out ?_
    rotate_left
    ·(intro w hSw; (try dsimp only at hSw); go_simp; try (with_reducible rfl))
    (try simp only [Act.put, lsA, lsZ, lsN])
    refine takeF (i := 12) (v := ?_) rfl (by kernel_rfl) (by decide +kernel) (by decide +kernel) (fun _ _ _ h => h) (Or.inl ⟨by rfl, ?_⟩) hs.out ?_
    rotate_left
    ·(intro w hSw; (try dsimp only at hSw); go_simp; try (with_reducible rfl))
    (try simp only [Act.put, lsA, lsZ, lsN])
    refine takeF (i := 13) (v := ?_) rfl (by kernel_rfl) (by decide +kernel) (by decide +kernel) (fun _ _ _ h => h) (Or.inl ⟨by rfl, ?_⟩) hs.out ?_
    rotate_left
    ·(intro w hSw; (try dsimp only at hSw); go_simp; try (with_reducible rfl))
    (try simp only [Act.put, lsA, lsZ, lsN])
    refine takeF (i := 14) (v := ?_) rfl (by kernel_rfl) (by decide +kernel) (by decide +kernel) (fun _ _ _ h => h) (Or.inl ⟨by rfl, ?_⟩) hs.out ?_
    rotate_left
    ·(intro w hSw; (try dsimp only at hSw); go_simp; try (with_reducible rfl))
    (try simp only [Act.put, lsA, lsZ, lsN])
    refine takeF (i := 15) (v := ?_) rfl (by kernel_rfl) (by decide +kernel) (by decide +kernel) (fun _ _ _ h => h) (Or.inl ⟨by rfl, ?_⟩) hs.out ?_
    rotate_left
    ·(intro w hSw; (try dsimp only at hSw); go_simp; try (with_reducible rfl))
    (try simp only [Act.put, lsA, lsZ, lsN])
    refine takeF (i := 16) (v := ?_) rfl (by kernel_rfl) (by decide +kernel) (by decide +kernel) (fun _ _ _ h => h) (Or.inl ⟨by rfl, ?_⟩) hs.out ?_
    rotate_left
    ·(intro w hSw; (try dsimp only at hSw); go_simp; try (with_reducible rfl))
    (try simp only [Act.put, lsA, lsZ, lsN])
    refine takeF (i := 17) (v := ?_) rfl (by kernel_rfl) (by decide +kernel) (by decide +kernel) (fun _ _ _ h => h) (Or.inl ⟨by rfl, ?_⟩) hs.out ?_
    rotate_left
    ·(intro w hSw; (try dsimp only at hSw); go_simp; try (with_reducible rfl))
    (try simp only [Act.put, lsA, lsZ, lsN])
    refine takeF (i := 18) (v := ?_) rfl (by kernel_rfl) (by decide +kernel) (by decide +kernel) (fun _ _ _ h => h) (Or.inl ⟨by rfl, ?_⟩) hs.out ?_
    rotate_left
    ·(intro w hSw; (try dsimp only at hSw); go_simp; try (with_reducible rfl))
    (try simp only [Act.put, lsA, lsZ, lsN])
    refine wpAnyX_one (j := 19) (by decide +kernel) rfl (fun K' hK => ?_)
    refine step_callXG (by rfl) 10 #[g.val, .slice (some ⟨kb, 0, none⟩) g.ns.length g.ns.length, .int .i64 (k : Int)] _ (run_made (v0 := g.val) (v1 := .slice (some ⟨kb, 0, none⟩) g.ns.length g.ns.length) (v2 := .int .i64 (k : Int)) (by rfl) (by rfl) (by rfl) (by rfl) _) (MD1.out _ BD.out) ?_
    rintro e w9 ⟨rfl, b9⟩
    have B9 : Hid (Below wr.heap.size wr w9) := BD.out.trans b9
    clear b9 hs
    have hs : Hid ((fun w' : World => w'.cell? ⟨nb, k, none⟩ = some (.bool true) /\ w'.cell? ⟨kb, k, none⟩ = some (.int .i64 hv) /\ w'.cell? ⟨w.heap.size, 0, none⟩ = some (.slice g.ta g.ts.length g.tc) /\ w'.cell? ⟨w.heap.size, 1, none⟩ = some (.slice g.na g.ns.length g.nc) /\ w'.cell? ⟨w.heap.size, 2, none⟩ = some (.int .i64 g.start) /\ w'.cell? ⟨w.heap.size, 3, none⟩ = some (.slice g.pa g.ps.length g.pc) /\ w'.cell? ⟨w.heap.size, 4, none⟩ = some (.slice g.la g.ls.length g.lc)) w9) := KS0.out _ B9.out
    refine ⟨_, rfl, hK.out _ _ hs.out ?_⟩
    clear hK K'
    (try simp only [Act.put, lsA, lsZ, lsN])
    refine takeF (i := 20) (v := ?_) rfl (by kernel_rfl) (by decide +kernel) (by decide +kernel) (fun _ _ _ h => h) (Or.inl ⟨by rfl, ?_⟩) hs.out ?_
    rotate_left
    ·(intro w hSw; (try dsimp only at hSw); go_simp; try (with_reducible rfl))
    (try simp only [Act.put, lsA, lsZ, lsN])
    refine takeF (i := 21) (v := ?_) rfl (by kernel_rfl) (by decide +kernel) (by decide +kernel) (fun _ _ _ h => h) (Or.inl ⟨by rfl, ?_⟩) hs.out ?_
    rotate_left
    ·(intro w hSw; (try dsimp only at hSw); go_simp; try (with_reducible rfl))
    (try simp only [Act.put, lsA, lsZ, lsN])
    refine takeF (i := 22) (v := ?_) rfl (by kernel_rfl) (by decide +kernel) (by decide +kernel) (fun _ _ _ h => h) (Or.inl ⟨by rfl, ?_⟩) hs.out ?_
    rotate_left
    ·(intro w hSw; (try dsimp only at hSw); go_simp; try (with_reducible rfl))
    (try simp only [Act.put, lsA, lsZ, lsN])
    refine wpAnyX_done (by decide +kernel) ?_
    clear hs KS0
    have R9 : Hid (WW g w nb fb kb F w9) := HW.out.any B9.out
    go_wp2
    go_roundw
    case rel => exact ⟨k + 1, by omega, by go_num, R9.out⟩
    case measure => simp [intOf]; omega
  ·have klt : ¬ (k : Int) < (g.ns.length : Int) := by omega
   clear hW
   go_wp2_with (go_at_call 11; refine (WC.out _ HW.out.bel).mono ?_)
   rintro e w7 ⟨bad, ya, yb, rfl, b7⟩
   have B7 : Hid (WW g w nb fb kb F (w7.alloc (.cells #[.int .i64 ya, .int .i64 yb] 43))) := (HW.out.any b7).any (below_alloc _ _)
   clear b7 x0 x1 x2 x3 x4 HW
   by_cases h71 : bad = 71
   ·have e1 : (bad == 71) = true := by simpa using h71
    clear h71
    go_wp2
    go_ret
    exact ⟨rfl, B7.out.bel⟩
   have e1 : (bad == 71) = false := by simpa using h71
   clear h71
   by_cases h72 : bad = 72
   ·have e2 : (bad == 72) = true := by simpa using h72
    clear h72
    go_wp2
    go_ret
    exact ⟨rfl, B7.out.bel⟩
   have e2 : (bad == 72) = false := by simpa using h72
   clear h72
   go_wp2
   generalize w7.alloc (.cells #[.int .i64 ya, .int .i64 yb] 43) = w8 at *
   go_loopw [12] (fun z wr => ∃ k : Nat, k <= g.ns.length /\ z = .int .i64 k /\ WW g w nb fb kb F wr) (fun z _ => g.ns.length - (intOf z).toNat)
   case atStart => exact ⟨0, Nat.zero_le _, rfl, B7.out⟩
   case round =>
    clear B7 hk klt hlt
    obtain ⟨k, hk, rfl, hW⟩ := hrel
    have HW : Hid (WW g w nb fb kb F wr) := hW
    obtain ⟨x0, x1, x2, x3, x4⟩ := gb_cells hW.box
    by_cases hlt : k < g.ns.length
    ·have klt : (k : Int) < (g.ns.length : Int) := by omega
     have hkF : k < (listsU F).length := by rw [HLF.out F HF.out]; exact hlt
     have HLS : Hid (∀ w', Below wr.heap.size wr w' -> fb < w'.heap.size /\ ∃ a c, w'.cell? ⟨fb, k, none⟩ = some (.slice a ((listsU F).getD k []).length c) /\ InRow w' a ((listsU F).getD k [])) := fun w' hb => lsrow_get (hW.any hb).ls hkF
     obtain ⟨hab, la, lc, c0, hrow⟩ := lsrow_get hW.ls hkF
     have HTM : Hid (∀ x ∈ (listsU F).getD k [], 0 <= x /\ x < 128 /\ hasS (F.getD k (0, 0)) x.toNat = true) := fun x hx => by
      have e : (listsU F).getD k [] = listS (F.getD k (0, 0)) 128 := by
       have : k < F.length := by simpa [listsU] using hkF
       simp [listsU, List.getD, this]
      rw [e] at hx
      exact (listS_mem _ 128 x).1 hx
     have hll : ((listsU F).getD k []).length <= 128 := by
      have e : (listsU F).getD k [] = listS (F.getD k (0, 0)) 128 := by
       have : k < F.length := by simpa [listsU] using hkF
       simp [listsU, List.getD, this]
      rw [e]
      exact listS_len _ 128
     obtain ⟨l, hl⟩ : ∃ l, (listsU F).getD k [] = l := ⟨_, rfl⟩
     rw [hl] at c0 hrow HTM hll
     have HCR : Hid (∀ w', Below wr.heap.size wr w' -> w'.cell? ⟨fb, k, none⟩ = some (.slice la l.length lc) /\ InRow w' la l) := fun w' hb => ⟨(hb.cell (p := ⟨fb, k, none⟩) hab).trans c0, hrow.later hb⟩
     clear hl HLS hkF hrow hab hW
     obtain ⟨wz, rfl⟩ : ∃ wz : World, wz = wr := ⟨_, rfl⟩
     go_wp2
     clear c0
     go_loopw [13] (fun z wr => ∃ q : Nat, q <= l.length /\ z = .int .i64 q /\ Below wz.heap.size wz wr) (fun z _ => l.length - (intOf z).toNat)
     case atStart => exact ⟨0, Nat.zero_le _, rfl, Below.refl _ _⟩
     case round =>
      clear x0 x1 x2 x3 x4
      obtain ⟨q, hq, rfl, hB⟩ := hrel
      have HB : Hid (Below wz.heap.size wz wr) := hB
      obtain ⟨c0, hrow⟩ := HCR.out _ hB
      by_cases hql : q < l.length
      ·have qlt : (q : Int) < (l.length : Int) := by omega
       obtain ⟨rb, ro, hla, hrb, hrc⟩ := hrow (by intro e; rw [e] at hql; simp at hql)
       subst hla
       have c1 := hrc q hql
       obtain ⟨y0, y1, y2⟩ := HTM.out (l.getD q 0) (by simp [List.getD, hql])
       have BG : Hid (∀ w', Below wr.heap.size wr w' -> Calls Try.prog 12 #[g.val, .slice (some ⟨nb, 0, none⟩) g.ns.length g.ns.length, .int .i64 (k : Int), .int .i64 (l.getD q 0)] w' fun e w'' => e = .returned (.bool true) /\ Below w'.heap.size w' w'') := fun w' hb => by
        have W' := HW.out.any (hB.trans (hb.mono hB.size))
        exact begins_S g nb F k (l.getD q 0) w' (HFG.out _ W'.bel) W'.bb HF.out hlt ⟨y0, y1⟩ y2
       have HFL : Hid (fb < wr.heap.size) := by
        have := World.block_lt_of_cell? wr ⟨fb, k, none⟩ c0
        exact this
       generalize l.getD q 0 = t at *
       have KS0 : Hid (∀ w', Below wr.heap.size wr w' -> (fun w' : World => w'.cell? ⟨fb, k, none⟩ = some (.slice (some ⟨rb, ro, none⟩) l.length lc) /\ w'.cell? ⟨rb, ro + q, none⟩ = some (.int .i64 t) /\ w'.cell? ⟨w.heap.size, 0, none⟩ = some (.slice g.ta g.ts.length g.tc) /\ w'.cell? ⟨w.heap.size, 1, none⟩ = some (.slice g.na g.ns.length g.nc) /\ w'.cell? ⟨w.heap.size, 2, none⟩ = some (.int .i64 g.start) /\ w'.cell? ⟨w.heap.size, 3, none⟩ = some (.slice g.pa g.ps.length g.pc) /\ w'.cell? ⟨w.heap.size, 4, none⟩ = some (.slice g.la g.ls.length g.lc)) w') := fun w' hb => ⟨((hb.cell (p := ⟨fb, k, none⟩) HFL.out).trans c0), (hb.cell (p := ⟨rb, ro + q, none⟩) hrb).trans c1, gb_cells (HW.out.any (HB.out.trans (hb.mono HB.out.size))).box⟩
       have BD : Hid (Below wr.heap.size wr wr.drew) := (Below.refl _ _).drew
       have hs : Hid ((fun w' : World => w'.cell? ⟨fb, k, none⟩ = some (.slice (some ⟨rb, ro, none⟩) l.length lc) /\ w'.cell? ⟨rb, ro + q, none⟩ = some (.int .i64 t) /\ w'.cell? ⟨w.heap.size, 0, none⟩ = some (.slice g.ta g.ts.length g.tc) /\ w'.cell? ⟨w.heap.size, 1, none⟩ = some (.slice g.na g.ns.length g.nc) /\ w'.cell? ⟨w.heap.size, 2, none⟩ = some (.int .i64 g.start) /\ w'.cell? ⟨w.heap.size, 3, none⟩ = some (.slice g.pa g.ps.length g.pc) /\ w'.cell? ⟨w.heap.size, 4, none⟩ = some (.slice g.la g.ls.length g.lc)) wr.drew) := KS0.out _ BD.out
       clear hrow hrc c1 y0 y1 y2 hB
       go_wp2
       clear c0
       refine wp_region_x (S := fun _ => (fun w' : World => w'.cell? ⟨fb, k, none⟩ = some (.slice (some ⟨rb, ro, none⟩) l.length lc) /\ w'.cell? ⟨rb, ro + q, none⟩ = some (.int .i64 t) /\ w'.cell? ⟨w.heap.size, 0, none⟩ = some (.slice g.ta g.ts.length g.tc) /\ w'.cell? ⟨w.heap.size, 1, none⟩ = some (.slice g.na g.ns.length g.nc) /\ w'.cell? ⟨w.heap.size, 2, none⟩ = some (.int .i64 g.start) /\ w'.cell? ⟨w.heap.size, 3, none⟩ = some (.slice g.pa g.ps.length g.pc) /\ w'.cell? ⟨w.heap.size, 4, none⟩ = some (.slice g.la g.ls.length g.lc))) (by kernel_rfl) ?_
       refine takeF (i := 0) (v := ?_) rfl (by kernel_rfl) (by decide +kernel) (by decide +kernel) (fun _ _ _ h => h) (Or.inl ⟨by rfl, ?_⟩) hs.out ?_
       rotate_left
       ·(intro w hSw; (try dsimp only at hSw); go_simp; try (with_reducible rfl))
       (try simp only [Act.put, lsA, lsZ, lsN])
       refine takeF (i := 1) (v := ?_) rfl (by kernel_rfl) (by decide +kernel) (by decide +kernel) (fun _ _ _ h => h) (Or.inl ⟨by rfl, ?_⟩) hs.out ?_
       rotate_left
       ·(intro w hSw; (try dsimp only at hSw); go_simp; try (with_reducible rfl))
       (try simp only [Act.put, lsA, lsZ, lsN])
       refine takeF (i := 2) (v := ?_) rfl (by kernel_rfl) (by decide +kernel) (by decide +kernel) (fun _ _ _ h => h) (Or.inl ⟨by rfl, ?_⟩) hs.out ?_
       rotate_left
       ·(intro w hSw; (try dsimp only at hSw); go_simp; try (with_reducible rfl))
       (try simp only [Act.put, lsA, lsZ, lsN])
       refine takeF (i := 3) (v := ?_) rfl (by kernel_rfl) (by decide +kernel) (by decide +kernel) (fun _ _ _ h => h) (Or.inl ⟨by rfl, ?_⟩) hs.out ?_
       rotate_left
       ·(intro w hSw; (try dsimp only at hSw); go_simp; try (with_reducible rfl))
       (try simp only [Act.put, lsA, lsZ, lsN])
       refine takeF (i := 4) (v := ?_) rfl (by kernel_rfl) (by decide +kernel) (by decide +kernel) (fun _ _ _ h => h) (Or.inl ⟨by rfl, ?_⟩) hs.out ?_
       rotate_left
       ·(intro w hSw; (try dsimp only at hSw); go_simp; try (with_reducible rfl))
       (try simp only [Act.put, lsA, lsZ, lsN])
       refine takeF (i := 5) (v := ?_) rfl (by kernel_rfl) (by decide +kernel) (by decide +kernel) (fun _ _ _ h => h) (Or.inl ⟨by rfl, ?_⟩) hs.out ?_
       rotate_left
       ·(intro w hSw; (try dsimp only at hSw); go_simp; try (with_reducible rfl))
       (try simp only [Act.put, lsA, lsZ, lsN])
       refine takeF (i := 6) (v := ?_) rfl (by kernel_rfl) (by decide +kernel) (by decide +kernel) (fun _ _ _ h => h) (Or.inl ⟨by rfl, ?_⟩) hs.out ?_
       rotate_left
       ·(intro w hSw; (try dsimp only at hSw); go_simp; try (with_reducible rfl))
       (try simp only [Act.put, lsA, lsZ, lsN])
       refine takeF (i := 7) (v := ?_) rfl (by kernel_rfl) (by decide +kernel) (by decide +kernel) (fun _ _ _ h => h) (Or.inl ⟨by rfl, ?_⟩) hs.out ?_
       rotate_left
       ·(intro w hSw; (try dsimp only at hSw); go_simp; try (with_reducible rfl))
       (try simp only [Act.put, lsA, lsZ, lsN])
       refine takeF (i := 8) (v := ?_) rfl (by kernel_rfl) (by decide +kernel) (by decide +kernel) (fun _ _ _ h => h) (Or.inl ⟨by rfl, ?_⟩) hs.out ?_
       rotate_left
       ·(intro w hSw; (try dsimp only at hSw); go_simp; try (with_reducible rfl))
       (try simp only [Act.put, lsA, lsZ, lsN])
       refine takeF (i := 9) (v := ?_) rfl (by kernel_rfl) (by decide +kernel) (by decide +kernel) (fun _ _ _ h => h) (Or.inl ⟨by rfl, ?_⟩) hs.out ?_
       rotate_left
       ·(intro w hSw; (try dsimp only at hSw); go_simp; try (with_reducible rfl))
       (try simp only [Act.put, lsA, lsZ, lsN])
       refine wpAnyX_one (j := 10) (by decide +kernel) rfl (fun K' hK => ?_)
       refine step_callXG (by rfl) 12 #[g.val, .slice (some ⟨nb, 0, none⟩) g.ns.length g.ns.length, .int .i64 (k : Int), .int .i64 t] _ (run_begins (v0 := g.val) (v1 := .slice (some ⟨nb, 0, none⟩) g.ns.length g.ns.length) (v2 := .int .i64 (k : Int)) (v3 := .int .i64 t) (by rfl) (by rfl) (by rfl) (by rfl) (by rfl) _) (BG.out _ BD.out) ?_
       rintro e w9 ⟨rfl, b9⟩
       have B9 : Hid (Below wr.heap.size wr w9) := BD.out.trans b9
       clear b9 hs
       have hs : Hid ((fun w' : World => w'.cell? ⟨fb, k, none⟩ = some (.slice (some ⟨rb, ro, none⟩) l.length lc) /\ w'.cell? ⟨rb, ro + q, none⟩ = some (.int .i64 t) /\ w'.cell? ⟨w.heap.size, 0, none⟩ = some (.slice g.ta g.ts.length g.tc) /\ w'.cell? ⟨w.heap.size, 1, none⟩ = some (.slice g.na g.ns.length g.nc) /\ w'.cell? ⟨w.heap.size, 2, none⟩ = some (.int .i64 g.start) /\ w'.cell? ⟨w.heap.size, 3, none⟩ = some (.slice g.pa g.ps.length g.pc) /\ w'.cell? ⟨w.heap.size, 4, none⟩ = some (.slice g.la g.ls.length g.lc)) w9) := KS0.out _ B9.out
       refine ⟨_, rfl, hK.out _ _ hs.out ?_⟩
       clear hK K'
       (try simp only [Act.put, lsA, lsZ, lsN])
       refine takeF (i := 11) (v := ?_) rfl (by kernel_rfl) (by decide +kernel) (by decide +kernel) (fun _ _ _ h => h) (Or.inl ⟨by rfl, ?_⟩) hs.out ?_
       rotate_left
       ·(intro w hSw; (try dsimp only at hSw); go_simp; try (with_reducible rfl))
       (try simp only [Act.put, lsA, lsZ, lsN])
       refine wpAnyX_done (by decide +kernel) ?_
       clear hs KS0
       have R9 : Hid (Below wz.heap.size wz w9) := HB.out.trans (B9.out.mono HB.out.size)
       go_wp2
       go_roundw
       case rel => exact ⟨q + 1, by omega, by go_num, R9.out⟩
       case measure => simp [intOf]; omega
      ·have qlt : ¬ (q : Int) < (l.length : Int) := by omega
       have R : Hid (WW g w nb fb kb F wr) := HW.out.any hB
       clear hrow hB
       go_wp2
       go_roundw
       case rel => exact ⟨k + 1, by omega, by go_num, R.out⟩
       case measure => simp [intOf]; omega
    ·have klt : ¬ (k : Int) < (g.ns.length : Int) := by omega
     clear hW
     go_wp2
     go_ret
     exact ⟨rfl, HW.out.bel⟩
theorem witness_walk (g : GV) (w : World) (h : GAt 140737488355328 w g) (hpc : g.ps.length <= g.pc) (hcap : ∀ p ∈ g.ps, p.right.length <= p.rc) :
  Calls Try.prog 3 #[g.val] w fun e w' => e = .returned (.bool true) /\ Below w.heap.size w w' := by
 by_cases h0 : (checkG g (checkF g.ts g.ns)).1 = 0
 ·exact witness_ok g w h hpc (checkG g (checkF g.ts g.ns)).2 (by rw [<- h0]) hcap
 ·exact witness_no g w h hpc _ _ rfl h0
end Go.Proofs.Ytaiebnppfabfgaa
