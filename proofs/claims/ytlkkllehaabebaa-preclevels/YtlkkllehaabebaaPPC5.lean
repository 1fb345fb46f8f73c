import Derived.Test.YtlkkllehaabebaaPPC4
namespace Go.Proofs.Ytlkkllehaabebaa
set_option linter.unusedVariables false
set_option maxRecDepth 100000
set_option maxHeartbeats 16000000
open Go.RowKit Go.Maps
theorem okc_sym {g : GV} (h : OkC g) (i : Nat) (hi : i < g.ps.length) : ∀ s ∈ (g.ps.getD i .none).right, SymIn g.ns.length s := fun s hs => by
 have h0 := h.ps i hi
 have e : ((g.ps.getD i .none).right.any fun s => !inG g s.1 s.2) = false := by
  cases q : ((g.ps.getD i .none).right.any fun s => !inG g s.1 s.2) with
  | false => rfl
  | true =>
   exfalso
   unfold prodU at h0
   rw [q] at h0
   split at h0
   ·exact absurd h0 (by decide)
   ·split at h0
    ·exact absurd h0 (by decide)
    ·simp at h0
 rw [List.any_eq_false] at e
 have := e s hs
 have ht := h.tl.2
 unfold inG inT inN at this
 unfold SymIn
 by_cases h1 : s.1 = 1
 ·simp [h1] at this
  exact .inl ⟨h1, by omega, by omega⟩
 ·by_cases h2 : s.1 = 2
  ·simp [h2] at this
   exact .inr ⟨h2, by omega, by omega⟩
  ·simp [h1, h2] at this
theorem one_int (w : World) (x : Int) : ∀ (j : Nat) (u : Value), (inC x)[j]? = some u -> (w.alloc (.cells #[.int .i64 x] 3)).cell? ⟨w.heap.size, j, none⟩ = some u := fun j u hu => by
 rw [cellq_any (heap_alloc_new _ _)]
 match j with
 | 0 => simpa [inC] using hu
 | j + 1 => simp [inC] at hu
theorem JW.holdT {g : GV} {w0 : World} {jb mb : Nat} {tv pv tv' : Value} {T P : List Int} {w w' : World} (h : JW g w0 jb mb tv pv T P w) (hg : Grew w w' tv tv') : w'.heap[w0.heap.size]? = some (gBox g) /\ w'.heap[jb]? = some (.cells #[.slice g.la g.ls.length g.lc, tv, pv, .map (some mb)] 134 (0, 0)) :=
 ⟨grew_ne hg h.gb fun e => by obtain ⟨_, _, q⟩ := h.t.ty e; rw [h.gb] at q; simp [gBox] at q, grew_ne hg h.j fun e => by obtain ⟨_, _, q⟩ := h.t.ty e; rw [h.j] at q; simp at q⟩
theorem JW.holdP {g : GV} {w0 : World} {jb mb : Nat} {tv pv pv' : Value} {T P : List Int} {w w' : World} (h : JW g w0 jb mb tv pv T P w) (hg : Grew w w' pv pv') : w'.heap[w0.heap.size]? = some (gBox g) /\ w'.heap[jb]? = some (.cells #[.slice g.la g.ls.length g.lc, tv, pv, .map (some mb)] 134 (0, 0)) :=
 ⟨grew_ne hg h.gb fun e => by obtain ⟨_, _, q⟩ := h.p.ty e; rw [h.gb] at q; simp [gBox] at q, grew_ne hg h.j fun e => by obtain ⟨_, _, q⟩ := h.p.ty e; rw [h.j] at q; simp at q⟩
set_option linter.unusedSimpArgs false in
theorem judgeOf_P (g : GV) (w : World) (h : GAt 140737488355328 w g) (ok : OkC g) :
  Calls Try.prog 37 #[g.val] w fun e w' => ∃ jb, e = .returned (.pointer (some ⟨jb, 0, none⟩)) /\ JU g jb w' /\ w.heap.size <= jb /\ Below w.heap.size w w' := by
 have X0 : Hid ((w.alloc (gBox g)).heap[w.heap.size]? = some (gBox g)) := heap_alloc_new _ _
 have GS : Hid (∀ w', Below (w.alloc (gBox g)).heap.size (w.alloc (gBox g)) w' -> (fun w' : World => w'.cell? ⟨w.heap.size, 4, none⟩ = some (.slice g.la g.ls.length g.lc)) w') := fun w' hb => (gb_cells (blk_later X0.out hb)).2.2.2.2
 have hs : Hid ((fun w' : World => w'.cell? ⟨w.heap.size, 4, none⟩ = some (.slice g.la g.ls.length g.lc)) (w.alloc (gBox g)).drew) := GS.out _ (Below.refl _ _).drew
 have HG : Hid (∀ w', Below w.heap.size w w' -> GAt 140737488355328 w' g) := fun w' hb => h.later hb
 have OK : Hid (OkC g) := ok
 have hn : Hid (Below w.heap.size w (w.alloc (gBox g))) := below_alloc _ _
 clear h ok
 go_enter Try.func37, Try.ntmps37
 go_wp2
 refine wp_region_x (S := fun _ => (fun w' : World => w'.cell? ⟨w.heap.size, 4, none⟩ = some (.slice g.la g.ls.length g.lc))) (by kernel_rfl) ?_
 refine takeF (i := 0) (v := ?_) rfl (by kernel_rfl) (by decide +kernel) (by decide +kernel) (fun _ _ _ h => h) (Or.inl ⟨by rfl, ?_⟩) hs.out ?_
 rotate_left
 ·(intro w hSw; (try dsimp only at hSw); go_simp; try (with_reducible rfl))
 (try simp only [Act.put, lsA, lsZ, lsN])
 refine takeF (i := 1) (v := ?_) rfl (by kernel_rfl) (by decide +kernel) (by decide +kernel) (fun _ _ _ h => h) (Or.inl ⟨by rfl, ?_⟩) hs.out ?_
 rotate_left
 ·(intro w hSw; (try dsimp only at hSw); go_simp; try (with_reducible rfl))
 (try simp only [Act.put, lsA, lsZ, lsN])
 refine wpAnyX_one (j := 2) (by decide +kernel) rfl (fun K' hK => ?_)
 refine step_callX (by rfl) 71 #[] _ (run_call0 (enters_of Try.func71 (by kernel_rfl) rfl) rfl) (equals_P _) ?_
 rintro e w1 ⟨rfl, m1', b1'⟩
 have M1 : Hid (EqM w1 ((w.alloc (gBox g)).drew).heap.size /\ Below (w.alloc (gBox g)).heap.size (w.alloc (gBox g)) w1) := ⟨m1', (Below.refl _ _).drew.trans b1'⟩
 clear m1' b1'
 refine ⟨_, rfl, hK.out _ _ (GS.out _ M1.out.2) ?_⟩
 clear hK K'
 (try simp only [Act.put, lsA, lsZ, lsN])
 refine wpAnyX_one (j := 3) (by decide +kernel) rfl (fun K' hK => ?_)
 go_simp
 refine hK.out _ _ (GS.out _ M1.out.2) ?_
 clear hK K'
 (try simp only [Act.put, lsA, lsZ, lsN])
 refine wpAnyX_one (j := 4) (by decide +kernel) rfl (fun K' hK => ?_)
 go_simp
 refine hK.out _ _ (GS.out _ (M1.out.2.trans ((below_alloc _ _).mono M1.out.2.size))) ?_
 clear hK K'
 (try simp only [Act.put, lsA, lsZ, lsN])
 refine wpAnyX_one (j := 5) (by decide +kernel) rfl (fun K' hK => ?_)
 go_simp
 refine hK.out _ _ (GS.out _ (M1.out.2.trans ((below_alloc _ _).mono M1.out.2.size))) ?_
 clear hK K'
 (try simp only [Act.put, lsA, lsZ, lsN])
 refine wpAnyX_done (by decide +kernel) ?_
 have J0 : Hid (JW g w w1.heap.size (w.heap.size + 1) (.slice none 0 0) (.slice none 0 0) [] [] (w1.alloc (.cells #[.slice g.la g.ls.length g.lc, .slice none 0 0, .slice none 0 0, .map (some (w.heap.size + 1))] 134))) := by
  have bm := M1.out.2
  have hm := M1.out.1
  rw [show ((w.alloc (gBox g)).drew).heap.size = w.heap.size + 1 by simp] at hm
  have bw : Below w.heap.size w w1 := hn.out.trans (bm.mono hn.out.size)
  refine ⟨blk_later (blk_later X0.out bm) (below_alloc _ _), heap_alloc_new _ _, RO.nil _, RO.nil _, fun i e => ?_, fun i e => ?_, fun i e => ?_, hm.later (below_alloc _ _), bw.size, bw.trans ((below_alloc _ _).mono bw.size)⟩
  ·have : (none : Option Nat) = some i := e
   cases this
  ·have : (none : Option Nat) = some i := e
   cases this
  ·have : (none : Option Nat) = some i := e
   cases this
 clear GS hs M1 X0 hn
 generalize w1.alloc (.cells #[.slice g.la g.ls.length g.lc, .slice none 0 0, .slice none 0 0, .map (some (w.heap.size + 1))] 134) = W1 at *
 generalize w1.heap.size = jb at *
 obtain ⟨x0, x1, x2, x3, x4⟩ := gb_cells J0.out.gb
 go_wp2
 go_loopw [15] (fun z wr => ∃ (i : Nat) (tv : Value), i <= g.ts.length /\ z = .int .i64 i /\ JW g w jb (w.heap.size + 1) tv (.slice none 0 0) ((tlU g).take i) [] wr) (fun z _ => g.ts.length - (intOf z).toNat)
 case atStart => exact ⟨0, _, Nat.zero_le _, rfl, by rw [List.take_zero]; exact J0.out⟩
 case round =>
  clear x0 x1 x2 x3 x4 J0
  obtain ⟨i, tv, hi, rfl, hJ⟩ := hrel
  by_cases hlt : i < g.ts.length
  ·have htl := OK.out.tl.2
   have klt : (i : Int) < (g.ts.length : Int) := by omega
   obtain ⟨ta, tc, rfl, hct⟩ := hJ.t.len
   rw [show ((tlU g).take i).length = i by rw [List.length_take, tl_len]; omega] at hJ hct
   have HJ : Hid (JW g w jb (w.heap.size + 1) (.slice ta i tc) (.slice none 0 0) ((tlU g).take i) [] wr) := hJ
   have HS : Hid (∀ w', w'.heap[w.heap.size]? = some (gBox g) -> w'.heap[jb]? = some (.cells #[.slice g.la g.ls.length g.lc, .slice ta i tc, .slice none 0 0, .map (some (w.heap.size + 1))] 134 (0, 0)) -> (fun w' : World => w'.cell? ⟨w.heap.size, 0, none⟩ = some (.slice g.ta g.ts.length g.tc) /\ w'.cell? ⟨w.heap.size, 1, none⟩ = some (.slice g.na g.ns.length g.nc) /\ w'.cell? ⟨w.heap.size, 2, none⟩ = some (.int .i64 g.start) /\ w'.cell? ⟨w.heap.size, 3, none⟩ = some (.slice g.pa g.ps.length g.pc) /\ w'.cell? ⟨w.heap.size, 4, none⟩ = some (.slice g.la g.ls.length g.lc)) w' /\ (fun w' : World => w'.cell? ⟨jb, 1, none⟩ = some (.slice ta i tc)) w') := fun w' h1 h2 => by
    obtain ⟨y0, y1, y2, y3, y4⟩ := gb_cells h1
    exact ⟨⟨y0, y1, y2, y3, y4⟩, (cellq_any h2).trans rfl⟩
   have hs : Hid ((fun w' : World => w'.cell? ⟨w.heap.size, 0, none⟩ = some (.slice g.ta g.ts.length g.tc) /\ w'.cell? ⟨w.heap.size, 1, none⟩ = some (.slice g.na g.ns.length g.nc) /\ w'.cell? ⟨w.heap.size, 2, none⟩ = some (.int .i64 g.start) /\ w'.cell? ⟨w.heap.size, 3, none⟩ = some (.slice g.pa g.ps.length g.pc) /\ w'.cell? ⟨w.heap.size, 4, none⟩ = some (.slice g.la g.ls.length g.lc)) wr.drew /\ (fun w' : World => w'.cell? ⟨jb, 1, none⟩ = some (.slice ta i tc)) wr.drew) := HS.out _ (HJ.out.later (Below.refl _ _).drew).gb (HJ.out.later (Below.refl _ _).drew).j
   have HL : Hid (((tlU g).take i).length <= 1000000000) := by show _ <= _; rw [List.length_take]; have := OK.out.tl.2; omega
   have ES : Hid ((tlU g).take (i + 1) = (tlU g).take i ++ [levU g.ls (i : Int)]) := tl_step hlt
   clear hJ hct
   go_wp2
   refine wp_region_x (S := SX 12 (fun w' : World => w'.cell? ⟨w.heap.size, 0, none⟩ = some (.slice g.ta g.ts.length g.tc) /\ w'.cell? ⟨w.heap.size, 1, none⟩ = some (.slice g.na g.ns.length g.nc) /\ w'.cell? ⟨w.heap.size, 2, none⟩ = some (.int .i64 g.start) /\ w'.cell? ⟨w.heap.size, 3, none⟩ = some (.slice g.pa g.ps.length g.pc) /\ w'.cell? ⟨w.heap.size, 4, none⟩ = some (.slice g.la g.ls.length g.lc)) (fun w' : World => w'.cell? ⟨jb, 1, none⟩ = some (.slice ta i tc))) (by kernel_rfl) ?_
   refine takeK 12 7 (i := 0) (v := ?_) rfl (by kernel_rfl) (by kernel_rfl) (by decide) (by decide) (by decide +kernel) (by decide +kernel) (fun _ _ _ h => h) (by kernel_rfl) (Or.inl ⟨by rfl, ?_⟩) (SX.both hs.out.1 hs.out.2) ?_
   rotate_left
   ·(intro w hSw; (try dsimp only at hSw); go_simp; try (with_reducible rfl))
   (try simp only [Act.put, lsA, lsZ, lsN])
   refine takeK 12 7 (i := 1) (v := ?_) rfl (by kernel_rfl) (by kernel_rfl) (by decide) (by decide) (by decide +kernel) (by decide +kernel) (fun _ _ _ h => h) (by kernel_rfl) (Or.inl ⟨by rfl, ?_⟩) (SX.both hs.out.1 hs.out.2) ?_
   rotate_left
   ·(intro w hSw; (try dsimp only at hSw); go_simp; try (with_reducible rfl))
   (try simp only [Act.put, lsA, lsZ, lsN])
   refine takeK 12 7 (i := 2) (v := ?_) rfl (by kernel_rfl) (by kernel_rfl) (by decide) (by decide) (by decide +kernel) (by decide +kernel) (fun _ _ _ h => h) (by kernel_rfl) (Or.inl ⟨by rfl, ?_⟩) (SX.both hs.out.1 hs.out.2) ?_
   rotate_left
   ·(intro w hSw; (try dsimp only at hSw); go_simp; try (with_reducible rfl))
   (try simp only [Act.put, lsA, lsZ, lsN])
   refine takeK 12 7 (i := 3) (v := ?_) rfl (by kernel_rfl) (by kernel_rfl) (by decide) (by decide) (by decide +kernel) (by decide +kernel) (fun _ _ _ h => h) (by kernel_rfl) (Or.inl ⟨by rfl, ?_⟩) (SX.both hs.out.1 hs.out.2) ?_
   rotate_left
   ·(intro w hSw; (try dsimp only at hSw); go_simp; try (with_reducible rfl))
   (try simp only [Act.put, lsA, lsZ, lsN])
   refine takeK 12 7 (i := 4) (v := ?_) rfl (by kernel_rfl) (by kernel_rfl) (by decide) (by decide) (by decide +kernel) (by decide +kernel) (fun _ _ _ h => h) (by kernel_rfl) (Or.inl ⟨by rfl, ?_⟩) (SX.both hs.out.1 hs.out.2) ?_
   rotate_left
   ·(intro w hSw; (try dsimp only at hSw); go_simp; try (with_reducible rfl))
   (try simp only [Act.put, lsA, lsZ, lsN])
   refine takeK 12 7 (i := 5) (v := ?_) rfl (by kernel_rfl) (by kernel_rfl) (by decide) (by decide) (by decide +kernel) (by decide +kernel) (fun _ _ _ h => h) (by kernel_rfl) (Or.inl ⟨by rfl, ?_⟩) (SX.both hs.out.1 hs.out.2) ?_
   rotate_left
   ·(intro w hSw; (try dsimp only at hSw); go_simp; try (with_reducible rfl))
   (try simp only [Act.put, lsA, lsZ, lsN])
   refine takeK 12 7 (i := 6) (v := ?_) rfl (by kernel_rfl) (by kernel_rfl) (by decide) (by decide) (by decide +kernel) (by decide +kernel) (fun _ _ _ h => h) (by kernel_rfl) (Or.inl ⟨by rfl, ?_⟩) (SX.both hs.out.1 hs.out.2) ?_
   rotate_left
   ·(intro w hSw; (try dsimp only at hSw); go_simp; try (with_reducible rfl))
   (try simp only [Act.put, lsA, lsZ, lsN])
   refine wpAnyX_one (j := 7) (by decide +kernel) rfl (fun K' hK => ?_)
   refine step_callX (by rfl) 34 #[g.val, .int .i64 (i : Int)] _ (by apply run_call2 (enters_of Try.func34 (by kernel_rfl) rfl) <;> rfl) (levelOf_P g (i : Int) _ (HG.out _ (HJ.out.later (Below.refl _ _).drew).bel)) ?_
   rintro e w2 ⟨rfl, b2⟩
   have J2 : Hid (JW g w jb (w.heap.size + 1) (.slice ta i tc) (.slice none 0 0) ((tlU g).take i) [] w2) := (HJ.out.later (Below.refl _ _).drew).later b2
   clear b2
   refine ⟨_, rfl, hK.out _ _ (SX.both (HS.out _ J2.out.gb J2.out.j).1 (HS.out _ J2.out.gb J2.out.j).2) ?_⟩
   clear hK K'
   (try simp only [Act.put, lsA, lsZ, lsN])
   refine wpAnyX_one (j := 8) (by decide +kernel) rfl (fun K' hK => ?_)
   go_simp
   have J3 : Hid (JW g w jb (w.heap.size + 1) (.slice ta i tc) (.slice none 0 0) ((tlU g).take i) [] (w2.alloc (.cells #[.int .i64 (levU g.ls (i : Int))] 3))) := J2.out.later (below_alloc _ _)
   refine hK.out _ _ (SX.both (HS.out _ J3.out.gb J3.out.j).1 (HS.out _ J3.out.gb J3.out.j).2) ?_
   clear hK K'
   (try simp only [Act.put, lsA, lsZ, lsN])
   refine wpAnyX_one (j := 9) (by decide +kernel) rfl (fun K' hK => ?_)
   refine step_ro_append rkInt (by rfl) _ _ (by rfl) (.slice ta i tc) ((tlU g).take i) (by rfl) J3.out.t w2.heap.size 1 (levU g.ls (i : Int)) (by rfl) (one_int _ _) HL.out ?_
   intro a5 n5 c5 w5 ho5 hg5
   have J5 : Hid (JW g w jb (w.heap.size + 1) (.slice a5 n5 c5) (.slice none 0 0) ((tlU g).take (i + 1)) [] (w5.setCell ⟨jb, 1, none⟩ (.slice a5 n5 c5))) := by have := J3.out.pushT hg5 ho5; rw [ES.out]; exact this
   have K5 := J3.out.holdT hg5
   have S5 : Hid ((fun w' : World => w'.cell? ⟨w.heap.size, 0, none⟩ = some (.slice g.ta g.ts.length g.tc) /\ w'.cell? ⟨w.heap.size, 1, none⟩ = some (.slice g.na g.ns.length g.nc) /\ w'.cell? ⟨w.heap.size, 2, none⟩ = some (.int .i64 g.start) /\ w'.cell? ⟨w.heap.size, 3, none⟩ = some (.slice g.pa g.ps.length g.pc) /\ w'.cell? ⟨w.heap.size, 4, none⟩ = some (.slice g.la g.ls.length g.lc)) w5 /\ (fun w' : World => w'.cell? ⟨jb, 1, none⟩ = some (.slice ta i tc)) w5) := HS.out _ K5.1 K5.2
   have z1 : w5.cell? ⟨jb, 1, none⟩ = some (.slice ta i tc) := S5.out.2
   have g1 := frostS K5.2 1
   have hz1 := lt_of_block K5.2
   clear ho5 hg5 K5 J2 J3
   refine hK.out _ _ (SX.both S5.out.1 S5.out.2) ?_
   clear hK K'
   (try simp only [Act.put, lsA, lsZ, lsN])
   refine wpAnyX_one (j := 10) (by decide +kernel) rfl (fun K' hK => ?_)
   go_simp
   refine hK.out _ _ (SX.both S5.out.1 S5.out.2) ?_
   clear hK K'
   (try simp only [Act.put, lsA, lsZ, lsN])
   refine wpAnyX_one (j := 11) (by decide +kernel) rfl (fun K' hK => ?_)
   go_simp
   refine hK.out _ _ (SX.both S5.out.1 S5.out.2) ?_
   clear hK K'
   (try simp only [Act.put, lsA, lsZ, lsN])
   refine wpAnyX_one (j := 12) (by decide +kernel) rfl (fun K' hK => ?_)
   go_simp
   have G5 : Hid ((fun w' : World => w'.cell? ⟨w.heap.size, 0, none⟩ = some (.slice g.ta g.ts.length g.tc) /\ w'.cell? ⟨w.heap.size, 1, none⟩ = some (.slice g.na g.ns.length g.nc) /\ w'.cell? ⟨w.heap.size, 2, none⟩ = some (.int .i64 g.start) /\ w'.cell? ⟨w.heap.size, 3, none⟩ = some (.slice g.pa g.ps.length g.pc) /\ w'.cell? ⟨w.heap.size, 4, none⟩ = some (.slice g.la g.ls.length g.lc)) (w5.setCell ⟨jb, 1, none⟩ (.slice a5 n5 c5))) := by
    obtain ⟨y0, y1, y2, y3, y4⟩ := gb_cells J5.out.gb
    exact ⟨y0, y1, y2, y3, y4⟩
   refine hK.out _ _ (SX.one G5.out (by kernel_rfl)) ?_
   clear hK K'
   (try simp only [Act.put, lsA, lsZ, lsN])
   refine wpAnyX_done (by decide +kernel) ?_
   clear hs HS z1 g1 hz1
   go_wp2
   go_roundw
   case rel => exact ⟨i + 1, _, by omega, by go_num, J5.out⟩
   case measure => simp [intOf]; omega
  ·obtain rfl : i = g.ts.length := by omega
   have klt : ¬ (g.ts.length : Int) < (g.ts.length : Int) := by omega
   rw [show (tlU g).take g.ts.length = tlU g by rw [<- tl_len, List.take_length]] at hJ
   have HJ0 : Hid (JW g w jb (w.heap.size + 1) tv (.slice none 0 0) (tlU g) [] wr) := hJ
   obtain ⟨x0, x1, x2, x3, x4⟩ := gb_cells hJ.gb
   clear hJ hi
   go_wp2
   go_loopw [34] (fun z wr => ∃ (i : Nat) (pv : Value), i <= g.ps.length /\ z = .int .i64 i /\ JW g w jb (w.heap.size + 1) tv pv (tlU g) ((plU g).take i) wr) (fun z _ => g.ps.length - (intOf z).toNat)
   case atStart => exact ⟨0, _, Nat.zero_le _, rfl, by rw [List.take_zero]; exact HJ0.out⟩
   case round =>
    clear x0 x1 x2 x3 x4 HJ0 klt
    obtain ⟨i, pv, hi, rfl, hJ⟩ := hrel
    by_cases hlt : i < g.ps.length
    ·have hpl := OK.out.pl.2
     have klt : (i : Int) < (g.ps.length : Int) := by omega
     obtain ⟨pa, pc, rfl, hct⟩ := hJ.p.len
     rw [show ((plU g).take i).length = i by rw [List.length_take, pl_len]; omega] at hJ hct
     have hG := HG.out _ hJ.bel
     obtain ⟨b, o, hpa, hbl, hc⟩ := hG.p.cells (by intro e; rw [e] at hlt; simp at hlt)
     obtain ⟨c0, c1, c2⟩ := hc i hlt
     have hmem : g.ps.getD i .none ∈ g.ps := mem_getD hlt
     have hrow := hG.p.rows _ hmem
     have hrl := hG.rl _ hmem
     have hsy : ∀ s ∈ (g.ps.getD i .none).right, SymIn g.ns.length s := okc_sym OK.out i hlt
     have ES : Hid ((plU g).take (i + 1) = (plU g).take i ++ [plvU g i]) := pl_step hlt
     have EV : Hid (plvU g i = levU g.ls (ownU (g.ps.getD i .none))) := rfl
     have HT : Hid (∀ w', Below wr.heap.size wr w' -> Calls Try.prog 36 #[.agg #[.int .i64 (g.ps.getD i .none).left, .slice (g.ps.getD i .none).ra (g.ps.getD i .none).right.length (g.ps.getD i .none).rc, .int .i64 (g.ps.getD i .none).prec]] w' fun e w'' => e = .returned (.int .i64 (ownU (g.ps.getD i .none))) /\ Below w'.heap.size w' w'') := fun w' hb => terminalOf_P _ g.ns.length w' (hrow.later (Nat.le_refl _) hb) hrl hsy
     generalize plvU g i = LV1 at *
     generalize ownU (g.ps.getD i .none) = OW at *
     generalize g.ps.getD i .none = p at *
     obtain ⟨pl, pra, prc, pr, pp⟩ := p
     simp only at c0 c1 c2 hrow hrl hsy HT
     have HJ : Hid (JW g w jb (w.heap.size + 1) tv (.slice pa i pc) (tlU g) ((plU g).take i) (wr.alloc (.cells #[.int .i64 pl, .slice pra pr.length prc, .int .i64 pp] 83)) /\ (wr.alloc (.cells #[.int .i64 pl, .slice pra pr.length prc, .int .i64 pp] 83)).heap[wr.heap.size]? = some (.cells #[.int .i64 pl, .slice pra pr.length prc, .int .i64 pp] 83 (0, 0))) := ⟨hJ.later (below_alloc _ _), heap_alloc_new _ _⟩
     have HS : Hid (∀ w', w'.heap[w.heap.size]? = some (gBox g) -> w'.heap[jb]? = some (.cells #[.slice g.la g.ls.length g.lc, tv, .slice pa i pc, .map (some (w.heap.size + 1))] 134 (0, 0)) -> w'.heap[wr.heap.size]? = some (.cells #[.int .i64 pl, .slice pra pr.length prc, .int .i64 pp] 83 (0, 0)) -> (fun w' : World => (w'.cell? ⟨w.heap.size, 0, none⟩ = some (.slice g.ta g.ts.length g.tc) /\ w'.cell? ⟨w.heap.size, 1, none⟩ = some (.slice g.na g.ns.length g.nc) /\ w'.cell? ⟨w.heap.size, 2, none⟩ = some (.int .i64 g.start) /\ w'.cell? ⟨w.heap.size, 3, none⟩ = some (.slice g.pa g.ps.length g.pc) /\ w'.cell? ⟨w.heap.size, 4, none⟩ = some (.slice g.la g.ls.length g.lc)) /\ w'.cell? ⟨wr.heap.size, 0, none⟩ = some (.int .i64 pl) /\ w'.cell? ⟨wr.heap.size, 1, none⟩ = some (.slice pra pr.length prc) /\ w'.cell? ⟨wr.heap.size, 2, none⟩ = some (.int .i64 pp)) w' /\ (fun w' : World => w'.cell? ⟨jb, 2, none⟩ = some (.slice pa i pc)) w') := fun w' h1 h2 h3 => by
      obtain ⟨y0, y1, y2, y3, y4⟩ := gb_cells h1
      exact ⟨⟨⟨y0, y1, y2, y3, y4⟩, (cellq_any h3).trans rfl, (cellq_any h3).trans rfl, (cellq_any h3).trans rfl⟩, (cellq_any h2).trans rfl⟩
     have hs : Hid ((fun w' : World => (w'.cell? ⟨w.heap.size, 0, none⟩ = some (.slice g.ta g.ts.length g.tc) /\ w'.cell? ⟨w.heap.size, 1, none⟩ = some (.slice g.na g.ns.length g.nc) /\ w'.cell? ⟨w.heap.size, 2, none⟩ = some (.int .i64 g.start) /\ w'.cell? ⟨w.heap.size, 3, none⟩ = some (.slice g.pa g.ps.length g.pc) /\ w'.cell? ⟨w.heap.size, 4, none⟩ = some (.slice g.la g.ls.length g.lc)) /\ w'.cell? ⟨wr.heap.size, 0, none⟩ = some (.int .i64 pl) /\ w'.cell? ⟨wr.heap.size, 1, none⟩ = some (.slice pra pr.length prc) /\ w'.cell? ⟨wr.heap.size, 2, none⟩ = some (.int .i64 pp)) (wr.alloc (.cells #[.int .i64 pl, .slice pra pr.length prc, .int .i64 pp] 83)).drew /\ (fun w' : World => w'.cell? ⟨jb, 2, none⟩ = some (.slice pa i pc)) (wr.alloc (.cells #[.int .i64 pl, .slice pra pr.length prc, .int .i64 pp] 83)).drew) := HS.out _ HJ.out.1.gb HJ.out.1.j HJ.out.2
     have HL : Hid (((plU g).take i).length <= 1000000000) := by show _ <= _; rw [List.length_take]; have := OK.out.pl.2; rw [pl_len]; omega
     have HPN : Hid (wr.heap.size ≠ jb /\ ∀ j, (Value.slice pa i pc).ownBlock = some j -> j < wr.heap.size) := ⟨fun e => by have := lt_of_block hJ.j; omega, hJ.p.lt⟩
     clear hJ hct hG hc hmem hrow hrl hsy
     rw [hpa]
     clear hpa
     go_wp2
     refine wp_region_x (S := SX 13 (fun w' : World => (w'.cell? ⟨w.heap.size, 0, none⟩ = some (.slice g.ta g.ts.length g.tc) /\ w'.cell? ⟨w.heap.size, 1, none⟩ = some (.slice g.na g.ns.length g.nc) /\ w'.cell? ⟨w.heap.size, 2, none⟩ = some (.int .i64 g.start) /\ w'.cell? ⟨w.heap.size, 3, none⟩ = some (.slice g.pa g.ps.length g.pc) /\ w'.cell? ⟨w.heap.size, 4, none⟩ = some (.slice g.la g.ls.length g.lc)) /\ w'.cell? ⟨wr.heap.size, 0, none⟩ = some (.int .i64 pl) /\ w'.cell? ⟨wr.heap.size, 1, none⟩ = some (.slice pra pr.length prc) /\ w'.cell? ⟨wr.heap.size, 2, none⟩ = some (.int .i64 pp)) (fun w' : World => w'.cell? ⟨jb, 2, none⟩ = some (.slice pa i pc))) (by kernel_rfl) ?_
     refine takeK 13 7 (i := 0) (v := ?_) rfl (by kernel_rfl) (by kernel_rfl) (by decide) (by decide) (by decide +kernel) (by decide +kernel) (fun _ _ _ h => h) (by kernel_rfl) (Or.inl ⟨by rfl, ?_⟩) (SX.both hs.out.1 hs.out.2) ?_
     rotate_left
     ·(intro w hSw; (try dsimp only at hSw); go_simp; try (with_reducible rfl))
     (try simp only [Act.put, lsA, lsZ, lsN])
     refine takeK 13 7 (i := 1) (v := ?_) rfl (by kernel_rfl) (by kernel_rfl) (by decide) (by decide) (by decide +kernel) (by decide +kernel) (fun _ _ _ h => h) (by kernel_rfl) (Or.inl ⟨by rfl, ?_⟩) (SX.both hs.out.1 hs.out.2) ?_
     rotate_left
     ·(intro w hSw; (try dsimp only at hSw); go_simp; try (with_reducible rfl))
     (try simp only [Act.put, lsA, lsZ, lsN])
     refine takeK 13 7 (i := 2) (v := ?_) rfl (by kernel_rfl) (by kernel_rfl) (by decide) (by decide) (by decide +kernel) (by decide +kernel) (fun _ _ _ h => h) (by kernel_rfl) (Or.inl ⟨by rfl, ?_⟩) (SX.both hs.out.1 hs.out.2) ?_
     rotate_left
     ·(intro w hSw; (try dsimp only at hSw); go_simp; try (with_reducible rfl))
     (try simp only [Act.put, lsA, lsZ, lsN])
     refine takeK 13 7 (i := 3) (v := ?_) rfl (by kernel_rfl) (by kernel_rfl) (by decide) (by decide) (by decide +kernel) (by decide +kernel) (fun _ _ _ h => h) (by kernel_rfl) (Or.inl ⟨by rfl, ?_⟩) (SX.both hs.out.1 hs.out.2) ?_
     rotate_left
     ·(intro w hSw; (try dsimp only at hSw); go_simp; try (with_reducible rfl))
     (try simp only [Act.put, lsA, lsZ, lsN])
     refine takeK 13 7 (i := 4) (v := ?_) rfl (by kernel_rfl) (by kernel_rfl) (by decide) (by decide) (by decide +kernel) (by decide +kernel) (fun _ _ _ h => h) (by kernel_rfl) (Or.inl ⟨by rfl, ?_⟩) (SX.both hs.out.1 hs.out.2) ?_
     rotate_left
     ·(intro w hSw; (try dsimp only at hSw); go_simp; try (with_reducible rfl))
     (try simp only [Act.put, lsA, lsZ, lsN])
     refine takeK 13 7 (i := 5) (v := ?_) rfl (by kernel_rfl) (by kernel_rfl) (by decide) (by decide) (by decide +kernel) (by decide +kernel) (fun _ _ _ h => h) (by kernel_rfl) (Or.inl ⟨by rfl, ?_⟩) (SX.both hs.out.1 hs.out.2) ?_
     rotate_left
     ·(intro w hSw; (try dsimp only at hSw); go_simp; try (with_reducible rfl))
     (try simp only [Act.put, lsA, lsZ, lsN])
     refine takeK 13 7 (i := 6) (v := ?_) rfl (by kernel_rfl) (by kernel_rfl) (by decide) (by decide) (by decide +kernel) (by decide +kernel) (fun _ _ _ h => h) (by kernel_rfl) (Or.inl ⟨by rfl, ?_⟩) (SX.both hs.out.1 hs.out.2) ?_
     rotate_left
     ·(intro w hSw; (try dsimp only at hSw); go_simp; try (with_reducible rfl))
     (try simp only [Act.put, lsA, lsZ, lsN])
     refine wpAnyX_one (j := 7) (by decide +kernel) rfl (fun K' hK => ?_)
     refine step_callX (by rfl) 36 #[.agg #[.int .i64 pl, .slice pra pr.length prc, .int .i64 pp]] _ (by apply run_call1 (enters_of Try.func36 (by kernel_rfl) rfl) <;> rfl) (HT.out _ (below_alloc _ _).drew) ?_
     rintro e w2 ⟨rfl, b2⟩
     have J2 : Hid (JW g w jb (w.heap.size + 1) tv (.slice pa i pc) (tlU g) ((plU g).take i) w2 /\ w2.heap[wr.heap.size]? = some (.cells #[.int .i64 pl, .slice pra pr.length prc, .int .i64 pp] 83 (0, 0))) := ⟨(HJ.out.1.later (Below.refl _ _).drew).later b2, blk_later (b := wr.heap.size) HJ.out.2 ((Below.refl _ _).drew.trans b2)⟩
     clear b2
     refine ⟨_, rfl, hK.out _ _ (SX.both (HS.out _ J2.out.1.gb J2.out.1.j J2.out.2).1 (HS.out _ J2.out.1.gb J2.out.1.j J2.out.2).2) ?_⟩
     clear hK K'
     (try simp only [Act.put, lsA, lsZ, lsN])
     refine wpAnyX_one (j := 8) (by decide +kernel) rfl (fun K' hK => ?_)
     refine step_callX (by rfl) 34 #[g.val, .int .i64 OW] _ (by apply run_call2 (enters_of Try.func34 (by kernel_rfl) rfl) <;> rfl) (levelOf_P g OW _ (HG.out _ J2.out.1.bel)) ?_
     rw [<- EV.out]
     rintro e w3 ⟨rfl, b3⟩
     have J3 : Hid (JW g w jb (w.heap.size + 1) tv (.slice pa i pc) (tlU g) ((plU g).take i) w3 /\ w3.heap[wr.heap.size]? = some (.cells #[.int .i64 pl, .slice pra pr.length prc, .int .i64 pp] 83 (0, 0))) := ⟨J2.out.1.later b3, blk_later J2.out.2 b3⟩
     clear b3 J2
     refine ⟨_, rfl, hK.out _ _ (SX.both (HS.out _ J3.out.1.gb J3.out.1.j J3.out.2).1 (HS.out _ J3.out.1.gb J3.out.1.j J3.out.2).2) ?_⟩
     clear hK K'
     (try simp only [Act.put, lsA, lsZ, lsN])
     refine wpAnyX_one (j := 9) (by decide +kernel) rfl (fun K' hK => ?_)
     go_simp
     have J4 : Hid (JW g w jb (w.heap.size + 1) tv (.slice pa i pc) (tlU g) ((plU g).take i) (w3.alloc (.cells #[.int .i64 LV1] 3)) /\ (w3.alloc (.cells #[.int .i64 LV1] 3)).heap[wr.heap.size]? = some (.cells #[.int .i64 pl, .slice pra pr.length prc, .int .i64 pp] 83 (0, 0))) := ⟨J3.out.1.later (below_alloc _ _), blk_later J3.out.2 (below_alloc _ _)⟩
     refine hK.out _ _ (SX.both (HS.out _ J4.out.1.gb J4.out.1.j J4.out.2).1 (HS.out _ J4.out.1.gb J4.out.1.j J4.out.2).2) ?_
     clear hK K'
     (try simp only [Act.put, lsA, lsZ, lsN])
     refine wpAnyX_one (j := 10) (by decide +kernel) rfl (fun K' hK => ?_)
     refine step_ro_append rkInt (by rfl) _ _ (by rfl) (.slice pa i pc) ((plU g).take i) (by rfl) J4.out.1.p w3.heap.size 1 LV1 (by rfl) (one_int _ _) HL.out ?_
     intro a5 n5 c5 w5 ho5 hg5
     have J5 : Hid (JW g w jb (w.heap.size + 1) tv (.slice a5 n5 c5) (tlU g) ((plU g).take (i + 1)) (w5.setCell ⟨jb, 2, none⟩ (.slice a5 n5 c5))) := by have := J4.out.1.pushP hg5 ho5; rw [ES.out]; exact this
     have K5 := J4.out.1.holdP hg5
     have P5 : Hid (w5.heap[wr.heap.size]? = some (.cells #[.int .i64 pl, .slice pra pr.length prc, .int .i64 pp] 83 (0, 0))) := grew_ne hg5 J4.out.2 fun e => by have := HPN.out.2 _ e; omega
     have S5 : Hid ((fun w' : World => (w'.cell? ⟨w.heap.size, 0, none⟩ = some (.slice g.ta g.ts.length g.tc) /\ w'.cell? ⟨w.heap.size, 1, none⟩ = some (.slice g.na g.ns.length g.nc) /\ w'.cell? ⟨w.heap.size, 2, none⟩ = some (.int .i64 g.start) /\ w'.cell? ⟨w.heap.size, 3, none⟩ = some (.slice g.pa g.ps.length g.pc) /\ w'.cell? ⟨w.heap.size, 4, none⟩ = some (.slice g.la g.ls.length g.lc)) /\ w'.cell? ⟨wr.heap.size, 0, none⟩ = some (.int .i64 pl) /\ w'.cell? ⟨wr.heap.size, 1, none⟩ = some (.slice pra pr.length prc) /\ w'.cell? ⟨wr.heap.size, 2, none⟩ = some (.int .i64 pp)) w5 /\ (fun w' : World => w'.cell? ⟨jb, 2, none⟩ = some (.slice pa i pc)) w5) := HS.out _ K5.1 K5.2 P5.out
     have z1 : w5.cell? ⟨jb, 2, none⟩ = some (.slice pa i pc) := S5.out.2
     have g1 := frostS K5.2 2
     have hz1 := lt_of_block K5.2
     clear ho5 hg5 K5 J3 J4
     refine hK.out _ _ (SX.both S5.out.1 S5.out.2) ?_
     clear hK K'
     (try simp only [Act.put, lsA, lsZ, lsN])
     refine wpAnyX_one (j := 11) (by decide +kernel) rfl (fun K' hK => ?_)
     go_simp
     refine hK.out _ _ (SX.both S5.out.1 S5.out.2) ?_
     clear hK K'
     (try simp only [Act.put, lsA, lsZ, lsN])
     refine wpAnyX_one (j := 12) (by decide +kernel) rfl (fun K' hK => ?_)
     go_simp
     refine hK.out _ _ (SX.both S5.out.1 S5.out.2) ?_
     clear hK K'
     (try simp only [Act.put, lsA, lsZ, lsN])
     refine wpAnyX_one (j := 13) (by decide +kernel) rfl (fun K' hK => ?_)
     go_simp
     have G5 : Hid ((fun w' : World => (w'.cell? ⟨w.heap.size, 0, none⟩ = some (.slice g.ta g.ts.length g.tc) /\ w'.cell? ⟨w.heap.size, 1, none⟩ = some (.slice g.na g.ns.length g.nc) /\ w'.cell? ⟨w.heap.size, 2, none⟩ = some (.int .i64 g.start) /\ w'.cell? ⟨w.heap.size, 3, none⟩ = some (.slice g.pa g.ps.length g.pc) /\ w'.cell? ⟨w.heap.size, 4, none⟩ = some (.slice g.la g.ls.length g.lc)) /\ w'.cell? ⟨wr.heap.size, 0, none⟩ = some (.int .i64 pl) /\ w'.cell? ⟨wr.heap.size, 1, none⟩ = some (.slice pra pr.length prc) /\ w'.cell? ⟨wr.heap.size, 2, none⟩ = some (.int .i64 pp)) (w5.setCell ⟨jb, 2, none⟩ (.slice a5 n5 c5))) := by
      obtain ⟨y0, y1, y2, y3, y4⟩ := gb_cells J5.out.gb
      have q : (w5.setCell ⟨jb, 2, none⟩ (.slice a5 n5 c5)).heap[wr.heap.size]? = some (.cells #[.int .i64 pl, .slice pra pr.length prc, .int .i64 pp] 83 (0, 0)) := (setj_ne HPN.out.1).trans P5.out
      exact ⟨⟨y0, y1, y2, y3, y4⟩, (cellq_any q).trans rfl, (cellq_any q).trans rfl, (cellq_any q).trans rfl⟩
     refine hK.out _ _ (SX.one G5.out (by kernel_rfl)) ?_
     clear hK K'
     (try simp only [Act.put, lsA, lsZ, lsN])
     refine wpAnyX_done (by decide +kernel) ?_
     clear hs HS z1 g1 hz1
     go_wp2
     go_roundw
     case rel => exact ⟨i + 1, _, by omega, by go_num, J5.out⟩
     case measure => simp [intOf]; omega
    ·obtain rfl : i = g.ps.length := by omega
     have klt : ¬ (g.ps.length : Int) < (g.ps.length : Int) := by omega
     rw [show (plU g).take g.ps.length = plU g by rw [<- pl_len, List.take_length]] at hJ
     have HJ1 : Hid (JW g w jb (w.heap.size + 1) tv pv (tlU g) (plU g) wr) := hJ
     clear hJ hi
     go_wp2
     go_ret
     exact ⟨jb, rfl, HJ1.out.ju, HJ1.out.jn, HJ1.out.bel⟩
end Go.Proofs.Ytlkkllehaabebaa
