import Derived.Test.YtccednepbkjajaaPTB24
namespace Go.Proofs.Ytccednepbkjajaa
set_option linter.unusedVariables false
open Go.RowKit
set_option linter.unusedSimpArgs false in
set_option maxRecDepth 100000 in
set_option maxHeartbeats 4000000 in
theorem fromRight_W {w : World} {g : GV} {pa wa : Option Addr} {pc wc : Nat} {l : List Int} {L : List (Int × ByteArray)} (hg : GAt 140737488355328 w g) (hpc : g.ps.length <= g.pc) (er at_ : Int) (hE : checkG g (checkF g.ts g.ns) = (er, at_)) (hli : InRow w pa l) (hl : l.length <= 1000000000) (u : Option TV × Int × Int)
  (hD : (cpU er g.ps.length l).1 = 0 -> ∀ w', Below w.heap.size w w' -> Calls Try.prog 30 #[g.val, .slice pa l.length pc, .slice wa L.length wc] w' fun e w'' => Below w'.heap.size w' w'' /\ ansE w'.heap.size u e w'') :
  Calls Try.prog 11 #[g.val, .slice pa l.length pc, .slice wa L.length wc] w fun e w' => Below w.heap.size w w' /\ ansE w.heap.size (fromU (cpU er g.ps.length l) u) e w' := by
 have X0 : Hid (Below w.heap.size w ((w.alloc (gBox g)).alloc zTrB) /\ ((w.alloc (gBox g)).alloc zTrB).heap[w.heap.size]? = some (gBox g) /\ ((w.alloc (gBox g)).alloc zTrB).heap[w.heap.size + 1]? = some zTrB) := by
  have h1 := below_alloc w (gBox g)
  have h2 := below_alloc (w.alloc (gBox g)) zTrB
  refine ⟨h1.trans (h2.mono h1.size), (h2.block _ (by simp)).trans (heap_alloc_new _ _), ?_⟩
  have := heap_alloc_new (w.alloc (gBox g)) zTrB
  rwa [show (w.alloc (gBox g)).heap.size = w.heap.size + 1 by simp] at this
 have CP : Hid (∀ w', Below w.heap.size w w' -> Calls Try.prog 28 #[g.val, .slice pa l.length pc] w' fun e w'' => e = .returned (.tuple #[.int .i64 (cpU er g.ps.length l).1, .int .i64 (cpU er g.ps.length l).2]) /\ Below w'.heap.size w' w'') := fun w' hb => checkProds_W (hg.later hb) hpc er at_ hE (hli.later hb) hl
 have HD : Hid ((cpU er g.ps.length l).1 = 0 -> ∀ w', Below w.heap.size w w' -> Calls Try.prog 30 #[g.val, .slice pa l.length pc, .slice wa L.length wc] w' fun e w'' => Below w'.heap.size w' w'' /\ ansE w'.heap.size u e w'') := hD
 obtain ⟨x0, x1, x2, x3, x4⟩ := gbx_cells X0.out.2.1
 clear hg hpc hE hli hl hD
 generalize cpU er g.ps.length l = cp at *
 obtain ⟨c1, c2⟩ := cp
 dsimp only at *
 have NB : Hid (∀ w2 : World, Below w.heap.size w w2 -> w2.heap[w.heap.size + 1]? = some zTrB -> (Below w.heap.size w (set4 w2 (w.heap.size + 1) 0 TV.none)) /\ TBx (set4 w2 (w.heap.size + 1) 0 TV.none) (w.heap.size + 1) 0 TV.none) := fun w2 h1 h2 =>
  ⟨set4_below h1 0 _ (by omega), set4_tbx _ ((cellq_any h2).trans rfl) ((cellq_any h2).trans rfl) ((cellq_any h2).trans rfl) ((cellq_any h2).trans rfl) (lt_of_block h2)⟩
 have FZ : Hid (∀ w2 : World, w2.heap[w.heap.size + 1]? = some zTrB -> (w2.frozen? ⟨w.heap.size + 1, 0, none⟩ = false /\ w2.frozen? ⟨w.heap.size + 1, 1, none⟩ = false /\ w2.frozen? ⟨w.heap.size + 1, 2, none⟩ = false /\ w2.frozen? ⟨w.heap.size + 1, 3, none⟩ = false) /\ w2.cell? ⟨w.heap.size + 1, 0, none⟩ = some (.int .i64 0) /\ w2.cell? ⟨w.heap.size + 1, 1, none⟩ = some (.int .i64 0) /\ w2.cell? ⟨w.heap.size + 1, 2, none⟩ = some (.string ⟨#[]⟩) /\ w2.cell? ⟨w.heap.size + 1, 3, none⟩ = some (.slice none 0 0)) := fun w2 h => by
  have f0 : ∀ i, w2.frozen? ⟨w.heap.size + 1, i, none⟩ = false := fun i => by simp [World.frozen?, h]
  exact ⟨⟨f0 0, f0 1, f0 2, f0 3⟩, (cellq_any h).trans rfl, (cellq_any h).trans rfl, (cellq_any h).trans rfl, (cellq_any h).trans rfl⟩
 by_cases h0 : c1 = 0
 ·subst h0
  have t1 : ((0 : Int) != 0) = false := by decide
  have eF : fromU (0, c2) u = u := if_neg (by simp)
  rw [eF]
  clear eF
  have HD0 := HD.out rfl
  obtain ⟨ot, e1, e2⟩ := u
  cases ot with
  | none =>
   have HD2 : Hid (∀ w', Below w.heap.size w w' -> Calls Try.prog 30 #[g.val, .slice pa l.length pc, .slice wa L.length wc] w' fun e w'' => e = .returned (.tuple #[.agg #[.int .i64 0, .int .i64 0, .string ⟨#[]⟩, .slice none 0 0], .int .i64 e1, .int .i64 e2]) /\ Below w'.heap.size w' w'') := fun w' hb => (HD0 w' hb).mono fun e w'' ⟨q1, q2⟩ => ⟨q2, q1⟩
   clear HD HD0
   go_enter Try.func11, Try.ntmps11
   go_upto_region 4 with (go_at_call 28; refine (CP.out _ X0.out.1).mono ?_; rintro e w2 ⟨rfl, b2⟩; have B2 : Hid (Below w.heap.size w w2 /\ w2.heap[w.heap.size]? = some (gBox g) /\ w2.heap[w.heap.size + 1]? = some zTrB) := ⟨X0.out.1.trans (b2.mono X0.out.1.size), (b2.block _ (lt_of_block X0.out.2.1)).trans X0.out.2.1, (b2.block _ (lt_of_block X0.out.2.2)).trans X0.out.2.2⟩; clear b2 x0 x1 x2 x3 x4; obtain ⟨x0, x1, x2, x3, x4⟩ := gbx_cells B2.out.2.1)
   go_wp2_with (go_at_call 30; refine (HD2.out _ B2.out.1).mono ?_; rintro e w3 ⟨rfl, b3⟩; have B3 : Hid (Below w.heap.size w w3 /\ w3.heap[w.heap.size + 1]? = some zTrB) := ⟨B2.out.1.trans (b3.mono B2.out.1.size), (b3.block _ (lt_of_block B2.out.2.2)).trans B2.out.2.2⟩; clear b3 x0 x1 x2 x3 x4; obtain ⟨⟨f0, f1, f2, f3⟩, z0, z1, z2, z3⟩ := FZ.out w3 B3.out.2)
   have B4 : Hid _ := NB.out w3 B3.out.1 B3.out.2
   change bodyPost _ _ _ _ _ (set4 w3 (w.heap.size + 1) 0 TV.none)
   generalize set4 w3 (w.heap.size + 1) 0 TV.none = w5 at *
   have y0 := B4.out.2.c0
   have y1 := B4.out.2.c1
   have y2 := B4.out.2.c2
   have y3 := B4.out.2.c3
   simp only [Nat.zero_add] at y1 y2 y3
   refine bodyPost_ret (v := .tuple #[TV.none.val, .int .i64 e1, .int .i64 e2]) (by simp [results, Try.results11, go_sem, y0, y1, y2, y3]) rfl ?_
   exact ⟨B4.out.1, rfl⟩
  | some t0 =>
   have HD2 : Hid (∀ w', Below w.heap.size w w' -> Calls Try.prog 30 #[g.val, .slice pa l.length pc, .slice wa L.length wc] w' fun e w'' => ∃ t', e = .returned (.tuple #[t'.val, .int .i64 0, .int .i64 0]) /\ Below w'.heap.size w' w'' /\ samV t' t0 /\ OwT w'.heap.size w'' t') := fun w' hb => (HD0 w' hb).mono fun e w'' ⟨q1, t', q2, q3, q4⟩ => ⟨t', q4, q1, q2, q3⟩
   clear HD HD0
   go_enter Try.func11, Try.ntmps11
   go_upto_region 4 with (go_at_call 28; refine (CP.out _ X0.out.1).mono ?_; rintro e w2 ⟨rfl, b2⟩; have B2 : Hid (Below w.heap.size w w2 /\ w2.heap[w.heap.size]? = some (gBox g) /\ w2.heap[w.heap.size + 1]? = some zTrB) := ⟨X0.out.1.trans (b2.mono X0.out.1.size), (b2.block _ (lt_of_block X0.out.2.1)).trans X0.out.2.1, (b2.block _ (lt_of_block X0.out.2.2)).trans X0.out.2.2⟩; clear b2 x0 x1 x2 x3 x4; obtain ⟨x0, x1, x2, x3, x4⟩ := gbx_cells B2.out.2.1)
   go_wp2_with (go_at_call 30; refine (HD2.out _ B2.out.1).mono ?_; rintro e w3 ⟨t, rfl, b3, s3, o3⟩; have B3 : Hid (Below w.heap.size w w3 /\ w3.heap[w.heap.size + 1]? = some zTrB /\ samV t t0 /\ OwT w2.heap.size w3 t /\ w.heap.size + 1 < w2.heap.size) := ⟨B2.out.1.trans (b3.mono B2.out.1.size), (b3.block _ (lt_of_block B2.out.2.2)).trans B2.out.2.2, s3, o3, lt_of_block B2.out.2.2⟩; clear b3 s3 o3 x0 x1 x2 x3 x4; obtain ⟨⟨f0, f1, f2, f3⟩, z0, z1, z2, z3⟩ := FZ.out w3 B3.out.2.1)
   have H5 : Hid (Below w.heap.size w (set4 w3 (w.heap.size + 1) 0 t) /\ TBx (set4 w3 (w.heap.size + 1) 0 t) (w.heap.size + 1) 0 t /\ OwT w.heap.size (set4 w3 (w.heap.size + 1) 0 t) t) := by
    obtain ⟨a1, a2, -, a3, a4⟩ := B3.out
    refine ⟨set4_below a1 0 t (by omega), set4_tbx t z0 z1 z2 z3 (lt_of_block a2), ?_⟩
    have := a3.kept (w' := set4 w3 (w.heap.size + 1) 0 t) (fun a ha => set4_other _ _ _ _ _ (by have := (a3.ty a ha).1; omega)) (by rw [set4_size]; exact Nat.le_refl _)
    exact ⟨this.ta, this.cn, fun a ha => ⟨by have := (this.ty a ha).1; omega, (this.ty a ha).2⟩⟩
   change bodyPost _ _ _ _ _ (set4 w3 (w.heap.size + 1) 0 t)
   generalize set4 w3 (w.heap.size + 1) 0 t = w5 at *
   have y0 := H5.out.2.1.c0
   have y1 := H5.out.2.1.c1
   have y2 := H5.out.2.1.c2
   have y3 := H5.out.2.1.c3
   simp only [Nat.zero_add] at y1 y2 y3
   refine bodyPost_ret (v := .tuple #[t.val, .int .i64 0, .int .i64 0]) (by simp [results, Try.results11, go_sem, y0, y1, y2, y3]) rfl ?_
   exact ⟨H5.out.1, t, B3.out.2.2.1, H5.out.2.2, rfl⟩
 ·have t1 : (c1 != 0) = true := by simpa using h0
  have eF : fromU (c1, c2) u = (none, c1, c2) := if_pos h0
  rw [eF]
  clear eF h0 HD
  go_enter Try.func11, Try.ntmps11
  go_upto_region 3 with (go_at_call 28; refine (CP.out _ X0.out.1).mono ?_; rintro e w2 ⟨rfl, b2⟩; have B3 : Hid (Below w.heap.size w w2 /\ w2.heap[w.heap.size + 1]? = some zTrB) := ⟨X0.out.1.trans (b2.mono X0.out.1.size), (b2.block _ (lt_of_block X0.out.2.2)).trans X0.out.2.2⟩; clear b2 x0 x1 x2 x3 x4; obtain ⟨⟨f0, f1, f2, f3⟩, z0, z1, z2, z3⟩ := FZ.out w2 B3.out.2)
  have B4 : Hid _ := NB.out w2 B3.out.1 B3.out.2
  go_wp2
  change bodyPost _ _ _ _ _ (set4 w2 (w.heap.size + 1) 0 TV.none)
  generalize set4 w2 (w.heap.size + 1) 0 TV.none = w5 at *
  have y0 := B4.out.2.c0
  have y1 := B4.out.2.c1
  have y2 := B4.out.2.c2
  have y3 := B4.out.2.c3
  simp only [Nat.zero_add] at y1 y2 y3
  refine bodyPost_ret (v := .tuple #[TV.none.val, .int .i64 c1, .int .i64 c2]) (by simp [results, Try.results11, go_sem, y0, y1, y2, y3]) rfl ?_
  exact ⟨B4.out.1, rfl⟩
theorem FromLeft_W {w : World} {g : GV} {pa wa : Option Addr} {pc wc : Nat} {l : List Int} {L : List (Int × ByteArray)} (hg : GAt 140737488355328 w g) (hpc : g.ps.length <= g.pc) (er at_ : Int) (hE : checkG g (checkF g.ts g.ns) = (er, at_)) (hli : InRow w pa l) (hLi : TkRow w wa L) (hb : l.length <= 1048576) (hB : L.length <= 1048576) :
  Calls Try.prog 10 #[g.val, .slice pa l.length pc, .slice wa L.length wc] w fun e w' => Below w.heap.size w w' /\ ansE w.heap.size (fromU (cpU er g.ps.length l) (deriveU g l L)) e w' :=
 fromLeft_W hg hpc er at_ hE hli (by omega) _ fun h0 w' hbw => by
  obtain ⟨-, h2, h3, -⟩ := cp_ok h0
  exact (derive_W h2 h3 (hg.later hbw) (hli.later hbw) (hLi.later hbw) (by omega) (by omega)).mono fun e w'' ⟨q1, q2⟩ => ⟨q1, dvE_ans q2⟩
theorem FromRight_W {w : World} {g : GV} {pa wa : Option Addr} {pc wc : Nat} {l : List Int} {L : List (Int × ByteArray)} (hg : GAt 140737488355328 w g) (hpc : g.ps.length <= g.pc) (er at_ : Int) (hE : checkG g (checkF g.ts g.ns) = (er, at_)) (hli : InRow w pa l) (hLi : TkRow w wa L) (hb : l.length <= 1048576) (hB : L.length <= 1048576) :
  Calls Try.prog 11 #[g.val, .slice pa l.length pc, .slice wa L.length wc] w fun e w' => Below w.heap.size w w' /\ ansE w.heap.size (fromU (cpU er g.ps.length l) (mirU g l L)) e w' :=
 fromRight_W hg hpc er at_ hE hli (by omega) _ fun h0 w' hbw => by
  obtain ⟨h1, h2, h3, -⟩ := cp_ok h0
  subst h1
  exact mirrored_W h2 h3 (hg.later hbw) hpc at_ hE (hli.later hbw) (hLi.later hbw) hb hB
end Go.Proofs.Ytccednepbkjajaa
