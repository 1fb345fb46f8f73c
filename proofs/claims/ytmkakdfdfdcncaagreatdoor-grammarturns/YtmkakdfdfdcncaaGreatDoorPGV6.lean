import Derived.Test.YtmkakdfdfdcncaaGreatDoorPGV1ToGV5
import Derived.Test.YtmkakdfdfdcncaaGreatDoorPGCheckR
import Derived.Test.YtmkakdfdfdcncaaGreatDoorPGT11ToGT13
namespace Go.Proofs.YtmkakdfdfdcncaaGreatDoor
set_option linter.unusedVariables false
set_option maxRecDepth 100000
set_option maxHeartbeats 16000000
open Go.RowKit
theorem refreverse_no (g : GV) (w : World) (h : GAt 140737488355328 w g) (er : Int) (hE : (checkG g (checkF g.ts g.ns)).1 = er) (h0 : er ≠ 0) :
  Calls Tryz.prog 11 #[g.val] w fun e w' => e = .returned (.tuple #[.agg #[.slice none 0 0, .slice none 0 0, .int .i64 0, .slice none 0 0, .slice none 0 0], .int .i64 er]) /\ Below w.heap.size w w' := by
 have CB0 : Hid (CBx w.heap.size w (gA g) ((w.alloc (.cells (gA g) 26)).alloc (.cells #[.slice none 0 0, .slice none 0 0, .int .i64 0, .slice none 0 0, .slice none 0 0] 26))) := cb_start g w
 have HGA : Hid (GAt 140737488355328 ((w.alloc (.cells (gA g) 26)).alloc (.cells #[.slice none 0 0, .slice none 0 0, .int .i64 0, .slice none 0 0, .slice none 0 0] 26)) g) := h.later CB0.out.bel
 have he : (er != 0) = true := by simpa using h0
 have HC : Hid (∀ z, GAt 140737488355328 z g -> Calls Tryz.prog 27 #[g.val] z fun e w' => e = .returned (.int .i64 er) /\ Below z.heap.size z w') := fun z hz => by have := refmay_G g z hz; rw [hE] at this; exact this
 clear h hE
 go_enter Tryz.func11, Tryz.ntmps11
 go_wp2_with (go_at_call 27; refine (HC.out _ HGA.out).mono ?_; rintro e w1 ⟨rfl, b1⟩; have C1 : Hid (CBx w.heap.size w (gA g) w1) := CB0.out.later b1; have r0 : w1.cell? ⟨w.heap.size + 1, 0, none⟩ = some (.slice none 0 0) := (cellq_any C1.out.out).trans rfl; have r1 : w1.cell? ⟨w.heap.size + 1, 1, none⟩ = some (.slice none 0 0) := (cellq_any C1.out.out).trans rfl; have r2 : w1.cell? ⟨w.heap.size + 1, 2, none⟩ = some (.int .i64 0) := (cellq_any C1.out.out).trans rfl; have r3 : w1.cell? ⟨w.heap.size + 1, 3, none⟩ = some (.slice none 0 0) := (cellq_any C1.out.out).trans rfl; have r4 : w1.cell? ⟨w.heap.size + 1, 4, none⟩ = some (.slice none 0 0) := (cellq_any C1.out.out).trans rfl; have y0 : w1.frozen? ⟨w.heap.size + 1, 0, none⟩ = false := (by unfold World.frozen?; rw [C1.out.out]; rfl); have y1 : w1.frozen? ⟨w.heap.size + 1, 1, none⟩ = false := (by unfold World.frozen?; rw [C1.out.out]; rfl); have y2 : w1.frozen? ⟨w.heap.size + 1, 2, none⟩ = false := (by unfold World.frozen?; rw [C1.out.out]; rfl); have y3 : w1.frozen? ⟨w.heap.size + 1, 3, none⟩ = false := (by unfold World.frozen?; rw [C1.out.out]; rfl); have y4 : w1.frozen? ⟨w.heap.size + 1, 4, none⟩ = false := (by unfold World.frozen?; rw [C1.out.out]; rfl); have hz : w.heap.size + 1 < w1.heap.size := lt_of_block C1.out.out; clear b1)
 refine bodyPost_ret (v := .tuple #[.agg #[.slice none 0 0, .slice none 0 0, .int .i64 0, .slice none 0 0, .slice none 0 0], .int .i64 er]) (by simp [results, Tryz.results11, go_sem, r0, r1, r2, r3, r4]) rfl ?_
 exact ⟨rfl, (C1.out.five _ _ _ _ _).1⟩
set_option linter.unusedSimpArgs false in
theorem refreverse_ok (g : GV) (w : World) (h : GAt 140737488355328 w g) (at_ : Int) (hE : checkG g (checkF g.ts g.ns) = (0, at_)) :
  Calls Tryz.prog 11 #[g.val] w fun e w' => ∃ g' A H E pb lb tb nb, e = .returned (.tuple #[g'.val, .int .i64 0]) /\ SameG g.rev g' /\ MG w.heap.size w' g' A H E pb lb tb nb /\ Below w.heap.size w w' := by
 have ok : OkC g := OkC.of (by rw [hE])
 have CB0 : Hid (CBx w.heap.size w (gA g) ((w.alloc (.cells (gA g) 26)).alloc (.cells #[.slice none 0 0, .slice none 0 0, .int .i64 0, .slice none 0 0, .slice none 0 0] 26))) := cb_start g w
 have HGA : Hid (∀ w', Below w.heap.size w w' -> GAt 140737488355328 w' g) := fun w' hb => h.later hb
 have he : ((0 : Int) != 0) = false := by simp
 have HO : Hid (OkC g) := ok
 have HN : Hid (g.ts ≠ [] /\ g.ns ≠ [] /\ g.ps ≠ []) := ⟨fun e => by have := ok.tl; rw [e] at this; simp at this, fun e => by have := ok.nl; rw [e] at this; simp at this, fun e => by have := ok.pl; rw [e] at this; simp at this⟩
 have HC : Hid (∀ z, GAt 140737488355328 z g -> Calls Tryz.prog 27 #[g.val] z fun e w' => e = .returned (.int .i64 0) /\ Below z.heap.size z w') := fun z hz => by have := refmay_G g z hz; rw [hE] at this; exact this
 clear h ok hE
 go_enter Tryz.func11, Tryz.ntmps11
 go_wp2_with (first
  | (go_at_call 27; refine (HC.out _ (HGA.out _ CB0.out.bel)).mono ?_; rintro e w1 ⟨rfl, b1⟩; have C1 : Hid (CBx w.heap.size w (gA g) w1) := CB0.out.later b1; have x0 : w1.cell? ⟨w.heap.size, 0, none⟩ = some (.slice g.ta g.ts.length g.tc) := (cellq_any C1.out.box).trans rfl; have x1 : w1.cell? ⟨w.heap.size, 1, none⟩ = some (.slice g.na g.ns.length g.nc) := (cellq_any C1.out.box).trans rfl; have x2 : w1.cell? ⟨w.heap.size, 2, none⟩ = some (.int .i64 g.start) := (cellq_any C1.out.box).trans rfl; have x3 : w1.cell? ⟨w.heap.size, 3, none⟩ = some (.slice g.pa g.ps.length g.pc) := (cellq_any C1.out.box).trans rfl; have x4 : w1.cell? ⟨w.heap.size, 4, none⟩ = some (.slice g.la g.ls.length g.lc) := (cellq_any C1.out.box).trans rfl; have hz : w.heap.size < w1.heap.size := lt_of_block C1.out.box; clear b1)
  | (go_at_call 43; refine (copy_G g _ ((HGA.out _ C1.out.bel).ok HO.out) HN.out.1 HN.out.2.1 HN.out.2.2).mono ?_; rintro e w2 ⟨⟨ta, tc, ts, na, nc, ns, st, pa, pc, ps, la, lc, ls⟩, A, H, E, pb, lb, tb, nb, rfl, sg, mg, _, b2⟩; obtain rfl : ts = g.ts := sg.ts; obtain rfl : ns = g.ns := sg.ns; obtain rfl : st = g.start := sg.start; obtain rfl : pa = some ⟨pb, 0, none⟩ := mg.pa; have C2 : Hid (CBx w.heap.size w (gA g) w2) := C1.out.later b2; have M2 : Hid (MG w1.heap.size w2 ⟨ta, tc, g.ts, na, nc, g.ns, g.start, some ⟨pb, 0, none⟩, pc, ps, la, lc, ls⟩ A H E pb lb tb nb) := mg; have S2 : Hid (ps.map PV.core = g.ps.map PV.core /\ ls.map LV.core = g.ls.map LV.core) := ⟨sg.ps, sg.ls⟩; have hpl : ps.length <= 1048576 := (by have h1 := congrArg List.length sg.ps; have h2 := HO.out.pl.2; simp at h1; omega); clear sg mg b2))
 obtain ⟨b5, hb5⟩ : ∃ b5, b5 = w2.heap.size := ⟨_, rfl⟩
 obtain ⟨B, hB⟩ : ∃ B, B = w1.heap.size := ⟨_, rfl⟩
 have HB : Hid (B = w1.heap.size /\ w.heap.size + 2 <= B /\ E <= b5) := ⟨hB, by rw [hB]; exact lt_of_block C1.out.out, by have := M2.out.ord.2.2.2; omega⟩
 rw [<- hb5]
 go_loopw [6] (fun z wr => ∃ (k : Nat) (L : List PV), k <= ps.length /\ z = .int .i64 k /\ CBx w.heap.size w #[.slice g.ta g.ts.length g.tc, .slice g.na g.ns.length g.nc, .int .i64 g.start, .slice g.pa g.ps.length g.pc, .slice g.la g.ls.length g.lc] wr /\ wr.heap[b5]? = some (.cells #[.slice ta g.ts.length tc, .slice na g.ns.length nc, .int .i64 g.start, .slice (some ⟨pb, 0, none⟩) ps.length pc, .slice la ls.length lc] 26 (0, 0)) /\ MG B wr ⟨ta, tc, g.ts, na, nc, g.ns, g.start, some ⟨pb, 0, none⟩, pc, L, la, lc, ls⟩ A H E pb lb tb nb /\ L.length = ps.length /\ ∀ i, i < L.length -> (L.getD i .none).core = if i < k then crev (ps.getD i .none).core else (ps.getD i .none).core) (fun z _ => ps.length - (intOf z).toNat)
 case atStart =>
  refine ⟨0, ps, Nat.zero_le _, rfl, C2.out.later (below_alloc _ _), by rw [hb5]; exact alloc_at _ _, ?_, rfl, fun i _ => by rw [if_neg (Nat.not_lt_zero _)]⟩
  rw [hB]
  exact M2.out.later (below_alloc _ _)
 case round =>
  clear x0 x1 x2 x3 x4 hz C1 C2 M2 CB0 hB hb5
  obtain ⟨k, L, hk, rfl, hC, hT, hM, hLl, hcore⟩ := hrel
  have HC2 : Hid (CBx w.heap.size w (gA g) wr /\ wr.heap[b5]? = some (.cells #[.slice ta g.ts.length tc, .slice na g.ns.length nc, .int .i64 g.start, .slice (some ⟨pb, 0, none⟩) ps.length pc, .slice la ls.length lc] 26 (0, 0)) /\ MG B wr ⟨ta, tc, g.ts, na, nc, g.ns, g.start, some ⟨pb, 0, none⟩, pc, L, la, lc, ls⟩ A H E pb lb tb nb /\ L.length = ps.length /\ ∀ i, i < L.length -> (L.getD i .none).core = if i < k then crev (ps.getD i .none).core else (ps.getD i .none).core) := ⟨hC, hT, hM, hLl, hcore⟩
  have o3 : wr.cell? ⟨b5, 3, none⟩ = some (.slice (some ⟨pb, 0, none⟩) ps.length pc) := (cellq_any hT).trans rfl
  by_cases hlt : k < ps.length
  ·have h3 : ps.length = g.ps.length := by simpa using congrArg List.length S2.out.1
   have GA2 := HGA.out wr hC.bel
   obtain ⟨ob, oo, hpa, hol, hoc⟩ := GA2.p.cells HN.out.2.2
   have g3 : wr.cell? ⟨w.heap.size, 3, none⟩ = some (.slice (some ⟨ob, oo, none⟩) g.ps.length g.pc) := by rw [<- hpa]; exact (cellq_any hC.box).trans rfl
   have g1 := (hoc k (by omega)).2.1
   have hmem : g.ps.getD k .none ∈ g.ps := by simp [List.getD, show k < g.ps.length by omega]
   have HSR : Hid (∀ w', Below w.heap.size w w' -> SymRow w' (g.ps.getD k .none).ra (g.ps.getD k .none).right) := fun w' hb => (HGA.out w' hb).p.rows _ hmem
   have h1 : (L.getD k .none).core = (g.ps.getD k .none).core := by
    rw [hcore k (by omega), if_neg (Nat.lt_irrefl _), getD_core PV.core, S2.out.1, <- getD_core PV.core]
   have hrr : (g.ps.getD k .none).right = (L.getD k .none).right := (congrArg (·.2.1) h1).symm
   have hr16 := HO.out.right k (by omega)
   rw [hrr] at g1 HSR hr16
   obtain ⟨p0, p1, p2⟩ := proCells_get L k (by omega)
   have c1' := hM.p.row.cell p1
   have HE : Hid ((L.getD k .none).right ≠ [] -> (L.getD k .none).ra = some ⟨ablk (L.getD k .none).ra, 0, none⟩ /\ (A <= ablk (L.getD k .none).ra /\ ablk (L.getD k .none).ra < H) /\ ablk (L.getD k .none).ra ≠ pb /\ RB wr (ablk (L.getD k .none).ra) 76 (symCells (L.getD k .none).right)) := fun hr => hM.p.each k (by show k < L.length; omega) hr
   generalize (g.ps.getD k .none).ra = sra at *
   generalize (g.ps.getD k .none).rc = src at *
   have kgl : (k : Int) < (g.ps.length : Int) := by omega
   have HPL : Hid (ps.length = g.ps.length) := h3
   clear hC hT hM hcore p0 p1 p2 h1 hrr hmem hoc hol GA2 hpa h3
   generalize hx : L.getD k .none = x at *
   have HX : Hid (L.getD k .none = x) := hx
   clear hx
   obtain ⟨pl, pra, prc, pr, pp⟩ := x
   simp only at c1' HE hr16 g1 HSR
   have HOR : Hid (B <= A /\ A <= H /\ H <= E /\ E <= b5 /\ w.heap.size + 2 <= B) := by have h1 := HC2.out.2.2.1.ord; have h2 := HB.out; exact ⟨h1.1, h1.2.1, h1.2.2.1, h2.2.2, h2.2.1⟩
   by_cases hr : pr = []
   ·subst hr
    simp only [List.length_nil] at c1' g1
    go_wp2
    go_loopw [8] (fun z wr' => z = .int .i64 0 /\ wr' = wr) (fun _ _ => 0)
    case atStart => exact ⟨rfl, rfl⟩
    case round =>
     obtain ⟨rfl, rfl⟩ := hrel
     go_wp2
     go_roundw
     case rel =>
      obtain ⟨hC, hT, hM, hLl, hcore⟩ := HC2.out
      refine ⟨k + 1, L, by omega, by go_num, hC, hT, hM, hLl, fun i hi => ?_⟩
      by_cases e : i = k
      ·subst e
       have h1 := hcore i hi
       rw [if_neg (Nat.lt_irrefl _)] at h1
       rw [if_pos (by omega), <- h1, HX.out]
       rfl
      ·rw [hcore i hi]
       by_cases e2 : i < k
       ·rw [if_pos e2, if_pos (by omega)]
       ·rw [if_neg e2, if_neg (by omega)]
     case measure => simp [intOf]; omega
   ·obtain ⟨hra, hlo, hnp, hrb⟩ := HE.out hr
    have HRB : Hid (RB wr (ablk pra) 76 (symCells pr) /\ A <= ablk pra /\ ablk pra < H /\ ablk pra ≠ pb) := ⟨hrb, hlo.1, hlo.2, hnp⟩
    clear hlo hrb HE hnp
    generalize hbk : ablk pra = bk at *
    have HBE : Hid (ablk pra = bk) := hbk
    subst hra
    obtain ⟨rb, ro, hsr, hrl, hrq⟩ := HSR.out wr HC2.out.1.bel hr
    have HRL : Hid (rb < w.heap.size) := by
     obtain ⟨rb', ro', e', hl', _⟩ := HSR.out w (Below.refl _ _) hr
     rw [hsr] at e'
     simp only [Option.some.injEq, Addr.mk.injEq, and_true] at e'
     show rb < _
     omega
    subst hsr
    clear hrl hbk hrq
    go_wp2
    rename World => wo
    go_loopw [8] (fun z wr' => ∃ (j : Nat) (R : List (Int × Int)), j <= pr.length /\ z = .int .i64 j /\ R.length = pr.length /\ (∀ t, t < pr.length -> R.getD t (0, 0) = if t < j then pr.getD (pr.length - 1 - t) (0, 0) else pr.getD t (0, 0)) /\ RB wr' bk 76 (symCells R) /\ Turned wo wr' bk) (fun z _ => pr.length - (intOf z).toNat)
    case atStart => exact ⟨0, pr, Nat.zero_le _, rfl, rfl, fun t _ => by rw [if_neg (Nat.not_lt_zero _)], HRB.out.1, ⟨Nat.le_refl _, fun _ _ _ => rfl, fun _ _ _ => Below.refl _ _⟩⟩
    case round =>
     obtain ⟨j, R, hj, rfl, hRl, hRv, hRB, hT⟩ := hrel
     have hrb0 := HRB.out
     have BT : Hid (Below w.heap.size w wr) := HC2.out.1.bel.trans (hT.bel w.heap.size HC2.out.1.bel.size (by have := HOR.out; omega))
     have HI : Hid ((∀ t, t < pr.length -> R.getD t (0, 0) = if t < j then pr.getD (pr.length - 1 - t) (0, 0) else pr.getD t (0, 0)) /\ RB wr bk 76 (symCells R) /\ Turned wo wr bk) := ⟨hRv, hRB, hT⟩
     by_cases hjl : j < pr.length
     ·have e3 : wr.cell? ⟨b5, 3, none⟩ = some (.slice (some ⟨pb, 0, none⟩) ps.length pc) := (World.cell?_of_block (a := ⟨b5, 3, none⟩) (hT.other b5 (lt_of_block HC2.out.2.1) (by have := HOR.out; omega))).trans o3
      have e1 : wr.cell? ⟨pb, k * 3 + 1, none⟩ = some (.slice (some ⟨bk, 0, none⟩) pr.length prc) := (World.cell?_of_block (a := ⟨pb, k * 3 + 1, none⟩) (hT.other pb HC2.out.2.2.1.p.row.lt (Ne.symm hrb0.2.2.2))).trans c1'
      obtain ⟨m, hm⟩ : ∃ m, m = pr.length - 1 - j := ⟨_, rfl⟩
      have hml : m < pr.length := by omega
      have mi : (pr.length : Int) - 1 - (j : Int) = (m : Int) := by omega
      obtain ⟨rb', ro', er, _, hq⟩ := HSR.out wr BT.out hr
      simp only [Option.some.injEq, Addr.mk.injEq, and_true] at er
      obtain ⟨rfl, rfl⟩ := er
      obtain ⟨q0, q1⟩ := hq m hml
      have HQ : Hid (pr.getD m (0, 0) = pr.getD (pr.length - 1 - j) (0, 0)) := by show _ = _; rw [hm]
      have f0 : wr.frozen? ⟨bk, j * 2, none⟩ = false := hRB.free _
      have f1 : wr.frozen? ⟨bk, j * 2 + 1, none⟩ = false := hRB.free _
      have hz : bk < wr.heap.size := hRB.lt
      have x0 := hRB.cell (i := j * 2) (u := .int .i64 (R.getD j (0, 0)).1) (symCells_get R j (by omega)).1
      have x1 := hRB.cell (i := j * 2 + 1) (u := .int .i64 (R.getD j (0, 0)).2) (symCells_get R j (by omega)).2
      generalize hqq : pr.getD m (0, 0) = q at *
      clear hqq hq hm
      obtain ⟨qa, qb⟩ := q
      simp only at q0 q1
      generalize (R.getD j (0, 0)).1 = ya at *
      generalize (R.getD j (0, 0)).2 = yb at *
      have hs0 : Hid ((fun (w' : World) => w'.cell? ⟨b5, 3, none⟩ = some (.slice (some ⟨pb, 0, none⟩) ps.length pc) /\ w'.cell? ⟨pb, k * 3 + 1, none⟩ = some (.slice (some ⟨bk, 0, none⟩) pr.length prc) /\ w'.cell? ⟨rb, ro + m * 2, none⟩ = some (.int .i64 qa) /\ w'.cell? ⟨rb, ro + m * 2 + 1, none⟩ = some (.int .i64 qb)) wr) := ⟨e3, e1, q0, q1⟩
      have wm : IntKind.i64.wrap (IntKind.i64.wrap ((pr.length : Int) - 1) - (j : Int)) = (m : Int) := by rw [IntWalk.i64_in ((pr.length : Int) - 1) ⟨by omega, by omega⟩, IntWalk.i64_in _ ⟨by omega, by omega⟩]; exact mi
      have jl : (j : Int) < (pr.length : Int) := by omega
      have ml : (m : Int) < (pr.length : Int) := by omega
      have kl : (k : Int) < (ps.length : Int) := by omega
      clear hRv hRB hT hrb0
      go_wp2
      refine wp_region_x (S := fun _ => (fun (w' : World) => w'.cell? ⟨b5, 3, none⟩ = some (.slice (some ⟨pb, 0, none⟩) ps.length pc) /\ w'.cell? ⟨pb, k * 3 + 1, none⟩ = some (.slice (some ⟨bk, 0, none⟩) pr.length prc) /\ w'.cell? ⟨rb, ro + m * 2, none⟩ = some (.int .i64 qa) /\ w'.cell? ⟨rb, ro + m * 2 + 1, none⟩ = some (.int .i64 qb))) (by kernel_rfl) ?_
      refine wtC (i := 0) (v := ?_) rfl (Or.inl ⟨by rfl, ?_⟩) hs0.out ?_
      rotate_left
      ·(intro w hSw; (try dsimp only at hSw); go_simp; try (with_reducible rfl))
      (try simp only [Act.put, lsA, lsZ, lsN])
      refine wtC (i := 1) (v := ?_) rfl (Or.inl ⟨by rfl, ?_⟩) hs0.out ?_
      rotate_left
      ·(intro w hSw; (try dsimp only at hSw); go_simp; try (with_reducible rfl))
      (try simp only [Act.put, lsA, lsZ, lsN])
      refine wtC (i := 2) (v := ?_) rfl (Or.inl ⟨by rfl, ?_⟩) hs0.out ?_
      rotate_left
      ·(intro w hSw; (try dsimp only at hSw); go_simp; try (with_reducible rfl))
      (try simp only [Act.put, lsA, lsZ, lsN])
      refine wtC (i := 3) (v := ?_) rfl (Or.inl ⟨by rfl, ?_⟩) hs0.out ?_
      rotate_left
      ·(intro w hSw; (try dsimp only at hSw); go_simp; try (with_reducible rfl))
      (try simp only [Act.put, lsA, lsZ, lsN])
      refine wtC (i := 4) (v := ?_) rfl (Or.inl ⟨by rfl, ?_⟩) hs0.out ?_
      rotate_left
      ·(intro w hSw; (try dsimp only at hSw); go_simp; try (with_reducible rfl))
      (try simp only [Act.put, lsA, lsZ, lsN])
      refine wtC (i := 5) (v := ?_) rfl (Or.inl ⟨by rfl, ?_⟩) hs0.out ?_
      rotate_left
      ·(intro w hSw; (try dsimp only at hSw); go_simp; try (with_reducible rfl))
      (try simp only [Act.put, lsA, lsZ, lsN])
      refine wtC (i := 6) (v := ?_) rfl (Or.inl ⟨by rfl, ?_⟩) hs0.out ?_
      rotate_left
      ·(intro w hSw; (try dsimp only at hSw); go_simp; try (with_reducible rfl))
      (try simp only [Act.put, lsA, lsZ, lsN])
      refine wtC (i := 7) (v := ?_) rfl (Or.inl ⟨by rfl, ?_⟩) hs0.out ?_
      rotate_left
      ·(intro w hSw; (try dsimp only at hSw); go_simp; try (with_reducible rfl))
      (try simp only [Act.put, lsA, lsZ, lsN])
      refine wtC (i := 8) (v := ?_) rfl (Or.inl ⟨by rfl, ?_⟩) hs0.out ?_
      rotate_left
      ·(intro w hSw; (try dsimp only at hSw); go_simp; try (with_reducible rfl))
      (try simp only [Act.put, lsA, lsZ, lsN])
      refine wtC (i := 9) (v := ?_) rfl (Or.inl ⟨by rfl, ?_⟩) hs0.out ?_
      rotate_left
      ·(intro w hSw; (try dsimp only at hSw); go_simp; try (with_reducible rfl))
      (try simp only [Act.put, lsA, lsZ, lsN])
      refine wtC (i := 10) (v := ?_) rfl (Or.inl ⟨by rfl, ?_⟩) hs0.out ?_
      rotate_left
      ·(intro w hSw; (try dsimp only at hSw); go_simp; try (with_reducible rfl))
      (try simp only [Act.put, lsA, lsZ, lsN])
      refine wtC (i := 11) (v := ?_) rfl (Or.inl ⟨by rfl, ?_⟩) hs0.out ?_
      rotate_left
      ·(intro w hSw; (try dsimp only at hSw); go_simp; try (with_reducible rfl))
      (try simp only [Act.put, lsA, lsZ, lsN])
      refine wpAnyX_takeC (i := 12) (v := .int .i64 m) rfl (by kernel_rfl) (by decide +kernel) (by decide +kernel) (fun _ _ _ h => h) (Or.inl ⟨by rfl, ?_⟩) hs0.out ?_
      ·(intro w hSw; (try dsimp only at hSw); go_simp; (try rw [wm]); try (with_reducible rfl))
      (try simp only [Act.put, lsA, lsZ, lsN])
      refine wtC (i := 13) (v := ?_) rfl (Or.inl ⟨by rfl, ?_⟩) hs0.out ?_
      rotate_left
      ·(intro w hSw; (try dsimp only at hSw); go_simp; try (with_reducible rfl))
      (try simp only [Act.put, lsA, lsZ, lsN])
      refine wtC (i := 14) (v := ?_) rfl (Or.inl ⟨by rfl, ?_⟩) hs0.out ?_
      rotate_left
      ·(intro w hSw; (try dsimp only at hSw); go_simp; try (with_reducible rfl))
      (try simp only [Act.put, lsA, lsZ, lsN])
      refine wtC (i := 15) (v := ?_) rfl (Or.inl ⟨by rfl, ?_⟩) hs0.out ?_
      rotate_left
      ·(intro w hSw; (try dsimp only at hSw); go_simp; try (with_reducible rfl))
      (try simp only [Act.put, lsA, lsZ, lsN])
      refine wpAnyX_one (j := 16) (by decide +kernel) rfl (fun K' hK => ?_)
      go_simp
      have bne : ∀ b, b = b5 ∨ b = pb ∨ b = rb -> b ≠ bk := fun b hb => by have h1 := HOR.out; have h2 := HRB.out; have h3 := HRL.out; rcases hb with rfl | rfl | rfl <;> omega
      have KK : ∀ b i, b ≠ bk -> (((wr.setCell ⟨bk, j * 2, none⟩ (.int .i64 qa)).setCell ⟨bk, j * 2 + 1, none⟩ (.int .i64 qb)).drew).cell? ⟨b, i, none⟩ = wr.cell? ⟨b, i, none⟩ := fun b i hb => World.cell?_of_block (a := ⟨b, i, none⟩) ((Below.heap_setCell _ _ _ _ hb).trans (Below.heap_setCell _ _ _ _ hb))
      refine hK.out _ _ ⟨(KK _ _ (bne _ (.inl rfl))).trans hs0.out.1, (KK _ _ (bne _ (.inr (.inl rfl)))).trans hs0.out.2.1, (KK _ _ (bne _ (.inr (.inr rfl)))).trans hs0.out.2.2.1, (KK _ _ (bne _ (.inr (.inr rfl)))).trans hs0.out.2.2.2⟩ ?_
      clear hK K' KK bne
      refine wpAnyX_done (by decide +kernel) ?_
      clear hs0 e3 e1 q0 q1 f0 f1 x0 x1
      have BD : Hid (RB (((wr.setCell ⟨bk, j * 2, none⟩ (.int .i64 qa)).setCell ⟨bk, j * 2 + 1, none⟩ (.int .i64 qb)).drew) bk 76 (symCells (R.set j (qa, qb))) /\ Turned wo (((wr.setCell ⟨bk, j * 2, none⟩ (.int .i64 qa)).setCell ⟨bk, j * 2 + 1, none⟩ (.int .i64 qb)).drew) bk) := ⟨by rw [symCells_setq (by omega)]; exact ((HI.out.2.1.set _ _).set _ _).later (Below.refl _ _).drew, (HI.out.2.2.trans ((Turned.set _ _ _ _).trans (Turned.set _ _ _ _))).trans (Turned.of _ (Below.refl _ _).drew)⟩
      generalize ((wr.setCell ⟨bk, j * 2, none⟩ (.int .i64 qa)).setCell ⟨bk, j * 2 + 1, none⟩ (.int .i64 qb)).drew = wn at *
      go_wp2
      go_roundw
      case rel =>
       refine ⟨j + 1, R.set j (qa, qb), by omega, by go_num, by simpa using hRl, fun t ht => ?_, BD.out.1, BD.out.2⟩
       by_cases e : t = j
       ·subst e
        rw [getD_set_eq (by omega), if_pos (by omega)]
        exact HQ.out
       ·rw [getD_set_ne e, HI.out.1 t ht]
        by_cases e2 : t < j
        ·rw [if_pos e2, if_pos (by omega)]
        ·rw [if_neg e2, if_neg (by omega)]
      case measure => simp [intOf]; omega
     ·obtain rfl : j = pr.length := by omega
      have ER : R = pr.reverse := by
       apply List.ext_getElem
       ·simpa using hRl
       ·intro t h1 h2
        have ht : t < pr.length := by omega
        have := hRv t ht
        rw [if_pos ht] at this
        simp only [List.getD, List.getElem?_eq_getElem h1, List.getElem?_eq_getElem (show pr.length - 1 - t < pr.length by omega), Option.getD_some] at this
        rw [this, List.getElem_reverse]
      subst ER
      clear hRv hRB hT hrb0
      go_wp2
      go_roundw
      case rel =>
       obtain ⟨hC, hT, hM, hLl, hcore⟩ := HC2.out
       obtain ⟨hrb, hA, hH, hnp⟩ := HRB.out
       have ho := HOR.out
       obtain ⟨_, r4, t4⟩ := HI.out
       have hw : bk < wo.heap.size := hrb.lt
       have hl2 := lt_of_block hC.out
       have hl6 := lt_of_block hT
       have hP := hM.p.turn (Nat.le_refl _) (i := k) (w' := wr) (by show k < L.length; omega) (by rw [HX.out]; exact hr) pr.reverse (by rw [HX.out]; simp) (fun j _ hj2 hj3 => t4.other j (by omega) (by rw [HX.out] at hj3; exact hj3)) (by rw [HX.out]; exact r4)
       rw [HX.out] at hP
       refine ⟨k + 1, L.set k { (⟨pl, some ⟨bk, 0, none⟩, prc, pr, pp⟩ : PV) with right := pr.reverse }, by omega, by go_num, ⟨(t4.other _ (by omega) (by omega)).trans hC.box, (t4.other _ hl2 (by omega)).trans hC.out, BT.out⟩, (t4.other _ hl6 (by omega)).trans hT, hM.prods t4.size (fun j hj hj2 => t4.other j hj (by omega)) _ (by simp) (by simpa using hP), by simpa using hLl, fun i hi => ?_⟩
       have hi' : i < L.length := by simpa using hi
       by_cases e : i = k
       ·subst e
        have h1 := hcore i hi'
        rw [if_neg (Nat.lt_irrefl _), HX.out] at h1
        rw [if_pos (by omega), getD_set_eq hi', <- h1]
        rfl
       ·rw [getD_set_ne e, hcore i hi']
        by_cases e2 : i < k
        ·rw [if_pos e2, if_pos (by omega)]
        ·rw [if_neg e2, if_neg (by omega)]
      case measure => simp [intOf]; omega
  ·obtain rfl : k = ps.length := by omega
   have b0 : wr.cell? ⟨b5, 0, none⟩ = some (.slice ta g.ts.length tc) := (cellq_any hT).trans rfl
   have r0 : wr.cell? ⟨w.heap.size + 1, 0, none⟩ = some (.slice none 0 0) := (cellq_any hC.out).trans rfl
   have y0 : wr.frozen? ⟨w.heap.size + 1, 0, none⟩ = false := by simp [World.frozen?, hC.out]
   have b1 : wr.cell? ⟨b5, 1, none⟩ = some (.slice na g.ns.length nc) := (cellq_any hT).trans rfl
   have r1 : wr.cell? ⟨w.heap.size + 1, 1, none⟩ = some (.slice none 0 0) := (cellq_any hC.out).trans rfl
   have y1 : wr.frozen? ⟨w.heap.size + 1, 1, none⟩ = false := by simp [World.frozen?, hC.out]
   have b2 : wr.cell? ⟨b5, 2, none⟩ = some (.int .i64 g.start) := (cellq_any hT).trans rfl
   have r2 : wr.cell? ⟨w.heap.size + 1, 2, none⟩ = some (.int .i64 0) := (cellq_any hC.out).trans rfl
   have y2 : wr.frozen? ⟨w.heap.size + 1, 2, none⟩ = false := by simp [World.frozen?, hC.out]
   have b3 : wr.cell? ⟨b5, 3, none⟩ = some (.slice (some ⟨pb, 0, none⟩) ps.length pc) := (cellq_any hT).trans rfl
   have r3 : wr.cell? ⟨w.heap.size + 1, 3, none⟩ = some (.slice none 0 0) := (cellq_any hC.out).trans rfl
   have y3 : wr.frozen? ⟨w.heap.size + 1, 3, none⟩ = false := by simp [World.frozen?, hC.out]
   have b4 : wr.cell? ⟨b5, 4, none⟩ = some (.slice la ls.length lc) := (cellq_any hT).trans rfl
   have r4 : wr.cell? ⟨w.heap.size + 1, 4, none⟩ = some (.slice none 0 0) := (cellq_any hC.out).trans rfl
   have y4 : wr.frozen? ⟨w.heap.size + 1, 4, none⟩ = false := by simp [World.frozen?, hC.out]
   have hz : w.heap.size + 1 < wr.heap.size := lt_of_block hC.out
   clear hC hT hM hcore
   go_wp2
   refine bodyPost_ret (v := .tuple #[.agg #[.slice ta g.ts.length tc, .slice na g.ns.length nc, .int .i64 g.start, .slice (some ⟨pb, 0, none⟩) ps.length pc, .slice la ls.length lc], .int .i64 0]) (by simp [results, Tryz.results11, go_sem, r0, r1, r2, r3, r4]) rfl ?_
   obtain ⟨hC, hT, hM, hLl, hcore⟩ := HC2.out
   have h5 := hC.five (.slice ta g.ts.length tc) (.slice na g.ns.length nc) (.int .i64 g.start) (.slice (some ⟨pb, 0, none⟩) ps.length pc) (.slice la ls.length lc)
   have hB := HB.out
   refine ⟨⟨ta, tc, g.ts, na, nc, g.ns, g.start, some ⟨pb, 0, none⟩, pc, L, la, lc, ls⟩, A, H, E, pb, lb, tb, nb, ?_, ⟨rfl, rfl, rfl, ?_, S2.out.2⟩, ?_, h5.1⟩
   ·simp only [GV.val, hLl]
   ·have e3 : ps.length = g.ps.length := by simpa using congrArg List.length S2.out.1
    refine core_ext PV.core .none (by simp [GV.rev]; omega) fun i hi => ?_
    have hi' : i < L.length := hi
    rw [hcore i hi', if_pos (by omega), getD_core PV.core, S2.out.1, <- getD_core PV.core]
    have e4 : (g.rev.ps.getD i .none) = (g.ps.getD i .none).rev := by simp [GV.rev, List.getD, show i < g.ps.length by omega]
    rw [e4]
    rfl
   ·refine (hM.kept ?_ fun j hj _ => h5.2 j (by omega)).mono (by omega)
    simp
end Go.Proofs.YtmkakdfdfdcncaaGreatDoor
