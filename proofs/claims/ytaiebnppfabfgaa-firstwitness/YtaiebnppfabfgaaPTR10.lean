import Derived.Test.YtaiebnppfabfgaaPTR9
import Derived.Laws.OwnMore
namespace Go.Proofs.Ytaiebnppfabfgaa
set_option linter.unusedVariables false
set_option maxRecDepth 100000
set_option maxHeartbeats 16000000
open Go.RowKit
structure DW (g : GV) (w : World) (sb : Nat) (S : List Bool) (D : List Int) (v : Value) (wr : World) : Prop where
 bb : BB wr sb S
 len : S.length = g.ns.length
 il : IL wr v D
 own : ∀ j, v.ownBlock = some j -> sb < j
 box : wr.heap[w.heap.size]? = some (gBox g)
 bel : Below w.heap.size w wr
 ord : w.heap.size < sb
theorem DW.any {g : GV} {w wr w' : World} {sb : Nat} {S : List Bool} {D : List Int} {v : Value} (h : DW g w sb S D v wr) (hb : Below wr.heap.size wr w') : DW g w sb S D v w' :=
 ⟨h.bb.later hb, h.len, h.il.later hb, h.own, (hb.block _ (lt_of_block h.box)).trans h.box, h.bel.trans (hb.mono h.bel.size), h.ord⟩
theorem DW.set {g : GV} {w wr : World} {sb : Nat} {S : List Bool} {D : List Int} {v : Value} (h : DW g w sb S D v wr) (x : Nat) : DW g w sb (S.set x true) D v (wr.setCell ⟨sb, x, none⟩ (.bool true)) := by
 have ho := h.ord
 refine ⟨h.bb.set x true, by simpa using h.len, h.il.kept (fun k hk => Below.heap_setCell _ _ _ _ ?_), h.own, (Below.heap_setCell _ _ _ _ (by show w.heap.size ≠ sb; omega)).trans h.box, h.bel.setCell (p := ⟨sb, x, none⟩) (by show w.heap.size <= sb; omega) _, ho⟩
 have := h.own k hk
 show k ≠ sb
 omega
theorem DW.app {g : GV} {w wr w1 w4 : World} {sb : Nat} {S : List Bool} {D : List Int} {v v' : Value} {y : Int} (h : DW g w sb S D v wr) (hb : Below wr.heap.size wr w1) (hg : Grew w1 w4 v v') (hi : IL w4 v' (D ++ [y])) : DW g w sb S (D ++ [y]) v' w4 := by
 have h1 := h.any hb
 have ho := h.ord
 have hs : sb < w1.heap.size := h1.bb.lt
 have hne : ∀ k, k <= sb -> some k ≠ v.ownBlock := fun k hk e => by have := h.own k e.symm; omega
 refine ⟨h1.bb.kept (hg.grown.block _ hs (hne _ (Nat.le_refl _))), h.len, hi, fun j hj => ?_, (hg.grown.block _ (lt_of_block h1.box) (hne _ (by omega))).trans h1.box, ⟨hg.grown.os.trans h1.bel.os, hg.grown.tape.trans h1.bel.tape, hg.grown.output.trans h1.bel.output, Nat.le_trans h1.bel.size hg.grown.size, fun k hk => (hg.grown.block k (Nat.lt_of_lt_of_le hk h1.bel.size) (hne k (by omega))).trans (h1.bel.block k hk)⟩, ho⟩
 rcases hg.moved with e | ⟨k, e, hk⟩
 ·exact h.own j (by rw [<- e]; exact hj)
 ·rw [e] at hj
  simp at hj
  omega
theorem IL.pop {wr : World} {v : Value} {D : List Int} {x : Int} (h : IL wr v (D ++ [x])) : ∃ b c, v = .slice (some ⟨b, 0, none⟩) (D.length + 1) c /\ D.length + 1 <= c /\ wr.cell? ⟨b, D.length, none⟩ = some (.int .i64 x) /\ IL wr (.slice (some ⟨b, 0, none⟩) D.length c) D := by
 unfold IL at h
 rw [show (D ++ [x]).length = D.length + 1 by simp] at h
 rcases h.2 with ⟨_, h0⟩ | ⟨b, cap, cur, rfl, h1, h2, h3, h4, h5, h6⟩
 ·omega
 ·refine ⟨b, cap, rfl, h3, ?_, ⟨by simp, .inr ⟨b, cap, cur, rfl, h1, h2, by omega, h4, h5, ?_⟩⟩⟩
  ·rw [World.ownsRow.cellAt h D.length (by omega)]
   simp
  ·have e : cur.toList.take (D.length * 1) = (cur.toList.take ((D.length + 1) * 1)).take D.length := by rw [List.take_take]; congr 1; omega
   rw [e, h6]
   simp
theorem DW.pop {g : GV} {w wr : World} {sb : Nat} {S : List Bool} {D : List Int} {v : Value} {x : Int} (h : DW g w sb S (D ++ [x]) v wr) : ∃ b c, v = .slice (some ⟨b, 0, none⟩) (D.length + 1) c /\ D.length + 1 <= c /\ wr.cell? ⟨b, D.length, none⟩ = some (.int .i64 x) /\ DW g w sb S D (.slice (some ⟨b, 0, none⟩) D.length c) wr := by
 obtain ⟨b, c, rfl, h1, h2, h3⟩ := h.il.pop
 exact ⟨b, c, rfl, h1, h2, h.bb, h.len, h3, h.own, h.box, h.bel, h.ord⟩
theorem slice_toI (b lc len i : Nat) (hi : i <= lc) (w : World) : (Instr.slice 35 (.slice (some ⟨b, 0, none⟩) len lc) none (some (.int .i64 (i : Int))) none).run Try.prog w = .ok (.slice (some ⟨b, 0, none⟩) i lc) w := by
 obtain ⟨i0, hinf, _, hz1, _⟩ := infoInt_parts
 have hu : Try.prog.underlying 35 = some (.slice (Try.prog.elem 35)) := by kernel_rfl
 have he : Try.prog.elem 35 = 3 := by kernel_rfl
 have := run_slice_h (P := Try.prog) (w := w) 35 (some ⟨b, 0, none⟩) len lc hu .i64 (i : Int) (by omega) (by omega)
 rw [this, he]
 simp [sizeOf, typeInfo, hinf, hz1]
 unfold sliced
 split <;> simp [add_none]
def lenV : Value -> Nat
 | .slice _ n _ => n
 | _ => 0
theorem snoc_of {α : Type} (l : List α) (h : l ≠ []) : ∃ d x, l = d ++ [x] := ⟨l.dropLast, l.getLast h, (List.dropLast_concat_getLast h).symm⟩
theorem begins_S (g : GV) (nb : Nat) (F : List BS) (a : Nat) (t : Int) (w : World) (hfg : FG w g) (hN : BB w nb (nullU g.ps g.ns.length)) (hF : LeastF g F) (ha : a < g.ns.length) (ht : 0 <= t /\ t < 128) (hin : hasS (F.getD a (0, 0)) t.toNat = true) :
  Calls Try.prog 12 #[g.val, .slice (some ⟨nb, 0, none⟩) g.ns.length g.ns.length, .int .i64 (a : Int), .int .i64 t] w fun e w' => e = .returned (.bool true) /\ Below w.heap.size w w' := by
 have X0 : Hid ((w.alloc (gBox g)).heap[w.heap.size]? = some (gBox g)) := heap_alloc_new _ _
 have HFG : Hid (∀ w', Below w.heap.size w w' -> FG w' g /\ BB w' nb (nullU g.ps g.ns.length)) := fun w' hb => ⟨hfg.later hb, hN.later hb⟩
 have HGP : Hid (GP g) := hfg.gp
 have HNL : Hid ((nullU g.ps g.ns.length).length = g.ns.length) := nullU_len _ _
 have MISS : Hid (∀ S, ¬ BI g t a S []) := fun S h => by
  have := h.misses hfg.gp hF ht
  rw [hin] at this
  cases this
 have hmk := make_boolF g.ns.length (by have := hfg.nl; omega)
 have hpl := hfg.pl
 have hnl := hfg.nl.2
 obtain ⟨x0, x1, x2, x3, x4⟩ := gb_cells X0.out
 have hz : (w.alloc (gBox g)).heap.size = w.heap.size + 1 := by simp
 have D0 : Hid (DW g w (w.heap.size + 1) (List.replicate g.ns.length false) [(a : Int)] (.slice (some ⟨w.heap.size + 1 + 1, 0, none⟩) 1 1) (((w.alloc (gBox g)).alloc (.cells (madeCells #[.bool false] g.ns.length) 4)).alloc (.cells #[.int .i64 (a : Int)] 3))) := by
  have b1 := below_alloc w (gBox g)
  have b2 := below_alloc (w.alloc (gBox g)) (.cells (madeCells #[.bool false] g.ns.length) 4)
  have b3 := below_alloc ((w.alloc (gBox g)).alloc (.cells (madeCells #[.bool false] g.ns.length) 4)) (.cells #[.int .i64 (a : Int)] 3)
  have hz2 : ((w.alloc (gBox g)).alloc (.cells (madeCells #[.bool false] g.ns.length) 4)).heap.size = w.heap.size + 1 + 1 := by simp
  have m := BB.made (w.alloc (gBox g)) g.ns.length
  rw [hz] at m
  have il := World.ownsRow_lit (e := 3) (size := 1) (base := 0) ((w.alloc (gBox g)).alloc (.cells (madeCells #[.bool false] g.ns.length) 4)) #[.int .i64 (a : Int)] 1 (Nat.zero_le _) (by unfold maxLen; omega) rfl
  rw [hz2] at il
  exact ⟨m.later b3, by simp, il, fun j hj => by simp [Value.ownBlock] at hj; omega, (b3.block _ (by rw [hz2]; omega)).trans ((b2.block _ (by rw [hz]; omega)).trans X0.out), b1.trans ((b2.mono b1.size).trans (b3.mono (Nat.le_trans b1.size b2.size))), by omega⟩
 have I0 : Hid (BI g t a (List.replicate g.ns.length false) [(a : Int)]) := BI.start ha
 clear hfg hN hF ht hin ha hz
 obtain ⟨NU, hNU⟩ : ∃ NU, nullU g.ps g.ns.length = NU := ⟨_, rfl⟩
 rw [hNU] at HFG HNL
 have HNU : Hid (nullU g.ps g.ns.length = NU) := hNU
 clear hNU
 go_enter Try.func12, Try.ntmps12
 go_wp2
 clear x0 x1 x2 x3 x4
 generalize hsb : w.heap.size + 1 = sb at *
 go_loopw [10] (fun v wr => ∃ S D, DW g w sb S D v wr /\ BI g t a S D) (fun v wr => mesB sb wr * 5000 + lenV v)
 case atStart => exact ⟨_, _, D0.out, I0.out⟩
 case round =>
  clear D0 I0 X0
  obtain ⟨S, D, hW, hI⟩ := hrel
  have HME : Hid (mesB sb wr = falseU S) := mesB_of hW.bb
  by_cases hD : D = []
  ·rw [hD] at hI
   exact (MISS.out S hI).elim
  obtain ⟨D', xi, rfl⟩ := snoc_of D hD
  have hxi := hI.num xi (by simp)
  obtain ⟨x, rfl⟩ : ∃ x : Nat, xi = (x : Int) := ⟨xi.toNat, by omega⟩
  obtain ⟨tb, tc, rfl, htc, cx, hW'⟩ := hW.pop
  have hxl : x < S.length := by rw [hW.len]; omega
  have xlt : (x : Int) < (g.ns.length : Int) := hxi.2
  have hs1 := slice_toI tb tc (D'.length + 1) D'.length (by omega)
  have cm := hW'.bb.cell hxl
  have fm := hW'.bb.free x
  have HW : Hid (DW g w sb S D' (.slice (some ⟨tb, 0, none⟩) D'.length tc) wr) := hW'
  have SW : Hid (DW g w sb (S.set x true) D' (.slice (some ⟨tb, 0, none⟩) D'.length tc) (wr.setCell ⟨sb, x, none⟩ (.bool true))) := hW'.set x
  have HI : Hid (BI g t a S (D' ++ [(x : Int)])) := hI
  have HXL : Hid (x < S.length) := hxl
  obtain ⟨sv, hsv⟩ : ∃ sv, S.getD x false = sv := ⟨_, rfl⟩
  rw [hsv] at cm
  have HSV : Hid (S.getD x false = sv) := hsv
  have HDL : Hid (D'.length <= 5000 * g.ns.length) := by have := hI.sz; simp at this; show _ <= _; omega
  clear hsv hD hI hW hW' hxi hxl htc
  obtain ⟨n, hn⟩ : ∃ n, D'.length = n := ⟨_, rfl⟩
  rw [hn] at hs1 cx HW SW HDL ⊢
  have HN : Hid (D'.length = n) := hn
  have hnb : n <= 320000 := by have := HDL.out; omega
  clear hn
  cases sv
  ·have CI0 : Hid (CI g t a x S n 0 0 D') := by
    have := HI.out.open HXL.out
    rwa [HN.out] at this
   have HIS : Hid (n + 1 + 5000 * falseU S <= 5000 * g.ns.length + 1) := by
    have := HI.out.sz
    rw [List.length_append, HN.out] at this
    exact this
   clear HI HW HDL
   obtain ⟨wz, rfl⟩ : ∃ wz : World, wz = wr := ⟨_, rfl⟩
   go_wp2
   clear cx cm fm hs1
   generalize wz.setCell ⟨sb, x, none⟩ (.bool true) = ws at *
   go_loopw [10, 12] (fun v i wr => ∃ (k : Nat) (D2 : List Int), k <= g.ps.length /\ i = .int .i64 k /\ DW g w sb (S.set x true) D2 v wr /\ CI g t a x S n k (16 * k) D2) (fun _ i _ => g.ps.length - (intOf i).toNat)
   case atStart => exact ⟨0, D', Nat.zero_le _, rfl, SW.out, CI0.out⟩
   case round =>
    clear SW CI0 HN
    obtain ⟨k, D2, hk, rfl, hW, hC⟩ := hrel
    obtain ⟨va, vc, rfl⟩ := il_len hW.il
    have HW : Hid (DW g w sb (S.set x true) D2 (.slice va D2.length vc) wr) := hW
    have HC : Hid (CI g t a x S n k (16 * k) D2) := hC
    obtain ⟨x0, x1, x2, x3, x4⟩ := gb_cells hW.box
    by_cases hlt : k < g.ps.length
    ·have klt : (k : Int) < (g.ps.length : Int) := by omega
     have hmem : g.ps.getD k .none ∈ g.ps := by simp [List.getD, hlt]
     obtain ⟨p, hp⟩ : ∃ p, g.ps.getD k .none = p := ⟨_, rfl⟩
     have HPK : Hid (g.ps.getD k .none = p) := hp
     have HPC : Hid (∀ w', Below w.heap.size w w' -> ∃ b o, g.pa = some ⟨b, o, none⟩ /\ w'.cell? ⟨b, o + k * 3, none⟩ = some (.int .i64 p.left) /\ w'.cell? ⟨b, o + k * 3 + 1, none⟩ = some (.slice p.ra p.right.length p.rc)) := fun w' hb => by
      obtain ⟨b, o, hpa, hbl, hc⟩ := (HFG.out _ hb).1.p.cells (by intro e; rw [e] at hlt; simp at hlt)
      obtain ⟨c0, c1, c2⟩ := hc k hlt
      rw [hp] at c0 c1
      exact ⟨b, o, hpa, c0, c1⟩
     rw [hp] at hmem
     have HRO : Hid (∀ w', Below w.heap.size w w' -> SymRow w' p.ra p.right) := fun w' hb => (HFG.out _ hb).1.p.rows _ hmem
     obtain ⟨l0, l1⟩ := (HFG.out _ hW.bel).1.left _ hmem
     have hrl := (HFG.out _ hW.bel).1.rl _ hmem
     have HSY : Hid (∀ s ∈ p.right, (s.1 = 1 /\ 0 <= s.2 /\ s.2 < g.ts.length) ∨ (s.1 = 2 /\ 0 <= s.2 /\ s.2 < g.ns.length)) := (HFG.out _ hW.bel).1.sym _ hmem
     obtain ⟨m, hm⟩ : ∃ m : Nat, p.left = (m : Int) := ⟨p.left.toNat, by omega⟩
     have HPL : Hid (p.left = (m : Int)) := hm
     rw [hm] at HPC
     obtain ⟨pb, po, hpa, c0, c1⟩ := HPC.out _ hW.bel
     rw [hpa] at x3
     clear hmem hp hm l0 l1 hW hC
     by_cases hmx : m = x
     ·subst hmx
      have e0 : ((m : Int) != (m : Int)) = false := by simp
      obtain ⟨wy, rfl⟩ : ∃ wy : World, wy = wr := ⟨_, rfl⟩
      go_wp2
      go_loopw [10, 13] (fun v i wr => ∃ (q : Nat) (D3 : List Int), q <= p.right.length /\ i = .int .i64 q /\ DW g w sb (S.set m true) D3 v wr /\ CI g t a m S n k (16 * k + q) D3 /\ preP NU (QD (S.set m true) D3) (p.right.take q)) (fun _ i _ => p.right.length - (intOf i).toNat)
      case atStart => exact ⟨0, D2, Nat.zero_le _, rfl, HW.out, HC.out, fun s hs => by simp at hs⟩
      case round =>
       clear x0 x1 x2 x3 x4 c0 c1 HW HC
       obtain ⟨q, D3, hq, rfl, hW, hC, hP⟩ := hrel
       obtain ⟨va, vc, rfl⟩ := il_len hW.il
       have HW : Hid (DW g w sb (S.set m true) D3 (.slice va D3.length vc) wr) := hW
       have HC : Hid (CI g t a m S n k (16 * k + q) D3) := hC
       have HP : Hid (preP NU (QD (S.set m true) D3) (p.right.take q)) := hP
       obtain ⟨x0, x1, x2, x3, x4⟩ := gb_cells hW.box
       obtain ⟨pb', po', hpa', c0, c1⟩ := HPC.out _ hW.bel
       rw [hpa] at x3 hpa'
       simp only [Option.some.injEq, Addr.mk.injEq, and_true] at hpa'
       obtain ⟨rfl, rfl⟩ := hpa'
       by_cases hql : q < p.right.length
       ·obtain ⟨rb, ro, hpr, hsl, hsc⟩ := HRO.out _ hW.bel (by intro e; rw [e] at hql; simp at hql)
        obtain ⟨s0, s1⟩ := hsc q hql
        have qlt : (q : Int) < (p.right.length : Int) := by omega
        have hsm : p.right.getD q (0, 0) ∈ p.right := by simp [List.getD, hql]
        have hin := HSY.out _ hsm
        clear hsc hsl hsm
        rw [hpr] at c1
        have HDR : Hid (p.right = p.right.take q ++ p.right.getD q (0, 0) :: p.right.drop (q + 1)) := by
         show _ = _
         have : p.right.getD q (0, 0) = p.right[q] := by simp [List.getD, hql]
         rw [this, <- List.drop_eq_getElem_cons hql, List.take_append_drop]
        obtain ⟨y, hy⟩ : ∃ y, p.right.getD q (0, 0) = y := ⟨_, rfl⟩
        rw [hy] at s0 s1 hin HDR
        have HYQ : Hid (p.right.getD q (0, 0) = y) := hy
        clear hy
        obtain ⟨y1, y2⟩ := y
        simp only at s0 s1 hin
        have HW1 : Hid (DW g w sb (S.set m true) D3 (.slice va D3.length vc) (wr.alloc (.cells #[.int .i64 y1, .int .i64 y2] 43))) := hW.any (below_alloc _ _)
        clear hW hC hP hpr
        rcases hin with ⟨h1, i0, i1⟩ | ⟨h1, i0, i1⟩
        ·have e1 : (y1 == 1) = true := by simpa using h1
         by_cases hyt : y2 = t
         ·have e2 : (y2 == t) = true := by simpa using hyt
          clear hyt h1
          go_wp2
          go_ret
          exact ⟨rfl, HW1.out.bel⟩
         ·have e2 : (y2 == t) = false := by simpa using hyt
          have R : Hid (CI g t a m S n (k + 1) (16 * (k + 1)) D3) := HC.out.next (fun _ => by
           rw [HPK.out, HDR.out]
           refine preP_cor _ _ HP.out ?_
           unfold corP
           rw [if_pos h1]
           exact hyt) (by omega)
          clear hyt h1
          go_wp2
          go_roundw
          case rel => exact ⟨k + 1, D3, by omega, by go_num, HW1.out, R.out⟩
          case measure => simp [intOf]; omega
        ·have e1 : (y1 == 1) = false := by rw [h1]; decide
         obtain ⟨e, rfl⟩ : ∃ e : Nat, y2 = (e : Int) := ⟨y2.toNat, by omega⟩
         have HNC : Hid (∀ w', Below w.heap.size w w' -> w'.cell? ⟨nb, e, none⟩ = some (.bool (NU.getD e false))) := fun w' hb => (HFG.out _ hb).2.cell (by rw [HNL.out]; omega)
         have R3 : Hid (CI g t a m S n k (16 * k + (q + 1)) (D3 ++ [(e : Int)])) := HC.out.app (e : Int) ⟨i0, i1⟩
         have P3 : Hid (preP NU (QD (S.set m true) (D3 ++ [(e : Int)])) (p.right.take (q + 1))) := fun s hs => by
          rw [List.take_succ_eq_append_getElem hql] at hs
          rcases List.mem_append.1 hs with z | z
          ·exact ⟨(HP.out s z).1, (HP.out s z).2.app _⟩
          ·have hy : p.right[q] = (y1, (e : Int)) := by
            have := HYQ.out
            simpa [List.getD, hql] using this
           rw [hy] at z
           simp at z
           subst z
           exact ⟨by show y1 ≠ 1; omega, Or.inr (by simp)⟩
         have R4 : Hid (NU.getD e false = false -> CI g t a m S n (k + 1) (16 * (k + 1)) (D3 ++ [(e : Int)])) := fun hn => R3.out.next (fun _ => by
          rw [HPK.out, HDR.out, HNU.out]
          refine preP_cor _ _ (fun s hs => ⟨(HP.out s hs).1, (HP.out s hs).2.app _⟩) ?_
          unfold corP
          rw [if_neg (by show ¬ y1 = 1; omega)]
          refine ⟨Or.inr (by simp), fun h => ?_⟩
          have h' : NU.getD e false = true := by simpa using h
          rw [hn] at h'
          cases h') (by omega)
         have HIA : Hid (IL ((wr.alloc (.cells #[.int .i64 y1, .int .i64 (e : Int)] 43)).alloc (.cells #[.int .i64 (e : Int)] 3)) (.slice va D3.length vc) D3) := HW1.out.il.later (below_alloc _ _)
         have HLT : Hid (D3.length <= 2000000) := by have := HC.out.sz; show _ <= _; omega
         have B3 : Hid (Below wr.heap.size wr ((wr.alloc (.cells #[.int .i64 y1, .int .i64 (e : Int)] 43)).alloc (.cells #[.int .i64 (e : Int)] 3))) := (below_alloc wr _).trans ((below_alloc (wr.alloc _) _).mono (below_alloc wr _).size)
         have HOB : Hid (∀ j, (Value.slice va D3.length vc).ownBlock = some j -> j < wr.heap.size) := HW.out.il.lt
         have elt : (e : Int) < (g.ns.length : Int) := i1
         generalize hnv : NU.getD e false = nv at *
         clear h1 HP HC
         cases nv
         ·go_wp2_with (at_builtin; refine wpList_il_append rfl _ _ rfl (.slice va D3.length vc) D3 rfl HIA.out _ 1 (e : Int) rfl (by simp) HLT.out ?_; intro a4 n4 c4 w4 ho4 hg4; have z1 := World.grownBy.cell hg4.grown (a := ⟨wr.heap.size, 1, none⟩) (v := .int .i64 (e : Int)) (by simp) (fun h => absurd (HOB.out _ h.symm) (Nat.lt_irrefl _)); have W4 : Hid (DW g w sb (S.set m true) (D3 ++ [(e : Int)]) (.slice a4 n4 c4) w4) := HW.out.app B3.out hg4 ho4; clear ho4 hg4; have nc := HNC.out _ W4.out.bel)
          go_roundw
          case rel => exact ⟨k + 1, _, by omega, by go_num, W4.out, R4.out rfl⟩
          case measure => simp [intOf]; omega
         ·go_wp2_with (at_builtin; refine wpList_il_append rfl _ _ rfl (.slice va D3.length vc) D3 rfl HIA.out _ 1 (e : Int) rfl (by simp) HLT.out ?_; intro a4 n4 c4 w4 ho4 hg4; have z1 := World.grownBy.cell hg4.grown (a := ⟨wr.heap.size, 1, none⟩) (v := .int .i64 (e : Int)) (by simp) (fun h => absurd (HOB.out _ h.symm) (Nat.lt_irrefl _)); have W4 : Hid (DW g w sb (S.set m true) (D3 ++ [(e : Int)]) (.slice a4 n4 c4) w4) := HW.out.app B3.out hg4 ho4; clear ho4 hg4; have nc := HNC.out _ W4.out.bel)
          go_roundw
          case rel => exact ⟨q + 1, _, by omega, by go_num, W4.out, R3.out, P3.out⟩
          case measure => simp [intOf]; omega
       ·obtain rfl : q = p.right.length := by omega
        have qlt : ¬ (p.right.length : Int) < (p.right.length : Int) := by omega
        have R : Hid (CI g t a m S n (k + 1) (16 * (k + 1)) D3) := HC.out.next (fun _ => by
         rw [HPK.out]
         have := preP_cor (N := nullU g.ps g.ns.length) (t := t) _ [] (show preP (nullU g.ps g.ns.length) _ _ from HP.out) trivial
         rwa [List.take_length, List.append_nil] at this) (by omega)
        clear hW hC hP
        go_wp2
        go_roundw
        case rel => exact ⟨k + 1, D3, by omega, by go_num, HW.out, R.out⟩
        case measure => simp [intOf]; omega
     ·have e0 : ((m : Int) != (x : Int)) = true := by simp; omega
      have R : Hid (CI g t a x S n (k + 1) (16 * (k + 1)) D2) := HC.out.next (fun e => by rw [HPK.out, HPL.out] at e; omega) (by omega)
      go_wp2
      go_roundw
      case rel => exact ⟨k + 1, D2, by omega, by go_num, HW.out, R.out⟩
      case measure => simp [intOf]; omega
    ·obtain rfl : k = g.ps.length := by omega
     have klt : ¬ (g.ps.length : Int) < (g.ps.length : Int) := by omega
     have R : Hid (BI g t a (S.set x true) D2) := HC.out.shut HGP.out HXL.out HSV.out (by omega) HIS.out
     have HM2 : Hid (mesB sb wr = falseU (S.set x true) /\ falseU (S.set x true) + 1 = falseU S /\ D2.length <= n + 4096) := ⟨mesB_of hW.bb, falseU_set S x HXL.out HSV.out, by have := hC.sz; omega⟩
     clear hW hC
     go_wp2
     go_roundw
     case rel => exact ⟨_, D2, HW.out, R.out⟩
     case measure =>
      obtain ⟨m1, m2, m3⟩ := HM2.out
      have m4 := HME.out
      simp only [lenV]
      omega
  ·have R : Hid (BI g t a S D') := HI.out.skip HSV.out
   clear HI SW
   go_wp2
   go_roundw
   case rel => exact ⟨S, D', HW.out, R.out⟩
   case measure => simp [lenV]
end Go.Proofs.Ytaiebnppfabfgaa
