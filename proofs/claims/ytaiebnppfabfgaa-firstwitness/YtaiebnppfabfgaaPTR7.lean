import Derived.Test.YtaiebnppfabfgaaPTR6
namespace Go.Proofs.Ytaiebnppfabfgaa
set_option linter.unusedVariables false
set_option maxRecDepth 100000
set_option maxHeartbeats 16000000
open Go.RowKit
def MarkO (n : Nat) (w : World) (e : Ending) (w' : World) : Prop := ∃ b M, e = .returned (.slice (some ⟨b, 0, none⟩) n n) /\ M.length = n /\ BB w' b M /\ w.heap.size <= b /\ Below w.heap.size w w'
theorem circles_R (g : GV) (w : World) (hfg : FG w g) (hcap : ∀ p ∈ g.ps, p.right.length <= p.rc) :
  Calls Try.prog 47 #[g.val] w fun e w' => MarkO g.ns.length w e w' := by
 have X0 : Hid ((w.alloc (gBox g)).heap[w.heap.size]? = some (gBox g)) := heap_alloc_new _ _
 have HFG : Hid (∀ w', Below w.heap.size w w' -> FG w' g) := fun w' hb => hfg.later hb
 have HCP : Hid (∀ p ∈ g.ps, p.right.length <= p.rc) := hcap
 have hmk := make_boolF g.ns.length (by have := hfg.nl; omega)
 have hmb := make_blF g.ns.length (by have := hfg.nl; omega)
 have hpl := hfg.pl
 have hnl := hfg.nl.2
 obtain ⟨x0, x1, x2, x3, x4⟩ := gb_cells X0.out
 have LC : Hid (Calls Try.prog 63 #[g.val] (w.alloc (gBox g)) fun e w' => ∃ b M, e = .returned (.slice (some ⟨b, 0, none⟩) g.ns.length g.ns.length) /\ MLst g.ps g.ns.length false M /\ BB w' b M /\ (w.alloc (gBox g)).heap.size <= b /\ Below (w.alloc (gBox g)).heap.size (w.alloc (gBox g)) w') := null7_R g _ (hfg.later (below_alloc _ _))
 clear hfg hcap
 go_enter Try.func47, Try.ntmps47
 go_wp2_with (go_at_call 63; refine LC.out.mono ?_; rintro e w2 ⟨mb, NU, rfl, m2, bb2, l2, b2⟩; have B2 : Hid (NU.length = g.ns.length /\ BB w2 mb NU /\ w.heap.size < mb /\ w2.heap[w.heap.size]? = some (gBox g) /\ Below w.heap.size w w2) := ⟨m2.len, bb2, (by have := l2; simp at this; omega), (b2.block _ (lt_of_block X0.out)).trans X0.out, (below_alloc w _).trans (b2.mono (below_alloc w _).size)⟩; clear m2 bb2 l2 b2 x0 x1 x2 x3 x4; obtain ⟨x0, x1, x2, x3, x4⟩ := gb_cells B2.out.2.2.2.1)
 have C0 : Hid (CW g w mb w2.heap.size 0 NU (w2.alloc (.cells (madeCells #[.slice none 0 0] g.ns.length) 28))) := by
  have bA := below_alloc w2 (.cells (madeCells #[.slice none 0 0] g.ns.length) 28)
  obtain ⟨_, q2, q3, q4, q5⟩ := B2.out
  exact ⟨GM.made _ _, q2.later bA, ⟨q3, q2.lt⟩, (bA.block _ (lt_of_block q4)).trans q4, q5.trans (bA.mono q5.size)⟩
 have HNU : Hid (NU.length = g.ns.length) := B2.out.1
 clear x0 x1 x2 x3 x4
 generalize hgb : w2.heap.size = gb at *
 generalize Value.agg #[Value.slice g.ta g.ts.length g.tc, Value.slice g.na g.ns.length g.nc, Value.int .i64 g.start, Value.slice g.pa g.ps.length g.pc, Value.slice g.la g.ls.length g.lc] = v15
 go_loopw [5] (fun i wr => ∃ k : Nat, k <= g.ns.length /\ i = .int .i64 k /\ CW g w mb gb k NU wr) (fun i _ => g.ns.length - (intOf i).toNat)
 case atStart => exact ⟨0, Nat.zero_le _, rfl, C0.out⟩
 case round =>
  clear C0 B2 hgb
  obtain ⟨k, hk, rfl, hC⟩ := hrel
  have HC : Hid (CW g w mb gb k NU wr) := hC
  obtain ⟨x0, x1, x2, x3, x4⟩ := gb_cells hC.box
  by_cases hlt : k < g.ns.length
  ·have klt : (k : Int) < (g.ns.length : Int) := by omega
   obtain ⟨v0, hv0⟩ := (hC.gm.any (below_alloc wr (.cells (madeCells #[.bool false] g.ns.length) 4))).has hlt
   have hf0 := (hC.gm.any (below_alloc wr (.cells (madeCells #[.bool false] g.ns.length) 4))).free k
   have R : Hid _ := hC.fill hlt
   clear hC
   go_wp2
   go_roundw
   case rel => exact ⟨k + 1, by omega, by go_num, R.out⟩
   case measure => simp [intOf]; omega
  ·have klt : ¬ (k : Int) < (g.ns.length : Int) := by omega
   obtain rfl : k = g.ns.length := by omega
   clear hC x0 x1 x2 x3 x4
   obtain ⟨wz, rfl⟩ : ∃ wz : World, wz = wr := ⟨_, rfl⟩
   go_wp2
   go_loopw [6] (fun i wr => ∃ k : Nat, k <= g.ps.length /\ i = .int .i64 k /\ CW g w mb gb g.ns.length NU wr) (fun i _ => g.ps.length - (intOf i).toNat)
   case atStart => exact ⟨0, Nat.zero_le _, rfl, HC.out⟩
   case round =>
    clear HC
    obtain ⟨k, hk, rfl, hC⟩ := hrel
    have HC : Hid (CW g w mb gb g.ns.length NU wr) := hC
    obtain ⟨x0, x1, x2, x3, x4⟩ := gb_cells hC.box
    by_cases hlt : k < g.ps.length
    ·have klt : (k : Int) < (g.ps.length : Int) := by omega
     have hmem : g.ps.getD k .none ∈ g.ps := by simp [List.getD, hlt]
     obtain ⟨p, hp⟩ : ∃ p, g.ps.getD k .none = p := ⟨_, rfl⟩
     have HPC : Hid (∀ w', Below w.heap.size w w' -> ∃ b o, g.pa = some ⟨b, o, none⟩ /\ w'.cell? ⟨b, o + k * 3, none⟩ = some (.int .i64 p.left) /\ w'.cell? ⟨b, o + k * 3 + 1, none⟩ = some (.slice p.ra p.right.length p.rc)) := fun w' hb => by
      obtain ⟨b, o, hpa, hbl, hc⟩ := (HFG.out _ hb).p.cells (by intro e; rw [e] at hlt; simp at hlt)
      obtain ⟨c0, c1, c2⟩ := hc k hlt
      rw [hp] at c0 c1
      exact ⟨b, o, hpa, c0, c1⟩
     rw [hp] at hmem
     have HRO : Hid (∀ w', Below w.heap.size w w' -> SymRow w' p.ra p.right) := fun w' hb => (HFG.out _ hb).p.rows _ hmem
     have hrc := HCP.out _ hmem
     obtain ⟨l0, l1⟩ := (HFG.out _ hC.bel).left _ hmem
     have hrl := (HFG.out _ hC.bel).rl _ hmem
     have HSY : Hid (∀ s ∈ p.right, (s.1 = 1 /\ 0 <= s.2 /\ s.2 < g.ts.length) ∨ (s.1 = 2 /\ 0 <= s.2 /\ s.2 < g.ns.length)) := (HFG.out _ hC.bel).sym _ hmem
     obtain ⟨m, hm⟩ : ∃ m : Nat, p.left = (m : Int) := ⟨p.left.toNat, by omega⟩
     have mlt : (m : Int) < (g.ns.length : Int) := by omega
     rw [hm] at HPC
     obtain ⟨pb, po, hpa, c0, c1⟩ := HPC.out _ hC.bel
     have x3' := x3
     rw [hpa] at x3'
     clear hmem hp hm l0 l1 hC x3
     obtain ⟨pl, pra, prc, pr, pp⟩ := p
     simp only at HPC HRO hrc hrl HSY c1
     obtain ⟨wy, rfl⟩ : ∃ wy : World, wy = wr := ⟨_, rfl⟩
     go_wp2
     go_loopw [8] (fun i wr => ∃ q : Nat, q <= pr.length /\ i = .int .i64 q /\ CW g w mb gb g.ns.length NU wr) (fun i _ => pr.length - (intOf i).toNat)
     case atStart => exact ⟨0, Nat.zero_le _, rfl, HC.out⟩
     case round =>
      clear x0 x1 x2 x3' x4 c0 c1 HC
      obtain ⟨q, hq, rfl, hC⟩ := hrel
      have HC : Hid (CW g w mb gb g.ns.length NU wr) := hC
      by_cases hql : q < pr.length
      ·have qlt : (q : Int) < (pr.length : Int) := by omega
       obtain ⟨sb, so, hpr, hsl, hsc⟩ := HRO.out _ hC.bel (by intro e; rw [e] at hql; simp at hql)
       subst hpr
       have HSR : Hid (∀ w', Below w.heap.size w w' -> SymRow w' (some ⟨sb, so, none⟩) pr) := HRO
       have hs1 := slice_toS sb so prc pr.length q (by omega)
       obtain ⟨o2, c2, hs2, hr2⟩ := slice_froS sb so prc pr.length (q + 1) (by omega) hrc
       have HR2 : Hid (∀ w', Below w.heap.size w w' -> SymRow w' (some ⟨sb, o2, none⟩) (pr.drop (q + 1))) := fun w' hb => hr2 w' _ rfl (HSR.out w' hb)
       simp only [show ((q + 1 : Nat) : Int) = (q : Int) + 1 from rfl] at hs2
       clear hr2 hsc hsl hC
       obtain ⟨x, hx⟩ : ∃ x, pr.getD q (0, 0) = x := ⟨_, rfl⟩
       have HSC : Hid (∀ w', Below w.heap.size w w' -> w'.cell? ⟨sb, so + q * 2, none⟩ = some (.int .i64 x.1) /\ w'.cell? ⟨sb, so + q * 2 + 1, none⟩ = some (.int .i64 x.2)) := fun w' hb => by
        obtain ⟨b', o', e, _, hc⟩ := HSR.out w' hb (by intro e; rw [e] at hql; simp at hql)
        simp at e
        obtain ⟨rfl, rfl⟩ := e
        rw [<- hx]
        exact hc q hql
       have hin := HSY.out x (by rw [<- hx]; simp [List.getD, hql])
       obtain ⟨y1, y2⟩ := x
       simp only at HSC hin
       have GO : Hid True := trivial
       clear hx
       rcases hin with ⟨h1, i0, i1⟩ | ⟨h1, i0, i1⟩
       ·have t2 : (y1 == 2) = false := by rw [h1]; decide
        clear h1
        go_wp2_with (first
         | (at_builtin; guard_hyp GO : Hid True; clear GO; refine wpList_sy_cat rfl _ _ rfl (.slice none 0 0) [] rfl (SY.nil _) sb so prc q (pr.take q) rfl (by rw [List.length_take]; omega) ((HSR.out _ HC.out.bel).takeS q) (by simp; omega) ?_; intro a4 n4 c4 w4 ho4 hg4; obtain ⟨q1, q2⟩ := grew_belowI (Below.refl wr.heap.size wr) (fun j hj => by simp [Value.ownBlock] at hj) hg4; have R4 : Hid (SY w4 (.slice a4 n4 c4) (pr.take q) /\ (∀ j, (Value.slice a4 n4 c4).ownBlock = some j -> wr.heap.size <= j) /\ Below wr.heap.size wr w4 /\ CW g w mb gb g.ns.length NU w4) := ⟨by simpa using ho4, q2, q1, HC.out.any q1⟩; clear ho4 hg4 q1 q2)
         | (at_builtin; refine wpList_sy_cat rfl _ _ rfl (.slice a4 n4 c4) (pr.take q) rfl R4.out.1 sb o2 c2 (pr.length - (q + 1)) (pr.drop (q + 1)) rfl (by rw [List.length_drop]) (HR2.out _ R4.out.2.2.2.bel) (by rw [List.length_take, List.length_drop]; omega) ?_; intro a5 n5 c5 w5 ho5 hg5; obtain ⟨_, _, en⟩ := sy_len ho5; simp only [Value.slice.injEq] at en; obtain ⟨rfl, rfl, rfl⟩ := en; obtain ⟨q1, q2⟩ := grew_belowI R4.out.2.2.1 R4.out.2.1 hg5; have R5 : Hid (SY w5 (.slice a5 (pr.take q ++ pr.drop (q + 1)).length c5) (pr.take q ++ pr.drop (q + 1)) /\ CW g w mb gb g.ns.length NU w5) := ⟨ho5, HC.out.any q1⟩; clear ho5 hg5 q1 q2; obtain ⟨s0, s1⟩ := HSC.out _ R5.out.2.bel))
        go_roundw
        case rel => exact ⟨q + 1, by omega, by go_num, R5.out.2⟩
        case measure => simp [intOf]; omega
       ·have t2 : (y1 == 2) = true := by simpa using h1
        clear h1
        have HRS : Hid (∀ s ∈ pr.take q ++ pr.drop (q + 1), s.1 = 2 -> 0 <= s.2 /\ s.2 < g.ns.length) := fun s hs e => by
         have : s ∈ pr := by
          rcases List.mem_append.1 hs with h | h
          ·exact List.mem_of_mem_take h
          ·exact List.mem_of_mem_drop h
         rcases HSY.out s this with z | z
         ·omega
         ·exact z.2
        have HWL : Hid (∀ (w' : World) (a : Option Addr) (n c : Nat), n = q + (pr.length - (q + 1)) -> BB w' mb NU -> SymRow w' a (pr.take q ++ pr.drop (q + 1)) -> Calls Try.prog 64 #[.slice a n c, .slice (some ⟨mb, 0, none⟩) g.ns.length g.ns.length, .bool false] w' fun e w'' => e = .returned (.bool (wholeU false NU (pr.take q ++ pr.drop (q + 1)))) /\ w' = w'') := fun w' a n c hn hb hr => by
         have hn2 : n = (pr.take q ++ pr.drop (q + 1)).length := by rw [hn, List.length_append, List.length_take, List.length_drop]; omega
         subst hn2
         have := whole_R (some ⟨mb, 0, none⟩) g.ns.length NU a c (pr.take q ++ pr.drop (q + 1)) false w' hb.row hr (by rw [List.length_append, List.length_take, List.length_drop]; omega) (by rw [HNU.out]; omega) (by rw [HNU.out]; exact HRS.out)
         rwa [HNU.out] at this
        generalize wholeU false NU (pr.take q ++ pr.drop (q + 1)) = wv at HWL
        clear HRS
        cases wv
        ·go_wp2_with (first
          | (at_builtin; guard_hyp GO : Hid True; clear GO; refine wpList_sy_cat rfl _ _ rfl (.slice none 0 0) [] rfl (SY.nil _) sb so prc q (pr.take q) rfl (by rw [List.length_take]; omega) ((HSR.out _ HC.out.bel).takeS q) (by simp; omega) ?_; intro a4 n4 c4 w4 ho4 hg4; obtain ⟨q1, q2⟩ := grew_belowI (Below.refl wr.heap.size wr) (fun j hj => by simp [Value.ownBlock] at hj) hg4; have R4 : Hid (SY w4 (.slice a4 n4 c4) (pr.take q) /\ (∀ j, (Value.slice a4 n4 c4).ownBlock = some j -> wr.heap.size <= j) /\ Below wr.heap.size wr w4 /\ CW g w mb gb g.ns.length NU w4) := ⟨by simpa using ho4, q2, q1, HC.out.any q1⟩; clear ho4 hg4 q1 q2)
          | (at_builtin; refine wpList_sy_cat rfl _ _ rfl (.slice a4 n4 c4) (pr.take q) rfl R4.out.1 sb o2 c2 (pr.length - (q + 1)) (pr.drop (q + 1)) rfl (by rw [List.length_drop]) (HR2.out _ R4.out.2.2.2.bel) (by rw [List.length_take, List.length_drop]; omega) ?_; intro a5 n5 c5 w5 ho5 hg5; obtain ⟨_, _, en⟩ := sy_len ho5; simp only [Value.slice.injEq] at en; obtain ⟨rfl, rfl, rfl⟩ := en; obtain ⟨q1, q2⟩ := grew_belowI R4.out.2.2.1 R4.out.2.1 hg5; have R5 : Hid (SY w5 (.slice a5 (pr.take q ++ pr.drop (q + 1)).length c5) (pr.take q ++ pr.drop (q + 1)) /\ CW g w mb gb g.ns.length NU w5) := ⟨ho5, HC.out.any q1⟩; clear ho5 hg5 q1 q2; obtain ⟨s0, s1⟩ := HSC.out _ R5.out.2.bel)
          | (go_at_call 64; refine (HWL.out _ a5 _ c5 rfl R5.out.2.nu R5.out.1.row).mono ?_; rintro e w6 ⟨rfl, rfl⟩))
         go_roundw
         case rel => exact ⟨q + 1, by omega, by go_num, R5.out.2⟩
         case measure => simp [intOf]; omega
        ·go_wp2_with (first
          | (at_builtin; guard_hyp GO : Hid True; clear GO; refine wpList_sy_cat rfl _ _ rfl (.slice none 0 0) [] rfl (SY.nil _) sb so prc q (pr.take q) rfl (by rw [List.length_take]; omega) ((HSR.out _ HC.out.bel).takeS q) (by simp; omega) ?_; intro a4 n4 c4 w4 ho4 hg4; obtain ⟨q1, q2⟩ := grew_belowI (Below.refl wr.heap.size wr) (fun j hj => by simp [Value.ownBlock] at hj) hg4; have R4 : Hid (SY w4 (.slice a4 n4 c4) (pr.take q) /\ (∀ j, (Value.slice a4 n4 c4).ownBlock = some j -> wr.heap.size <= j) /\ Below wr.heap.size wr w4 /\ CW g w mb gb g.ns.length NU w4) := ⟨by simpa using ho4, q2, q1, HC.out.any q1⟩; clear ho4 hg4 q1 q2)
          | (at_builtin; refine wpList_sy_cat rfl _ _ rfl (.slice a4 n4 c4) (pr.take q) rfl R4.out.1 sb o2 c2 (pr.length - (q + 1)) (pr.drop (q + 1)) rfl (by rw [List.length_drop]) (HR2.out _ R4.out.2.2.2.bel) (by rw [List.length_take, List.length_drop]; omega) ?_; intro a5 n5 c5 w5 ho5 hg5; obtain ⟨_, _, en⟩ := sy_len ho5; simp only [Value.slice.injEq] at en; obtain ⟨rfl, rfl, rfl⟩ := en; obtain ⟨q1, q2⟩ := grew_belowI R4.out.2.2.1 R4.out.2.1 hg5; have R5 : Hid (SY w5 (.slice a5 (pr.take q ++ pr.drop (q + 1)).length c5) (pr.take q ++ pr.drop (q + 1)) /\ CW g w mb gb g.ns.length NU w5) := ⟨ho5, HC.out.any q1⟩; clear ho5 hg5 q1 q2; obtain ⟨s0, s1⟩ := HSC.out _ R5.out.2.bel)
          | (go_at_call 64; refine (HWL.out _ a5 _ c5 rfl R5.out.2.nu R5.out.1.row).mono ?_; rintro e w6 ⟨rfl, rfl⟩))
         obtain ⟨x0, x1, x2, x3, x4⟩ := gb_cells R5.out.2.box
         obtain ⟨pb', po', hpa', c0, c1⟩ := HPC.out _ R5.out.2.bel
         rw [hpa] at x3 hpa'
         simp only [Option.some.injEq, Addr.mk.injEq, and_true] at hpa'
         obtain ⟨rfl, rfl⟩ := hpa'
         obtain ⟨rb, M, gc, bbM, lM, hrb⟩ := R5.out.2.gm.cell (i := m) (by omega)
         obtain ⟨ee, rfl⟩ : ∃ e : Nat, y2 = (e : Int) := ⟨y2.toNat, by omega⟩
         have cM := bbM.cell (i := ee) (by omega)
         have fM := bbM.free ee
         have RS : Hid (CW g w mb gb g.ns.length NU (w5.setCell ⟨rb, ee, none⟩ (.bool true))) := R5.out.2.set bbM lM hrb ee true
         clear bbM lM hrb x0 x1 x2 x4 c1
         go_region
         have RT : Hid (CW g w mb gb g.ns.length NU (w5.setCell ⟨rb, ee, none⟩ (.bool true)).drew) := RS.out.any (Below.refl _ _).drew
         clear RS x3 c0 gc cM fM
         generalize (w5.setCell ⟨rb, ee, none⟩ (.bool true)).drew = wt at *
         go_wp2
         go_roundw
         case rel => exact ⟨q + 1, by omega, by go_num, RT.out⟩
         case measure => simp [intOf]; omega
      ·have qlt : ¬ (q : Int) < (pr.length : Int) := by omega
       clear hC
       go_wp2
       go_roundw
       case rel => exact ⟨k + 1, by omega, by go_num, HC.out⟩
       case measure => simp [intOf]; omega
    ·have klt : ¬ (k : Int) < (g.ps.length : Int) := by omega
     clear hC
     obtain ⟨wy, rfl⟩ : ∃ wy : World, wy = wr := ⟨_, rfl⟩
     go_wp2
     clear x0 x1 x2 x3 x4
     go_loopw [10] (fun i wr => ∃ k : Nat, k <= g.ns.length /\ i = .int .i64 k /\ CW g w mb gb g.ns.length NU wr) (fun i _ => g.ns.length - (intOf i).toNat)
     case atStart => exact ⟨0, Nat.zero_le _, rfl, HC.out⟩
     case round =>
      clear HC klt
      obtain ⟨k, hk, rfl, hC⟩ := hrel
      have HC : Hid (CW g w mb gb g.ns.length NU wr) := hC
      by_cases hlt : k < g.ns.length
      ·have klt : (k : Int) < (g.ns.length : Int) := by omega
       clear hC
       obtain ⟨wv, rfl⟩ : ∃ wv : World, wv = wr := ⟨_, rfl⟩
       go_wp2
       go_loopw [11] (fun i wr => ∃ k : Nat, k <= g.ns.length /\ i = .int .i64 k /\ CW g w mb gb g.ns.length NU wr) (fun i _ => g.ns.length - (intOf i).toNat)
       case atStart => exact ⟨0, Nat.zero_le _, rfl, HC.out⟩
       case round =>
        clear HC
        obtain ⟨i, hi, rfl, hC⟩ := hrel
        have HC : Hid (CW g w mb gb g.ns.length NU wr) := hC
        by_cases hilt : i < g.ns.length
        ·have ilt : (i : Int) < (g.ns.length : Int) := by omega
         clear hC
         obtain ⟨wu, rfl⟩ : ∃ wu : World, wu = wr := ⟨_, rfl⟩
         go_wp2
         go_loopw [12] (fun i wr => ∃ k : Nat, k <= g.ns.length /\ i = .int .i64 k /\ CW g w mb gb g.ns.length NU wr) (fun i _ => g.ns.length - (intOf i).toNat)
         case atStart => exact ⟨0, Nat.zero_le _, rfl, HC.out⟩
         case round =>
          clear HC
          obtain ⟨j, hj, rfl, hC⟩ := hrel
          have HC : Hid (CW g w mb gb g.ns.length NU wr) := hC
          by_cases hjlt : j < g.ns.length
          ·have jlt : (j : Int) < (g.ns.length : Int) := by omega
           obtain ⟨ri, Mi, gi, bi, li, hri⟩ := hC.gm.cell (i := i) hilt
           obtain ⟨rk, Mk, gk, bk, lk, hrk⟩ := hC.gm.cell (i := k) hlt
           have ci := bi.cell (i := k) (by omega)
           have ck := bk.cell (i := j) (by omega)
           have cj := bi.cell (i := j) (by omega)
           have fj := bi.free j
           have RS : Hid (CW g w mb gb g.ns.length NU (wr.setCell ⟨ri, j, none⟩ (.bool true))) := hC.set bi li hri j true
           clear bi bk li lk hri hrk hC
           generalize Mi.getD k false = ba at *
           generalize Mk.getD j false = bb at *
           generalize Mi.getD j false = bc at *
           cases ba <;> cases bb
           ·go_wp2
            go_roundw
            case rel => exact ⟨j + 1, by omega, by go_num, HC.out⟩
            case measure => simp [intOf]; omega
           ·go_wp2
            go_roundw
            case rel => exact ⟨j + 1, by omega, by go_num, HC.out⟩
            case measure => simp [intOf]; omega
           ·go_wp2
            go_roundw
            case rel => exact ⟨j + 1, by omega, by go_num, HC.out⟩
            case measure => simp [intOf]; omega
           ·go_wp2
            go_roundw
            case rel => exact ⟨j + 1, by omega, by go_num, RS.out⟩
            case measure => simp [intOf]; omega
          ·have jlt : ¬ (j : Int) < (g.ns.length : Int) := by omega
           clear hC
           go_wp2
           go_roundw
           case rel => exact ⟨i + 1, by omega, by go_num, HC.out⟩
           case measure => simp [intOf]; omega
        ·have ilt : ¬ (i : Int) < (g.ns.length : Int) := by omega
         clear hC
         go_wp2
         go_roundw
         case rel => exact ⟨k + 1, by omega, by go_num, HC.out⟩
         case measure => simp [intOf]; omega
      ·have klt : ¬ (k : Int) < (g.ns.length : Int) := by omega
       obtain ⟨x0, x1, x2, x3, x4⟩ := gb_cells hC.box
       have bA := below_alloc wr (.cells (madeCells #[.bool false] g.ns.length) 4)
       have R : Hid (CW g w mb gb g.ns.length NU (wr.alloc (.cells (madeCells #[.bool false] g.ns.length) 4)) /\ BB (wr.alloc (.cells (madeCells #[.bool false] g.ns.length) 4)) wr.heap.size (List.replicate g.ns.length false) /\ gb < wr.heap.size) := ⟨hC.any bA, BB.made wr _, hC.gm.lt⟩
       have HOB : Hid (gb < wr.heap.size /\ w.heap.size <= wr.heap.size) := ⟨hC.gm.lt, hC.bel.size⟩
       clear hC HC bA
       obtain ⟨wv, rfl⟩ : ∃ wv : World, wv = wr := ⟨_, rfl⟩
       go_wp2
       generalize wv.alloc (.cells (madeCells #[.bool false] g.ns.length) 4) = wa at *
       generalize wv.heap.size = ob at *
       clear x0 x1 x2 x3 x4
       go_loopw [14] (fun i wr => ∃ (k : Nat) (MO : List Bool), k <= g.ns.length /\ i = .int .i64 k /\ CW g w mb gb g.ns.length NU wr /\ MO.length = g.ns.length /\ BB wr ob MO) (fun i _ => g.ns.length - (intOf i).toNat)
       case atStart => exact ⟨0, _, Nat.zero_le _, rfl, R.out.1, by simp, R.out.2.1⟩
       case round =>
        clear R
        obtain ⟨i, MO, hi, rfl, hC, hMO, hB⟩ := hrel
        by_cases hilt : i < g.ns.length
        ·have ilt : (i : Int) < (g.ns.length : Int) := by omega
         obtain ⟨ri, Mi, gi, bi, li, hri⟩ := hC.gm.cell (i := i) hilt
         have ci := bi.cell (i := i) (by omega)
         have co := hB.cell (i := i) (by omega)
         have fo := hB.free i
         generalize Mi.getD i false = ba at *
         generalize MO.getD i false = bb at *
         have RS : Hid (CW g w mb gb g.ns.length NU (wr.setCell ⟨ob, i, none⟩ (.bool ba)) /\ (MO.set i ba).length = g.ns.length /\ BB (wr.setCell ⟨ob, i, none⟩ (.bool ba)) ob (MO.set i ba)) := ⟨hC.set hB hMO HOB.out.1 i ba, by simpa using hMO, hB.set i ba⟩
         clear bi li hri hC hB hMO
         go_wp2
         go_roundw
         case rel => exact ⟨i + 1, _, by omega, by go_num, RS.out⟩
         case measure => simp [intOf]; omega
        ·have ilt : ¬ (i : Int) < (g.ns.length : Int) := by omega
         have RZ : Hid (MarkO g.ns.length w (.returned (.slice (some ⟨ob, 0, none⟩) g.ns.length g.ns.length)) wr) := ⟨ob, MO, rfl, hMO, hB, HOB.out.2, hC.bel⟩
         clear hC hB hMO
         go_wp2
         go_ret
         exact RZ.out
end Go.Proofs.Ytaiebnppfabfgaa
