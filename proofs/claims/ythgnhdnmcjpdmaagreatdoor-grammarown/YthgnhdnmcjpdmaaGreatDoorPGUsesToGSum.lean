import Derived.Test.YthgnhdnmcjpdmaaGreatDoorPGRulesToGIn2
namespace Go.Proofs.YthgnhdnmcjpdmaaGreatDoor
set_option linter.unusedVariables false
set_option maxRecDepth 100000
set_option maxHeartbeats 16000000
open Go.RowKit
def prCells (l : List (Int × Int)) : List Value := l.flatMap fun q => [.int .i64 q.1, .int .i64 q.2]
def CL (w : World) (v : Value) (l : List (Int × Int)) : Prop := w.ownsRow 0 107 2 v l.length (prCells l)
theorem infoCore : (Tryz.prog.info? 107).map (fun i => (i.zero, i.size, i.bytes)) = some (some (.agg #[.int .i64 0, .int .i64 0]), 2, 16) := by kernel_rfl
theorem infoCore_parts : ∃ i, Tryz.prog.info? 107 = some i /\ i.zero = some (.agg #[.int .i64 0, .int .i64 0]) /\ i.size = 2 /\ i.bytes = 16 := by
 have h := infoCore
 cases e : Tryz.prog.info? 107 with
 | none => rw [e] at h; cases h
 | some i => rw [e] at h; simp at h; exact ⟨i, rfl, h⟩
theorem CL.nil (w : World) : CL w (.slice none 0 0) [] := World.ownsRow_nil w 0 107 2
theorem cl_len {w : World} {v : Value} {l : List (Int × Int)} (h : CL w v l) : ∃ a c, v = .slice a l.length c := by
 rcases h.2 with ⟨rfl, h0⟩ | ⟨g, cap, cur, rfl, _⟩
 ·exact ⟨none, 0, by rw [h0]⟩
 ·exact ⟨_, _, rfl⟩
theorem CL.kept {w w' : World} {v : Value} {l : List (Int × Int)} (h : CL w v l) (hb : ∀ k, v.ownBlock = some k -> w'.heap[k]? = w.heap[k]?) : CL w' v l := by
 refine ⟨h.1, ?_⟩
 rcases h.2 with q | ⟨g, cap, cur, rfl, h1, h2, h3⟩
 ·exact .inl q
 ·exact .inr ⟨g, cap, cur, rfl, h1, (hb g rfl).trans h2, h3⟩
theorem CL.lt {w : World} {v : Value} {l : List (Int × Int)} (h : CL w v l) : ∀ k, v.ownBlock = some k -> k < w.heap.size := fun k hk => (World.ownsRow.lt h k hk).2
theorem CL.later {w w' : World} {v : Value} {l : List (Int × Int)} (h : CL w v l) (hb : Below w.heap.size w w') : CL w' v l := h.kept fun k hk => hb.block k (h.lt k hk)
theorem wpList_cl_append {ops : Array Oper} {rest : List Oper} {o : Oper} {a : Act} {Q : Exit -> Act -> World -> Prop} {w : World} (hgd : o.guard = none) (s x : Operand)
  (ho : o.op = .call { callee := .builtin .append, args := #[s, x], argTypes := #[65, 65] })
  (v : Value) (l : List (Int × Int)) (hs : a.eval s = v) (h : CL w v l) (b c : Nat) (k n : Int) (hx : a.eval x = .slice (some ⟨b, 0, none⟩) 1 c) (hy : w.cell? ⟨b, 0, none⟩ = some (.int .i64 k)) (hy2 : w.cell? ⟨b, 1, none⟩ = some (.int .i64 n)) (hlen : l.length <= 8000000000000)
  (hK : ∀ a' n' c' w', CL w' (.slice a' n' c') (l ++ [(k, n)]) -> Grew w w' v (.slice a' n' c') -> wpList Tryz.prog ops Q rest (a.put o.dst (.slice a' n' c')) w') : wpList Tryz.prog ops Q (o :: rest) a w := by
 obtain ⟨i0, hi, hz0, hz1, hz2⟩ := infoCore_parts
 refine wpList_append_own_at w hgd s x 65 ho 0 107 i0 (.agg #[.int .i64 0, .int .i64 0]) 2 16 Tryz.underlying65 hi hz0 hz1 hz2 rfl (by decide) v l.length (prCells l) hs h ⟨b, 0, none⟩ 1 c [.int .i64 k, .int .i64 n] hx (by simp) ?_ ?_ (by unfold maxLen; omega) (by omega) (Nat.zero_le _) ?_
 ·intro j u hu
  match j with
  | 0 => simp at hu; subst hu; rw [add_none]; exact hy
  | 1 => simp at hu; subst hu; rw [add_none]; exact hy2
  | j + 2 => simp at hu
 ·intro u hu; simp at hu; rcases hu with rfl | rfl <;> rfl
 ·intro v' w' h2 h3 _ h5
  have h6 : CL w' v' (l ++ [(k, n)]) := by
   unfold CL
   have e : prCells (l ++ [(k, n)]) = prCells l ++ [.int .i64 k, .int .i64 n] := by simp [prCells]
   rw [e]
   simpa using h2
  obtain ⟨a', c', rfl⟩ := cl_len h6
  exact hK _ _ _ w' h6 ⟨h3, h5.imp id fun e => ⟨_, e, Nat.le_refl _⟩⟩
def usesP (r : List (Int × Int)) (q : Int × Int) (i m : Nat) : List (Int × Int) := ((List.range m).filter fun j => decide (r.getD j (0, 0) = q)).map fun (j : Nat) => ((i : Int), (j : Int))
theorem usesP_succ (r : List (Int × Int)) (q : Int × Int) (i m : Nat) : usesP r q i (m + 1) = if r.getD m (0, 0) = q then usesP r q i m ++ [((i : Int), (m : Int))] else usesP r q i m := by
 unfold usesP
 rw [List.range_succ, List.filter_append, List.map_append]
 by_cases h : r.getD m (0, 0) = q
 ·have e : List.filter (fun j => decide (r.getD j (0, 0) = q)) [m] = [m] := by rw [List.filter_cons, if_pos (decide_eq_true h)]; rfl
  rw [if_pos h, e]; rfl
 ·have e : List.filter (fun j => decide (r.getD j (0, 0) = q)) [m] = [] := by rw [List.filter_cons, if_neg (by rw [decide_eq_false h]; decide)]; rfl
  rw [if_neg h, e]; simp
theorem usesP_len (r : List (Int × Int)) (q : Int × Int) (i m : Nat) : (usesP r q i m).length <= m := by
 unfold usesP
 rw [List.length_map]
 exact Nat.le_trans (List.length_filter_le _ _) (by simp)
def usesU (ps : List PV) (q : Int × Int) : Nat -> List (Int × Int)
 | 0 => []
 | k + 1 => usesU ps q k ++ usesP (ps.getD k .none).right q k (ps.getD k .none).right.length
theorem usesU_len {ps : List PV} {n : Nat} (q : Int × Int) (h : ∀ p ∈ ps, p.right.length <= n) : ∀ k, k <= ps.length -> (usesU ps q k).length <= k * n
 | 0, _ => by simp [usesU]
 | k + 1, hk => by
  have h1 := usesU_len q h k (by omega)
  have h2 := usesP_len (ps.getD k .none).right q k (ps.getD k .none).right.length
  have h3 := h (ps.getD k .none) (by simp [List.getD, show k < ps.length by omega])
  simp only [usesU, List.length_append]
  have e : (k + 1) * n = k * n + n := Nat.succ_mul k n
  omega
theorem usesU_step (ps : List PV) (q : Int × Int) (i : Nat) : usesU ps q (i + 1) = usesU ps q i ++ usesP (ps.getD i .none).right q i (ps.getD i .none).right.length := rfl
theorem uses_own (g : GV) (k n : Int) (w : World) (h : GAt 1048576 w g) :
  Calls Tryz.prog 15 #[g.val, .agg #[.int .i64 k, .int .i64 n]] w fun e w' => ∃ a c, e = .returned (.slice a (usesU g.ps (k, n) g.ps.length).length c) /\ CL w' (.slice a (usesU g.ps (k, n) g.ps.length).length c) (usesU g.ps (k, n) g.ps.length) /\ Below w.heap.size w w' /\ ∀ j, (Value.slice a (usesU g.ps (k, n) g.ps.length).length c).ownBlock = some j -> w.heap.size <= j := by
 have hpl := h.pl
 have HP : Hid (PrRow w g.pa g.ps) := h.p
 have HRL : Hid (∀ p ∈ g.ps, p.right.length <= 1048576) := h.rl
 have hbox := heap_alloc_new (w.alloc (gBox g)) (syBox k n)
 have hW := two_box w g k n
 have HBX : Hid (∀ wr, Below ((w.alloc (gBox g)).alloc (syBox k n)).heap.size ((w.alloc (gBox g)).alloc (syBox k n)) wr -> wr.cell? ⟨w.heap.size + 1, 0, none⟩ = some (.int .i64 k) /\ wr.cell? ⟨w.heap.size + 1, 1, none⟩ = some (.int .i64 n) /\ w.heap.size + 1 < wr.heap.size) := fun wr hb => by
  have q := (hb.block _ (lt_of_block hbox)).trans hbox
  have e : (w.alloc (gBox g)).heap.size = w.heap.size + 1 := by simp
  rw [e] at q
  exact ⟨(cellq_any q).trans rfl, (cellq_any q).trans rfl, lt_of_block q⟩
 have HBW : Hid (∀ wr, Below ((w.alloc (gBox g)).alloc (syBox k n)).heap.size ((w.alloc (gBox g)).alloc (syBox k n)) wr -> Below w.heap.size w wr) := fun wr hb => hW.trans (hb.mono hW.size)
 clear h hbox hW
 go_enter Tryz.func15, Tryz.ntmps15
 go_wp2
 generalize (w.alloc (gBox g)).alloc (syBox k n) = W0 at *
 go_loopw [5, 13] (fun v i wr => ∃ i' : Nat, i' <= g.ps.length /\ i = .int .i64 i' /\ CL wr v (usesU g.ps (k, n) i') /\ (∀ j, v.ownBlock = some j -> W0.heap.size <= j) /\ Below W0.heap.size W0 wr) (fun _ i _ => g.ps.length - (intOf i).toNat)
 case atStart => exact ⟨0, Nat.zero_le _, rfl, CL.nil _, (fun j hj => by simp [Value.ownBlock] at hj), Below.refl _ _⟩
 case round =>
  obtain ⟨i, hi, rfl, hI, hv, hB⟩ := hrel
  obtain ⟨va, vc, rfl⟩ := cl_len hI
  by_cases hlt : i < g.ps.length
  ·have hPr := HP.out.later (HBW.out wr hB)
   obtain ⟨b, off, hpa, hbl, hc⟩ := hPr.cells (by intro e; rw [e] at hlt; simp at hlt)
   obtain ⟨c0, c1, c2⟩ := hc i hlt
   have hmem : g.ps.getD i .none ∈ g.ps := by simp [List.getD, hlt]
   have hrow := HP.out.rows _ hmem
   have hrl := HRL.out _ hmem
   have hul : Hid _ := usesU_len (k, n) HRL.out i (by omega)
   have hst : Hid _ := usesU_step g.ps (k, n) i
   clear hc hmem hPr
   generalize g.ps.getD i .none = p at *
   obtain ⟨pl, pa, pc, pr, pp⟩ := p
   simp only at c0 c1 c2 hrow hrl
   have hBA : Below W0.heap.size W0 (wr.alloc (.cells #[.int .i64 pl, .slice pa pr.length pc, .int .i64 pp] 75)) := hB.alloc hB.size _
   have hIA := hI.later (below_alloc wr (.cells #[.int .i64 pl, .slice pa pr.length pc, .int .i64 pp] 75))
   have hrA : Hid (SymRow w pa pr) := hrow
   clear hrow hI
   rw [hpa]
   generalize hU : usesU g.ps (k, n) i = U at *
   go_wp2
   obtain ⟨wo, hwo⟩ : ∃ wo : World, wo = wr.alloc (.cells #[.int .i64 pl, .slice pa pr.length pc, .int .i64 pp] 75) := ⟨_, rfl⟩
   rw [<- hwo] at hBA hIA ⊢
   go_loopw [5, 21] (fun v i2 wi => ∃ m : Nat, m <= pr.length /\ i2 = .int .i64 m /\ CL wi v (U ++ usesP pr (k, n) i m) /\ (∀ j, v.ownBlock = some j -> W0.heap.size <= j) /\ Below W0.heap.size W0 wi) (fun _ i2 _ => pr.length - (intOf i2).toNat)
   case atStart => exact ⟨0, Nat.zero_le _, rfl, by simpa [usesP] using hIA, hv, hBA⟩
   case round =>
    clear hIA hv hBA
    obtain ⟨m, hm, rfl, hI, hv, hB2⟩ := hrel
    obtain ⟨va2, vc2, rfl⟩ := cl_len hI
    obtain ⟨d0, d1, dl⟩ := HBX.out _ hB2
    by_cases hlm : m < pr.length
    ·obtain ⟨rb, ro, rfl, hrb, hrc⟩ := (hrA.out.later (Nat.le_refl _) (HBW.out _ hB2)) (by intro e; subst e; simp at hlm)
     obtain ⟨r0, r1⟩ := hrc m hlm
     have hsp : Hid _ := usesP_succ pr (k, n) i m
     have hpl2 : Hid ((U ++ usesP pr (k, n) i m).length <= 8000000000000) := by
      have q1 := usesP_len pr (k, n) i m
      have q2 := hul.out
      show _ <= _
      rw [List.length_append]
      have q3 : i * 1048576 <= 1048576 * 1048576 := Nat.mul_le_mul_right _ (by omega)
      omega
     clear hrc
     generalize pr.getD m (0, 0) = x at *
     obtain ⟨x1, x2⟩ := x
     simp only at r0 r1
     generalize hPP : usesP pr (k, n) i m = PP at *
     by_cases he : x1 = k /\ x2 = n
     ·obtain ⟨rfl, rfl⟩ := he
      have e1 : (x1 == x1) = true := by simp
      have e2 : (x2 == x2) = true := by simp
      have HIA : Hid (CL ((wr.alloc (.cells #[.int .i64 x1, .int .i64 x2] 30)).alloc (.cells #[.int .i64 i, .int .i64 m] 107)) (.slice va2 (U ++ PP).length vc2) (U ++ PP)) := (hI.later (below_alloc _ _)).later (below_alloc _ _)
      have HBA : Hid (Below W0.heap.size W0 ((wr.alloc (.cells #[.int .i64 x1, .int .i64 x2] 30)).alloc (.cells #[.int .i64 i, .int .i64 m] 107))) := (hB2.alloc hB2.size _).alloc (by have := hB2.size; simp; omega) _
      have HV : Hid (∀ j, (Value.slice va2 (U ++ PP).length vc2).ownBlock = some j -> W0.heap.size <= j) := hv
      generalize hUL : (U ++ PP).length = UL at *
      go_wp2_with (first
       | (at_builtin; refine wpList_cl_append rfl _ _ rfl (.slice va2 UL vc2) (U ++ PP) rfl HIA.out _ 1 i m rfl (by simp) (by simp) (Nat.le_trans (Nat.le_of_eq hUL) hpl2.out) ?_; intro a4 n4 c4 w4 ho4 hg4))
      go_roundw
      case rel =>
       obtain ⟨g1, g2⟩ := grew_belowI HBA.out HV.out hg4
       refine ⟨m + 1, by omega, by go_num, ?_, g2, g1⟩
       rw [hsp.out, if_pos (by first | rfl | trivial), <- List.append_assoc]
       exact ho4
      case measure => simp [intOf]; omega
     ·have hne : (x1 == k) = false ∨ (x1 == k) = true /\ (x2 == n) = false := by
       by_cases q : x1 = k
       ·right; exact ⟨by simp [q], by simp only [beq_eq_false_iff_ne, ne_eq]; exact fun q2 => he ⟨q, q2⟩⟩
       ·left; simpa using q
      rcases hne with e1 | ⟨e1, e2⟩
      all_goals
       go_wp2
       go_roundw
       case rel =>
        refine ⟨m + 1, by omega, by go_num, ?_, hv, hB2.alloc hB2.size _⟩
        rw [hsp.out, if_neg (by simpa using he)]
        exact hI.later (below_alloc _ _)
       case measure => simp [intOf]; omega
    ·obtain rfl : m = pr.length := by omega
     go_wp2
     go_roundw
     case rel =>
      refine ⟨i + 1, by omega, by go_num, ?_, hv, hB2⟩
      rw [hst.out]
      exact hI
     case measure => simp [intOf]; omega
  ·obtain rfl : i = g.ps.length := by omega
   go_wp2
   go_ret
   exact ⟨va, vc, rfl, hI, HBW.out wr hB, fun j hj => Nat.le_trans (HBW.out W0 (Below.refl _ _)).size (hv j hj)⟩
theorem uses_any (g : GV) (k n : Int) (w : World) (h : GAt 1048576 w g) :
  Calls Tryz.prog 15 #[g.val, .agg #[.int .i64 k, .int .i64 n]] w fun e w' => ∃ a c, e = .returned (.slice a (usesU g.ps (k, n) g.ps.length).length c) /\ CL w' (.slice a (usesU g.ps (k, n) g.ps.length).length c) (usesU g.ps (k, n) g.ps.length) /\ Below w.heap.size w w' := (uses_own g k n w h).mono fun _ _ ⟨a, c, e, h1, h2, _⟩ => ⟨a, c, e, h1, h2⟩
theorem t_any (n : Int) (w : World) : Calls Tryz.prog 18 #[.int .i64 n] w fun e w' => e = .returned (.agg #[.int .i64 1, .int .i64 n]) /\ Below w.heap.size w w' := by
 go_enter Tryz.func18, Tryz.ntmps18
 go_wp2
 refine bodyPost_ret (v := .agg #[.int .i64 1, .int .i64 n]) (by simp [results, Tryz.results18, go_sem]) rfl ?_
 exact ⟨rfl, below_alloc _ _⟩
theorem num_g (n : Int) (w : World) : Calls Tryz.prog 19 #[.int .i64 n] w fun e w' => e = .returned (.int .i64 n) /\ w = w' := by
 go_enter Tryz.func19, Tryz.ntmps19
 go_wp2
 go_ret
 exact ⟨rfl, rfl⟩
end Go.Proofs.YthgnhdnmcjpdmaaGreatDoor
