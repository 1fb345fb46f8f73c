import Derived.Test.YtchocojmideleaaGreatDoorGProdR
namespace Go.Proofs.YtchocojmideleaaGreatDoor
set_option linter.unusedVariables false
open Go.RowKit

/-- A box that holds a grammar. -/
structure BoxG (g : GV) (b : Nat) (w : World) : Prop where
  g0 : w.cell? ⟨b, 0, none⟩ = some (.slice g.ta g.ts.length g.tc)
  g1 : w.cell? ⟨b, 1, none⟩ = some (.slice g.na g.ns.length g.nc)
  g2 : w.cell? ⟨b, 2, none⟩ = some (.int .i64 g.start)
  g3 : w.cell? ⟨b, 3, none⟩ = some (.slice g.pa g.ps.length g.pc)
  g4 : w.cell? ⟨b, 4, none⟩ = some (.slice g.la g.ls.length g.lc)
  lt : b < w.heap.size
theorem BoxG.later {g : GV} {b : Nat} {w w' : World} (h : BoxG g b w) (hb : Below w.heap.size w w') : BoxG g b w' := by
  have e0 : ∀ j, w'.cell? ⟨b, j, none⟩ = w.cell? ⟨b, j, none⟩ := fun j => hb.cell (p := ⟨b, j, none⟩) h.lt
  exact ⟨(e0 0).trans h.g0, (e0 1).trans h.g1, (e0 2).trans h.g2, (e0 3).trans h.g3, (e0 4).trans h.g4, Nat.lt_of_lt_of_le h.lt hb.size⟩
theorem BoxG.new {g : GV} {w : World} {t : TypeId} : BoxG g w.heap.size (w.alloc (.cells #[.slice g.ta g.ts.length g.tc, .slice g.na g.ns.length g.nc, .int .i64 g.start, .slice g.pa g.ps.length g.pc, .slice g.la g.ls.length g.lc] t)) := by
  have e1 := heap_alloc_new w (.cells #[.slice g.ta g.ts.length g.tc, .slice g.na g.ns.length g.nc, .int .i64 g.start, .slice g.pa g.ps.length g.pc, .slice g.la g.ls.length g.lc] t)
  refine ⟨?_, ?_, ?_, ?_, ?_, lt_of_block e1⟩
  · rw [cellq_any e1]; rfl
  · rw [cellq_any e1]; rfl
  · rw [cellq_any e1]; rfl
  · rw [cellq_any e1]; rfl
  · rw [cellq_any e1]; rfl
set_option maxHeartbeats 1000000 in
theorem strange_c (g : GV) (gb : Nat) (s1 s2 : Int) (w : World) (h1 : g.ts.length ≤ 140737488355328) (h2 : g.ns.length ≤ 140737488355328) (hB : BoxG g gb w) :
    Calls Tryz.prog 163 #[.agg #[.int .i64 s1, .int .i64 s2], .pointer (some ⟨gb, 0, none⟩)] w fun e w' => e = .returned (.bool (!inG g s1 s2)) ∧ Below w.heap.size w w' := by
  have HB := hB.later (below_alloc w (.cells #[.int .i64 s1, .int .i64 s2] 29))
  have c0 := HB.g0
  have c1 := HB.g1
  have c2 := HB.g2
  have c3 := HB.g3
  have c4 := HB.g4
  have cs0 : (w.alloc (.cells #[.int .i64 s1, .int .i64 s2] 29)).cell? ⟨w.heap.size, 0, none⟩ = some (.int .i64 s1) := by rw [cellq_any (heap_alloc_new w _)]; rfl
  have cs1 : (w.alloc (.cells #[.int .i64 s1, .int .i64 s2] 29)).cell? ⟨w.heap.size, 1, none⟩ = some (.int .i64 s2) := by rw [cellq_any (heap_alloc_new w _)]; rfl
  have HBA : Hid (Below w.heap.size w (w.alloc (.cells #[.int .i64 s1, .int .i64 s2] 29))) := below_alloc w _
  have CI : Hid (∀ z, Calls Tryz.prog 13 #[g.val, .agg #[.int .i64 s1, .int .i64 s2]] z fun e w' => e = .returned (.bool (inG g s1 s2)) ∧ Below z.heap.size z w') := fun z => in_g g s1 s2 z h1 h2
  clear HB hB
  generalize inG g s1 s2 = x at *
  go_enter Tryz.func163, Tryz.ntmps163
  go_wp2_with (go_at_call 13; refine (CI.out _).mono ?_; rintro e w1 ⟨rfl, hb1⟩)
  go_ret
  exact ⟨rfl, HBA.out.trans (hb1.mono HBA.out.size)⟩
set_option maxRecDepth 100000 in
set_option maxHeartbeats 2000000 in
theorem idx_strange (g : GV) (gb : Nat) (ao : Option Addr) (N cap : Nat) (l : List (Int × Int)) (w : World) (hN : N = l.length) (hl : l.length ≤ 140737488355328) (h1 : g.ts.length ≤ 140737488355328) (h2 : g.ns.length ≤ 140737488355328) (hr : SymRow w ao l) (hB : BoxG g gb w) :
    Calls Tryz.prog 196 #[.slice ao N cap, .func (.func 163) #[] #[.pointer (some ⟨gb, 0, none⟩)]] w fun e w' => ∃ v, e = .returned (.int .i64 v) ∧ ((l.any fun s => !inG g s.1 s.2) = decide (0 ≤ v)) ∧ Below w.heap.size w w' := by
  subst hN
  go_enter Tryz.func196, Tryz.ntmps196
  go_wp2
  go_loopw [8] (fun z wr => ∃ k : Nat, k ≤ l.length ∧ z = .int .i64 k ∧ Below w.heap.size w wr ∧ Hid (∀ j, j < k → inG g (l.getD j (0, 0)).1 (l.getD j (0, 0)).2 = true)) (fun z _ => l.length - (intOf z).toNat)
  case atStart => exact ⟨0, Nat.zero_le _, rfl, Below.refl _ _, fun j hj => by omega⟩
  case round =>
    obtain ⟨k, hk, rfl, hb, HA⟩ := hrel
    by_cases hlt : k < l.length
    · obtain ⟨rb, ro, rfl, hrb, hrc⟩ := (hr.later (Nat.le_refl _) hb) (by intro e; subst e; simp at hlt)
      obtain ⟨r0, r1⟩ := hrc k hlt
      have HIT : Hid (inG g (l.getD k (0, 0)).1 (l.getD k (0, 0)).2 = false → (l.any fun s => !inG g s.1 s.2) = true) := fun e => any_hit (d := (0, 0)) hlt (by show (!inG g _ _) = true; rw [e]; rfl)
      have HST : Hid (inG g (l.getD k (0, 0)).1 (l.getD k (0, 0)).2 = true → ∀ j, j < k + 1 → inG g (l.getD j (0, 0)).1 (l.getD j (0, 0)).2 = true) := fun e j hj => by
        rcases Nat.lt_succ_iff_lt_or_eq.1 hj with r | rfl
        · exact HA.out j r
        · exact e
      have CS : Hid (∀ s1 s2, Calls Tryz.prog 163 #[.agg #[.int .i64 s1, .int .i64 s2], .pointer (some ⟨gb, 0, none⟩)] wr fun e w' => e = .returned (.bool (!inG g s1 s2)) ∧ Below wr.heap.size wr w') := fun s1 s2 => strange_c g gb s1 s2 wr h1 h2 (hB.later hb)
      have klt : (k : Int) < (l.length : Int) := by omega
      clear hrc hr
      generalize l.getD k (0, 0) = s at *
      obtain ⟨s1, s2⟩ := s
      simp only at r0 r1 HIT HST
      have CS1 := CS.out s1 s2
      have CS2 : Hid (Calls Tryz.prog 163 #[.agg #[.int .i64 s1, .int .i64 s2], .pointer (some ⟨gb, 0, none⟩)] wr fun e w' => e = .returned (.bool (!inG g s1 s2)) ∧ Below wr.heap.size wr w') := CS1
      clear CS CS1
      cases hin : inG g s1 s2 with
      | false =>
        have HX : Hid _ := HIT.out hin
        rw [hin] at CS2
        clear HIT HST hin HA
        go_wp2_with (go_at_call 163; refine CS2.out.mono ?_; rintro e w1 ⟨rfl, hb1⟩)
        go_ret
        exact ⟨_, rfl, by rw [HX.out]; simp, hb.trans (hb1.mono hb.size)⟩
      | true =>
        have HX : Hid _ := HST.out hin
        rw [hin] at CS2
        clear HIT HST hin HA
        go_wp2_with (go_at_call 163; refine CS2.out.mono ?_; rintro e w1 ⟨rfl, hb1⟩)
        go_roundw
        case rel => exact ⟨k + 1, by omega, by go_num, hb.trans (hb1.mono hb.size), HX.out⟩
        case measure => simp [intOf]; omega
    · have HX : Hid ((l.any fun s => !inG g s.1 s.2) = false) := any_none (0, 0) fun j hj => by show (!inG g _ _) = false; rw [HA.out j (by omega)]; rfl
      clear HA
      go_wp2
      go_ret
      exact ⟨-1, rfl, by rw [HX.out]; rfl, hb⟩
/-- A box that holds a production. -/
structure BoxP (p : PV) (b : Nat) (w : World) : Prop where
  p0 : w.cell? ⟨b, 0, none⟩ = some (.int .i64 p.left)
  p1 : w.cell? ⟨b, 1, none⟩ = some (.slice p.ra p.right.length p.rc)
  p2 : w.cell? ⟨b, 2, none⟩ = some (.int .i64 p.prec)
  row : SymRow w p.ra p.right
  lt : b < w.heap.size
theorem BoxP.later {p : PV} {b : Nat} {w w' : World} (h : BoxP p b w) (hb : Below w.heap.size w w') : BoxP p b w' := by
  have e0 : ∀ j, w'.cell? ⟨b, j, none⟩ = w.cell? ⟨b, j, none⟩ := fun j => hb.cell (p := ⟨b, j, none⟩) h.lt
  exact ⟨(e0 0).trans h.p0, (e0 1).trans h.p1, (e0 2).trans h.p2, h.row.later (Nat.le_refl _) hb, Nat.lt_of_lt_of_le h.lt hb.size⟩
theorem BoxP.new {p : PV} {w : World} (hr : SymRow w p.ra p.right) : BoxP p w.heap.size (w.alloc (pBox p)) := by
  have e1 := heap_alloc_new w (pBox p)
  refine ⟨?_, ?_, ?_, hr.later (Nat.le_refl _) (below_alloc w _), lt_of_block e1⟩
  · rw [cellq_any e1]; rfl
  · rw [cellq_any e1]; rfl
  · rw [cellq_any e1]; rfl
set_option maxRecDepth 100000 in
set_option maxHeartbeats 2000000 in
theorem same_c (p q : PV) (pb : Nat) (w : World) (x : Bool) (hx : (q.left == p.left && q.right == p.right) = x) (hl1 : p.right.length ≤ 140737488355328) (hl2 : q.right.length ≤ 140737488355328) (hB : BoxP p pb w) (hq : SymRow w q.ra q.right) :
    Calls Tryz.prog 164 #[.agg #[.int .i64 q.left, .slice q.ra q.right.length q.rc, .int .i64 q.prec], .pointer (some ⟨pb, 0, none⟩)] w fun e w' => e = .returned (.bool x) ∧ Below w.heap.size w w' := by
  have hQ : BoxP q w.heap.size (w.alloc (pBox q)) := BoxP.new hq
  have hP := hB.later (below_alloc w (pBox q))
  have HBA : Hid (Below w.heap.size w (w.alloc (pBox q))) := below_alloc w _
  clear hB hq
  obtain ⟨ql, qa, qc, qr, qp⟩ := q
  obtain ⟨pl, pa, pc, pr, pp⟩ := p
  simp only at hx hl1 hl2
  have a0 := hQ.p0
  have a1 := hQ.p1
  have b0 := hP.p0
  have b1 := hP.p1
  simp only at a0 a1 b0 b1
  have HR : Hid (SymRow (w.alloc (pBox ⟨ql, qa, qc, qr, qp⟩)) qa qr ∧ SymRow (w.alloc (pBox ⟨ql, qa, qc, qr, qp⟩)) pa pr) := ⟨hQ.row, hP.row⟩
  clear hQ hP
  by_cases h1 : ql = pl
  · subst h1
    have t1 : (ql == ql) = true := by simp
    have HE : Hid ((qr == pr) = x) := by show _ = _; rw [← hx]; simp
    clear hx
    go_enter Tryz.func164, Tryz.ntmps164
    go_wp2_with (go_at_call 165; refine (equalsyms_b qa pa qc pc qr pr _ x HE.out (by omega) (by omega) HR.out.1 HR.out.2).mono ?_; rintro e w1 ⟨rfl, d, rfl⟩)
    go_ret
    exact ⟨rfl, below_drewN HBA.out _⟩
  · have t1 : (ql == pl) = false := by simpa using h1
    obtain rfl : x = false := by rw [← hx]; simp [h1]
    clear hx h1
    go_enter Tryz.func164, Tryz.ntmps164
    go_wp2
    go_ret
    exact ⟨rfl, HBA.out⟩
set_option maxRecDepth 100000 in
set_option maxHeartbeats 2000000 in
theorem idx_same (p : PV) (pb : Nat) (ao : Option Addr) (N cap : Nat) (l : List PV) (w : World) (hN : N = l.length) (hl : l.length ≤ 140737488355328) (hl1 : p.right.length ≤ 140737488355328) (hl2 : ∀ q ∈ l, q.right.length ≤ 140737488355328) (hr : PrRow w ao l) (hB : BoxP p pb w) :
    Calls Tryz.prog 197 #[.slice ao N cap, .func (.func 164) #[] #[.pointer (some ⟨pb, 0, none⟩)]] w fun e w' => ∃ v, e = .returned (.int .i64 v) ∧ ((l.any fun q => q.left == p.left && q.right == p.right) = decide (0 ≤ v)) ∧ Below w.heap.size w w' := by
  subst hN
  have HRB : Hid (PrRow w ao l ∧ BoxP p pb w ∧ ∀ q ∈ l, q.right.length ≤ 140737488355328) := ⟨hr, hB, hl2⟩
  clear hr hB hl2
  go_enter Tryz.func197, Tryz.ntmps197
  go_wp2
  go_loopw [8] (fun z wr => ∃ k : Nat, k ≤ l.length ∧ z = .int .i64 k ∧ Below w.heap.size w wr ∧ Hid (∀ j, j < k → ((l.getD j .none).left == p.left && (l.getD j .none).right == p.right) = false)) (fun z _ => l.length - (intOf z).toNat)
  case atStart => exact ⟨0, Nat.zero_le _, rfl, Below.refl _ _, fun j hj => by omega⟩
  case round =>
    obtain ⟨k, hk, rfl, hb, HA⟩ := hrel
    by_cases hlt : k < l.length
    · obtain ⟨rb, ro, rfl, hrb, hrc⟩ := (HRB.out.1.later hb).cells (by intro e; subst e; simp at hlt)
      obtain ⟨r0, r1, r2⟩ := hrc k hlt
      have hm : l.getD k .none ∈ l := by simp [List.getD, hlt]
      have hrow := (HRB.out.1.later hb).rows _ hm
      have hql := HRB.out.2.2 _ hm
      have HIT : Hid (((l.getD k .none).left == p.left && (l.getD k .none).right == p.right) = true → (l.any fun q => q.left == p.left && q.right == p.right) = true) := fun e => any_hit (d := .none) hlt e
      have HST : Hid (((l.getD k .none).left == p.left && (l.getD k .none).right == p.right) = false → ∀ j, j < k + 1 → ((l.getD j .none).left == p.left && (l.getD j .none).right == p.right) = false) := fun e j hj => by
        rcases Nat.lt_succ_iff_lt_or_eq.1 hj with r | rfl
        · exact HA.out j r
        · exact e
      have CS : Hid (∀ x, ((l.getD k .none).left == p.left && (l.getD k .none).right == p.right) = x → Calls Tryz.prog 164 #[.agg #[.int .i64 (l.getD k .none).left, .slice (l.getD k .none).ra (l.getD k .none).right.length (l.getD k .none).rc, .int .i64 (l.getD k .none).prec], .pointer (some ⟨pb, 0, none⟩)] wr fun e w' => e = .returned (.bool x) ∧ Below wr.heap.size wr w') := fun x hx => same_c p _ pb wr x hx hl1 hql (HRB.out.2.1.later hb) hrow
      have klt : (k : Int) < (l.length : Int) := by omega
      clear hrc hm hrow hql HA
      generalize l.getD k .none = q at *
      obtain ⟨ql, qa, qc, qr, qp⟩ := q
      simp only at r0 r1 r2 HIT HST CS
      cases hin : (ql == p.left && qr == p.right) with
      | true =>
        have HX : Hid _ := HIT.out hin
        have CS2 : Hid (Calls Tryz.prog 164 #[.agg #[.int .i64 ql, .slice qa qr.length qc, .int .i64 qp], .pointer (some ⟨pb, 0, none⟩)] wr fun e w' => e = .returned (.bool true) ∧ Below wr.heap.size wr w') := CS.out true hin
        clear HIT HST hin CS
        go_wp2_with (go_at_call 164; refine CS2.out.mono ?_; rintro e w1 ⟨rfl, hb1⟩)
        go_ret
        exact ⟨_, rfl, by rw [HX.out]; simp, hb.trans (hb1.mono hb.size)⟩
      | false =>
        have HX : Hid _ := HST.out hin
        have CS2 : Hid (Calls Tryz.prog 164 #[.agg #[.int .i64 ql, .slice qa qr.length qc, .int .i64 qp], .pointer (some ⟨pb, 0, none⟩)] wr fun e w' => e = .returned (.bool false) ∧ Below wr.heap.size wr w') := CS.out false hin
        clear HIT HST hin CS
        go_wp2_with (go_at_call 164; refine CS2.out.mono ?_; rintro e w1 ⟨rfl, hb1⟩)
        go_roundw
        case rel => exact ⟨k + 1, by omega, by go_num, hb.trans (hb1.mono hb.size), HX.out⟩
        case measure => simp [intOf]; omega
    · have HX : Hid ((l.any fun q => q.left == p.left && q.right == p.right) = false) := any_none .none fun j hj => HA.out j (by omega)
      clear HA
      go_wp2
      go_ret
      exact ⟨-1, rfl, by rw [HX.out]; rfl, hb⟩
set_option maxRecDepth 100000 in
set_option maxHeartbeats 400000 in
theorem contains_strange (g : GV) (gb : Nat) (ao : Option Addr) (cap : Nat) (l : List (Int × Int)) (w : World) (x : Bool) (hx : (l.any fun s => !inG g s.1 s.2) = x) (hl : l.length ≤ 140737488355328) (h1 : g.ts.length ≤ 140737488355328) (h2 : g.ns.length ≤ 140737488355328) (hr : SymRow w ao l) (hB : BoxG g gb w) :
    Calls Tryz.prog 166 #[.slice ao l.length cap, .func (.func 163) #[] #[.pointer (some ⟨gb, 0, none⟩)]] w fun e w' => e = .returned (.bool x) ∧ Below w.heap.size w w' := by
  have HC : Hid (SymRow w ao l ∧ BoxG g gb w) := ⟨hr, hB⟩
  have HX : Hid ((l.any fun s => !inG g s.1 s.2) = x) := hx
  clear hx hr hB
  go_enter Tryz.func166, Tryz.ntmps166
  go_wp2_with (go_at_call 196; refine (idx_strange g gb ao l.length cap l w rfl hl h1 h2 HC.out.1 HC.out.2).mono ?_; rintro e w1 ⟨v, rfl, hv', hb1⟩; have hv : Hid _ := hv'; clear hv')
  go_ret
  exact ⟨by have h1 := hv.out; have h2 := HX.out; rw [h2] at h1; rw [h1]; rfl, hb1⟩
set_option maxRecDepth 100000 in
set_option maxHeartbeats 400000 in
theorem contains_same (p : PV) (pb : Nat) (ao : Option Addr) (cap : Nat) (l : List PV) (w : World) (x : Bool) (hx : (l.any fun q => q.left == p.left && q.right == p.right) = x) (hl : l.length ≤ 140737488355328) (hl1 : p.right.length ≤ 140737488355328) (hl2 : ∀ q ∈ l, q.right.length ≤ 140737488355328) (hr : PrRow w ao l) (hB : BoxP p pb w) :
    Calls Tryz.prog 167 #[.slice ao l.length cap, .func (.func 164) #[] #[.pointer (some ⟨pb, 0, none⟩)]] w fun e w' => e = .returned (.bool x) ∧ Below w.heap.size w w' := by
  have HC : Hid (PrRow w ao l ∧ BoxP p pb w ∧ ∀ q ∈ l, q.right.length ≤ 140737488355328) := ⟨hr, hB, hl2⟩
  have HX : Hid ((l.any fun q => q.left == p.left && q.right == p.right) = x) := hx
  clear hx hr hB hl2
  go_enter Tryz.func167, Tryz.ntmps167
  go_wp2_with (go_at_call 197; refine (idx_same p pb ao l.length cap l w rfl hl hl1 HC.out.2.2 HC.out.1 HC.out.2.1).mono ?_; rintro e w1 ⟨v, rfl, hv', hb1⟩; have hv : Hid _ := hv'; clear hv')
  go_ret
  exact ⟨by have h1 := hv.out; have h2 := HX.out; rw [h2] at h1; rw [h1]; rfl, hb1⟩
end Go.Proofs.YtchocojmideleaaGreatDoor
