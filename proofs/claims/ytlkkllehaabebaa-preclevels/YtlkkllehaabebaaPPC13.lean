import Derived.Test.YtlkkllehaabebaaPPC12
namespace Go.Proofs.Ytlkkllehaabebaa
set_option linter.unusedVariables false
set_option maxRecDepth 100000
set_option maxHeartbeats 16000000
open Go.RowKit Go.Maps
set_option linter.unusedSimpArgs false in
theorem rLevelOf_P (g : GV) (t : Int) (w : World) (h : GAt 140737488355328 w g) :
  Calls Try.prog 18 #[g.val, .int .i64 t] w fun e w' => e = .returned (.tuple #[.int .i64 (levF g 0 t).1, .int .i64 (levF g 0 t).2]) /\ Below w.heap.size w w' := by
 have hb := below_alloc w (gBox g)
 have HC : Hid (Calls Try.prog 51 #[g.val, .int .i64 t] (w.alloc (gBox g)) fun e w' => e = .returned (.int .i64 (levU g.ls t)) /\ Below (w.alloc (gBox g)).heap.size (w.alloc (gBox g)) w') := rlevel_P g t _ (h.later hb)
 have HB : Hid (Below w.heap.size w (w.alloc (gBox g))) := hb
 have htl := h.tl
 clear h hb
 by_cases h0 : 0 <= t
 ·by_cases h1 : t < g.ts.length
  ·have E : Hid (levF g 0 t = (levU g.ls t, 0)) := by show _ = _; simp [levF, inT, h0, h1]
   have a1 : ¬ t < 0 := by omega
   go_enter Try.func18, Try.ntmps18
   go_wp2_with (go_at_call 51; refine HC.out.mono ?_; rintro e w1 ⟨rfl, b1'⟩; have b1 : Hid (Below w.heap.size w w1) := HB.out.trans (b1'.mono HB.out.size); clear b1')
   refine bodyPost_ret (v := .tuple #[.int .i64 (levU g.ls t), .int .i64 0]) (by simp [results, Try.results18, go_sem]) rfl ?_
   exact ⟨by rw [E.out], b1.out⟩
  ·have E : Hid (levF g 0 t = (0, 35)) := by show _ = _; simp [levF, inT, h1]
   have a1 : ¬ t < 0 := by omega
   go_enter Try.func18, Try.ntmps18
   go_wp2
   refine bodyPost_ret (v := .tuple #[.int .i64 0, .int .i64 35]) (by simp [results, Try.results18, go_sem]) rfl ?_
   exact ⟨by rw [E.out], HB.out⟩
 ·have E : Hid (levF g 0 t = (0, 35)) := by show _ = _; simp [levF, inT, h0]
  have a1 : t < 0 := by omega
  go_enter Try.func18, Try.ntmps18
  go_wp2
  refine bodyPost_ret (v := .tuple #[.int .i64 0, .int .i64 35]) (by simp [results, Try.results18, go_sem]) rfl ?_
  exact ⟨by rw [E.out], HB.out⟩
theorem last_take {l : List (Int × Int)} {i : Nat} (hi : i < l.length) : lastT (l.take (i + 1)) = if (l.getD i (0, 0)).1 = 1 then (l.getD i (0, 0)).2 else lastT (l.take i) := by
 rw [List.take_succ_eq_append_getElem hi, last_snoc]
 simp [List.getD, hi]
set_option linter.unusedSimpArgs false in
theorem rTerminalOf_P (g : GV) (p : Int) (w : World) (h : GAt 140737488355328 w g) :
  Calls Try.prog 19 #[g.val, .int .i64 p] w fun e w' => e = .returned (.tuple #[.int .i64 (terF g 0 p).1, .int .i64 (terF g 0 p).2]) /\ Below w.heap.size w w' := by
 have hb := below_alloc w (gBox g)
 have HB : Hid (Below w.heap.size w (w.alloc (gBox g))) := hb
 have hpl := h.pl
 by_cases h0 : 0 <= p
 ·by_cases h1 : p < g.ps.length
  ·obtain ⟨k, rfl⟩ : ∃ k : Nat, p = (k : Int) := ⟨p.toNat, by omega⟩
   have hk : k < g.ps.length := by omega
   have E : Hid (terF g 0 (k : Int) = (ownU (g.ps.getD k .none), 0)) := by show _ = _; simp only [terF, inP, h0, h1]; simp
   have a1 : ¬ (k : Int) < 0 := by omega
   obtain ⟨pb, po, hpa, hpb, hpc⟩ := (h.p.later hb).cells (by intro e; rw [e] at hk; simp at hk)
   obtain ⟨c0, c1, c2⟩ := hpc k hk
   have hm : g.ps.getD k .none ∈ g.ps := mem_getD hk
   have hrow := h.p.rows _ hm
   have hrl := h.rl _ hm
   obtain ⟨x0, x1, x2, x3, x4⟩ := gb_cells (heap_alloc_new w (gBox g))
   have HPA : Hid (g.pa = some ⟨pb, po, none⟩) := hpa
   clear hpc hm h
   generalize g.ps.getD k .none = q at *
   obtain ⟨ql, qa, qc, qr, qp⟩ := q
   simp only at c0 c1 c2 hrow hrl
   have b2 : Below w.heap.size w ((w.alloc (gBox g)).alloc (.cells #[.int .i64 ql, .slice qa qr.length qc, .int .i64 qp] 83)) := hb.trans ((below_alloc _ _).mono hb.size)
   have HB2 : Hid (Below w.heap.size w ((w.alloc (gBox g)).alloc (.cells #[.int .i64 ql, .slice qa qr.length qc, .int .i64 qp] 83))) := b2
   have HR : Hid (SymRow ((w.alloc (gBox g)).alloc (.cells #[.int .i64 ql, .slice qa qr.length qc, .int .i64 qp] 83)) qa qr) := hrow.later (Nat.le_refl _) b2
   have q1 := heap_alloc_new (w.alloc (gBox g)) (.cells #[.int .i64 ql, .slice qa qr.length qc, .int .i64 qp] 83)
   rw [alZ] at q1
   have d1 : ((w.alloc (gBox g)).alloc (.cells #[.int .i64 ql, .slice qa qr.length qc, .int .i64 qp] 83)).cell? ⟨w.heap.size + 1, 1, none⟩ = some (.slice qa qr.length qc) := (cellq_any q1).trans rfl
   clear hb b2 hrow q1 HPA x0 x1 x2 x3 x4
   obtain ⟨gta, gtc, gts, gna, gnc, gns, gst, gpa, gpc, gps, gla, glc, gls⟩ := g
   simp only at hpa hk h0 h1 hpl
   subst hpa
   by_cases hq : qp = -1
   ·subst hq
    have E2 : Hid (ownU ⟨ql, qa, qc, qr, -1⟩ = lastT qr) := by show _ = _; simp [ownU]
    have tp : ((-1 : Int) != -1) = false := by decide
    go_enter Try.func19, Try.ntmps19
    go_wp2
    clear c0 c1 c2
    generalize (w.alloc (gBox ⟨gta, gtc, gts, gna, gnc, gns, gst, some ⟨pb, po, none⟩, gpc, gps, gla, glc, gls⟩)).alloc (.cells #[.int .i64 ql, .slice qa qr.length qc, .int .i64 (-1)] 83) = W at *
    go_loopw [7, 8] (fun y z wr => ∃ i : Nat, i <= qr.length /\ z = .int .i64 i /\ y = .int .i64 (lastT (qr.take i)) /\ wr = W) (fun _ z _ => qr.length - (intOf z).toNat)
    case atStart => exact ⟨0, Nat.zero_le _, rfl, rfl, rfl⟩
    case round =>
     obtain ⟨i, hi, rfl, rfl, hww⟩ := hrel
     subst hww
     by_cases hlt : i < qr.length
     ·obtain ⟨rb, ro, rfl, hrb, hrc⟩ := HR.out (by intro e; subst e; simp at hlt)
      obtain ⟨r0, r1⟩ := hrc i hlt
      have HL := last_take hlt
      have ilt : (i : Int) < (qr.length : Int) := by omega
      clear hrc
      generalize qr.getD i (0, 0) = s at *
      obtain ⟨s1, s2⟩ := s
      simp only at r0 r1 HL
      by_cases hs : s1 = 1
      ·subst hs
       have HL2 : Hid (lastT (qr.take (i + 1)) = s2) := by show _ = _; rw [HL, if_pos rfl]
       clear HL
       go_wp2
       go_roundw
       case rel => exact ⟨i + 1, by omega, by go_num, by rw [HL2.out], by first | rfl | trivial⟩
       case measure => simp [intOf]; omega
      ·have HL2 : Hid (lastT (qr.take (i + 1)) = lastT (qr.take i)) := by show _ = _; rw [HL, if_neg hs]
       have ts : (s1 == 1) = false := by simpa using hs
       clear HL
       go_wp2
       go_roundw
       case rel => exact ⟨i + 1, by omega, by go_num, by rw [HL2.out], by first | rfl | trivial⟩
       case measure => simp [intOf]; omega
     ·have ilt : ¬ (i : Int) < (qr.length : Int) := by omega
      have e : qr.take i = qr := List.take_of_length_le (by omega)
      rw [e]
      go_wp2
      refine bodyPost_ret (v := .tuple #[.int .i64 (lastT qr), .int .i64 0]) (by simp [results, Try.results19, go_sem]) rfl ?_
      exact ⟨by rw [E.out, E2.out], HB2.out⟩
   ·have E2 : Hid (ownU ⟨ql, qa, qc, qr, qp⟩ = qp) := by show _ = _; unfold ownU; rw [if_pos hq]
    have tp : (qp != -1) = true := by simpa using hq
    go_enter Try.func19, Try.ntmps19
    go_wp2
    refine bodyPost_ret (v := .tuple #[.int .i64 qp, .int .i64 0]) (by simp [results, Try.results19, go_sem]) rfl ?_
    exact ⟨by rw [E.out, E2.out], HB2.out⟩
  ·have E : Hid (terF g 0 p = (0, 4)) := by show _ = _; simp [terF, inP, h1]
   have a1 : ¬ p < 0 := by omega
   clear h hb
   go_enter Try.func19, Try.ntmps19
   go_wp2
   refine bodyPost_ret (v := .tuple #[.int .i64 0, .int .i64 4]) (by simp [results, Try.results19, go_sem]) rfl ?_
   exact ⟨by rw [E.out], HB.out⟩
 ·have E : Hid (terF g 0 p = (0, 4)) := by show _ = _; simp [terF, inP, h0]
  have a1 : p < 0 := by omega
  clear h hb
  go_enter Try.func19, Try.ntmps19
  go_wp2
  refine bodyPost_ret (v := .tuple #[.int .i64 0, .int .i64 4]) (by simp [results, Try.results19, go_sem]) rfl ?_
  exact ⟨by rw [E.out], HB.out⟩
set_option linter.unusedSimpArgs false in
theorem rProdLevel_P (g : GV) (p : Int) (w : World) (h : GAt 140737488355328 w g) (ok : OkC g) :
  Calls Try.prog 20 #[g.val, .int .i64 p] w fun e w' => e = .returned (.tuple #[.int .i64 (prlF g 0 p).1, .int .i64 (prlF g 0 p).2]) /\ Below w.heap.size w w' := by
 have X0 : Hid ((w.alloc (gBox g)).heap[w.heap.size]? = some (gBox g) /\ Below w.heap.size w (w.alloc (gBox g))) := ⟨heap_alloc_new _ _, below_alloc _ _⟩
 have TO : Hid (∀ w', Below w.heap.size w w' -> Calls Try.prog 19 #[g.val, .int .i64 p] w' fun e w'' => e = .returned (.tuple #[.int .i64 (terF g 0 p).1, .int .i64 (terF g 0 p).2]) /\ Below w'.heap.size w' w'') := fun w' hb => rTerminalOf_P g p w' (h.later hb)
 have HT : Hid (∀ w', Below w.heap.size w w' -> GAt 140737488355328 w' g) := fun w' hb => h.later hb
 have E : Hid (prlF g 0 p = if (terF g 0 p).2 ≠ 0 then (0, (terF g 0 p).2) else (levU g.ls (terF g 0 p).1, 0)) := rfl
 have HN : Hid ((terF g 0 p).1 < 0 -> levU g.ls (terF g 0 p).1 = -1) := fun e => lev_neg ok e
 clear h ok
 generalize terF g 0 p = r at *
 obtain ⟨r1, r2⟩ := r
 simp only at TO E HN
 by_cases h0 : r2 = 0
 ·subst h0
  have t1 : ((0 : Int) != 0) = false := by decide
  by_cases hn : r1 < 0
  ·have E2 : Hid (prlF g 0 p = (-1, 0)) := by show _ = _; rw [E.out, if_neg (by simp), HN.out hn]
   clear E HN
   go_enter Try.func20, Try.ntmps20
   go_wp2_with (go_at_call 19; refine (TO.out _ X0.out.2).mono ?_; rintro e w1 ⟨rfl, b1⟩; have X1 : Hid (Below w.heap.size w w1) := X0.out.2.trans (b1.mono X0.out.2.size); clear b1)
   refine bodyPost_ret (v := .tuple #[.int .i64 (-1), .int .i64 0]) (by simp [results, Try.results20, go_sem]) rfl ?_
   exact ⟨by rw [E2.out], X1.out⟩
  ·have E2 : Hid (prlF g 0 p = (levU g.ls r1, 0)) := by show _ = _; rw [E.out, if_neg (by simp)]
   clear E HN
   go_enter Try.func20, Try.ntmps20
   go_wp2_with (first
    | (go_at_call 19; refine (TO.out _ X0.out.2).mono ?_; rintro e w1 ⟨rfl, b1⟩; have X1 : Hid (w1.heap[w.heap.size]? = some (gBox g) /\ Below w.heap.size w w1) := ⟨blk_later X0.out.1 b1, X0.out.2.trans (b1.mono X0.out.2.size)⟩; clear b1; obtain ⟨y0, y1, y2, y3, y4⟩ := gb_cells X1.out.1)
    | (go_at_call 51; refine (rlevel_P g r1 _ (HT.out _ X1.out.2)).mono ?_; rintro e w3 ⟨rfl, b3⟩; have X3 : Hid (Below w.heap.size w w3) := X1.out.2.trans (b3.mono X1.out.2.size); clear b3))
   refine bodyPost_ret (v := .tuple #[.int .i64 (levU g.ls r1), .int .i64 0]) (by simp [results, Try.results20, go_sem]) rfl ?_
   exact ⟨by rw [E2.out], X3.out⟩
 ·have t1 : (r2 != 0) = true := by simpa using h0
  have E2 : Hid (prlF g 0 p = (0, r2)) := by show _ = _; rw [E.out, if_pos h0]
  clear E HN
  go_enter Try.func20, Try.ntmps20
  go_wp2_with (go_at_call 19; refine (TO.out _ X0.out.2).mono ?_; rintro e w1 ⟨rfl, b1⟩; have X1 : Hid (Below w.heap.size w w1) := X0.out.2.trans (b1.mono X0.out.2.size); clear b1)
  refine bodyPost_ret (v := .tuple #[.int .i64 0, .int .i64 r2]) (by simp [results, Try.results20, go_sem]) rfl ?_
  exact ⟨by rw [E2.out], X1.out⟩
end Go.Proofs.Ytlkkllehaabebaa
