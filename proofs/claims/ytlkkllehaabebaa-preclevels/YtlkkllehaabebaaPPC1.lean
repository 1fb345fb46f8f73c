import Derived.Test.YtlkkllehaabebaaPPC0
import Derived.Test.YtlkkllehaabebaaPFChk1ToFOf
import Derived.Test.YtlkkllehaabebaaPRegX
import Derived.Test.YtlkkllehaabebaaPRegS
import Derived.Test.YtlkkllehaabebaaPRRow
namespace Go.Proofs.Ytlkkllehaabebaa
set_option linter.unusedVariables false
set_option maxRecDepth 100000
set_option maxHeartbeats 16000000
open Go.RowKit Go.Shelf
theorem contains_hit {l : List Int} {k : Nat} {x : Int} (hk : k < l.length) (h : x = l.getD k 0) : l.contains x = true := by
 rw [List.contains_iff_mem, h]; exact mem_getD hk
theorem contains_not {l : List Int} {x : Int} (h : ∀ j, j < l.length -> x ≠ l.getD j 0) : l.contains x = false := by
 rw [Bool.eq_false_iff]
 intro hc
 obtain ⟨j, hj, e⟩ := List.mem_iff_getElem.1 (List.contains_iff_mem.1 hc)
 exact h j hj (by simp [List.getD, hj, e])
theorem index_P (ao : Option Addr) (cap : Nat) (l : List Int) (x : Int) (w : World) (hl : l.length <= 140737488355328) (hr : InRow w ao l) :
  Calls Try.prog 89 #[.slice ao l.length cap, .int .i64 x] w fun e w' => ∃ v, e = .returned (.int .i64 v) /\ (l.contains x = decide (0 <= v)) /\ w' = w := by
 have HR : Hid (InRow w ao l) := hr
 clear hr
 go_enter Try.func89, Try.ntmps89
 go_wp2
 go_loopw [8] (fun z wr => ∃ k : Nat, k <= l.length /\ z = .int .i64 k /\ wr = w /\ Hid (∀ j, j < k -> x ≠ l.getD j 0)) (fun z _ => l.length - (intOf z).toNat)
 case atStart => exact ⟨0, Nat.zero_le _, rfl, rfl, fun j hj => by omega⟩
 case round =>
  obtain ⟨k, hk, rfl, rfl, HA⟩ := hrel
  by_cases hlt : k < l.length
  ·obtain ⟨rb, ro, rfl, hrb, hrc⟩ := HR.out (by intro e; subst e; simp at hlt)
   have r0 := hrc k hlt
   have klt : (k : Int) < (l.length : Int) := by omega
   clear hrc
   by_cases hin : x = l.getD k 0
   ·have HX : Hid (l.contains x = true) := contains_hit hlt hin
    generalize l.getD k 0 = n at *
    have t1 : (x == n) = true := by simpa using hin
    clear hin
    go_wp2
    go_ret
    exact ⟨_, rfl, by rw [HX.out]; simp, rfl⟩
   ·have HX : Hid (∀ j, j < k + 1 -> x ≠ l.getD j 0) := fun j hj => by
     rcases Nat.lt_succ_iff_lt_or_eq.1 hj with r | rfl
     ·exact HA.out j r
     ·exact hin
    generalize l.getD k 0 = n at *
    have t1 : (x == n) = false := by simpa using hin
    clear hin
    go_wp2
    go_roundw
    case rel => exact ⟨k + 1, by omega, by go_num, by first | rfl | trivial, HX.out⟩
    case measure => simp [intOf]; omega
  ·have HX : Hid (l.contains x = false) := contains_not fun j hj => HA.out j (by omega)
   clear HA
   go_wp2
   go_ret
   exact ⟨-1, rfl, by rw [HX.out]; rfl, rfl⟩
theorem contains_P (ao : Option Addr) (cap : Nat) (l : List Int) (x : Int) (w : World) (b : Bool) (hx : l.contains x = b) (hl : l.length <= 140737488355328) (hr : InRow w ao l) :
  Calls Try.prog 69 #[.slice ao l.length cap, .int .i64 x] w fun e w' => e = .returned (.bool b) /\ w' = w := by
 have HX : Hid (l.contains x = b) := hx
 have HC := index_P ao cap l x w hl hr
 clear hx hr
 go_enter Try.func69, Try.ntmps69
 go_wp2_with (go_at_call 89; refine HC.mono ?_; rintro e w1 ⟨v, rfl, hv', rfl⟩; have hv : Hid _ := hv'; clear hv' HC)
 go_ret
 exact ⟨by have h1 := hv.out; have h2 := HX.out; rw [h2] at h1; rw [h1]; rfl, rfl⟩
theorem has_c (q : LV) (t : Int) (tb : Nat) (w : World) (x : Bool) (hx : q.terms.contains t = x) (hl : q.terms.length <= 140737488355328) (hr : InRow w q.ta q.terms) (ht : w.heap[tb]? = some (.cells #[.int .i64 t] 3)) :
  Calls Try.prog 68 #[.agg #[.int .i64 q.assoc, .slice q.ta q.terms.length q.tc], .pointer (some ⟨tb, 0, none⟩)] w fun e w' => e = .returned (.bool x) /\ Below w.heap.size w w' := by
 obtain ⟨qa, ta, tc, ts⟩ := q
 simp only at hx hl hr
 have hb := below_alloc w (.cells #[.int .i64 qa, .slice ta ts.length tc] 76)
 have HC := contains_P ta tc ts t _ x hx hl (hr.later hb)
 have c0 : (w.alloc (.cells #[.int .i64 qa, .slice ta ts.length tc] 76)).cell? ⟨tb, 0, none⟩ = some (.int .i64 t) := by
  rw [hb.cell (p := ⟨tb, 0, none⟩) (lt_of_block ht), cellq_any ht]; rfl
 have HB : Hid _ := hb
 clear hx hr hb ht
 go_enter Try.func68, Try.ntmps68
 go_wp2_with (go_at_call 69; refine HC.mono ?_; rintro e w1 ⟨rfl, rfl⟩; clear HC)
 go_ret
 exact ⟨rfl, HB.out⟩
theorem idx_lev (t : Int) (tb : Nat) (ao : Option Addr) (N cap : Nat) (l : List LV) (w : World) (hN : N = l.length) (hl : l.length <= 140737488355328) (hl2 : ∀ q ∈ l, q.terms.length <= 140737488355328) (hr : LvRow w ao l) (ht : w.heap[tb]? = some (.cells #[.int .i64 t] 3)) :
  Calls Try.prog 67 #[.slice ao N cap, .func (.func 68) #[] #[.pointer (some ⟨tb, 0, none⟩)]] w fun e w' => e = .returned (.int .i64 (levU l t)) /\ Below w.heap.size w w' := by
 subst hN
 have HRB : Hid (LvRow w ao l /\ w.heap[tb]? = some (.cells #[.int .i64 t] 3) /\ ∀ q ∈ l, q.terms.length <= 140737488355328) := ⟨hr, ht, hl2⟩
 clear hr ht hl2
 go_enter Try.func67, Try.ntmps67
 go_wp2
 go_loopw [8] (fun z wr => ∃ k : Nat, k <= l.length /\ z = .int .i64 k /\ Below w.heap.size w wr /\ Hid (∀ j, j < k -> (l.getD j .none).terms.contains t = false)) (fun z _ => l.length - (intOf z).toNat)
 case atStart => exact ⟨0, Nat.zero_le _, rfl, Below.refl _ _, fun j hj => by omega⟩
 case round =>
  obtain ⟨k, hk, rfl, hb, HA⟩ := hrel
  by_cases hlt : k < l.length
  ·obtain ⟨rb, ro, rfl, hrb, hrc⟩ := (HRB.out.1.later hb).cells (by intro e; subst e; simp at hlt)
   obtain ⟨r0, r1⟩ := hrc k hlt
   have hm : l.getD k .none ∈ l := mem_getD hlt
   have hrow := (HRB.out.1.later hb).rows _ hm
   have hql := HRB.out.2.2 _ hm
   have HIT : Hid ((l.getD k .none).terms.contains t = true -> levU l t = k) := fun e => lev_at hlt HA.out e
   have HST : Hid ((l.getD k .none).terms.contains t = false -> ∀ j, j < k + 1 -> (l.getD j .none).terms.contains t = false) := fun e j hj => by
    rcases Nat.lt_succ_iff_lt_or_eq.1 hj with r | rfl
    ·exact HA.out j r
    ·exact e
   have CS : Hid (∀ x, (l.getD k .none).terms.contains t = x -> Calls Try.prog 68 #[.agg #[.int .i64 (l.getD k .none).assoc, .slice (l.getD k .none).ta (l.getD k .none).terms.length (l.getD k .none).tc], .pointer (some ⟨tb, 0, none⟩)] wr fun e w' => e = .returned (.bool x) /\ Below wr.heap.size wr w') := fun x hx => has_c _ t tb wr x hx hql hrow ((hb.block _ (lt_of_block HRB.out.2.1)).trans HRB.out.2.1)
   have klt : (k : Int) < (l.length : Int) := by omega
   clear hrc hm hrow hql HA
   generalize l.getD k .none = q at *
   obtain ⟨qa, ta, tc, ts⟩ := q
   simp only at r0 r1 HIT HST CS
   cases hin : ts.contains t with
   | true =>
    have HX : Hid _ := HIT.out hin
    have CS2 : Hid (Calls Try.prog 68 #[.agg #[.int .i64 qa, .slice ta ts.length tc], .pointer (some ⟨tb, 0, none⟩)] wr fun e w' => e = .returned (.bool true) /\ Below wr.heap.size wr w') := CS.out true hin
    clear HIT HST hin CS
    go_wp2_with (go_at_call 68; refine CS2.out.mono ?_; rintro e w1 ⟨rfl, hb1⟩)
    go_ret
    exact ⟨by rw [HX.out]; rfl, hb.trans (hb1.mono hb.size)⟩
   | false =>
    have HX : Hid _ := HST.out hin
    have CS2 : Hid (Calls Try.prog 68 #[.agg #[.int .i64 qa, .slice ta ts.length tc], .pointer (some ⟨tb, 0, none⟩)] wr fun e w' => e = .returned (.bool false) /\ Below wr.heap.size wr w') := CS.out false hin
    clear HIT HST hin CS
    go_wp2_with (go_at_call 68; refine CS2.out.mono ?_; rintro e w1 ⟨rfl, hb1⟩)
    go_roundw
    case rel => exact ⟨k + 1, by omega, by go_num, hb.trans (hb1.mono hb.size), HX.out⟩
    case measure => simp [intOf]; omega
  ·have HX : Hid (levU l t = -1) := lev_none fun j hj => HA.out j (by omega)
   clear HA
   go_wp2
   go_ret
   exact ⟨by rw [HX.out]; rfl, hb⟩
theorem levelOf_P (g : GV) (t : Int) (w : World) (h : GAt 140737488355328 w g) :
  Calls Try.prog 34 #[g.val, .int .i64 t] w fun e w' => e = .returned (.int .i64 (levU g.ls t)) /\ Below w.heap.size w w' := by
 have b1 := below_alloc w (gBox g)
 have b2 : Below w.heap.size w ((w.alloc (gBox g)).alloc (.cells #[.int .i64 t] 3)) := b1.trans ((below_alloc _ _).mono b1.size)
 have t1 : ((w.alloc (gBox g)).alloc (.cells #[.int .i64 t] 3)).heap[w.heap.size + 1]? = some (.cells #[.int .i64 t] 3) := by
  have := heap_alloc_new (w.alloc (gBox g)) (.cells #[.int .i64 t] 3)
  rwa [alZ] at this
 have HC : Hid (Calls Try.prog 67 #[.slice g.la g.ls.length g.lc, .func (.func 68) #[] #[.pointer (some ⟨w.heap.size + 1, 0, none⟩)]] ((w.alloc (gBox g)).alloc (.cells #[.int .i64 t] 3)) fun e w' => e = .returned (.int .i64 (levU g.ls t)) /\ Below ((w.alloc (gBox g)).alloc (.cells #[.int .i64 t] 3)).heap.size ((w.alloc (gBox g)).alloc (.cells #[.int .i64 t] 3)) w') := idx_lev t (w.heap.size + 1) g.la g.ls.length g.lc g.ls _ rfl h.ll h.vl (h.l.later b2) t1
 have HB : Hid (Below w.heap.size w ((w.alloc (gBox g)).alloc (.cells #[.int .i64 t] 3))) := b2
 clear h b1 b2 t1
 go_enter Try.func34, Try.ntmps34
 go_wp2_with (go_at_call 67; refine HC.out.mono ?_; rintro e w1 ⟨rfl, b3'⟩; have b3 : Hid _ := b3'; clear HC b3')
 go_ret
 exact ⟨rfl, HB.out.trans (b3.out.mono HB.out.size)⟩
end Go.Proofs.Ytlkkllehaabebaa
