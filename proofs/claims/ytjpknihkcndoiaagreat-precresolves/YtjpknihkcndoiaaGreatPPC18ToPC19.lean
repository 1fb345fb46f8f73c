import Derived.Test.YtjpknihkcndoiaaGreatPGIntactToPC17
import Derived.Lib.SliceRun
namespace Go.Proofs.YtjpknihkcndoiaaGreat
set_option linter.unusedVariables false
set_option maxRecDepth 100000
set_option maxHeartbeats 16000000
open Go.RowKit Go.Maps
theorem risesC_any (ao : Option Addr) (cap : Nat) (l : List Int) (w : World) (hl : l.length <= 140737488355328) (hr : InRow w ao l) :
  Calls Tryz.prog 52 #[.slice ao l.length cap] w fun e w' => e = .returned (.bool (risesU l)) /\ ∃ d, w' = w.drewN d := by
 go_enter Tryz.func52, Tryz.ntmps52
 go_wp2
 go_loopw [3] (fun z wr => ∃ k d : Nat, 1 <= k /\ k <= l.length + 1 /\ z = .int .i64 k /\ wr = w.drewN d /\ Hid (∀ j, j + 1 < k -> j + 1 < l.length -> l.getD j 0 < l.getD (j + 1) 0)) (fun z _ => l.length + 1 - (intOf z).toNat)
 case atStart => exact ⟨1, 0, by omega, by omega, rfl, rfl, fun j hj => by omega⟩
 case round =>
  obtain ⟨k, d, hk1, hk, rfl, rfl, HA⟩ := hrel
  by_cases hlt : k < l.length
  ·obtain ⟨rb, ro, rfl, hrb, hrc⟩ := hr (by intro e; subst e; simp at hlt)
   obtain ⟨k', rfl⟩ : ∃ k', k = k' + 1 := ⟨k - 1, by omega⟩
   have r0 := hrc (k' + 1) hlt
   have r1 := hrc k' (show k' < l.length by omega)
   clear hrc hr
   have ei : ((k' + 1 : Nat) : Int) - 1 = (k' : Int) := by omega
   have HIT : Hid (l.getD (k' + 1) 0 <= l.getD k' 0 -> risesU l = false) := fun e => rises_hit (k := k' + 1) (by omega) hlt e
   have HST : Hid (l.getD k' 0 < l.getD (k' + 1) 0 -> ∀ j, j + 1 < k' + 1 + 1 -> j + 1 < l.length -> l.getD j 0 < l.getD (j + 1) 0) := fun e j hj hj2 => by
    by_cases r : j + 1 < k' + 1
    ·exact HA.out j r hj2
    ·obtain rfl : j = k' := by omega
     exact e
   generalize l.getD (k' + 1) 0 = x at *
   generalize l.getD k' 0 = y at *
   by_cases hxy : y ≥ x
   ·have HX : Hid (risesU l = false) := HIT.out hxy
    have t1 : decide (y ≥ x) = true := by simpa using hxy
    clear HIT HST
    go_wp2
    go_quiet (fail)
    go_wp2
    go_ret
    exact ⟨by rw [HX.out]; rfl, _, World.drewN_drewN _ _ _⟩
   ·have HX : Hid _ := HST.out (by omega)
    have t1 : decide (y ≥ x) = false := by simpa using hxy
    clear HIT HST
    go_wp2
    go_quiet (fail)
    go_wp2
    go_roundw
    case rel => exact ⟨k' + 1 + 1, _, by omega, by omega, by go_num, rfl, HX.out⟩
    case measure => simp [intOf]; omega
  ·have HX : Hid (risesU l = true) := rises_all fun j hj => HA.out j (by omega) hj
   clear HA
   go_wp2
   go_ret
   exact ⟨by rw [HX.out]; rfl, _, rfl⟩
theorem risesC_b (ao : Option Addr) (cap : Nat) (l : List Int) (w : World) (b : Bool) (he : risesU l = b) (hl : l.length <= 140737488355328) (hr : InRow w ao l) :
  Calls Tryz.prog 52 #[.slice ao l.length cap] w fun e w' => e = .returned (.bool b) /\ Below w.heap.size w w' :=
 (risesC_any ao cap l w hl hr).mono fun e w' ⟨h1, d, h2⟩ => ⟨by rw [h1, he], by rw [h2]; exact below_drewN (Below.refl _ _) d⟩
structure CV where
 st : Int
 look : Int
 shift : Int
 ra : Option Addr
 rc : Nat
 red : List Int
abbrev CV.val (q : CV) : Value := .agg #[.int .i64 q.st, .int .i64 q.look, .int .i64 q.shift, .slice q.ra q.red.length q.rc]
set_option linter.unusedSimpArgs false in
theorem odd_c (g : GV) (gb : Nat) (n : Int) (w : World) (h1 : g.ps.length <= 140737488355328) (hB : BoxG g gb w) :
  Calls Tryz.prog 73 #[.int .i64 n, .pointer (some ⟨gb, 0, none⟩)] w fun e w' => e = .returned (.bool (oddU g n)) /\ Below w.heap.size w w' := by
 obtain ⟨x0, x1, x2, x3, x4, _⟩ := hB
 have HI : Hid (∀ b, inP g n = b -> Calls Tryz.prog 65 #[g.val, .int .i64 n] w fun e w' => e = .returned (.bool b) /\ Below w.heap.size w w') := fun b hb => by
  have := isProd_P g n w h1
  rwa [hb] at this
 by_cases hn : n = -1
 ·subst hn
  have E : Hid (oddU g (-1) = false) := by show _ = _; simp [oddU]
  have t1 : ((-1 : Int) != -1) = false := by decide
  go_enter Tryz.func73, Tryz.ntmps73
  go_wp2
  go_ret
  exact ⟨by rw [E.out]; rfl, Below.refl _ _⟩
 ·have t1 : (n != -1) = true := by simpa using hn
  cases hp : inP g n with
  | true =>
   have hp2 : 0 <= n /\ n < g.ps.length := by simpa [inP] using hp
   have E : Hid (oddU g n = false) := by show _ = _; simp [oddU]; omega
   have HI2 : Hid (Calls Tryz.prog 65 #[g.val, .int .i64 n] w fun e w' => e = .returned (.bool true) /\ Below w.heap.size w w') := HI.out true hp
   clear HI hp hn
   go_enter Tryz.func73, Tryz.ntmps73
   go_wp2_with (go_at_call 65; refine HI2.out.mono ?_; rintro e w1 ⟨rfl, b1'⟩; have b1 : Hid (Below w.heap.size w w1) := b1'; clear b1')
   go_ret
   exact ⟨by rw [E.out]; rfl, b1.out⟩
  | false =>
   have hp2 : ¬ (0 <= n /\ n < g.ps.length) := by simpa [inP] using hp
   have E : Hid (oddU g n = true) := by show _ = _; simp [oddU]; omega
   have HI2 : Hid (Calls Tryz.prog 65 #[g.val, .int .i64 n] w fun e w' => e = .returned (.bool false) /\ Below w.heap.size w w') := HI.out false hp
   clear HI hp hn
   go_enter Tryz.func73, Tryz.ntmps73
   go_wp2_with (go_at_call 65; refine HI2.out.mono ?_; rintro e w1 ⟨rfl, b1'⟩; have b1 : Hid (Below w.heap.size w w1) := b1'; clear b1')
   go_ret
   exact ⟨by rw [E.out]; rfl, b1.out⟩
theorem idx_odd (g : GV) (gb : Nat) (ao : Option Addr) (cap : Nat) (l : List Int) (w : World) (hl : l.length <= 140737488355328) (hr : InRow w ao l) (h1 : g.ps.length <= 140737488355328) (hB : BoxG g gb w) :
  Calls Tryz.prog 104 #[.slice ao l.length cap, .func (.func 73) #[] #[.pointer (some ⟨gb, 0, none⟩)]] w fun e w' => ∃ v, e = .returned (.int .i64 v) /\ ((l.any fun n => oddU g n) = decide (0 <= v)) /\ Below w.heap.size w w' := by
 have HR : Hid (InRow w ao l) := hr
 clear hr
 have HB : Hid (BoxG g gb w) := hB
 clear hB
 go_enter Tryz.func104, Tryz.ntmps104
 go_wp2
 go_loopw [8] (fun z wr => ∃ k : Nat, k <= l.length /\ z = .int .i64 k /\ Below w.heap.size w wr /\ Hid (∀ j, j < k -> (oddU g (l.getD j 0)) = false)) (fun z _ => l.length - (intOf z).toNat)
 case atStart => exact ⟨0, Nat.zero_le _, rfl, Below.refl _ _, fun j hj => by omega⟩
 case round =>
  obtain ⟨k, hk, rfl, hb, HA⟩ := hrel
  by_cases hlt : k < l.length
  ·obtain ⟨rb, ro, rfl, hrb, hrc⟩ := (HR.out.later hb) (by intro e; subst e; simp at hlt)
   have r0 := hrc k hlt
   have hm : l.getD k 0 ∈ l := getD_memI hlt
   have HIT : Hid ((oddU g (l.getD k 0)) = true -> (l.any fun n => oddU g n) = true) := fun e => any_hit (d := 0) hlt e
   have HST : Hid ((oddU g (l.getD k 0)) = false -> ∀ j, j < k + 1 -> (oddU g (l.getD j 0)) = false) := fun e j hj => by
    rcases Nat.lt_succ_iff_lt_or_eq.1 hj with r | rfl
    ·exact HA.out j r
    ·exact e
   have CS : Hid (Calls Tryz.prog 73 #[.int .i64 (l.getD k 0), .pointer (some ⟨gb, 0, none⟩)] wr fun e w' => e = .returned (.bool (oddU g (l.getD k 0))) /\ Below wr.heap.size wr w') := odd_c g gb _ wr h1 (HB.out.later hb)
   have klt : (k : Int) < (l.length : Int) := by omega
   clear hrc hm HA
   generalize l.getD k 0 = n at *
   cases hin : (oddU g n) with
   | true =>
    have HX : Hid _ := HIT.out hin
    have CS2 : Hid (Calls Tryz.prog 73 #[.int .i64 n, .pointer (some ⟨gb, 0, none⟩)] wr fun e w' => e = .returned (.bool true) /\ Below wr.heap.size wr w') := by have := CS.out; rw [hin] at this; exact this
    clear HIT HST hin CS
    go_wp2_with (go_at_call 73; refine CS2.out.mono ?_; rintro e w1 ⟨rfl, hb1⟩)
    go_ret
    exact ⟨_, rfl, by rw [HX.out]; simp, hb.trans (hb1.mono hb.size)⟩
   | false =>
    have HX : Hid _ := HST.out hin
    have CS2 : Hid (Calls Tryz.prog 73 #[.int .i64 n, .pointer (some ⟨gb, 0, none⟩)] wr fun e w' => e = .returned (.bool false) /\ Below wr.heap.size wr w') := by have := CS.out; rw [hin] at this; exact this
    clear HIT HST hin CS
    go_wp2_with (go_at_call 73; refine CS2.out.mono ?_; rintro e w1 ⟨rfl, hb1⟩)
    go_roundw
    case rel => exact ⟨k + 1, by omega, by go_num, hb.trans (hb1.mono hb.size), HX.out⟩
    case measure => simp [intOf]; omega
  ·have HX : Hid ((l.any fun n => oddU g n) = false) := any_none 0 fun j hj => HA.out j (by omega)
   clear HA
   go_wp2
   go_ret
   exact ⟨-1, rfl, by rw [HX.out]; rfl, hb⟩
theorem contains_odd (g : GV) (gb : Nat) (ao : Option Addr) (cap : Nat) (l : List Int) (w : World) (x : Bool) (hx : (l.any fun n => oddU g n) = x) (hl : l.length <= 140737488355328) (hr : InRow w ao l) (h1 : g.ps.length <= 140737488355328) (hB : BoxG g gb w) :
  Calls Tryz.prog 74 #[.slice ao l.length cap, .func (.func 73) #[] #[.pointer (some ⟨gb, 0, none⟩)]] w fun e w' => e = .returned (.bool x) /\ Below w.heap.size w w' := by
 have HR : Hid (InRow w ao l) := hr
 have HX : Hid ((l.any fun n => oddU g n) = x) := hx
 have HB : Hid (BoxG g gb w) := hB
 clear hB
 clear hx hr
 go_enter Tryz.func74, Tryz.ntmps74
 go_wp2_with (go_at_call 104; refine (idx_odd g gb ao cap l w hl HR.out h1 HB.out).mono ?_; rintro e w1 ⟨v, rfl, hv', hb1⟩; have hv : Hid _ := hv'; clear hv')
 go_ret
 exact ⟨by have h1 := hv.out; have h2 := HX.out; rw [h2] at h1; rw [h1]; rfl, hb1⟩
theorem cb_cells {q : CV} {b : Nat} {w' : World} (h : w'.heap[b]? = some (.cells #[.int .i64 q.st, .int .i64 q.look, .int .i64 q.shift, .slice q.ra q.red.length q.rc] 44 (0, 0))) : w'.cell? ⟨b, 0, none⟩ = some (.int .i64 q.st) /\ w'.cell? ⟨b, 1, none⟩ = some (.int .i64 q.look) /\ w'.cell? ⟨b, 2, none⟩ = some (.int .i64 q.shift) /\ w'.cell? ⟨b, 3, none⟩ = some (.slice q.ra q.red.length q.rc) :=
 ⟨(cellq_any h).trans rfl, (cellq_any h).trans rfl, (cellq_any h).trans rfl, (cellq_any h).trans rfl⟩
structure GC (g : GV) (q : CV) (w0 w : World) : Prop where
 gb : w.heap[w0.heap.size]? = some (gBox g)
 cb : w.heap[w0.heap.size + 1]? = some (.cells #[.int .i64 q.st, .int .i64 q.look, .int .i64 q.shift, .slice q.ra q.red.length q.rc] 44 (0, 0))
 bel : Below w0.heap.size w0 w
theorem GC.later {g : GV} {q : CV} {w0 w w' : World} (h : GC g q w0 w) (hb : Below w.heap.size w w') : GC g q w0 w' := ⟨blk_later h.gb hb, blk_later h.cb hb, h.bel.trans (hb.mono h.bel.size)⟩
theorem GC.new (g : GV) (q : CV) (w : World) : GC g q w ((w.alloc (gBox g)).alloc (.cells #[.int .i64 q.st, .int .i64 q.look, .int .i64 q.shift, .slice q.ra q.red.length q.rc] 44)) :=
 ⟨blk_later (heap_alloc_new _ _) (below_alloc _ _), by have := heap_alloc_new (w.alloc (gBox g)) (.cells #[.int .i64 q.st, .int .i64 q.look, .int .i64 q.shift, .slice q.ra q.red.length q.rc] 44); rwa [alZ] at this, (below_alloc w _).trans ((below_alloc _ _).mono (below_alloc w _).size)⟩
theorem GC.box {g : GV} {q : CV} {w0 w : World} (h : GC g q w0 w) : BoxG g w0.heap.size w := by
 obtain ⟨x0, x1, x2, x3, x4⟩ := gb_cells h.gb
 exact ⟨x0, x1, x2, x3, x4, lt_of_block h.gb⟩
def rngU (g : GV) (q : CV) : Bool := decide (0 <= q.look) && decide (q.look <= g.ts.length) && !(q.red.any (oddU g)) && decide (-1 <= q.shift)
def cflU (g : GV) (q : CV) : Bool := if q.shift = -1 then decide (2 <= q.red.length) else decide (1 <= q.red.length) && decide (q.look < g.ts.length)
set_option linter.unusedSimpArgs false in
theorem inRange_P (g : GV) (q : CV) (w : World) (b : Bool) (hb : rngU g q = b) (htl : g.ts.length <= 140737488355328) (hpl : g.ps.length <= 140737488355328) (hl : q.red.length <= 140737488355328) (hr : InRow w q.ra q.red) :
  Calls Tryz.prog 51 #[g.val, q.val] w fun e w' => e = .returned (.bool b) /\ Below w.heap.size w w' := by
 have HN : Hid (GC g q w ((w.alloc (gBox g)).alloc (.cells #[.int .i64 q.st, .int .i64 q.look, .int .i64 q.shift, .slice q.ra q.red.length q.rc] 44))) := GC.new g q w
 obtain ⟨y0, y1, y2, y3⟩ := cb_cells HN.out.cb
 obtain ⟨x0, x1, x2, x3, x4⟩ := gb_cells HN.out.gb
 have HC : Hid (∀ x, q.red.any (oddU g) = x -> Calls Tryz.prog 74 #[.slice q.ra q.red.length q.rc, .func (.func 73) #[] #[.pointer (some ⟨w.heap.size, 0, none⟩)]] ((w.alloc (gBox g)).alloc (.cells #[.int .i64 q.st, .int .i64 q.look, .int .i64 q.shift, .slice q.ra q.red.length q.rc] 44)) fun e w' => e = .returned (.bool x) /\ Below ((w.alloc (gBox g)).alloc (.cells #[.int .i64 q.st, .int .i64 q.look, .int .i64 q.shift, .slice q.ra q.red.length q.rc] 44)).heap.size ((w.alloc (gBox g)).alloc (.cells #[.int .i64 q.st, .int .i64 q.look, .int .i64 q.shift, .slice q.ra q.red.length q.rc] 44)) w') := fun x hx => contains_odd g w.heap.size q.ra q.rc q.red _ x hx hl (hr.later HN.out.bel) hpl HN.out.box
 have HB : Hid (rngU g q = b) := hb
 clear hb hr
 by_cases a1 : 0 <= q.look
 ·by_cases a2 : q.look <= g.ts.length
  ·cases a3 : q.red.any (oddU g) with
   | true =>
    have HC2 : Hid (Calls Tryz.prog 74 #[.slice q.ra q.red.length q.rc, .func (.func 73) #[] #[.pointer (some ⟨w.heap.size, 0, none⟩)]] ((w.alloc (gBox g)).alloc (.cells #[.int .i64 q.st, .int .i64 q.look, .int .i64 q.shift, .slice q.ra q.red.length q.rc] 44)) fun e w' => e = .returned (.bool true) /\ Below ((w.alloc (gBox g)).alloc (.cells #[.int .i64 q.st, .int .i64 q.look, .int .i64 q.shift, .slice q.ra q.red.length q.rc] 44)).heap.size ((w.alloc (gBox g)).alloc (.cells #[.int .i64 q.st, .int .i64 q.look, .int .i64 q.shift, .slice q.ra q.red.length q.rc] 44)) w') := HC.out _ a3
    have E : Hid (b = false) := by show _ = _; rw [<- HB.out]; unfold rngU; rw [a3]; simp
    clear HC HB
    go_enter Tryz.func51, Tryz.ntmps51
    go_wp2_with (go_at_call 74; refine HC2.out.mono ?_; rintro e w1 ⟨rfl, b1⟩; have N1 : Hid (GC g q w w1) := HN.out.later b1; clear b1 x0 x1 x2 x3 x4 y0 y1 y2 y3; obtain ⟨y0, y1, y2, y3⟩ := cb_cells N1.out.cb)
    go_ret
    exact ⟨by rw [E.out]; rfl, N1.out.bel⟩
   | false =>
    have HC2 : Hid (Calls Tryz.prog 74 #[.slice q.ra q.red.length q.rc, .func (.func 73) #[] #[.pointer (some ⟨w.heap.size, 0, none⟩)]] ((w.alloc (gBox g)).alloc (.cells #[.int .i64 q.st, .int .i64 q.look, .int .i64 q.shift, .slice q.ra q.red.length q.rc] 44)) fun e w' => e = .returned (.bool false) /\ Below ((w.alloc (gBox g)).alloc (.cells #[.int .i64 q.st, .int .i64 q.look, .int .i64 q.shift, .slice q.ra q.red.length q.rc] 44)).heap.size ((w.alloc (gBox g)).alloc (.cells #[.int .i64 q.st, .int .i64 q.look, .int .i64 q.shift, .slice q.ra q.red.length q.rc] 44)) w') := HC.out _ a3
    by_cases a4 : -1 <= q.shift
    ·have E : Hid (b = true) := by show _ = _; rw [<- HB.out]; unfold rngU; rw [a3]; simp [a1, a2, a4]
     clear HC HB
     go_enter Tryz.func51, Tryz.ntmps51
     go_wp2_with (go_at_call 74; refine HC2.out.mono ?_; rintro e w1 ⟨rfl, b1⟩; have N1 : Hid (GC g q w w1) := HN.out.later b1; clear b1 x0 x1 x2 x3 x4 y0 y1 y2 y3; obtain ⟨y0, y1, y2, y3⟩ := cb_cells N1.out.cb)
     go_ret
     exact ⟨by rw [E.out]; rfl, N1.out.bel⟩
    ·have E : Hid (b = false) := by show _ = _; rw [<- HB.out]; unfold rngU; simp [a4]
     clear HC HB
     go_enter Tryz.func51, Tryz.ntmps51
     go_wp2_with (go_at_call 74; refine HC2.out.mono ?_; rintro e w1 ⟨rfl, b1⟩; have N1 : Hid (GC g q w w1) := HN.out.later b1; clear b1 x0 x1 x2 x3 x4 y0 y1 y2 y3; obtain ⟨y0, y1, y2, y3⟩ := cb_cells N1.out.cb)
     go_ret
     exact ⟨by rw [E.out]; simp; omega, N1.out.bel⟩
  ·have E : Hid (b = false) := by show _ = _; rw [<- HB.out]; unfold rngU; simp [a2]
   clear HC HB
   go_enter Tryz.func51, Tryz.ntmps51
   go_wp2
   go_ret
   exact ⟨by rw [E.out]; rfl, HN.out.bel⟩
 ·have E : Hid (b = false) := by show _ = _; rw [<- HB.out]; unfold rngU; simp [a1]
  clear HC HB
  go_enter Tryz.func51, Tryz.ntmps51
  go_wp2
  go_ret
  exact ⟨by rw [E.out]; rfl, HN.out.bel⟩
set_option linter.unusedSimpArgs false in
theorem isConflict_P (g : GV) (q : CV) (w : World) (b : Bool) (hb : cflU g q = b) (htl : g.ts.length <= 140737488355328) (hl : q.red.length <= 140737488355328) :
  Calls Tryz.prog 53 #[g.val, q.val] w fun e w' => e = .returned (.bool b) /\ Below w.heap.size w w' := by
 have HN : Hid (GC g q w ((w.alloc (gBox g)).alloc (.cells #[.int .i64 q.st, .int .i64 q.look, .int .i64 q.shift, .slice q.ra q.red.length q.rc] 44))) := GC.new g q w
 obtain ⟨y0, y1, y2, y3⟩ := cb_cells HN.out.cb
 obtain ⟨x0, x1, x2, x3, x4⟩ := gb_cells HN.out.gb
 have HB : Hid (cflU g q = b) := hb
 clear hb
 by_cases a1 : q.shift = -1
 ·obtain ⟨qs, ql, qh, qa, qc, qr⟩ := q
  simp only at a1
  subst a1
  simp only at hl y0 y1 y2 y3
  by_cases a2 : 2 <= qr.length
  ·have E : Hid (b = true) := by show _ = _; rw [<- HB.out]; unfold cflU; rw [if_pos rfl]; simpa using a2
   have a3 : (2 : Int) <= (qr.length : Int) := by omega
   clear HB
   have t1 : ((-1 : Int) == -1) = true := by decide
   go_enter Tryz.func53, Tryz.ntmps53
   go_wp2
   go_ret
   exact ⟨by rw [E.out]; rfl, HN.out.bel⟩
  ·have E : Hid (b = false) := by show _ = _; rw [<- HB.out]; unfold cflU; rw [if_pos rfl]; simpa using a2
   have a3 : ¬ (2 : Int) <= (qr.length : Int) := by omega
   clear HB
   have t1 : ((-1 : Int) == -1) = true := by decide
   go_enter Tryz.func53, Tryz.ntmps53
   go_wp2
   go_ret
   exact ⟨by rw [E.out]; rfl, HN.out.bel⟩
 ·have t1 : (q.shift == -1) = false := by simpa using a1
  by_cases a2 : 1 <= q.red.length
  ·have a3 : (1 : Int) <= (q.red.length : Int) := by omega
   by_cases a4 : q.look < g.ts.length
   ·have E : Hid (b = true) := by show _ = _; rw [<- HB.out]; unfold cflU; rw [if_neg a1]; simp [a4]; omega
    clear HB
    go_enter Tryz.func53, Tryz.ntmps53
    go_wp2
    go_ret
    exact ⟨by rw [E.out]; rfl, HN.out.bel⟩
   ·have E : Hid (b = false) := by show _ = _; rw [<- HB.out]; unfold cflU; rw [if_neg a1]; simp [a4]
    clear HB
    go_enter Tryz.func53, Tryz.ntmps53
    go_wp2
    go_ret
    exact ⟨by rw [E.out]; rfl, HN.out.bel⟩
  ·have E : Hid (b = false) := by show _ = _; rw [<- HB.out]; unfold cflU; rw [if_neg a1]; simp; omega
   have a3 : ¬ (1 : Int) <= (q.red.length : Int) := by omega
   clear HB
   go_enter Tryz.func53, Tryz.ntmps53
   go_wp2
   go_ret
   exact ⟨by rw [E.out]; rfl, HN.out.bel⟩
end Go.Proofs.YtjpknihkcndoiaaGreat
namespace Go.Proofs.YtjpknihkcndoiaaGreat
set_option linter.unusedVariables false
set_option maxRecDepth 100000
set_option maxHeartbeats 16000000
open Go.RowKit Go.Maps
def cfE (g : GV) (q : CV) : Int := if rngU g q = false then 4 else if risesU q.red = false then 7 else if cflU g q = false then 1 else 0
set_option linter.unusedSimpArgs false in
theorem checkConflict_P (g : GV) (q : CV) (w : World) (htl : g.ts.length <= 140737488355328) (hpl : g.ps.length <= 140737488355328) (hl : q.red.length <= 140737488355328) (hr : InRow w q.ra q.red) :
  Calls Tryz.prog 20 #[g.val, q.val] w fun e w' => e = .returned (.int .i64 (cfE g q)) /\ Below w.heap.size w w' := by
 have N0 : Hid (GC g q w ((w.alloc (gBox g)).alloc (.cells #[.int .i64 q.st, .int .i64 q.look, .int .i64 q.shift, .slice q.ra q.red.length q.rc] 44))) := GC.new g q w
 obtain ⟨y0, y1, y2, y3⟩ := cb_cells N0.out.cb
 obtain ⟨x0, x1, x2, x3, x4⟩ := gb_cells N0.out.gb
 obtain ⟨b1_, hb1⟩ : ∃ b, rngU g q = b := ⟨_, rfl⟩
 obtain ⟨b2_, hb2⟩ : ∃ b, risesU q.red = b := ⟨_, rfl⟩
 obtain ⟨b3_, hb3⟩ : ∃ b, cflU g q = b := ⟨_, rfl⟩
 have HQ1 : Hid (∀ w', Below w.heap.size w w' -> Calls Tryz.prog 51 #[g.val, q.val] w' fun e w'' => e = .returned (.bool b1_) /\ Below w'.heap.size w' w'') := fun w' hb => inRange_P g q w' b1_ hb1 htl hpl hl (hr.later hb)
 have HQ2 : Hid (∀ w', Below w.heap.size w w' -> Calls Tryz.prog 52 #[.slice q.ra q.red.length q.rc] w' fun e w'' => e = .returned (.bool b2_) /\ Below w'.heap.size w' w'') := fun w' hb => risesC_b q.ra q.rc q.red w' b2_ hb2 hl (hr.later hb)
 have HQ3 : Hid (∀ w', Calls Tryz.prog 53 #[g.val, q.val] w' fun e w'' => e = .returned (.bool b3_) /\ Below w'.heap.size w' w'') := fun w' => isConflict_P g q w' b3_ hb3 htl hl
 have HQ4 : Hid (cfE g q = if b1_ = false then 4 else if b2_ = false then 7 else if b3_ = false then 1 else 0) := by show _ = _; unfold cfE; rw [hb1, hb2, hb3]
 clear hb1 hb2 hb3 hr
 cases b1_ with
 | false =>
  have E : Hid (cfE g q = 4) := by show _ = _; rw [HQ4.out]; rfl
  go_enter Tryz.func20, Tryz.ntmps20
  go_wp2_with (go_at_call 51; refine (HQ1.out _ N0.out.bel).mono ?_; rintro e w1 ⟨rfl, b1⟩; have N1 : Hid (GC g q w w1) := N0.out.later b1; clear b1 x0 x1 x2 x3 x4 y0 y1 y2 y3; obtain ⟨x0, x1, x2, x3, x4⟩ := gb_cells N1.out.gb; obtain ⟨y0, y1, y2, y3⟩ := cb_cells N1.out.cb)
  go_ret
  exact ⟨by rw [E.out]; rfl, N1.out.bel⟩
 | true =>
  cases b2_ with
  | false =>
   have E : Hid (cfE g q = 7) := by show _ = _; rw [HQ4.out]; rfl
   go_enter Tryz.func20, Tryz.ntmps20
   go_wp2_with (first
    | (go_at_call 51; refine (HQ1.out _ N0.out.bel).mono ?_; rintro e w1 ⟨rfl, b1⟩; have N1 : Hid (GC g q w w1) := N0.out.later b1; clear b1 x0 x1 x2 x3 x4 y0 y1 y2 y3; obtain ⟨x0, x1, x2, x3, x4⟩ := gb_cells N1.out.gb; obtain ⟨y0, y1, y2, y3⟩ := cb_cells N1.out.cb)
    | (go_at_call 52; refine (HQ2.out _ N1.out.bel).mono ?_; rintro e w2 ⟨rfl, b2⟩; have N2 : Hid (GC g q w w2) := N1.out.later b2; clear b2 x0 x1 x2 x3 x4 y0 y1 y2 y3; obtain ⟨x0, x1, x2, x3, x4⟩ := gb_cells N2.out.gb; obtain ⟨y0, y1, y2, y3⟩ := cb_cells N2.out.cb))
   go_ret
   exact ⟨by rw [E.out]; rfl, N2.out.bel⟩
  | true =>
   cases b3_ with
   | false =>
    have E : Hid (cfE g q = 1) := by show _ = _; rw [HQ4.out]; rfl
    go_enter Tryz.func20, Tryz.ntmps20
    go_wp2_with (first
     | (go_at_call 51; refine (HQ1.out _ N0.out.bel).mono ?_; rintro e w1 ⟨rfl, b1⟩; have N1 : Hid (GC g q w w1) := N0.out.later b1; clear b1 x0 x1 x2 x3 x4 y0 y1 y2 y3; obtain ⟨x0, x1, x2, x3, x4⟩ := gb_cells N1.out.gb; obtain ⟨y0, y1, y2, y3⟩ := cb_cells N1.out.cb)
     | (go_at_call 52; refine (HQ2.out _ N1.out.bel).mono ?_; rintro e w2 ⟨rfl, b2⟩; have N2 : Hid (GC g q w w2) := N1.out.later b2; clear b2 x0 x1 x2 x3 x4 y0 y1 y2 y3; obtain ⟨x0, x1, x2, x3, x4⟩ := gb_cells N2.out.gb; obtain ⟨y0, y1, y2, y3⟩ := cb_cells N2.out.cb)
     | (go_at_call 53; refine (HQ3.out _).mono ?_; rintro e w3 ⟨rfl, b3⟩; have N3 : Hid (GC g q w w3) := N2.out.later b3; clear b3 x0 x1 x2 x3 x4 y0 y1 y2 y3; obtain ⟨x0, x1, x2, x3, x4⟩ := gb_cells N3.out.gb; obtain ⟨y0, y1, y2, y3⟩ := cb_cells N3.out.cb))
    go_ret
    exact ⟨by rw [E.out]; rfl, N3.out.bel⟩
   | true =>
    have E : Hid (cfE g q = 0) := by show _ = _; rw [HQ4.out]; rfl
    go_enter Tryz.func20, Tryz.ntmps20
    go_wp2_with (first
     | (go_at_call 51; refine (HQ1.out _ N0.out.bel).mono ?_; rintro e w1 ⟨rfl, b1⟩; have N1 : Hid (GC g q w w1) := N0.out.later b1; clear b1 x0 x1 x2 x3 x4 y0 y1 y2 y3; obtain ⟨x0, x1, x2, x3, x4⟩ := gb_cells N1.out.gb; obtain ⟨y0, y1, y2, y3⟩ := cb_cells N1.out.cb)
     | (go_at_call 52; refine (HQ2.out _ N1.out.bel).mono ?_; rintro e w2 ⟨rfl, b2⟩; have N2 : Hid (GC g q w w2) := N1.out.later b2; clear b2 x0 x1 x2 x3 x4 y0 y1 y2 y3; obtain ⟨x0, x1, x2, x3, x4⟩ := gb_cells N2.out.gb; obtain ⟨y0, y1, y2, y3⟩ := cb_cells N2.out.cb)
     | (go_at_call 53; refine (HQ3.out _).mono ?_; rintro e w3 ⟨rfl, b3⟩; have N3 : Hid (GC g q w w3) := N2.out.later b3; clear b3 x0 x1 x2 x3 x4 y0 y1 y2 y3; obtain ⟨x0, x1, x2, x3, x4⟩ := gb_cells N3.out.gb; obtain ⟨y0, y1, y2, y3⟩ := cb_cells N3.out.cb))
    go_ret
    exact ⟨by rw [E.out]; rfl, N3.out.bel⟩
set_option linter.unusedSimpArgs false in
theorem cloneI_P (b0 off c : Nat) (l : List Int) (w : World) (hn : l.length <= 1048576) (hr : ∀ j u, (l.map (Value.int .i64 ·))[j]? = some u -> w.cell? ⟨b0, off + j, none⟩ = some u /\ b0 < w.heap.size) :
  Calls Tryz.prog 83 #[.slice (some ⟨b0, off, none⟩) l.length c] w fun e w' => ∃ b cap cur, e = .returned (.slice (some ⟨b, 0, none⟩) l.length cap) /\ w'.heap[b]? = some (.cells cur 3 (0, 0)) /\ cur.size = cap /\ cap <= maxLen /\ l.length <= cap /\ cur.toList.take l.length = l.map (Value.int .i64 ·) /\ w.heap.size <= b /\ Below w.heap.size w w' := by
 have hne := fun wx a n c => Lib.run_eql_slice_nil (P := Tryz.prog) (w := wx) 42 3 a n c 0 0 Tryz.underlying42
 have hcc : Hid (∀ j u, (l.map (Value.int .i64 ·))[j]? = some u -> (w.alloc (.cells #[] 3)).cell? ((⟨b0, off, none⟩ : Addr).add j) = some u) := fun j u hu => by
  obtain ⟨h1, h2⟩ := hr j u hu
  rw [add_none]
  exact ((below_alloc w _).cell (p := ⟨b0, off + j, none⟩) h2).trans h1
 have HH : Hid (∀ u ∈ l.map (Value.int .i64 ·), u.oneCell' = true) := fun u hu => by
  obtain ⟨x, _, rfl⟩ := List.mem_map.1 hu
  rfl
 obtain ⟨i0, hi, hz0, hz1, hz2⟩ := infoInt_parts
 clear hr
 go_enter Tryz.func83, Tryz.ntmps83
 go_wp2_with (at_builtin; refine wpList_append_own_at _ rfl _ _ 42 rfl w.heap.size 3 i0 _ 1 8 Tryz.underlying42 hi hz0 hz1 hz2 rfl (by decide) _ 0 [] rfl (World.ownsRow_made w #[] 0 (Nat.le_refl _) (Nat.zero_le _) rfl) ⟨b0, off, none⟩ l.length c (l.map (Value.int .i64 ·)) rfl (by simp) hcc.out HH.out (by unfold maxLen; omega) (by omega) (by simp) ?_)
 intro v' w1 hown hgrow hnil _
 go_wp2
 go_ret
 rcases hown.2 with ⟨e, _⟩ | ⟨g, cap, cur, e, h1, h2, h3, h4, h5, h6⟩
 ·exact absurd e hnil
 ·refine ⟨g, cap, cur, by simpa using e, h2, by simpa using h5, h4, by simpa using h3, by simpa using h6, h1, (below_alloc w _).grown hgrow (by simp) (fun k e => by simp [Value.ownBlock] at e; omega)⟩
set_option linter.unusedSimpArgs false in
theorem del_c (db : Nat) (p v : Int) (w : World) (b : Bool) (hb : decide (v = p) = b) (h : w.cell? ⟨db, 2, none⟩ = some (.int .i64 p)) :
  Calls Tryz.prog 84 #[.int .i64 v, .pointer (some ⟨db, 0, none⟩)] w fun e w' => e = .returned (.bool b) /\ w' = w := by
 cases b with
 | true =>
  have t1 : (v == p) = true := by simpa using hb
  go_enter Tryz.func84, Tryz.ntmps84
  go_wp2
  go_ret
  exact ⟨rfl, rfl⟩
 | false =>
  have t1 : (v == p) = false := by simpa using hb
  go_enter Tryz.func84, Tryz.ntmps84
  go_wp2
  go_ret
  exact ⟨rfl, rfl⟩
set_option linter.unusedSimpArgs false in
theorem idx_del (db : Nat) (p : Int) (b cap : Nat) (l : List Int) (w : World) (hl : l.length <= 1048576) (hr : ∀ i, i < l.length -> w.cell? ⟨b, i, none⟩ = some (.int .i64 (l.getD i 0))) (h : w.cell? ⟨db, 2, none⟩ = some (.int .i64 p)) :
  Calls Tryz.prog 104 #[.slice (some ⟨b, 0, none⟩) l.length cap, .func (.func 84) #[] #[.pointer (some ⟨db, 0, none⟩)]] w fun e w' => ∃ v : Int, e = .returned (.int .i64 v) /\ w' = w /\ ((v = -1 /\ ∀ j, j < l.length -> l.getD j 0 ≠ p) ∨ ∃ k : Nat, v = k /\ k < l.length /\ l.getD k 0 = p /\ ∀ j, j < k -> l.getD j 0 ≠ p) := by
 have HR : Hid (∀ i, i < l.length -> w.cell? ⟨b, i, none⟩ = some (.int .i64 (l.getD i 0))) := hr
 have HD : Hid (∀ v b, decide (v = p) = b -> Calls Tryz.prog 84 #[.int .i64 v, .pointer (some ⟨db, 0, none⟩)] w fun e w' => e = .returned (.bool b) /\ w' = w) := fun v b hb => del_c db p v w b hb h
 clear hr h
 go_enter Tryz.func104, Tryz.ntmps104
 go_wp2
 go_loopw [8] (fun z wr => ∃ k : Nat, k <= l.length /\ z = .int .i64 k /\ wr = w /\ Hid (∀ j, j < k -> l.getD j 0 ≠ p)) (fun z _ => l.length - (intOf z).toNat)
 case atStart => exact ⟨0, Nat.zero_le _, rfl, rfl, fun j hj => by omega⟩
 case round =>
  obtain ⟨k, hk, rfl, hww, HA⟩ := hrel
  subst hww
  by_cases hlt : k < l.length
  ·have r0 := HR.out k hlt
   have klt : (k : Int) < (l.length : Int) := by omega
   by_cases hin : l.getD k 0 = p
   ·have HX : Hid (l.getD k 0 = p) := hin
    have HD2 : Hid (Calls Tryz.prog 84 #[.int .i64 (l.getD k 0), .pointer (some ⟨db, 0, none⟩)] wr fun e w' => e = .returned (.bool true) /\ w' = wr) := HD.out _ _ (by simpa using hin)
    clear HD hin
    generalize hn : l.getD k 0 = n at r0 HD2
    go_wp2_with (go_at_call 84; refine HD2.out.mono ?_; rintro e w1 ⟨rfl, hw1⟩; rw [hw1]; clear hw1 w1)
    go_ret
    exact ⟨k, rfl, rfl, .inr ⟨k, rfl, hlt, HX.out, HA.out⟩⟩
   ·have HX : Hid (∀ j, j < k + 1 -> l.getD j 0 ≠ p) := fun j hj => by
     rcases Nat.lt_succ_iff_lt_or_eq.1 hj with r | rfl
     ·exact HA.out j r
     ·exact hin
    have HD2 : Hid (Calls Tryz.prog 84 #[.int .i64 (l.getD k 0), .pointer (some ⟨db, 0, none⟩)] wr fun e w' => e = .returned (.bool false) /\ w' = wr) := HD.out _ _ (by simpa using hin)
    clear HD hin
    generalize hn : l.getD k 0 = n at r0 HD2
    go_wp2_with (go_at_call 84; refine HD2.out.mono ?_; rintro e w1 ⟨rfl, hw1⟩; rw [hw1]; clear hw1 w1)
    go_roundw
    case rel => exact ⟨k + 1, by omega, by go_num, by first | rfl | trivial, HX.out⟩
    case measure => simp [intOf]; omega
  ·have klt : ¬ (k : Int) < (l.length : Int) := by omega
   have HX : Hid (∀ j, j < l.length -> l.getD j 0 ≠ p) := fun j hj => HA.out j (by omega)
   clear HA
   go_wp2
   go_ret
   exact ⟨-1, rfl, rfl, .inl ⟨rfl, HX.out⟩⟩
end Go.Proofs.YtjpknihkcndoiaaGreat
