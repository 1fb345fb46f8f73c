import Derived.Test.YtmkakdfdfdcncaaGreatDoorPGV3ToGV7
namespace Go.Proofs.YtmkakdfdfdcncaaGreatDoor
set_option linter.unusedVariables false
set_option maxRecDepth 100000
set_option maxHeartbeats 16000000
open Go.RowKit
theorem MG.setT {B : Nat} {w : World} {g : GV} {A H E pb lb tb nb : Nat} (h : MG B w g A H E pb lb tb nb) (hA : tb < A) (hn : tb ≠ nb) (i : Nat) (s : ByteArray) : MG B (w.setCell ⟨tb, i, none⟩ (.string s)) { g with ts := g.ts.set i s } A H E pb lb tb nb := by
 have ho := h.ord
 have hk : ∀ j, j ≠ tb -> (w.setCell ⟨tb, i, none⟩ (.string s)).heap[j]? = w.heap[j]? := fun j hj => Below.heap_setCell _ _ _ _ hj
 exact ⟨⟨ho.1, ho.2.1, ho.2.2.1, by simpa using ho.2.2.2⟩, ⟨h.t.1, by rw [List.map_set]; exact h.t.2.1.set _ _, h.t.2.2⟩, ⟨h.n_.1, h.n_.2.1.kept (hk _ (Ne.symm hn)), h.n_.2.2⟩, h.pa, h.p.kept (fun j hj _ => hk j (by omega)), h.pc, fun hl => ⟨(h.l hl).1, (h.l hl).2.kept (fun j hj _ => hk j (by omega))⟩⟩
theorem MG.setN {B : Nat} {w : World} {g : GV} {A H E pb lb tb nb : Nat} (h : MG B w g A H E pb lb tb nb) (hA : nb < A) (hn : tb ≠ nb) (i : Nat) (s : ByteArray) : MG B (w.setCell ⟨nb, i, none⟩ (.string s)) { g with ns := g.ns.set i s } A H E pb lb tb nb := by
 have ho := h.ord
 have hk : ∀ j, j ≠ nb -> (w.setCell ⟨nb, i, none⟩ (.string s)).heap[j]? = w.heap[j]? := fun j hj => Below.heap_setCell _ _ _ _ hj
 exact ⟨⟨ho.1, ho.2.1, ho.2.2.1, by simpa using ho.2.2.2⟩, ⟨h.t.1, h.t.2.1.kept (hk _ hn), h.t.2.2⟩, ⟨h.n_.1, by rw [List.map_set]; exact h.n_.2.1.set _ _, h.n_.2.2⟩, h.pa, h.p.kept (fun j hj _ => hk j (by omega)), h.pc, fun hl => ⟨(h.l hl).1, (h.l hl).2.kept (fun j hj _ => hk j (by omega))⟩⟩
theorem renU_perm0 {g : GV} {ts ns : List Int} (h : renU g ts ns = 0) : permU ts = 0 /\ permU ns = 0 := by
 have hn := renU_ok h
 rw [renU_perm hn.tl hn.nl] at h
 by_cases h1 : permU ts = 4 ∨ permU ns = 4
 ·rw [if_pos h1] at h; cases h
 rw [if_neg h1] at h
 by_cases h2 : permU ts ≠ 0 ∨ permU ns ≠ 0
 ·rw [if_pos h2] at h; cases h
 exact ⟨by omega, by omega⟩
structure RI (n0 : Nat) (w : World) (ga va : Array Value) (b5 B A H E pb lb tb nb : Nat) (gv : GV) (wr : World) : Prop where
 cb : CBx n0 w ga wr
 bx : wr.heap[b5]? = some (.cells va 26 (0, 0))
 mg : MG B wr gv A H E pb lb tb nb
 hA : n0 + 2 <= A
 hH : H <= b5
theorem RI.later {n0 : Nat} {w : World} {ga va : Array Value} {b5 B A H E pb lb tb nb : Nat} {gv : GV} {wr wr' : World} (h : RI n0 w ga va b5 B A H E pb lb tb nb gv wr) (hb : Below wr.heap.size wr wr') : RI n0 w ga va b5 B A H E pb lb tb nb gv wr' :=
 ⟨h.cb.later hb, (hb.block _ (lt_of_block h.bx)).trans h.bx, h.mg.later hb, h.hA, h.hH⟩
theorem RI.left {n0 : Nat} {w : World} {ga va : Array Value} {b5 B A H E pb lb tb nb : Nat} {ta na pa la : Option Addr} {tc nc pc lc : Nat} {ts ns : List ByteArray} {st : Int} {l : List PV} {y : PV} {ls : List LV} {i : Nat} {wr : World} (h : RI n0 w ga va b5 B A H E pb lb tb nb ⟨ta, tc, ts, na, nc, ns, st, pa, pc, l.set i y, la, lc, ls⟩ wr) (hi : i < l.length) (x : Int) :
  RI n0 w ga va b5 B A H E pb lb tb nb ⟨ta, tc, ts, na, nc, ns, st, pa, pc, l.set i { y with left := x }, la, lc, ls⟩ (wr.setCell ⟨pb, i * 3, none⟩ (.int .i64 x)) := by
 have hlo := h.mg.p.lo
 have hA := h.hA
 have hH := h.hH
 have h1 := h.mg.p.left (i := i) (by simpa using hi) x
 simp only [getD_set_eq hi, List.set_set] at h1
 exact ⟨h.cb.put _ _ _ (by omega), (Below.heap_setCell _ _ _ _ (show b5 ≠ pb by omega)).trans h.bx, h.mg.prods (by simp) (fun j _ hj => Below.heap_setCell _ _ _ _ (show j ≠ pb by omega)) (l.set i { y with left := x }) (by simp) (by simpa using h1), h.hA, h.hH⟩
theorem RI.prec {n0 : Nat} {w : World} {ga va : Array Value} {b5 B A H E pb lb tb nb : Nat} {ta na pa la : Option Addr} {tc nc pc lc : Nat} {ts ns : List ByteArray} {st : Int} {l : List PV} {y : PV} {ls : List LV} {i : Nat} {wr : World} (h : RI n0 w ga va b5 B A H E pb lb tb nb ⟨ta, tc, ts, na, nc, ns, st, pa, pc, l.set i y, la, lc, ls⟩ wr) (hi : i < l.length) (x : Int) :
  RI n0 w ga va b5 B A H E pb lb tb nb ⟨ta, tc, ts, na, nc, ns, st, pa, pc, l.set i { y with prec := x }, la, lc, ls⟩ (wr.setCell ⟨pb, i * 3 + 2, none⟩ (.int .i64 x)) := by
 have hlo := h.mg.p.lo
 have hA := h.hA
 have hH := h.hH
 have h1 := h.mg.p.prec (i := i) (by simpa using hi) x
 simp only [getD_set_eq hi, List.set_set] at h1
 exact ⟨h.cb.put _ _ _ (by omega), (Below.heap_setCell _ _ _ _ (show b5 ≠ pb by omega)).trans h.bx, h.mg.prods (by simp) (fun j _ hj => Below.heap_setCell _ _ _ _ (show j ≠ pb by omega)) (l.set i { y with prec := x }) (by simp) (by simpa using h1), h.hA, h.hH⟩
theorem RI.sym {n0 : Nat} {w : World} {ga va : Array Value} {b5 B A H E pb lb tb nb : Nat} {ta na pa la : Option Addr} {tc nc pc lc : Nat} {ts ns : List ByteArray} {st : Int} {l : List PV} {y : PV} {ls : List LV} {i : Nat} {wr : World} (h : RI n0 w ga va b5 B A H E pb lb tb nb ⟨ta, tc, ts, na, nc, ns, st, pa, pc, l.set i y, la, lc, ls⟩ wr) (hi : i < l.length) {j : Nat} (hj : j < y.right.length) (k x : Int) (hk : (y.right.getD j (0, 0)).1 = k) :
  RI n0 w ga va b5 B A H E pb lb tb nb ⟨ta, tc, ts, na, nc, ns, st, pa, pc, l.set i { y with right := y.right.set j (k, x) }, la, lc, ls⟩ (wr.setCell ⟨ablk y.ra, j * 2 + 1, none⟩ (.int .i64 x)) := by
 have hlo := h.mg.p.lo
 have hA := h.hA
 have hH := h.hH
 have hr : y.right ≠ [] := by intro e; rw [e] at hj; simp at hj
 have he := h.mg.p.each i (by simpa using hi) (by simpa only [getD_set_eq hi] using hr)
 simp only [getD_set_eq hi] at he
 obtain ⟨r1, r2, r3, r4⟩ := he
 have h1 := h.mg.p.turn (by simp) (i := i) (w' := wr.setCell ⟨ablk y.ra, j * 2 + 1, none⟩ (.int .i64 x)) (by simpa using hi) (by simpa only [getD_set_eq hi] using hr) (y.right.set j (k, x)) (by simp only [getD_set_eq hi]; simp) (fun t _ _ ht => by simp only [getD_set_eq hi] at ht; exact Below.heap_setCell _ _ _ _ ht) (by
  simp only [getD_set_eq hi]
  rw [symCells_setq hj, set_same (k := j * 2) (by rw [(symCells_get y.right j hj).1, hk])]
  exact r4.set _ _)
 simp only [getD_set_eq hi, List.set_set] at h1
 exact ⟨h.cb.put _ _ _ (by omega), (Below.heap_setCell _ _ _ _ (show b5 ≠ ablk y.ra by omega)).trans h.bx, h.mg.prods (by simp) (fun t _ ht => Below.heap_setCell _ _ _ _ (show t ≠ ablk y.ra by omega)) (l.set i { y with right := y.right.set j (k, x) }) (by simp) (by simpa using h1), h.hA, h.hH⟩
theorem RI.cells {n0 : Nat} {w : World} {ga va : Array Value} {b5 B A H E pb lb tb nb : Nat} {ta na pa la : Option Addr} {tc nc pc lc : Nat} {ts ns : List ByteArray} {st : Int} {l : List PV} {y : PV} {ls : List LV} {i : Nat} {wr : World} (h : RI n0 w ga va b5 B A H E pb lb tb nb ⟨ta, tc, ts, na, nc, ns, st, pa, pc, l.set i y, la, lc, ls⟩ wr) (hi : i < l.length) :
  wr.cell? ⟨pb, i * 3, none⟩ = some (.int .i64 y.left) /\ wr.cell? ⟨pb, i * 3 + 1, none⟩ = some (.slice y.ra y.right.length y.rc) /\ wr.cell? ⟨pb, i * 3 + 2, none⟩ = some (.int .i64 y.prec) /\ (y.right ≠ [] -> y.ra = some ⟨ablk y.ra, 0, none⟩ /\ (A <= ablk y.ra /\ ablk y.ra < H) /\ ablk y.ra ≠ pb /\ RB wr (ablk y.ra) 76 (symCells y.right)) := by
 obtain ⟨p0, p1, p2⟩ := proCells_get (l.set i y) i (by simpa using hi)
 have c0 := h.mg.p.row.cell p0
 have c1 := h.mg.p.row.cell p1
 have c2 := h.mg.p.row.cell p2
 rw [getD_set_eq hi] at c0 c1 c2
 refine ⟨c0, c1, c2, fun hr => ?_⟩
 have he := h.mg.p.each i (by simpa using hi) (by simpa only [getD_set_eq hi] using hr)
 simpa only [getD_set_eq hi] using he
theorem LMt.new {B H : Nat} {w : World} {pb : Nat} {l : List LV} (h : LMt B H w pb l.length l) {k : Nat} (hk : k < l.length) (b c : Nat) (t : List Int) (H' : Nat) (hH : H <= H') (hb : H <= b /\ b < H') (hr : RB w b 3 (t.map (.int .i64 ·))) :
  LMt B H' (w.setCell ⟨pb, k * 2 + 1, none⟩ (.slice (some ⟨b, 0, none⟩) t.length c)) pb l.length (l.set k { l.getD k .none with ta := some ⟨b, 0, none⟩, tc := c, terms := t }) := by
 have hg := levCells_get l k hk
 have hcs : levCells (l.set k { l.getD k .none with ta := some ⟨b, 0, none⟩, tc := c, terms := t }) = (levCells l).set (k * 2 + 1) (.slice (some ⟨b, 0, none⟩) t.length c) := by
  rw [levCells_set hk, set_same hg.1]
 have hlo := h.lo
 refine ⟨hcs ▸ h.row.set _ _, ⟨h.lo.1, Nat.lt_of_lt_of_le h.lo.2 hH⟩, fun i hi hr' => ?_, fun i j hi hj hij hri hrj => ?_⟩
 ·by_cases e : i = k
  ·subst e
   rw [getD_set_eq hk] at hr' ⊢
   have hne : b ≠ pb := by omega
   exact ⟨rfl, ⟨by show B <= b; omega, hb.2⟩, hne, hr.other hne _ _⟩
  ·rw [getD_set_ne e] at hr' ⊢
   obtain ⟨h1, h2, h3, h4⟩ := h.each i hi hr'
   exact ⟨h1, ⟨h2.1, Nat.lt_of_lt_of_le h2.2 hH⟩, h3, h4.other h3 _ _⟩
 ·by_cases ei : i = k
  ·subst ei
   rw [getD_set_eq hk] at hri ⊢
   rw [getD_set_ne (Ne.symm hij)] at hrj ⊢
   have := (h.each j hj hrj).2.1.2
   show b ≠ _
   omega
  ·rw [getD_set_ne ei] at hri ⊢
   by_cases ej : j = k
   ·subst ej
    rw [getD_set_eq hk] at hrj ⊢
    have := (h.each i hi hri).2.1.2
    show _ ≠ b
    omega
   ·rw [getD_set_ne ej] at hrj ⊢
    exact h.two i j hi hj hij hri hrj
theorem RI.level {n0 : Nat} {w : World} {ga va : Array Value} {b5 B A H E pb lb tb nb : Nat} {ta na pa la : Option Addr} {tc nc pc lc : Nat} {ts ns : List ByteArray} {st : Int} {l : List PV} {ls : List LV} {wr : World} (h : RI n0 w ga va b5 B A H E pb lb tb nb ⟨ta, tc, ts, na, nc, ns, st, pa, pc, l, la, lc, ls⟩ wr) {k : Nat} (hk : k < ls.length) (hd : tb < A /\ nb < A) (hlb : lb ≠ b5) (b c : Nat) (t : List Int) (hb : E <= b) (hr : RB wr b 3 (t.map (.int .i64 ·))) :
  RI n0 w ga va b5 B A H wr.heap.size pb lb tb nb ⟨ta, tc, ts, na, nc, ns, st, pa, pc, l, la, lc, ls.set k { ls.getD k .none with ta := some ⟨b, 0, none⟩, tc := c, terms := t }⟩ (wr.setCell ⟨lb, k * 2 + 1, none⟩ (.slice (some ⟨b, 0, none⟩) t.length c)) := by
 have hA := h.hA
 have hH := h.hH
 have ho := h.mg.ord
 have hne : ls ≠ [] := by intro e; rw [e] at hk; simp at hk
 obtain ⟨hl1, hl2⟩ := h.mg.l hne
 have hlo := hl2.lo
 have hk' : ∀ j, j ≠ lb -> (wr.setCell ⟨lb, k * 2 + 1, none⟩ (.slice (some ⟨b, 0, none⟩) t.length c)).heap[j]? = wr.heap[j]? := fun j hj => Below.heap_setCell _ _ _ _ hj
 have h1 := hl2.new hk b c t wr.heap.size ho.2.2.2 ⟨hb, hr.lt⟩ hr
 exact ⟨h.cb.put _ _ _ (by omega), (hk' _ (Ne.symm hlb)).trans h.bx, ⟨⟨ho.1, ho.2.1, by omega, by simp⟩, ⟨h.mg.t.1, h.mg.t.2.1.kept (hk' _ (by omega)), .inl hd.1, h.mg.t.2.2.2⟩, ⟨h.mg.n_.1, h.mg.n_.2.1.kept (hk' _ (by omega)), .inl hd.2, h.mg.n_.2.2.2⟩, h.mg.pa, h.mg.p.kept (fun j _ hj => hk' j (by omega)), h.mg.pc, fun _ => ⟨hl1, by simpa using h1⟩⟩, h.hA, h.hH⟩
theorem run_rise {o : Oper} {a : Act} {t0 : TypeId} {v0 : Value} {x0 : Operand} (hop : o.op = Op.call { callee := Callee.value (Operand.func 50), args := #[x0], argTypes := #[t0] }) (h0 : a.eval x0 = v0) (w : World) : (execOp a.eval o).run Tryz.prog w = .ok (.enter 50 #[v0]) w := by
 have hf : a.eval (Operand.func 50) = .func (.func 50) #[] #[] := rfl
 simp [execOp, hop, resolve, invoke, h0, hf, Deferred.ofValue]
theorem il_rb {w : World} {v : Value} {l : List Int} (h : IL w v l) (hne : l ≠ []) : ∃ b c, v = .slice (some ⟨b, 0, none⟩) l.length c /\ RB w b 3 (l.map (.int .i64 ·)) := by
 rcases h.2 with ⟨e, h0⟩ | ⟨g, cap, cur, e, _⟩
 ·exact absurd (List.eq_nil_of_length_eq_zero h0) hne
 ·subst e
  exact ⟨g, cap, rfl, (RB.of_own h).1⟩
set_option linter.unusedSimpArgs false in
theorem refrenumber_ok (g : GV) (a1 a2 : Option Addr) (c1 c2 : Nat) (ts ns : List Int) (w : World) (h : GAt 140737488355328 w g) (at_ : Int) (hE : checkG g (checkF g.ts g.ns) = (0, at_)) (h1 : InRow w a1 ts) (h2 : InRow w a2 ns) (hu : renU g ts ns = 0) :
  Calls Tryz.prog 14 #[g.val, .slice a1 ts.length c1, .slice a2 ns.length c2] w fun e w' => ∃ g' A H E pb lb tb nb, e = .returned (.tuple #[g'.val, .int .i64 0]) /\ SameG (g.ren ts ns) g' /\ MG w.heap.size w' g' A H E pb lb tb nb /\ Below w.heap.size w w' := by
 have C0 : Hid (CBx w.heap.size w (gA g) ((w.alloc (.cells (gA g) 26)).alloc (.cells #[.slice none 0 0, .slice none 0 0, .int .i64 0, .slice none 0 0, .slice none 0 0] 26))) := cb_start g w
 have HGA : Hid (∀ w', Below w.heap.size w w' -> GAt 140737488355328 w' g /\ InRow w' a1 ts /\ InRow w' a2 ns) := fun w' hb => ⟨h.later hb, h1.later hb, h2.later hb⟩
 have he : ((0 : Int) != 0) = false := by simp
 have ok : OkC g := OkC.of (by rw [hE])
 have HO : Hid (OkC g) := ok
 have HN : Hid (g.ts ≠ [] /\ g.ns ≠ [] /\ g.ps ≠ []) := ⟨fun e => by have := ok.tl; rw [e] at this; simp at this, fun e => by have := ok.nl; rw [e] at this; simp at this, fun e => by have := ok.pl; rw [e] at this; simp at this⟩
 have HC : Hid (∀ z, GAt 140737488355328 z g -> Calls Tryz.prog 27 #[g.val] z fun e w' => e = .returned (.int .i64 0) /\ Below z.heap.size z w') := fun z hz => by have := refmay_G g z hz; rw [hE] at this; exact this
 have HNO : Hid (NumOk g ts ns) := renU_ok hu
 have HLN : Hid (ts.length = g.ts.length /\ ns.length = g.ns.length) := ⟨HNO.out.tl, HNO.out.nl⟩
 have q1 := HNO.out.tl
 have q2 := HNO.out.nl
 have e1 : ((ts.length : Int) != g.ts.length) = false := by simp; omega
 have e2 : ((ns.length : Int) != g.ns.length) = false := by simp; omega
 have hts : ts.length <= 1048576 := by have := ok.tl; omega
 have hns : ns.length <= 1048576 := by have := ok.nl; omega
 have LL : Hid (ts.length <= 1048576 /\ ns.length <= 1048576) := ⟨hts, hns⟩
 have HP1 : Hid (permU ts = 0) := (renU_perm0 hu).1
 have HP2 : Hid (permU ns = 0) := (renU_perm0 hu).2
 clear h h1 h2 hE hu ok q1 q2
 go_enter Tryz.func14, Tryz.ntmps14
 go_wp2_with (first
  | (go_at_call 43; refine (copy_G g _ ((HGA.out _ C3.out.bel).1.ok HO.out) HN.out.1 HN.out.2.1 HN.out.2.2).mono ?_; rintro e w4 ⟨⟨ta, tc, ts', na, nc, ns', st, pa, pc, ps, la, lc, ls⟩, A, H, E, pb, lb, tb, nb, rfl, sg, mg, hd, b4⟩; obtain rfl : ts' = g.ts := sg.ts; obtain rfl : ns' = g.ns := sg.ns; obtain rfl : st = g.start := sg.start; obtain rfl : pa = some ⟨pb, 0, none⟩ := mg.pa; obtain rfl : ta = some ⟨tb, 0, none⟩ := mg.t.1; obtain rfl : na = some ⟨nb, 0, none⟩ := mg.n_.1; have C4 : Hid (CBx w.heap.size w (gA g) w4) := C3.out.later b4; have M4 : Hid (MG w3.heap.size w4 ⟨some ⟨tb, 0, none⟩, tc, g.ts, some ⟨nb, 0, none⟩, nc, g.ns, g.start, some ⟨pb, 0, none⟩, pc, ps, la, lc, ls⟩ A H E pb lb tb nb) := mg; have S4 : Hid (ps.map PV.core = g.ps.map PV.core /\ ls.map LV.core = g.ls.map LV.core) := ⟨sg.ps, sg.ls⟩; have HD : Hid (tb ≠ nb /\ tb < A /\ nb < A) := hd; clear sg mg b4 hd x0 x1 x2 x3 x4 r0 r1 r2 r3 r4 y0 y1 y2 y3 y4 hz)
  | (go_at_call 49; refine (perm_G a2 c2 ns _ 0 HP2.out LL.out.2 (HGA.out _ C2.out.bel).2.2).mono ?_; rintro e w3 ⟨rfl, b3⟩; have C3 : Hid (CBx w.heap.size w (gA g) w3) := C2.out.later b3; clear x0 x1 x2 x3 x4 r0 r1 r2 r3 r4 y0 y1 y2 y3 y4 hz; have x0 : w3.cell? ⟨w.heap.size, 0, none⟩ = some (.slice g.ta g.ts.length g.tc) := (cellq_any C3.out.box).trans rfl; have x1 : w3.cell? ⟨w.heap.size, 1, none⟩ = some (.slice g.na g.ns.length g.nc) := (cellq_any C3.out.box).trans rfl; have x2 : w3.cell? ⟨w.heap.size, 2, none⟩ = some (.int .i64 g.start) := (cellq_any C3.out.box).trans rfl; have x3 : w3.cell? ⟨w.heap.size, 3, none⟩ = some (.slice g.pa g.ps.length g.pc) := (cellq_any C3.out.box).trans rfl; have x4 : w3.cell? ⟨w.heap.size, 4, none⟩ = some (.slice g.la g.ls.length g.lc) := (cellq_any C3.out.box).trans rfl; have r0 : w3.cell? ⟨w.heap.size + 1, 0, none⟩ = some (.slice none 0 0) := (cellq_any C3.out.out).trans rfl; have r1 : w3.cell? ⟨w.heap.size + 1, 1, none⟩ = some (.slice none 0 0) := (cellq_any C3.out.out).trans rfl; have r2 : w3.cell? ⟨w.heap.size + 1, 2, none⟩ = some (.int .i64 0) := (cellq_any C3.out.out).trans rfl; have r3 : w3.cell? ⟨w.heap.size + 1, 3, none⟩ = some (.slice none 0 0) := (cellq_any C3.out.out).trans rfl; have r4 : w3.cell? ⟨w.heap.size + 1, 4, none⟩ = some (.slice none 0 0) := (cellq_any C3.out.out).trans rfl; have y0 : w3.frozen? ⟨w.heap.size + 1, 0, none⟩ = false := (by unfold World.frozen?; rw [C3.out.out]; rfl); have y1 : w3.frozen? ⟨w.heap.size + 1, 1, none⟩ = false := (by unfold World.frozen?; rw [C3.out.out]; rfl); have y2 : w3.frozen? ⟨w.heap.size + 1, 2, none⟩ = false := (by unfold World.frozen?; rw [C3.out.out]; rfl); have y3 : w3.frozen? ⟨w.heap.size + 1, 3, none⟩ = false := (by unfold World.frozen?; rw [C3.out.out]; rfl); have y4 : w3.frozen? ⟨w.heap.size + 1, 4, none⟩ = false := (by unfold World.frozen?; rw [C3.out.out]; rfl); have hz : w.heap.size + 1 < w3.heap.size := lt_of_block C3.out.out; clear b3)
  | (go_at_call 49; refine (perm_G a1 c1 ts _ 0 HP1.out LL.out.1 (HGA.out _ C1.out.bel).2.1).mono ?_; rintro e w2 ⟨rfl, b2⟩; have C2 : Hid (CBx w.heap.size w (gA g) w2) := C1.out.later b2; clear x0 x1 x2 x3 x4 r0 r1 r2 r3 r4 y0 y1 y2 y3 y4 hz; have x0 : w2.cell? ⟨w.heap.size, 0, none⟩ = some (.slice g.ta g.ts.length g.tc) := (cellq_any C2.out.box).trans rfl; have x1 : w2.cell? ⟨w.heap.size, 1, none⟩ = some (.slice g.na g.ns.length g.nc) := (cellq_any C2.out.box).trans rfl; have x2 : w2.cell? ⟨w.heap.size, 2, none⟩ = some (.int .i64 g.start) := (cellq_any C2.out.box).trans rfl; have x3 : w2.cell? ⟨w.heap.size, 3, none⟩ = some (.slice g.pa g.ps.length g.pc) := (cellq_any C2.out.box).trans rfl; have x4 : w2.cell? ⟨w.heap.size, 4, none⟩ = some (.slice g.la g.ls.length g.lc) := (cellq_any C2.out.box).trans rfl; have r0 : w2.cell? ⟨w.heap.size + 1, 0, none⟩ = some (.slice none 0 0) := (cellq_any C2.out.out).trans rfl; have r1 : w2.cell? ⟨w.heap.size + 1, 1, none⟩ = some (.slice none 0 0) := (cellq_any C2.out.out).trans rfl; have r2 : w2.cell? ⟨w.heap.size + 1, 2, none⟩ = some (.int .i64 0) := (cellq_any C2.out.out).trans rfl; have r3 : w2.cell? ⟨w.heap.size + 1, 3, none⟩ = some (.slice none 0 0) := (cellq_any C2.out.out).trans rfl; have r4 : w2.cell? ⟨w.heap.size + 1, 4, none⟩ = some (.slice none 0 0) := (cellq_any C2.out.out).trans rfl; have y0 : w2.frozen? ⟨w.heap.size + 1, 0, none⟩ = false := (by unfold World.frozen?; rw [C2.out.out]; rfl); have y1 : w2.frozen? ⟨w.heap.size + 1, 1, none⟩ = false := (by unfold World.frozen?; rw [C2.out.out]; rfl); have y2 : w2.frozen? ⟨w.heap.size + 1, 2, none⟩ = false := (by unfold World.frozen?; rw [C2.out.out]; rfl); have y3 : w2.frozen? ⟨w.heap.size + 1, 3, none⟩ = false := (by unfold World.frozen?; rw [C2.out.out]; rfl); have y4 : w2.frozen? ⟨w.heap.size + 1, 4, none⟩ = false := (by unfold World.frozen?; rw [C2.out.out]; rfl); have hz : w.heap.size + 1 < w2.heap.size := lt_of_block C2.out.out; clear b2)
  | (go_at_call 27; refine (HC.out _ (HGA.out _ C0.out.bel).1).mono ?_; rintro e w1 ⟨rfl, b1⟩; have C1 : Hid (CBx w.heap.size w (gA g) w1) := C0.out.later b1; have x0 : w1.cell? ⟨w.heap.size, 0, none⟩ = some (.slice g.ta g.ts.length g.tc) := (cellq_any C1.out.box).trans rfl; have x1 : w1.cell? ⟨w.heap.size, 1, none⟩ = some (.slice g.na g.ns.length g.nc) := (cellq_any C1.out.box).trans rfl; have x2 : w1.cell? ⟨w.heap.size, 2, none⟩ = some (.int .i64 g.start) := (cellq_any C1.out.box).trans rfl; have x3 : w1.cell? ⟨w.heap.size, 3, none⟩ = some (.slice g.pa g.ps.length g.pc) := (cellq_any C1.out.box).trans rfl; have x4 : w1.cell? ⟨w.heap.size, 4, none⟩ = some (.slice g.la g.ls.length g.lc) := (cellq_any C1.out.box).trans rfl; have r0 : w1.cell? ⟨w.heap.size + 1, 0, none⟩ = some (.slice none 0 0) := (cellq_any C1.out.out).trans rfl; have r1 : w1.cell? ⟨w.heap.size + 1, 1, none⟩ = some (.slice none 0 0) := (cellq_any C1.out.out).trans rfl; have r2 : w1.cell? ⟨w.heap.size + 1, 2, none⟩ = some (.int .i64 0) := (cellq_any C1.out.out).trans rfl; have r3 : w1.cell? ⟨w.heap.size + 1, 3, none⟩ = some (.slice none 0 0) := (cellq_any C1.out.out).trans rfl; have r4 : w1.cell? ⟨w.heap.size + 1, 4, none⟩ = some (.slice none 0 0) := (cellq_any C1.out.out).trans rfl; have y0 : w1.frozen? ⟨w.heap.size + 1, 0, none⟩ = false := (by unfold World.frozen?; rw [C1.out.out]; rfl); have y1 : w1.frozen? ⟨w.heap.size + 1, 1, none⟩ = false := (by unfold World.frozen?; rw [C1.out.out]; rfl); have y2 : w1.frozen? ⟨w.heap.size + 1, 2, none⟩ = false := (by unfold World.frozen?; rw [C1.out.out]; rfl); have y3 : w1.frozen? ⟨w.heap.size + 1, 3, none⟩ = false := (by unfold World.frozen?; rw [C1.out.out]; rfl); have y4 : w1.frozen? ⟨w.heap.size + 1, 4, none⟩ = false := (by unfold World.frozen?; rw [C1.out.out]; rfl); have hz : w.heap.size + 1 < w1.heap.size := lt_of_block C1.out.out; clear b1))
 obtain ⟨b5, hb5⟩ : ∃ b5, b5 = w4.heap.size := ⟨_, rfl⟩
 obtain ⟨B, hB⟩ : ∃ B, B = w3.heap.size := ⟨_, rfl⟩
 have HB : Hid (B = w3.heap.size /\ w.heap.size + 2 <= B /\ E <= b5) := ⟨hB, by rw [hB]; exact lt_of_block C3.out.out, by have := M4.out.ord.2.2.2; omega⟩
 have IN0 : Hid (CBx w.heap.size w (gA g) (w4.alloc (.cells #[.slice (some ⟨tb, 0, none⟩) g.ts.length tc, .slice (some ⟨nb, 0, none⟩) g.ns.length nc, .int .i64 (g.start), .slice (some ⟨pb, 0, none⟩) ps.length pc, .slice la ls.length lc] 26)) /\ (w4.alloc (.cells #[.slice (some ⟨tb, 0, none⟩) g.ts.length tc, .slice (some ⟨nb, 0, none⟩) g.ns.length nc, .int .i64 (g.start), .slice (some ⟨pb, 0, none⟩) ps.length pc, .slice la ls.length lc] 26)).heap[b5]? = some (.cells #[.slice (some ⟨tb, 0, none⟩) g.ts.length tc, .slice (some ⟨nb, 0, none⟩) g.ns.length nc, .int .i64 (g.start), .slice (some ⟨pb, 0, none⟩) ps.length pc, .slice la ls.length lc] 26 (0, 0)) /\ MG B (w4.alloc (.cells #[.slice (some ⟨tb, 0, none⟩) g.ts.length tc, .slice (some ⟨nb, 0, none⟩) g.ns.length nc, .int .i64 (g.start), .slice (some ⟨pb, 0, none⟩) ps.length pc, .slice la ls.length lc] 26)) ⟨some ⟨tb, 0, none⟩, tc, (moveU g.ts g.ts ts (0)), some ⟨nb, 0, none⟩, nc, g.ns, g.start, some ⟨pb, 0, none⟩, pc, ps, la, lc, ls⟩ A H E pb lb tb nb) := by
  refine ⟨C4.out.later (below_alloc _ _), by rw [hb5]; exact alloc_at _ _, ?_⟩
  rw [hB]
  exact M4.out.later (below_alloc _ _)
 rw [<- hb5]
 clear C0 C1 C2 C3 C4 M4 hb5 hB
 go_loopw [12] (fun z wr => ∃ (k : Nat), k <= ts.length /\ z = .int .i64 k /\ CBx w.heap.size w #[.slice g.ta g.ts.length g.tc, .slice g.na g.ns.length g.nc, .int .i64 g.start, .slice g.pa g.ps.length g.pc, .slice g.la g.ls.length g.lc] wr /\ wr.heap[b5]? = some (.cells #[.slice (some ⟨tb, 0, none⟩) g.ts.length tc, .slice (some ⟨nb, 0, none⟩) g.ns.length nc, .int .i64 (g.start), .slice (some ⟨pb, 0, none⟩) ps.length pc, .slice la ls.length lc] 26 (0, 0)) /\ MG B wr ⟨some ⟨tb, 0, none⟩, tc, (moveU g.ts g.ts ts (k)), some ⟨nb, 0, none⟩, nc, g.ns, g.start, some ⟨pb, 0, none⟩, pc, ps, la, lc, ls⟩ A H E pb lb tb nb) (fun z _ => ts.length - (intOf z).toNat)
 case atStart => exact ⟨0, Nat.zero_le _, rfl, IN0.out⟩
 case round =>
  clear IN0
  obtain ⟨k, hk, rfl, hI⟩ := hrel
  have HI : Hid (CBx w.heap.size w (gA g) wr /\ wr.heap[b5]? = some (.cells #[.slice (some ⟨tb, 0, none⟩) g.ts.length tc, .slice (some ⟨nb, 0, none⟩) g.ns.length nc, .int .i64 (g.start), .slice (some ⟨pb, 0, none⟩) ps.length pc, .slice la ls.length lc] 26 (0, 0)) /\ MG B wr ⟨some ⟨tb, 0, none⟩, tc, (moveU g.ts g.ts ts (k)), some ⟨nb, 0, none⟩, nc, g.ns, g.start, some ⟨pb, 0, none⟩, pc, ps, la, lc, ls⟩ A H E pb lb tb nb) := hI
  by_cases hlt : k < ts.length
  ·have hg := HGA.out wr hI.1.bel
   have hlen := HLN.out.1
   obtain ⟨lb1, lo1, el1, ll1, hl1⟩ := hg.2.1 (fun e => by rw [e] at hlt; simp at hlt)
   obtain ⟨sb, so, es1, ls1, hs1⟩ := hg.1.t HN.out.1
   have q1 := hl1 k hlt
   have q2 := hs1 k (by omega)
   have hmr := HNO.out.tp.lo k hlt
   obtain ⟨m, hm⟩ : ∃ m : Nat, ts.getD k 0 = (m : Int) := ⟨(ts.getD k 0).toNat, by omega⟩
   have HM : Hid (ts.getD k 0 = (m : Int)) := hm
   rw [hm] at q1 hmr
   obtain ⟨s, hs⟩ : ∃ s, g.ts.getD k ByteArray.empty = s := ⟨_, rfl⟩
   have HS : Hid (g.ts.getD k ByteArray.empty = s) := hs
   rw [hs] at q2
   have HBL : Hid (lb1 < w.heap.size /\ sb < w.heap.size) := by
    obtain ⟨b', o', e', l', _⟩ := (HGA.out w (Below.refl _ _)).2.1 (fun e => by rw [e] at hlt; simp at hlt)
    obtain ⟨b2', o2', e2', l2', _⟩ := (HGA.out w (Below.refl _ _)).1.t HN.out.1
    rw [el1] at e'
    rw [es1] at e2'
    simp only [Option.some.injEq, Addr.mk.injEq, and_true] at e' e2'
    exact ⟨by omega, by omega⟩
   have x0 : wr.cell? ⟨w.heap.size, 0, none⟩ = some (.slice g.ta g.ts.length g.tc) := (cellq_any hI.1.box).trans rfl
   rw [es1] at x0
   have o0 : wr.cell? ⟨b5, 0, none⟩ = some (.slice (some ⟨tb, 0, none⟩) g.ts.length tc) := (cellq_any hI.2.1).trans rfl
   have f0 : wr.frozen? ⟨tb, m, none⟩ = false := hI.2.2.t.2.1.free _
   have hz : tb < wr.heap.size := hI.2.2.t.2.1.lt
   have hmv : ((moveU g.ts g.ts ts k).map Value.string)[m]? = some (.string ((moveU g.ts g.ts ts k).getD m ByteArray.empty)) := by
    have : m < (moveU g.ts g.ts ts k).length := by rw [moveU_len]; omega
    simp [List.getD, this]
   have z0 := hI.2.2.t.2.1.cell (i := m) hmv
   have kl : (k : Int) < (g.ts.length : Int) := by omega
   have kl2 : (k : Int) < (ts.length : Int) := by omega
   have ml : (m : Int) < (g.ts.length : Int) := by omega
   have hs0 : Hid ((fun (w' : World) => w'.cell? ⟨b5, 0, none⟩ = some (.slice (some ⟨tb, 0, none⟩) g.ts.length tc) /\ w'.cell? ⟨w.heap.size, 0, none⟩ = some (.slice (some ⟨sb, so, none⟩) g.ts.length g.tc) /\ w'.cell? ⟨lb1, lo1 + k, none⟩ = some (.int .i64 (m : Int)) /\ w'.cell? ⟨sb, so + k, none⟩ = some (.string s)) wr) := ⟨o0, x0, q1, q2⟩
   have HXB : Hid (w.heap.size + 2 <= tb /\ tb < b5) := by have h1 := HB.out; have h2 := hI.2.2.t.2.2.2; have h3 := HD.out; have h4 := HI.out.2.2.ord; exact ⟨by omega, by omega⟩
   have ea : Hid (a1 = some ⟨lb1, lo1, none⟩) := el1
   clear hlen hI hg hl1 hs1 hm hs hmv ll1 ls1 el1 es1
   generalize ((moveU g.ts g.ts ts k).getD m ByteArray.empty) = s0 at *
   obtain rfl : a1 = some ⟨lb1, lo1, none⟩ := ea.out
   clear ea
   go_wp2
   refine wp_region_x (S := fun _ => (fun (w' : World) => w'.cell? ⟨b5, 0, none⟩ = some (.slice (some ⟨tb, 0, none⟩) g.ts.length tc) /\ w'.cell? ⟨w.heap.size, 0, none⟩ = some (.slice (some ⟨sb, so, none⟩) g.ts.length g.tc) /\ w'.cell? ⟨lb1, lo1 + k, none⟩ = some (.int .i64 (m : Int)) /\ w'.cell? ⟨sb, so + k, none⟩ = some (.string s))) (by kernel_rfl) ?_
   refine wtC (i := 0) (v := ?_) rfl (Or.inl ⟨by rfl, ?_⟩) hs0.out ?_
   rotate_left
   ·(intro w hSw; (try dsimp only at hSw); go_simp; try (with_reducible rfl))
   (try simp only [Act.put, lsA, lsZ, lsN])
   refine wtC (i := 1) (v := ?_) rfl (Or.inl ⟨by rfl, ?_⟩) hs0.out ?_
   rotate_left
   ·(intro w hSw; (try dsimp only at hSw); go_simp; try (with_reducible rfl))
   (try simp only [Act.put, lsA, lsZ, lsN])
   refine wtC (i := 2) (v := ?_) rfl (Or.inl ⟨by rfl, ?_⟩) hs0.out ?_
   rotate_left
   ·(intro w hSw; (try dsimp only at hSw); go_simp; try (with_reducible rfl))
   (try simp only [Act.put, lsA, lsZ, lsN])
   refine wtC (i := 3) (v := ?_) rfl (Or.inl ⟨by rfl, ?_⟩) hs0.out ?_
   rotate_left
   ·(intro w hSw; (try dsimp only at hSw); go_simp; try (with_reducible rfl))
   (try simp only [Act.put, lsA, lsZ, lsN])
   refine wtC (i := 4) (v := ?_) rfl (Or.inl ⟨by rfl, ?_⟩) hs0.out ?_
   rotate_left
   ·(intro w hSw; (try dsimp only at hSw); go_simp; try (with_reducible rfl))
   (try simp only [Act.put, lsA, lsZ, lsN])
   refine wtC (i := 5) (v := ?_) rfl (Or.inl ⟨by rfl, ?_⟩) hs0.out ?_
   rotate_left
   ·(intro w hSw; (try dsimp only at hSw); go_simp; try (with_reducible rfl))
   (try simp only [Act.put, lsA, lsZ, lsN])
   refine wtC (i := 6) (v := ?_) rfl (Or.inl ⟨by rfl, ?_⟩) hs0.out ?_
   rotate_left
   ·(intro w hSw; (try dsimp only at hSw); go_simp; try (with_reducible rfl))
   (try simp only [Act.put, lsA, lsZ, lsN])
   refine wtC (i := 7) (v := ?_) rfl (Or.inl ⟨by rfl, ?_⟩) hs0.out ?_
   rotate_left
   ·(intro w hSw; (try dsimp only at hSw); go_simp; try (with_reducible rfl))
   (try simp only [Act.put, lsA, lsZ, lsN])
   refine wtC (i := 8) (v := ?_) rfl (Or.inl ⟨by rfl, ?_⟩) hs0.out ?_
   rotate_left
   ·(intro w hSw; (try dsimp only at hSw); go_simp; try (with_reducible rfl))
   (try simp only [Act.put, lsA, lsZ, lsN])
   refine wtC (i := 9) (v := ?_) rfl (Or.inl ⟨by rfl, ?_⟩) hs0.out ?_
   rotate_left
   ·(intro w hSw; (try dsimp only at hSw); go_simp; try (with_reducible rfl))
   (try simp only [Act.put, lsA, lsZ, lsN])
   refine wtC (i := 10) (v := ?_) rfl (Or.inl ⟨by rfl, ?_⟩) hs0.out ?_
   rotate_left
   ·(intro w hSw; (try dsimp only at hSw); go_simp; try (with_reducible rfl))
   (try simp only [Act.put, lsA, lsZ, lsN])
   refine wtC (i := 11) (v := ?_) rfl (Or.inl ⟨by rfl, ?_⟩) hs0.out ?_
   rotate_left
   ·(intro w hSw; (try dsimp only at hSw); go_simp; try (with_reducible rfl))
   (try simp only [Act.put, lsA, lsZ, lsN])
   refine wpAnyX_one (j := 12) (by decide +kernel) rfl (fun K' hK => ?_)
   go_simp
   have KK : ∀ b i, b ≠ tb -> ((wr.setCell ⟨tb, m, none⟩ (.string s)).drew).cell? ⟨b, i, none⟩ = wr.cell? ⟨b, i, none⟩ := fun b i hb => World.cell?_of_block (a := ⟨b, i, none⟩) (Below.heap_setCell _ _ _ _ hb)
   have hx := HXB.out
   have hbl := HBL.out
   refine hK.out _ _ ⟨(KK _ _ (by omega)).trans hs0.out.1, (KK _ _ (by omega)).trans hs0.out.2.1, (KK _ _ (by omega)).trans hs0.out.2.2.1, (KK _ _ (by omega)).trans hs0.out.2.2.2⟩ ?_
   clear hK K' KK hx hbl
   refine wpAnyX_done (by decide +kernel) ?_
   clear hs0 o0 x0 q1 q2 f0 z0
   have IN : Hid (CBx w.heap.size w (gA g) (wr.setCell ⟨tb, m, none⟩ (.string s)).drew /\ (wr.setCell ⟨tb, m, none⟩ (.string s)).drew.heap[b5]? = some (.cells #[.slice (some ⟨tb, 0, none⟩) g.ts.length tc, .slice (some ⟨nb, 0, none⟩) g.ns.length nc, .int .i64 (g.start), .slice (some ⟨pb, 0, none⟩) ps.length pc, .slice la ls.length lc] 26 (0, 0)) /\ MG B (wr.setCell ⟨tb, m, none⟩ (.string s)).drew ⟨some ⟨tb, 0, none⟩, tc, (moveU g.ts g.ts ts (k + 1)), some ⟨nb, 0, none⟩, nc, g.ns, g.start, some ⟨pb, 0, none⟩, pc, ps, la, lc, ls⟩ A H E pb lb tb nb) := by
    obtain ⟨i1, i2, i3⟩ := HI.out
    have hx := HXB.out
    refine ⟨(i1.put _ _ _ hx.1).later (Below.refl _ _).drew, (Below.heap_setCell _ _ _ _ (show b5 ≠ tb by omega)).trans i2, ?_⟩
    have := (i3.setT HD.out.2.1 HD.out.1 m s).later (Below.refl _ _).drew
    have e : (moveU g.ts g.ts ts (k + 1)) = (moveU g.ts g.ts ts k).set m s := by rw [moveU, HM.out, HS.out]; rfl
    rw [e]
    exact this
   generalize (wr.setCell ⟨tb, m, none⟩ (.string s)).drew = wn at *
   go_wp2
   go_roundw
   case rel => exact ⟨k + 1, by omega, by go_num, IN.out⟩
   case measure => simp [intOf]; omega
  ·obtain rfl : k = ts.length := by omega
   have IN1 : Hid (CBx w.heap.size w (gA g) wr /\ wr.heap[b5]? = some (.cells #[.slice (some ⟨tb, 0, none⟩) g.ts.length tc, .slice (some ⟨nb, 0, none⟩) g.ns.length nc, .int .i64 (g.start), .slice (some ⟨pb, 0, none⟩) ps.length pc, .slice la ls.length lc] 26 (0, 0)) /\ MG B wr ⟨some ⟨tb, 0, none⟩, tc, (moveU g.ts g.ts ts (g.ts.length)), some ⟨nb, 0, none⟩, nc, (moveU g.ns g.ns ns (0)), g.start, some ⟨pb, 0, none⟩, pc, ps, la, lc, ls⟩ A H E pb lb tb nb) := by have h := HI.out; rw [HLN.out.1] at h; exact h
   clear hI HI
   go_wp2
   go_loopw [13] (fun z wr => ∃ (k : Nat), k <= ns.length /\ z = .int .i64 k /\ CBx w.heap.size w #[.slice g.ta g.ts.length g.tc, .slice g.na g.ns.length g.nc, .int .i64 g.start, .slice g.pa g.ps.length g.pc, .slice g.la g.ls.length g.lc] wr /\ wr.heap[b5]? = some (.cells #[.slice (some ⟨tb, 0, none⟩) g.ts.length tc, .slice (some ⟨nb, 0, none⟩) g.ns.length nc, .int .i64 (g.start), .slice (some ⟨pb, 0, none⟩) ps.length pc, .slice la ls.length lc] 26 (0, 0)) /\ MG B wr ⟨some ⟨tb, 0, none⟩, tc, (moveU g.ts g.ts ts (g.ts.length)), some ⟨nb, 0, none⟩, nc, (moveU g.ns g.ns ns (k)), g.start, some ⟨pb, 0, none⟩, pc, ps, la, lc, ls⟩ A H E pb lb tb nb) (fun z _ => ns.length - (intOf z).toNat)
   case atStart => exact ⟨0, Nat.zero_le _, rfl, IN1.out⟩
   case round =>
    clear IN1
    obtain ⟨k, hk, rfl, hI⟩ := hrel
    have HI : Hid (CBx w.heap.size w (gA g) wr /\ wr.heap[b5]? = some (.cells #[.slice (some ⟨tb, 0, none⟩) g.ts.length tc, .slice (some ⟨nb, 0, none⟩) g.ns.length nc, .int .i64 (g.start), .slice (some ⟨pb, 0, none⟩) ps.length pc, .slice la ls.length lc] 26 (0, 0)) /\ MG B wr ⟨some ⟨tb, 0, none⟩, tc, (moveU g.ts g.ts ts (g.ts.length)), some ⟨nb, 0, none⟩, nc, (moveU g.ns g.ns ns (k)), g.start, some ⟨pb, 0, none⟩, pc, ps, la, lc, ls⟩ A H E pb lb tb nb) := hI
    by_cases hlt : k < ns.length
    ·have hg := HGA.out wr hI.1.bel
     have hlen := HLN.out.2
     obtain ⟨lb1, lo1, el1, ll1, hl1⟩ := hg.2.2 (fun e => by rw [e] at hlt; simp at hlt)
     obtain ⟨sb, so, es1, ls1, hs1⟩ := hg.1.n_ HN.out.2.1
     have q1 := hl1 k hlt
     have q2 := hs1 k (by omega)
     have hmr := HNO.out.np.lo k hlt
     obtain ⟨m, hm⟩ : ∃ m : Nat, ns.getD k 0 = (m : Int) := ⟨(ns.getD k 0).toNat, by omega⟩
     have HM : Hid (ns.getD k 0 = (m : Int)) := hm
     rw [hm] at q1 hmr
     obtain ⟨s, hs⟩ : ∃ s, g.ns.getD k ByteArray.empty = s := ⟨_, rfl⟩
     have HS : Hid (g.ns.getD k ByteArray.empty = s) := hs
     rw [hs] at q2
     have HBL : Hid (lb1 < w.heap.size /\ sb < w.heap.size) := by
      obtain ⟨b', o', e', l', _⟩ := (HGA.out w (Below.refl _ _)).2.2 (fun e => by rw [e] at hlt; simp at hlt)
      obtain ⟨b2', o2', e2', l2', _⟩ := (HGA.out w (Below.refl _ _)).1.n_ HN.out.2.1
      rw [el1] at e'
      rw [es1] at e2'
      simp only [Option.some.injEq, Addr.mk.injEq, and_true] at e' e2'
      exact ⟨by omega, by omega⟩
     have x0 : wr.cell? ⟨w.heap.size, 1, none⟩ = some (.slice g.na g.ns.length g.nc) := (cellq_any hI.1.box).trans rfl
     rw [es1] at x0
     have o0 : wr.cell? ⟨b5, 1, none⟩ = some (.slice (some ⟨nb, 0, none⟩) g.ns.length nc) := (cellq_any hI.2.1).trans rfl
     have f0 : wr.frozen? ⟨nb, m, none⟩ = false := hI.2.2.n_.2.1.free _
     have hz : nb < wr.heap.size := hI.2.2.n_.2.1.lt
     have hmv : ((moveU g.ns g.ns ns k).map Value.string)[m]? = some (.string ((moveU g.ns g.ns ns k).getD m ByteArray.empty)) := by
      have : m < (moveU g.ns g.ns ns k).length := by rw [moveU_len]; omega
      simp [List.getD, this]
     have z0 := hI.2.2.n_.2.1.cell (i := m) hmv
     have kl : (k : Int) < (g.ns.length : Int) := by omega
     have kl2 : (k : Int) < (ns.length : Int) := by omega
     have ml : (m : Int) < (g.ns.length : Int) := by omega
     have hs0 : Hid ((fun (w' : World) => w'.cell? ⟨b5, 1, none⟩ = some (.slice (some ⟨nb, 0, none⟩) g.ns.length nc) /\ w'.cell? ⟨w.heap.size, 1, none⟩ = some (.slice (some ⟨sb, so, none⟩) g.ns.length g.nc) /\ w'.cell? ⟨lb1, lo1 + k, none⟩ = some (.int .i64 (m : Int)) /\ w'.cell? ⟨sb, so + k, none⟩ = some (.string s)) wr) := ⟨o0, x0, q1, q2⟩
     have HXB : Hid (w.heap.size + 2 <= nb /\ nb < b5) := by have h1 := HB.out; have h2 := hI.2.2.n_.2.2.2; have h3 := HD.out; have h4 := HI.out.2.2.ord; exact ⟨by omega, by omega⟩
     have ea : Hid (a2 = some ⟨lb1, lo1, none⟩) := el1
     clear hlen hI hg hl1 hs1 hm hs hmv ll1 ls1 el1 es1
     generalize ((moveU g.ns g.ns ns k).getD m ByteArray.empty) = s0 at *
     obtain rfl : a2 = some ⟨lb1, lo1, none⟩ := ea.out
     clear ea
     go_wp2
     refine wp_region_x (S := fun _ => (fun (w' : World) => w'.cell? ⟨b5, 1, none⟩ = some (.slice (some ⟨nb, 0, none⟩) g.ns.length nc) /\ w'.cell? ⟨w.heap.size, 1, none⟩ = some (.slice (some ⟨sb, so, none⟩) g.ns.length g.nc) /\ w'.cell? ⟨lb1, lo1 + k, none⟩ = some (.int .i64 (m : Int)) /\ w'.cell? ⟨sb, so + k, none⟩ = some (.string s))) (by kernel_rfl) ?_
     refine wtC (i := 0) (v := ?_) rfl (Or.inl ⟨by rfl, ?_⟩) hs0.out ?_
     rotate_left
     ·(intro w hSw; (try dsimp only at hSw); go_simp; try (with_reducible rfl))
     (try simp only [Act.put, lsA, lsZ, lsN])
     refine wtC (i := 1) (v := ?_) rfl (Or.inl ⟨by rfl, ?_⟩) hs0.out ?_
     rotate_left
     ·(intro w hSw; (try dsimp only at hSw); go_simp; try (with_reducible rfl))
     (try simp only [Act.put, lsA, lsZ, lsN])
     refine wtC (i := 2) (v := ?_) rfl (Or.inl ⟨by rfl, ?_⟩) hs0.out ?_
     rotate_left
     ·(intro w hSw; (try dsimp only at hSw); go_simp; try (with_reducible rfl))
     (try simp only [Act.put, lsA, lsZ, lsN])
     refine wtC (i := 3) (v := ?_) rfl (Or.inl ⟨by rfl, ?_⟩) hs0.out ?_
     rotate_left
     ·(intro w hSw; (try dsimp only at hSw); go_simp; try (with_reducible rfl))
     (try simp only [Act.put, lsA, lsZ, lsN])
     refine wtC (i := 4) (v := ?_) rfl (Or.inl ⟨by rfl, ?_⟩) hs0.out ?_
     rotate_left
     ·(intro w hSw; (try dsimp only at hSw); go_simp; try (with_reducible rfl))
     (try simp only [Act.put, lsA, lsZ, lsN])
     refine wtC (i := 5) (v := ?_) rfl (Or.inl ⟨by rfl, ?_⟩) hs0.out ?_
     rotate_left
     ·(intro w hSw; (try dsimp only at hSw); go_simp; try (with_reducible rfl))
     (try simp only [Act.put, lsA, lsZ, lsN])
     refine wtC (i := 6) (v := ?_) rfl (Or.inl ⟨by rfl, ?_⟩) hs0.out ?_
     rotate_left
     ·(intro w hSw; (try dsimp only at hSw); go_simp; try (with_reducible rfl))
     (try simp only [Act.put, lsA, lsZ, lsN])
     refine wtC (i := 7) (v := ?_) rfl (Or.inl ⟨by rfl, ?_⟩) hs0.out ?_
     rotate_left
     ·(intro w hSw; (try dsimp only at hSw); go_simp; try (with_reducible rfl))
     (try simp only [Act.put, lsA, lsZ, lsN])
     refine wtC (i := 8) (v := ?_) rfl (Or.inl ⟨by rfl, ?_⟩) hs0.out ?_
     rotate_left
     ·(intro w hSw; (try dsimp only at hSw); go_simp; try (with_reducible rfl))
     (try simp only [Act.put, lsA, lsZ, lsN])
     refine wtC (i := 9) (v := ?_) rfl (Or.inl ⟨by rfl, ?_⟩) hs0.out ?_
     rotate_left
     ·(intro w hSw; (try dsimp only at hSw); go_simp; try (with_reducible rfl))
     (try simp only [Act.put, lsA, lsZ, lsN])
     refine wtC (i := 10) (v := ?_) rfl (Or.inl ⟨by rfl, ?_⟩) hs0.out ?_
     rotate_left
     ·(intro w hSw; (try dsimp only at hSw); go_simp; try (with_reducible rfl))
     (try simp only [Act.put, lsA, lsZ, lsN])
     refine wtC (i := 11) (v := ?_) rfl (Or.inl ⟨by rfl, ?_⟩) hs0.out ?_
     rotate_left
     ·(intro w hSw; (try dsimp only at hSw); go_simp; try (with_reducible rfl))
     (try simp only [Act.put, lsA, lsZ, lsN])
     refine wpAnyX_one (j := 12) (by decide +kernel) rfl (fun K' hK => ?_)
     go_simp
     have KK : ∀ b i, b ≠ nb -> ((wr.setCell ⟨nb, m, none⟩ (.string s)).drew).cell? ⟨b, i, none⟩ = wr.cell? ⟨b, i, none⟩ := fun b i hb => World.cell?_of_block (a := ⟨b, i, none⟩) (Below.heap_setCell _ _ _ _ hb)
     have hx := HXB.out
     have hbl := HBL.out
     refine hK.out _ _ ⟨(KK _ _ (by omega)).trans hs0.out.1, (KK _ _ (by omega)).trans hs0.out.2.1, (KK _ _ (by omega)).trans hs0.out.2.2.1, (KK _ _ (by omega)).trans hs0.out.2.2.2⟩ ?_
     clear hK K' KK hx hbl
     refine wpAnyX_done (by decide +kernel) ?_
     clear hs0 o0 x0 q1 q2 f0 z0
     have IN : Hid (CBx w.heap.size w (gA g) (wr.setCell ⟨nb, m, none⟩ (.string s)).drew /\ (wr.setCell ⟨nb, m, none⟩ (.string s)).drew.heap[b5]? = some (.cells #[.slice (some ⟨tb, 0, none⟩) g.ts.length tc, .slice (some ⟨nb, 0, none⟩) g.ns.length nc, .int .i64 (g.start), .slice (some ⟨pb, 0, none⟩) ps.length pc, .slice la ls.length lc] 26 (0, 0)) /\ MG B (wr.setCell ⟨nb, m, none⟩ (.string s)).drew ⟨some ⟨tb, 0, none⟩, tc, (moveU g.ts g.ts ts (g.ts.length)), some ⟨nb, 0, none⟩, nc, (moveU g.ns g.ns ns (k + 1)), g.start, some ⟨pb, 0, none⟩, pc, ps, la, lc, ls⟩ A H E pb lb tb nb) := by
      obtain ⟨i1, i2, i3⟩ := HI.out
      have hx := HXB.out
      refine ⟨(i1.put _ _ _ hx.1).later (Below.refl _ _).drew, (Below.heap_setCell _ _ _ _ (show b5 ≠ nb by omega)).trans i2, ?_⟩
      have := (i3.setN HD.out.2.2 HD.out.1 m s).later (Below.refl _ _).drew
      have e : (moveU g.ns g.ns ns (k + 1)) = (moveU g.ns g.ns ns k).set m s := by rw [moveU, HM.out, HS.out]; rfl
      rw [e]
      exact this
     generalize (wr.setCell ⟨nb, m, none⟩ (.string s)).drew = wn at *
     go_wp2
     go_roundw
     case rel => exact ⟨k + 1, by omega, by go_num, IN.out⟩
     case measure => simp [intOf]; omega
    ·obtain rfl : k = ns.length := by omega
     obtain ⟨mts, hmts⟩ : ∃ x, moveU g.ts g.ts ts g.ts.length = x := ⟨_, rfl⟩
     obtain ⟨mns, hmns⟩ : ∃ x, moveU g.ns g.ns ns g.ns.length = x := ⟨_, rfl⟩
     have HMV : Hid (moveU g.ts g.ts ts g.ts.length = mts /\ moveU g.ns g.ns ns g.ns.length = mns) := ⟨hmts, hmns⟩
     have HTN : Hid (ts ≠ [] /\ ns ≠ []) := ⟨fun e => by have h1 := HLN.out.1; rw [e] at h1; exact HN.out.1 (List.eq_nil_of_length_eq_zero h1.symm), fun e => by have h1 := HLN.out.2; rw [e] at h1; exact HN.out.2.1 (List.eq_nil_of_length_eq_zero h1.symm)⟩
     have R2 : Hid (RI w.heap.size w (gA g) #[.slice (some ⟨tb, 0, none⟩) g.ts.length tc, .slice (some ⟨nb, 0, none⟩) g.ns.length nc, .int .i64 (g.start), .slice (some ⟨pb, 0, none⟩) ps.length pc, .slice la ls.length lc] b5 B A H E pb lb tb nb ⟨some ⟨tb, 0, none⟩, tc, mts, some ⟨nb, 0, none⟩, nc, mns, g.start, some ⟨pb, 0, none⟩, pc, ps, la, lc, ls⟩ wr) := by
      have h := HI.out
      rw [HLN.out.2, hmts, hmns] at h
      have h1 := h.2.2.ord
      have h2 := HB.out
      exact ⟨h.1, h.2.1, h.2.2, by omega, by omega⟩
     clear hI HI hmts hmns
     have hps : ps.length <= 1048576 := by have h1 := congrArg List.length S4.out.1; have h2 := HO.out.pl.2; simp at h1; omega
     obtain ⟨sn, hsn⟩ : ∃ sn : Nat, g.start = (sn : Int) := ⟨g.start.toNat, by have := HO.out.st; omega⟩
     have hsl : sn < ns.length := by have := HO.out.st; have := HLN.out.2; omega
     obtain ⟨b1, o1, e1', l1', _⟩ := (HGA.out w (Below.refl _ _)).2.1 HTN.out.1
     obtain ⟨b2, o2, e2', l2', _⟩ := (HGA.out w (Below.refl _ _)).2.2 HTN.out.2
     have HBL : Hid (b1 < w.heap.size /\ b2 < w.heap.size) := ⟨l1', l2'⟩
     clear l1' l2'
     subst e1'
     subst e2'
     obtain ⟨b2', o2', e2'', _, q2⟩ := (HGA.out wr R2.out.cb.bel).2.2 HTN.out.2
     simp only [Option.some.injEq, Addr.mk.injEq, and_true] at e2''
     obtain ⟨rfl, rfl⟩ := e2''
     have q3 := q2 sn hsl
     have x2 : wr.cell? ⟨w.heap.size, 2, none⟩ = some (.int .i64 g.start) := (cellq_any R2.out.cb.box).trans rfl
     rw [hsn] at x2
     have y2 : wr.cell? ⟨b5, 2, none⟩ = some (.int .i64 g.start) := (cellq_any R2.out.bx).trans rfl
     have f2 : wr.frozen? ⟨b5, 2, none⟩ = false := by unfold World.frozen?; rw [R2.out.bx]; rfl
     have hz : b5 < wr.heap.size := lt_of_block R2.out.bx
     have hsl2 : (sn : Int) < (ns.length : Int) := by omega
     obtain ⟨s1, hs1⟩ : ∃ x, ns.getD sn 0 = x := ⟨_, rfl⟩
     have HST : Hid (ns.getD g.start.toNat 0 = s1) := by show _ = _; rw [hsn]; exact hs1
     rw [hs1] at q3
     clear hs1 q2 hsn
     have R3 : Hid (RI w.heap.size w (gA g) #[.slice (some ⟨tb, 0, none⟩) g.ts.length tc, .slice (some ⟨nb, 0, none⟩) g.ns.length nc, .int .i64 (s1), .slice (some ⟨pb, 0, none⟩) ps.length pc, .slice la ls.length lc] b5 B A H E pb lb tb nb ⟨some ⟨tb, 0, none⟩, tc, mts, some ⟨nb, 0, none⟩, nc, mns, s1, some ⟨pb, 0, none⟩, pc, ps, la, lc, ls⟩ (wr.setCell ⟨b5, 2, none⟩ (.int .i64 s1))) := by
      have h := R2.out
      have h1 := HB.out
      have h2 := HD.out
      have h3 := h.mg.ord
      have hm := h.mg.off5 (b := b5) (by omega) 2 (.int .i64 s1) (by omega) (by omega)
      exact ⟨h.cb.put _ _ _ (by omega), heap_set h.bx 2 _, ⟨hm.ord, hm.t, hm.n_, hm.pa, hm.p, hm.pc, hm.l⟩, h.hA, h.hH⟩
     clear R2
     go_wp2
     clear x2 y2 f2 hz hsl2 q3 hsl
     generalize wr.setCell ⟨b5, 2, none⟩ (.int .i64 s1) = w6 at *
     go_loopw [14] (fun z wr => ∃ (k : Nat) (L : List PV), k <= ps.length /\ z = .int .i64 k /\ L.length = ps.length /\ (∀ i, i < L.length -> (L.getD i .none).core = if i < k then ((ps.getD i .none).ren ts ns).core else (ps.getD i .none).core) /\ RI w.heap.size w #[.slice g.ta g.ts.length g.tc, .slice g.na g.ns.length g.nc, .int .i64 g.start, .slice g.pa g.ps.length g.pc, .slice g.la g.ls.length g.lc] #[.slice (some ⟨tb, 0, none⟩) g.ts.length tc, .slice (some ⟨nb, 0, none⟩) g.ns.length nc, .int .i64 (s1), .slice (some ⟨pb, 0, none⟩) ps.length pc, .slice la ls.length lc] b5 B A H E pb lb tb nb ⟨some ⟨tb, 0, none⟩, tc, mts, some ⟨nb, 0, none⟩, nc, mns, s1, some ⟨pb, 0, none⟩, pc, L, la, lc, ls⟩ wr) (fun z _ => ps.length - (intOf z).toNat)
     case atStart => exact ⟨0, ps, Nat.zero_le _, rfl, rfl, fun i _ => by rw [if_neg (Nat.not_lt_zero _)], R3.out⟩
     case round =>
      clear R3
      obtain ⟨k, L, hk, rfl, hLl, hcore, hR⟩ := hrel
      have HCR : Hid (∀ i, i < L.length -> (L.getD i .none).core = if i < k then ((ps.getD i .none).ren ts ns).core else (ps.getD i .none).core) := hcore
      have HR3 : Hid (RI w.heap.size w (gA g) #[.slice (some ⟨tb, 0, none⟩) g.ts.length tc, .slice (some ⟨nb, 0, none⟩) g.ns.length nc, .int .i64 (s1), .slice (some ⟨pb, 0, none⟩) ps.length pc, .slice la ls.length lc] b5 B A H E pb lb tb nb ⟨some ⟨tb, 0, none⟩, tc, mts, some ⟨nb, 0, none⟩, nc, mns, s1, some ⟨pb, 0, none⟩, pc, L, la, lc, ls⟩ wr) := hR
      have o3 : wr.cell? ⟨b5, 3, none⟩ = some (.slice (some ⟨pb, 0, none⟩) ps.length pc) := (cellq_any hR.bx).trans rfl
      by_cases hlt : k < ps.length
      ·have h3 : ps.length = g.ps.length := by simpa using congrArg List.length S4.out.1
       have hkL : k < L.length := by omega
       have h1 : (L.getD k .none).core = (g.ps.getD k .none).core := by
        rw [hcore k hkL, if_neg (Nat.lt_irrefl _), getD_core PV.core, S4.out.1, <- getD_core PV.core]
       have h1' : (L.getD k .none).core = (ps.getD k .none).core := by rw [hcore k hkL, if_neg (Nat.lt_irrefl _)]
       have hpo := prodOk_of HO.out k (by omega)
       rw [show (g.ps.getD k .none).left = (L.getD k .none).left from (congrArg (·.1) h1).symm, show (g.ps.getD k .none).right = (L.getD k .none).right from (congrArg (·.2.1) h1).symm, show (g.ps.getD k .none).prec = (L.getD k .none).prec from (congrArg (·.2.2) h1).symm] at hpo
       have RK : Hid (RI w.heap.size w (gA g) #[.slice (some ⟨tb, 0, none⟩) g.ts.length tc, .slice (some ⟨nb, 0, none⟩) g.ns.length nc, .int .i64 (s1), .slice (some ⟨pb, 0, none⟩) ps.length pc, .slice la ls.length lc] b5 B A H E pb lb tb nb ⟨some ⟨tb, 0, none⟩, tc, mts, some ⟨nb, 0, none⟩, nc, mns, s1, some ⟨pb, 0, none⟩, pc, L.set k (L.getD k .none), la, lc, ls⟩ wr) := by rw [set_same (l := L) (k := k) (by simp [List.getD, hkL])]; exact hR
       have HCO0 : Hid (((ps.getD k .none).ren ts ns).core = ((L.getD k .none).ren ts ns).core) := ren_core ts ns h1'.symm
       clear hR hcore h1 h1' h3
       generalize hx : L.getD k .none = x at *
       clear hx
       obtain ⟨pl, pra, prc, pr, pp⟩ := x
       simp only at hpo
       obtain ⟨hpl, hp16, hpsy, hppr⟩ := hpo
       have HSY : Hid (∀ s ∈ pr, 0 <= s.2 /\ (s.1 = 1 -> s.2 < g.ts.length) /\ (s.1 ≠ 1 -> s.2 < g.ns.length)) := hpsy
       clear hpsy
       obtain ⟨ln, rfl⟩ : ∃ ln : Nat, pl = (ln : Int) := ⟨pl.toNat, by omega⟩
       obtain ⟨c0, c1, c2, _⟩ := RK.out.cells hkL
       simp only at c0 c1 c2
       have f0 : wr.frozen? ⟨pb, k * 3, none⟩ = false := RK.out.mg.p.row.free _
       have f2 : wr.frozen? ⟨pb, k * 3 + 2, none⟩ = false := RK.out.mg.p.row.free _
       have hz : pb < wr.heap.size := RK.out.mg.p.row.lt
       have hln : ln < ns.length := by have := HLN.out.2; omega
       have hln2 : (ln : Int) < (ns.length : Int) := by omega
       have kl : (k : Int) < (ps.length : Int) := by omega
       have hgw := HGA.out wr RK.out.cb.bel
       obtain ⟨b1', o1', e1', _, q1w⟩ := hgw.2.1 HTN.out.1
       obtain ⟨b2', o2', e2', _, q2w⟩ := hgw.2.2 HTN.out.2
       simp only [Option.some.injEq, Addr.mk.injEq, and_true] at e1' e2'
       obtain ⟨rfl, rfl⟩ := e1'
       obtain ⟨rfl, rfl⟩ := e2'
       have q2 := q2w ln hln
       obtain ⟨m, hm⟩ : ∃ m, ns.getD ln 0 = m := ⟨_, rfl⟩
       rw [hm] at q2
       clear hgw q2w
       have nb1 : b1 ≠ pb := by have h1 := HBL.out; have h2 := RK.out.mg.p.lo; have h3 := RK.out.hA; omega
       have nb2 : b2 ≠ pb := by have h1 := HBL.out; have h2 := RK.out.mg.p.lo; have h3 := RK.out.hA; omega
       by_cases hpp : pp = -1
       ·subst hpp
        have HCO : Hid ((⟨m, pra, prc, pr.map (renS ts ns), -1⟩ : PV).core = ((ps.getD k .none).ren ts ns).core) := by
         show _ = _
         rw [HCO0.out]
         simp [PV.ren, PV.core, <- hm]
        clear hm q1w hppr hpl
        have R4 : Hid (RI w.heap.size w (gA g) #[.slice (some ⟨tb, 0, none⟩) g.ts.length tc, .slice (some ⟨nb, 0, none⟩) g.ns.length nc, .int .i64 (s1), .slice (some ⟨pb, 0, none⟩) ps.length pc, .slice la ls.length lc] b5 B A H E pb lb tb nb ⟨some ⟨tb, 0, none⟩, tc, mts, some ⟨nb, 0, none⟩, nc, mns, s1, some ⟨pb, 0, none⟩, pc, L.set k ⟨m, pra, prc, pr, -1⟩, la, lc, ls⟩ (wr.setCell ⟨pb, k * 3, none⟩ (.int .i64 m))) := RK.out.left hkL m
        go_wp2
        clear c0 c1 c2 f0 f2 hz q2 o3 RK HR3
        generalize wr.setCell ⟨pb, k * 3, none⟩ (.int .i64 m) = w7 at *
        go_loopw [16] (fun z wr => ∃ (j : Nat) (R : List (Int × Int)), j <= pr.length /\ z = .int .i64 j /\ R.length = pr.length /\ (∀ t, t < pr.length -> R.getD t (0, 0) = if t < j then renS ts ns (pr.getD t (0, 0)) else pr.getD t (0, 0)) /\ RI w.heap.size w #[.slice g.ta g.ts.length g.tc, .slice g.na g.ns.length g.nc, .int .i64 g.start, .slice g.pa g.ps.length g.pc, .slice g.la g.ls.length g.lc] #[.slice (some ⟨tb, 0, none⟩) g.ts.length tc, .slice (some ⟨nb, 0, none⟩) g.ns.length nc, .int .i64 (s1), .slice (some ⟨pb, 0, none⟩) ps.length pc, .slice la ls.length lc] b5 B A H E pb lb tb nb ⟨some ⟨tb, 0, none⟩, tc, mts, some ⟨nb, 0, none⟩, nc, mns, s1, some ⟨pb, 0, none⟩, pc, L.set k ⟨m, pra, prc, R, -1⟩, la, lc, ls⟩ wr) (fun z _ => pr.length - (intOf z).toNat)
        case atStart => exact ⟨0, pr, Nat.zero_le _, rfl, rfl, fun t _ => by rw [if_neg (Nat.not_lt_zero _)], R4.out⟩
        case round =>
         clear R4
         obtain ⟨j, R, hj, rfl, hRl, hRv, hR⟩ := hrel
         have HR : Hid (RI w.heap.size w (gA g) #[.slice (some ⟨tb, 0, none⟩) g.ts.length tc, .slice (some ⟨nb, 0, none⟩) g.ns.length nc, .int .i64 (s1), .slice (some ⟨pb, 0, none⟩) ps.length pc, .slice la ls.length lc] b5 B A H E pb lb tb nb ⟨some ⟨tb, 0, none⟩, tc, mts, some ⟨nb, 0, none⟩, nc, mns, s1, some ⟨pb, 0, none⟩, pc, L.set k ⟨m, pra, prc, R, -1⟩, la, lc, ls⟩ wr) := hR
         have HRV : Hid (∀ t, t < pr.length -> R.getD t (0, 0) = if t < j then renS ts ns (pr.getD t (0, 0)) else pr.getD t (0, 0)) := hRv
         obtain ⟨_, c1, _, hea⟩ := hR.cells hkL
         simp only at c1 hea
         rw [hRl] at c1
         by_cases hjl : j < pr.length
         ·obtain ⟨r1, r2, r3, r4⟩ := hea (by intro e; rw [e] at hRl; simp at hRl; omega)
          have HBK : Hid (A <= ablk pra /\ ablk pra < H /\ ablk pra ≠ pb) := ⟨r2.1, r2.2, r3⟩
          obtain ⟨s0, s1'⟩ := symCells_get R j (by omega)
          have d0 := r4.cell s0
          have d1 := r4.cell s1'
          have f1 : wr.frozen? ⟨ablk pra, j * 2 + 1, none⟩ = false := r4.free _
          have hz : ablk pra < wr.heap.size := r4.lt
          have eR : R.getD j (0, 0) = pr.getD j (0, 0) := by rw [hRv j hjl, if_neg (Nat.lt_irrefl _)]
          rw [eR] at d0 d1
          have hmem : pr.getD j (0, 0) ∈ pr := by simp [List.getD, hjl]
          have hsm := HSY.out _ hmem
          have hgw := HGA.out wr hR.cb.bel
          obtain ⟨b1', o1', e1', _, q1w⟩ := hgw.2.1 HTN.out.1
          obtain ⟨b2', o2', e2', _, q2w⟩ := hgw.2.2 HTN.out.2
          simp only [Option.some.injEq, Addr.mk.injEq, and_true] at e1' e2'
          obtain ⟨rfl, rfl⟩ := e1'
          obtain ⟨rfl, rfl⟩ := e2'
          clear hgw hea hRv hR r2 r3 r4 s0 s1' eR hmem
          generalize hq : pr.getD j (0, 0) = q at *
          have HQ : Hid (pr.getD j (0, 0) = q) := hq
          clear hq
          obtain ⟨kd, sz⟩ := q
          simp only at d0 d1 hsm
          obtain ⟨sn, rfl⟩ : ∃ sn : Nat, sz = (sn : Int) := ⟨sz.toNat, by omega⟩
          have HSM : Hid ((kd = 1 -> sn < ts.length) /\ (kd ≠ 1 -> sn < ns.length)) := ⟨fun e => by have := hsm.2.1 e; have := HLN.out; omega, fun e => by have := hsm.2.2 e; have := HLN.out; omega⟩
          clear hsm
          generalize hbk : ablk pra = bk at *
          have HBE : Hid (ablk pra = bk) := hbk
          clear hbk
          subst r1
          by_cases hkd : kd = 1
          ·have hsl : sn < ts.length := HSM.out.1 hkd
           have qv := q1w sn hsl
           obtain ⟨v, hv⟩ : ∃ v, ts.getD sn 0 = v := ⟨_, rfl⟩
           have HV : Hid (renS ts ns (kd, (sn : Int)) = (kd, v)) := by show _ = _; unfold renS; rw [if_pos hkd]; show (kd, ts.getD ((sn : Int)).toNat 0) = _; rw [Int.toNat_natCast, hv]
           rw [hv] at qv
           clear hv q1w q2w
           have hs0 : Hid ((fun (w' : World) => w'.cell? ⟨pb, k * 3 + 1, none⟩ = some (.slice (some ⟨bk, 0, none⟩) pr.length prc) /\ w'.cell? ⟨b1, o1 + sn, none⟩ = some (.int .i64 v)) wr.drew) := ⟨c1, qv⟩
           have hs1 : Hid ((fun (w' : World) => w'.cell? ⟨bk, j * 2 + 1, none⟩ = some (.int .i64 (sn : Int))) wr.drew) := d1
           have hkb : (kd == 1) = true := by simp [hkd]
           have hsl2 : (sn : Int) < (ts.length : Int) := by omega
           have hjl2 : (j : Int) < (pr.length : Int) := by omega
           go_wp2
           refine wp_region_x (S := SX 18 (fun (w' : World) => w'.cell? ⟨pb, k * 3 + 1, none⟩ = some (.slice (some ⟨bk, 0, none⟩) pr.length prc) /\ w'.cell? ⟨b1, o1 + sn, none⟩ = some (.int .i64 v)) (fun (w' : World) => w'.cell? ⟨bk, j * 2 + 1, none⟩ = some (.int .i64 (sn : Int)))) (by kernel_rfl) ?_
           refine wtW (m := 18) (i := 0) (v := ?_) rfl (Or.inl ⟨by rfl, ?_⟩) (SX.both hs0.out hs1.out) ?_
           rotate_left
           ·(intro w hSw; (try dsimp only at hSw); go_simp; try (with_reducible rfl))
           (try simp only [Act.put, lsA, lsZ, lsN])
           refine wtW (m := 18) (i := 1) (v := ?_) rfl (Or.inl ⟨by rfl, ?_⟩) (SX.both hs0.out hs1.out) ?_
           rotate_left
           ·(intro w hSw; (try dsimp only at hSw); go_simp; try (with_reducible rfl))
           (try simp only [Act.put, lsA, lsZ, lsN])
           refine wtW (m := 18) (i := 2) (v := ?_) rfl (Or.inl ⟨by rfl, ?_⟩) (SX.both hs0.out hs1.out) ?_
           rotate_left
           ·(intro w hSw; (try dsimp only at hSw); go_simp; try (with_reducible rfl))
           (try simp only [Act.put, lsA, lsZ, lsN])
           refine wtW (m := 18) (i := 3) (v := ?_) rfl (Or.inl ⟨by rfl, ?_⟩) (SX.both hs0.out hs1.out) ?_
           rotate_left
           ·(intro w hSw; (try dsimp only at hSw); go_simp; try (with_reducible rfl))
           (try simp only [Act.put, lsA, lsZ, lsN])
           refine wtW (m := 18) (i := 4) (v := ?_) rfl (Or.inl ⟨by rfl, ?_⟩) (SX.both hs0.out hs1.out) ?_
           rotate_left
           ·(intro w hSw; (try dsimp only at hSw); go_simp; try (with_reducible rfl))
           (try simp only [Act.put, lsA, lsZ, lsN])
           refine wtW (m := 18) (i := 5) (v := ?_) rfl (Or.inl ⟨by rfl, ?_⟩) (SX.both hs0.out hs1.out) ?_
           rotate_left
           ·(intro w hSw; (try dsimp only at hSw); go_simp; try (with_reducible rfl))
           (try simp only [Act.put, lsA, lsZ, lsN])
           refine wtW (m := 18) (i := 6) (v := ?_) rfl (Or.inl ⟨by rfl, ?_⟩) (SX.both hs0.out hs1.out) ?_
           rotate_left
           ·(intro w hSw; (try dsimp only at hSw); go_simp; try (with_reducible rfl))
           (try simp only [Act.put, lsA, lsZ, lsN])
           refine wtW (m := 18) (i := 7) (v := ?_) rfl (Or.inl ⟨by rfl, ?_⟩) (SX.both hs0.out hs1.out) ?_
           rotate_left
           ·(intro w hSw; (try dsimp only at hSw); go_simp; try (with_reducible rfl))
           (try simp only [Act.put, lsA, lsZ, lsN])
           refine wtW (m := 18) (i := 8) (v := ?_) rfl (Or.inl ⟨by rfl, ?_⟩) (SX.both hs0.out hs1.out) ?_
           rotate_left
           ·(intro w hSw; (try dsimp only at hSw); go_simp; try (with_reducible rfl))
           (try simp only [Act.put, lsA, lsZ, lsN])
           refine wtW (m := 18) (i := 9) (v := ?_) rfl (Or.inl ⟨by rfl, ?_⟩) (SX.both hs0.out hs1.out) ?_
           rotate_left
           ·(intro w hSw; (try dsimp only at hSw); go_simp; try (with_reducible rfl))
           (try simp only [Act.put, lsA, lsZ, lsN])
           refine wtW (m := 18) (i := 10) (v := ?_) rfl (Or.inl ⟨by rfl, ?_⟩) (SX.both hs0.out hs1.out) ?_
           rotate_left
           ·(intro w hSw; (try dsimp only at hSw); go_simp; try (with_reducible rfl))
           (try simp only [Act.put, lsA, lsZ, lsN])
           refine wtW (m := 18) (i := 11) (v := ?_) rfl (Or.inl ⟨by rfl, ?_⟩) (SX.both hs0.out hs1.out) ?_
           rotate_left
           ·(intro w hSw; (try dsimp only at hSw); go_simp; try (with_reducible rfl))
           (try simp only [Act.put, lsA, lsZ, lsN])
           refine wtW (m := 18) (i := 12) (v := ?_) rfl (Or.inl ⟨by rfl, ?_⟩) (SX.both hs0.out hs1.out) ?_
           rotate_left
           ·(intro w hSw; (try dsimp only at hSw); go_simp; try (with_reducible rfl))
           (try simp only [Act.put, lsA, lsZ, lsN])
           refine wtW (m := 18) (i := 13) (v := ?_) rfl (Or.inl ⟨by rfl, ?_⟩) (SX.both hs0.out hs1.out) ?_
           rotate_left
           ·(intro w hSw; (try dsimp only at hSw); go_simp; try (with_reducible rfl))
           (try simp only [Act.put, lsA, lsZ, lsN])
           refine wtW (m := 18) (i := 14) (v := ?_) rfl (Or.inl ⟨by rfl, ?_⟩) (SX.both hs0.out hs1.out) ?_
           rotate_left
           ·(intro w hSw; (try dsimp only at hSw); go_simp; try (with_reducible rfl))
           (try simp only [Act.put, lsA, lsZ, lsN])
           refine wtW (m := 18) (i := 15) (v := ?_) rfl (Or.inl ⟨by rfl, ?_⟩) (SX.both hs0.out hs1.out) ?_
           rotate_left
           ·(intro w hSw; (try dsimp only at hSw); go_simp; try (with_reducible rfl))
           (try simp only [Act.put, lsA, lsZ, lsN])
           refine wt0 (m := 18) (i := 16) (v := ?_) rfl (Or.inl ⟨by rfl, ?_⟩) (SX.both hs0.out hs1.out) ?_
           rotate_left
           ·(intro w hSw; (try dsimp only at hSw); go_simp; try (with_reducible rfl))
           (try simp only [Act.put, lsA, lsZ, lsN])
           refine wt0 (m := 18) (i := 17) (v := ?_) rfl (Or.inl ⟨by rfl, ?_⟩) (SX.both hs0.out hs1.out) ?_
           rotate_left
           ·(intro w hSw; (try dsimp only at hSw); go_simp; try (with_reducible rfl))
           (try simp only [Act.put, lsA, lsZ, lsN])
           refine wpAnyX_one (j := 18) (by decide +kernel) rfl (fun K' hK => ?_)
           go_simp
           have KK : ∀ b i, b ≠ bk -> ((wr.setCell ⟨bk, j * 2 + 1, none⟩ (.int .i64 v)).drew).cell? ⟨b, i, none⟩ = wr.cell? ⟨b, i, none⟩ := fun b i hb => World.cell?_of_block (a := ⟨b, i, none⟩) (Below.heap_setCell _ _ _ _ hb)
           refine hK.out _ _ (SX.one ⟨(KK _ _ (Ne.symm HBK.out.2.2)).trans hs0.out.1, (KK _ _ (by have h1 := HBL.out; have h2 := HBK.out; have h3 := HR.out.hA; omega)).trans hs0.out.2⟩ (by decide +kernel)) ?_
           clear hK K' KK
           refine wpAnyX_done (by decide +kernel) ?_
           clear hs0 hs1 c1 d0 d1 f1 qv
           have RN : Hid (RI w.heap.size w (gA g) #[.slice (some ⟨tb, 0, none⟩) g.ts.length tc, .slice (some ⟨nb, 0, none⟩) g.ns.length nc, .int .i64 (s1), .slice (some ⟨pb, 0, none⟩) ps.length pc, .slice la ls.length lc] b5 B A H E pb lb tb nb ⟨some ⟨tb, 0, none⟩, tc, mts, some ⟨nb, 0, none⟩, nc, mns, s1, some ⟨pb, 0, none⟩, pc, L.set k ⟨m, some ⟨bk, 0, none⟩, prc, R.set j (kd, v), -1⟩, la, lc, ls⟩ (wr.setCell ⟨bk, j * 2 + 1, none⟩ (.int .i64 v)).drew) := by
            have hh := HR.out.sym hkL (j := j) (by show j < R.length; omega) kd v (by show (R.getD j (0, 0)).1 = kd; rw [HRV.out j hjl, if_neg (Nat.lt_irrefl _), HQ.out])
            exact hh.later (Below.refl _ _).drew
           generalize (wr.setCell ⟨bk, j * 2 + 1, none⟩ (.int .i64 v)).drew = wn at *
           go_wp2
           go_roundw
           case rel =>
            refine ⟨j + 1, R.set j (kd, v), by omega, by go_num, by simpa using hRl, fun t ht => ?_, RN.out⟩
            by_cases e : t = j
            ·subst e
             rw [getD_set_eq (by omega), if_pos (by omega), HQ.out]
             exact HV.out.symm
            ·rw [getD_set_ne e, HRV.out t ht]
             by_cases e2 : t < j
             ·rw [if_pos e2, if_pos (by omega)]
             ·rw [if_neg e2, if_neg (by omega)]
           case measure => simp [intOf]; omega
          ·have hsl : sn < ns.length := HSM.out.2 hkd
           have qv := q2w sn hsl
           obtain ⟨v, hv⟩ : ∃ v, ns.getD sn 0 = v := ⟨_, rfl⟩
           have HV : Hid (renS ts ns (kd, (sn : Int)) = (kd, v)) := by show _ = _; unfold renS; rw [if_neg hkd]; show (kd, ns.getD ((sn : Int)).toNat 0) = _; rw [Int.toNat_natCast, hv]
           rw [hv] at qv
           clear hv q1w q2w
           have hs0 : Hid ((fun (w' : World) => w'.cell? ⟨pb, k * 3 + 1, none⟩ = some (.slice (some ⟨bk, 0, none⟩) pr.length prc) /\ w'.cell? ⟨b2, o2 + sn, none⟩ = some (.int .i64 v)) wr.drew) := ⟨c1, qv⟩
           have hs1 : Hid ((fun (w' : World) => w'.cell? ⟨bk, j * 2 + 1, none⟩ = some (.int .i64 (sn : Int))) wr.drew) := d1
           have hkb : (kd == 1) = false := by simp [hkd]
           have hsl2 : (sn : Int) < (ns.length : Int) := by omega
           have hjl2 : (j : Int) < (pr.length : Int) := by omega
           go_wp2
           refine wp_region_x (S := SX 18 (fun (w' : World) => w'.cell? ⟨pb, k * 3 + 1, none⟩ = some (.slice (some ⟨bk, 0, none⟩) pr.length prc) /\ w'.cell? ⟨b2, o2 + sn, none⟩ = some (.int .i64 v)) (fun (w' : World) => w'.cell? ⟨bk, j * 2 + 1, none⟩ = some (.int .i64 (sn : Int)))) (by kernel_rfl) ?_
           refine wtW (m := 18) (i := 0) (v := ?_) rfl (Or.inl ⟨by rfl, ?_⟩) (SX.both hs0.out hs1.out) ?_
           rotate_left
           ·(intro w hSw; (try dsimp only at hSw); go_simp; try (with_reducible rfl))
           (try simp only [Act.put, lsA, lsZ, lsN])
           refine wtW (m := 18) (i := 1) (v := ?_) rfl (Or.inl ⟨by rfl, ?_⟩) (SX.both hs0.out hs1.out) ?_
           rotate_left
           ·(intro w hSw; (try dsimp only at hSw); go_simp; try (with_reducible rfl))
           (try simp only [Act.put, lsA, lsZ, lsN])
           refine wtW (m := 18) (i := 2) (v := ?_) rfl (Or.inl ⟨by rfl, ?_⟩) (SX.both hs0.out hs1.out) ?_
           rotate_left
           ·(intro w hSw; (try dsimp only at hSw); go_simp; try (with_reducible rfl))
           (try simp only [Act.put, lsA, lsZ, lsN])
           refine wtW (m := 18) (i := 3) (v := ?_) rfl (Or.inl ⟨by rfl, ?_⟩) (SX.both hs0.out hs1.out) ?_
           rotate_left
           ·(intro w hSw; (try dsimp only at hSw); go_simp; try (with_reducible rfl))
           (try simp only [Act.put, lsA, lsZ, lsN])
           refine wtW (m := 18) (i := 4) (v := ?_) rfl (Or.inl ⟨by rfl, ?_⟩) (SX.both hs0.out hs1.out) ?_
           rotate_left
           ·(intro w hSw; (try dsimp only at hSw); go_simp; try (with_reducible rfl))
           (try simp only [Act.put, lsA, lsZ, lsN])
           refine wtW (m := 18) (i := 5) (v := ?_) rfl (Or.inl ⟨by rfl, ?_⟩) (SX.both hs0.out hs1.out) ?_
           rotate_left
           ·(intro w hSw; (try dsimp only at hSw); go_simp; try (with_reducible rfl))
           (try simp only [Act.put, lsA, lsZ, lsN])
           refine wtW (m := 18) (i := 6) (v := ?_) rfl (Or.inl ⟨by rfl, ?_⟩) (SX.both hs0.out hs1.out) ?_
           rotate_left
           ·(intro w hSw; (try dsimp only at hSw); go_simp; try (with_reducible rfl))
           (try simp only [Act.put, lsA, lsZ, lsN])
           refine wtW (m := 18) (i := 7) (v := ?_) rfl (Or.inl ⟨by rfl, ?_⟩) (SX.both hs0.out hs1.out) ?_
           rotate_left
           ·(intro w hSw; (try dsimp only at hSw); go_simp; try (with_reducible rfl))
           (try simp only [Act.put, lsA, lsZ, lsN])
           refine wtW (m := 18) (i := 8) (v := ?_) rfl (Or.inl ⟨by rfl, ?_⟩) (SX.both hs0.out hs1.out) ?_
           rotate_left
           ·(intro w hSw; (try dsimp only at hSw); go_simp; try (with_reducible rfl))
           (try simp only [Act.put, lsA, lsZ, lsN])
           refine wtW (m := 18) (i := 9) (v := ?_) rfl (Or.inl ⟨by rfl, ?_⟩) (SX.both hs0.out hs1.out) ?_
           rotate_left
           ·(intro w hSw; (try dsimp only at hSw); go_simp; try (with_reducible rfl))
           (try simp only [Act.put, lsA, lsZ, lsN])
           refine wtW (m := 18) (i := 10) (v := ?_) rfl (Or.inl ⟨by rfl, ?_⟩) (SX.both hs0.out hs1.out) ?_
           rotate_left
           ·(intro w hSw; (try dsimp only at hSw); go_simp; try (with_reducible rfl))
           (try simp only [Act.put, lsA, lsZ, lsN])
           refine wtW (m := 18) (i := 11) (v := ?_) rfl (Or.inl ⟨by rfl, ?_⟩) (SX.both hs0.out hs1.out) ?_
           rotate_left
           ·(intro w hSw; (try dsimp only at hSw); go_simp; try (with_reducible rfl))
           (try simp only [Act.put, lsA, lsZ, lsN])
           refine wtW (m := 18) (i := 12) (v := ?_) rfl (Or.inl ⟨by rfl, ?_⟩) (SX.both hs0.out hs1.out) ?_
           rotate_left
           ·(intro w hSw; (try dsimp only at hSw); go_simp; try (with_reducible rfl))
           (try simp only [Act.put, lsA, lsZ, lsN])
           refine wtW (m := 18) (i := 13) (v := ?_) rfl (Or.inl ⟨by rfl, ?_⟩) (SX.both hs0.out hs1.out) ?_
           rotate_left
           ·(intro w hSw; (try dsimp only at hSw); go_simp; try (with_reducible rfl))
           (try simp only [Act.put, lsA, lsZ, lsN])
           refine wtW (m := 18) (i := 14) (v := ?_) rfl (Or.inl ⟨by rfl, ?_⟩) (SX.both hs0.out hs1.out) ?_
           rotate_left
           ·(intro w hSw; (try dsimp only at hSw); go_simp; try (with_reducible rfl))
           (try simp only [Act.put, lsA, lsZ, lsN])
           refine wtW (m := 18) (i := 15) (v := ?_) rfl (Or.inl ⟨by rfl, ?_⟩) (SX.both hs0.out hs1.out) ?_
           rotate_left
           ·(intro w hSw; (try dsimp only at hSw); go_simp; try (with_reducible rfl))
           (try simp only [Act.put, lsA, lsZ, lsN])
           refine wt0 (m := 18) (i := 16) (v := ?_) rfl (Or.inl ⟨by rfl, ?_⟩) (SX.both hs0.out hs1.out) ?_
           rotate_left
           ·(intro w hSw; (try dsimp only at hSw); go_simp; try (with_reducible rfl))
           (try simp only [Act.put, lsA, lsZ, lsN])
           refine wt0 (m := 18) (i := 17) (v := ?_) rfl (Or.inl ⟨by rfl, ?_⟩) (SX.both hs0.out hs1.out) ?_
           rotate_left
           ·(intro w hSw; (try dsimp only at hSw); go_simp; try (with_reducible rfl))
           (try simp only [Act.put, lsA, lsZ, lsN])
           refine wpAnyX_one (j := 18) (by decide +kernel) rfl (fun K' hK => ?_)
           go_simp
           have KK : ∀ b i, b ≠ bk -> ((wr.setCell ⟨bk, j * 2 + 1, none⟩ (.int .i64 v)).drew).cell? ⟨b, i, none⟩ = wr.cell? ⟨b, i, none⟩ := fun b i hb => World.cell?_of_block (a := ⟨b, i, none⟩) (Below.heap_setCell _ _ _ _ hb)
           refine hK.out _ _ (SX.one ⟨(KK _ _ (Ne.symm HBK.out.2.2)).trans hs0.out.1, (KK _ _ (by have h1 := HBL.out; have h2 := HBK.out; have h3 := HR.out.hA; omega)).trans hs0.out.2⟩ (by decide +kernel)) ?_
           clear hK K' KK
           refine wpAnyX_done (by decide +kernel) ?_
           clear hs0 hs1 c1 d0 d1 f1 qv
           have RN : Hid (RI w.heap.size w (gA g) #[.slice (some ⟨tb, 0, none⟩) g.ts.length tc, .slice (some ⟨nb, 0, none⟩) g.ns.length nc, .int .i64 (s1), .slice (some ⟨pb, 0, none⟩) ps.length pc, .slice la ls.length lc] b5 B A H E pb lb tb nb ⟨some ⟨tb, 0, none⟩, tc, mts, some ⟨nb, 0, none⟩, nc, mns, s1, some ⟨pb, 0, none⟩, pc, L.set k ⟨m, some ⟨bk, 0, none⟩, prc, R.set j (kd, v), -1⟩, la, lc, ls⟩ (wr.setCell ⟨bk, j * 2 + 1, none⟩ (.int .i64 v)).drew) := by
            have hh := HR.out.sym hkL (j := j) (by show j < R.length; omega) kd v (by show (R.getD j (0, 0)).1 = kd; rw [HRV.out j hjl, if_neg (Nat.lt_irrefl _), HQ.out])
            exact hh.later (Below.refl _ _).drew
           generalize (wr.setCell ⟨bk, j * 2 + 1, none⟩ (.int .i64 v)).drew = wn at *
           go_wp2
           go_roundw
           case rel =>
            refine ⟨j + 1, R.set j (kd, v), by omega, by go_num, by simpa using hRl, fun t ht => ?_, RN.out⟩
            by_cases e : t = j
            ·subst e
             rw [getD_set_eq (by omega), if_pos (by omega), HQ.out]
             exact HV.out.symm
            ·rw [getD_set_ne e, HRV.out t ht]
             by_cases e2 : t < j
             ·rw [if_pos e2, if_pos (by omega)]
             ·rw [if_neg e2, if_neg (by omega)]
           case measure => simp [intOf]; omega
         ·obtain rfl : j = pr.length := by omega
          have ER : R = pr.map (renS ts ns) := by
           apply List.ext_getElem
           ·simpa using hRl
           ·intro t h1 h2
            have ht : t < pr.length := by omega
            have := hRv t ht
            rw [if_pos ht] at this
            simp only [List.getD, List.getElem?_eq_getElem h1, List.getElem?_eq_getElem ht, Option.getD_some] at this
            rw [this, List.getElem_map]
          subst ER
          clear hRv hR hea
          go_wp2
          go_roundw
          case rel =>
           refine ⟨k + 1, L.set k ⟨m, pra, prc, pr.map (renS ts ns), -1⟩, by omega, by go_num, by simpa using hLl, fun i hi => ?_, HR.out⟩
           have hi' : i < L.length := by simpa using hi
           by_cases e : i = k
           ·subst e
            rw [if_pos (by omega), getD_set_eq hi']
            exact HCO.out
           ·rw [getD_set_ne e, HCR.out i hi']
            by_cases e2 : i < k
            ·rw [if_pos e2, if_pos (by omega)]
            ·rw [if_neg e2, if_neg (by omega)]
          case measure => simp [intOf]; omega
       ·obtain ⟨pn, rfl⟩ : ∃ pn : Nat, pp = (pn : Int) := ⟨pp.toNat, by have := hppr hpp; omega⟩
        have hpn : pn < ts.length := by have := hppr hpp; have := HLN.out.1; omega
        have hpn2 : (pn : Int) < (ts.length : Int) := by omega
        have q1 := q1w pn hpn
        obtain ⟨m2, hm2⟩ : ∃ x, ts.getD pn 0 = x := ⟨_, rfl⟩
        rw [hm2] at q1
        have HCO : Hid ((⟨m, pra, prc, pr.map (renS ts ns), m2⟩ : PV).core = ((ps.getD k .none).ren ts ns).core) := by
         show _ = _
         rw [HCO0.out]
         simp only [PV.ren, PV.core]
         rw [if_neg hpp, Int.toNat_natCast, Int.toNat_natCast, hm, hm2]
        clear hm hm2 q1w hppr hpl
        have R4 : Hid (RI w.heap.size w (gA g) #[.slice (some ⟨tb, 0, none⟩) g.ts.length tc, .slice (some ⟨nb, 0, none⟩) g.ns.length nc, .int .i64 (s1), .slice (some ⟨pb, 0, none⟩) ps.length pc, .slice la ls.length lc] b5 B A H E pb lb tb nb ⟨some ⟨tb, 0, none⟩, tc, mts, some ⟨nb, 0, none⟩, nc, mns, s1, some ⟨pb, 0, none⟩, pc, L.set k ⟨m, pra, prc, pr, m2⟩, la, lc, ls⟩ ((wr.setCell ⟨pb, k * 3, none⟩ (.int .i64 m)).setCell ⟨pb, k * 3 + 2, none⟩ (.int .i64 m2))) := (RK.out.left hkL m).prec hkL m2
        have q1' : (wr.setCell ⟨pb, k * 3, none⟩ (.int .i64 m)).cell? ⟨b1, o1 + pn, none⟩ = some (.int .i64 m2) := (World.cell?_of_block (a := ⟨b1, o1 + pn, none⟩) (Below.heap_setCell _ _ _ _ nb1)).trans q1
        go_wp2
        clear c0 c1 c2 f0 f2 hz q1 q1' q2 o3 RK HR3
        generalize (wr.setCell ⟨pb, k * 3, none⟩ (.int .i64 m)).setCell ⟨pb, k * 3 + 2, none⟩ (.int .i64 m2) = w7 at *
        go_loopw [16] (fun z wr => ∃ (j : Nat) (R : List (Int × Int)), j <= pr.length /\ z = .int .i64 j /\ R.length = pr.length /\ (∀ t, t < pr.length -> R.getD t (0, 0) = if t < j then renS ts ns (pr.getD t (0, 0)) else pr.getD t (0, 0)) /\ RI w.heap.size w #[.slice g.ta g.ts.length g.tc, .slice g.na g.ns.length g.nc, .int .i64 g.start, .slice g.pa g.ps.length g.pc, .slice g.la g.ls.length g.lc] #[.slice (some ⟨tb, 0, none⟩) g.ts.length tc, .slice (some ⟨nb, 0, none⟩) g.ns.length nc, .int .i64 (s1), .slice (some ⟨pb, 0, none⟩) ps.length pc, .slice la ls.length lc] b5 B A H E pb lb tb nb ⟨some ⟨tb, 0, none⟩, tc, mts, some ⟨nb, 0, none⟩, nc, mns, s1, some ⟨pb, 0, none⟩, pc, L.set k ⟨m, pra, prc, R, m2⟩, la, lc, ls⟩ wr) (fun z _ => pr.length - (intOf z).toNat)
        case atStart => exact ⟨0, pr, Nat.zero_le _, rfl, rfl, fun t _ => by rw [if_neg (Nat.not_lt_zero _)], R4.out⟩
        case round =>
         clear R4
         obtain ⟨j, R, hj, rfl, hRl, hRv, hR⟩ := hrel
         have HR : Hid (RI w.heap.size w (gA g) #[.slice (some ⟨tb, 0, none⟩) g.ts.length tc, .slice (some ⟨nb, 0, none⟩) g.ns.length nc, .int .i64 (s1), .slice (some ⟨pb, 0, none⟩) ps.length pc, .slice la ls.length lc] b5 B A H E pb lb tb nb ⟨some ⟨tb, 0, none⟩, tc, mts, some ⟨nb, 0, none⟩, nc, mns, s1, some ⟨pb, 0, none⟩, pc, L.set k ⟨m, pra, prc, R, m2⟩, la, lc, ls⟩ wr) := hR
         have HRV : Hid (∀ t, t < pr.length -> R.getD t (0, 0) = if t < j then renS ts ns (pr.getD t (0, 0)) else pr.getD t (0, 0)) := hRv
         obtain ⟨_, c1, _, hea⟩ := hR.cells hkL
         simp only at c1 hea
         rw [hRl] at c1
         by_cases hjl : j < pr.length
         ·obtain ⟨r1, r2, r3, r4⟩ := hea (by intro e; rw [e] at hRl; simp at hRl; omega)
          have HBK : Hid (A <= ablk pra /\ ablk pra < H /\ ablk pra ≠ pb) := ⟨r2.1, r2.2, r3⟩
          obtain ⟨s0, s1'⟩ := symCells_get R j (by omega)
          have d0 := r4.cell s0
          have d1 := r4.cell s1'
          have f1 : wr.frozen? ⟨ablk pra, j * 2 + 1, none⟩ = false := r4.free _
          have hz : ablk pra < wr.heap.size := r4.lt
          have eR : R.getD j (0, 0) = pr.getD j (0, 0) := by rw [hRv j hjl, if_neg (Nat.lt_irrefl _)]
          rw [eR] at d0 d1
          have hmem : pr.getD j (0, 0) ∈ pr := by simp [List.getD, hjl]
          have hsm := HSY.out _ hmem
          have hgw := HGA.out wr hR.cb.bel
          obtain ⟨b1', o1', e1', _, q1w⟩ := hgw.2.1 HTN.out.1
          obtain ⟨b2', o2', e2', _, q2w⟩ := hgw.2.2 HTN.out.2
          simp only [Option.some.injEq, Addr.mk.injEq, and_true] at e1' e2'
          obtain ⟨rfl, rfl⟩ := e1'
          obtain ⟨rfl, rfl⟩ := e2'
          clear hgw hea hRv hR r2 r3 r4 s0 s1' eR hmem
          generalize hq : pr.getD j (0, 0) = q at *
          have HQ : Hid (pr.getD j (0, 0) = q) := hq
          clear hq
          obtain ⟨kd, sz⟩ := q
          simp only at d0 d1 hsm
          obtain ⟨sn, rfl⟩ : ∃ sn : Nat, sz = (sn : Int) := ⟨sz.toNat, by omega⟩
          have HSM : Hid ((kd = 1 -> sn < ts.length) /\ (kd ≠ 1 -> sn < ns.length)) := ⟨fun e => by have := hsm.2.1 e; have := HLN.out; omega, fun e => by have := hsm.2.2 e; have := HLN.out; omega⟩
          clear hsm
          generalize hbk : ablk pra = bk at *
          have HBE : Hid (ablk pra = bk) := hbk
          clear hbk
          subst r1
          by_cases hkd : kd = 1
          ·have hsl : sn < ts.length := HSM.out.1 hkd
           have qv := q1w sn hsl
           obtain ⟨v, hv⟩ : ∃ v, ts.getD sn 0 = v := ⟨_, rfl⟩
           have HV : Hid (renS ts ns (kd, (sn : Int)) = (kd, v)) := by show _ = _; unfold renS; rw [if_pos hkd]; show (kd, ts.getD ((sn : Int)).toNat 0) = _; rw [Int.toNat_natCast, hv]
           rw [hv] at qv
           clear hv q1w q2w
           have hs0 : Hid ((fun (w' : World) => w'.cell? ⟨pb, k * 3 + 1, none⟩ = some (.slice (some ⟨bk, 0, none⟩) pr.length prc) /\ w'.cell? ⟨b1, o1 + sn, none⟩ = some (.int .i64 v)) wr.drew) := ⟨c1, qv⟩
           have hs1 : Hid ((fun (w' : World) => w'.cell? ⟨bk, j * 2 + 1, none⟩ = some (.int .i64 (sn : Int))) wr.drew) := d1
           have hkb : (kd == 1) = true := by simp [hkd]
           have hsl2 : (sn : Int) < (ts.length : Int) := by omega
           have hjl2 : (j : Int) < (pr.length : Int) := by omega
           go_wp2
           refine wp_region_x (S := SX 18 (fun (w' : World) => w'.cell? ⟨pb, k * 3 + 1, none⟩ = some (.slice (some ⟨bk, 0, none⟩) pr.length prc) /\ w'.cell? ⟨b1, o1 + sn, none⟩ = some (.int .i64 v)) (fun (w' : World) => w'.cell? ⟨bk, j * 2 + 1, none⟩ = some (.int .i64 (sn : Int)))) (by kernel_rfl) ?_
           refine wtW (m := 18) (i := 0) (v := ?_) rfl (Or.inl ⟨by rfl, ?_⟩) (SX.both hs0.out hs1.out) ?_
           rotate_left
           ·(intro w hSw; (try dsimp only at hSw); go_simp; try (with_reducible rfl))
           (try simp only [Act.put, lsA, lsZ, lsN])
           refine wtW (m := 18) (i := 1) (v := ?_) rfl (Or.inl ⟨by rfl, ?_⟩) (SX.both hs0.out hs1.out) ?_
           rotate_left
           ·(intro w hSw; (try dsimp only at hSw); go_simp; try (with_reducible rfl))
           (try simp only [Act.put, lsA, lsZ, lsN])
           refine wtW (m := 18) (i := 2) (v := ?_) rfl (Or.inl ⟨by rfl, ?_⟩) (SX.both hs0.out hs1.out) ?_
           rotate_left
           ·(intro w hSw; (try dsimp only at hSw); go_simp; try (with_reducible rfl))
           (try simp only [Act.put, lsA, lsZ, lsN])
           refine wtW (m := 18) (i := 3) (v := ?_) rfl (Or.inl ⟨by rfl, ?_⟩) (SX.both hs0.out hs1.out) ?_
           rotate_left
           ·(intro w hSw; (try dsimp only at hSw); go_simp; try (with_reducible rfl))
           (try simp only [Act.put, lsA, lsZ, lsN])
           refine wtW (m := 18) (i := 4) (v := ?_) rfl (Or.inl ⟨by rfl, ?_⟩) (SX.both hs0.out hs1.out) ?_
           rotate_left
           ·(intro w hSw; (try dsimp only at hSw); go_simp; try (with_reducible rfl))
           (try simp only [Act.put, lsA, lsZ, lsN])
           refine wtW (m := 18) (i := 5) (v := ?_) rfl (Or.inl ⟨by rfl, ?_⟩) (SX.both hs0.out hs1.out) ?_
           rotate_left
           ·(intro w hSw; (try dsimp only at hSw); go_simp; try (with_reducible rfl))
           (try simp only [Act.put, lsA, lsZ, lsN])
           refine wtW (m := 18) (i := 6) (v := ?_) rfl (Or.inl ⟨by rfl, ?_⟩) (SX.both hs0.out hs1.out) ?_
           rotate_left
           ·(intro w hSw; (try dsimp only at hSw); go_simp; try (with_reducible rfl))
           (try simp only [Act.put, lsA, lsZ, lsN])
           refine wtW (m := 18) (i := 7) (v := ?_) rfl (Or.inl ⟨by rfl, ?_⟩) (SX.both hs0.out hs1.out) ?_
           rotate_left
           ·(intro w hSw; (try dsimp only at hSw); go_simp; try (with_reducible rfl))
           (try simp only [Act.put, lsA, lsZ, lsN])
           refine wtW (m := 18) (i := 8) (v := ?_) rfl (Or.inl ⟨by rfl, ?_⟩) (SX.both hs0.out hs1.out) ?_
           rotate_left
           ·(intro w hSw; (try dsimp only at hSw); go_simp; try (with_reducible rfl))
           (try simp only [Act.put, lsA, lsZ, lsN])
           refine wtW (m := 18) (i := 9) (v := ?_) rfl (Or.inl ⟨by rfl, ?_⟩) (SX.both hs0.out hs1.out) ?_
           rotate_left
           ·(intro w hSw; (try dsimp only at hSw); go_simp; try (with_reducible rfl))
           (try simp only [Act.put, lsA, lsZ, lsN])
           refine wtW (m := 18) (i := 10) (v := ?_) rfl (Or.inl ⟨by rfl, ?_⟩) (SX.both hs0.out hs1.out) ?_
           rotate_left
           ·(intro w hSw; (try dsimp only at hSw); go_simp; try (with_reducible rfl))
           (try simp only [Act.put, lsA, lsZ, lsN])
           refine wtW (m := 18) (i := 11) (v := ?_) rfl (Or.inl ⟨by rfl, ?_⟩) (SX.both hs0.out hs1.out) ?_
           rotate_left
           ·(intro w hSw; (try dsimp only at hSw); go_simp; try (with_reducible rfl))
           (try simp only [Act.put, lsA, lsZ, lsN])
           refine wtW (m := 18) (i := 12) (v := ?_) rfl (Or.inl ⟨by rfl, ?_⟩) (SX.both hs0.out hs1.out) ?_
           rotate_left
           ·(intro w hSw; (try dsimp only at hSw); go_simp; try (with_reducible rfl))
           (try simp only [Act.put, lsA, lsZ, lsN])
           refine wtW (m := 18) (i := 13) (v := ?_) rfl (Or.inl ⟨by rfl, ?_⟩) (SX.both hs0.out hs1.out) ?_
           rotate_left
           ·(intro w hSw; (try dsimp only at hSw); go_simp; try (with_reducible rfl))
           (try simp only [Act.put, lsA, lsZ, lsN])
           refine wtW (m := 18) (i := 14) (v := ?_) rfl (Or.inl ⟨by rfl, ?_⟩) (SX.both hs0.out hs1.out) ?_
           rotate_left
           ·(intro w hSw; (try dsimp only at hSw); go_simp; try (with_reducible rfl))
           (try simp only [Act.put, lsA, lsZ, lsN])
           refine wtW (m := 18) (i := 15) (v := ?_) rfl (Or.inl ⟨by rfl, ?_⟩) (SX.both hs0.out hs1.out) ?_
           rotate_left
           ·(intro w hSw; (try dsimp only at hSw); go_simp; try (with_reducible rfl))
           (try simp only [Act.put, lsA, lsZ, lsN])
           refine wt0 (m := 18) (i := 16) (v := ?_) rfl (Or.inl ⟨by rfl, ?_⟩) (SX.both hs0.out hs1.out) ?_
           rotate_left
           ·(intro w hSw; (try dsimp only at hSw); go_simp; try (with_reducible rfl))
           (try simp only [Act.put, lsA, lsZ, lsN])
           refine wt0 (m := 18) (i := 17) (v := ?_) rfl (Or.inl ⟨by rfl, ?_⟩) (SX.both hs0.out hs1.out) ?_
           rotate_left
           ·(intro w hSw; (try dsimp only at hSw); go_simp; try (with_reducible rfl))
           (try simp only [Act.put, lsA, lsZ, lsN])
           refine wpAnyX_one (j := 18) (by decide +kernel) rfl (fun K' hK => ?_)
           go_simp
           have KK : ∀ b i, b ≠ bk -> ((wr.setCell ⟨bk, j * 2 + 1, none⟩ (.int .i64 v)).drew).cell? ⟨b, i, none⟩ = wr.cell? ⟨b, i, none⟩ := fun b i hb => World.cell?_of_block (a := ⟨b, i, none⟩) (Below.heap_setCell _ _ _ _ hb)
           refine hK.out _ _ (SX.one ⟨(KK _ _ (Ne.symm HBK.out.2.2)).trans hs0.out.1, (KK _ _ (by have h1 := HBL.out; have h2 := HBK.out; have h3 := HR.out.hA; omega)).trans hs0.out.2⟩ (by decide +kernel)) ?_
           clear hK K' KK
           refine wpAnyX_done (by decide +kernel) ?_
           clear hs0 hs1 c1 d0 d1 f1 qv
           have RN : Hid (RI w.heap.size w (gA g) #[.slice (some ⟨tb, 0, none⟩) g.ts.length tc, .slice (some ⟨nb, 0, none⟩) g.ns.length nc, .int .i64 (s1), .slice (some ⟨pb, 0, none⟩) ps.length pc, .slice la ls.length lc] b5 B A H E pb lb tb nb ⟨some ⟨tb, 0, none⟩, tc, mts, some ⟨nb, 0, none⟩, nc, mns, s1, some ⟨pb, 0, none⟩, pc, L.set k ⟨m, some ⟨bk, 0, none⟩, prc, R.set j (kd, v), m2⟩, la, lc, ls⟩ (wr.setCell ⟨bk, j * 2 + 1, none⟩ (.int .i64 v)).drew) := by
            have hh := HR.out.sym hkL (j := j) (by show j < R.length; omega) kd v (by show (R.getD j (0, 0)).1 = kd; rw [HRV.out j hjl, if_neg (Nat.lt_irrefl _), HQ.out])
            exact hh.later (Below.refl _ _).drew
           generalize (wr.setCell ⟨bk, j * 2 + 1, none⟩ (.int .i64 v)).drew = wn at *
           go_wp2
           go_roundw
           case rel =>
            refine ⟨j + 1, R.set j (kd, v), by omega, by go_num, by simpa using hRl, fun t ht => ?_, RN.out⟩
            by_cases e : t = j
            ·subst e
             rw [getD_set_eq (by omega), if_pos (by omega), HQ.out]
             exact HV.out.symm
            ·rw [getD_set_ne e, HRV.out t ht]
             by_cases e2 : t < j
             ·rw [if_pos e2, if_pos (by omega)]
             ·rw [if_neg e2, if_neg (by omega)]
           case measure => simp [intOf]; omega
          ·have hsl : sn < ns.length := HSM.out.2 hkd
           have qv := q2w sn hsl
           obtain ⟨v, hv⟩ : ∃ v, ns.getD sn 0 = v := ⟨_, rfl⟩
           have HV : Hid (renS ts ns (kd, (sn : Int)) = (kd, v)) := by show _ = _; unfold renS; rw [if_neg hkd]; show (kd, ns.getD ((sn : Int)).toNat 0) = _; rw [Int.toNat_natCast, hv]
           rw [hv] at qv
           clear hv q1w q2w
           have hs0 : Hid ((fun (w' : World) => w'.cell? ⟨pb, k * 3 + 1, none⟩ = some (.slice (some ⟨bk, 0, none⟩) pr.length prc) /\ w'.cell? ⟨b2, o2 + sn, none⟩ = some (.int .i64 v)) wr.drew) := ⟨c1, qv⟩
           have hs1 : Hid ((fun (w' : World) => w'.cell? ⟨bk, j * 2 + 1, none⟩ = some (.int .i64 (sn : Int))) wr.drew) := d1
           have hkb : (kd == 1) = false := by simp [hkd]
           have hsl2 : (sn : Int) < (ns.length : Int) := by omega
           have hjl2 : (j : Int) < (pr.length : Int) := by omega
           go_wp2
           refine wp_region_x (S := SX 18 (fun (w' : World) => w'.cell? ⟨pb, k * 3 + 1, none⟩ = some (.slice (some ⟨bk, 0, none⟩) pr.length prc) /\ w'.cell? ⟨b2, o2 + sn, none⟩ = some (.int .i64 v)) (fun (w' : World) => w'.cell? ⟨bk, j * 2 + 1, none⟩ = some (.int .i64 (sn : Int)))) (by kernel_rfl) ?_
           refine wtW (m := 18) (i := 0) (v := ?_) rfl (Or.inl ⟨by rfl, ?_⟩) (SX.both hs0.out hs1.out) ?_
           rotate_left
           ·(intro w hSw; (try dsimp only at hSw); go_simp; try (with_reducible rfl))
           (try simp only [Act.put, lsA, lsZ, lsN])
           refine wtW (m := 18) (i := 1) (v := ?_) rfl (Or.inl ⟨by rfl, ?_⟩) (SX.both hs0.out hs1.out) ?_
           rotate_left
           ·(intro w hSw; (try dsimp only at hSw); go_simp; try (with_reducible rfl))
           (try simp only [Act.put, lsA, lsZ, lsN])
           refine wtW (m := 18) (i := 2) (v := ?_) rfl (Or.inl ⟨by rfl, ?_⟩) (SX.both hs0.out hs1.out) ?_
           rotate_left
           ·(intro w hSw; (try dsimp only at hSw); go_simp; try (with_reducible rfl))
           (try simp only [Act.put, lsA, lsZ, lsN])
           refine wtW (m := 18) (i := 3) (v := ?_) rfl (Or.inl ⟨by rfl, ?_⟩) (SX.both hs0.out hs1.out) ?_
           rotate_left
           ·(intro w hSw; (try dsimp only at hSw); go_simp; try (with_reducible rfl))
           (try simp only [Act.put, lsA, lsZ, lsN])
           refine wtW (m := 18) (i := 4) (v := ?_) rfl (Or.inl ⟨by rfl, ?_⟩) (SX.both hs0.out hs1.out) ?_
           rotate_left
           ·(intro w hSw; (try dsimp only at hSw); go_simp; try (with_reducible rfl))
           (try simp only [Act.put, lsA, lsZ, lsN])
           refine wtW (m := 18) (i := 5) (v := ?_) rfl (Or.inl ⟨by rfl, ?_⟩) (SX.both hs0.out hs1.out) ?_
           rotate_left
           ·(intro w hSw; (try dsimp only at hSw); go_simp; try (with_reducible rfl))
           (try simp only [Act.put, lsA, lsZ, lsN])
           refine wtW (m := 18) (i := 6) (v := ?_) rfl (Or.inl ⟨by rfl, ?_⟩) (SX.both hs0.out hs1.out) ?_
           rotate_left
           ·(intro w hSw; (try dsimp only at hSw); go_simp; try (with_reducible rfl))
           (try simp only [Act.put, lsA, lsZ, lsN])
           refine wtW (m := 18) (i := 7) (v := ?_) rfl (Or.inl ⟨by rfl, ?_⟩) (SX.both hs0.out hs1.out) ?_
           rotate_left
           ·(intro w hSw; (try dsimp only at hSw); go_simp; try (with_reducible rfl))
           (try simp only [Act.put, lsA, lsZ, lsN])
           refine wtW (m := 18) (i := 8) (v := ?_) rfl (Or.inl ⟨by rfl, ?_⟩) (SX.both hs0.out hs1.out) ?_
           rotate_left
           ·(intro w hSw; (try dsimp only at hSw); go_simp; try (with_reducible rfl))
           (try simp only [Act.put, lsA, lsZ, lsN])
           refine wtW (m := 18) (i := 9) (v := ?_) rfl (Or.inl ⟨by rfl, ?_⟩) (SX.both hs0.out hs1.out) ?_
           rotate_left
           ·(intro w hSw; (try dsimp only at hSw); go_simp; try (with_reducible rfl))
           (try simp only [Act.put, lsA, lsZ, lsN])
           refine wtW (m := 18) (i := 10) (v := ?_) rfl (Or.inl ⟨by rfl, ?_⟩) (SX.both hs0.out hs1.out) ?_
           rotate_left
           ·(intro w hSw; (try dsimp only at hSw); go_simp; try (with_reducible rfl))
           (try simp only [Act.put, lsA, lsZ, lsN])
           refine wtW (m := 18) (i := 11) (v := ?_) rfl (Or.inl ⟨by rfl, ?_⟩) (SX.both hs0.out hs1.out) ?_
           rotate_left
           ·(intro w hSw; (try dsimp only at hSw); go_simp; try (with_reducible rfl))
           (try simp only [Act.put, lsA, lsZ, lsN])
           refine wtW (m := 18) (i := 12) (v := ?_) rfl (Or.inl ⟨by rfl, ?_⟩) (SX.both hs0.out hs1.out) ?_
           rotate_left
           ·(intro w hSw; (try dsimp only at hSw); go_simp; try (with_reducible rfl))
           (try simp only [Act.put, lsA, lsZ, lsN])
           refine wtW (m := 18) (i := 13) (v := ?_) rfl (Or.inl ⟨by rfl, ?_⟩) (SX.both hs0.out hs1.out) ?_
           rotate_left
           ·(intro w hSw; (try dsimp only at hSw); go_simp; try (with_reducible rfl))
           (try simp only [Act.put, lsA, lsZ, lsN])
           refine wtW (m := 18) (i := 14) (v := ?_) rfl (Or.inl ⟨by rfl, ?_⟩) (SX.both hs0.out hs1.out) ?_
           rotate_left
           ·(intro w hSw; (try dsimp only at hSw); go_simp; try (with_reducible rfl))
           (try simp only [Act.put, lsA, lsZ, lsN])
           refine wtW (m := 18) (i := 15) (v := ?_) rfl (Or.inl ⟨by rfl, ?_⟩) (SX.both hs0.out hs1.out) ?_
           rotate_left
           ·(intro w hSw; (try dsimp only at hSw); go_simp; try (with_reducible rfl))
           (try simp only [Act.put, lsA, lsZ, lsN])
           refine wt0 (m := 18) (i := 16) (v := ?_) rfl (Or.inl ⟨by rfl, ?_⟩) (SX.both hs0.out hs1.out) ?_
           rotate_left
           ·(intro w hSw; (try dsimp only at hSw); go_simp; try (with_reducible rfl))
           (try simp only [Act.put, lsA, lsZ, lsN])
           refine wt0 (m := 18) (i := 17) (v := ?_) rfl (Or.inl ⟨by rfl, ?_⟩) (SX.both hs0.out hs1.out) ?_
           rotate_left
           ·(intro w hSw; (try dsimp only at hSw); go_simp; try (with_reducible rfl))
           (try simp only [Act.put, lsA, lsZ, lsN])
           refine wpAnyX_one (j := 18) (by decide +kernel) rfl (fun K' hK => ?_)
           go_simp
           have KK : ∀ b i, b ≠ bk -> ((wr.setCell ⟨bk, j * 2 + 1, none⟩ (.int .i64 v)).drew).cell? ⟨b, i, none⟩ = wr.cell? ⟨b, i, none⟩ := fun b i hb => World.cell?_of_block (a := ⟨b, i, none⟩) (Below.heap_setCell _ _ _ _ hb)
           refine hK.out _ _ (SX.one ⟨(KK _ _ (Ne.symm HBK.out.2.2)).trans hs0.out.1, (KK _ _ (by have h1 := HBL.out; have h2 := HBK.out; have h3 := HR.out.hA; omega)).trans hs0.out.2⟩ (by decide +kernel)) ?_
           clear hK K' KK
           refine wpAnyX_done (by decide +kernel) ?_
           clear hs0 hs1 c1 d0 d1 f1 qv
           have RN : Hid (RI w.heap.size w (gA g) #[.slice (some ⟨tb, 0, none⟩) g.ts.length tc, .slice (some ⟨nb, 0, none⟩) g.ns.length nc, .int .i64 (s1), .slice (some ⟨pb, 0, none⟩) ps.length pc, .slice la ls.length lc] b5 B A H E pb lb tb nb ⟨some ⟨tb, 0, none⟩, tc, mts, some ⟨nb, 0, none⟩, nc, mns, s1, some ⟨pb, 0, none⟩, pc, L.set k ⟨m, some ⟨bk, 0, none⟩, prc, R.set j (kd, v), m2⟩, la, lc, ls⟩ (wr.setCell ⟨bk, j * 2 + 1, none⟩ (.int .i64 v)).drew) := by
            have hh := HR.out.sym hkL (j := j) (by show j < R.length; omega) kd v (by show (R.getD j (0, 0)).1 = kd; rw [HRV.out j hjl, if_neg (Nat.lt_irrefl _), HQ.out])
            exact hh.later (Below.refl _ _).drew
           generalize (wr.setCell ⟨bk, j * 2 + 1, none⟩ (.int .i64 v)).drew = wn at *
           go_wp2
           go_roundw
           case rel =>
            refine ⟨j + 1, R.set j (kd, v), by omega, by go_num, by simpa using hRl, fun t ht => ?_, RN.out⟩
            by_cases e : t = j
            ·subst e
             rw [getD_set_eq (by omega), if_pos (by omega), HQ.out]
             exact HV.out.symm
            ·rw [getD_set_ne e, HRV.out t ht]
             by_cases e2 : t < j
             ·rw [if_pos e2, if_pos (by omega)]
             ·rw [if_neg e2, if_neg (by omega)]
           case measure => simp [intOf]; omega
         ·obtain rfl : j = pr.length := by omega
          have ER : R = pr.map (renS ts ns) := by
           apply List.ext_getElem
           ·simpa using hRl
           ·intro t h1 h2
            have ht : t < pr.length := by omega
            have := hRv t ht
            rw [if_pos ht] at this
            simp only [List.getD, List.getElem?_eq_getElem h1, List.getElem?_eq_getElem ht, Option.getD_some] at this
            rw [this, List.getElem_map]
          subst ER
          clear hRv hR hea
          go_wp2
          go_roundw
          case rel =>
           refine ⟨k + 1, L.set k ⟨m, pra, prc, pr.map (renS ts ns), m2⟩, by omega, by go_num, by simpa using hLl, fun i hi => ?_, HR.out⟩
           have hi' : i < L.length := by simpa using hi
           by_cases e : i = k
           ·subst e
            rw [if_pos (by omega), getD_set_eq hi']
            exact HCO.out
           ·rw [getD_set_ne e, HCR.out i hi']
            by_cases e2 : i < k
            ·rw [if_pos e2, if_pos (by omega)]
            ·rw [if_neg e2, if_neg (by omega)]
          case measure => simp [intOf]; omega
      ·obtain rfl : k = ps.length := by omega
       have HLC : Hid (L.length = ps.length /\ ∀ i, i < L.length -> (L.getD i .none).core = ((ps.getD i .none).ren ts ns).core) := ⟨hLl, fun i hi => by rw [hcore i hi, if_pos (by omega)]⟩
       clear hR hcore
       go_wp2
       clear o3
       have hls : ls.length <= 1048576 := by have h1 := congrArg List.length S4.out.2; have h2 := HO.out.ll; simp at h1; omega
       go_loopw [17] (fun z wr => ∃ (k : Nat) (M : List LV) (E : Nat), k <= ls.length /\ z = .int .i64 k /\ M.length = ls.length /\ (∀ i, i < M.length -> (M.getD i .none).core = if i < k then ((ls.getD i .none).ren ts).core else (ls.getD i .none).core) /\ RI w.heap.size w #[.slice g.ta g.ts.length g.tc, .slice g.na g.ns.length g.nc, .int .i64 g.start, .slice g.pa g.ps.length g.pc, .slice g.la g.ls.length g.lc] #[.slice (some ⟨tb, 0, none⟩) g.ts.length tc, .slice (some ⟨nb, 0, none⟩) g.ns.length nc, .int .i64 (s1), .slice (some ⟨pb, 0, none⟩) ps.length pc, .slice la ls.length lc] b5 B A H E pb lb tb nb ⟨some ⟨tb, 0, none⟩, tc, mts, some ⟨nb, 0, none⟩, nc, mns, s1, some ⟨pb, 0, none⟩, pc, L, la, lc, M⟩ wr) (fun z _ => ls.length - (intOf z).toNat)
       case atStart => exact ⟨0, ls, E, Nat.zero_le _, rfl, rfl, fun i _ => by rw [if_neg (Nat.not_lt_zero _)], HR3.out⟩
       case round =>
        have HLB : Hid (ls ≠ [] -> lb ≠ b5) := fun hne => by have h1 := (HR3.out.mg.l hne).2.lo; have h2 := HB.out; omega
        clear HR3
        obtain ⟨k, M, E1, hk, rfl, hMl, hcoreL, hR⟩ := hrel
        have HCL : Hid (∀ i, i < M.length -> (M.getD i .none).core = if i < k then ((ls.getD i .none).ren ts).core else (ls.getD i .none).core) := hcoreL
        have HR5 : Hid (RI w.heap.size w (gA g) #[.slice (some ⟨tb, 0, none⟩) g.ts.length tc, .slice (some ⟨nb, 0, none⟩) g.ns.length nc, .int .i64 (s1), .slice (some ⟨pb, 0, none⟩) ps.length pc, .slice la ls.length lc] b5 B A H E1 pb lb tb nb ⟨some ⟨tb, 0, none⟩, tc, mts, some ⟨nb, 0, none⟩, nc, mns, s1, some ⟨pb, 0, none⟩, pc, L, la, lc, M⟩ wr) := hR
        have o4 : wr.cell? ⟨b5, 4, none⟩ = some (.slice la ls.length lc) := (cellq_any hR.bx).trans rfl
        by_cases hlt : k < ls.length
        ·have h3 : ls.length = g.ls.length := by simpa using congrArg List.length S4.out.2
         have hkM : k < M.length := by omega
         have hne : ls ≠ [] := by intro e; rw [e] at hlt; simp at hlt
         have hneg : g.ls ≠ [] := by intro e; rw [e] at h3; simp at h3; exact hne h3
         have h1' : (M.getD k .none).core = (ls.getD k .none).core := by rw [hcoreL k hkM, if_neg (Nat.lt_irrefl _)]
         have h1 : (M.getD k .none).core = (g.ls.getD k .none).core := by
          rw [h1', getD_core LV.core, S4.out.2, <- getD_core LV.core]
         obtain ⟨hvne, hv64, hvr⟩ := levOk_of HO.out k (by omega)
         obtain ⟨hla, _⟩ := hR.mg.l (by intro e; simp only at e; rw [e] at hkM; simp at hkM)
         simp only at hla
         have HLA : Hid (la = some ⟨lb, 0, none⟩) := hla
         rw [hla] at o4
         clear hla
         have hmem : g.ls.getD k .none ∈ g.ls := by simp [List.getD, show k < g.ls.length by omega]
         obtain ⟨gb, go, hga, hgl, hgc⟩ := (HGA.out wr hR.cb.bel).1.l.cells hneg
         have x4 : wr.cell? ⟨w.heap.size, 4, none⟩ = some (.slice (some ⟨gb, go, none⟩) g.ls.length g.lc) := by rw [<- hga]; exact (cellq_any hR.cb.box).trans rfl
         have HGB : Hid (∀ w', Below w.heap.size w w' -> w'.cell? ⟨w.heap.size, 4, none⟩ = w'.cell? ⟨w.heap.size, 4, none⟩ /\ w'.cell? ⟨gb, go + k * 2 + 1, none⟩ = some (.slice (g.ls.getD k .none).ta (g.ls.getD k .none).terms.length (g.ls.getD k .none).tc) /\ InRow w' (g.ls.getD k .none).ta (g.ls.getD k .none).terms) := fun w' hb => by
          obtain ⟨gb', go', hga', _, hgc'⟩ := (HGA.out w' hb).1.l.cells hneg
          rw [hga] at hga'
          simp only [Option.some.injEq, Addr.mk.injEq, and_true] at hga'
          obtain ⟨rfl, rfl⟩ := hga'
          exact ⟨rfl, (hgc' k (by omega)).2, (HGA.out w' hb).1.l.rows _ hmem⟩
         have HEQ : Hid ((M.getD k .none).assoc = (ls.getD k .none).assoc /\ (g.ls.getD k .none).terms = (ls.getD k .none).terms) := ⟨congrArg (·.1) h1', (congrArg (·.2) (h1.symm.trans h1')) ⟩
         have HGL : Hid (ls.length = g.ls.length) := h3
         have HVR : Hid (∀ n ∈ (g.ls.getD k .none).terms, 0 <= n /\ n < g.ts.length) := hvr
         clear hcoreL h1 h1' hR hgc hgl hga h3 hmem hvr
         generalize hy : g.ls.getD k .none = y at *
         have HY : Hid (g.ls.getD k .none = y) := hy
         clear hy
         obtain ⟨ya, yta, ytc, yt⟩ := y
         simp only at hvne hv64 HGB HEQ HVR
         have kgl : (k : Int) < (g.ls.length : Int) := by have := HGL.out; omega
         have kl : (k : Int) < (ls.length : Int) := by omega
         rename World => wo
         go_wp2
         go_loopw [18, 19] (fun v z wr => ∃ (j : Nat), j <= yt.length /\ z = .int .i64 j /\ IL wr v ((yt.take j).map fun x => ts.getD x.toNat 0) /\ (∀ q, v.ownBlock = some q -> wo.heap.size <= q) /\ Below wo.heap.size wo wr) (fun _ z _ => yt.length - (intOf z).toNat)
         case atStart => exact ⟨0, Nat.zero_le _, rfl, IL.nil _, fun j hj => by simp [Value.ownBlock] at hj, Below.refl _ _⟩
         case round =>
          obtain ⟨j, hj, rfl, hI, hlo, hb⟩ := hrel
          obtain ⟨ua, uc, rfl⟩ := il_len hI
          have R6 : Hid (RI w.heap.size w (gA g) #[.slice (some ⟨tb, 0, none⟩) g.ts.length tc, .slice (some ⟨nb, 0, none⟩) g.ns.length nc, .int .i64 (s1), .slice (some ⟨pb, 0, none⟩) ps.length pc, .slice la ls.length lc] b5 B A H E1 pb lb tb nb ⟨some ⟨tb, 0, none⟩, tc, mts, some ⟨nb, 0, none⟩, nc, mns, s1, some ⟨pb, 0, none⟩, pc, L, la, lc, M⟩ wr) := HR5.out.later hb
          have z4 : wr.cell? ⟨w.heap.size, 4, none⟩ = some (.slice (some ⟨gb, go, none⟩) g.ls.length g.lc) := (hb.cell (p := ⟨w.heap.size, 4, none⟩) (lt_of_block HR5.out.cb.box)).trans x4
          obtain ⟨_, gc1, gin⟩ := HGB.out wr R6.out.cb.bel
          by_cases hjl : j < yt.length
          ·obtain ⟨tb2, to2, et2, _, tc2⟩ := gin (fun e => by rw [e] at hjl; simp at hjl)
           subst et2
           have t0 := tc2 j hjl
           have hmem : yt.getD j 0 ∈ yt := by simp [List.getD, hjl]
           have hvj := HVR.out _ hmem
           obtain ⟨b1', o1', e1', _, q1w⟩ := (HGA.out wr R6.out.cb.bel).2.1 HTN.out.1
           simp only [Option.some.injEq, Addr.mk.injEq, and_true] at e1'
           obtain ⟨rfl, rfl⟩ := e1'
           have HTK : Hid ((yt.take (j + 1)).map (fun x => ts.getD x.toNat 0) = (yt.take j).map (fun x => ts.getD x.toNat 0) ++ [ts.getD (yt.getD j 0).toNat 0]) := by
            show _ = _
            rw [List.take_succ_eq_append_getElem hjl, List.map_append]
            simp [List.getD, hjl]
           have HML : Hid (((yt.take j).map fun x => ts.getD x.toNat 0).length <= 2000000) := by show _ <= _; simp; omega
           clear tc2 hmem gin
           generalize hq : yt.getD j 0 = q at *
           clear hq
           obtain ⟨sn, rfl⟩ : ∃ sn : Nat, q = (sn : Int) := ⟨q.toNat, by omega⟩
           have hsl : sn < ts.length := by have := HLN.out.1; omega
           have hsl2 : (sn : Int) < (ts.length : Int) := by omega
           have q1 := q1w sn hsl
           have HTV : Hid (ts.getD ((sn : Int)).toNat 0 = ts.getD sn 0) := by show _ = _; simp
           rw [HTV.out] at HTK
           generalize ts.getD sn 0 = v at *
           generalize hM : ((yt.take j).map fun x => ts.getD x.toNat 0) = MM at *
           have HI : Hid (IL wr (.slice ua MM.length uc) MM /\ (∀ q, (Value.slice ua MM.length uc).ownBlock = some q -> wo.heap.size <= q) /\ Below wo.heap.size wo wr) := ⟨hI, hlo, hb⟩
           have jl2 : (j : Int) < (yt.length : Int) := by omega
           clear hM hI hlo hb q1w hvj
           go_wp2_with (at_builtin; refine wpList_il_append rfl _ _ rfl _ MM rfl (HI.out.1.later (below_alloc _ _)) _ 1 v rfl ((cellq_any (alloc_at _ _)).trans rfl) HML.out ?_; intro a4 n4 c4 w4 ho4 hg4)
           go_roundw
           case rel =>
            refine ⟨j + 1, by omega, by go_num, ?_, fun q hq => ?_, ?_⟩
            ·rw [HTK.out]
             exact ho4
            ·rcases hg4.moved with e | ⟨z, e, hz⟩
             ·rw [e] at hq; exact HI.out.2.1 q hq
             ·rw [e] at hq; have := HI.out.2.2.size; simp at hq hz; omega
            ·have hba : Below wo.heap.size wo (wr.alloc (.cells #[.int .i64 v] 3)) := HI.out.2.2.trans ((below_alloc _ _).mono HI.out.2.2.size)
             exact hba.grown hg4.grown hba.size (fun q hq => HI.out.2.1 q hq)
           case measure => simp [intOf]; omega
          ·obtain rfl : j = yt.length := by omega
           rw [List.take_length] at hI hlo ⊢
           obtain ⟨l', hl'⟩ : ∃ x, (yt.map fun x => ts.getD x.toNat 0) = x := ⟨_, rfl⟩
           have HL' : Hid ((yt.map fun x => ts.getD x.toNat 0) = l') := hl'
           rw [hl'] at hI hlo ⊢
           have hl64 : l'.length <= 1000 := by rw [<- hl']; simp; omega
           have hlne : l' ≠ [] := by rw [<- hl']; simpa using hvne
           have HSO : Hid (riseU l' 64 = sortU l') := rise_sort (fun x hx => by
            rw [<- hl'] at hx
            obtain ⟨n, hn, rfl⟩ := List.mem_map.1 hx
            have h := HVR.out n hn
            have h4 := HLN.out.1
            have h2 := HNO.out.tp.lo n.toNat (by omega)
            have h3 := HO.out.tl.2
            exact ⟨h2.1, by omega⟩)
           have HSN : Hid (sortU l' ≠ []) := fun e => hlne (List.eq_nil_of_length_eq_zero (by rw [<- (sortU_perm l').length_eq, e]; rfl))
           have HIN : Hid (InRow wr ua l') := IL.inrow hI
           have HBW : Hid (Below wo.heap.size wo wr) := hb
           have hs0 : Hid ((fun (w' : World) => w'.cell? ⟨b5, 4, none⟩ = some (.slice (some ⟨lb, 0, none⟩) ls.length lc)) wr.drew) := (hb.cell (p := ⟨b5, 4, none⟩) (lt_of_block HR5.out.bx)).trans o4
           clear hI hlo hb gin hl' hlne
           go_wp2
           refine wp_region_x (S := fun _ => (fun (w' : World) => w'.cell? ⟨b5, 4, none⟩ = some (.slice (some ⟨lb, 0, none⟩) ls.length lc))) (by kernel_rfl) ?_
           refine wtC (i := 0) (v := ?_) rfl (Or.inl ⟨by rfl, ?_⟩) hs0.out ?_
           rotate_left
           ·(intro w hSw; (try dsimp only at hSw); go_simp; try (with_reducible rfl))
           (try simp only [Act.put, lsA, lsZ, lsN])
           refine wtC (i := 1) (v := ?_) rfl (Or.inl ⟨by rfl, ?_⟩) hs0.out ?_
           rotate_left
           ·(intro w hSw; (try dsimp only at hSw); go_simp; try (with_reducible rfl))
           (try simp only [Act.put, lsA, lsZ, lsN])
           refine wtC (i := 2) (v := ?_) rfl (Or.inl ⟨by rfl, ?_⟩) hs0.out ?_
           rotate_left
           ·(intro w hSw; (try dsimp only at hSw); go_simp; try (with_reducible rfl))
           (try simp only [Act.put, lsA, lsZ, lsN])
           refine wtC (i := 3) (v := ?_) rfl (Or.inl ⟨by rfl, ?_⟩) hs0.out ?_
           rotate_left
           ·(intro w hSw; (try dsimp only at hSw); go_simp; try (with_reducible rfl))
           (try simp only [Act.put, lsA, lsZ, lsN])
           refine wpAnyX_one (j := 4) (by decide +kernel) rfl (fun K' hK => ?_)
           refine step_callX rfl 50 #[.slice ua l'.length uc] _ (run_rise (v0 := .slice ua l'.length uc) (by rfl) (by rfl) _) (rise_G ua uc l' _ hl64 (HIN.out.later (Below.refl _ _).drew)) ?_
           rintro e w8 ⟨v8, rfl, i8, lo8, b8'⟩
           have b8 : Below wr.heap.size wr w8 := (Below.refl _ wr).drew.trans b8'
           rw [HSO.out] at i8
           obtain ⟨bb, bc, rfl, rb8⟩ := il_rb i8 HSN.out
           have hbb := lo8 bb rfl
           have R8 : Hid (RI w.heap.size w (gA g) #[.slice (some ⟨tb, 0, none⟩) g.ts.length tc, .slice (some ⟨nb, 0, none⟩) g.ns.length nc, .int .i64 (s1), .slice (some ⟨pb, 0, none⟩) ps.length pc, .slice la ls.length lc] b5 B A H E1 pb lb tb nb ⟨some ⟨tb, 0, none⟩, tc, mts, some ⟨nb, 0, none⟩, nc, mns, s1, some ⟨pb, 0, none⟩, pc, L, la, lc, M⟩ w8) := R6.out.later b8
           have HB8 : Hid (RB w8 bb 3 ((sortU l').map (.int .i64 ·)) /\ wr.heap.size <= bb) := ⟨rb8, hbb⟩
           have s8 : Hid ((fun (w' : World) => w'.cell? ⟨b5, 4, none⟩ = some (.slice (some ⟨lb, 0, none⟩) ls.length lc)) w8) := (b8.cell (p := ⟨b5, 4, none⟩) (lt_of_block R6.out.bx)).trans hs0.out
           refine ⟨_, rfl, hK.out _ _ s8.out ?_⟩
           clear hK K' i8 lo8 b8' rb8 hbb hs0
           refine wtC (i := 5) (v := ?_) rfl (Or.inl ⟨by rfl, ?_⟩) s8.out ?_
           rotate_left
           ·(intro w hSw; (try dsimp only at hSw); go_simp; try (with_reducible rfl))
           (try simp only [Act.put, lsA, lsZ, lsN])
           refine wtC (i := 6) (v := ?_) rfl (Or.inl ⟨by rfl, ?_⟩) s8.out ?_
           rotate_left
           ·(intro w hSw; (try dsimp only at hSw); go_simp; try (with_reducible rfl))
           (try simp only [Act.put, lsA, lsZ, lsN])
           have hMne : M ≠ [] := by intro e; rw [e] at hkM; simp at hkM
           have hlm := (R8.out.mg.l hMne).2
           have d0 := hlm.row.cell (levCells_get M k hkM).2
           have f0 : w8.frozen? ⟨lb, k * 2 + 1, none⟩ = false := hlm.row.free _
           have hz : lb < w8.heap.size := hlm.row.lt
           have hl8 := HLB.out hne
           have R9 : Hid (RI w.heap.size w (gA g) #[.slice (some ⟨tb, 0, none⟩) g.ts.length tc, .slice (some ⟨nb, 0, none⟩) g.ns.length nc, .int .i64 (s1), .slice (some ⟨pb, 0, none⟩) ps.length pc, .slice la ls.length lc] b5 B A H w8.heap.size pb lb tb nb ⟨some ⟨tb, 0, none⟩, tc, mts, some ⟨nb, 0, none⟩, nc, mns, s1, some ⟨pb, 0, none⟩, pc, L, la, lc, (M.set k { M.getD k .none with ta := some ⟨bb, 0, none⟩, tc := bc, terms := sortU l' })⟩ (w8.setCell ⟨lb, k * 2 + 1, none⟩ (.slice (some ⟨bb, 0, none⟩) (sortU l').length bc))) := R8.out.level hkM ⟨HD.out.2.1, HD.out.2.2⟩ hl8 bb bc (sortU l') (by have h1 := HB8.out.2; have h2 := R6.out.mg.ord; omega) HB8.out.1
           clear hlm
           refine wpAnyX_one (j := 7) (by decide +kernel) rfl (fun K' hK => ?_)
           go_simp
           refine hK.out _ _ ((World.cell?_of_block (a := ⟨b5, 4, none⟩) (Below.heap_setCell _ _ _ _ (Ne.symm hl8))).trans s8.out) ?_
           clear hK K'
           refine wpAnyX_done (by decide +kernel) ?_
           clear d0 f0 hz s8 R8
           generalize hw9 : w8.setCell ⟨lb, k * 2 + 1, none⟩ (.slice (some ⟨bb, 0, none⟩) (sortU l').length bc) = w9 at *
           go_wp2
           go_roundw
           case rel =>
            refine ⟨k + 1, M.set k { M.getD k .none with ta := some ⟨bb, 0, none⟩, tc := bc, terms := sortU l' }, w8.heap.size, by omega, by go_num, by simpa using hMl, fun i hi => ?_, R9.out⟩
            have hi' : i < M.length := by simpa using hi
            by_cases e : i = k
            ·subst e
             rw [if_pos (by omega), getD_set_eq hi']
             show ((M.getD i .none).assoc, sortU l') = _
             rw [HEQ.out.1, <- HL'.out, HEQ.out.2]
             rfl
            ·rw [getD_set_ne e, HCL.out i hi']
             by_cases e2 : i < k
             ·rw [if_pos e2, if_pos (by omega)]
             ·rw [if_neg e2, if_neg (by omega)]
           case measure => simp [intOf]; omega
        ·obtain rfl : k = ls.length := by omega
         have b0' : wr.cell? ⟨b5, 0, none⟩ = some (.slice (some ⟨tb, 0, none⟩) g.ts.length tc) := (cellq_any HR5.out.bx).trans rfl
         have r0 : wr.cell? ⟨w.heap.size + 1, 0, none⟩ = some (.slice none 0 0) := (cellq_any HR5.out.cb.out).trans rfl
         have y0 : wr.frozen? ⟨w.heap.size + 1, 0, none⟩ = false := by simp [World.frozen?, HR5.out.cb.out]
         have b1' : wr.cell? ⟨b5, 1, none⟩ = some (.slice (some ⟨nb, 0, none⟩) g.ns.length nc) := (cellq_any HR5.out.bx).trans rfl
         have r1 : wr.cell? ⟨w.heap.size + 1, 1, none⟩ = some (.slice none 0 0) := (cellq_any HR5.out.cb.out).trans rfl
         have y1 : wr.frozen? ⟨w.heap.size + 1, 1, none⟩ = false := by simp [World.frozen?, HR5.out.cb.out]
         have b2' : wr.cell? ⟨b5, 2, none⟩ = some (.int .i64 s1) := (cellq_any HR5.out.bx).trans rfl
         have r2 : wr.cell? ⟨w.heap.size + 1, 2, none⟩ = some (.int .i64 0) := (cellq_any HR5.out.cb.out).trans rfl
         have y2 : wr.frozen? ⟨w.heap.size + 1, 2, none⟩ = false := by simp [World.frozen?, HR5.out.cb.out]
         have b3' : wr.cell? ⟨b5, 3, none⟩ = some (.slice (some ⟨pb, 0, none⟩) ps.length pc) := (cellq_any HR5.out.bx).trans rfl
         have r3 : wr.cell? ⟨w.heap.size + 1, 3, none⟩ = some (.slice none 0 0) := (cellq_any HR5.out.cb.out).trans rfl
         have y3 : wr.frozen? ⟨w.heap.size + 1, 3, none⟩ = false := by simp [World.frozen?, HR5.out.cb.out]
         have b4' : wr.cell? ⟨b5, 4, none⟩ = some (.slice la ls.length lc) := (cellq_any HR5.out.bx).trans rfl
         have r4 : wr.cell? ⟨w.heap.size + 1, 4, none⟩ = some (.slice none 0 0) := (cellq_any HR5.out.cb.out).trans rfl
         have y4 : wr.frozen? ⟨w.heap.size + 1, 4, none⟩ = false := by simp [World.frozen?, HR5.out.cb.out]
         have hz : w.heap.size + 1 < wr.heap.size := lt_of_block HR5.out.cb.out
         clear hR hcoreL o4
         go_wp2
         refine bodyPost_ret (v := .tuple #[.agg #[.slice (some ⟨tb, 0, none⟩) g.ts.length tc, .slice (some ⟨nb, 0, none⟩) g.ns.length nc, .int .i64 s1, .slice (some ⟨pb, 0, none⟩) ps.length pc, .slice la ls.length lc], .int .i64 0]) (by simp [results, Tryz.results14, go_sem, r0, r1, r2, r3, r4]) rfl ?_
         have h5 := HR5.out.cb.five (.slice (some ⟨tb, 0, none⟩) g.ts.length tc) (.slice (some ⟨nb, 0, none⟩) g.ns.length nc) (.int .i64 s1) (.slice (some ⟨pb, 0, none⟩) ps.length pc) (.slice la ls.length lc)
         have hB := HB.out
         refine ⟨⟨some ⟨tb, 0, none⟩, tc, mts, some ⟨nb, 0, none⟩, nc, mns, s1, some ⟨pb, 0, none⟩, pc, L, la, lc, M⟩, A, H, E1, pb, lb, tb, nb, ?_, ⟨?_, ?_, ?_, ?_, ?_⟩, ?_, h5.1⟩
         ·have hm1 : mts.length = g.ts.length := by rw [<- HMV.out.1, moveU_len]
          have hm2 : mns.length = g.ns.length := by rw [<- HMV.out.2, moveU_len]
          simp only [GV.val, HLC.out.1, hMl, hm1, hm2]
         ·exact HMV.out.1.symm
         ·exact HMV.out.2.symm
         ·exact HST.out.symm
         ·have e3 : ps.length = g.ps.length := by simpa using congrArg List.length S4.out.1
          refine core_ext PV.core .none (by simp [GV.ren]; have := HLC.out.1; omega) fun i hi => ?_
          have hi' : i < L.length := hi
          have hil := HLC.out.1
          rw [HLC.out.2 i hi']
          have e4 : ((g.ren ts ns).ps.getD i .none) = (g.ps.getD i .none).ren ts ns := by simp [GV.ren, List.getD, show i < g.ps.length by omega]
          rw [e4]
          exact ren_core ts ns (by rw [getD_core PV.core, S4.out.1, <- getD_core PV.core])
         ·have e3 : ls.length = g.ls.length := by simpa using congrArg List.length S4.out.2
          refine core_ext LV.core .none (by simp [GV.ren]; omega) fun i hi => ?_
          have hi' : i < M.length := hi
          rw [HCL.out i hi', if_pos (by omega)]
          have e4 : ((g.ren ts ns).ls.getD i .none) = (g.ls.getD i .none).ren ts := by simp [GV.ren, List.getD, show i < g.ls.length by omega]
          rw [e4]
          exact lren_core ts (by rw [getD_core LV.core, S4.out.2, <- getD_core LV.core])
         ·refine (HR5.out.mg.kept ?_ fun j hj _ => h5.2 j (by omega)).mono (by omega)
          simp
end Go.Proofs.YtmkakdfdfdcncaaGreatDoor
