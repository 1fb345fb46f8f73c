import Derived.Test.YthgnhdnmcjpdmaaGreatDoorPGT0ToGT4
import Derived.Shelf.SlicesQ.Reverse
import Derived.Test.YthgnhdnmcjpdmaaGreatDoorPGOk2
namespace Go.Proofs.YthgnhdnmcjpdmaaGreatDoor
set_option linter.unusedVariables false
set_option maxRecDepth 100000
set_option maxHeartbeats 16000000
open Go.RowKit Go.Shelf Go.Sort
def revRen : Ren := ⟨fun _ => 22, fun x => if x = 22 then 73 else if x = 23 then 30 else x, fun x => x⟩
theorem rev_lays : SlLaysE0.n35 Tryz.prog revRen := {
 mixed := by kernel_rfl
 f35 := ⟨Tryz.f22.name, by decide, by kernel_rfl⟩
 t0 := by kernel_rfl
 a0 := fun _ => by kernel_rfl
 z0 := fun _ => by kernel_rfl
 v0 := fun _ => by kernel_rfl
 t3 := by kernel_rfl
 a3 := fun _ => by kernel_rfl
 z3 := fun _ => by kernel_rfl
 v3 := fun _ => by kernel_rfl
 t4 := by kernel_rfl
 a4 := fun _ => by kernel_rfl
 z4 := fun _ => by kernel_rfl
 v4 := fun _ => by kernel_rfl
 t22 := by kernel_rfl
 a22 := fun _ => by kernel_rfl
 z22 := fun _ => by kernel_rfl
 v22 := fun _ => by kernel_rfl }
def symEnc (q : Int × Int) : List Value := [.int .i64 q.1, .int .i64 q.2]
theorem flat_sym (r : List (Int × Int)) : flatK symEnc 2 r.toArray = (symCells r).toArray := by
 apply Array.ext
 ·simp [symCells_len]
 ·intro t h1 h2
  have ht : t < r.length * 2 := by simpa using h1
  have hk : t / 2 < r.length := by omega
  obtain ⟨q1, q2⟩ := symCells_get r (t / 2) hk
  have hm : t % 2 = 0 ∨ t % 2 = 1 := by omega
  have e0 : r.getD (t / 2) (0, 0) = r[t / 2] := by simp [List.getD, hk]
  rcases hm with hm | hm
  ·have e : t / 2 * 2 = t := by omega
   rw [e, e0] at q1
   have q1' := (List.getElem?_eq_some_iff.1 q1).2
   simp only [flatK, List.getElem_toArray, Array.getElem_map, Array.getElem_range, q1', hm]
   simp [symEnc, hk]
  ·have e : t / 2 * 2 + 1 = t := by omega
   rw [e, e0] at q2
   have q2' := (List.getElem?_eq_some_iff.1 q2).2
   simp only [flatK, List.getElem_toArray, Array.getElem_map, Array.getElem_range, q2', hm]
   simp [symEnc, hk]
theorem RB.holds {w : World} {b : Nat} {t : TypeId} {xs : List Value} {c s : Nat} (h : RB w b t xs c s) : Holds id w b 0 xs.toArray := fun j hj => by
 have hj' : j < xs.length := by simpa using hj
 refine ⟨?_, h.free _⟩
 rw [Nat.zero_add, h.cell (i := j) (u := xs[j]) (List.getElem?_eq_getElem hj')]
 simp [hj']
theorem heap_put {w : World} {b n : Nat} {F : Array Value} {cur : Array Value} {t : TypeId} (hb : w.heap[b]? = some (.cells cur t (0, 0))) : (putRow id (Sort.ahead w n) b 0 F).heap[b]? = some (.cells (putCells id 0 F cur) t (0, 0)) := by
 simp [putRow, mapBlock, Sort.ahead, Array.getElem?_modify, hb, onCells]
theorem heap_put_ne {w : World} {b n j : Nat} {F : Array Value} (h : j ≠ b) : (putRow id (Sort.ahead w n) b 0 F).heap[j]? = w.heap[j]? := by
 simp [putRow, mapBlock, Sort.ahead, Array.getElem?_modify, Ne.symm h]
theorem RB.put {w : World} {b : Nat} {t : TypeId} {xs ys : List Value} {c s : Nat} (h : RB w b t xs c s) (n : Nat) (hl : ys.length = xs.length) : RB (putRow id (Sort.ahead w n) b 0 ys.toArray) b t ys c s := by
 obtain ⟨cur, h1, h2, _, h4, h5⟩ := h
 refine ⟨_, heap_put h1, by simp [putCells]; omega, ?_, by simpa [putCells] using h4, h5⟩
 apply List.ext_getElem?
 intro j
 by_cases hj : j < ys.length
 ·rw [List.getElem?_take_of_lt hj, Array.getElem?_toList]
  simp [putCells, hj, show j < cur.size by omega]
 ·rw [List.getElem?_take_eq_none (by omega), List.getElem?_eq_none (by omega)]
structure Turned (w w' : World) (b : Nat) : Prop where
 size : w.heap.size <= w'.heap.size
 other : ∀ j, j < w.heap.size -> j ≠ b -> w'.heap[j]? = w.heap[j]?
 bel : ∀ B, B <= w.heap.size -> B <= b -> Below B w w'
theorem turned_put (w : World) (b n : Nat) (F : Array Value) : Turned w (putRow id (Sort.ahead w n) b 0 F) b := by
 have hs : (putRow id (Sort.ahead w n) b 0 F).heap.size = w.heap.size := by simp [putRow, mapBlock, Sort.ahead]
 refine ⟨by omega, fun j _ hj => heap_put_ne hj, fun B hB hb => ?_⟩
 have hg : w.grownBy (putRow id (Sort.ahead w n) b 0 F) (some b) := ⟨rfl, rfl, rfl, by omega, fun k _ hk => heap_put_ne fun e => hk (by rw [e])⟩
 exact (Below.refl B w).grown hg hB (fun k e => by cases e; exact hb)
theorem rev_sym {C S : Nat} (b c : Nat) (r : List (Int × Int)) (w : World) (hr : r.length <= 1048576) (h : RB w b 30 (symCells r) C S) :
  Calls Tryz.prog 22 #[.slice (some ⟨b, 0, none⟩) r.length c] w fun e w' => e = .returned (.tuple #[]) /\ RB w' b 30 (symCells r.reverse) C S /\ Turned w w' b := by
 have hH : HoldsK symEnc 2 w b 0 r.toArray := by
  unfold HoldsK
  rw [flat_sym]
  exact h.holds
 have hc := AnyQ.slices_Reverse rev_lays 2 (fun _ => by kernel_rfl) (fun _ => by kernel_rfl) symEnc (fun _ => rfl) (fun x v hv => by simp [symEnc] at hv; rcases hv with rfl | rfl <;> rfl) b 0 c r.toArray w hH (by simp; omega)
 change Calls Tryz.prog 22 _ _ _ at hc
 simp only [List.reverse_toArray, List.size_toArray] at hc
 refine hc.mono ?_
 rintro e w' ⟨rfl, n, rfl⟩
 refine ⟨rfl, ?_, ?_⟩
 ·unfold putRowK
  rw [flat_sym]
  exact h.put n (by simp [symCells_len])
 ·exact turned_put w b n _
theorem rev_none (ao : Option Addr) (c : Nat) (w : World) : Calls Tryz.prog 22 #[.slice ao 0 c] w fun e w' => e = .returned (.tuple #[]) /\ w' = w := by
 go_enter Tryz.func22, Tryz.ntmps22
 go_wp2
 go_loopw [2, 3] (fun i j wr => i = .int .i64 0 /\ j = .int .i64 (-1) /\ wr = w) (fun _ _ _ => 0)
 case atStart => exact ⟨rfl, rfl, rfl⟩
 case round =>
  obtain ⟨rfl, rfl, rfl⟩ := hrel
  go_wp2
  go_end0
  exact ⟨rfl, rfl⟩
theorem MG.prods {B : Nat} {w w' : World} {g : GV} {A H E pb lb tb nb : Nat} (h : MG B w g A H E pb lb tb nb) (hs : w.heap.size <= w'.heap.size) (hk : ∀ j, j < w.heap.size -> j < A ∨ H <= j -> w'.heap[j]? = w.heap[j]?) (L : List PV) (hL : L.length = g.ps.length) (hp : PM A H w' pb g.pc L.length L) : MG B w' { g with ps := L } A H E pb lb tb nb := by
 have ho := h.ord
 refine ⟨⟨ho.1, ho.2.1, ho.2.2.1, by omega⟩, ⟨h.t.1, h.t.2.1.kept (hk _ h.t.2.1.lt (by have := h.t.2.2; omega)), h.t.2.2⟩, ⟨h.n_.1, h.n_.2.1.kept (hk _ h.n_.2.1.lt (by have := h.n_.2.2; omega)), h.n_.2.2⟩, h.pa, hp, by show L.length <= g.pc; rw [hL]; exact h.pc, fun hl => ⟨(h.l hl).1, (h.l hl).2.kept fun j hj hj2 => hk j (by omega) (.inr hj)⟩, h.tn⟩
theorem MG.later {B : Nat} {w w' : World} {g : GV} {A H E pb lb tb nb : Nat} (h : MG B w g A H E pb lb tb nb) (hb : Below w.heap.size w w') : MG B w' g A H E pb lb tb nb := by
 have ho := h.ord
 have hbs := hb.size
 exact ⟨⟨ho.1, ho.2.1, ho.2.2.1, by omega⟩, ⟨h.t.1, h.t.2.1.later hb, h.t.2.2⟩, ⟨h.n_.1, h.n_.2.1.later hb, h.n_.2.2⟩, h.pa, h.p.later (by omega) hb, h.pc, fun hl => ⟨(h.l hl).1, (h.l hl).2.later ho.2.2.2 hb⟩, h.tn⟩
theorem strRow_of {w : World} {b c s : Nat} {l : List ByteArray} (h : RB w b 9 (l.map .string) c s) : StrRow w (some ⟨b, 0, none⟩) l := by
 intro _
 refine ⟨b, 0, rfl, h.lt, fun i hi => ?_⟩
 have r1 := h.cell (i := i) (u := .string (l.getD i ByteArray.empty)) (by simp [List.getD, hi])
 simpa using r1
theorem MG.at {B : Nat} {w : World} {g : GV} {A H E pb lb tb nb : Nat} (h : MG B w g A H E pb lb tb nb) (n : Nat) (tz : ∀ s ∈ g.ts, s.size <= maxLen) (nz : ∀ s ∈ g.ns, s.size <= maxLen) (tl : g.ts.length <= n) (nl : g.ns.length <= n) (pl : g.ps.length <= n) (ll : g.ls.length <= n) (rl : ∀ p ∈ g.ps, p.right.length <= n) (vl : ∀ p ∈ g.ls, p.terms.length <= n) : GAt n w g := by
 refine ⟨?_, ?_, ?_, ?_, tz, nz, tl, nl, pl, ll, rl, vl⟩
 ·rw [h.t.1]; exact strRow_of h.t.2.1
 ·rw [h.n_.1]; exact strRow_of h.n_.2.1
 ·rw [h.pa]; exact h.p.at
 ·by_cases hl : g.ls = []
  ·rw [hl]; exact ⟨fun e => absurd rfl e, fun p hp => by cases hp⟩
  ·rw [(h.l hl).1]; exact (h.l hl).2.at
theorem MG.kept {B : Nat} {w w' : World} {g : GV} {A H E pb lb tb nb : Nat} (h : MG B w g A H E pb lb tb nb) (hs : w.heap.size <= w'.heap.size) (hk : ∀ j, B <= j -> j < w.heap.size -> w'.heap[j]? = w.heap[j]?) : MG B w' g A H E pb lb tb nb := by
 have ho := h.ord
 exact ⟨⟨ho.1, ho.2.1, ho.2.2.1, by omega⟩, ⟨h.t.1, h.t.2.1.kept (hk _ h.t.2.2.2 h.t.2.1.lt), h.t.2.2⟩, ⟨h.n_.1, h.n_.2.1.kept (hk _ h.n_.2.2.2 h.n_.2.1.lt), h.n_.2.2⟩, h.pa, h.p.kept fun j hj hj2 => hk j (by omega) (by omega), h.pc, fun hl => ⟨(h.l hl).1, (h.l hl).2.kept fun j hj hj2 => hk j (by omega) (by omega)⟩, h.tn⟩
theorem MG.mono {B B' : Nat} {w : World} {g : GV} {A H E pb lb tb nb : Nat} (h : MG B w g A H E pb lb tb nb) (hB : B' <= B) : MG B' w g A H E pb lb tb nb := by
 have ho := h.ord
 have h1 := h.t.2.2.2
 have h2 := h.n_.2.2.2
 exact ⟨⟨by omega, ho.2⟩, ⟨h.t.1, h.t.2.1, h.t.2.2.1, by omega⟩, ⟨h.n_.1, h.n_.2.1, h.n_.2.2.1, by omega⟩, h.pa, h.p, h.pc, h.l, h.tn⟩
theorem core_ext {α β : Type} (f : α -> β) (d : α) {l m : List α} (hl : l.length = m.length) (h : ∀ i, i < l.length -> f (l.getD i d) = f (m.getD i d)) : l.map f = m.map f := by
 apply List.ext_getElem
 ·simpa using hl
 ·intro i h1 h2
  have h1' : i < l.length := by simpa using h1
  have := h i h1'
  simp [List.getD, h1', show i < m.length by omega] at this
  simpa using this
def crev (c : Int × List (Int × Int) × Int) : Int × List (Int × Int) × Int := (c.1, c.2.1.reverse, c.2.2)
theorem CBx.five {n0 : Nat} {w0 w : World} {arr : Array Value} (h : CBx n0 w0 arr w) (a b c d e : Value) :
  Below n0 w0 (((((w.setCell ⟨n0 + 1, 0, none⟩ a).setCell ⟨n0 + 1, 1, none⟩ b).setCell ⟨n0 + 1, 2, none⟩ c).setCell ⟨n0 + 1, 3, none⟩ d).setCell ⟨n0 + 1, 4, none⟩ e) /\ ∀ j, j ≠ n0 + 1 -> (((((w.setCell ⟨n0 + 1, 0, none⟩ a).setCell ⟨n0 + 1, 1, none⟩ b).setCell ⟨n0 + 1, 2, none⟩ c).setCell ⟨n0 + 1, 3, none⟩ d).setCell ⟨n0 + 1, 4, none⟩ e).heap[j]? = w.heap[j]? := by
 refine ⟨((((h.bel.setCell (p := ⟨n0 + 1, 0, none⟩) (by show n0 <= n0 + 1; omega) _).setCell (p := ⟨n0 + 1, 1, none⟩) (by show n0 <= n0 + 1; omega) _).setCell (p := ⟨n0 + 1, 2, none⟩) (by show n0 <= n0 + 1; omega) _).setCell (p := ⟨n0 + 1, 3, none⟩) (by show n0 <= n0 + 1; omega) _).setCell (p := ⟨n0 + 1, 4, none⟩) (by show n0 <= n0 + 1; omega) _, fun j hj => ?_⟩
 rw [Below.heap_setCell _ _ _ _ hj, Below.heap_setCell _ _ _ _ hj, Below.heap_setCell _ _ _ _ hj, Below.heap_setCell _ _ _ _ hj, Below.heap_setCell _ _ _ _ hj]
theorem reverse_no (g : GV) (w : World) (h : GAt 140737488355328 w g) (hpc : g.ps.length <= g.pc) (er at_ : Int) (hE : checkG g (checkF g.ts g.ns) = (er, at_)) (h0 : er ≠ 0) :
  Calls Tryz.prog 6 #[g.val] w fun e w' => e = .returned (.tuple #[.agg #[.slice none 0 0, .slice none 0 0, .int .i64 0, .slice none 0 0, .slice none 0 0], .int .i64 er]) /\ Below w.heap.size w w' := by
 have CB0 : Hid (CBx w.heap.size w (gA g) ((w.alloc (.cells (gA g) 26)).alloc (.cells #[.slice none 0 0, .slice none 0 0, .int .i64 0, .slice none 0 0, .slice none 0 0] 26))) := cb_start g w
 have HGA : Hid (GAt 140737488355328 ((w.alloc (.cells (gA g) 26)).alloc (.cells #[.slice none 0 0, .slice none 0 0, .int .i64 0, .slice none 0 0, .slice none 0 0] 26)) g) := h.later CB0.out.bel
 have he : (er != 0) = true := by simpa using h0
 clear h
 go_enter Tryz.func6, Tryz.ntmps6
 go_wp2_with (go_at_call 17; refine (check_G g _ HGA.out hpc er at_ hE).mono ?_; rintro e w1 ⟨rfl, b1⟩; have C1 : Hid (CBx w.heap.size w (gA g) w1) := CB0.out.later b1; have x0 : w1.cell? ⟨w.heap.size + 1, 0, none⟩ = some (.slice none 0 0) := (cellq_any C1.out.out).trans rfl; have x1 : w1.cell? ⟨w.heap.size + 1, 1, none⟩ = some (.slice none 0 0) := (cellq_any C1.out.out).trans rfl; have x2 : w1.cell? ⟨w.heap.size + 1, 2, none⟩ = some (.int .i64 0) := (cellq_any C1.out.out).trans rfl; have x3 : w1.cell? ⟨w.heap.size + 1, 3, none⟩ = some (.slice none 0 0) := (cellq_any C1.out.out).trans rfl; have x4 : w1.cell? ⟨w.heap.size + 1, 4, none⟩ = some (.slice none 0 0) := (cellq_any C1.out.out).trans rfl; have y0 : w1.frozen? ⟨w.heap.size + 1, 0, none⟩ = false := (by simp [World.frozen?, C1.out.out]); have y1 : w1.frozen? ⟨w.heap.size + 1, 1, none⟩ = false := (by simp [World.frozen?, C1.out.out]); have y2 : w1.frozen? ⟨w.heap.size + 1, 2, none⟩ = false := (by simp [World.frozen?, C1.out.out]); have y3 : w1.frozen? ⟨w.heap.size + 1, 3, none⟩ = false := (by simp [World.frozen?, C1.out.out]); have y4 : w1.frozen? ⟨w.heap.size + 1, 4, none⟩ = false := (by simp [World.frozen?, C1.out.out]); have hz : w.heap.size + 1 < w1.heap.size := lt_of_block C1.out.out; clear b1)
 refine bodyPost_ret (v := .tuple #[.agg #[.slice none 0 0, .slice none 0 0, .int .i64 0, .slice none 0 0, .slice none 0 0], .int .i64 er]) (by simp [results, Tryz.results6, go_sem, x0, x1, x2, x3, x4]) rfl ?_
 exact ⟨rfl, (C1.out.five _ _ _ _ _).1⟩
theorem reverse_ok (g : GV) (w : World) (h : GAt 140737488355328 w g) (hpc : g.ps.length <= g.pc) (at_ : Int) (hE : checkG g (checkF g.ts g.ns) = (0, at_)) :
  Calls Tryz.prog 6 #[g.val] w fun e w' => ∃ g' A H E pb lb tb nb, e = .returned (.tuple #[g'.val, .int .i64 0]) /\ SameG g.rev g' /\ MG w.heap.size w' g' A H E pb lb tb nb /\ Below w.heap.size w w' := by
 have ok : OkC g := OkC.of (by rw [hE])
 have CB0 : Hid (CBx w.heap.size w (gA g) ((w.alloc (.cells (gA g) 26)).alloc (.cells #[.slice none 0 0, .slice none 0 0, .int .i64 0, .slice none 0 0, .slice none 0 0] 26))) := cb_start g w
 have HGA : Hid (∀ w', Below w.heap.size w w' -> GAt 140737488355328 w' g) := fun w' hb => h.later hb
 have he : ((0 : Int) != 0) = false := by simp
 have HO : Hid (OkC g) := ok
 have HN : Hid (g.ts ≠ [] /\ g.ns ≠ [] /\ g.ps ≠ []) := ⟨fun e => by have := ok.tl; rw [e] at this; simp at this, fun e => by have := ok.nl; rw [e] at this; simp at this, fun e => by have := ok.pl; rw [e] at this; simp at this⟩
 clear h ok
 go_enter Tryz.func6, Tryz.ntmps6
 go_wp2_with (first
  | (go_at_call 17; refine (check_G g _ (HGA.out _ CB0.out.bel) hpc 0 at_ hE).mono ?_; rintro e w1 ⟨rfl, b1⟩; have C1 : Hid (CBx w.heap.size w (gA g) w1) := CB0.out.later b1; have x0 : w1.cell? ⟨w.heap.size, 0, none⟩ = some (.slice g.ta g.ts.length g.tc) := (cellq_any C1.out.box).trans rfl; have x1 : w1.cell? ⟨w.heap.size, 1, none⟩ = some (.slice g.na g.ns.length g.nc) := (cellq_any C1.out.box).trans rfl; have x2 : w1.cell? ⟨w.heap.size, 2, none⟩ = some (.int .i64 g.start) := (cellq_any C1.out.box).trans rfl; have x3 : w1.cell? ⟨w.heap.size, 3, none⟩ = some (.slice g.pa g.ps.length g.pc) := (cellq_any C1.out.box).trans rfl; have x4 : w1.cell? ⟨w.heap.size, 4, none⟩ = some (.slice g.la g.ls.length g.lc) := (cellq_any C1.out.box).trans rfl; have hz : w.heap.size < w1.heap.size := lt_of_block C1.out.box; clear b1)
  | (go_at_call 21; refine (clone_G g _ ((HGA.out _ C1.out.bel).ok HO.out) HN.out.1 HN.out.2.1 HN.out.2.2).mono ?_; rintro e w2 ⟨⟨ta, tc, ts, na, nc, ns, st, pa, pc, ps, la, lc, ls⟩, A, H, E, pb, lb, tb, nb, rfl, sg, mg, b2⟩; obtain rfl : ts = g.ts := sg.ts; obtain rfl : ns = g.ns := sg.ns; obtain rfl : st = g.start := sg.start; obtain rfl : pa = some ⟨pb, 0, none⟩ := mg.pa; have C2 : Hid (CBx w.heap.size w (gA g) w2) := C1.out.later b2; have M2 : Hid (MG w1.heap.size w2 ⟨ta, tc, g.ts, na, nc, g.ns, g.start, some ⟨pb, 0, none⟩, pc, ps, la, lc, ls⟩ A H E pb lb tb nb) := mg; have S2 : Hid (ps.map PV.core = g.ps.map PV.core /\ ls.map LV.core = g.ls.map LV.core) := ⟨sg.ps, sg.ls⟩; have hpl : ps.length <= 1048576 := (by have h1 := congrArg List.length sg.ps; have h2 := HO.out.pl.2; simp at h1; omega); clear sg mg b2))
 obtain ⟨b6, hb6⟩ : ∃ b6, b6 = w2.heap.size := ⟨_, rfl⟩
 obtain ⟨B, hB⟩ : ∃ B, B = w1.heap.size := ⟨_, rfl⟩
 have HB : Hid (B = w1.heap.size /\ w.heap.size + 2 <= B /\ E <= b6) := ⟨hB, by rw [hB]; exact lt_of_block C1.out.out, by have := M2.out.ord.2.2.2; omega⟩
 rw [<- hb6]
 go_loopw [23] (fun z wr => ∃ (k : Nat) (L : List PV), k <= ps.length /\ z = .int .i64 k /\ CBx w.heap.size w #[.slice g.ta g.ts.length g.tc, .slice g.na g.ns.length g.nc, .int .i64 g.start, .slice g.pa g.ps.length g.pc, .slice g.la g.ls.length g.lc] wr /\ wr.heap[b6]? = some (.cells #[.slice ta g.ts.length tc, .slice na g.ns.length nc, .int .i64 g.start, .slice (some ⟨pb, 0, none⟩) ps.length pc, .slice la ls.length lc] 26 (0, 0)) /\ MG B wr ⟨ta, tc, g.ts, na, nc, g.ns, g.start, some ⟨pb, 0, none⟩, pc, L, la, lc, ls⟩ A H E pb lb tb nb /\ L.length = ps.length /\ ∀ i, i < L.length -> (L.getD i .none).core = if i < k then crev (ps.getD i .none).core else (ps.getD i .none).core) (fun z _ => ps.length - (intOf z).toNat)
 case atStart =>
  refine ⟨0, ps, Nat.zero_le _, rfl, C2.out.later (below_alloc _ _), by rw [hb6]; exact alloc_at _ _, ?_, rfl, fun i _ => by rw [if_neg (Nat.not_lt_zero _)]⟩
  rw [hB]
  exact M2.out.later (below_alloc _ _)
 case round =>
  clear x0 x1 x2 x3 x4 hz C1 C2 M2 CB0 hB hb6
  obtain ⟨k, L, hk, rfl, hC, hT, hM, hLl, hcore⟩ := hrel
  have HC : Hid (CBx w.heap.size w (gA g) wr /\ wr.heap[b6]? = some (.cells #[.slice ta g.ts.length tc, .slice na g.ns.length nc, .int .i64 g.start, .slice (some ⟨pb, 0, none⟩) ps.length pc, .slice la ls.length lc] 26 (0, 0)) /\ MG B wr ⟨ta, tc, g.ts, na, nc, g.ns, g.start, some ⟨pb, 0, none⟩, pc, L, la, lc, ls⟩ A H E pb lb tb nb /\ L.length = ps.length /\ ∀ i, i < L.length -> (L.getD i .none).core = if i < k then crev (ps.getD i .none).core else (ps.getD i .none).core) := ⟨hC, hT, hM, hLl, hcore⟩
  by_cases hlt : k < ps.length
  ·obtain ⟨p0, p1, p2⟩ := proCells_get L k (by omega)
   have c0 := hM.p.row.cell p0
   have c1' := hM.p.row.cell p1
   have c2' := hM.p.row.cell p2
   have HE : Hid ((L.getD k .none).right ≠ [] -> (L.getD k .none).ra = some ⟨ablk (L.getD k .none).ra, 0, none⟩ /\ (A <= ablk (L.getD k .none).ra /\ ablk (L.getD k .none).ra < H) /\ RB wr (ablk (L.getD k .none).ra) 30 (symCells (L.getD k .none).right) (L.getD k .none).rc 2) := fun hr => by
    have := hM.p.each k (by show k < L.length; omega) hr
    exact ⟨this.1, this.2.1, this.2.2.2⟩
   have HR0 : Hid ((L.getD k .none).right.length <= 1048576) := by
    show _ <= _
    have h1 : (L.getD k .none).core = (g.ps.getD k .none).core := by
     rw [hcore k (by omega), if_neg (Nat.lt_irrefl _), getD_core PV.core, S2.out.1, <- getD_core PV.core]
    have h2 : (L.getD k .none).right = (g.ps.getD k .none).right := congrArg (·.2.1) h1
    have h3 : ps.length = g.ps.length := by simpa using congrArg List.length S2.out.1
    have := HO.out.right k (by omega)
    rw [h2]; omega
   clear hC hT hM hcore p0 p1 p2
   generalize hx : L.getD k .none = x at *
   have HX : Hid (L.getD k .none = x) := hx
   clear hx
   obtain ⟨pl, pra, prc, pr, pp⟩ := x
   simp only at c0 c1' c2' HE HR0
   have BA : Hid (Below wr.heap.size wr (wr.alloc (.cells #[.int .i64 pl, .slice pra pr.length prc, .int .i64 pp] 75))) := below_alloc _ _
   have SA : Hid ((wr.alloc (.cells #[.int .i64 pl, .slice pra pr.length prc, .int .i64 pp] 75)).heap.size = wr.heap.size + 1) := by show _ = _; simp
   by_cases hr : pr = []
   ·subst hr
    simp only [List.length_nil] at c1'
    go_wp2_with (go_at_call 22; refine (rev_none pra prc _).mono ?_; rintro e w4 ⟨rfl, rfl⟩)
    go_roundw
    case rel =>
     obtain ⟨hC, hT, hM, hLl, hcore⟩ := HC.out
     refine ⟨k + 1, L, by omega, by go_num, hC.later BA.out, (BA.out.block _ (lt_of_block hT)).trans hT, hM.later BA.out, hLl, fun i hi => ?_⟩
     by_cases e : i = k
     ·subst e
      have h1 := hcore i hi
      rw [if_neg (Nat.lt_irrefl _)] at h1
      rw [if_pos (by omega), <- h1, HX.out]
      rfl
     ·rw [hcore i hi]
      by_cases e2 : i < k
      ·rw [if_pos e2, if_pos (by omega)]
      ·rw [if_neg e2, if_neg (by omega)]
    case measure => simp [intOf]; omega
   ·obtain ⟨hra, hlo, hrb⟩ := HE.out hr
    have HRB : Hid (RB wr (ablk pra) 30 (symCells pr) prc 2 /\ A <= ablk pra /\ ablk pra < H) := ⟨hrb, hlo⟩
    clear hlo hrb HE
    generalize hbk : ablk pra = bk at *
    subst hra
    go_wp2_with (go_at_call 22; refine (rev_sym bk prc pr _ HR0.out (HRB.out.1.later (below_alloc wr _))).mono ?_; rintro e w4 ⟨rfl, r4, t4⟩)
    go_roundw
    case rel =>
     obtain ⟨hC, hT, hM, hLl, hcore⟩ := HC.out
     obtain ⟨hrb, hA, hH⟩ := HRB.out
     have ho := hM.ord
     have hB := HB.out
     have hw : bk < wr.heap.size := hrb.lt
     have hs := SA.out
     have keep : ∀ j, j < wr.heap.size -> j ≠ bk -> w4.heap[j]? = wr.heap[j]? := fun j hj hj2 => (t4.other j (by omega) hj2).trans (BA.out.block j hj)
     have B4 : Below w.heap.size w w4 := hC.bel.trans (((BA.out.mono hC.bel.size).trans (t4.bel w.heap.size (by have := hC.bel.size; omega) (by omega))))
     have hl2 := lt_of_block hC.out
     have hl6 := lt_of_block hT
     have hP := (hM.p.later (by omega) BA.out).turn (Nat.le_refl _) (i := k) (w' := w4) (by show k < L.length; omega) (by rw [HX.out]; exact hr) pr.reverse (by rw [HX.out]; simp) (fun j _ hj2 hj3 => t4.other j (by omega) (by rw [HX.out] at hj3; exact hj3)) (by rw [HX.out]; exact r4)
     rw [HX.out] at hP
     refine ⟨k + 1, L.set k { (⟨pl, some ⟨bk, 0, none⟩, prc, pr, pp⟩ : PV) with right := pr.reverse }, by omega, by go_num, ⟨(keep _ (by omega) (by omega)).trans hC.box, (keep _ hl2 (by omega)).trans hC.out, B4⟩, (keep _ hl6 (by omega)).trans hT, hM.prods (Nat.le_trans BA.out.size t4.size) (fun j hj hj2 => keep j hj (by omega)) _ (by simp) (by simpa using hP), by simpa using hLl, fun i hi => ?_⟩
     have hi' : i < L.length := by simpa using hi
     by_cases e : i = k
     ·subst e
      have h1 := hcore i hi'
      rw [if_neg (Nat.lt_irrefl _), HX.out] at h1
      rw [if_pos (by omega), getD_set_eq hi', <- h1]
      rfl
     ·rw [getD_set_ne e, hcore i hi']
      by_cases e2 : i < k
      ·rw [if_pos e2, if_pos (by omega)]
      ·rw [if_neg e2, if_neg (by omega)]
    case measure => simp [intOf]; omega
  ·obtain rfl : k = ps.length := by omega
   have b0 : wr.cell? ⟨b6, 0, none⟩ = some (.slice ta g.ts.length tc) := (cellq_any hT).trans rfl
   have r0 : wr.cell? ⟨w.heap.size + 1, 0, none⟩ = some (.slice none 0 0) := (cellq_any hC.out).trans rfl
   have y0 : wr.frozen? ⟨w.heap.size + 1, 0, none⟩ = false := by simp [World.frozen?, hC.out]
   have b1 : wr.cell? ⟨b6, 1, none⟩ = some (.slice na g.ns.length nc) := (cellq_any hT).trans rfl
   have r1 : wr.cell? ⟨w.heap.size + 1, 1, none⟩ = some (.slice none 0 0) := (cellq_any hC.out).trans rfl
   have y1 : wr.frozen? ⟨w.heap.size + 1, 1, none⟩ = false := by simp [World.frozen?, hC.out]
   have b2 : wr.cell? ⟨b6, 2, none⟩ = some (.int .i64 g.start) := (cellq_any hT).trans rfl
   have r2 : wr.cell? ⟨w.heap.size + 1, 2, none⟩ = some (.int .i64 0) := (cellq_any hC.out).trans rfl
   have y2 : wr.frozen? ⟨w.heap.size + 1, 2, none⟩ = false := by simp [World.frozen?, hC.out]
   have b3 : wr.cell? ⟨b6, 3, none⟩ = some (.slice (some ⟨pb, 0, none⟩) ps.length pc) := (cellq_any hT).trans rfl
   have r3 : wr.cell? ⟨w.heap.size + 1, 3, none⟩ = some (.slice none 0 0) := (cellq_any hC.out).trans rfl
   have y3 : wr.frozen? ⟨w.heap.size + 1, 3, none⟩ = false := by simp [World.frozen?, hC.out]
   have b4 : wr.cell? ⟨b6, 4, none⟩ = some (.slice la ls.length lc) := (cellq_any hT).trans rfl
   have r4 : wr.cell? ⟨w.heap.size + 1, 4, none⟩ = some (.slice none 0 0) := (cellq_any hC.out).trans rfl
   have y4 : wr.frozen? ⟨w.heap.size + 1, 4, none⟩ = false := by simp [World.frozen?, hC.out]
   have hz : w.heap.size + 1 < wr.heap.size := lt_of_block hC.out
   clear hC hT hM hcore
   go_wp2
   refine bodyPost_ret (v := .tuple #[.agg #[.slice ta g.ts.length tc, .slice na g.ns.length nc, .int .i64 g.start, .slice (some ⟨pb, 0, none⟩) ps.length pc, .slice la ls.length lc], .int .i64 0]) (by simp [results, Tryz.results6, go_sem, r0, r1, r2, r3, r4]) rfl ?_
   obtain ⟨hC, hT, hM, hLl, hcore⟩ := HC.out
   have h5 := hC.five (.slice ta g.ts.length tc) (.slice na g.ns.length nc) (.int .i64 g.start) (.slice (some ⟨pb, 0, none⟩) ps.length pc) (.slice la ls.length lc)
   have hB := HB.out
   refine ⟨⟨ta, tc, g.ts, na, nc, g.ns, g.start, some ⟨pb, 0, none⟩, pc, L, la, lc, ls⟩, A, H, E, pb, lb, tb, nb, ?_, ⟨rfl, rfl, rfl, ?_, S2.out.2⟩, ?_, h5.1⟩
   ·simp only [GV.val, hLl]
   ·have e3 : ps.length = g.ps.length := by simpa using congrArg List.length S2.out.1
    refine core_ext PV.core .none (by simp [GV.rev]; omega) fun i hi => ?_
    have hi' : i < L.length := hi
    rw [hcore i hi', if_pos (by omega), getD_core PV.core, S2.out.1, <- getD_core PV.core]
    have e4 : (g.rev.ps.getD i .none) = (g.ps.getD i .none).rev := by simp [GV.rev, List.getD, show i < g.ps.length by omega]
    rw [e4]
    rfl
   ·refine (hM.kept ?_ fun j hj _ => h5.2 j (by omega)).mono (by omega)
    simp
theorem made_list (z : Value) (n : Nat) : (madeCells #[z] n).toList = List.replicate n z := toList_madeCells_one z n
theorem make_str (n : Nat) (hn : n <= 1048576) (w : World) : (Instr.makeSlice 22 (.int .i64 (n : Int)) (.int .i64 (n : Int))).run Tryz.prog w = .ok (.slice (some ⟨w.heap.size, 0, none⟩) n n) (w.alloc (.cells (madeCells #[.string ⟨#[]⟩] n) 9)) := by
 obtain ⟨i0, hi, hz0, hz1, hz2⟩ := infoStr_parts
 have := run_makeSlice w 22 9 i0 (.string ⟨#[]⟩) Tryz.underlying22 hi hz0 .i64 .i64 (n : Int) (n : Int) (by omega) (by omega) (by rw [hz1]; simp; omega) (by rw [hz2]; omega) (by omega)
 rw [hz1] at this
 simpa [Value.cells] using this
theorem RB.made (w : World) (z : Value) (n : Nat) (t : TypeId) (hn : n <= maxLen) : RB (w.alloc (.cells (madeCells #[z] n) t)) w.heap.size t (List.replicate n z) n 1 := by
 refine ⟨_, alloc_at w _, ?_, ?_, ?_, hn⟩
 ·rw [List.length_replicate, <- Array.length_toList, made_list]; simp
 ·rw [made_list, List.length_replicate, List.take_of_length_le (by simp)]
 ·rw [<- Array.length_toList, made_list]; simp
theorem moved_G (ao bo : Option Addr) (ca cb : Nat) (names : List ByteArray) (nums : List Int) (w : World) (hl : nums.length = names.length) (hn : names.length <= 1048576) (hr : StrRow w ao names) (hi : InRow w bo nums) (hp : ∀ i, i < nums.length -> 0 <= nums.getD i 0 /\ nums.getD i 0 < nums.length) :
  Calls Tryz.prog 77 #[.slice ao names.length ca, .slice bo nums.length cb] w fun e w' => ∃ b, e = .returned (.slice (some ⟨b, 0, none⟩) names.length names.length) /\ w.heap.size <= b /\ RB w' b 9 ((moveU (List.replicate names.length ByteArray.empty) names nums names.length).map .string) names.length 1 /\ Below w.heap.size w w' := by
 have hmk := make_str names.length hn
 have HR : Hid (StrRow w ao names /\ InRow w bo nums) := ⟨hr, hi⟩
 have HP : Hid (∀ i, i < nums.length -> 0 <= nums.getD i 0 /\ nums.getD i 0 < nums.length) := hp
 rw [hl]
 clear hr hi hp
 go_enter Tryz.func77, Tryz.ntmps77
 go_wp2
 go_loopw [13] (fun z wr => ∃ k : Nat, k <= names.length /\ z = .int .i64 k /\ RB wr w.heap.size 9 ((moveU (List.replicate names.length ByteArray.empty) names nums k).map .string) names.length 1 /\ Below w.heap.size w wr) (fun z _ => names.length - (intOf z).toNat)
 case atStart => exact ⟨0, Nat.zero_le _, rfl, by rw [moveU, List.map_replicate]; exact RB.made w (.string ⟨#[]⟩) names.length 9 (by unfold maxLen; omega), below_alloc _ _⟩
 case round =>
  obtain ⟨k, hk, rfl, hb, hB⟩ := hrel
  have HB : Hid (RB wr w.heap.size 9 ((moveU (List.replicate names.length ByteArray.empty) names nums k).map .string) names.length 1 /\ Below w.heap.size w wr) := ⟨hb, hB⟩
  by_cases hlt : k < names.length
  ·obtain ⟨b1, o1, rfl, l1, q1⟩ := (HR.out.1.later hB) (by intro e; rw [e] at hlt; simp at hlt)
   obtain ⟨b2, o2, rfl, l2, q2⟩ := (HR.out.2.later hB) (by intro e; rw [e] at hl; simp at hl; omega)
   have c1 := q1 k hlt
   have c2 := q2 k (by omega)
   obtain ⟨p1, p2⟩ := HP.out k (by omega)
   have HT : Hid ((nums.getD k 0).toNat < names.length) := by show _ < _; omega
   have x1 : wr.frozen? ⟨w.heap.size, (nums.getD k 0).toNat, none⟩ = false := hb.free _
   have x2 : ∃ u, wr.cell? ⟨w.heap.size, (nums.getD k 0).toNat, none⟩ = some (.string u) := by
    have hlen : (nums.getD k 0).toNat < (moveU (List.replicate names.length ByteArray.empty) names nums k).length := by rw [moveU_len]; simpa using HT.out
    exact ⟨_, hb.cell (i := (nums.getD k 0).toNat) (u := .string _) (by rw [List.getElem?_map, List.getElem?_eq_getElem hlen]; rfl)⟩
   obtain ⟨u, x2⟩ := x2
   have x3 : w.heap.size < wr.heap.size := hb.lt
   have p2' : nums.getD k 0 < names.length := by omega
   clear hb hB q1 q2
   generalize hN : nums.getD k 0 = m at *
   generalize hS : names.getD k ByteArray.empty = nm at *
   have HNS : Hid (nums.getD k 0 = m /\ names.getD k ByteArray.empty = nm) := ⟨hN, hS⟩
   clear hN hS
   obtain ⟨mn, rfl⟩ : ∃ mn : Nat, m = (mn : Int) := ⟨m.toNat, by omega⟩
   simp only [Int.toNat_natCast] at x1 x2 HT
   have p3 : mn < names.length := HT.out
   go_wp2
   go_roundw
   case rel =>
    refine ⟨k + 1, by omega, by go_num, ?_, HB.out.2.setCell (p := ⟨w.heap.size, mn, none⟩) (Nat.le_refl _) _⟩
    have := HB.out.1.set mn (.string nm)
    rw [moveU, HNS.out.1, HNS.out.2, List.map_set]
    exact this
   case measure => simp [intOf]; omega
  ·obtain rfl : k = names.length := by omega
   clear hb hB
   go_wp2
   go_ret
   exact ⟨w.heap.size, rfl, Nat.le_refl _, HB.out.1, HB.out.2⟩
abbrev numV (a1 : Option Addr) (c1 : Nat) (ts : List Int) (a2 : Option Addr) (c2 : Nat) (ns : List Int) : Value := .agg #[.slice a1 ts.length c1, .slice a2 ns.length c2]
theorem three_alloc (w : World) (x y z : Obj) : ((w.alloc x).alloc y |>.alloc z).drew.heap[w.heap.size]? = some x /\ ((w.alloc x).alloc y |>.alloc z).drew.heap[w.heap.size + 1]? = some y /\ ((w.alloc x).alloc y |>.alloc z).drew.heap[w.heap.size + 2]? = some z /\ Below w.heap.size w ((w.alloc x).alloc y |>.alloc z).drew := by
 obtain ⟨h1, h2, h3⟩ := two_alloc w x y
 have e : ((w.alloc x).alloc y).heap.size = w.heap.size + 2 := by simp
 have hb := below_alloc ((w.alloc x).alloc y) z
 refine ⟨(hb.block _ (by omega)).trans h2, (hb.block _ (by omega)).trans h3, ?_, ?_⟩
 ·have := alloc_at ((w.alloc x).alloc y) z
  rw [e] at this
  exact this
 ·have hb2 : Below w.heap.size w ((w.alloc x).alloc y |>.alloc z) := h1.trans (hb.mono (by omega))
  exact hb2.drew
set_option linter.unusedSimpArgs false in
theorem symbol_G (a1 a2 : Option Addr) (c1 c2 : Nat) (ts ns : List Int) (kd : Int) (sn : Nat) (w : World) (h1 : InRow w a1 ts) (h2 : InRow w a2 ns) (hl : ts.length <= 1048576 /\ ns.length <= 1048576) (ht : kd = 1 -> sn < ts.length) (hn : kd ≠ 1 -> sn < ns.length) :
  Calls Tryz.prog 126 #[numV a1 c1 ts a2 c2 ns, .agg #[.int .i64 kd, .int .i64 (sn : Int)]] w fun e w' => e = .returned (.agg #[.int .i64 (renS ts ns (kd, (sn : Int))).1, .int .i64 (renS ts ns (kd, (sn : Int))).2]) /\ Below w.heap.size w w' := by
 have A3 : Hid _ := three_alloc w (.cells #[.slice a1 ts.length c1, .slice a2 ns.length c2] 80) (.cells #[.int .i64 kd, .int .i64 (sn : Int)] 30) (.cells #[.int .i64 0, .int .i64 0] 30)
 obtain ⟨hl1, hl2⟩ := hl
 by_cases hk : kd = 1
 ·have hs := ht hk
  have hR : renS ts ns (kd, (sn : Int)) = (kd, ts.getD sn 0) := by simp [renS, hk]
  rw [hR]
  have he : (kd == 1) = true := by simpa using hk
  clear hR ht hn hk
  obtain ⟨b1, o1, rfl, l1, q1⟩ := h1 (by intro e; rw [e] at hs; simp at hs)
  have HL1 : Hid (b1 < w.heap.size) := l1
  have hs0 : Hid ((fun w' => w'.cell? ⟨w.heap.size + 1, 0, none⟩ = some (.int .i64 kd) /\ w'.cell? ⟨w.heap.size, 0, none⟩ = some (.slice (some ⟨b1, o1, none⟩) ts.length c1) /\ w'.cell? ⟨w.heap.size + 1, 1, none⟩ = some (.int .i64 (sn : Int)) /\ w'.cell? ⟨b1, o1 + sn, none⟩ = some (.int .i64 (ts.getD sn 0))) (((w.alloc (.cells #[.slice (some ⟨b1, o1, none⟩) ts.length c1, .slice a2 ns.length c2] 80)).alloc (.cells #[.int .i64 kd, .int .i64 (sn : Int)] 30)).alloc (.cells #[.int .i64 0, .int .i64 0] 30)).drew) := by
   refine ⟨?_, ?_, ?_, ?_⟩
   ·exact (cellq_any A3.out.2.1).trans rfl
   ·exact (cellq_any A3.out.1).trans rfl
   ·exact (cellq_any A3.out.2.1).trans rfl
   ·exact (A3.out.2.2.2.cell (p := ⟨b1, o1 + sn, none⟩) l1).trans (q1 sn hs)
  have hs' : sn < ts.length := hs
  clear h1 h2 q1 l1
  generalize ts.getD sn 0 = m at *
  go_enter Tryz.func126, Tryz.ntmps126
  go_wp2
  refine wp_region_x (S := fun _ => (fun w' => w'.cell? ⟨w.heap.size + 1, 0, none⟩ = some (.int .i64 kd) /\ w'.cell? ⟨w.heap.size, 0, none⟩ = some (.slice (some ⟨b1, o1, none⟩) ts.length c1) /\ w'.cell? ⟨w.heap.size + 1, 1, none⟩ = some (.int .i64 (sn : Int)) /\ w'.cell? ⟨b1, o1 + sn, none⟩ = some (.int .i64 m))) (by kernel_rfl) ?_
  refine wtC (i := 0) (v := ?_) rfl (Or.inl ⟨by rfl, ?_⟩) hs0.out ?_
  rotate_left
  ·(intro w hSw; (try dsimp only at hSw); go_simp; try (with_reducible rfl))
  (try simp only [Act.put, lsA, lsZ, lsN])
  refine wtC (i := 1) (v := ?_) rfl (Or.inl ⟨by rfl, ?_⟩) hs0.out ?_
  rotate_left
  ·(intro w hSw; (try dsimp only at hSw); go_simp; try (with_reducible rfl))
  (try simp only [Act.put, lsA, lsZ, lsN])
  refine wtC (i := 2) (v := ?_) rfl (Or.inl ⟨by rfl, ?_⟩) hs0.out ?_
  rotate_left
  ·(intro w hSw; (try dsimp only at hSw); go_simp; try (with_reducible rfl))
  (try simp only [Act.put, lsA, lsZ, lsN])
  refine wtC (i := 3) (v := ?_) rfl (Or.inl ⟨by rfl, ?_⟩) hs0.out ?_
  rotate_left
  ·(intro w hSw; (try dsimp only at hSw); go_simp; try (with_reducible rfl))
  (try simp only [Act.put, lsA, lsZ, lsN])
  refine wtC (i := 4) (v := ?_) rfl (Or.inl ⟨by rfl, ?_⟩) hs0.out ?_
  rotate_left
  ·(intro w hSw; (try dsimp only at hSw); go_simp; try (with_reducible rfl))
  (try simp only [Act.put, lsA, lsZ, lsN])
  refine wtC (i := 5) (v := ?_) rfl (Or.inl ⟨by rfl, ?_⟩) hs0.out ?_
  rotate_left
  ·(intro w hSw; (try dsimp only at hSw); go_simp; try (with_reducible rfl))
  (try simp only [Act.put, lsA, lsZ, lsN])
  refine wtC (i := 6) (v := ?_) rfl (Or.inl ⟨by rfl, ?_⟩) hs0.out ?_
  rotate_left
  ·(intro w hSw; (try dsimp only at hSw); go_simp; try (with_reducible rfl))
  (try simp only [Act.put, lsA, lsZ, lsN])
  refine wtC (i := 7) (v := ?_) rfl (Or.inl ⟨by rfl, ?_⟩) hs0.out ?_
  rotate_left
  ·(intro w hSw; (try dsimp only at hSw); go_simp; try (with_reducible rfl))
  (try simp only [Act.put, lsA, lsZ, lsN])
  refine wtC (i := 8) (v := ?_) rfl (Or.inl ⟨by rfl, ?_⟩) hs0.out ?_
  rotate_left
  ·(intro w hSw; (try dsimp only at hSw); go_simp; try (with_reducible rfl))
  (try simp only [Act.put, lsA, lsZ, lsN])
  refine wpAnyX_one (j := 9) (by decide +kernel) rfl (fun K' hK => ?_)
  have x0 : (((w.alloc (.cells #[.slice (some ⟨b1, o1, none⟩) ts.length c1, .slice a2 ns.length c2] 80)).alloc (.cells #[.int .i64 kd, .int .i64 (sn : Int)] 30)).alloc (.cells #[.int .i64 0, .int .i64 0] 30)).drew.cell? ⟨w.heap.size + 2, 0, none⟩ = some (.int .i64 0) := (cellq_any A3.out.2.2.1).trans rfl
  have x1 : (((w.alloc (.cells #[.slice (some ⟨b1, o1, none⟩) ts.length c1, .slice a2 ns.length c2] 80)).alloc (.cells #[.int .i64 kd, .int .i64 (sn : Int)] 30)).alloc (.cells #[.int .i64 0, .int .i64 0] 30)).drew.cell? ⟨w.heap.size + 2, 1, none⟩ = some (.int .i64 0) := (cellq_any A3.out.2.2.1).trans rfl
  have y0 : (((w.alloc (.cells #[.slice (some ⟨b1, o1, none⟩) ts.length c1, .slice a2 ns.length c2] 80)).alloc (.cells #[.int .i64 kd, .int .i64 (sn : Int)] 30)).alloc (.cells #[.int .i64 0, .int .i64 0] 30)).drew.frozen? ⟨w.heap.size + 2, 0, none⟩ = false := by unfold World.frozen?; rw [A3.out.2.2.1]; rfl
  have y1 : (((w.alloc (.cells #[.slice (some ⟨b1, o1, none⟩) ts.length c1, .slice a2 ns.length c2] 80)).alloc (.cells #[.int .i64 kd, .int .i64 (sn : Int)] 30)).alloc (.cells #[.int .i64 0, .int .i64 0] 30)).drew.frozen? ⟨w.heap.size + 2, 1, none⟩ = false := by unfold World.frozen?; rw [A3.out.2.2.1]; rfl
  have BQ : Hid (Below w.heap.size w (((w.alloc (.cells #[.slice (some ⟨b1, o1, none⟩) ts.length c1, .slice a2 ns.length c2] 80)).alloc (.cells #[.int .i64 kd, .int .i64 (sn : Int)] 30)).alloc (.cells #[.int .i64 0, .int .i64 0] 30)).drew) := A3.out.2.2.2
  have HZ : Hid (w.heap.size + 2 < (((w.alloc (.cells #[.slice (some ⟨b1, o1, none⟩) ts.length c1, .slice a2 ns.length c2] 80)).alloc (.cells #[.int .i64 kd, .int .i64 (sn : Int)] 30)).alloc (.cells #[.int .i64 0, .int .i64 0] 30)).drew.heap.size) := lt_of_block A3.out.2.2.1
  clear A3
  generalize hwq : (((w.alloc (.cells #[.slice (some ⟨b1, o1, none⟩) ts.length c1, .slice a2 ns.length c2] 80)).alloc (.cells #[.int .i64 kd, .int .i64 (sn : Int)] 30)).alloc (.cells #[.int .i64 0, .int .i64 0] 30)).drew = wq at *
  clear hwq
  go_simp
  refine hK.out _ _ ?_ ?_
  ·have KK : ∀ blk j, blk ≠ w.heap.size + 2 -> ((wq.setCell ⟨w.heap.size + 2, 0, none⟩ (.int .i64 kd)).setCell ⟨w.heap.size + 2, 1, none⟩ (.int .i64 m)).cell? ⟨blk, j, none⟩ = wq.cell? ⟨blk, j, none⟩ := fun blk j hb => World.cell?_of_block ((Below.heap_setCell _ _ _ _ hb).trans (Below.heap_setCell _ _ _ _ hb))
   have hh := hs0.out
   exact ⟨(KK _ _ (by omega)).trans hh.1, (KK _ _ (by omega)).trans hh.2.1, (KK _ _ (by omega)).trans hh.2.2.1, (KK _ _ (by have := HL1.out; omega)).trans hh.2.2.2⟩
  refine wpAnyX_done (by decide +kernel) ?_
  clear hK K'
  go_wp2
  have r0 : wq.cell? ⟨w.heap.size + 2, 0, none⟩ = some (.int .i64 0) := x0
  have hz : w.heap.size + 2 < wq.heap.size := HZ.out
  refine bodyPost_ret (v := .agg #[.int .i64 kd, .int .i64 m]) (by simp [results, Tryz.results126, go_sem, x0, x1, hz]) rfl ?_
  exact ⟨rfl, (BQ.out.setCell (p := ⟨w.heap.size + 2, 0, none⟩) (by show w.heap.size <= w.heap.size + 2; omega) _).setCell (p := ⟨w.heap.size + 2, 1, none⟩) (by show w.heap.size <= w.heap.size + 2; omega) _⟩
 ·have hs := hn hk
  have hR : renS ts ns (kd, (sn : Int)) = (kd, ns.getD sn 0) := by simp [renS, hk]
  rw [hR]
  have he : (kd == 1) = false := by simpa using hk
  clear hR ht hn hk
  obtain ⟨b1, o1, rfl, l1, q1⟩ := h2 (by intro e; rw [e] at hs; simp at hs)
  have HL1 : Hid (b1 < w.heap.size) := l1
  have hs0 : Hid ((fun w' => w'.cell? ⟨w.heap.size + 1, 0, none⟩ = some (.int .i64 kd) /\ w'.cell? ⟨w.heap.size, 1, none⟩ = some (.slice (some ⟨b1, o1, none⟩) ns.length c2) /\ w'.cell? ⟨w.heap.size + 1, 1, none⟩ = some (.int .i64 (sn : Int)) /\ w'.cell? ⟨b1, o1 + sn, none⟩ = some (.int .i64 (ns.getD sn 0))) (((w.alloc (.cells #[.slice a1 ts.length c1, .slice (some ⟨b1, o1, none⟩) ns.length c2] 80)).alloc (.cells #[.int .i64 kd, .int .i64 (sn : Int)] 30)).alloc (.cells #[.int .i64 0, .int .i64 0] 30)).drew) := by
   refine ⟨?_, ?_, ?_, ?_⟩
   ·exact (cellq_any A3.out.2.1).trans rfl
   ·exact (cellq_any A3.out.1).trans rfl
   ·exact (cellq_any A3.out.2.1).trans rfl
   ·exact (A3.out.2.2.2.cell (p := ⟨b1, o1 + sn, none⟩) l1).trans (q1 sn hs)
  have hs' : sn < ns.length := hs
  clear h1 h2 q1 l1
  generalize ns.getD sn 0 = m at *
  go_enter Tryz.func126, Tryz.ntmps126
  go_wp2
  refine wp_region_x (S := fun _ => (fun w' => w'.cell? ⟨w.heap.size + 1, 0, none⟩ = some (.int .i64 kd) /\ w'.cell? ⟨w.heap.size, 1, none⟩ = some (.slice (some ⟨b1, o1, none⟩) ns.length c2) /\ w'.cell? ⟨w.heap.size + 1, 1, none⟩ = some (.int .i64 (sn : Int)) /\ w'.cell? ⟨b1, o1 + sn, none⟩ = some (.int .i64 m))) (by kernel_rfl) ?_
  refine wtC (i := 0) (v := ?_) rfl (Or.inl ⟨by rfl, ?_⟩) hs0.out ?_
  rotate_left
  ·(intro w hSw; (try dsimp only at hSw); go_simp; try (with_reducible rfl))
  (try simp only [Act.put, lsA, lsZ, lsN])
  refine wtC (i := 1) (v := ?_) rfl (Or.inl ⟨by rfl, ?_⟩) hs0.out ?_
  rotate_left
  ·(intro w hSw; (try dsimp only at hSw); go_simp; try (with_reducible rfl))
  (try simp only [Act.put, lsA, lsZ, lsN])
  refine wtC (i := 2) (v := ?_) rfl (Or.inl ⟨by rfl, ?_⟩) hs0.out ?_
  rotate_left
  ·(intro w hSw; (try dsimp only at hSw); go_simp; try (with_reducible rfl))
  (try simp only [Act.put, lsA, lsZ, lsN])
  refine wtC (i := 3) (v := ?_) rfl (Or.inl ⟨by rfl, ?_⟩) hs0.out ?_
  rotate_left
  ·(intro w hSw; (try dsimp only at hSw); go_simp; try (with_reducible rfl))
  (try simp only [Act.put, lsA, lsZ, lsN])
  refine wtC (i := 4) (v := ?_) rfl (Or.inl ⟨by rfl, ?_⟩) hs0.out ?_
  rotate_left
  ·(intro w hSw; (try dsimp only at hSw); go_simp; try (with_reducible rfl))
  (try simp only [Act.put, lsA, lsZ, lsN])
  refine wtC (i := 5) (v := ?_) rfl (Or.inl ⟨by rfl, ?_⟩) hs0.out ?_
  rotate_left
  ·(intro w hSw; (try dsimp only at hSw); go_simp; try (with_reducible rfl))
  (try simp only [Act.put, lsA, lsZ, lsN])
  refine wtC (i := 6) (v := ?_) rfl (Or.inl ⟨by rfl, ?_⟩) hs0.out ?_
  rotate_left
  ·(intro w hSw; (try dsimp only at hSw); go_simp; try (with_reducible rfl))
  (try simp only [Act.put, lsA, lsZ, lsN])
  refine wtC (i := 7) (v := ?_) rfl (Or.inl ⟨by rfl, ?_⟩) hs0.out ?_
  rotate_left
  ·(intro w hSw; (try dsimp only at hSw); go_simp; try (with_reducible rfl))
  (try simp only [Act.put, lsA, lsZ, lsN])
  refine wtC (i := 8) (v := ?_) rfl (Or.inl ⟨by rfl, ?_⟩) hs0.out ?_
  rotate_left
  ·(intro w hSw; (try dsimp only at hSw); go_simp; try (with_reducible rfl))
  (try simp only [Act.put, lsA, lsZ, lsN])
  refine wpAnyX_one (j := 9) (by decide +kernel) rfl (fun K' hK => ?_)
  have x0 : (((w.alloc (.cells #[.slice a1 ts.length c1, .slice (some ⟨b1, o1, none⟩) ns.length c2] 80)).alloc (.cells #[.int .i64 kd, .int .i64 (sn : Int)] 30)).alloc (.cells #[.int .i64 0, .int .i64 0] 30)).drew.cell? ⟨w.heap.size + 2, 0, none⟩ = some (.int .i64 0) := (cellq_any A3.out.2.2.1).trans rfl
  have x1 : (((w.alloc (.cells #[.slice a1 ts.length c1, .slice (some ⟨b1, o1, none⟩) ns.length c2] 80)).alloc (.cells #[.int .i64 kd, .int .i64 (sn : Int)] 30)).alloc (.cells #[.int .i64 0, .int .i64 0] 30)).drew.cell? ⟨w.heap.size + 2, 1, none⟩ = some (.int .i64 0) := (cellq_any A3.out.2.2.1).trans rfl
  have y0 : (((w.alloc (.cells #[.slice a1 ts.length c1, .slice (some ⟨b1, o1, none⟩) ns.length c2] 80)).alloc (.cells #[.int .i64 kd, .int .i64 (sn : Int)] 30)).alloc (.cells #[.int .i64 0, .int .i64 0] 30)).drew.frozen? ⟨w.heap.size + 2, 0, none⟩ = false := by unfold World.frozen?; rw [A3.out.2.2.1]; rfl
  have y1 : (((w.alloc (.cells #[.slice a1 ts.length c1, .slice (some ⟨b1, o1, none⟩) ns.length c2] 80)).alloc (.cells #[.int .i64 kd, .int .i64 (sn : Int)] 30)).alloc (.cells #[.int .i64 0, .int .i64 0] 30)).drew.frozen? ⟨w.heap.size + 2, 1, none⟩ = false := by unfold World.frozen?; rw [A3.out.2.2.1]; rfl
  have BQ : Hid (Below w.heap.size w (((w.alloc (.cells #[.slice a1 ts.length c1, .slice (some ⟨b1, o1, none⟩) ns.length c2] 80)).alloc (.cells #[.int .i64 kd, .int .i64 (sn : Int)] 30)).alloc (.cells #[.int .i64 0, .int .i64 0] 30)).drew) := A3.out.2.2.2
  have HZ : Hid (w.heap.size + 2 < (((w.alloc (.cells #[.slice a1 ts.length c1, .slice (some ⟨b1, o1, none⟩) ns.length c2] 80)).alloc (.cells #[.int .i64 kd, .int .i64 (sn : Int)] 30)).alloc (.cells #[.int .i64 0, .int .i64 0] 30)).drew.heap.size) := lt_of_block A3.out.2.2.1
  clear A3
  generalize hwq : (((w.alloc (.cells #[.slice a1 ts.length c1, .slice (some ⟨b1, o1, none⟩) ns.length c2] 80)).alloc (.cells #[.int .i64 kd, .int .i64 (sn : Int)] 30)).alloc (.cells #[.int .i64 0, .int .i64 0] 30)).drew = wq at *
  clear hwq
  go_simp
  refine hK.out _ _ ?_ ?_
  ·have KK : ∀ blk j, blk ≠ w.heap.size + 2 -> ((wq.setCell ⟨w.heap.size + 2, 0, none⟩ (.int .i64 kd)).setCell ⟨w.heap.size + 2, 1, none⟩ (.int .i64 m)).cell? ⟨blk, j, none⟩ = wq.cell? ⟨blk, j, none⟩ := fun blk j hb => World.cell?_of_block ((Below.heap_setCell _ _ _ _ hb).trans (Below.heap_setCell _ _ _ _ hb))
   have hh := hs0.out
   exact ⟨(KK _ _ (by omega)).trans hh.1, (KK _ _ (by omega)).trans hh.2.1, (KK _ _ (by omega)).trans hh.2.2.1, (KK _ _ (by have := HL1.out; omega)).trans hh.2.2.2⟩
  refine wpAnyX_done (by decide +kernel) ?_
  clear hK K'
  go_wp2
  have r0 : wq.cell? ⟨w.heap.size + 2, 0, none⟩ = some (.int .i64 0) := x0
  have hz : w.heap.size + 2 < wq.heap.size := HZ.out
  refine bodyPost_ret (v := .agg #[.int .i64 kd, .int .i64 m]) (by simp [results, Tryz.results126, go_sem, x0, x1, hz]) rfl ?_
  exact ⟨rfl, (BQ.out.setCell (p := ⟨w.heap.size + 2, 0, none⟩) (by show w.heap.size <= w.heap.size + 2; omega) _).setCell (p := ⟨w.heap.size + 2, 1, none⟩) (by show w.heap.size <= w.heap.size + 2; omega) _⟩
theorem symCells_setq {l : List (Int × Int)} {k : Nat} {q : Int × Int} (hk : k < l.length) : symCells (l.set k q) = ((symCells l).set (k * 2) (.int .i64 q.1)).set (k * 2 + 1) (.int .i64 q.2) := by
 induction l generalizing k with
 | nil => simp at hk
 | cons a r ih =>
  cases k with
  | zero => simp [symCells]
  | succ k =>
   have e1 : ∀ m : List (Int × Int), symCells (a :: m) = .int .i64 a.1 :: .int .i64 a.2 :: symCells m := fun m => rfl
   rw [List.set_cons_succ, e1, e1, ih (by simpa using hk), show (k + 1) * 2 = k * 2 + 1 + 1 by omega, show k * 2 + 1 + 1 + 1 = (k * 2 + 1) + 1 + 1 by omega]
   simp only [List.set_cons_succ]
structure TP (A H : Nat) (w0 w : World) (pb pc i : Nat) (arr : Array Value) (l : List PV) (y : PV) (wr : World) : Prop where
 box : wr.heap[w.heap.size]? = some (.cells arr 80 (0, 0))
 pm : PM A H wr pb pc l.length (l.set i y)
 bel : Below w0.heap.size w0 wr
 hA : w0.heap.size <= A
 keep : ∀ j, j < w.heap.size -> j < A ∨ H <= j -> wr.heap[j]? = w.heap[j]?
 hH : H <= w.heap.size
theorem TP.later {A H : Nat} {w0 w : World} {pb pc i : Nat} {arr : Array Value} {l : List PV} {y : PV} {wr wr' : World} (h : TP A H w0 w pb pc i arr l y wr) (hb : Below wr.heap.size wr wr') : TP A H w0 w pb pc i arr l y wr' := by
 have h1 := lt_of_block h.box
 have h2 := h.hH
 exact ⟨(hb.block _ h1).trans h.box, h.pm.later (by omega) hb, h.bel.trans (hb.mono h.bel.size), h.hA, fun j hj hj2 => (hb.block j (by omega)).trans (h.keep j hj hj2), h.hH⟩
theorem TP.left {A H : Nat} {w0 w : World} {pb pc i : Nat} {arr : Array Value} {l : List PV} {y : PV} {wr : World} (h : TP A H w0 w pb pc i arr l y wr) (hi : i < l.length) (x : Int) : TP A H w0 w pb pc i arr l { y with left := x } (wr.setCell ⟨pb, i * 3, none⟩ (.int .i64 x)) := by
 have hlo := h.pm.lo
 have hH := h.hH
 have h1 := h.pm.left (i := i) (by simpa using hi) x
 rw [getD_set_eq hi, List.set_set] at h1
 exact ⟨(Below.heap_setCell _ _ _ _ (show w.heap.size ≠ pb by omega)).trans h.box, h1, h.bel.setCell (p := ⟨pb, i * 3, none⟩) (Nat.le_trans h.hA hlo.1) _, h.hA, fun j hj hj2 => (Below.heap_setCell _ _ _ _ (show j ≠ pb by omega)).trans (h.keep j hj hj2), hH⟩
theorem TP.prec {A H : Nat} {w0 w : World} {pb pc i : Nat} {arr : Array Value} {l : List PV} {y : PV} {wr : World} (h : TP A H w0 w pb pc i arr l y wr) (hi : i < l.length) (x : Int) : TP A H w0 w pb pc i arr l { y with prec := x } (wr.setCell ⟨pb, i * 3 + 2, none⟩ (.int .i64 x)) := by
 have hlo := h.pm.lo
 have hH := h.hH
 have h1 := h.pm.prec (i := i) (by simpa using hi) x
 rw [getD_set_eq hi, List.set_set] at h1
 exact ⟨(Below.heap_setCell _ _ _ _ (show w.heap.size ≠ pb by omega)).trans h.box, h1, h.bel.setCell (p := ⟨pb, i * 3 + 2, none⟩) (Nat.le_trans h.hA hlo.1) _, h.hA, fun j hj hj2 => (Below.heap_setCell _ _ _ _ (show j ≠ pb by omega)).trans (h.keep j hj hj2), hH⟩
theorem TP.cells {A H : Nat} {w0 w : World} {pb pc i : Nat} {arr : Array Value} {l : List PV} {y : PV} {wr : World} (h : TP A H w0 w pb pc i arr l y wr) (hi : i < l.length) :
  wr.cell? ⟨pb, i * 3, none⟩ = some (.int .i64 y.left) /\ wr.cell? ⟨pb, i * 3 + 1, none⟩ = some (.slice y.ra y.right.length y.rc) /\ wr.cell? ⟨pb, i * 3 + 2, none⟩ = some (.int .i64 y.prec) := by
 obtain ⟨p0, p1, p2⟩ := proCells_get (l.set i y) i (by simpa using hi)
 have c0 := h.pm.row.cell p0
 have c1 := h.pm.row.cell p1
 have c2 := h.pm.row.cell p2
 rw [getD_set_eq hi] at c0 c1 c2
 exact ⟨c0, c1, c2⟩
theorem TP.right {A H : Nat} {w0 w : World} {pb pc i : Nat} {arr : Array Value} {l : List PV} {y : PV} {wr : World} (h : TP A H w0 w pb pc i arr l y wr) (hi : i < l.length) (hr : y.right ≠ []) : y.ra = some ⟨ablk y.ra, 0, none⟩ /\ (A <= ablk y.ra /\ ablk y.ra < H) /\ ablk y.ra ≠ pb /\ RB wr (ablk y.ra) 30 (symCells y.right) y.rc 2 := by
 have := h.pm.each i hi (by rw [getD_set_eq hi]; exact hr)
 rw [getD_set_eq hi] at this
 exact this
theorem TP.sym {A H : Nat} {w0 w : World} {pb pc i : Nat} {arr : Array Value} {l : List PV} {y : PV} {wr : World} (h : TP A H w0 w pb pc i arr l y wr) (hi : i < l.length) {k : Nat} (hk : k < y.right.length) (q : Int × Int) : TP A H w0 w pb pc i arr l { y with right := y.right.set k q } ((wr.setCell ⟨ablk y.ra, k * 2, none⟩ (.int .i64 q.1)).setCell ⟨ablk y.ra, k * 2 + 1, none⟩ (.int .i64 q.2)) := by
 have hr : y.right ≠ [] := by intro e; rw [e] at hk; simp at hk
 obtain ⟨r1, r2, r3, r4⟩ := h.right hi hr
 have hlo := h.pm.lo
 have hH := h.hH
 have hk' : ∀ j, j ≠ ablk y.ra -> ((wr.setCell ⟨ablk y.ra, k * 2, none⟩ (.int .i64 q.1)).setCell ⟨ablk y.ra, k * 2 + 1, none⟩ (.int .i64 q.2)).heap[j]? = wr.heap[j]? := fun j hj => (Below.heap_setCell _ _ _ _ hj).trans (Below.heap_setCell _ _ _ _ hj)
 have h1 := h.pm.turn (by simp) (i := i) (w' := (wr.setCell ⟨ablk y.ra, k * 2, none⟩ (.int .i64 q.1)).setCell ⟨ablk y.ra, k * 2 + 1, none⟩ (.int .i64 q.2)) hi (by rw [getD_set_eq hi]; exact hr) (y.right.set k q) (by rw [getD_set_eq hi]; simp) (fun j _ _ hj => by rw [getD_set_eq hi] at hj; exact hk' j hj) (by rw [getD_set_eq hi, symCells_setq hk]; exact (r4.set _ _).set _ _)
 rw [getD_set_eq hi, List.set_set] at h1
 exact ⟨(hk' _ (by omega)).trans h.box, h1, (h.bel.setCell (p := ⟨ablk y.ra, k * 2, none⟩) (Nat.le_trans h.hA r2.1) _).setCell (p := ⟨ablk y.ra, k * 2 + 1, none⟩) (Nat.le_trans h.hA r2.1) _, h.hA, fun j hj hj2 => (hk' j (by omega)).trans (h.keep j hj hj2), hH⟩
theorem run_symb {o : Oper} {a : Act} {t0 t1 : TypeId} {v0 v1 : Value} {x0 x1 : Operand} (hop : o.op = Op.call { callee := Callee.value (Operand.func 126), args := #[x0, x1], argTypes := #[t0, t1] }) (h0 : a.eval x0 = v0) (h1 : a.eval x1 = v1) (w : World) : (execOp a.eval o).run Tryz.prog w = .ok (.enter 126 #[v0, v1]) w := by
 have hf : a.eval (Operand.func 126) = .func (.func 126) #[] #[] := rfl
 simp [execOp, hop, resolve, invoke, h0, h1, hf, Deferred.ofValue]
set_option linter.unusedSimpArgs false in
theorem turnProd_G {pc : Nat} (a1 a2 : Option Addr) (c1 c2 : Nat) (ts ns : List Int) (A H pb i : Nat) (l : List PV) (w0 w : World) (h1 : InRow w0 a1 ts) (h2 : InRow w0 a2 ns) (hl : ts.length <= 1048576 /\ ns.length <= 1048576) (hw : w0.heap.size <= A) (hb : Below w0.heap.size w0 w) (hH : H <= w.heap.size) (hP : PM A H w pb pc l.length l) (hi : i < l.length)
  (ln : Nat) (pra : Option Addr) (prc : Nat) (pr : List (Int × Int)) (pp : Int) (hx : l.getD i .none = ⟨(ln : Int), pra, prc, pr, pp⟩) (hln : ln < ns.length) (hpr : pr.length <= 1048576) (hs : ∀ s ∈ pr, 0 <= s.2 /\ (s.1 = 1 -> s.2 < ts.length) /\ (s.1 ≠ 1 -> s.2 < ns.length)) (hpp : pp ≠ -1 -> 0 <= pp /\ pp < ts.length) (y : PV) (hy : (l.getD i .none).ren ts ns = y) :
  Calls Tryz.prog 78 #[numV a1 c1 ts a2 c2 ns, .pointer (some ⟨pb, i * 3, none⟩)] w fun e w' => e = .returned (.tuple #[]) /\ PM A H w' pb pc l.length (l.set i y) /\ Below w0.heap.size w0 w' /\ (∀ j, j < w.heap.size -> j < A ∨ H <= j -> w'.heap[j]? = w.heap[j]?) /\ w.heap.size <= w'.heap.size := by
 obtain ⟨hl1, hl2⟩ := hl
 have TA : Hid (TP A H w0 w pb pc i #[.slice a1 ts.length c1, .slice a2 ns.length c2] l ⟨(ln : Int), pra, prc, pr, pp⟩ (w.alloc (.cells #[.slice a1 ts.length c1, .slice a2 ns.length c2] 80)).drew) := by
  have hba : Below w.heap.size w (w.alloc (.cells #[.slice a1 ts.length c1, .slice a2 ns.length c2] 80)).drew := (below_alloc w _).drew
  refine ⟨alloc_at w _, ?_, hb.trans (hba.mono hb.size), hw, fun j hj _ => hba.block j hj, hH⟩
  rw [<- hx, set_same (l := l) (k := i) (by simp [List.getD, hi])]
  exact hP.later hH hba
 have HI : Hid (∀ w', Below w0.heap.size w0 w' -> InRow w' a1 ts /\ InRow w' a2 ns) := fun w' hb => ⟨h1.later hb, h2.later hb⟩
 have HS : Hid (∀ s ∈ pr, 0 <= s.2 /\ (s.1 = 1 -> s.2 < ts.length) /\ (s.1 ≠ 1 -> s.2 < ns.length)) := hs
 have HX : Hid (l.getD i .none = ⟨(ln : Int), pra, prc, pr, pp⟩) := hx
 have HY : Hid ((l.getD i .none).ren ts ns = y) := hy
 clear hy
 have HA : Hid (A <= pb /\ pb < H /\ H <= w.heap.size /\ w0.heap.size <= A) := ⟨hP.lo.1, hP.lo.2, hH, hw⟩
 have HBL : Hid (∀ b, b < w0.heap.size -> b ≠ pb /\ b ≠ w.heap.size) := fun b hb => by have := HA.out; exact ⟨by omega, by omega⟩
 clear h1 h2 hb hH hP hx hs hw
 obtain ⟨b2, o2, e2, l2, q2⟩ := (HI.out w0 (Below.refl _ _)).2 (by intro e; rw [e] at hln; simp at hln)
 subst e2
 have hs0 : Hid ((fun w' => w'.cell? ⟨w.heap.size, 1, none⟩ = some (.slice (some ⟨b2, o2, none⟩) ns.length c2) /\ w'.cell? ⟨b2, o2 + ln, none⟩ = some (.int .i64 (ns.getD ln 0))) (w.alloc (.cells #[.slice a1 ts.length c1, .slice (some ⟨b2, o2, none⟩) ns.length c2] 80)).drew) := ⟨(cellq_any TA.out.box).trans rfl, (TA.out.bel.cell (p := ⟨b2, o2 + ln, none⟩) l2).trans (q2 ln hln)⟩
 have hs1 : Hid ((fun w' => w'.cell? ⟨pb, i * 3, none⟩ = some (.int .i64 (ln : Int))) (w.alloc (.cells #[.slice a1 ts.length c1, .slice (some ⟨b2, o2, none⟩) ns.length c2] 80)).drew) := (TA.out.cells hi).1
 have y0 : ((w.alloc (.cells #[.slice a1 ts.length c1, .slice (some ⟨b2, o2, none⟩) ns.length c2] 80)).drew).frozen? ⟨pb, i * 3, none⟩ = false := TA.out.pm.row.free _
 have z0 : pb < ((w.alloc (.cells #[.slice a1 ts.length c1, .slice (some ⟨b2, o2, none⟩) ns.length c2] 80)).drew).heap.size := TA.out.pm.row.lt
 have TB1 : Hid (TP A H w0 w pb pc i #[.slice a1 ts.length c1, .slice (some ⟨b2, o2, none⟩) ns.length c2] l ⟨ns.getD ln 0, pra, prc, pr, pp⟩ (((w.alloc (.cells #[.slice a1 ts.length c1, .slice (some ⟨b2, o2, none⟩) ns.length c2] 80)).drew).setCell ⟨pb, i * 3, none⟩ (.int .i64 (ns.getD ln 0)))) := TA.out.left hi _
 have HS0 : Hid ((fun w' => w'.cell? ⟨w.heap.size, 1, none⟩ = some (.slice (some ⟨b2, o2, none⟩) ns.length c2) /\ w'.cell? ⟨b2, o2 + ln, none⟩ = some (.int .i64 (ns.getD ln 0))) (((w.alloc (.cells #[.slice a1 ts.length c1, .slice (some ⟨b2, o2, none⟩) ns.length c2] 80)).drew).setCell ⟨pb, i * 3, none⟩ (.int .i64 (ns.getD ln 0)))) := ⟨(cellq_any TB1.out.box).trans rfl, (TB1.out.bel.cell (p := ⟨b2, o2 + ln, none⟩) l2).trans (q2 ln hln)⟩
 clear q2 TA
 have HM : Hid (ns.getD ln 0 = ((⟨(ln : Int), pra, prc, pr, pp⟩ : PV).ren ts ns).left) := by show _ = _; simp [PV.ren]
 generalize ns.getD ln 0 = m at *
 go_enter Tryz.func78, Tryz.ntmps78
 go_wp2
 refine wp_region_x (S := SX 11 (fun w' => w'.cell? ⟨w.heap.size, 1, none⟩ = some (.slice (some ⟨b2, o2, none⟩) ns.length c2) /\ w'.cell? ⟨b2, o2 + ln, none⟩ = some (.int .i64 m)) (fun w' => w'.cell? ⟨pb, i * 3, none⟩ = some (.int .i64 (ln : Int)))) (by kernel_rfl) ?_
 refine wtW (m := 11) (i := 0) (v := ?_) rfl (Or.inl ⟨by rfl, ?_⟩) (SX.both hs0.out hs1.out) ?_
 rotate_left
 ·(intro w hSw; (try dsimp only at hSw); go_simp; try (with_reducible rfl))
 (try simp only [Act.put, lsA, lsZ, lsN])
 refine wtW (m := 11) (i := 1) (v := ?_) rfl (Or.inl ⟨by rfl, ?_⟩) (SX.both hs0.out hs1.out) ?_
 rotate_left
 ·(intro w hSw; (try dsimp only at hSw); go_simp; try (with_reducible rfl))
 (try simp only [Act.put, lsA, lsZ, lsN])
 refine wtW (m := 11) (i := 2) (v := ?_) rfl (Or.inl ⟨by rfl, ?_⟩) (SX.both hs0.out hs1.out) ?_
 rotate_left
 ·(intro w hSw; (try dsimp only at hSw); go_simp; try (with_reducible rfl))
 (try simp only [Act.put, lsA, lsZ, lsN])
 refine wtW (m := 11) (i := 3) (v := ?_) rfl (Or.inl ⟨by rfl, ?_⟩) (SX.both hs0.out hs1.out) ?_
 rotate_left
 ·(intro w hSw; (try dsimp only at hSw); go_simp; try (with_reducible rfl))
 (try simp only [Act.put, lsA, lsZ, lsN])
 refine wtW (m := 11) (i := 4) (v := ?_) rfl (Or.inl ⟨by rfl, ?_⟩) (SX.both hs0.out hs1.out) ?_
 rotate_left
 ·(intro w hSw; (try dsimp only at hSw); go_simp; try (with_reducible rfl))
 (try simp only [Act.put, lsA, lsZ, lsN])
 refine wtW (m := 11) (i := 5) (v := ?_) rfl (Or.inl ⟨by rfl, ?_⟩) (SX.both hs0.out hs1.out) ?_
 rotate_left
 ·(intro w hSw; (try dsimp only at hSw); go_simp; try (with_reducible rfl))
 (try simp only [Act.put, lsA, lsZ, lsN])
 refine wtW (m := 11) (i := 6) (v := ?_) rfl (Or.inl ⟨by rfl, ?_⟩) (SX.both hs0.out hs1.out) ?_
 rotate_left
 ·(intro w hSw; (try dsimp only at hSw); go_simp; try (with_reducible rfl))
 (try simp only [Act.put, lsA, lsZ, lsN])
 refine wtW (m := 11) (i := 7) (v := ?_) rfl (Or.inl ⟨by rfl, ?_⟩) (SX.both hs0.out hs1.out) ?_
 rotate_left
 ·(intro w hSw; (try dsimp only at hSw); go_simp; try (with_reducible rfl))
 (try simp only [Act.put, lsA, lsZ, lsN])
 refine wtW (m := 11) (i := 8) (v := ?_) rfl (Or.inl ⟨by rfl, ?_⟩) (SX.both hs0.out hs1.out) ?_
 rotate_left
 ·(intro w hSw; (try dsimp only at hSw); go_simp; try (with_reducible rfl))
 (try simp only [Act.put, lsA, lsZ, lsN])
 refine wt0 (m := 11) (i := 9) (v := ?_) rfl (Or.inl ⟨by rfl, ?_⟩) (SX.both hs0.out hs1.out) ?_
 rotate_left
 ·(intro w hSw; (try dsimp only at hSw); go_simp; try (with_reducible rfl))
 (try simp only [Act.put, lsA, lsZ, lsN])
 refine wt0 (m := 11) (i := 10) (v := ?_) rfl (Or.inl ⟨by rfl, ?_⟩) (SX.both hs0.out hs1.out) ?_
 rotate_left
 ·(intro w hSw; (try dsimp only at hSw); go_simp; try (with_reducible rfl))
 (try simp only [Act.put, lsA, lsZ, lsN])
 generalize (w.alloc (.cells #[.slice a1 ts.length c1, .slice (some ⟨b2, o2, none⟩) ns.length c2] 80)).drew = wq at *
 have x0 : wq.cell? ⟨pb, i * 3, none⟩ = some (.int .i64 (ln : Int)) := hs1.out
 refine wpAnyX_one (j := 11) (by decide +kernel) rfl (fun K' hK => ?_)
 go_simp
 refine hK.out _ _ (SX.one HS0.out (by decide +kernel)) ?_
 clear hK K'
 refine wpAnyX_done (by decide +kernel) ?_
 clear hs0 hs1 HS0 x0 y0 z0 l2
 generalize wq.setCell ⟨pb, i * 3, none⟩ (.int .i64 m) = w1 at *
 have x1 : w1.cell? ⟨pb, i * 3 + 1, none⟩ = some (.slice pra pr.length prc) := (TB1.out.cells hi).2.1
 go_wp2
 go_loopw [22] (fun z wr => ∃ (k : Nat) (R : List (Int × Int)), k <= pr.length /\ z = .int .i64 k /\ R.length = pr.length /\ (∀ j, j < pr.length -> R.getD j (0, 0) = if j < k then renS ts ns (pr.getD j (0, 0)) else pr.getD j (0, 0)) /\ TP A H w0 w pb pc i #[.slice a1 ts.length c1, .slice (some ⟨b2, o2, none⟩) ns.length c2] l ⟨m, pra, prc, R, pp⟩ wr) (fun z _ => pr.length - (intOf z).toNat)
 case atStart => exact ⟨0, pr, Nat.zero_le _, rfl, rfl, fun j _ => by rw [if_neg (Nat.not_lt_zero _)], TB1.out⟩
 case round =>
  clear x1 TB1
  obtain ⟨k, R, hk, rfl, hRl, hRv, hT⟩ := hrel
  have HT : Hid (TP A H w0 w pb pc i #[.slice a1 ts.length c1, .slice (some ⟨b2, o2, none⟩) ns.length c2] l ⟨m, pra, prc, R, pp⟩ wr) := hT
  have HRV : Hid (∀ j, j < pr.length -> R.getD j (0, 0) = if j < k then renS ts ns (pr.getD j (0, 0)) else pr.getD j (0, 0)) := hRv
  by_cases hlt : k < pr.length
  ·obtain ⟨r1, r2, r3, r4⟩ := hT.right hi (by intro e; simp only at e; rw [e] at hRl; simp at hRl; omega)
   simp only at r1 r2 r3 r4
   have HBK : Hid (A <= ablk pra /\ ablk pra < H /\ ablk pra ≠ pb) := ⟨r2.1, r2.2, r3⟩
   obtain ⟨q1, q2⟩ := symCells_get R k (by omega)
   have c0 := r4.cell q1
   have c1' := r4.cell q2
   have f0 : wr.frozen? ⟨ablk pra, k * 2, none⟩ = false := r4.free _
   have f1 : wr.frozen? ⟨ablk pra, k * 2 + 1, none⟩ = false := r4.free _
   have hz : ablk pra < wr.heap.size := r4.lt
   have eR : R.getD k (0, 0) = pr.getD k (0, 0) := by rw [hRv k hlt, if_neg (Nat.lt_irrefl _)]
   rw [eR] at c0 c1'
   have hmem : pr.getD k (0, 0) ∈ pr := by simp [List.getD, hlt]
   have hsm := HS.out _ hmem
   have e1 := hT.cells hi
   have HC : Hid (wr.cell? ⟨pb, i * 3 + 1, none⟩ = some (.slice pra pr.length prc)) := by rw [<- hRl]; exact e1.2.1
   clear hT hRv r2 r3 r4 q1 q2 e1 hmem eR
   generalize hq : pr.getD k (0, 0) = q at *
   have HQ : Hid (pr.getD k (0, 0) = q) := hq
   clear hq
   obtain ⟨kd, sz⟩ := q
   simp only at c0 c1' hsm
   obtain ⟨sn, rfl⟩ : ∃ sn : Nat, sz = (sn : Int) := ⟨sz.toNat, by omega⟩
   have HSM : Hid ((kd = 1 -> sn < ts.length) /\ (kd ≠ 1 -> sn < ns.length)) := ⟨fun e => by have := hsm.2.1 e; omega, fun e => by have := hsm.2.2 e; omega⟩
   clear hsm
   generalize hbk : ablk pra = bk at *
   have HBE : Hid (ablk pra = bk) := hbk
   clear hbk
   subst r1
   go_wp2
   have BQ : Hid (Below wr.heap.size wr (wr.alloc (.cells #[.int .i64 kd, .int .i64 (sn : Int)] 30)).drew) := (below_alloc wr _).drew
   have hs0 : Hid ((fun w' => w'.cell? ⟨pb, i * 3 + 1, none⟩ = some (.slice (some ⟨bk, 0, none⟩) pr.length prc) /\ w'.cell? ⟨w.heap.size, 0, none⟩ = some (.slice a1 ts.length c1) /\ w'.cell? ⟨w.heap.size, 1, none⟩ = some (.slice (some ⟨b2, o2, none⟩) ns.length c2) /\ w'.cell? ⟨wr.heap.size, 0, none⟩ = some (.int .i64 kd) /\ w'.cell? ⟨wr.heap.size, 1, none⟩ = some (.int .i64 (sn : Int))) (wr.alloc (.cells #[.int .i64 kd, .int .i64 (sn : Int)] 30)).drew) := ⟨((BQ.out.cell (p := ⟨pb, i * 3 + 1, none⟩) (by show pb < wr.heap.size; exact HT.out.pm.row.lt))).trans HC.out, (cellq_any (HT.out.later BQ.out).box).trans rfl, (cellq_any (HT.out.later BQ.out).box).trans rfl, (cellq_any (alloc_at wr (.cells #[.int .i64 kd, .int .i64 (sn : Int)] 30))).trans rfl, (cellq_any (alloc_at wr (.cells #[.int .i64 kd, .int .i64 (sn : Int)] 30))).trans rfl⟩
   refine wp_region_x (S := fun _ => (fun w' => w'.cell? ⟨pb, i * 3 + 1, none⟩ = some (.slice (some ⟨bk, 0, none⟩) pr.length prc) /\ w'.cell? ⟨w.heap.size, 0, none⟩ = some (.slice a1 ts.length c1) /\ w'.cell? ⟨w.heap.size, 1, none⟩ = some (.slice (some ⟨b2, o2, none⟩) ns.length c2) /\ w'.cell? ⟨wr.heap.size, 0, none⟩ = some (.int .i64 kd) /\ w'.cell? ⟨wr.heap.size, 1, none⟩ = some (.int .i64 (sn : Int)))) (by kernel_rfl) ?_
   refine wtC (i := 0) (v := ?_) rfl (Or.inl ⟨by rfl, ?_⟩) hs0.out ?_
   rotate_left
   ·(intro w hSw; (try dsimp only at hSw); go_simp; try (with_reducible rfl))
   (try simp only [Act.put, lsA, lsZ, lsN])
   refine wtC (i := 1) (v := ?_) rfl (Or.inl ⟨by rfl, ?_⟩) hs0.out ?_
   rotate_left
   ·(intro w hSw; (try dsimp only at hSw); go_simp; try (with_reducible rfl))
   (try simp only [Act.put, lsA, lsZ, lsN])
   refine wtC (i := 2) (v := ?_) rfl (Or.inl ⟨by rfl, ?_⟩) hs0.out ?_
   rotate_left
   ·(intro w hSw; (try dsimp only at hSw); go_simp; try (with_reducible rfl))
   (try simp only [Act.put, lsA, lsZ, lsN])
   refine wtC (i := 3) (v := ?_) rfl (Or.inl ⟨by rfl, ?_⟩) hs0.out ?_
   rotate_left
   ·(intro w hSw; (try dsimp only at hSw); go_simp; try (with_reducible rfl))
   (try simp only [Act.put, lsA, lsZ, lsN])
   refine wtC (i := 4) (v := ?_) rfl (Or.inl ⟨by rfl, ?_⟩) hs0.out ?_
   rotate_left
   ·(intro w hSw; (try dsimp only at hSw); go_simp; try (with_reducible rfl))
   (try simp only [Act.put, lsA, lsZ, lsN])
   refine wtC (i := 5) (v := ?_) rfl (Or.inl ⟨by rfl, ?_⟩) hs0.out ?_
   rotate_left
   ·(intro w hSw; (try dsimp only at hSw); go_simp; try (with_reducible rfl))
   (try simp only [Act.put, lsA, lsZ, lsN])
   refine wtC (i := 6) (v := ?_) rfl (Or.inl ⟨by rfl, ?_⟩) hs0.out ?_
   rotate_left
   ·(intro w hSw; (try dsimp only at hSw); go_simp; try (with_reducible rfl))
   (try simp only [Act.put, lsA, lsZ, lsN])
   refine wpAnyX_one (j := 7) (by decide +kernel) rfl (fun K' hK => ?_)
   refine step_callX rfl 126 #[numV a1 c1 ts (some ⟨b2, o2, none⟩) c2 ns, .agg #[.int .i64 kd, .int .i64 (sn : Int)]] _ (run_symb (v0 := numV a1 c1 ts (some ⟨b2, o2, none⟩) c2 ns) (v1 := .agg #[.int .i64 kd, .int .i64 (sn : Int)]) (by rfl) (by rfl) (by rfl) _) (symbol_G a1 (some ⟨b2, o2, none⟩) c1 c2 ts ns kd sn _ (HI.out _ (HT.out.later BQ.out).bel).1 (HI.out _ (HT.out.later BQ.out).bel).2 ⟨hl1, hl2⟩ HSM.out.1 HSM.out.2) ?_
   rintro e w4 ⟨rfl, b4⟩
   have B4 : Hid (Below wr.heap.size wr w4) := BQ.out.trans (b4.mono BQ.out.size)
   have hsz : wr.heap.size < (wr.alloc (.cells #[.int .i64 kd, .int .i64 (sn : Int)] 30)).drew.heap.size := by show _ < (wr.alloc (.cells #[.int .i64 kd, .int .i64 (sn : Int)] 30)).heap.size; simp
   have s4 : Hid ((fun w' => w'.cell? ⟨pb, i * 3 + 1, none⟩ = some (.slice (some ⟨bk, 0, none⟩) pr.length prc) /\ w'.cell? ⟨w.heap.size, 0, none⟩ = some (.slice a1 ts.length c1) /\ w'.cell? ⟨w.heap.size, 1, none⟩ = some (.slice (some ⟨b2, o2, none⟩) ns.length c2) /\ w'.cell? ⟨wr.heap.size, 0, none⟩ = some (.int .i64 kd) /\ w'.cell? ⟨wr.heap.size, 1, none⟩ = some (.int .i64 (sn : Int))) w4) := ⟨(B4.out.cell (p := ⟨pb, i * 3 + 1, none⟩) (by show pb < wr.heap.size; exact HT.out.pm.row.lt)).trans HC.out, (cellq_any (HT.out.later B4.out).box).trans rfl, (cellq_any (HT.out.later B4.out).box).trans rfl, (b4.cell (p := ⟨wr.heap.size, 0, none⟩) hsz).trans hs0.out.2.2.2.1, (b4.cell (p := ⟨wr.heap.size, 1, none⟩) hsz).trans hs0.out.2.2.2.2⟩
   refine ⟨_, rfl, hK.out _ _ s4.out ?_⟩
   clear hK K'
   have d0 : w4.cell? ⟨bk, k * 2, none⟩ = some (.int .i64 kd) := (B4.out.cell (p := ⟨bk, k * 2, none⟩) hz).trans c0
   have d1 : w4.cell? ⟨bk, k * 2 + 1, none⟩ = some (.int .i64 (sn : Int)) := (B4.out.cell (p := ⟨bk, k * 2 + 1, none⟩) hz).trans c1'
   have g0 : w4.frozen? ⟨bk, k * 2, none⟩ = false := (World.frozen?_of_block (a := ⟨bk, k * 2, none⟩) (B4.out.block bk hz)).trans f0
   have g1 : w4.frozen? ⟨bk, k * 2 + 1, none⟩ = false := (World.frozen?_of_block (a := ⟨bk, k * 2 + 1, none⟩) (B4.out.block bk hz)).trans f1
   have hz4 : bk < w4.heap.size := Nat.lt_of_lt_of_le hz B4.out.size
   refine wtC (i := 8) (v := ?_) rfl (Or.inl ⟨by rfl, ?_⟩) s4.out ?_
   rotate_left
   ·(intro w hSw; (try dsimp only at hSw); go_simp; try (with_reducible rfl))
   (try simp only [Act.put, lsA, lsZ, lsN])
   have T4 : Hid (TP A H w0 w pb pc i #[.slice a1 ts.length c1, .slice (some ⟨b2, o2, none⟩) ns.length c2] l ⟨m, some ⟨bk, 0, none⟩, prc, R.set k (renS ts ns (kd, (sn : Int))), pp⟩ ((w4.setCell ⟨bk, k * 2, none⟩ (.int .i64 (renS ts ns (kd, (sn : Int))).1)).setCell ⟨bk, k * 2 + 1, none⟩ (.int .i64 (renS ts ns (kd, (sn : Int))).2))) := (HT.out.later B4.out).sym hi (k := k) (by show k < R.length; omega) _
   generalize hnq : renS ts ns (kd, (sn : Int)) = nq at *
   have HNQ : Hid (renS ts ns (kd, (sn : Int)) = nq) := hnq
   clear hnq
   refine wpAnyX_one (j := 9) (by decide +kernel) rfl (fun K' hK => ?_)
   go_simp
   have KK : ∀ blk j, blk ≠ bk -> ((w4.setCell ⟨bk, k * 2, none⟩ (.int .i64 nq.1)).setCell ⟨bk, k * 2 + 1, none⟩ (.int .i64 nq.2)).cell? ⟨blk, j, none⟩ = w4.cell? ⟨blk, j, none⟩ := fun blk j hb => World.cell?_of_block ((Below.heap_setCell _ _ _ _ hb).trans (Below.heap_setCell _ _ _ _ hb))
   refine hK.out _ _ (by have hh := s4.out; have h1 := HBK.out; have h2 := HA.out; exact ⟨(KK _ _ (by omega)).trans hh.1, (KK _ _ (by omega)).trans hh.2.1, (KK _ _ (by omega)).trans hh.2.2.1, (KK _ _ (by omega)).trans hh.2.2.2.1, (KK _ _ (by omega)).trans hh.2.2.2.2⟩) ?_
   clear hK K' KK
   refine wpAnyX_done (by decide +kernel) ?_
   clear hs0 s4 d0 d1 g0 g1 c0 c1' f0 f1
   go_wp2
   go_roundw
   case rel =>
    refine ⟨k + 1, R.set k nq, by omega, by go_num, by simpa using hRl, fun j hj => ?_, T4.out⟩
    by_cases e : j = k
    ·subst e
     rw [getD_set_eq (by omega), if_pos (by omega), HQ.out, HNQ.out]
    ·rw [getD_set_ne e, HRV.out j hj]
     by_cases e2 : j < k
     ·rw [if_pos e2, if_pos (by omega)]
     ·rw [if_neg e2, if_neg (by omega)]
   case measure => simp [intOf]; omega
  ·obtain rfl : k = pr.length := by omega
   have ER : Hid (R = pr.map (renS ts ns)) := by
    show R = _
    apply List.ext_getElem
    ·simpa using hRl
    ·intro j h1 h2
     have hj : j < pr.length := by omega
     have := hRv j hj
     rw [if_pos hj] at this
     simp [List.getD, hj, h1] at this
     simpa using this
   have x2 : wr.cell? ⟨pb, i * 3 + 2, none⟩ = some (.int .i64 pp) := (hT.cells hi).2.2
   have FIN : Hid (∀ (pv : Int) (wz : World), pv = (if pp = -1 then -1 else ts.getD pp.toNat 0) -> TP A H w0 w pb pc i #[.slice a1 ts.length c1, .slice (some ⟨b2, o2, none⟩) ns.length c2] l ⟨m, pra, prc, R, pv⟩ wz -> PM A H wz pb pc l.length (l.set i y) /\ Below w0.heap.size w0 wz /\ (∀ j, j < w.heap.size -> j < A ∨ H <= j -> wz.heap[j]? = w.heap[j]?) /\ w.heap.size <= wz.heap.size) := fun pv wz hpv hz => by
    refine ⟨?_, hz.bel, hz.keep, Nat.le_of_lt (lt_of_block hz.box)⟩
    have e : y = ⟨m, pra, prc, R, pv⟩ := by
     rw [<- HY.out, HX.out, HM.out, ER.out, hpv]
     simp [PV.ren]
    rw [e]
    exact hz.pm
   clear hT hRv
   by_cases hpm : pp = -1
   ·subst hpm
    go_wp2
    go_end0
    exact ⟨rfl, FIN.out (-1) wr (by simp) HT.out⟩
   ·have hpb := hpp hpm
    obtain ⟨pn, rfl⟩ : ∃ pn : Nat, pp = (pn : Int) := ⟨pp.toNat, by omega⟩
    have hpn : pn < ts.length := by omega
    obtain ⟨b3, o3, e3, l3, q3⟩ := (HI.out w0 (Below.refl _ _)).1 (by intro e; rw [e] at hpn; simp at hpn)
    subst e3
    have BQ : Hid (Below wr.heap.size wr wr.drew) := (Below.refl _ wr).drew
    have TQ : Hid (TP A H w0 w pb pc i #[.slice (some ⟨b3, o3, none⟩) ts.length c1, .slice (some ⟨b2, o2, none⟩) ns.length c2] l ⟨m, pra, prc, R, (pn : Int)⟩ wr.drew) := HT.out.later BQ.out
    have ht0 : Hid ((fun w' => w'.cell? ⟨w.heap.size, 0, none⟩ = some (.slice (some ⟨b3, o3, none⟩) ts.length c1) /\ w'.cell? ⟨b3, o3 + pn, none⟩ = some (.int .i64 (ts.getD pn 0))) wr.drew) := ⟨(cellq_any TQ.out.box).trans rfl, (TQ.out.bel.cell (p := ⟨b3, o3 + pn, none⟩) l3).trans (q3 pn hpn)⟩
    have ht1 : Hid ((fun w' => w'.cell? ⟨pb, i * 3 + 2, none⟩ = some (.int .i64 (pn : Int))) wr.drew) := (TQ.out.cells hi).2.2
    have y2 : wr.drew.frozen? ⟨pb, i * 3 + 2, none⟩ = false := TQ.out.pm.row.free _
    have z2 : pb < wr.drew.heap.size := TQ.out.pm.row.lt
    have TB2 : Hid (TP A H w0 w pb pc i #[.slice (some ⟨b3, o3, none⟩) ts.length c1, .slice (some ⟨b2, o2, none⟩) ns.length c2] l ⟨m, pra, prc, R, ts.getD pn 0⟩ (wr.drew.setCell ⟨pb, i * 3 + 2, none⟩ (.int .i64 (ts.getD pn 0)))) := TQ.out.prec hi _
    have HT0 : Hid ((fun w' => w'.cell? ⟨w.heap.size, 0, none⟩ = some (.slice (some ⟨b3, o3, none⟩) ts.length c1) /\ w'.cell? ⟨b3, o3 + pn, none⟩ = some (.int .i64 (ts.getD pn 0))) (wr.drew.setCell ⟨pb, i * 3 + 2, none⟩ (.int .i64 (ts.getD pn 0)))) := ⟨(cellq_any TB2.out.box).trans rfl, (TB2.out.bel.cell (p := ⟨b3, o3 + pn, none⟩) l3).trans (q3 pn hpn)⟩
    have hne : ((pn : Int) != -1) = true := by simp
    have HE2 : Hid (ts.getD pn 0 = (if (pn : Int) = -1 then -1 else ts.getD (pn : Int).toNat 0)) := by show _ = _; rw [if_neg hpm]; simp
    clear q3 TQ
    generalize ts.getD pn 0 = m2 at *
    go_wp2
    refine wp_region_x (S := SX 11 (fun w' => w'.cell? ⟨w.heap.size, 0, none⟩ = some (.slice (some ⟨b3, o3, none⟩) ts.length c1) /\ w'.cell? ⟨b3, o3 + pn, none⟩ = some (.int .i64 m2)) (fun w' => w'.cell? ⟨pb, i * 3 + 2, none⟩ = some (.int .i64 (pn : Int)))) (by kernel_rfl) ?_
    refine wtW (m := 11) (i := 0) (v := ?_) rfl (Or.inl ⟨by rfl, ?_⟩) (SX.both ht0.out ht1.out) ?_
    rotate_left
    ·(intro w hSw; (try dsimp only at hSw); go_simp; try (with_reducible rfl))
    (try simp only [Act.put, lsA, lsZ, lsN])
    refine wtW (m := 11) (i := 1) (v := ?_) rfl (Or.inl ⟨by rfl, ?_⟩) (SX.both ht0.out ht1.out) ?_
    rotate_left
    ·(intro w hSw; (try dsimp only at hSw); go_simp; try (with_reducible rfl))
    (try simp only [Act.put, lsA, lsZ, lsN])
    refine wtW (m := 11) (i := 2) (v := ?_) rfl (Or.inl ⟨by rfl, ?_⟩) (SX.both ht0.out ht1.out) ?_
    rotate_left
    ·(intro w hSw; (try dsimp only at hSw); go_simp; try (with_reducible rfl))
    (try simp only [Act.put, lsA, lsZ, lsN])
    refine wtW (m := 11) (i := 3) (v := ?_) rfl (Or.inl ⟨by rfl, ?_⟩) (SX.both ht0.out ht1.out) ?_
    rotate_left
    ·(intro w hSw; (try dsimp only at hSw); go_simp; try (with_reducible rfl))
    (try simp only [Act.put, lsA, lsZ, lsN])
    refine wtW (m := 11) (i := 4) (v := ?_) rfl (Or.inl ⟨by rfl, ?_⟩) (SX.both ht0.out ht1.out) ?_
    rotate_left
    ·(intro w hSw; (try dsimp only at hSw); go_simp; try (with_reducible rfl))
    (try simp only [Act.put, lsA, lsZ, lsN])
    refine wtW (m := 11) (i := 5) (v := ?_) rfl (Or.inl ⟨by rfl, ?_⟩) (SX.both ht0.out ht1.out) ?_
    rotate_left
    ·(intro w hSw; (try dsimp only at hSw); go_simp; try (with_reducible rfl))
    (try simp only [Act.put, lsA, lsZ, lsN])
    refine wtW (m := 11) (i := 6) (v := ?_) rfl (Or.inl ⟨by rfl, ?_⟩) (SX.both ht0.out ht1.out) ?_
    rotate_left
    ·(intro w hSw; (try dsimp only at hSw); go_simp; try (with_reducible rfl))
    (try simp only [Act.put, lsA, lsZ, lsN])
    refine wtW (m := 11) (i := 7) (v := ?_) rfl (Or.inl ⟨by rfl, ?_⟩) (SX.both ht0.out ht1.out) ?_
    rotate_left
    ·(intro w hSw; (try dsimp only at hSw); go_simp; try (with_reducible rfl))
    (try simp only [Act.put, lsA, lsZ, lsN])
    refine wtW (m := 11) (i := 8) (v := ?_) rfl (Or.inl ⟨by rfl, ?_⟩) (SX.both ht0.out ht1.out) ?_
    rotate_left
    ·(intro w hSw; (try dsimp only at hSw); go_simp; try (with_reducible rfl))
    (try simp only [Act.put, lsA, lsZ, lsN])
    refine wt0 (m := 11) (i := 9) (v := ?_) rfl (Or.inl ⟨by rfl, ?_⟩) (SX.both ht0.out ht1.out) ?_
    rotate_left
    ·(intro w hSw; (try dsimp only at hSw); go_simp; try (with_reducible rfl))
    (try simp only [Act.put, lsA, lsZ, lsN])
    refine wt0 (m := 11) (i := 10) (v := ?_) rfl (Or.inl ⟨by rfl, ?_⟩) (SX.both ht0.out ht1.out) ?_
    rotate_left
    ·(intro w hSw; (try dsimp only at hSw); go_simp; try (with_reducible rfl))
    (try simp only [Act.put, lsA, lsZ, lsN])
    generalize wr.drew = wq2 at *
    have x3 : wq2.cell? ⟨pb, i * 3 + 2, none⟩ = some (.int .i64 (pn : Int)) := ht1.out
    refine wpAnyX_one (j := 11) (by decide +kernel) rfl (fun K' hK => ?_)
    go_simp
    refine hK.out _ _ (SX.one HT0.out (by decide +kernel)) ?_
    clear hK K'
    refine wpAnyX_done (by decide +kernel) ?_
    clear ht0 ht1 HT0 x3 y2 z2
    go_wp2
    go_end0
    exact ⟨rfl, FIN.out m2 _ HE2.out TB2.out⟩
end Go.Proofs.YthgnhdnmcjpdmaaGreatDoor
