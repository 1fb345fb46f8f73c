import Derived.Test.YtccednepbkjajaaPGT5ToGOk2
namespace Go.Proofs.Ytccednepbkjajaa
set_option linter.unusedVariables false
open Go.RowKit
theorem MG.prods {B : Nat} {w w' : World} {g : GV} {A H E pb lb tb nb : Nat} (h : MG B w g A H E pb lb tb nb) (hs : w.heap.size <= w'.heap.size) (hk : ∀ j, j < w.heap.size -> j < A ∨ H <= j -> w'.heap[j]? = w.heap[j]?) (L : List PV) (hL : L.length = g.ps.length) (hp : PM A H w' pb g.pc L.length L) : MG B w' { g with ps := L } A H E pb lb tb nb := by
 have ho := h.ord
 refine ⟨⟨ho.1, ho.2.1, ho.2.2.1, by omega⟩, ⟨h.t.1, h.t.2.1.kept (hk _ h.t.2.1.lt (by have := h.t.2.2; omega)), h.t.2.2⟩, ⟨h.n_.1, h.n_.2.1.kept (hk _ h.n_.2.1.lt (by have := h.n_.2.2; omega)), h.n_.2.2⟩, h.pa, hp, by show L.length <= g.pc; rw [hL]; exact h.pc, fun hl => ⟨(h.l hl).1, (h.l hl).2.kept fun j hj hj2 => hk j (by omega) (.inr hj)⟩, h.tn⟩
theorem MG.later {B : Nat} {w w' : World} {g : GV} {A H E pb lb tb nb : Nat} (h : MG B w g A H E pb lb tb nb) (hb : Below w.heap.size w w') : MG B w' g A H E pb lb tb nb := by
 have ho := h.ord
 have hbs := hb.size
 exact ⟨⟨ho.1, ho.2.1, ho.2.2.1, by omega⟩, ⟨h.t.1, h.t.2.1.later hb, h.t.2.2⟩, ⟨h.n_.1, h.n_.2.1.later hb, h.n_.2.2⟩, h.pa, h.p.later (by omega) hb, h.pc, fun hl => ⟨(h.l hl).1, (h.l hl).2.later ho.2.2.2 hb⟩, h.tn⟩
theorem strRow_of {w : World} {b c s : Nat} {l : List ByteArray} (h : RB w b 9 (l.map .string) c s) : StrRow w (some ⟨b, 0, none⟩) l := by
 intro _
 refine ⟨b, 0, rfl, h.lt, fun i hi => ?_⟩
 have r1 := h.cell (i := i) (u := .string (l.getD i ByteArray.empty)) (by simp [List.getD, hi])
 simpa using r1
theorem MG.at {B : Nat} {w : World} {g : GV} {A H E pb lb tb nb : Nat} (h : MG B w g A H E pb lb tb nb) (n : Nat) (tz : ∀ s ∈ g.ts, s.size <= maxLen) (nz : ∀ s ∈ g.ns, s.size <= maxLen) (tl : g.ts.length <= n) (nl : g.ns.length <= n) (pl : g.ps.length <= n) (ll : g.ls.length <= n) (rl : ∀ p ∈ g.ps, p.right.length <= n) (vl : ∀ p ∈ g.ls, p.terms.length <= n) : GAt n w g := by
 refine ⟨?_, ?_, ?_, ?_, tz, nz, tl, nl, pl, ll, rl, vl⟩
 ·rw [h.t.1]; exact strRow_of h.t.2.1
 ·rw [h.n_.1]; exact strRow_of h.n_.2.1
 ·rw [h.pa]; exact h.p.at
 ·by_cases hl : g.ls = []
  ·rw [hl]; exact ⟨fun e => absurd rfl e, fun p hp => by cases hp⟩
  ·rw [(h.l hl).1]; exact (h.l hl).2.at
theorem MG.kept {B : Nat} {w w' : World} {g : GV} {A H E pb lb tb nb : Nat} (h : MG B w g A H E pb lb tb nb) (hs : w.heap.size <= w'.heap.size) (hk : ∀ j, B <= j -> j < w.heap.size -> w'.heap[j]? = w.heap[j]?) : MG B w' g A H E pb lb tb nb := by
 have ho := h.ord
 exact ⟨⟨ho.1, ho.2.1, ho.2.2.1, by omega⟩, ⟨h.t.1, h.t.2.1.kept (hk _ h.t.2.2.2 h.t.2.1.lt), h.t.2.2⟩, ⟨h.n_.1, h.n_.2.1.kept (hk _ h.n_.2.2.2 h.n_.2.1.lt), h.n_.2.2⟩, h.pa, h.p.kept fun j hj hj2 => hk j (by omega) (by omega), h.pc, fun hl => ⟨(h.l hl).1, (h.l hl).2.kept fun j hj hj2 => hk j (by omega) (by omega)⟩, h.tn⟩
theorem MG.mono {B B' : Nat} {w : World} {g : GV} {A H E pb lb tb nb : Nat} (h : MG B w g A H E pb lb tb nb) (hB : B' <= B) : MG B' w g A H E pb lb tb nb := by
 have ho := h.ord
 have h1 := h.t.2.2.2
 have h2 := h.n_.2.2.2
 exact ⟨⟨by omega, ho.2⟩, ⟨h.t.1, h.t.2.1, h.t.2.2.1, by omega⟩, ⟨h.n_.1, h.n_.2.1, h.n_.2.2.1, by omega⟩, h.pa, h.p, h.pc, h.l, h.tn⟩
theorem core_ext {α β : Type} (f : α -> β) (d : α) {l m : List α} (hl : l.length = m.length) (h : ∀ i, i < l.length -> f (l.getD i d) = f (m.getD i d)) : l.map f = m.map f := by
 apply List.ext_getElem
 ·simpa using hl
 ·intro i h1 h2
  have h1' : i < l.length := by simpa using h1
  have := h i h1'
  simp [List.getD, h1', show i < m.length by omega] at this
  simpa using this
def crev (c : Int × List (Int × Int) × Int) : Int × List (Int × Int) × Int := (c.1, c.2.1.reverse, c.2.2)
theorem CBx.five {n0 : Nat} {w0 w : World} {arr : Array Value} (h : CBx n0 w0 arr w) (a b c d e : Value) :
  Below n0 w0 (((((w.setCell ⟨n0 + 1, 0, none⟩ a).setCell ⟨n0 + 1, 1, none⟩ b).setCell ⟨n0 + 1, 2, none⟩ c).setCell ⟨n0 + 1, 3, none⟩ d).setCell ⟨n0 + 1, 4, none⟩ e) /\ ∀ j, j ≠ n0 + 1 -> (((((w.setCell ⟨n0 + 1, 0, none⟩ a).setCell ⟨n0 + 1, 1, none⟩ b).setCell ⟨n0 + 1, 2, none⟩ c).setCell ⟨n0 + 1, 3, none⟩ d).setCell ⟨n0 + 1, 4, none⟩ e).heap[j]? = w.heap[j]? := by
 refine ⟨((((h.bel.setCell (p := ⟨n0 + 1, 0, none⟩) (by show n0 <= n0 + 1; omega) _).setCell (p := ⟨n0 + 1, 1, none⟩) (by show n0 <= n0 + 1; omega) _).setCell (p := ⟨n0 + 1, 2, none⟩) (by show n0 <= n0 + 1; omega) _).setCell (p := ⟨n0 + 1, 3, none⟩) (by show n0 <= n0 + 1; omega) _).setCell (p := ⟨n0 + 1, 4, none⟩) (by show n0 <= n0 + 1; omega) _, fun j hj => ?_⟩
 rw [Below.heap_setCell _ _ _ _ hj, Below.heap_setCell _ _ _ _ hj, Below.heap_setCell _ _ _ _ hj, Below.heap_setCell _ _ _ _ hj, Below.heap_setCell _ _ _ _ hj]
set_option maxRecDepth 100000 in
set_option maxHeartbeats 4000000 in
theorem reverse_ok (g : GV) (w : World) (h : GAt 140737488355328 w g) (hpc : g.ps.length <= g.pc) (at_ : Int) (hE : checkG g (checkF g.ts g.ns) = (0, at_)) :
  Calls Try.prog 49 #[g.val] w fun e w' => ∃ g' A H E pb lb tb nb, e = .returned (.tuple #[g'.val, .int .i64 0]) /\ SameG g.rev g' /\ MG w.heap.size w' g' A H E pb lb tb nb /\ Below w.heap.size w w' := by
 have ok : OkC g := OkC.of (by rw [hE])
 have CB0 : Hid (CBx w.heap.size w #[.slice g.ta g.ts.length g.tc, .slice g.na g.ns.length g.nc, .int .i64 g.start, .slice g.pa g.ps.length g.pc, .slice g.la g.ls.length g.lc] ((w.alloc (.cells #[.slice g.ta g.ts.length g.tc, .slice g.na g.ns.length g.nc, .int .i64 g.start, .slice g.pa g.ps.length g.pc, .slice g.la g.ls.length g.lc] 26)).alloc (.cells #[.slice none 0 0, .slice none 0 0, .int .i64 0, .slice none 0 0, .slice none 0 0] 26))) := cb_start g w
 have HGA : Hid (∀ w', Below w.heap.size w w' -> GAt 140737488355328 w' g) := fun w' hb => h.later hb
 have he : ((0 : Int) != 0) = false := by simp
 have HO : Hid (OkC g) := ok
 have HN : Hid (g.ts ≠ [] /\ g.ns ≠ [] /\ g.ps ≠ []) := ⟨fun e => by have := ok.tl; rw [e] at this; simp at this, fun e => by have := ok.nl; rw [e] at this; simp at this, fun e => by have := ok.pl; rw [e] at this; simp at this⟩
 clear h ok
 go_enter Try.func49, Try.ntmps49
 go_wp2_with (first
  | (go_at_call 19; refine (check_G g _ (HGA.out _ CB0.out.bel) hpc 0 at_ hE).mono ?_; rintro e w1 ⟨rfl, b1⟩; have C1 : Hid (CBx w.heap.size w #[.slice g.ta g.ts.length g.tc, .slice g.na g.ns.length g.nc, .int .i64 g.start, .slice g.pa g.ps.length g.pc, .slice g.la g.ls.length g.lc] w1) := CB0.out.later b1; have x0 : w1.cell? ⟨w.heap.size, 0, none⟩ = some (.slice g.ta g.ts.length g.tc) := (cellq_any C1.out.box).trans rfl; have x1 : w1.cell? ⟨w.heap.size, 1, none⟩ = some (.slice g.na g.ns.length g.nc) := (cellq_any C1.out.box).trans rfl; have x2 : w1.cell? ⟨w.heap.size, 2, none⟩ = some (.int .i64 g.start) := (cellq_any C1.out.box).trans rfl; have x3 : w1.cell? ⟨w.heap.size, 3, none⟩ = some (.slice g.pa g.ps.length g.pc) := (cellq_any C1.out.box).trans rfl; have x4 : w1.cell? ⟨w.heap.size, 4, none⟩ = some (.slice g.la g.ls.length g.lc) := (cellq_any C1.out.box).trans rfl; have hz : w.heap.size < w1.heap.size := lt_of_block C1.out.box; clear b1)
  | (go_at_call 65; refine (clone_G g _ ((HGA.out _ C1.out.bel).ok HO.out) HN.out.1 HN.out.2.1 HN.out.2.2).mono ?_; rintro e w2 ⟨⟨ta, tc, ts, na, nc, ns, st, pa, pc, ps, la, lc, ls⟩, A, H, E, pb, lb, tb, nb, rfl, sg, mg, b2⟩; obtain rfl : ts = g.ts := sg.ts; obtain rfl : ns = g.ns := sg.ns; obtain rfl : st = g.start := sg.start; obtain rfl : pa = some ⟨pb, 0, none⟩ := mg.pa; have C2 : Hid (CBx w.heap.size w #[.slice g.ta g.ts.length g.tc, .slice g.na g.ns.length g.nc, .int .i64 g.start, .slice g.pa g.ps.length g.pc, .slice g.la g.ls.length g.lc] w2) := C1.out.later b2; have M2 : Hid (MG w1.heap.size w2 ⟨ta, tc, g.ts, na, nc, g.ns, g.start, some ⟨pb, 0, none⟩, pc, ps, la, lc, ls⟩ A H E pb lb tb nb) := mg; have S2 : Hid (ps.map PV.core = g.ps.map PV.core /\ ls.map LV.core = g.ls.map LV.core) := ⟨sg.ps, sg.ls⟩; have hpl : ps.length <= 1048576 := (by have h1 := congrArg List.length sg.ps; have h2 := HO.out.pl.2; simp at h1; omega); clear sg mg b2))
 obtain ⟨b6, hb6⟩ : ∃ b6, b6 = w2.heap.size := ⟨_, rfl⟩
 obtain ⟨B, hB⟩ : ∃ B, B = w1.heap.size := ⟨_, rfl⟩
 have HB : Hid (B = w1.heap.size /\ w.heap.size + 2 <= B /\ E <= b6) := ⟨hB, by rw [hB]; exact lt_of_block C1.out.out, by have := M2.out.ord.2.2.2; omega⟩
 rw [<- hb6]
 go_loopw [23] (fun z wr => ∃ (k : Nat) (L : List PV), k <= ps.length /\ z = .int .i64 k /\ CBx w.heap.size w #[.slice g.ta g.ts.length g.tc, .slice g.na g.ns.length g.nc, .int .i64 g.start, .slice g.pa g.ps.length g.pc, .slice g.la g.ls.length g.lc] wr /\ wr.heap[b6]? = some (.cells #[.slice ta g.ts.length tc, .slice na g.ns.length nc, .int .i64 g.start, .slice (some ⟨pb, 0, none⟩) ps.length pc, .slice la ls.length lc] 26 (0, 0)) /\ MG B wr ⟨ta, tc, g.ts, na, nc, g.ns, g.start, some ⟨pb, 0, none⟩, pc, L, la, lc, ls⟩ A H E pb lb tb nb /\ L.length = ps.length /\ ∀ i, i < L.length -> (L.getD i .none).core = if i < k then crev (ps.getD i .none).core else (ps.getD i .none).core) (fun z _ => ps.length - (intOf z).toNat)
 case atStart =>
  refine ⟨0, ps, Nat.zero_le _, rfl, C2.out.later (below_alloc _ _), by rw [hb6]; exact alloc_at _ _, ?_, rfl, fun i _ => by rw [if_neg (Nat.not_lt_zero _)]⟩
  rw [hB]
  exact M2.out.later (below_alloc _ _)
 case round =>
  clear x0 x1 x2 x3 x4 hz C1 C2 M2 CB0 hB hb6
  obtain ⟨k, L, hk, rfl, hC, hT, hM, hLl, hcore⟩ := hrel
  have HC : Hid (CBx w.heap.size w #[.slice g.ta g.ts.length g.tc, .slice g.na g.ns.length g.nc, .int .i64 g.start, .slice g.pa g.ps.length g.pc, .slice g.la g.ls.length g.lc] wr /\ wr.heap[b6]? = some (.cells #[.slice ta g.ts.length tc, .slice na g.ns.length nc, .int .i64 g.start, .slice (some ⟨pb, 0, none⟩) ps.length pc, .slice la ls.length lc] 26 (0, 0)) /\ MG B wr ⟨ta, tc, g.ts, na, nc, g.ns, g.start, some ⟨pb, 0, none⟩, pc, L, la, lc, ls⟩ A H E pb lb tb nb /\ L.length = ps.length /\ ∀ i, i < L.length -> (L.getD i .none).core = if i < k then crev (ps.getD i .none).core else (ps.getD i .none).core) := ⟨hC, hT, hM, hLl, hcore⟩
  by_cases hlt : k < ps.length
  ·obtain ⟨p0, p1, p2⟩ := proCells_get L k (by omega)
   have c0 := hM.p.row.cell p0
   have c1' := hM.p.row.cell p1
   have c2' := hM.p.row.cell p2
   have HE : Hid ((L.getD k .none).right ≠ [] -> (L.getD k .none).ra = some ⟨ablk (L.getD k .none).ra, 0, none⟩ /\ (A <= ablk (L.getD k .none).ra /\ ablk (L.getD k .none).ra < H) /\ RB wr (ablk (L.getD k .none).ra) 47 (symCells (L.getD k .none).right) (L.getD k .none).rc 2) := fun hr => by
    have := hM.p.each k (by show k < L.length; omega) hr
    exact ⟨this.1, this.2.1, this.2.2.2⟩
   have HR0 : Hid ((L.getD k .none).right.length <= 1048576) := by
    show _ <= _
    have h1 : (L.getD k .none).core = (g.ps.getD k .none).core := by
     rw [hcore k (by omega), if_neg (Nat.lt_irrefl _), getD_core PV.core, S2.out.1, <- getD_core PV.core]
    have h2 : (L.getD k .none).right = (g.ps.getD k .none).right := congrArg (·.2.1) h1
    have h3 : ps.length = g.ps.length := by simpa using congrArg List.length S2.out.1
    have := HO.out.right k (by omega)
    rw [h2]; omega
   clear hC hT hM hcore p0 p1 p2
   generalize hx : L.getD k .none = x at *
   have HX : Hid (L.getD k .none = x) := hx
   clear hx
   obtain ⟨pl, pra, prc, pr, pp⟩ := x
   simp only at c0 c1' c2' HE HR0
   have BA : Hid (Below wr.heap.size wr (wr.alloc (.cells #[.int .i64 pl, .slice pra pr.length prc, .int .i64 pp] 52))) := below_alloc _ _
   have SA : Hid ((wr.alloc (.cells #[.int .i64 pl, .slice pra pr.length prc, .int .i64 pp] 52)).heap.size = wr.heap.size + 1) := by show _ = _; simp
   by_cases hr : pr = []
   ·subst hr
    simp only [List.length_nil] at c1'
    go_wp2_with (go_at_call 66; refine (rev_none pra prc _).mono ?_; rintro e w4 ⟨rfl, rfl⟩)
    go_roundw
    case rel =>
     obtain ⟨hC, hT, hM, hLl, hcore⟩ := HC.out
     refine ⟨k + 1, L, by omega, by go_num, hC.later BA.out, (BA.out.block _ (lt_of_block hT)).trans hT, hM.later BA.out, hLl, fun i hi => ?_⟩
     by_cases e : i = k
     ·subst e
      have h1 := hcore i hi
      rw [if_neg (Nat.lt_irrefl _)] at h1
      rw [if_pos (by omega), <- h1, HX.out]
      rfl
     ·rw [hcore i hi]
      by_cases e2 : i < k
      ·rw [if_pos e2, if_pos (by omega)]
      ·rw [if_neg e2, if_neg (by omega)]
    case measure => simp [intOf]; omega
   ·obtain ⟨hra, hlo, hrb⟩ := HE.out hr
    have HRB : Hid (RB wr (ablk pra) 47 (symCells pr) prc 2 /\ A <= ablk pra /\ ablk pra < H) := ⟨hrb, hlo⟩
    clear hlo hrb HE
    generalize hbk : ablk pra = bk at *
    subst hra
    go_wp2_with (go_at_call 66; refine (rev_sym bk prc pr _ HR0.out (HRB.out.1.later (below_alloc wr _))).mono ?_; rintro e w4 ⟨rfl, r4, t4⟩)
    go_roundw
    case rel =>
     obtain ⟨hC, hT, hM, hLl, hcore⟩ := HC.out
     obtain ⟨hrb, hA, hH⟩ := HRB.out
     have ho := hM.ord
     have hB := HB.out
     have hw : bk < wr.heap.size := hrb.lt
     have hs := SA.out
     have keep : ∀ j, j < wr.heap.size -> j ≠ bk -> w4.heap[j]? = wr.heap[j]? := fun j hj hj2 => (t4.other j (by omega) hj2).trans (BA.out.block j hj)
     have B4 : Below w.heap.size w w4 := hC.bel.trans (((BA.out.mono hC.bel.size).trans (t4.bel w.heap.size (by have := hC.bel.size; omega) (by omega))))
     have hl2 := lt_of_block hC.out
     have hl6 := lt_of_block hT
     have hP := (hM.p.later (by omega) BA.out).turn (Nat.le_refl _) (i := k) (w' := w4) (by show k < L.length; omega) (by rw [HX.out]; exact hr) pr.reverse (by rw [HX.out]; simp) (fun j _ hj2 hj3 => t4.other j (by omega) (by rw [HX.out] at hj3; exact hj3)) (by rw [HX.out]; exact r4)
     rw [HX.out] at hP
     refine ⟨k + 1, L.set k { (⟨pl, some ⟨bk, 0, none⟩, prc, pr, pp⟩ : PV) with right := pr.reverse }, by omega, by go_num, ⟨(keep _ (by omega) (by omega)).trans hC.box, (keep _ hl2 (by omega)).trans hC.out, B4⟩, (keep _ hl6 (by omega)).trans hT, hM.prods (Nat.le_trans BA.out.size t4.size) (fun j hj hj2 => keep j hj (by omega)) _ (by simp) (by simpa using hP), by simpa using hLl, fun i hi => ?_⟩
     have hi' : i < L.length := by simpa using hi
     by_cases e : i = k
     ·subst e
      have h1 := hcore i hi'
      rw [if_neg (Nat.lt_irrefl _), HX.out] at h1
      rw [if_pos (by omega), getD_set_eq hi', <- h1]
      rfl
     ·rw [getD_set_ne e, hcore i hi']
      by_cases e2 : i < k
      ·rw [if_pos e2, if_pos (by omega)]
      ·rw [if_neg e2, if_neg (by omega)]
    case measure => simp [intOf]; omega
  ·obtain rfl : k = ps.length := by omega
   have b0 : wr.cell? ⟨b6, 0, none⟩ = some (.slice ta g.ts.length tc) := (cellq_any hT).trans rfl
   have r0 : wr.cell? ⟨w.heap.size + 1, 0, none⟩ = some (.slice none 0 0) := (cellq_any hC.out).trans rfl
   have y0 : wr.frozen? ⟨w.heap.size + 1, 0, none⟩ = false := by simp [World.frozen?, hC.out]
   have b1 : wr.cell? ⟨b6, 1, none⟩ = some (.slice na g.ns.length nc) := (cellq_any hT).trans rfl
   have r1 : wr.cell? ⟨w.heap.size + 1, 1, none⟩ = some (.slice none 0 0) := (cellq_any hC.out).trans rfl
   have y1 : wr.frozen? ⟨w.heap.size + 1, 1, none⟩ = false := by simp [World.frozen?, hC.out]
   have b2 : wr.cell? ⟨b6, 2, none⟩ = some (.int .i64 g.start) := (cellq_any hT).trans rfl
   have r2 : wr.cell? ⟨w.heap.size + 1, 2, none⟩ = some (.int .i64 0) := (cellq_any hC.out).trans rfl
   have y2 : wr.frozen? ⟨w.heap.size + 1, 2, none⟩ = false := by simp [World.frozen?, hC.out]
   have b3 : wr.cell? ⟨b6, 3, none⟩ = some (.slice (some ⟨pb, 0, none⟩) ps.length pc) := (cellq_any hT).trans rfl
   have r3 : wr.cell? ⟨w.heap.size + 1, 3, none⟩ = some (.slice none 0 0) := (cellq_any hC.out).trans rfl
   have y3 : wr.frozen? ⟨w.heap.size + 1, 3, none⟩ = false := by simp [World.frozen?, hC.out]
   have b4 : wr.cell? ⟨b6, 4, none⟩ = some (.slice la ls.length lc) := (cellq_any hT).trans rfl
   have r4 : wr.cell? ⟨w.heap.size + 1, 4, none⟩ = some (.slice none 0 0) := (cellq_any hC.out).trans rfl
   have y4 : wr.frozen? ⟨w.heap.size + 1, 4, none⟩ = false := by simp [World.frozen?, hC.out]
   have hz : w.heap.size + 1 < wr.heap.size := lt_of_block hC.out
   clear hC hT hM hcore
   go_wp2
   refine bodyPost_ret (v := .tuple #[.agg #[.slice ta g.ts.length tc, .slice na g.ns.length nc, .int .i64 g.start, .slice (some ⟨pb, 0, none⟩) ps.length pc, .slice la ls.length lc], .int .i64 0]) (by simp [results, Try.results49, go_sem, r0, r1, r2, r3, r4]) rfl ?_
   obtain ⟨hC, hT, hM, hLl, hcore⟩ := HC.out
   have h5 := hC.five (.slice ta g.ts.length tc) (.slice na g.ns.length nc) (.int .i64 g.start) (.slice (some ⟨pb, 0, none⟩) ps.length pc) (.slice la ls.length lc)
   have hB := HB.out
   refine ⟨⟨ta, tc, g.ts, na, nc, g.ns, g.start, some ⟨pb, 0, none⟩, pc, L, la, lc, ls⟩, A, H, E, pb, lb, tb, nb, ?_, ⟨rfl, rfl, rfl, ?_, S2.out.2⟩, ?_, h5.1⟩
   ·simp only [GV.val, hLl]
   ·have e3 : ps.length = g.ps.length := by simpa using congrArg List.length S2.out.1
    refine core_ext PV.core .none (by simp [GV.rev]; omega) fun i hi => ?_
    have hi' : i < L.length := hi
    rw [hcore i hi', if_pos (by omega), getD_core PV.core, S2.out.1, <- getD_core PV.core]
    have e4 : (g.rev.ps.getD i .none) = (g.ps.getD i .none).rev := by simp [GV.rev, List.getD, show i < g.ps.length by omega]
    rw [e4]
    rfl
   ·refine (hM.kept ?_ fun j hj _ => h5.2 j (by omega)).mono (by omega)
    simp
end Go.Proofs.Ytccednepbkjajaa
