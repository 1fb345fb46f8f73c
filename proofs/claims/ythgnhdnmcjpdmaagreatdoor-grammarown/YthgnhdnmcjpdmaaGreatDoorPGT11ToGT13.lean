import Derived.Test.YthgnhdnmcjpdmaaGreatDoorPGT5ToGT10
import Derived.Shelf.SortM.Plain
import Derived.Shelf.SortM.SortNone
import Derived.Lib.SlKeysI
namespace Go.Proofs.YthgnhdnmcjpdmaaGreatDoor
set_option linter.unusedVariables false
set_option maxRecDepth 100000
set_option maxHeartbeats 16000000
open Go.RowKit Go.Shelf Go.Sort Go.Lib
def sortRen : Ren := ⟨fun | 5 => 124 | 7 => 154 | 8 => 155 | 10 => 166 | 11 => 167 | 12 => 168 | 13 => 169 | 14 => 170 | 15 => 171 | 16 => 172 | 17 => 173 | 18 => 174 | 19 => 175 | 20 => 176 | 30 => 178 | 31 => 179 | 32 => 180 | 33 => 181 | 34 => 182 | 35 => 183 | 40 => 184 | n => n, fun | 22 => 27 | 23 => 27 | 25 => 3 | 32 => 206 | 35 => 239 | 36 => 240 | 41 => 244 | 44 => 145 | 46 => 134 | 53 => 247 | 57 => 251 | 63 => 253 | 64 => 254 | n => n, fun n => n⟩
theorem sort_lays : SlLaysM.n5 Tryz.prog sortRen := {
 mixed := by kernel_rfl
 f5 := ⟨Tryz.f124.name, by decide, by kernel_rfl⟩
 f7 := ⟨Tryz.f154.name, by decide, by kernel_rfl⟩
 f8 := by kernel_rfl
 f10 := ⟨Tryz.f166.name, by decide, by kernel_rfl⟩
 f11 := ⟨Tryz.f167.name, by decide, by kernel_rfl⟩
 f12 := ⟨Tryz.f168.name, by decide, by kernel_rfl⟩
 f13 := ⟨Tryz.f169.name, by decide, by kernel_rfl⟩
 f14 := ⟨Tryz.f170.name, by decide, by kernel_rfl⟩
 f15 := ⟨Tryz.f171.name, by decide, by kernel_rfl⟩
 f16 := ⟨Tryz.f172.name, by decide, by kernel_rfl⟩
 f17 := ⟨Tryz.f173.name, by decide, by kernel_rfl⟩
 f18 := ⟨Tryz.f174.name, by decide, by kernel_rfl⟩
 f19 := by kernel_rfl
 f20 := by kernel_rfl
 f30 := ⟨Tryz.f178.name, by decide, by kernel_rfl⟩
 f31 := by kernel_rfl
 f32 := by kernel_rfl
 f33 := ⟨Tryz.f181.name, by decide, by kernel_rfl⟩
 f34 := ⟨Tryz.f182.name, by decide, by kernel_rfl⟩
 f35 := ⟨Tryz.f183.name, by decide, by kernel_rfl⟩
 f40 := ⟨Tryz.f184.name, by decide, by kernel_rfl⟩
 t0 := by kernel_rfl
 a0 := fun _ => by kernel_rfl
 z0 := fun _ => by kernel_rfl
 v0 := fun _ => by kernel_rfl
 t3 := by kernel_rfl
 a3 := fun _ => by kernel_rfl
 z3 := fun _ => by kernel_rfl
 v3 := fun _ => by kernel_rfl
 t4 := by kernel_rfl
 a4 := fun _ => by kernel_rfl
 z4 := fun _ => by kernel_rfl
 v4 := fun _ => by kernel_rfl
 t5 := by kernel_rfl
 a5 := fun _ => by kernel_rfl
 z5 := fun _ => by kernel_rfl
 v5 := fun _ => by kernel_rfl
 t9 := by kernel_rfl
 a9 := fun _ => by kernel_rfl
 z9 := fun _ => by kernel_rfl
 v9 := fun _ => by kernel_rfl
 t22 := by kernel_rfl
 a22 := fun _ => by kernel_rfl
 z22 := fun _ => by kernel_rfl
 v22 := fun _ => by kernel_rfl
 t23 := by kernel_rfl
 a23 := fun _ => by kernel_rfl
 z23 := fun _ => by kernel_rfl
 v23 := fun _ => by kernel_rfl
 t25 := by kernel_rfl
 a25 := fun _ => by kernel_rfl
 z25 := fun _ => by kernel_rfl
 v25 := fun _ => by kernel_rfl
 t32 := by kernel_rfl
 a32 := fun _ => by kernel_rfl
 z32 := fun _ => by kernel_rfl
 v32 := fun _ => by kernel_rfl
 t35 := by kernel_rfl
 a35 := fun _ => by kernel_rfl
 z35 := fun _ => by kernel_rfl
 v35 := fun _ => by kernel_rfl
 t36 := by kernel_rfl
 a36 := fun _ => by kernel_rfl
 z36 := fun _ => by kernel_rfl
 v36 := fun _ => by kernel_rfl
 t41 := by kernel_rfl
 a41 := fun _ => by kernel_rfl
 z41 := fun _ => by kernel_rfl
 v41 := fun _ => by kernel_rfl
 t44 := by kernel_rfl
 a44 := fun _ => by kernel_rfl
 z44 := fun _ => by kernel_rfl
 v44 := fun _ => by kernel_rfl
 t46 := by kernel_rfl
 a46 := fun _ => by kernel_rfl
 z46 := fun _ => by kernel_rfl
 v46 := fun _ => by kernel_rfl
 t53 := by kernel_rfl
 a53 := fun _ => by kernel_rfl
 z53 := fun _ => by kernel_rfl
 v53 := fun _ => by kernel_rfl
 t57 := by kernel_rfl
 a57 := fun _ => by kernel_rfl
 z57 := fun _ => by kernel_rfl
 v57 := fun _ => by kernel_rfl
 t63 := by kernel_rfl
 a63 := fun _ => by kernel_rfl
 z63 := fun _ => by kernel_rfl
 v63 := fun _ => by kernel_rfl
 t64 := by kernel_rfl
 a64 := fun _ => by kernel_rfl
 z64 := fun _ => by kernel_rfl
 v64 := fun _ => by kernel_rfl }
theorem sort_int {C S : Nat} (b c : Nat) (l : List Int) (w : World) (hl : l.length <= 1048576) (h : RB w b 3 (l.map (.int .i64 ·)) C S) :
  Calls Tryz.prog 124 #[.slice (some ⟨b, 0, none⟩) l.length c] w fun e w' => e = .returned (.tuple #[]) /\ RB w' b 3 ((sortU l).map (.int .i64 ·)) C S /\ Turned w w' b := by
 have hH : Holds encZ w b 0 l.toArray := fun j hj => by
  have hj' : j < l.length := by simpa using hj
  refine ⟨?_, h.free _⟩
  rw [Nat.zero_add, h.cell (i := j) (u := .int .i64 l[j]) (by simp [hj'])]
  simp [hj', encZ]
 have hc := AnyM.slices_Sort_int sort_lays b 0 c l w hH h.lt (by omega)
 change Calls Tryz.prog 124 _ _ _ at hc
 refine hc.mono ?_
 rintro e w' ⟨rfl, n, os, rfl⟩
 have hs : (sortU l).length = l.length := (sortU_perm l).length_eq
 refine ⟨rfl, ?_, ?_⟩
 ·obtain ⟨cur, h1, h2, _, h4, h5⟩ := h
  simp only [List.length_map] at h2
  refine ⟨_, heap_sorted_i _ h1, ?_, ?_, by simpa [putCells] using h4, h5⟩
  ·simp [putCells, hs]; exact h2
  ·rw [List.length_map]
   exact take_putCells_i cur (sortU l) (by omega)
 ·have hg := grownBy_sorted_i (w := w) (g := b) (n := n) (os := os) (l.mergeSort fun x y => decide (x <= y)).toArray
  exact ⟨hg.size, fun j hj hne => hg.block j hj (fun e => hne (by cases e; rfl)), fun B hB hb => (Below.refl B w).grown hg hB (fun k e => by cases e; exact hb)⟩
theorem Turned.trans {w w1 w2 : World} {b : Nat} (h : Turned w w1 b) (h' : Turned w1 w2 b) : Turned w w2 b :=
 ⟨Nat.le_trans h.size h'.size, fun j hj hne => (h'.other j (Nat.lt_of_lt_of_le hj h.size) hne).trans (h.other j hj hne), fun B hB hb => (h.bel B hB hb).trans (h'.bel B (Nat.le_trans hB h.size) hb)⟩
theorem Turned.of {w w' : World} (b : Nat) (h : Below w.heap.size w w') : Turned w w' b := ⟨h.size, fun j hj _ => h.block j hj, fun _ hB _ => h.mono hB⟩
theorem Turned.set (w : World) (b i : Nat) (u : Value) : Turned w (w.setCell ⟨b, i, none⟩ u) b :=
 ⟨by simp, fun _ _ hne => Below.heap_setCell _ _ _ _ hne, fun B _ hb => (Below.refl B w).setCell (p := ⟨b, i, none⟩) hb u⟩
theorem turnLevel_G {C S : Nat} (a1 a2 : Option Addr) (c1 c2 : Nat) (ts ns : List Int) (bk c : Nat) (l : List Int) (w0 w : World) (h1 : InRow w0 a1 ts) (hl : ts.length <= 1048576) (hb : Below w0.heap.size w0 w) (hA : w0.heap.size <= bk) (hR : RB w bk 3 (l.map (.int .i64 ·)) C S) (hll : l.length <= 1048576) (hs : ∀ x ∈ l, 0 <= x /\ x < ts.length) (hne : l ≠ [])
  (L : List Int) (hL : sortU (l.map fun x => ts.getD x.toNat 0) = L) :
  Calls Tryz.prog 79 #[numV a1 c1 ts a2 c2 ns, .slice (some ⟨bk, 0, none⟩) l.length c] w fun e w' => e = .returned (.tuple #[]) /\ RB w' bk 3 (L.map (.int .i64 ·)) C S /\ Turned w w' bk := by
 have HBA : Hid (∀ w', Turned w w' bk -> Below w0.heap.size w0 w') := fun w' ht => hb.trans (ht.bel w0.heap.size hb.size hA)
 have HI : Hid (InRow w0 a1 ts) := h1
 have HS : Hid (∀ x ∈ l, 0 <= x /\ x < ts.length) := hs
 have HL : Hid (sortU (l.map fun x => ts.getD x.toNat 0) = L) := hL
 have HW : Hid (bk < w.heap.size) := hR.lt
 have HR : Hid (RB w bk 3 (l.map (.int .i64 ·)) C S) := hR
 have HN : Hid (l ≠ []) := hne
 clear h1 hs hL hb hR hA hne
 go_enter Tryz.func79, Tryz.ntmps79
 go_wp2
 go_loopw [8] (fun z wr => ∃ (k : Nat) (R : List Int), k <= l.length /\ z = .int .i64 k /\ R.length = l.length /\ (∀ j, j < l.length -> R.getD j 0 = if j < k then ts.getD (l.getD j 0).toNat 0 else l.getD j 0) /\ RB wr bk 3 (R.map (.int .i64 ·)) C S /\ wr.heap[w.heap.size]? = some (.cells #[.slice a1 ts.length c1, .slice a2 ns.length c2] 80 (0, 0)) /\ Turned w wr bk) (fun z _ => l.length - (intOf z).toNat)
 case atStart => exact ⟨0, l, Nat.zero_le _, rfl, rfl, fun j _ => by rw [if_neg (Nat.not_lt_zero _)], HR.out.later (below_alloc _ _), alloc_at _ _, Turned.of _ (below_alloc _ _)⟩
 case round =>
  obtain ⟨k, R, hk, rfl, hRl, hRv, hRB, hbx, hT⟩ := hrel
  have HC : Hid (RB wr bk 3 (R.map (.int .i64 ·)) C S /\ wr.heap[w.heap.size]? = some (.cells #[.slice a1 ts.length c1, .slice a2 ns.length c2] 80 (0, 0)) /\ Turned w wr bk) := ⟨hRB, hbx, hT⟩
  have HRV : Hid (∀ j, j < l.length -> R.getD j 0 = if j < k then ts.getD (l.getD j 0).toNat 0 else l.getD j 0) := hRv
  by_cases hlt : k < l.length
  ·have c0 := hRB.cell (i := k) (u := .int .i64 (R.getD k 0)) (by simp [List.getD, show k < R.length by omega])
   have f0 : wr.frozen? ⟨bk, k, none⟩ = false := hRB.free _
   have hz : bk < wr.heap.size := hRB.lt
   have eR : R.getD k 0 = l.getD k 0 := by rw [hRv k hlt, if_neg (Nat.lt_irrefl _)]
   rw [eR] at c0
   have hmem : l.getD k 0 ∈ l := by simp [List.getD, hlt]
   have hsm := HS.out _ hmem
   generalize hq : l.getD k 0 = q at *
   have HQ : Hid (l.getD k 0 = q) := hq
   clear hq
   obtain ⟨sn, rfl⟩ : ∃ sn : Nat, q = (sn : Int) := ⟨q.toNat, by omega⟩
   have hsn : sn < ts.length := by omega
   obtain ⟨b2, o2, e2, l2, q2⟩ := (HI.out.later (HBA.out _ hT)) (by intro e; rw [e] at hsn; simp at hsn)
   subst e2
   have x0 : wr.cell? ⟨w.heap.size, 0, none⟩ = some (.slice (some ⟨b2, o2, none⟩) ts.length c1) := (cellq_any hbx).trans rfl
   have x1 := q2 sn hsn
   have HM : Hid (ts.getD sn 0 = ts.getD ((sn : Int)).toNat 0) := by show _ = _; simp
   clear hRv hRB hbx hT hmem hsm q2 l2 eR
   generalize ts.getD sn 0 = m at *
   go_wp2
   go_roundw
   case rel =>
    have hw := HW.out
    refine ⟨k + 1, R.set k m, by omega, by go_num, by simpa using hRl, fun j hj => ?_, ?_, (Below.heap_setCell _ _ _ _ (show w.heap.size ≠ bk by omega)).trans HC.out.2.1, HC.out.2.2.trans (Turned.set _ _ _ _)⟩
    ·by_cases e : j = k
     ·subst e
      rw [getD_set_eq (by omega), if_pos (by omega), HQ.out]
      exact HM.out
     ·rw [getD_set_ne e, HRV.out j hj]
      by_cases e2 : j < k
      ·rw [if_pos e2, if_pos (by omega)]
      ·rw [if_neg e2, if_neg (by omega)]
    ·rw [List.map_set]
     exact HC.out.1.set _ _
   case measure => simp [intOf]; omega
  ·obtain rfl : k = l.length := by omega
   have ER : Hid (R = l.map fun x => ts.getD x.toNat 0) := by
    show R = _
    apply List.ext_getElem
    ·simpa using hRl
    ·intro j h1 h2
     have hj : j < l.length := by omega
     have := hRv j hj
     rw [if_pos hj] at this
     have e1 : R.getD j 0 = R[j] := by simp [List.getD, h1]
     have e2 : l.getD j 0 = l[j] := by simp [List.getD, hj]
     rw [e1, e2] at this
     rw [List.getElem_map]
     exact this
   have SC : Hid (Calls Tryz.prog 124 #[.slice (some ⟨bk, 0, none⟩) l.length c] wr fun e w' => e = .returned (.tuple #[]) /\ RB w' bk 3 (L.map (.int .i64 ·)) C S /\ Turned wr w' bk) := by
    have := sort_int bk c R wr (by omega) HC.out.1
    rw [hRl, ER.out, HL.out] at this
    exact this
   clear hRv hRB hbx hT
   go_wp2_with (go_at_call 124; refine SC.out.mono ?_; rintro e w4 ⟨rfl, r4, t4⟩)
   go_end0
   exact ⟨rfl, r4, HC.out.2.2.trans t4⟩
structure RGx (w : World) (na ga : Array Value) (wr : World) : Prop where
 b0 : wr.heap[w.heap.size]? = some (.cells na 80 (0, 0))
 b1 : wr.heap[w.heap.size + 1]? = some (.cells ga 26 (0, 0))
 b2 : wr.heap[w.heap.size + 2]? = some (.cells #[.slice none 0 0, .slice none 0 0, .int .i64 0, .slice none 0 0, .slice none 0 0] 26 (0, 0))
 bel : Below w.heap.size w wr
theorem RGx.later {w : World} {na ga : Array Value} {wr wr' : World} (h : RGx w na ga wr) (hb : Below wr.heap.size wr wr') : RGx w na ga wr' :=
 ⟨(hb.block _ (lt_of_block h.b0)).trans h.b0, (hb.block _ (lt_of_block h.b1)).trans h.b1, (hb.block _ (lt_of_block h.b2)).trans h.b2, h.bel.trans (hb.mono h.bel.size)⟩
theorem RGx.set {w : World} {na ga : Array Value} {wr : World} (h : RGx w na ga wr) (b i : Nat) (u : Value) (hb : w.heap.size + 3 <= b) : RGx w na ga (wr.setCell ⟨b, i, none⟩ u) :=
 ⟨(Below.heap_setCell _ _ _ _ (show w.heap.size ≠ b by omega)).trans h.b0, (Below.heap_setCell _ _ _ _ (show w.heap.size + 1 ≠ b by omega)).trans h.b1, (Below.heap_setCell _ _ _ _ (show w.heap.size + 2 ≠ b by omega)).trans h.b2, h.bel.setCell (p := ⟨b, i, none⟩) (by show w.heap.size <= b; omega) u⟩
theorem RGx.kept {w : World} {na ga : Array Value} {wr wr' : World} (h : RGx w na ga wr) (hk : ∀ j, j < w.heap.size + 3 -> wr'.heap[j]? = wr.heap[j]?) (hb : Below w.heap.size w wr') : RGx w na ga wr' :=
 ⟨(hk _ (by omega)).trans h.b0, (hk _ (by omega)).trans h.b1, (hk _ (by omega)).trans h.b2, hb⟩
theorem rg_start (w : World) (na ga : Array Value) : RGx w na ga (((w.alloc (.cells na 80)).alloc (.cells ga 26)).alloc (.cells #[.slice none 0 0, .slice none 0 0, .int .i64 0, .slice none 0 0, .slice none 0 0] 26)) := by
 obtain ⟨h1, h2, h3, h4⟩ := three_alloc w (.cells na 80) (.cells ga 26) (.cells #[.slice none 0 0, .slice none 0 0, .int .i64 0, .slice none 0 0, .slice none 0 0] 26)
 refine ⟨h1, h2, h3, ?_⟩
 obtain ⟨q1, _, _⟩ := two_alloc w (.cells na 80) (.cells ga 26)
 exact q1.trans ((below_alloc _ _).mono (by simp; omega))
theorem MG.names {B : Nat} {w : World} {g : GV} {A H E pb lb tb nb : Nat} (h : MG B w g A H E pb lb tb nb) (tb' nb' tc nc : Nat) (ts ns : List ByteArray) (st : Int) (h1 : RB w tb' 9 (ts.map .string) tc 1) (h2 : RB w nb' 9 (ns.map .string) nc 1) (e1 : E <= tb') (e2 : E <= nb') (e3 : tb' ≠ nb') : MG B w { g with ta := some ⟨tb', 0, none⟩, tc := tc, ts := ts, na := some ⟨nb', 0, none⟩, nc := nc, ns := ns, start := st } A H E pb lb tb' nb' := by
 have ho := h.ord
 exact ⟨ho, ⟨rfl, h1, .inr e1, by omega⟩, ⟨rfl, h2, .inr e2, by omega⟩, h.pa, h.p, h.pc, h.l, e3⟩
theorem MG.off5 {B : Nat} {w : World} {g : GV} {A H E pb lb tb nb : Nat} (h : MG B w g A H E pb lb tb nb) {b : Nat} (hb : E <= b) (i : Nat) (u : Value) (h1 : tb ≠ b) (h2 : nb ≠ b) : MG B (w.setCell ⟨b, i, none⟩ u) g A H E pb lb tb nb := by
 have ho := h.ord
 exact ⟨⟨ho.1, ho.2.1, ho.2.2.1, by simpa using ho.2.2.2⟩, ⟨h.t.1, h.t.2.1.other h1 _ _, h.t.2.2⟩, ⟨h.n_.1, h.n_.2.1.other h2 _ _, h.n_.2.2⟩, h.pa, h.p.kept (fun j _ hj => Below.heap_setCell _ _ _ _ (show j ≠ b by omega)), h.pc, fun hl => ⟨(h.l hl).1, (h.l hl).2.kept (fun j _ hj => Below.heap_setCell _ _ _ _ (show j ≠ b by omega))⟩, h.tn⟩
theorem MG.levels {B : Nat} {w w' : World} {g : GV} {A H E pb lb tb nb : Nat} (h : MG B w g A H E pb lb tb nb) (hs : w.heap.size <= w'.heap.size) (hk : ∀ j, j < w.heap.size -> j < H ∨ E <= j -> w'.heap[j]? = w.heap[j]?) (L : List LV) (hL : L.length = g.ls.length) (hp : L ≠ [] -> LMt H E w' lb g.lc L.length L) : MG B w' { g with ls := L } A H E pb lb tb nb := by
 have ho := h.ord
 refine ⟨⟨ho.1, ho.2.1, ho.2.2.1, by omega⟩, ⟨h.t.1, h.t.2.1.kept (hk _ h.t.2.1.lt (by have := h.t.2.2; omega)), h.t.2.2⟩, ⟨h.n_.1, h.n_.2.1.kept (hk _ h.n_.2.1.lt (by have := h.n_.2.2; omega)), h.n_.2.2⟩, h.pa, h.p.kept (fun j hj hj2 => hk j (by omega) (.inl hj2)), h.pc, fun hl => ⟨(h.l (fun e => hl (by rw [e] at hL; exact List.eq_nil_of_length_eq_zero hL))).1, hp hl⟩, h.tn⟩
theorem run_tp {o : Oper} {a : Act} {t0 t1 : TypeId} {v0 v1 : Value} {x0 x1 : Operand} (hop : o.op = Op.call { callee := Callee.value (Operand.func 78), args := #[x0, x1], argTypes := #[t0, t1] }) (h0 : a.eval x0 = v0) (h1 : a.eval x1 = v1) (w : World) : (execOp a.eval o).run Tryz.prog w = .ok (.enter 78 #[v0, v1]) w := by
 have hf : a.eval (Operand.func 78) = .func (.func 78) #[] #[] := rfl
 simp [execOp, hop, resolve, invoke, h0, h1, hf, Deferred.ofValue]
structure NumOk (g : GV) (ts ns : List Int) : Prop where
 tl : ts.length = g.ts.length
 nl : ns.length = g.ns.length
 tp : IsPerm ts
 np : IsPerm ns
theorem prodOk_of {g : GV} (h : OkC g) (i : Nat) (hi : i < g.ps.length) : (0 <= (g.ps.getD i .none).left /\ (g.ps.getD i .none).left < g.ns.length) /\ (g.ps.getD i .none).right.length <= 16 /\ (∀ s ∈ (g.ps.getD i .none).right, 0 <= s.2 /\ (s.1 = 1 -> s.2 < g.ts.length) /\ (s.1 ≠ 1 -> s.2 < g.ns.length)) /\ ((g.ps.getD i .none).prec ≠ -1 -> 0 <= (g.ps.getD i .none).prec /\ (g.ps.getD i .none).prec < g.ts.length) := by
 refine ⟨h.left i hi, h.right i hi, fun s hs => ?_, fun hp => ?_⟩
 ·have := h.inG i hi s hs
  unfold inG at this
  by_cases e1 : s.1 = 1
  ·simp [e1, inT] at this
   exact ⟨this.1, fun _ => this.2, fun e => absurd e1 e⟩
  ·by_cases e2 : s.1 = 2
   ·simp [e2, inN] at this
    exact ⟨this.1, fun e => absurd e e1, fun _ => this.2⟩
   ·simp [e1, e2] at this
 ·have := h.prec i hi
  omega
theorem levOk_of {g : GV} (h : OkC g) (i : Nat) (hi : i < g.ls.length) : (g.ls.getD i .none).terms ≠ [] /\ (g.ls.getD i .none).terms.length <= 64 /\ ∀ n ∈ (g.ls.getD i .none).terms, 0 <= n /\ n < g.ts.length := by
 refine ⟨fun e => ?_, h.terms i hi, (h.level i hi).2.1⟩
 have := h.ls i hi
 unfold levelU at this
 rw [if_pos (by rw [e]; simp)] at this
 cases this
theorem ren_core {p q : PV} (ts ns : List Int) (h : p.core = q.core) : (p.ren ts ns).core = (q.ren ts ns).core := by
 have h1 : p.left = q.left := congrArg (·.1) h
 have h2 : p.right = q.right := congrArg (·.2.1) h
 have h3 : p.prec = q.prec := congrArg (·.2.2) h
 simp [PV.ren, PV.core, h1, h2, h3]
theorem lren_core {p q : LV} (ts : List Int) (h : p.core = q.core) : (p.ren ts).core = (q.ren ts).core := by
 have h1 : p.assoc = q.assoc := congrArg (·.1) h
 have h2 : p.terms = q.terms := congrArg (·.2) h
 simp [LV.ren, LV.core, h1, h2]
set_option linter.unusedSimpArgs false in
theorem ren_G (g : GV) (a1 a2 : Option Addr) (c1 c2 : Nat) (ts ns : List Int) (w : World) (h : GAt 1048576 w g) (ok : OkC g) (hn : NumOk g ts ns) (h1 : InRow w a1 ts) (h2 : InRow w a2 ns) :
  Calls Tryz.prog 25 #[numV a1 c1 ts a2 c2 ns, g.val] w fun e w' => ∃ g' A H E pb lb tb nb, e = .returned g'.val /\ SameG (g.ren ts ns) g' /\ MG w.heap.size w' g' A H E pb lb tb nb /\ Below w.heap.size w w' := by
 have R0 : Hid (RGx w #[.slice a1 ts.length c1, .slice a2 ns.length c2] (gA g) (((w.alloc (.cells #[.slice a1 ts.length c1, .slice a2 ns.length c2] 80)).alloc (.cells (gA g) 26)).alloc (.cells #[.slice none 0 0, .slice none 0 0, .int .i64 0, .slice none 0 0, .slice none 0 0] 26))) := rg_start w _ _
 have HG : Hid (∀ w', Below w.heap.size w w' -> GAt 1048576 w' g /\ InRow w' a1 ts /\ InRow w' a2 ns) := fun w' hb => ⟨h.later hb, h1.later hb, h2.later hb⟩
 have HO : Hid (OkC g) := ok
 have HNO : Hid (NumOk g ts ns) := hn
 have HN : Hid (g.ts ≠ [] /\ g.ns ≠ [] /\ g.ps ≠ []) := ⟨fun e => by have := ok.tl; rw [e] at this; simp at this, fun e => by have := ok.nl; rw [e] at this; simp at this, fun e => by have := ok.pl; rw [e] at this; simp at this⟩
 have HL : Hid (g.ts.length <= 64 /\ g.ns.length <= 64) := ⟨ok.tl.2, ok.nl.2⟩
 obtain ⟨sn, hsn⟩ : ∃ sn : Nat, g.start = (sn : Int) := ⟨g.start.toNat, by have := ok.st; omega⟩
 have hsl : sn < ns.length := by have := ok.st; have := hn.nl; omega
 obtain ⟨b9, o9, e9, l9, q9⟩ := h2 (by intro e; rw [e] at hsl; simp at hsl)
 have HST : Hid (g.start = (sn : Int) /\ a2 = some ⟨b9, o9, none⟩ /\ (b9 < w.heap.size) /\ w.cell? ⟨b9, o9 + sn, none⟩ = some (.int .i64 (ns.getD sn 0))) := ⟨hsn, e9, l9, q9 sn hsl⟩
 obtain ⟨st, hst⟩ : ∃ st, ns.getD sn 0 = st := ⟨_, rfl⟩
 have HSV : Hid (ns.getD sn 0 = st) := hst
 rw [hst] at HST
 have HLR : Hid ((∀ i, i < ts.length -> 0 <= ts.getD i 0 /\ ts.getD i 0 < ts.length) /\ (∀ i, i < ns.length -> 0 <= ns.getD i 0 /\ ns.getD i 0 < ns.length)) := ⟨hn.tp.lo, hn.np.lo⟩
 clear h h1 h2 ok hn hsn e9 l9 q9 hst
 go_enter Tryz.func25, Tryz.ntmps25
 go_wp2_with (first
  | (go_at_call 21; refine (clone_G g _ (HG.out _ R0.out.bel).1 HN.out.1 HN.out.2.1 HN.out.2.2).mono ?_; rintro e w2 ⟨⟨ta, tc, tsx, na, nc, nsx, stx, pa, pc, ps, la, lc, ls⟩, A, H, E, pb, lb, tb, nb, rfl, sg, mg, b2⟩; obtain rfl : tsx = g.ts := sg.ts; obtain rfl : nsx = g.ns := sg.ns; obtain rfl : stx = g.start := sg.start; obtain rfl : pa = some ⟨pb, 0, none⟩ := mg.pa; have R2 : Hid (RGx w #[.slice a1 ts.length c1, .slice a2 ns.length c2] (gA g) w2) := R0.out.later b2; have M2 : Hid (MG (w.heap.size + 3) w2 ⟨ta, tc, g.ts, na, nc, g.ns, g.start, some ⟨pb, 0, none⟩, pc, ps, la, lc, ls⟩ A H E pb lb tb nb) := mg.mono (by simp); have S2 : Hid (ps.map PV.core = g.ps.map PV.core /\ ls.map LV.core = g.ls.map LV.core) := ⟨sg.ps, sg.ls⟩; clear sg mg b2; have R5 : Hid (RGx w #[.slice a1 ts.length c1, .slice a2 ns.length c2] (gA g) (w2.alloc (.cells #[.slice ta g.ts.length tc, .slice na g.ns.length nc, .int .i64 g.start, .slice (some ⟨pb, 0, none⟩) ps.length pc, .slice la ls.length lc] 26))) := R2.out.later (below_alloc _ _); have x0 : (w2.alloc (.cells #[.slice ta g.ts.length tc, .slice na g.ns.length nc, .int .i64 g.start, .slice (some ⟨pb, 0, none⟩) ps.length pc, .slice la ls.length lc] 26)).cell? ⟨w.heap.size + 1, 0, none⟩ = some ((.slice g.ta g.ts.length g.tc)) := (cellq_any R5.out.b1).trans rfl; have x1 : (w2.alloc (.cells #[.slice ta g.ts.length tc, .slice na g.ns.length nc, .int .i64 g.start, .slice (some ⟨pb, 0, none⟩) ps.length pc, .slice la ls.length lc] 26)).cell? ⟨w.heap.size + 1, 1, none⟩ = some ((.slice g.na g.ns.length g.nc)) := (cellq_any R5.out.b1).trans rfl; have x2 : (w2.alloc (.cells #[.slice ta g.ts.length tc, .slice na g.ns.length nc, .int .i64 g.start, .slice (some ⟨pb, 0, none⟩) ps.length pc, .slice la ls.length lc] 26)).cell? ⟨w.heap.size + 1, 2, none⟩ = some ((.int .i64 g.start)) := (cellq_any R5.out.b1).trans rfl; have x3 : (w2.alloc (.cells #[.slice ta g.ts.length tc, .slice na g.ns.length nc, .int .i64 g.start, .slice (some ⟨pb, 0, none⟩) ps.length pc, .slice la ls.length lc] 26)).cell? ⟨w.heap.size + 1, 3, none⟩ = some ((.slice g.pa g.ps.length g.pc)) := (cellq_any R5.out.b1).trans rfl; have x4 : (w2.alloc (.cells #[.slice ta g.ts.length tc, .slice na g.ns.length nc, .int .i64 g.start, .slice (some ⟨pb, 0, none⟩) ps.length pc, .slice la ls.length lc] 26)).cell? ⟨w.heap.size + 1, 4, none⟩ = some ((.slice g.la g.ls.length g.lc)) := (cellq_any R5.out.b1).trans rfl; have xa : (w2.alloc (.cells #[.slice ta g.ts.length tc, .slice na g.ns.length nc, .int .i64 g.start, .slice (some ⟨pb, 0, none⟩) ps.length pc, .slice la ls.length lc] 26)).cell? ⟨w.heap.size, 0, none⟩ = some (.slice a1 ts.length c1) := (cellq_any R5.out.b0).trans rfl)
  | (go_at_call 77; refine (moved_G g.na a2 g.nc c2 g.ns ns _ HNO.out.nl (by have := HL.out; omega) (HG.out _ R3.out.bel).1.n_ (HG.out _ R3.out.bel).2.2 HLR.out.2).mono ?_; rintro e w4 ⟨nb2, rfl, l4, r4, b4⟩; have R4' : Hid (RGx w #[.slice a1 ts.length c1, .slice a2 ns.length c2] (gA g) w4) := R3.out.later b4; have X4 : Hid (w4.heap[w2.heap.size]? = some (.cells #[.slice (some ⟨mb, 0, none⟩) g.ts.length g.ts.length, .slice na g.ns.length nc, .int .i64 g.start, .slice (some ⟨pb, 0, none⟩) ps.length pc, .slice la ls.length lc] 26 (0, 0))) := (b4.block _ (lt_of_block X3.out)).trans X3.out; have R4 : Hid (RGx w #[.slice a1 ts.length c1, .slice a2 ns.length c2] (gA g) (w4.setCell ⟨w2.heap.size, 1, none⟩ (.slice (some ⟨nb2, 0, none⟩) g.ns.length g.ns.length))) := R4'.out.set _ _ _ HB5.out.1; have X4s : Hid ((w4.setCell ⟨w2.heap.size, 1, none⟩ (.slice (some ⟨nb2, 0, none⟩) g.ns.length g.ns.length)).heap[w2.heap.size]? = some (.cells #[.slice (some ⟨mb, 0, none⟩) g.ts.length g.ts.length, .slice (some ⟨nb2, 0, none⟩) g.ns.length g.ns.length, .int .i64 g.start, .slice (some ⟨pb, 0, none⟩) ps.length pc, .slice la ls.length lc] 26 (0, 0))) := heap_set X4.out 1 _; have N4 : Hid (RB (w4.setCell ⟨w2.heap.size, 1, none⟩ (.slice (some ⟨nb2, 0, none⟩) g.ns.length g.ns.length)) mb 9 ((moveU (List.replicate g.ts.length ByteArray.empty) g.ts ts g.ts.length).map .string) g.ts.length 1 /\ RB (w4.setCell ⟨w2.heap.size, 1, none⟩ (.slice (some ⟨nb2, 0, none⟩) g.ns.length g.ns.length)) nb2 9 ((moveU (List.replicate g.ns.length ByteArray.empty) g.ns ns g.ns.length).map .string) g.ns.length 1 /\ w2.heap.size < mb /\ w2.heap.size < nb2 /\ mb < nb2) := (by have h1 := N3.out; have h2 := lt_of_block X3.out; have hne : nb2 ≠ w2.heap.size := (by omega); have hne2 : mb ≠ w2.heap.size := (by omega); exact ⟨(h1.1.later b4).other hne2 _ _, r4.other hne _ _, h1.2, by omega, Nat.lt_of_lt_of_le h1.1.lt l4⟩); have M4 : Hid (MG (w.heap.size + 3) (w4.setCell ⟨w2.heap.size, 1, none⟩ (.slice (some ⟨nb2, 0, none⟩) g.ns.length g.ns.length)) ⟨ta, tc, g.ts, na, nc, g.ns, g.start, some ⟨pb, 0, none⟩, pc, ps, la, lc, ls⟩ A H E pb lb tb nb) := ((M3.out.later b4).off5 HB5.out.2 _ _ (Nat.ne_of_lt M2.out.t.2.1.lt) (Nat.ne_of_lt M2.out.n_.2.1.lt)); have y1 : w4.cell? ⟨w2.heap.size, 1, none⟩ = some (.slice na g.ns.length nc) := (cellq_any X4.out).trans rfl; have f1 : w4.frozen? ⟨w2.heap.size, 1, none⟩ = false := (by unfold World.frozen?; rw [X4.out]; rfl); have hz4 : w2.heap.size < w4.heap.size := lt_of_block X4.out; have vv0 : (w4.setCell ⟨w2.heap.size, 1, none⟩ (.slice (some ⟨nb2, 0, none⟩) g.ns.length g.ns.length)).cell? ⟨w.heap.size, 1, none⟩ = some (.slice (some ⟨b9, o9, none⟩) ns.length c2) := (by rw [cellq_any R4.out.b0, <- HST.out.2.1]; rfl); have vv1 : (w4.setCell ⟨w2.heap.size, 1, none⟩ (.slice (some ⟨nb2, 0, none⟩) g.ns.length g.ns.length)).cell? ⟨w.heap.size + 1, 2, none⟩ = some (.int .i64 (sn : Int)) := (by rw [cellq_any R4.out.b1, <- HST.out.1]; rfl); have vv2 : (w4.setCell ⟨w2.heap.size, 1, none⟩ (.slice (some ⟨nb2, 0, none⟩) g.ns.length g.ns.length)).cell? ⟨b9, o9 + sn, none⟩ = some (.int .i64 st) := (R4.out.bel.cell (p := ⟨b9, o9 + sn, none⟩) HST.out.2.2.1).trans HST.out.2.2.2; have vv3 : (w4.setCell ⟨w2.heap.size, 1, none⟩ (.slice (some ⟨nb2, 0, none⟩) g.ns.length g.ns.length)).cell? ⟨w2.heap.size, 2, none⟩ = some (.int .i64 g.start) := (cellq_any X4s.out).trans rfl; have vv4 : (w4.setCell ⟨w2.heap.size, 1, none⟩ (.slice (some ⟨nb2, 0, none⟩) g.ns.length g.ns.length)).frozen? ⟨w2.heap.size, 2, none⟩ = false := (by unfold World.frozen?; rw [X4s.out]; rfl); have vv5 : w2.heap.size < (w4.setCell ⟨w2.heap.size, 1, none⟩ (.slice (some ⟨nb2, 0, none⟩) g.ns.length g.ns.length)).heap.size := lt_of_block X4s.out; have vv6 : (w4.setCell ⟨w2.heap.size, 1, none⟩ (.slice (some ⟨nb2, 0, none⟩) g.ns.length g.ns.length)).cell? ⟨w2.heap.size, 3, none⟩ = some (.slice (some ⟨pb, 0, none⟩) ps.length pc) := (cellq_any X4s.out).trans rfl; clear l4 r4 b4)
  | (go_at_call 77; refine (moved_G g.ta a1 g.tc c1 g.ts ts _ HNO.out.tl (by have := HL.out; omega) (HG.out _ R5.out.bel).1.t (HG.out _ R5.out.bel).2.1 HLR.out.1).mono ?_; rintro e w3 ⟨mb, rfl, l3, r3, b3⟩; have R3' : Hid (RGx w #[.slice a1 ts.length c1, .slice a2 ns.length c2] (gA g) w3) := R5.out.later b3; have X3' : Hid (w3.heap[w2.heap.size]? = some (.cells #[.slice ta g.ts.length tc, .slice na g.ns.length nc, .int .i64 g.start, .slice (some ⟨pb, 0, none⟩) ps.length pc, .slice la ls.length lc] 26 (0, 0))) := (b3.block _ (by simp)).trans (alloc_at _ _); have HB5 : Hid (w.heap.size + 3 <= w2.heap.size /\ E <= w2.heap.size) := ⟨lt_of_block R2.out.b2, M2.out.ord.2.2.2⟩; have R3 : Hid (RGx w #[.slice a1 ts.length c1, .slice a2 ns.length c2] (gA g) (w3.setCell ⟨w2.heap.size, 0, none⟩ (.slice (some ⟨mb, 0, none⟩) g.ts.length g.ts.length))) := R3'.out.set _ _ _ HB5.out.1; have X3 : Hid ((w3.setCell ⟨w2.heap.size, 0, none⟩ (.slice (some ⟨mb, 0, none⟩) g.ts.length g.ts.length)).heap[w2.heap.size]? = some (.cells #[.slice (some ⟨mb, 0, none⟩) g.ts.length g.ts.length, .slice na g.ns.length nc, .int .i64 g.start, .slice (some ⟨pb, 0, none⟩) ps.length pc, .slice la ls.length lc] 26 (0, 0))) := heap_set X3'.out 0 _; have N3 : Hid (RB (w3.setCell ⟨w2.heap.size, 0, none⟩ (.slice (some ⟨mb, 0, none⟩) g.ts.length g.ts.length)) mb 9 ((moveU (List.replicate g.ts.length ByteArray.empty) g.ts ts g.ts.length).map .string) g.ts.length 1 /\ w2.heap.size < mb) := (by have h3 : w2.heap.size < mb := (by have := l3; simp at this; omega); exact ⟨r3.other (by omega) _ _, h3⟩); have M3 : Hid (MG (w.heap.size + 3) (w3.setCell ⟨w2.heap.size, 0, none⟩ (.slice (some ⟨mb, 0, none⟩) g.ts.length g.ts.length)) ⟨ta, tc, g.ts, na, nc, g.ns, g.start, some ⟨pb, 0, none⟩, pc, ps, la, lc, ls⟩ A H E pb lb tb nb) := (((M2.out.later (below_alloc _ _)).later b3).off5 HB5.out.2 _ _ (Nat.ne_of_lt M2.out.t.2.1.lt) (Nat.ne_of_lt M2.out.n_.2.1.lt)); have y0 : w3.cell? ⟨w2.heap.size, 0, none⟩ = some (.slice ta g.ts.length tc) := (cellq_any X3'.out).trans rfl; have f0 : w3.frozen? ⟨w2.heap.size, 0, none⟩ = false := (by unfold World.frozen?; rw [X3'.out]; rfl); have hz3 : w2.heap.size < w3.heap.size := lt_of_block X3'.out; have t0 : (w3.setCell ⟨w2.heap.size, 0, none⟩ (.slice (some ⟨mb, 0, none⟩) g.ts.length g.ts.length)).cell? ⟨w.heap.size + 1, 1, none⟩ = some (.slice g.na g.ns.length g.nc) := (cellq_any R3.out.b1).trans rfl; have t1 : (w3.setCell ⟨w2.heap.size, 0, none⟩ (.slice (some ⟨mb, 0, none⟩) g.ts.length g.ts.length)).cell? ⟨w.heap.size, 1, none⟩ = some (.slice a2 ns.length c2) := (cellq_any R3.out.b0).trans rfl; clear l3 r3 b3))
 obtain ⟨mts, hmts⟩ : ∃ m, m = (moveU (List.replicate g.ts.length ByteArray.empty) g.ts ts g.ts.length) := ⟨_, rfl⟩
 obtain ⟨mns, hmns⟩ : ∃ m, m = (moveU (List.replicate g.ns.length ByteArray.empty) g.ns ns g.ns.length) := ⟨_, rfl⟩
 have HMV : Hid (mts = (moveU (List.replicate g.ts.length ByteArray.empty) g.ts ts g.ts.length) /\ mns = (moveU (List.replicate g.ns.length ByteArray.empty) g.ns ns g.ns.length)) := ⟨hmts, hmns⟩
 have HOR : Hid (w.heap.size + 3 <= A /\ A <= H /\ H <= E /\ E <= w2.heap.size) := ⟨M2.out.ord.1, M2.out.ord.2.1, M2.out.ord.2.2.1, M2.out.ord.2.2.2⟩
 obtain ⟨b5, hb5⟩ : ∃ b5, b5 = w2.heap.size := ⟨_, rfl⟩
 have HB : Hid (w.heap.size + 3 <= b5 /\ E <= b5) := by rw [hb5]; exact HB5.out
 have I0 : Hid (RGx w #[.slice a1 ts.length c1, .slice a2 ns.length c2] (gA g) ((w4.setCell ⟨b5, 1, none⟩ (.slice (some ⟨nb2, 0, none⟩) g.ns.length g.ns.length)).setCell ⟨b5, 2, none⟩ (.int .i64 st)) /\ ((w4.setCell ⟨b5, 1, none⟩ (.slice (some ⟨nb2, 0, none⟩) g.ns.length g.ns.length)).setCell ⟨b5, 2, none⟩ (.int .i64 st)).heap[b5]? = some (.cells #[.slice (some ⟨mb, 0, none⟩) g.ts.length g.ts.length, .slice (some ⟨nb2, 0, none⟩) g.ns.length g.ns.length, .int .i64 st, .slice (some ⟨pb, 0, none⟩) ps.length pc, .slice la ls.length lc] 26 (0, 0)) /\ MG (w.heap.size + 3) ((w4.setCell ⟨b5, 1, none⟩ (.slice (some ⟨nb2, 0, none⟩) g.ns.length g.ns.length)).setCell ⟨b5, 2, none⟩ (.int .i64 st)) ⟨some ⟨mb, 0, none⟩, g.ts.length, mts, some ⟨nb2, 0, none⟩, g.ns.length, mns, st, some ⟨pb, 0, none⟩, pc, ps, la, lc, ls⟩ A H E pb lb mb nb2 /\ ps.length = ps.length /\ ∀ i, i < ps.length -> (ps.getD i .none).core = if i < 0 then ((g.ps.getD i .none).ren ts ns).core else (g.ps.getD i .none).core) := by
  have hM := (M4.out.off5 HB5.out.2 2 (.int .i64 st) (Nat.ne_of_lt M2.out.t.2.1.lt) (Nat.ne_of_lt M2.out.n_.2.1.lt)).names mb nb2 g.ts.length g.ns.length mts mns st (by rw [hmts]; exact N4.out.1.other (by have := N4.out.2.2; omega) _ _) (by rw [hmns]; exact N4.out.2.1.other (by have := N4.out.2.2; omega) _ _) (by have := N4.out.2.2; have := HB5.out; omega) (by have := N4.out.2.2; have := HB5.out; omega) (by have := N4.out.2.2; omega)
  rw [hb5]
  exact ⟨R4.out.set _ _ _ HB5.out.1, heap_set X4s.out 2 _, hM, rfl, fun i hi => by rw [if_neg (Nat.not_lt_zero _), getD_core PV.core, S2.out.1, <- getD_core PV.core]⟩
 rw [<- hb5]
 go_loopw [33] (fun z wr => ∃ (k : Nat) (L : List PV), k <= ps.length /\ z = .int .i64 k /\ RGx w #[.slice a1 ts.length c1, .slice a2 ns.length c2] #[.slice g.ta g.ts.length g.tc, .slice g.na g.ns.length g.nc, .int .i64 g.start, .slice g.pa g.ps.length g.pc, .slice g.la g.ls.length g.lc] wr /\ wr.heap[b5]? = some (.cells #[.slice (some ⟨mb, 0, none⟩) g.ts.length g.ts.length, .slice (some ⟨nb2, 0, none⟩) g.ns.length g.ns.length, .int .i64 st, .slice (some ⟨pb, 0, none⟩) ps.length pc, .slice la ls.length lc] 26 (0, 0)) /\ MG (w.heap.size + 3) wr ⟨some ⟨mb, 0, none⟩, g.ts.length, mts, some ⟨nb2, 0, none⟩, g.ns.length, mns, st, some ⟨pb, 0, none⟩, pc, L, la, lc, ls⟩ A H E pb lb mb nb2 /\ L.length = ps.length /\ ∀ i, i < L.length -> (L.getD i .none).core = if i < k then ((g.ps.getD i .none).ren ts ns).core else (g.ps.getD i .none).core) (fun z _ => ps.length - (intOf z).toNat)
 case atStart => exact ⟨0, ps, Nat.zero_le _, rfl, I0.out⟩
 case round =>
  clear R0 R2 R3 R4 R5 M2 M3 M4 X3 X4 X4s N3 N4 R3' R4' X3' I0 x0 x1 x2 x3 x4 xa y0 y1 f0 f1 hz3 hz4 t0 t1 vv0 vv1 vv2 vv3 vv4 vv5 vv6 hb5 HB5 hmts hmns
  obtain ⟨k, L, hk, rfl, hR, hX, hM, hLl, hcore⟩ := hrel
  have hpsl : ps.length = g.ps.length := by simpa using congrArg List.length S2.out.1
  have hpl : ps.length <= 256 := by have := HO.out.pl.2; omega
  have HC : Hid (RGx w #[.slice a1 ts.length c1, .slice a2 ns.length c2] (gA g) wr /\ wr.heap[b5]? = some (.cells #[.slice (some ⟨mb, 0, none⟩) g.ts.length g.ts.length, .slice (some ⟨nb2, 0, none⟩) g.ns.length g.ns.length, .int .i64 st, .slice (some ⟨pb, 0, none⟩) ps.length pc, .slice la ls.length lc] 26 (0, 0)) /\ MG (w.heap.size + 3) wr ⟨some ⟨mb, 0, none⟩, g.ts.length, mts, some ⟨nb2, 0, none⟩, g.ns.length, mns, st, some ⟨pb, 0, none⟩, pc, L, la, lc, ls⟩ A H E pb lb mb nb2 /\ L.length = ps.length /\ ∀ i, i < L.length -> (L.getD i .none).core = if i < k then ((g.ps.getD i .none).ren ts ns).core else (g.ps.getD i .none).core) := ⟨hR, hX, hM, hLl, hcore⟩
  by_cases hlt : k < ps.length
  ·have hck : (L.getD k .none).core = (g.ps.getD k .none).core := by rw [hcore k (by omega), if_neg (Nat.lt_irrefl _)]
   obtain ⟨o1, o2, o3, o4⟩ := prodOk_of HO.out k (by omega)
   have e1 : (L.getD k .none).left = (g.ps.getD k .none).left := congrArg (·.1) hck
   have e2 : (L.getD k .none).right = (g.ps.getD k .none).right := congrArg (·.2.1) hck
   have e3 : (L.getD k .none).prec = (g.ps.getD k .none).prec := congrArg (·.2.2) hck
   have HCK : Hid ((L.getD k .none).core = (g.ps.getD k .none).core) := hck
   rw [<- e1] at o1
   rw [<- e2] at o2 o3
   rw [<- e3] at o4
   rw [<- HNO.out.tl, <- HNO.out.nl] at o3
   rw [<- HNO.out.nl] at o1
   rw [<- HNO.out.tl] at o4
   have HTL : Hid (ts.length <= 64 /\ ns.length <= 64) := by have h1 := HL.out; have h2 := HNO.out; exact ⟨by rw [h2.tl]; exact h1.1, by rw [h2.nl]; exact h1.2⟩
   obtain ⟨y, hy⟩ : ∃ y, (L.getD k .none).ren ts ns = y := ⟨_, rfl⟩
   have HY : Hid ((L.getD k .none).ren ts ns = y) := hy
   have hor := HOR.out
   have hso := hM.ord
   have CALL : Hid (Calls Tryz.prog 78 #[numV a1 c1 ts a2 c2 ns, .pointer (some ⟨pb, k * 3, none⟩)] wr.drew fun e w' => e = .returned (.tuple #[]) /\ PM A H w' pb pc L.length (L.set k y) /\ Below w.heap.size w w' /\ (∀ j, j < wr.heap.size -> j < A ∨ H <= j -> w'.heap[j]? = wr.heap[j]?) /\ wr.heap.size <= w'.heap.size) := by
    have hd : Below wr.heap.size wr wr.drew := (Below.refl _ wr).drew
    generalize hx : L.getD k .none = x at *
    obtain ⟨pl, pra, prc, pr, pp⟩ := x
    simp only at o1 o2 o3 o4
    obtain ⟨ln, rfl⟩ : ∃ ln : Nat, pl = (ln : Int) := ⟨pl.toNat, by omega⟩
    exact turnProd_G a1 a2 c1 c2 ts ns A H pb k L w wr.drew (HG.out w (Below.refl _ _)).2.1 (HG.out w (Below.refl _ _)).2.2 ⟨by have := HTL.out; omega, by have := HTL.out; omega⟩ (by omega) (hR.bel.trans (hd.mono hR.bel.size)) (by show H <= wr.heap.size; omega) (hM.p.later (by omega) hd) (by omega) ln pra prc pr pp hx (by omega) (by omega) o3 o4 y (by rw [hx]; exact hy)
   clear hR hX hM hcore hck o1 o2 o3 o4 e1 e2 e3 hy hso hor hpsl
   have hs0 : Hid ((fun w' => w'.cell? ⟨w.heap.size, 0, none⟩ = some (.slice a1 ts.length c1) /\ w'.cell? ⟨w.heap.size, 1, none⟩ = some (.slice a2 ns.length c2) /\ w'.cell? ⟨b5, 3, none⟩ = some (.slice (some ⟨pb, 0, none⟩) ps.length pc)) wr.drew) := ⟨(cellq_any HC.out.1.b0).trans rfl, (cellq_any HC.out.1.b0).trans rfl, (cellq_any HC.out.2.1).trans rfl⟩
   go_wp2
   refine wp_region_x (S := fun _ => (fun w' => w'.cell? ⟨w.heap.size, 0, none⟩ = some (.slice a1 ts.length c1) /\ w'.cell? ⟨w.heap.size, 1, none⟩ = some (.slice a2 ns.length c2) /\ w'.cell? ⟨b5, 3, none⟩ = some (.slice (some ⟨pb, 0, none⟩) ps.length pc))) (by kernel_rfl) ?_
   refine wtC (i := 0) (v := ?_) rfl (Or.inl ⟨by rfl, ?_⟩) hs0.out ?_
   rotate_left
   ·(intro w hSw; (try dsimp only at hSw); go_simp; try (with_reducible rfl))
   (try simp only [Act.put, lsA, lsZ, lsN])
   refine wtC (i := 1) (v := ?_) rfl (Or.inl ⟨by rfl, ?_⟩) hs0.out ?_
   rotate_left
   ·(intro w hSw; (try dsimp only at hSw); go_simp; try (with_reducible rfl))
   (try simp only [Act.put, lsA, lsZ, lsN])
   refine wtC (i := 2) (v := ?_) rfl (Or.inl ⟨by rfl, ?_⟩) hs0.out ?_
   rotate_left
   ·(intro w hSw; (try dsimp only at hSw); go_simp; try (with_reducible rfl))
   (try simp only [Act.put, lsA, lsZ, lsN])
   refine wtC (i := 3) (v := ?_) rfl (Or.inl ⟨by rfl, ?_⟩) hs0.out ?_
   rotate_left
   ·(intro w hSw; (try dsimp only at hSw); go_simp; try (with_reducible rfl))
   (try simp only [Act.put, lsA, lsZ, lsN])
   refine wtC (i := 4) (v := ?_) rfl (Or.inl ⟨by rfl, ?_⟩) hs0.out ?_
   rotate_left
   ·(intro w hSw; (try dsimp only at hSw); go_simp; try (with_reducible rfl))
   (try simp only [Act.put, lsA, lsZ, lsN])
   refine wpAnyX_one (j := 5) (by decide +kernel) rfl (fun K' hK => ?_)
   refine step_callX rfl 78 #[numV a1 c1 ts a2 c2 ns, .pointer (some ⟨pb, k * 3, none⟩)] _ (run_tp (v0 := numV a1 c1 ts a2 c2 ns) (v1 := .pointer (some ⟨pb, k * 3, none⟩)) (by rfl) (by rfl) (by rfl) _) CALL.out ?_
   rintro e w6 ⟨rfl, p6, b6, k6, z6⟩
   have R6 : Hid (RGx w #[.slice a1 ts.length c1, .slice a2 ns.length c2] (gA g) w6) := HC.out.1.kept (fun j hj => k6 j (by have := lt_of_block HC.out.1.b2; omega) (.inl (by have := HOR.out; omega))) b6
   have X6 : Hid (w6.heap[b5]? = some (.cells #[.slice (some ⟨mb, 0, none⟩) g.ts.length g.ts.length, .slice (some ⟨nb2, 0, none⟩) g.ns.length g.ns.length, .int .i64 st, .slice (some ⟨pb, 0, none⟩) ps.length pc, .slice la ls.length lc] 26 (0, 0))) := (k6 b5 (lt_of_block HC.out.2.1) (.inr (by have := HOR.out; have := HB.out; omega))).trans HC.out.2.1
   refine ⟨_, rfl, hK.out _ _ ⟨(cellq_any R6.out.b0).trans rfl, (cellq_any R6.out.b0).trans rfl, (cellq_any X6.out).trans rfl⟩ ?_⟩
   clear hK K'
   refine wpAnyX_done (by decide +kernel) ?_
   go_wp2
   go_roundw
   case rel =>
    refine ⟨k + 1, L.set k y, by omega, by go_num, R6.out, X6.out, HC.out.2.2.1.prods z6 k6 _ (by simp) (by simpa using p6), by simpa using hLl, fun i hi => ?_⟩
    have hi' : i < L.length := by simpa using hi
    by_cases e : i = k
    ·subst e
     rw [if_pos (by omega), getD_set_eq hi', <- HY.out]
     exact ren_core ts ns HCK.out
    ·rw [getD_set_ne e, HC.out.2.2.2.2 i hi']
     by_cases e2 : i < k
     ·rw [if_pos e2, if_pos (by omega)]
     ·rw [if_neg e2, if_neg (by omega)]
   case measure => simp [intOf]; omega
  ·obtain rfl : k = ps.length := by omega
   have PCR : Hid (L.map PV.core = (g.ren ts ns).ps.map PV.core) := by
    refine core_ext PV.core .none (by simp [GV.ren]; omega) fun i hi => ?_
    rw [hcore i hi, if_pos (by omega)]
    have e4 : (g.ren ts ns).ps.getD i .none = (g.ps.getD i .none).ren ts ns := by simp [GV.ren, List.getD, show i < g.ps.length by omega]
    rw [e4]
   have J0 : Hid (RGx w #[.slice a1 ts.length c1, .slice a2 ns.length c2] (gA g) wr /\ wr.heap[b5]? = some (.cells #[.slice (some ⟨mb, 0, none⟩) g.ts.length g.ts.length, .slice (some ⟨nb2, 0, none⟩) g.ns.length g.ns.length, .int .i64 st, .slice (some ⟨pb, 0, none⟩) ps.length pc, .slice la ls.length lc] 26 (0, 0)) /\ MG (w.heap.size + 3) wr ⟨some ⟨mb, 0, none⟩, g.ts.length, mts, some ⟨nb2, 0, none⟩, g.ns.length, mns, st, some ⟨pb, 0, none⟩, pc, L, la, lc, ls⟩ A H E pb lb mb nb2 /\ ls.length = ls.length /\ ∀ i, i < ls.length -> (ls.getD i .none).core = if i < 0 then ((g.ls.getD i .none).ren ts).core else (g.ls.getD i .none).core) := ⟨hR, hX, hM, rfl, fun i hi => by rw [if_neg (Nat.not_lt_zero _), getD_core LV.core, S2.out.2, <- getD_core LV.core]⟩
   have q4 : wr.cell? ⟨b5, 4, none⟩ = some (.slice la ls.length lc) := (cellq_any hX).trans rfl
   have HLL : Hid (L.length = ps.length) := hLl
   clear hR hX hM hcore hpsl hpl HC hLl
   go_wp2
   go_loopw [46] (fun z wr => ∃ (k : Nat) (M : List LV), k <= ls.length /\ z = .int .i64 k /\ RGx w #[.slice a1 ts.length c1, .slice a2 ns.length c2] #[.slice g.ta g.ts.length g.tc, .slice g.na g.ns.length g.nc, .int .i64 g.start, .slice g.pa g.ps.length g.pc, .slice g.la g.ls.length g.lc] wr /\ wr.heap[b5]? = some (.cells #[.slice (some ⟨mb, 0, none⟩) g.ts.length g.ts.length, .slice (some ⟨nb2, 0, none⟩) g.ns.length g.ns.length, .int .i64 st, .slice (some ⟨pb, 0, none⟩) ps.length pc, .slice la ls.length lc] 26 (0, 0)) /\ MG (w.heap.size + 3) wr ⟨some ⟨mb, 0, none⟩, g.ts.length, mts, some ⟨nb2, 0, none⟩, g.ns.length, mns, st, some ⟨pb, 0, none⟩, pc, L, la, lc, M⟩ A H E pb lb mb nb2 /\ M.length = ls.length /\ ∀ i, i < M.length -> (M.getD i .none).core = if i < k then ((g.ls.getD i .none).ren ts).core else (g.ls.getD i .none).core) (fun z _ => ls.length - (intOf z).toNat)
   case atStart => exact ⟨0, ls, Nat.zero_le _, rfl, J0.out.1, J0.out.2.1, J0.out.2.2.1, rfl, J0.out.2.2.2.2⟩
   case round =>
    clear J0 q4
    obtain ⟨k, M, hk, rfl, hR, hX, hM, hLl, hcore⟩ := hrel
    have HC : Hid (RGx w #[.slice a1 ts.length c1, .slice a2 ns.length c2] (gA g) wr /\ wr.heap[b5]? = some (.cells #[.slice (some ⟨mb, 0, none⟩) g.ts.length g.ts.length, .slice (some ⟨nb2, 0, none⟩) g.ns.length g.ns.length, .int .i64 st, .slice (some ⟨pb, 0, none⟩) ps.length pc, .slice la ls.length lc] 26 (0, 0)) /\ MG (w.heap.size + 3) wr ⟨some ⟨mb, 0, none⟩, g.ts.length, mts, some ⟨nb2, 0, none⟩, g.ns.length, mns, st, some ⟨pb, 0, none⟩, pc, L, la, lc, M⟩ A H E pb lb mb nb2 /\ M.length = ls.length /\ ∀ i, i < M.length -> (M.getD i .none).core = if i < k then ((g.ls.getD i .none).ren ts).core else (g.ls.getD i .none).core) := ⟨hR, hX, hM, hLl, hcore⟩
    have hlsl : ls.length = g.ls.length := by simpa using congrArg List.length S2.out.2
    have hll : ls.length <= 32 := by have := HO.out.ll; omega
    by_cases hlt : k < ls.length
    ·have hck : (M.getD k .none).core = (g.ls.getD k .none).core := by rw [hcore k (by omega), if_neg (Nat.lt_irrefl _)]
     obtain ⟨o1, o2, o3⟩ := levOk_of HO.out k (by omega)
     have e2 : (M.getD k .none).terms = (g.ls.getD k .none).terms := congrArg (·.2) hck
     have HCK : Hid ((M.getD k .none).core = (g.ls.getD k .none).core) := hck
     rw [<- e2] at o1 o2 o3
     rw [<- HNO.out.tl] at o3
     have HTL : Hid (ts.length <= 64) := by have h1 := HL.out; have h2 := HNO.out; show _ <= _; rw [h2.tl]; exact h1.1
     have hMne : M ≠ [] := by intro e; rw [e] at hLl; simp at hLl; omega
     obtain ⟨hla, hLM⟩ := hM.l hMne
     simp only at hla
     subst hla
     obtain ⟨p0, p1⟩ := levCells_get M k (by omega)
     have c0 := hLM.row.cell p0
     have c1' := hLM.row.cell p1
     obtain ⟨r1, r2, r3, r4⟩ := hLM.each k (by show k < M.length; omega) o1
     have HLM : Hid (LMt H E wr lb lc M.length M) := hLM
     have HE : Hid (RB wr (ablk (M.getD k .none).ta) 3 ((M.getD k .none).terms.map (.int .i64 ·)) (M.getD k .none).tc 1 /\ H <= ablk (M.getD k .none).ta /\ ablk (M.getD k .none).ta < E /\ (M.getD k .none).terms ≠ [] /\ (M.getD k .none).terms.length <= 64 /\ ∀ n ∈ (M.getD k .none).terms, 0 <= n /\ n < ts.length) := ⟨r4, r2.1, r2.2, o1, o2, o3⟩
     have z0 : wr.cell? ⟨w.heap.size, 0, none⟩ = some (.slice a1 ts.length c1) := (cellq_any hR.b0).trans rfl
     have z1 : wr.cell? ⟨w.heap.size, 1, none⟩ = some (.slice a2 ns.length c2) := (cellq_any hR.b0).trans rfl
     clear hR hX hM hcore hck o1 o2 o3 e2 p0 p1 r2 r3 r4 hLM hlsl
     generalize hx : M.getD k .none = x at *
     have HX : Hid (M.getD k .none = x) := hx
     clear hx
     obtain ⟨la1, lta, ltc, lt⟩ := x
     simp only at c0 c1' r1 HE
     generalize hbk : ablk lta = bk at *
     subst r1
     have WA : Hid (RGx w #[.slice a1 ts.length c1, .slice a2 ns.length c2] (gA g) (wr.alloc (.cells #[.int .i64 la1, .slice (some ⟨bk, 0, none⟩) lt.length ltc] 92)) /\ Below wr.heap.size wr (wr.alloc (.cells #[.int .i64 la1, .slice (some ⟨bk, 0, none⟩) lt.length ltc] 92))) := ⟨HC.out.1.later (below_alloc _ _), below_alloc _ _⟩
     have y0 : (wr.alloc (.cells #[.int .i64 la1, .slice (some ⟨bk, 0, none⟩) lt.length ltc] 92)).cell? ⟨w.heap.size, 0, none⟩ = some (.slice a1 ts.length c1) := (cellq_any WA.out.1.b0).trans rfl
     have y1 : (wr.alloc (.cells #[.int .i64 la1, .slice (some ⟨bk, 0, none⟩) lt.length ltc] 92)).cell? ⟨w.heap.size, 1, none⟩ = some (.slice a2 ns.length c2) := (cellq_any WA.out.1.b0).trans rfl
     obtain ⟨ny, hny⟩ : ∃ ny, sortU (lt.map fun x => ts.getD x.toNat 0) = ny := ⟨_, rfl⟩
     have HNY : Hid (sortU (lt.map fun x => ts.getD x.toNat 0) = ny) := hny
     clear hny
     go_wp2_with (go_at_call 79; refine (turnLevel_G a1 a2 c1 c2 ts ns bk ltc lt w _ (HG.out w (Below.refl _ _)).2.1 (by have := HTL.out; omega) WA.out.1.bel (by have := HE.out; have := HOR.out; omega) (HE.out.1.later WA.out.2) (by have := HE.out; omega) HE.out.2.2.2.2.2 HE.out.2.2.2.1 ny HNY.out).mono ?_; rintro e w6 ⟨rfl, r6, t6⟩)
     go_roundw
     case rel =>
      obtain ⟨hR, hX, hM, hLl, hcore⟩ := HC.out
      have he := HE.out
      have hor := HOR.out
      have hb := HB.out
      have hso := hM.ord
      have hsz : (wr.alloc (.cells #[.int .i64 la1, .slice (some ⟨bk, 0, none⟩) lt.length ltc] 92)).heap.size = wr.heap.size + 1 := by simp
      have keep : ∀ j, j < wr.heap.size -> j ≠ bk -> w6.heap[j]? = wr.heap[j]? := fun j hj hj2 => (t6.other j (by omega) hj2).trans (WA.out.2.block j hj)
      have hl5 := lt_of_block hX
      have hl2 := lt_of_block hR.b2
      have B6 : Below w.heap.size w w6 := WA.out.1.bel.trans (t6.bel w.heap.size WA.out.1.bel.size (by omega))
      have hny : ny.length = lt.length := by rw [<- HNY.out, (sortU_perm _).length_eq, List.length_map]
      have hP := (HLM.out.later hso.2.2.2 WA.out.2).turn (Nat.le_refl _) (i := k) (w' := w6) (by omega) (by rw [HX.out]; exact he.2.2.2.1) ny (by rw [HX.out]; exact hny) (fun j _ hj2 hj3 => t6.other j (by omega) (by rw [HX.out] at hj3; exact hj3)) (by rw [HX.out]; exact r6)
      rw [HX.out] at hP
      refine ⟨k + 1, M.set k ⟨la1, some ⟨bk, 0, none⟩, ltc, ny⟩, by omega, by go_num, hR.kept (fun j hj => keep j (by omega) (by omega)) B6, (keep _ hl5 (by omega)).trans hX, hM.levels (Nat.le_trans WA.out.2.size t6.size) (fun j hj hj2 => keep j hj (by omega)) _ (by simp) (fun _ => by simpa using hP), by simpa using hLl, fun i hi => ?_⟩
      have hi' : i < M.length := by simpa using hi
      by_cases e : i = k
      ·subst e
       rw [if_pos (by omega), getD_set_eq hi', <- lren_core ts HCK.out]
       simp only [LV.ren, LV.core, HNY.out]
      ·rw [getD_set_ne e, hcore i hi']
       by_cases e2 : i < k
       ·rw [if_pos e2, if_pos (by omega)]
       ·rw [if_neg e2, if_neg (by omega)]
     case measure => simp [intOf]; omega
    ·obtain rfl : k = ls.length := by omega
     have LCR : Hid (M.map LV.core = (g.ren ts ns).ls.map LV.core) := by
      refine core_ext LV.core .none (by simp [GV.ren]; omega) fun i hi => ?_
      rw [hcore i hi, if_pos (by omega)]
      have e4 : (g.ren ts ns).ls.getD i .none = (g.ls.getD i .none).ren ts := by simp [GV.ren, List.getD, show i < g.ls.length by omega]
      rw [e4]
     have b0 : wr.cell? ⟨b5, 0, none⟩ = some (.slice (some ⟨mb, 0, none⟩) g.ts.length g.ts.length) := (cellq_any hX).trans rfl
     have r0 : wr.cell? ⟨w.heap.size + 2, 0, none⟩ = some (.slice none 0 0) := (cellq_any hR.b2).trans rfl
     have y0 : wr.frozen? ⟨w.heap.size + 2, 0, none⟩ = false := by unfold World.frozen?; rw [hR.b2]; rfl
     have b1 : wr.cell? ⟨b5, 1, none⟩ = some (.slice (some ⟨nb2, 0, none⟩) g.ns.length g.ns.length) := (cellq_any hX).trans rfl
     have r1 : wr.cell? ⟨w.heap.size + 2, 1, none⟩ = some (.slice none 0 0) := (cellq_any hR.b2).trans rfl
     have y1 : wr.frozen? ⟨w.heap.size + 2, 1, none⟩ = false := by unfold World.frozen?; rw [hR.b2]; rfl
     have b2 : wr.cell? ⟨b5, 2, none⟩ = some (.int .i64 st) := (cellq_any hX).trans rfl
     have r2 : wr.cell? ⟨w.heap.size + 2, 2, none⟩ = some (.int .i64 0) := (cellq_any hR.b2).trans rfl
     have y2 : wr.frozen? ⟨w.heap.size + 2, 2, none⟩ = false := by unfold World.frozen?; rw [hR.b2]; rfl
     have b3 : wr.cell? ⟨b5, 3, none⟩ = some (.slice (some ⟨pb, 0, none⟩) ps.length pc) := (cellq_any hX).trans rfl
     have r3 : wr.cell? ⟨w.heap.size + 2, 3, none⟩ = some (.slice none 0 0) := (cellq_any hR.b2).trans rfl
     have y3 : wr.frozen? ⟨w.heap.size + 2, 3, none⟩ = false := by unfold World.frozen?; rw [hR.b2]; rfl
     have b4 : wr.cell? ⟨b5, 4, none⟩ = some (.slice la ls.length lc) := (cellq_any hX).trans rfl
     have r4 : wr.cell? ⟨w.heap.size + 2, 4, none⟩ = some (.slice none 0 0) := (cellq_any hR.b2).trans rfl
     have y4 : wr.frozen? ⟨w.heap.size + 2, 4, none⟩ = false := by unfold World.frozen?; rw [hR.b2]; rfl
     have hz : w.heap.size + 2 < wr.heap.size := lt_of_block hR.b2
     clear hR hX hM hcore hlsl
     go_wp2
     refine bodyPost_ret (v := .agg #[.slice (some ⟨mb, 0, none⟩) g.ts.length g.ts.length, .slice (some ⟨nb2, 0, none⟩) g.ns.length g.ns.length, .int .i64 st, .slice (some ⟨pb, 0, none⟩) ps.length pc, .slice la ls.length lc]) (by simp [results, Tryz.results25, go_sem, r0, r1, r2, r3, r4, hz]) rfl ?_
     obtain ⟨hR, hX, hM, hLl, hcore⟩ := HC.out
     have hk : ∀ j, j ≠ w.heap.size + 2 -> (((((wr.setCell ⟨w.heap.size + 2, 0, none⟩ (.slice (some ⟨mb, 0, none⟩) g.ts.length g.ts.length)).setCell ⟨w.heap.size + 2, 1, none⟩ (.slice (some ⟨nb2, 0, none⟩) g.ns.length g.ns.length)).setCell ⟨w.heap.size + 2, 2, none⟩ (.int .i64 st)).setCell ⟨w.heap.size + 2, 3, none⟩ (.slice (some ⟨pb, 0, none⟩) ps.length pc)).setCell ⟨w.heap.size + 2, 4, none⟩ (.slice la ls.length lc)).heap[j]? = wr.heap[j]? := fun j hj => by
      rw [Below.heap_setCell _ _ _ _ hj, Below.heap_setCell _ _ _ _ hj, Below.heap_setCell _ _ _ _ hj, Below.heap_setCell _ _ _ _ hj, Below.heap_setCell _ _ _ _ hj]
     have hB : Below w.heap.size w (((((wr.setCell ⟨w.heap.size + 2, 0, none⟩ (.slice (some ⟨mb, 0, none⟩) g.ts.length g.ts.length)).setCell ⟨w.heap.size + 2, 1, none⟩ (.slice (some ⟨nb2, 0, none⟩) g.ns.length g.ns.length)).setCell ⟨w.heap.size + 2, 2, none⟩ (.int .i64 st)).setCell ⟨w.heap.size + 2, 3, none⟩ (.slice (some ⟨pb, 0, none⟩) ps.length pc)).setCell ⟨w.heap.size + 2, 4, none⟩ (.slice la ls.length lc)) := ((((hR.bel.setCell (p := ⟨w.heap.size + 2, 0, none⟩) (by show w.heap.size <= w.heap.size + 2; omega) _).setCell (p := ⟨w.heap.size + 2, 1, none⟩) (by show w.heap.size <= w.heap.size + 2; omega) _).setCell (p := ⟨w.heap.size + 2, 2, none⟩) (by show w.heap.size <= w.heap.size + 2; omega) _).setCell (p := ⟨w.heap.size + 2, 3, none⟩) (by show w.heap.size <= w.heap.size + 2; omega) _).setCell (p := ⟨w.heap.size + 2, 4, none⟩) (by show w.heap.size <= w.heap.size + 2; omega) _
     refine ⟨⟨some ⟨mb, 0, none⟩, g.ts.length, mts, some ⟨nb2, 0, none⟩, g.ns.length, mns, st, some ⟨pb, 0, none⟩, pc, L, la, lc, M⟩, A, H, E, pb, lb, mb, nb2, ?_, ⟨?_, ?_, ?_, PCR.out, LCR.out⟩, ?_, hB⟩
     ·have e5 := congrArg List.length HMV.out.1
      have e6 := congrArg List.length HMV.out.2
      rw [moveU_len, List.length_replicate] at e5 e6
      simp only [GV.val, HLL.out, hLl, e5, e6]
     ·show mts = moveU g.ts g.ts ts g.ts.length
      rw [HMV.out.1, <- HNO.out.tl]
      exact moveU_any HNO.out.tp _ _ (by simp) HNO.out.tl.symm
     ·show mns = moveU g.ns g.ns ns g.ns.length
      rw [HMV.out.2, <- HNO.out.nl]
      exact moveU_any HNO.out.np _ _ (by simp) HNO.out.nl.symm
     ·show st = ns.getD g.start.toNat 0
      rw [HST.out.1, Int.toNat_natCast, HSV.out]
     ·refine (hM.kept ?_ fun j hj _ => hk j (by omega)).mono (by omega)
      simp
end Go.Proofs.YthgnhdnmcjpdmaaGreatDoor
