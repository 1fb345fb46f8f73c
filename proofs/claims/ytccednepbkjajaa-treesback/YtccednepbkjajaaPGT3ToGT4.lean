import Derived.Test.YtccednepbkjajaaPGT0ToGT2
import Derived.Test.YtccednepbkjajaaPTW3ToRegX
namespace Go.Proofs.Ytccednepbkjajaa
set_option linter.unusedVariables false
open Go.RowKit
structure CBx (n0 : Nat) (w0 : World) (arr : Array Value) (w : World) : Prop where
 box : w.heap[n0]? = some (.cells arr 26 (0, 0))
 out : w.heap[n0 + 1]? = some (.cells #[.slice none 0 0, .slice none 0 0, .int .i64 0, .slice none 0 0, .slice none 0 0] 26 (0, 0))
 bel : Below n0 w0 w
theorem CBx.later {n0 : Nat} {w0 w w' : World} {arr : Array Value} (h : CBx n0 w0 arr w) (hb : Below w.heap.size w w') : CBx n0 w0 arr w' :=
 ⟨(hb.block _ (lt_of_block h.box)).trans h.box, (hb.block _ (lt_of_block h.out)).trans h.out, h.bel.trans (hb.mono (Nat.le_of_lt (lt_of_block h.box)))⟩
theorem CBx.set {n0 : Nat} {w0 w : World} {arr : Array Value} (h : CBx n0 w0 arr w) (i : Nat) (u : Value) : CBx n0 w0 (arr.setIfInBounds i u) (w.setCell ⟨n0, i, none⟩ u) :=
 ⟨heap_set h.box i u, (Below.heap_setCell _ _ _ _ (show n0 + 1 ≠ n0 by omega)).trans h.out, h.bel.setCell (p := ⟨n0, i, none⟩) (Nat.le_refl _) u⟩
theorem CBx.put {n0 : Nat} {w0 w : World} {arr : Array Value} (h : CBx n0 w0 arr w) (b i : Nat) (u : Value) (hb : n0 + 2 <= b) : CBx n0 w0 arr (w.setCell ⟨b, i, none⟩ u) :=
 ⟨(Below.heap_setCell _ _ _ _ (show n0 ≠ b by omega)).trans h.box, (Below.heap_setCell _ _ _ _ (show n0 + 1 ≠ b by omega)).trans h.out, h.bel.setCell (p := ⟨b, i, none⟩) (by show n0 <= b; omega) u⟩
theorem strCells {w : World} {ao : Option Addr} {l : List ByteArray} (h : StrRow w ao l) : l.map Value.string ≠ [] -> ∃ b off, ao = some ⟨b, off, none⟩ /\ b < w.heap.size /\ ∀ j u, (l.map Value.string)[j]? = some u -> w.cell? ⟨b, off + j, none⟩ = some u := by
 intro hne
 obtain ⟨b, off, e, hb, hc⟩ := h (by intro e; subst e; simp at hne)
 refine ⟨b, off, e, hb, fun j u hu => ?_⟩
 have hj : j < l.length := by have := (List.getElem?_eq_some_iff.1 hu).1; simpa using this
 rw [hc j hj]
 simp [List.getD, hj] at hu ⊢
 exact hu
theorem wpAnyX_takeC {P : Program} {ops : Array Oper} {Q : Exit -> Act -> World -> Prop} {md : Region.Mode} {i : Nat} {oi : Oper} {v : Value} {S0 : World -> Prop} {fuel : Nat} {listed : Array Bool} {a : Act} {w : World} (hi' : ops.toList[i]? = some oi)
  (hs : Region.noSelect ops = true) (hf : Region.free md ops listed i = true) (hr : (Region.ready md ops listed).contains i = true)
  (hQ : ∀ c a w, Q (.panic c) (a.put oi.dst v) w -> Q (.panic c) a w) (hy : YieldsIf P ops S0 oi v a) (hS : S0 w)
  (h : wpAnyX P md ops Q (fun _ => S0) fuel (listed.setIfInBounds i true) (a.put oi.dst v) w) : wpAnyX P md ops Q (fun _ => S0) (fuel + 1) listed a w :=
 have hi : ops[i]? = some oi := by rw [<- Array.getElem?_toList]; exact hi'
 wpAnyX_first (Cl := fun _ => True) (T := S0) hi (Region.noSelect_spec hs) hQ (fun _ _ _ _ => trivial) (fun _ _ _ _ h => h) (fun _ _ => Iff.rfl) fuel listed a w (Region.free_spec hi hf) (by simpa using hr) trivial hy hS h
theorem alloc_at (w : World) (o : Obj) : (w.alloc o).heap[w.heap.size]? = some o := heap_alloc_new w o
theorem cb_start (g : GV) (w : World) : CBx w.heap.size w #[.slice g.ta g.ts.length g.tc, .slice g.na g.ns.length g.nc, .int .i64 g.start, .slice g.pa g.ps.length g.pc, .slice g.la g.ls.length g.lc] ((w.alloc (.cells #[.slice g.ta g.ts.length g.tc, .slice g.na g.ns.length g.nc, .int .i64 g.start, .slice g.pa g.ps.length g.pc, .slice g.la g.ls.length g.lc] 26)).alloc (.cells #[.slice none 0 0, .slice none 0 0, .int .i64 0, .slice none 0 0, .slice none 0 0] 26)) := by
 obtain ⟨h1, h2, h3⟩ := two_alloc w (.cells #[.slice g.ta g.ts.length g.tc, .slice g.na g.ns.length g.nc, .int .i64 g.start, .slice g.pa g.ps.length g.pc, .slice g.la g.ls.length g.lc] 26) (.cells #[.slice none 0 0, .slice none 0 0, .int .i64 0, .slice none 0 0, .slice none 0 0] 26)
 exact ⟨h2, h3, h1⟩
theorem proCells_one (l : List PV) : ∀ u ∈ proCells l, u.oneCell' = true := by
 intro u hu
 obtain ⟨q, _, h⟩ := List.mem_flatMap.1 hu
 simp at h
 rcases h with rfl | rfl | rfl <;> rfl
theorem levCells_one (l : List LV) : ∀ u ∈ levCells l, u.oneCell' = true := by
 intro u hu
 obtain ⟨q, _, h⟩ := List.mem_flatMap.1 hu
 simp at h
 rcases h with rfl | rfl <;> rfl
theorem symCells_one (l : List (Int × Int)) : ∀ u ∈ symCells l, u.oneCell' = true := by
 intro u hu
 obtain ⟨q, _, h⟩ := List.mem_flatMap.1 hu
 simp at h
 rcases h with rfl | rfl <;> rfl
theorem proRow_cells {w : World} {ao : Option Addr} {l : List PV} (h : PrRow w ao l) : proCells l ≠ [] -> ∃ b off, ao = some ⟨b, off, none⟩ /\ b < w.heap.size /\ ∀ j u, (proCells l)[j]? = some u -> w.cell? ⟨b, off + j, none⟩ = some u := by
 intro hne
 obtain ⟨b, off, e, hb, hc⟩ := h.cells (by intro e; subst e; exact hne rfl)
 refine ⟨b, off, e, hb, fun j u hu => ?_⟩
 have hj : j < l.length * 3 := by have := (List.getElem?_eq_some_iff.1 hu).1; rwa [proCells_len] at this
 have hk : j / 3 < l.length := by omega
 obtain ⟨q1, q2, q3⟩ := proCells_get l (j / 3) hk
 obtain ⟨c1, c2, c3⟩ := hc (j / 3) hk
 have hm : j = j / 3 * 3 ∨ j = j / 3 * 3 + 1 ∨ j = j / 3 * 3 + 2 := by omega
 rcases hm with e' | e' | e'
 ·rw [e', q1] at hu; rw [e', <- hu]; exact c1
 ·rw [e', q2] at hu; rw [e', <- hu, <- Nat.add_assoc]; exact c2
 ·rw [e', q3] at hu; rw [e', <- hu, <- Nat.add_assoc]; exact c3
theorem levRow_cells {w : World} {ao : Option Addr} {l : List LV} (h : LvRow w ao l) : levCells l ≠ [] -> ∃ b off, ao = some ⟨b, off, none⟩ /\ b < w.heap.size /\ ∀ j u, (levCells l)[j]? = some u -> w.cell? ⟨b, off + j, none⟩ = some u := by
 intro hne
 obtain ⟨b, off, e, hb, hc⟩ := h.cells (by intro e; subst e; exact hne rfl)
 refine ⟨b, off, e, hb, fun j u hu => ?_⟩
 have hj : j < l.length * 2 := by have := (List.getElem?_eq_some_iff.1 hu).1; rwa [levCells_len] at this
 have hk : j / 2 < l.length := by omega
 obtain ⟨q1, q2⟩ := levCells_get l (j / 2) hk
 obtain ⟨c1, c2⟩ := hc (j / 2) hk
 have hm : j = j / 2 * 2 ∨ j = j / 2 * 2 + 1 := by omega
 rcases hm with e' | e'
 ·rw [e', q1] at hu; rw [e', <- hu]; exact c1
 ·rw [e', q2] at hu; rw [e', <- hu, <- Nat.add_assoc]; exact c2
theorem symRow_cells {w : World} {ao : Option Addr} {l : List (Int × Int)} (h : SymRow w ao l) : symCells l ≠ [] -> ∃ b off, ao = some ⟨b, off, none⟩ /\ b < w.heap.size /\ ∀ j u, (symCells l)[j]? = some u -> w.cell? ⟨b, off + j, none⟩ = some u := by
 intro hne
 obtain ⟨b, off, e, hb, hc⟩ := h (by intro e; subst e; exact hne rfl)
 refine ⟨b, off, e, hb, fun j u hu => ?_⟩
 have hj : j < l.length * 2 := by have := (List.getElem?_eq_some_iff.1 hu).1; rwa [symCells_len] at this
 have hk : j / 2 < l.length := by omega
 obtain ⟨q1, q2⟩ := symCells_get l (j / 2) hk
 obtain ⟨c1, c2⟩ := hc (j / 2) hk
 have hm : j = j / 2 * 2 ∨ j = j / 2 * 2 + 1 := by omega
 rcases hm with e' | e'
 ·rw [e', q1] at hu; rw [e', <- hu]; exact c1
 ·rw [e', q2] at hu; rw [e', <- hu, <- Nat.add_assoc]; exact c2
theorem inRow_cells {w : World} {ao : Option Addr} {l : List Int} (h : InRow w ao l) : (l.map (Value.int .i64 ·)) ≠ [] -> ∃ b off, ao = some ⟨b, off, none⟩ /\ b < w.heap.size /\ ∀ j u, (l.map (Value.int .i64 ·))[j]? = some u -> w.cell? ⟨b, off + j, none⟩ = some u := by
 intro hne
 obtain ⟨b, off, e, hb, hc⟩ := h (by intro e; subst e; exact hne rfl)
 refine ⟨b, off, e, hb, fun j u hu => ?_⟩
 have hj : j < l.length := by have := (List.getElem?_eq_some_iff.1 hu).1; simpa using this
 rw [hc j hj]
 simp [List.getD, hj] at hu ⊢
 exact hu
theorem core_setP {L : List PV} {k : Nat} (hk : k < L.length) (a : Option Addr) (c : Nat) : (L.set k { L.getD k .none with ra := a, rc := c }).map PV.core = L.map PV.core := by
 rw [List.map_set]
 refine set_same ?_
 simp [List.getD, hk, PV.core]
theorem core_setL {L : List LV} {k : Nat} (hk : k < L.length) (a : Option Addr) (c : Nat) : (L.set k { L.getD k .none with ta := a, tc := c }).map LV.core = L.map LV.core := by
 rw [List.map_set]
 refine set_same ?_
 simp [List.getD, hk, LV.core]
structure MG (B : Nat) (w : World) (g : GV) (A H E pb lb tb nb : Nat) : Prop where
 ord : B <= A /\ A <= H /\ H <= E /\ E <= w.heap.size
 t : g.ta = some ⟨tb, 0, none⟩ /\ RB w tb 9 (g.ts.map .string) g.tc 1 /\ (tb < A ∨ E <= tb) /\ B <= tb
 n_ : g.na = some ⟨nb, 0, none⟩ /\ RB w nb 9 (g.ns.map .string) g.nc 1 /\ (nb < A ∨ E <= nb) /\ B <= nb
 pa : g.pa = some ⟨pb, 0, none⟩
 p : PM A H w pb g.pc g.ps.length g.ps
 pc : g.ps.length <= g.pc
 l : g.ls ≠ [] -> g.la = some ⟨lb, 0, none⟩ /\ LMt H E w lb g.lc g.ls.length g.ls
 tn : tb ≠ nb
theorem str_one (l : List ByteArray) : ∀ u ∈ l.map Value.string, u.oneCell' = true := by
 intro u hu
 obtain ⟨s, _, rfl⟩ := List.mem_map.1 hu
 rfl
theorem int_one (l : List Int) : ∀ u ∈ l.map (Value.int .i64 ·), u.oneCell' = true := by
 intro u hu
 obtain ⟨s, _, rfl⟩ := List.mem_map.1 hu
 rfl
theorem run_csym {o : Oper} {a : Act} {t0 : TypeId} {v0 : Value} {x0 : Operand} (hop : o.op = Op.call { callee := Callee.value (Operand.func 92), args := #[x0], argTypes := #[t0] }) (h0 : a.eval x0 = v0) (w : World) : (execOp a.eval o).run Try.prog w = .ok (.enter 92 #[v0]) w := by
 have hf : a.eval (Operand.func 92) = .func (.func 92) #[] #[] := rfl
 simp [execOp, hop, resolve, invoke, h0, hf, Deferred.ofValue]
theorem run_cint {o : Oper} {a : Act} {t0 : TypeId} {v0 : Value} {x0 : Operand} (hop : o.op = Op.call { callee := Callee.value (Operand.func 67), args := #[x0], argTypes := #[t0] }) (h0 : a.eval x0 = v0) (w : World) : (execOp a.eval o).run Try.prog w = .ok (.enter 67 #[v0]) w := by
 have hf : a.eval (Operand.func 67) = .func (.func 67) #[] #[] := rfl
 simp [execOp, hop, resolve, invoke, h0, hf, Deferred.ofValue]
set_option linter.unusedSimpArgs false in
set_option maxRecDepth 100000 in
set_option maxHeartbeats 8000000 in
theorem clone_G (g : GV) (w : World) (h : GAt 1048576 w g) (ht : g.ts ≠ []) (hn : g.ns ≠ []) (hp : g.ps ≠ []) :
  Calls Try.prog 65 #[g.val] w fun e w' => ∃ g' A H E pb lb tb nb, e = .returned g'.val /\ SameG g g' /\ MG w.heap.size w' g' A H E pb lb tb nb /\ Below w.heap.size w w' := by
 have HGA : Hid (∀ w', Below w.heap.size w w' -> GAt 1048576 w' g) := fun w' hb => h.later hb
 have CB0 : Hid (CBx w.heap.size w #[.slice (g.ta) g.ts.length g.tc, .slice (g.na) g.ns.length g.nc, .int .i64 g.start, .slice (g.pa) g.ps.length g.pc, .slice (g.la) g.ls.length g.lc] ((w.alloc (.cells #[.slice g.ta g.ts.length g.tc, .slice g.na g.ns.length g.nc, .int .i64 g.start, .slice g.pa g.ps.length g.pc, .slice g.la g.ls.length g.lc] 26)).alloc (.cells #[.slice none 0 0, .slice none 0 0, .int .i64 0, .slice none 0 0, .slice none 0 0] 26))) := cb_start g w
 have SZ0 : Hid (((w.alloc (.cells #[.slice g.ta g.ts.length g.tc, .slice g.na g.ns.length g.nc, .int .i64 g.start, .slice g.pa g.ps.length g.pc, .slice g.la g.ls.length g.lc] 26)).alloc (.cells #[.slice none 0 0, .slice none 0 0, .int .i64 0, .slice none 0 0, .slice none 0 0] 26)).heap.size = w.heap.size + 2) := by show _ = _; simp
 have HL : Hid (g.ts.length <= 1048576 /\ g.ns.length <= 1048576 /\ g.ps.length <= 1048576 /\ g.ls.length <= 1048576) := ⟨h.tl, h.nl, h.pl, h.ll⟩
 have HN : Hid (g.ts.length ≠ 0 /\ g.ns.length ≠ 0 /\ g.ps.length ≠ 0) := ⟨fun e => ht (List.eq_nil_of_length_eq_zero e), fun e => hn (List.eq_nil_of_length_eq_zero e), fun e => hp (List.eq_nil_of_length_eq_zero e)⟩
 have hpl := h.pl
 have hll := h.ll
 clear h ht hn hp
 go_enter Try.func65, Try.ntmps65
 go_wp2_with (first
  | (go_at_call 91; refine (clone_prod g.pa g.ps.length g.pc (proCells g.ps) _ (proCells_len _) HL.out.2.2.1 (proRow_cells (HGA.out _ C2.out.bel).p) (proCells_one _)).mono ?_; rintro e w3 ⟨aX, c3, rfl, k3, m3, b3⟩; obtain ⟨pb, rfl, l3, r3⟩ := k3 HN.out.2.2; have D3 : Hid (CBx w.heap.size w #[.slice (some ⟨tb, 0, none⟩) g.ts.length c1, .slice (some ⟨nb, 0, none⟩) g.ns.length c2, .int .i64 g.start, .slice (g.pa) g.ps.length g.pc, .slice (g.la) g.ls.length g.lc] w3) := C2.out.later b3; have C3 : Hid (CBx w.heap.size w #[.slice (some ⟨tb, 0, none⟩) g.ts.length c1, .slice (some ⟨nb, 0, none⟩) g.ns.length c2, .int .i64 g.start, .slice (some ⟨pb, 0, none⟩) g.ps.length c3, .slice (g.la) g.ls.length g.lc] (w3.setCell ⟨w.heap.size, 3, none⟩ (.slice (some ⟨pb, 0, none⟩) g.ps.length c3))) := D3.out.set 3 _; have R3 : Hid (RB (w3.setCell ⟨w.heap.size, 3, none⟩ (.slice (some ⟨pb, 0, none⟩) g.ps.length c3)) pb 52 (proCells g.ps) c3 3 /\ (w2.setCell ⟨w.heap.size, 1, none⟩ (.slice (some ⟨nb, 0, none⟩) g.ns.length c2)).heap.size <= pb /\ g.ps.length <= c3) := ⟨r3.other (by have := T2.out.2.2.2; omega) _ _, l3, m3⟩; have T3 : Hid (RB (w3.setCell ⟨w.heap.size, 3, none⟩ (.slice (some ⟨pb, 0, none⟩) g.ps.length c3)) tb 9 (g.ts.map .string) c1 1 /\ RB (w3.setCell ⟨w.heap.size, 3, none⟩ (.slice (some ⟨pb, 0, none⟩) g.ps.length c3)) nb 9 (g.ns.map .string) c2 1) := ⟨(T2.out.1.later b3).other (by have := T2.out.2.2.2; omega) _ _, (T2.out.2.1.later b3).other (by have := T2.out.2.2.2; omega) _ _⟩; have q0 : w3.cell? ⟨w.heap.size, 3, none⟩ = some (.slice g.pa g.ps.length g.pc) := (cellq_any D3.out.box).trans rfl; have y0 : w3.frozen? ⟨w.heap.size, 3, none⟩ = false := (by simp [World.frozen?, D3.out.box]); have hz3 : w.heap.size < w3.heap.size := lt_of_block D3.out.box; clear k3 l3 r3 m3 b3)
  | (go_at_call 90; refine (clone_str g.na g.ns.length g.nc (g.ns.map .string) _ (by simp) HL.out.2.1 (strCells (HGA.out _ C1.out.bel).n_) (str_one _)).mono ?_; rintro e w2 ⟨aX, c2, rfl, k2, m2, b2⟩; obtain ⟨nb, rfl, l2, r2⟩ := k2 HN.out.2.1; have TN : Hid (tb < nb) := Nat.lt_of_lt_of_le T1.out.1.lt l2; have D2 : Hid (CBx w.heap.size w #[.slice (some ⟨tb, 0, none⟩) g.ts.length c1, .slice (g.na) g.ns.length g.nc, .int .i64 g.start, .slice (g.pa) g.ps.length g.pc, .slice (g.la) g.ls.length g.lc] w2) := C1.out.later b2; have C2 : Hid (CBx w.heap.size w #[.slice (some ⟨tb, 0, none⟩) g.ts.length c1, .slice (some ⟨nb, 0, none⟩) g.ns.length c2, .int .i64 g.start, .slice (g.pa) g.ps.length g.pc, .slice (g.la) g.ls.length g.lc] (w2.setCell ⟨w.heap.size, 1, none⟩ (.slice (some ⟨nb, 0, none⟩) g.ns.length c2))) := D2.out.set 1 _; have T2 : Hid (RB (w2.setCell ⟨w.heap.size, 1, none⟩ (.slice (some ⟨nb, 0, none⟩) g.ns.length c2)) tb 9 (g.ts.map .string) c1 1 /\ RB (w2.setCell ⟨w.heap.size, 1, none⟩ (.slice (some ⟨nb, 0, none⟩) g.ns.length c2)) nb 9 (g.ns.map .string) c2 1 /\ (tb < (w2.setCell ⟨w.heap.size, 1, none⟩ (.slice (some ⟨nb, 0, none⟩) g.ns.length c2)).heap.size /\ nb < (w2.setCell ⟨w.heap.size, 1, none⟩ (.slice (some ⟨nb, 0, none⟩) g.ns.length c2)).heap.size) /\ (w.heap.size + 2 <= tb /\ w.heap.size + 2 <= nb /\ w.heap.size + 2 <= (w2.setCell ⟨w.heap.size, 1, none⟩ (.slice (some ⟨nb, 0, none⟩) g.ns.length c2)).heap.size)) := (by have h1 := T1.out.2; have h2 := lt_of_block C1.out.out; have r2' := r2.other (show nb ≠ w.heap.size by omega) 1 (.slice (some ⟨nb, 0, none⟩) g.ns.length c2); have t2' := (T1.out.1.later b2).other (show tb ≠ w.heap.size by omega) 1 (.slice (some ⟨nb, 0, none⟩) g.ns.length c2); exact ⟨t2', r2', ⟨t2'.lt, r2'.lt⟩, h1, by omega, lt_of_block C2.out.out⟩); have q1 : w2.cell? ⟨w.heap.size, 1, none⟩ = some (.slice g.na g.ns.length g.nc) := (cellq_any D2.out.box).trans rfl; have y1 : w2.frozen? ⟨w.heap.size, 1, none⟩ = false := (by simp [World.frozen?, D2.out.box]); have q3 : w2.cell? ⟨w.heap.size, 3, none⟩ = some (.slice g.pa g.ps.length g.pc) := (cellq_any D2.out.box).trans rfl; have hz2 : w.heap.size < w2.heap.size := lt_of_block D2.out.box; clear k2 l2 r2 m2 b2)
  | (go_at_call 90; refine (clone_str g.ta g.ts.length g.tc (g.ts.map .string) _ (by simp) HL.out.1 (strCells (HGA.out _ CB0.out.bel).t) (str_one _)).mono ?_; rintro e w1 ⟨aX, c1, rfl, k1, m1, b1⟩; obtain ⟨tb, rfl, l1, r1⟩ := k1 HN.out.1; have D1 : Hid (CBx w.heap.size w #[.slice (g.ta) g.ts.length g.tc, .slice (g.na) g.ns.length g.nc, .int .i64 g.start, .slice (g.pa) g.ps.length g.pc, .slice (g.la) g.ls.length g.lc] w1) := CB0.out.later b1; have C1 : Hid (CBx w.heap.size w #[.slice (some ⟨tb, 0, none⟩) g.ts.length c1, .slice (g.na) g.ns.length g.nc, .int .i64 g.start, .slice (g.pa) g.ps.length g.pc, .slice (g.la) g.ls.length g.lc] (w1.setCell ⟨w.heap.size, 0, none⟩ (.slice (some ⟨tb, 0, none⟩) g.ts.length c1))) := D1.out.set 0 _; have T1 : Hid (RB (w1.setCell ⟨w.heap.size, 0, none⟩ (.slice (some ⟨tb, 0, none⟩) g.ts.length c1)) tb 9 (g.ts.map .string) c1 1 /\ w.heap.size + 2 <= tb) := (by have hh := SZ0.out; rw [hh] at l1; exact ⟨r1.other (by omega) _ _, l1⟩); have q0 : w1.cell? ⟨w.heap.size, 0, none⟩ = some (.slice g.ta g.ts.length g.tc) := (cellq_any D1.out.box).trans rfl; have y0 : w1.frozen? ⟨w.heap.size, 0, none⟩ = false := (by simp [World.frozen?, D1.out.box]); have q1 : w1.cell? ⟨w.heap.size, 1, none⟩ = some (.slice g.na g.ns.length g.nc) := (cellq_any D1.out.box).trans rfl; have hz1 : w.heap.size < w1.heap.size := lt_of_block D1.out.box; clear k1 l1 r1 m1 b1))
 obtain ⟨A, RA'⟩ : ∃ A, w.heap.size + 2 <= A /\ tb < A /\ nb < A /\ A <= pb := ⟨_, T2.out.2.2.2.2.2, T2.out.2.2.1.1, T2.out.2.2.1.2, R3.out.2.1⟩
 have RA : Hid (w.heap.size + 2 <= A /\ tb < A /\ nb < A /\ A <= pb /\ g.ps.length <= c3) := ⟨RA'.1, RA'.2.1, RA'.2.2.1, RA'.2.2.2, R3.out.2.2⟩
 have NEQ : Hid (w.heap.size + 2 <= tb /\ w.heap.size + 2 <= nb /\ tb < nb) := ⟨T2.out.2.2.2.1, T2.out.2.2.2.2.1, TN.out⟩
 clear RA'
 go_loopw [22] (fun z wr => ∃ (k H : Nat) (L : List PV), k <= g.ps.length /\ z = .int .i64 k /\ CBx w.heap.size w #[.slice (some ⟨tb, 0, none⟩) g.ts.length c1, .slice (some ⟨nb, 0, none⟩) g.ns.length c2, .int .i64 g.start, .slice (some ⟨pb, 0, none⟩) g.ps.length c3, .slice (g.la) g.ls.length g.lc] wr /\ (RB wr tb 9 (g.ts.map .string) c1 1 /\ RB wr nb 9 (g.ns.map .string) c2 1) /\ PM A H wr pb c3 k L /\ H <= wr.heap.size /\ L.map PV.core = g.ps.map PV.core /\ ∀ i, k <= i -> L.getD i .none = g.ps.getD i .none) (fun z _ => g.ps.length - (intOf z).toNat)
 case atStart => exact ⟨0, _, g.ps, Nat.zero_le _, rfl, C3.out, T3.out, ⟨R3.out.1, ⟨RA.out.2.2.2.1, R3.out.1.lt⟩, fun i hi => absurd hi (Nat.not_lt_zero _), fun i j hi => absurd hi (Nat.not_lt_zero _)⟩, Nat.le_refl _, rfl, fun _ _ => rfl⟩
 case round =>
  clear q0 y0 q1 y1 q3 C1 C2 C3 D1 D2 D3 T1 T2 T3 R3 CB0 SZ0 hz1 hz2 hz3
  obtain ⟨k, H, L, hk, rfl, hC, hT, hP, hH, hcore, hrest⟩ := hrel
  have hLl : L.length = g.ps.length := by simpa using congrArg List.length hcore
  have NE : Hid (w.heap.size + 2 <= tb /\ w.heap.size + 2 <= nb /\ tb < nb) := NEQ.out
  have b3 : wr.cell? ⟨w.heap.size, 3, none⟩ = some (.slice (some ⟨pb, 0, none⟩) g.ps.length c3) := (cellq_any hC.box).trans rfl
  have HC : Hid (CBx w.heap.size w #[.slice (some ⟨tb, 0, none⟩) g.ts.length c1, .slice (some ⟨nb, 0, none⟩) g.ns.length c2, .int .i64 g.start, .slice (some ⟨pb, 0, none⟩) g.ps.length c3, .slice (g.la) g.ls.length g.lc] wr /\ (RB wr tb 9 (g.ts.map .string) c1 1 /\ RB wr nb 9 (g.ns.map .string) c2 1) /\ PM A H wr pb c3 k L /\ H <= wr.heap.size /\ L.map PV.core = g.ps.map PV.core /\ ∀ i, k <= i -> L.getD i .none = g.ps.getD i .none) := ⟨hC, hT, hP, hH, hcore, hrest⟩
  by_cases hlt : k < g.ps.length
  ·obtain ⟨p0, p1, p2⟩ := proCells_get L k (by omega)
   have c0 := hP.row.cell p0
   have c1' := hP.row.cell p1
   have c2' := hP.row.cell p2
   have hmem : L.getD k .none ∈ g.ps := by rw [hrest k (Nat.le_refl _)]; simp [List.getD, hlt]
   have GA := HGA.out wr hC.bel
   have HR : Hid (SymRow wr (L.getD k .none).ra (L.getD k .none).right /\ (L.getD k .none).right.length <= 1048576) := ⟨GA.p.rows _ hmem, GA.rl _ hmem⟩
   clear hC hT hP hH hcore hrest p0 p1 p2 hmem GA
   generalize hx : L.getD k .none = x at *
   have HX : Hid (L.getD k .none = x) := hx
   clear hx
   obtain ⟨pl, pra, prc, pr, pp⟩ := x
   simp only at c0 c1' c2' HR
   go_wp2
   have BQ : Hid (Below wr.heap.size wr (wr.alloc (.cells #[.int .i64 pl, .slice pra pr.length prc, .int .i64 pp] 52)).drew) := by show Below _ _ _; go_grown
   have hs0 : Hid ((fun w' => w'.cell? ⟨w.heap.size, 3, none⟩ = some (.slice (some ⟨pb, 0, none⟩) g.ps.length c3) /\ w'.cell? ⟨wr.heap.size, 1, none⟩ = some (.slice pra pr.length prc)) (wr.alloc (.cells #[.int .i64 pl, .slice pra pr.length prc, .int .i64 pp] 52)).drew) := ⟨(cellq_any (HC.out.1.later BQ.out).box).trans rfl, by show (wr.alloc (.cells #[.int .i64 pl, .slice pra pr.length prc, .int .i64 pp] 52)).cell? _ = _; rw [cellq_any (alloc_at wr _)]; rfl⟩
   refine wp_region_x (S := fun _ => (fun w' => w'.cell? ⟨w.heap.size, 3, none⟩ = some (.slice (some ⟨pb, 0, none⟩) g.ps.length c3) /\ w'.cell? ⟨wr.heap.size, 1, none⟩ = some (.slice pra pr.length prc))) (by kernel_rfl) ?_
   refine wpAnyX_takeC (i := 0) (v := ?_) rfl (by kernel_rfl) (by decide +kernel) (by decide +kernel) (fun _ _ _ h => h) (Or.inl ⟨by rfl, ?_⟩) hs0.out ?_
   rotate_left
   ·(intro w hSw; (try dsimp only at hSw); go_simp; try (with_reducible rfl))
   (try simp only [Act.put, List.setIfInBounds_toArray, List.set_cons_zero, List.set_cons_succ])
   refine wpAnyX_takeC (i := 1) (v := ?_) rfl (by kernel_rfl) (by decide +kernel) (by decide +kernel) (fun _ _ _ h => h) (Or.inl ⟨by rfl, ?_⟩) hs0.out ?_
   rotate_left
   ·(intro w hSw; (try dsimp only at hSw); go_simp; try (with_reducible rfl))
   (try simp only [Act.put, List.setIfInBounds_toArray, List.set_cons_zero, List.set_cons_succ])
   refine wpAnyX_takeC (i := 2) (v := ?_) rfl (by kernel_rfl) (by decide +kernel) (by decide +kernel) (fun _ _ _ h => h) (Or.inl ⟨by rfl, ?_⟩) hs0.out ?_
   rotate_left
   ·(intro w hSw; (try dsimp only at hSw); go_simp; try (with_reducible rfl))
   (try simp only [Act.put, List.setIfInBounds_toArray, List.set_cons_zero, List.set_cons_succ])
   refine wpAnyX_takeC (i := 3) (v := ?_) rfl (by kernel_rfl) (by decide +kernel) (by decide +kernel) (fun _ _ _ h => h) (Or.inl ⟨by rfl, ?_⟩) hs0.out ?_
   rotate_left
   ·(intro w hSw; (try dsimp only at hSw); go_simp; try (with_reducible rfl))
   (try simp only [Act.put, List.setIfInBounds_toArray, List.set_cons_zero, List.set_cons_succ])
   refine wpAnyX_takeC (i := 4) (v := ?_) rfl (by kernel_rfl) (by decide +kernel) (by decide +kernel) (fun _ _ _ h => h) (Or.inl ⟨by rfl, ?_⟩) hs0.out ?_
   rotate_left
   ·(intro w hSw; (try dsimp only at hSw); go_simp; try (with_reducible rfl))
   (try simp only [Act.put, List.setIfInBounds_toArray, List.set_cons_zero, List.set_cons_succ])
   refine wpAnyX_one (j := 5) (by decide +kernel) rfl (fun K' hK => ?_)
   refine step_callX rfl 92 #[.slice pra pr.length prc] _ (run_csym (v0 := .slice pra pr.length prc) (by rfl) (by rfl) _) (clone_sym pra pr.length prc (symCells pr) _ (symCells_len _) HR.out.2 (symRow_cells (HR.out.1.later (Nat.le_refl _) BQ.out)) (symCells_one _)) ?_
   rintro e w4 ⟨a4, c4, rfl, k4, m4, b4⟩
   have B4 : Hid (Below wr.heap.size wr w4) := BQ.out.trans (b4.mono BQ.out.size)
   have s4 : Hid ((fun w' => w'.cell? ⟨w.heap.size, 3, none⟩ = some (.slice (some ⟨pb, 0, none⟩) g.ps.length c3) /\ w'.cell? ⟨wr.heap.size, 1, none⟩ = some (.slice pra pr.length prc)) w4) := ⟨(cellq_any (HC.out.1.later B4.out).box).trans rfl, (b4.cell (p := ⟨wr.heap.size, 1, none⟩) (by show _ < (wr.alloc (.cells #[.int .i64 pl, .slice pra pr.length prc, .int .i64 pp] 52)).heap.size; simp)).trans hs0.out.2⟩
   have P4 : Hid (PM A H w4 pb c3 k L) := HC.out.2.2.1.later HC.out.2.2.2.1 B4.out
   refine ⟨_, rfl, hK.out _ _ s4.out ?_⟩
   clear hK K'
   refine wpAnyX_takeC (i := 6) (v := ?_) rfl (by kernel_rfl) (by decide +kernel) (by decide +kernel) (fun _ _ _ h => h) (Or.inl ⟨by rfl, ?_⟩) s4.out ?_
   rotate_left
   ·(intro w hSw; (try dsimp only at hSw); go_simp; try (with_reducible rfl))
   (try simp only [Act.put, List.setIfInBounds_toArray, List.set_cons_zero, List.set_cons_succ])
   refine wpAnyX_takeC (i := 7) (v := ?_) rfl (by kernel_rfl) (by decide +kernel) (by decide +kernel) (fun _ _ _ h => h) (Or.inl ⟨by rfl, ?_⟩) s4.out ?_
   rotate_left
   ·(intro w hSw; (try dsimp only at hSw); go_simp; try (with_reducible rfl))
   (try simp only [Act.put, List.setIfInBounds_toArray, List.set_cons_zero, List.set_cons_succ])
   have x1 : w4.cell? ⟨pb, k * 3 + 1, none⟩ = some (.slice pra pr.length prc) := (by have hh := P4.out.row.cell (proCells_get L k (by omega)).2.1; rw [HX.out] at hh; exact hh)
   have x2 : w4.frozen? ⟨pb, k * 3 + 1, none⟩ = false := P4.out.row.free _
   have x3 : pb < w4.heap.size := P4.out.row.lt
   refine wpAnyX_one (j := 8) (by decide +kernel) rfl (fun K' hK => ?_)
   go_simp
   refine hK.out _ _ (by have hh := s4.out; exact ⟨(cellq_any ((HC.out.1.later B4.out).put pb _ _ (by have := RA.out; omega)).box).trans rfl, (World.cell?_of_block (Below.heap_setCell _ _ _ _ (show wr.heap.size ≠ pb by have := HC.out.2.2.1.lo.2; have := HC.out.2.2.2.1; omega))).trans hh.2⟩) ?_
   clear hK K'
   refine wpAnyX_done (by decide +kernel) ?_
   go_wp2
   go_roundw
   case rel =>
    have PP := P4.out.push (by omega) a4 c4 w4.heap.size (Nat.le_trans HC.out.2.2.2.1 B4.out.size) (fun hr => by
     rw [HX.out] at hr ⊢
     obtain ⟨b, e1, e2, e3⟩ := k4 (fun e => hr (List.eq_nil_of_length_eq_zero e))
     exact ⟨b, e1, Nat.le_trans (Nat.le_trans HC.out.2.2.2.1 BQ.out.size) e2, e3.lt, e3⟩)
    have hlo := HC.out.2.2.1.lo
    have hra := RA.out
    have CR := core_setP (L := L) (k := k) (by omega) a4 c4
    have GN : ∀ i, k + 1 <= i -> (L.set k { L.getD k .none with ra := a4, rc := c4 }).getD i .none = g.ps.getD i .none := fun i hi => by rw [getD_set_ne (by omega)]; exact HC.out.2.2.2.2.2 i (by omega)
    rw [HX.out] at PP CR GN
    refine ⟨k + 1, w4.heap.size, _, by omega, by go_num, (HC.out.1.later B4.out).put pb _ _ (by omega), ⟨(HC.out.2.1.1.later B4.out).other (by omega) _ _, (HC.out.2.1.2.later B4.out).other (by omega) _ _⟩, PP, by simp, CR.trans HC.out.2.2.2.2.1, GN⟩
   case measure => simp [intOf]; omega
  ·obtain rfl : k = g.ps.length := by omega
   have b4 : wr.cell? ⟨w.heap.size, 4, none⟩ = some (.slice g.la g.ls.length g.lc) := (cellq_any hC.box).trans rfl
   have CO : Hid (L.map PV.core = g.ps.map PV.core) := hcore
   have w0' : Hid (H <= wr.heap.size) := hH
   obtain ⟨HB, hHB⟩ : ∃ HB, HB = wr.heap.size := ⟨_, rfl⟩
   have HHB : Hid (HB = wr.heap.size /\ H <= HB /\ A <= HB) := ⟨hHB, by omega, by have := hP.lo; omega⟩
   clear hC hT hP hH hcore hrest hHB
   go_wp2_with (go_at_call 93; refine (clone_lev g.la g.ls.length g.lc (levCells g.ls) _ (levCells_len _) HL.out.2.2.2 (levRow_cells (HGA.out _ HC.out.1.bel).l) (levCells_one _)).mono ?_; rintro e w5 ⟨a5, c5, rfl, k5, m5, b5⟩; have C5 : Hid (CBx w.heap.size w #[.slice (some ⟨tb, 0, none⟩) g.ts.length c1, .slice (some ⟨nb, 0, none⟩) g.ns.length c2, .int .i64 g.start, .slice (some ⟨pb, 0, none⟩) g.ps.length c3, .slice (g.la) g.ls.length g.lc] w5) := HC.out.1.later b5; have D5 : Hid (CBx w.heap.size w #[.slice (some ⟨tb, 0, none⟩) g.ts.length c1, .slice (some ⟨nb, 0, none⟩) g.ns.length c2, .int .i64 g.start, .slice (some ⟨pb, 0, none⟩) g.ps.length c3, .slice (a5) g.ls.length c5] (w5.setCell ⟨w.heap.size, 4, none⟩ (.slice a5 g.ls.length c5))) := C5.out.set 4 _; have T5 : Hid (RB (w5.setCell ⟨w.heap.size, 4, none⟩ (.slice a5 g.ls.length c5)) tb 9 (g.ts.map .string) c1 1 /\ RB (w5.setCell ⟨w.heap.size, 4, none⟩ (.slice a5 g.ls.length c5)) nb 9 (g.ns.map .string) c2 1) := ⟨(HC.out.2.1.1.later b5).other (by have := NE.out.1; omega) _ _, (HC.out.2.1.2.later b5).other (by have := NE.out.2; omega) _ _⟩; have P5 : Hid (PM A H (w5.setCell ⟨w.heap.size, 4, none⟩ (.slice a5 g.ls.length c5)) pb c3 g.ps.length L) := (HC.out.2.2.1.later HC.out.2.2.2.1 b5).kept (fun j hj _ => Below.heap_setCell _ _ _ _ (show j ≠ w.heap.size by have := RA.out.1; omega)); have K5 : Hid (g.ls ≠ [] -> ∃ lb, a5 = some ⟨lb, 0, none⟩ /\ HB <= lb /\ RB (w5.setCell ⟨w.heap.size, 4, none⟩ (.slice a5 g.ls.length c5)) lb 99 (levCells g.ls) c5 2) := (fun hl => by obtain ⟨lb, e1, e2, e3⟩ := k5 (fun e => hl (List.eq_nil_of_length_eq_zero e)); have := RA.out.1; have := HHB.out; exact ⟨lb, e1, by omega, e3.other (by omega) _ _⟩); have S5 : Hid (HB <= (w5.setCell ⟨w.heap.size, 4, none⟩ (.slice a5 g.ls.length c5)).heap.size) := (by show HB <= _; rw [HHB.out.1]; simpa using b5.size); have q4 : w5.cell? ⟨w.heap.size, 4, none⟩ = some (.slice g.la g.ls.length g.lc) := (cellq_any C5.out.box).trans rfl; have y4 : w5.frozen? ⟨w.heap.size, 4, none⟩ = false := (by simp [World.frozen?, C5.out.box]); have hz5 : w.heap.size < w5.heap.size := lt_of_block C5.out.box; clear k5 m5 b5)
   clear b3 b4 HC
   go_loopw [43] (fun z wr => ∃ (k E : Nat) (M : List LV), k <= g.ls.length /\ z = .int .i64 k /\ (CBx w.heap.size w #[.slice (some ⟨tb, 0, none⟩) g.ts.length c1, .slice (some ⟨nb, 0, none⟩) g.ns.length c2, .int .i64 g.start, .slice (some ⟨pb, 0, none⟩) g.ps.length c3, .slice (a5) g.ls.length c5] wr /\ (RB wr tb 9 (g.ts.map .string) c1 1 /\ RB wr nb 9 (g.ns.map .string) c2 1) /\ PM A H wr pb c3 g.ps.length L) /\ (g.ls ≠ [] -> ∃ lb, a5 = some ⟨lb, 0, none⟩ /\ LMt HB E wr lb c5 k M) /\ (HB <= E /\ E <= wr.heap.size) /\ M.map LV.core = g.ls.map LV.core /\ ∀ i, k <= i -> M.getD i .none = g.ls.getD i .none) (fun z _ => g.ls.length - (intOf z).toNat)
   case atStart =>
    refine ⟨0, _, g.ls, Nat.zero_le _, rfl, ⟨D5.out, T5.out, P5.out⟩, fun hl => ?_, ⟨S5.out, Nat.le_refl _⟩, rfl, fun _ _ => rfl⟩
    obtain ⟨lb, e1, e2, e3⟩ := K5.out hl
    exact ⟨lb, e1, e3, ⟨e2, e3.lt⟩, fun i hi => absurd hi (Nat.not_lt_zero _), fun i j hi => absurd hi (Nat.not_lt_zero _)⟩
   case round =>
    clear q4 y4 C5 D5 T5 P5 K5 S5 hz5
    obtain ⟨k, E, M, hk, rfl, hC, hP, hH, hcore, hrest⟩ := hrel
    have hLl : M.length = g.ls.length := by simpa using congrArg List.length hcore
    by_cases hlt : k < g.ls.length
    ·have hls : g.ls ≠ [] := by intro e; rw [e] at hlt; simp at hlt
     obtain ⟨lb, e5, hP2⟩ := hP hls
     clear hP
     subst e5
     have hP := hP2
     clear hP2
     have b3 : wr.cell? ⟨w.heap.size, 4, none⟩ = some (.slice (some ⟨lb, 0, none⟩) g.ls.length c5) := (cellq_any hC.1.box).trans rfl
     have HC : Hid ((CBx w.heap.size w #[.slice (some ⟨tb, 0, none⟩) g.ts.length c1, .slice (some ⟨nb, 0, none⟩) g.ns.length c2, .int .i64 g.start, .slice (some ⟨pb, 0, none⟩) g.ps.length c3, .slice (some ⟨lb, 0, none⟩) g.ls.length c5] wr /\ (RB wr tb 9 (g.ts.map .string) c1 1 /\ RB wr nb 9 (g.ns.map .string) c2 1) /\ PM A H wr pb c3 g.ps.length L) /\ LMt HB E wr lb c5 k M /\ (HB <= E /\ E <= wr.heap.size) /\ M.map LV.core = g.ls.map LV.core /\ ∀ i, k <= i -> M.getD i .none = g.ls.getD i .none) := ⟨hC, hP, hH, hcore, hrest⟩
     obtain ⟨p0, p1⟩ := levCells_get M k (by omega)
     have c0 := hP.row.cell p0
     have c1' := hP.row.cell p1
     have hmem : M.getD k .none ∈ g.ls := by rw [hrest k (Nat.le_refl _)]; simp [List.getD, hlt]
     have GA := HGA.out wr hC.1.bel
     have HR : Hid (InRow wr (M.getD k .none).ta (M.getD k .none).terms /\ (M.getD k .none).terms.length <= 1048576) := ⟨GA.l.rows _ hmem, GA.vl _ hmem⟩
     clear hC hP hH hcore hrest p0 p1 hmem GA
     generalize hx : M.getD k .none = x at *
     have HX : Hid (M.getD k .none = x) := hx
     clear hx
     obtain ⟨pl, pra, prc, pr⟩ := x
     simp only at c0 c1' HR
     go_wp2
     have BQ : Hid (Below wr.heap.size wr (wr.alloc (.cells #[.int .i64 pl, .slice pra pr.length prc] 99)).drew) := by show Below _ _ _; go_grown
     have hs0 : Hid ((fun w' => w'.cell? ⟨w.heap.size, 4, none⟩ = some (.slice (some ⟨lb, 0, none⟩) g.ls.length c5) /\ w'.cell? ⟨wr.heap.size, 1, none⟩ = some (.slice pra pr.length prc)) (wr.alloc (.cells #[.int .i64 pl, .slice pra pr.length prc] 99)).drew) := ⟨(cellq_any (HC.out.1.1.later BQ.out).box).trans rfl, by show (wr.alloc (.cells #[.int .i64 pl, .slice pra pr.length prc] 99)).cell? _ = _; rw [cellq_any (alloc_at wr _)]; rfl⟩
     refine wp_region_x (S := fun _ => (fun w' => w'.cell? ⟨w.heap.size, 4, none⟩ = some (.slice (some ⟨lb, 0, none⟩) g.ls.length c5) /\ w'.cell? ⟨wr.heap.size, 1, none⟩ = some (.slice pra pr.length prc))) (by kernel_rfl) ?_
     refine wpAnyX_takeC (i := 0) (v := ?_) rfl (by kernel_rfl) (by decide +kernel) (by decide +kernel) (fun _ _ _ h => h) (Or.inl ⟨by rfl, ?_⟩) hs0.out ?_
     rotate_left
     ·(intro w hSw; (try dsimp only at hSw); go_simp; try (with_reducible rfl))
     (try simp only [Act.put, List.setIfInBounds_toArray, List.set_cons_zero, List.set_cons_succ])
     refine wpAnyX_takeC (i := 1) (v := ?_) rfl (by kernel_rfl) (by decide +kernel) (by decide +kernel) (fun _ _ _ h => h) (Or.inl ⟨by rfl, ?_⟩) hs0.out ?_
     rotate_left
     ·(intro w hSw; (try dsimp only at hSw); go_simp; try (with_reducible rfl))
     (try simp only [Act.put, List.setIfInBounds_toArray, List.set_cons_zero, List.set_cons_succ])
     refine wpAnyX_takeC (i := 2) (v := ?_) rfl (by kernel_rfl) (by decide +kernel) (by decide +kernel) (fun _ _ _ h => h) (Or.inl ⟨by rfl, ?_⟩) hs0.out ?_
     rotate_left
     ·(intro w hSw; (try dsimp only at hSw); go_simp; try (with_reducible rfl))
     (try simp only [Act.put, List.setIfInBounds_toArray, List.set_cons_zero, List.set_cons_succ])
     refine wpAnyX_takeC (i := 3) (v := ?_) rfl (by kernel_rfl) (by decide +kernel) (by decide +kernel) (fun _ _ _ h => h) (Or.inl ⟨by rfl, ?_⟩) hs0.out ?_
     rotate_left
     ·(intro w hSw; (try dsimp only at hSw); go_simp; try (with_reducible rfl))
     (try simp only [Act.put, List.setIfInBounds_toArray, List.set_cons_zero, List.set_cons_succ])
     refine wpAnyX_takeC (i := 4) (v := ?_) rfl (by kernel_rfl) (by decide +kernel) (by decide +kernel) (fun _ _ _ h => h) (Or.inl ⟨by rfl, ?_⟩) hs0.out ?_
     rotate_left
     ·(intro w hSw; (try dsimp only at hSw); go_simp; try (with_reducible rfl))
     (try simp only [Act.put, List.setIfInBounds_toArray, List.set_cons_zero, List.set_cons_succ])
     refine wpAnyX_one (j := 5) (by decide +kernel) rfl (fun K' hK => ?_)
     refine step_callX rfl 67 #[.slice pra pr.length prc] _ (run_cint (v0 := .slice pra pr.length prc) (by rfl) (by rfl) _) (clone_int pra pr.length prc (pr.map (Value.int .i64 ·)) _ (by simp) HR.out.2 (inRow_cells (HR.out.1.later BQ.out)) (int_one _)) ?_
     rintro e w4 ⟨a4, c4, rfl, k4, m4, b4⟩
     have B4 : Hid (Below wr.heap.size wr w4) := BQ.out.trans (b4.mono BQ.out.size)
     have s4 : Hid ((fun w' => w'.cell? ⟨w.heap.size, 4, none⟩ = some (.slice (some ⟨lb, 0, none⟩) g.ls.length c5) /\ w'.cell? ⟨wr.heap.size, 1, none⟩ = some (.slice pra pr.length prc)) w4) := ⟨(cellq_any (HC.out.1.1.later B4.out).box).trans rfl, (b4.cell (p := ⟨wr.heap.size, 1, none⟩) (by show _ < (wr.alloc (.cells #[.int .i64 pl, .slice pra pr.length prc] 99)).heap.size; simp)).trans hs0.out.2⟩
     have P4 : Hid (LMt HB E w4 lb c5 k M) := HC.out.2.1.later HC.out.2.2.1.2 B4.out
     refine ⟨_, rfl, hK.out _ _ s4.out ?_⟩
     clear hK K'
     refine wpAnyX_takeC (i := 6) (v := ?_) rfl (by kernel_rfl) (by decide +kernel) (by decide +kernel) (fun _ _ _ h => h) (Or.inl ⟨by rfl, ?_⟩) s4.out ?_
     rotate_left
     ·(intro w hSw; (try dsimp only at hSw); go_simp; try (with_reducible rfl))
     (try simp only [Act.put, List.setIfInBounds_toArray, List.set_cons_zero, List.set_cons_succ])
     refine wpAnyX_takeC (i := 7) (v := ?_) rfl (by kernel_rfl) (by decide +kernel) (by decide +kernel) (fun _ _ _ h => h) (Or.inl ⟨by rfl, ?_⟩) s4.out ?_
     rotate_left
     ·(intro w hSw; (try dsimp only at hSw); go_simp; try (with_reducible rfl))
     (try simp only [Act.put, List.setIfInBounds_toArray, List.set_cons_zero, List.set_cons_succ])
     have x1 : w4.cell? ⟨lb, k * 2 + 1, none⟩ = some (.slice pra pr.length prc) := (by have hh := P4.out.row.cell (levCells_get M k (by omega)).2; rw [HX.out] at hh; exact hh)
     have x2 : w4.frozen? ⟨lb, k * 2 + 1, none⟩ = false := P4.out.row.free _
     have x3 : lb < w4.heap.size := P4.out.row.lt
     have LB : Hid (w.heap.size + 2 <= lb /\ tb < lb /\ nb < lb /\ H <= lb /\ lb < wr.heap.size) := by
      have h1 := HC.out.2.1.lo; have h2 := RA.out; have h3 := HHB.out; have h4 := HC.out.2.2.1.2
      exact ⟨by omega, by omega, by omega, by omega, by omega⟩
     refine wpAnyX_one (j := 8) (by decide +kernel) rfl (fun K' hK => ?_)
     go_simp
     refine hK.out _ _ (by have hh := s4.out; exact ⟨(cellq_any ((HC.out.1.1.later B4.out).put lb _ _ LB.out.1).box).trans rfl, (World.cell?_of_block (Below.heap_setCell _ _ _ _ (show wr.heap.size ≠ lb by have := LB.out; omega))).trans hh.2⟩) ?_
     clear hK K'
     refine wpAnyX_done (by decide +kernel) ?_
     go_wp2
     go_roundw
     case rel =>
      have PP := P4.out.push (by omega) a4 c4 w4.heap.size (Nat.le_trans HC.out.2.2.1.2 B4.out.size) (fun hr => by
       rw [HX.out] at hr ⊢
       obtain ⟨b, e1, e2, e3⟩ := k4 (fun e => hr (List.eq_nil_of_length_eq_zero e))
       exact ⟨b, e1, Nat.le_trans (Nat.le_trans HC.out.2.2.1.2 BQ.out.size) e2, e3.lt, e3⟩)
      have hlb := LB.out
      have CR := core_setL (L := M) (k := k) (by omega) a4 c4
      have GN : ∀ i, k + 1 <= i -> (M.set k { M.getD k .none with ta := a4, tc := c4 }).getD i .none = g.ls.getD i .none := fun i hi => by rw [getD_set_ne (by omega)]; exact HC.out.2.2.2.2 i (by omega)
      rw [HX.out] at PP CR GN
      refine ⟨k + 1, w4.heap.size, _, by omega, by go_num, ⟨(HC.out.1.1.later B4.out).put lb _ _ (by omega), ⟨(HC.out.1.2.1.1.later B4.out).other (by omega) _ _, (HC.out.1.2.1.2.later B4.out).other (by omega) _ _⟩, (HC.out.1.2.2.later (Nat.le_trans HHB.out.2.1 (Nat.le_trans HC.out.2.2.1.1 HC.out.2.2.1.2)) B4.out).kept (fun j _ hj => Below.heap_setCell _ _ _ _ (show j ≠ lb by omega))⟩, fun _ => ⟨lb, rfl, PP⟩, ⟨Nat.le_trans HC.out.2.2.1.1 (Nat.le_trans HC.out.2.2.1.2 B4.out.size), by simp⟩, CR.trans HC.out.2.2.2.1, GN⟩
     case measure => simp [intOf]; omega
    ·obtain rfl : k = g.ls.length := by omega
     have b0 : wr.cell? ⟨w.heap.size, 0, none⟩ = some (.slice (some ⟨tb, 0, none⟩) g.ts.length c1) := (cellq_any hC.1.box).trans rfl
     have b1 : wr.cell? ⟨w.heap.size, 1, none⟩ = some (.slice (some ⟨nb, 0, none⟩) g.ns.length c2) := (cellq_any hC.1.box).trans rfl
     have b2 : wr.cell? ⟨w.heap.size, 2, none⟩ = some (.int .i64 g.start) := (cellq_any hC.1.box).trans rfl
     have b3 : wr.cell? ⟨w.heap.size, 3, none⟩ = some (.slice (some ⟨pb, 0, none⟩) g.ps.length c3) := (cellq_any hC.1.box).trans rfl
     have b4 : wr.cell? ⟨w.heap.size, 4, none⟩ = some (.slice a5 g.ls.length c5) := (cellq_any hC.1.box).trans rfl
     have r0 : wr.cell? ⟨w.heap.size + 1, 0, none⟩ = some (.slice none 0 0) := (cellq_any hC.1.out).trans rfl
     have y0 : wr.frozen? ⟨w.heap.size + 1, 0, none⟩ = false := by simp [World.frozen?, hC.1.out]
     have r1 : wr.cell? ⟨w.heap.size + 1, 1, none⟩ = some (.slice none 0 0) := (cellq_any hC.1.out).trans rfl
     have y1 : wr.frozen? ⟨w.heap.size + 1, 1, none⟩ = false := by simp [World.frozen?, hC.1.out]
     have r2 : wr.cell? ⟨w.heap.size + 1, 2, none⟩ = some (.int .i64 0) := (cellq_any hC.1.out).trans rfl
     have y2 : wr.frozen? ⟨w.heap.size + 1, 2, none⟩ = false := by simp [World.frozen?, hC.1.out]
     have r3 : wr.cell? ⟨w.heap.size + 1, 3, none⟩ = some (.slice none 0 0) := (cellq_any hC.1.out).trans rfl
     have y3 : wr.frozen? ⟨w.heap.size + 1, 3, none⟩ = false := by simp [World.frozen?, hC.1.out]
     have r4 : wr.cell? ⟨w.heap.size + 1, 4, none⟩ = some (.slice none 0 0) := (cellq_any hC.1.out).trans rfl
     have y4 : wr.frozen? ⟨w.heap.size + 1, 4, none⟩ = false := by simp [World.frozen?, hC.1.out]
     have hz : w.heap.size + 1 < wr.heap.size := lt_of_block hC.1.out
     have HF : Hid ((CBx w.heap.size w #[.slice (some ⟨tb, 0, none⟩) g.ts.length c1, .slice (some ⟨nb, 0, none⟩) g.ns.length c2, .int .i64 g.start, .slice (some ⟨pb, 0, none⟩) g.ps.length c3, .slice a5 g.ls.length c5] wr /\ (RB wr tb 9 (g.ts.map .string) c1 1 /\ RB wr nb 9 (g.ns.map .string) c2 1) /\ PM A H wr pb c3 g.ps.length L) /\ (g.ls ≠ [] -> ∃ lb, a5 = some ⟨lb, 0, none⟩ /\ LMt HB E wr lb c5 g.ls.length M) /\ (HB <= E /\ E <= wr.heap.size) /\ M.map LV.core = g.ls.map LV.core) := ⟨hC, hP, hH, hcore⟩
     clear hC hP hH hcore hrest
     go_wp2
     refine bodyPost_ret (v := .agg #[.slice (some ⟨tb, 0, none⟩) g.ts.length c1, .slice (some ⟨nb, 0, none⟩) g.ns.length c2, .int .i64 g.start, .slice (some ⟨pb, 0, none⟩) g.ps.length c3, .slice a5 g.ls.length c5]) (by simp [results, Try.results65, go_sem, r0, r1, r2, r3, r4, hz]) rfl ?_
     obtain ⟨⟨hC, hT, hPM⟩, hP, hH, hcore⟩ := HF.out
     have hra := RA.out
     have hhb := HHB.out
     have hne := NEQ.out
     have e1 : L.length = g.ps.length := by simpa using congrArg List.length CO.out
     have hk : ∀ j, j ≠ w.heap.size + 1 -> (((((wr.setCell ⟨w.heap.size + 1, 0, none⟩ (.slice (some ⟨tb, 0, none⟩) g.ts.length c1)).setCell ⟨w.heap.size + 1, 1, none⟩ (.slice (some ⟨nb, 0, none⟩) g.ns.length c2)).setCell ⟨w.heap.size + 1, 2, none⟩ (.int .i64 g.start)).setCell ⟨w.heap.size + 1, 3, none⟩ (.slice (some ⟨pb, 0, none⟩) g.ps.length c3)).setCell ⟨w.heap.size + 1, 4, none⟩ (.slice a5 g.ls.length c5)).heap[j]? = wr.heap[j]? := fun j hj => by
      rw [Below.heap_setCell _ _ _ _ hj, Below.heap_setCell _ _ _ _ hj, Below.heap_setCell _ _ _ _ hj, Below.heap_setCell _ _ _ _ hj, Below.heap_setCell _ _ _ _ hj]
     refine ⟨⟨some ⟨tb, 0, none⟩, c1, g.ts, some ⟨nb, 0, none⟩, c2, g.ns, g.start, some ⟨pb, 0, none⟩, c3, L, a5, c5, M⟩, A, HB, E, pb, ablk a5, tb, nb, ?_, ⟨rfl, rfl, rfl, CO.out, hcore⟩, ⟨?_, ⟨rfl, hT.1.kept (hk _ (by omega)), .inl hra.2.1, by omega⟩, ⟨rfl, hT.2.kept (hk _ (by omega)), .inl hra.2.2.1, by omega⟩, rfl, ?_, ?_, ?_, by omega⟩, ?_⟩
     ·simp only [GV.val, e1, hLl]
     ·refine ⟨by omega, hhb.2.2, hH.1, ?_⟩
      simpa using hH.2
     ·show PM A HB _ pb c3 L.length L
      rw [e1]
      exact (hPM.kept (fun j hj _ => hk j (by omega))).mono hhb.2.1
     ·show L.length <= c3
      omega
     ·intro hl
      obtain ⟨lb, e5, hP2⟩ := hP (fun e => hl (by simpa [e] using hLl))
      subst e5
      refine ⟨rfl, ?_⟩
      show LMt HB E _ lb c5 M.length M
      rw [hLl]
      exact hP2.kept (fun j hj _ => hk j (by omega))
     ·exact ((((hC.bel.setCell (p := ⟨w.heap.size + 1, 0, none⟩) (by show w.heap.size <= w.heap.size + 1; omega) _).setCell (p := ⟨w.heap.size + 1, 1, none⟩) (by show w.heap.size <= w.heap.size + 1; omega) _).setCell (p := ⟨w.heap.size + 1, 2, none⟩) (by show w.heap.size <= w.heap.size + 1; omega) _).setCell (p := ⟨w.heap.size + 1, 3, none⟩) (by show w.heap.size <= w.heap.size + 1; omega) _).setCell (p := ⟨w.heap.size + 1, 4, none⟩) (by show w.heap.size <= w.heap.size + 1; omega) _
end Go.Proofs.Ytccednepbkjajaa
