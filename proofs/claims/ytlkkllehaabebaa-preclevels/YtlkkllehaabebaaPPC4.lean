import Derived.Test.YtlkkllehaabebaaPPC3
import Derived.Test.YtlkkllehaabebaaPFThreeToFChk8
import Derived.Test.YtlkkllehaabebaaPGG1ToGWB
namespace Go.Proofs.Ytlkkllehaabebaa
set_option linter.unusedVariables false
set_option maxRecDepth 100000
set_option maxHeartbeats 16000000
open Go.RowKit Go.Maps
def inC (x : Int) : List Value := [.int .i64 x]
theorem rkInt : RK 3 45 1 inC := by
 refine ⟨Try.underlying45, ?_, by decide, fun _ => rfl, fun x u hu => ?_⟩
 ·have h : (Try.prog.info? 3).map (fun i => (i.zero, i.size, i.bytes)) = some (some (.int .i64 0), 1, 8) := by kernel_rfl
  cases e : Try.prog.info? 3 with
  | none => rw [e] at h; cases h
  | some i =>
   rw [e] at h
   simp at h
   exact ⟨i, _, rfl, h.1, h.2.1, by rw [h.2.2]; decide, rfl⟩
 ·simp only [inC, List.mem_singleton] at hu
  subst hu
  rfl
theorem RO.ty {α : Type} {τ : TypeId} {k : Nat} {f : α -> List Value} {w : World} {v : Value} {l : List α} (h : RO τ k f w v l) {b : Nat} (hb : v.ownBlock = some b) : ∃ cur fr, w.heap[b]? = some (.cells cur τ fr) := by
 rcases h.2 with ⟨rfl, _⟩ | ⟨g, cap, cur, rfl, h1, h2, h3⟩
 ·have : (none : Option Nat) = some b := hb
  cases this
 ·have : some g = some b := hb
  cases this
  exact ⟨cur, _, h2⟩
theorem RO.inrow {w : World} {a : Option Addr} {n c : Nat} {l : List Int} (h : RO 3 1 inC w (.slice a n c) l) : InRow w a l := by
 intro hn
 obtain ⟨b, c', e, _, hc⟩ := RO.cell (f := inC) (k := 1) (fun _ => rfl) h (i := 0) (List.length_pos_iff.2 hn)
 have hb : b < w.heap.size := h.lt b (by rw [e]; rfl)
 have ea : a = some ⟨b, 0, none⟩ := by simp only [Value.slice.injEq] at e; exact e.1
 refine ⟨b, 0, ea, hb, fun i hi => ?_⟩
 obtain ⟨b', c2, e', _, hc'⟩ := RO.cell (f := inC) (k := 1) (fun _ => rfl) h hi
 have eb : b' = b := by rw [e] at e'; simp only [Value.slice.injEq, Option.some.injEq, Addr.mk.injEq] at e'; exact e'.1.1.symm
 subst eb
 have := hc' 0 (by decide)
 rw [Nat.mul_one, Nat.add_zero] at this
 rw [Nat.zero_add, this]
 simp [inC, List.getD, hi]
theorem EqM.kept {w w' : World} {mb : Nat} (h : EqM w mb) (e : w'.heap[mb]? = w.heap[mb]?) : EqM w' mb := by
 obtain ⟨D, f, ⟨es, cl, h1, h2⟩, h3⟩ := h.ex
 exact ⟨D, f, ⟨es, cl, e.trans h1, h2⟩, h3⟩
theorem EqM.mp {w : World} {mb : Nat} (h : EqM w mb) : ∃ es cl, w.heap[mb]? = some (.map es cl) := by
 obtain ⟨D, f, ⟨es, cl, h1, h2⟩, h3⟩ := h.ex
 exact ⟨es, cl, h1⟩
theorem EqM.later {w w' : World} {mb : Nat} (h : EqM w mb) (hb : Below w.heap.size w w') : EqM w' mb := by
 obtain ⟨es, cl, e⟩ := h.mp
 exact h.kept (hb.block _ (lt_of_block e))
structure JW (g : GV) (w0 : World) (jb mb : Nat) (tv pv : Value) (T P : List Int) (w : World) : Prop where
 gb : w.heap[w0.heap.size]? = some (gBox g)
 j : w.heap[jb]? = some (.cells #[.slice g.la g.ls.length g.lc, tv, pv, .map (some mb)] 134 (0, 0))
 t : RO 3 1 inC w tv T
 p : RO 3 1 inC w pv P
 to : ∀ i, tv.ownBlock = some i -> w0.heap.size <= i
 po : ∀ i, pv.ownBlock = some i -> w0.heap.size <= i
 ne : ∀ i, tv.ownBlock = some i -> pv.ownBlock ≠ some i
 m : EqM w mb
 jn : w0.heap.size <= jb
 bel : Below w0.heap.size w0 w
theorem JW.later {g : GV} {w0 : World} {jb mb : Nat} {tv pv : Value} {T P : List Int} {w w' : World} (h : JW g w0 jb mb tv pv T P w) (hb : Below w.heap.size w w') : JW g w0 jb mb tv pv T P w' :=
 ⟨blk_later h.gb hb, blk_later h.j hb, h.t.later hb, h.p.later hb, h.to, h.po, h.ne, h.m.later hb, h.jn, h.bel.trans (hb.mono h.bel.size)⟩
theorem grew_ne {w w' : World} {v v' : Value} (h : Grew w w' v v') {b : Nat} {o : Obj} (ho : w.heap[b]? = some o) (hn : v.ownBlock ≠ some b) : w'.heap[b]? = some o :=
 (h.grown.block b (lt_of_block ho) (fun e => hn e.symm)).trans ho
theorem new_ne {w w' : World} {v v' u : Value} (h : Grew w w' v v') (hu : ∀ j, u.ownBlock = some j -> j < w.heap.size) (hn : ∀ i, v.ownBlock = some i -> u.ownBlock ≠ some i) : ∀ i, v'.ownBlock = some i -> u.ownBlock ≠ some i := fun i hi e => by
 rcases h.moved with q | ⟨k, q, hk⟩
 ·exact hn i (by rw [<- q]; exact hi) e
 ·rw [q] at hi
  obtain rfl : k = i := by simpa using hi
  have := hu k e
  omega
theorem setj_ne {w : World} {jb i j : Nat} {v : Value} (h : j ≠ jb) : (w.setCell ⟨jb, i, none⟩ v).heap[j]? = w.heap[j]? := Below.heap_setCell _ _ _ _ h
theorem JW.pushT {g : GV} {w0 : World} {jb mb : Nat} {tv pv tv' : Value} {T P T' : List Int} {w w' : World} (h : JW g w0 jb mb tv pv T P w) (hg : Grew w w' tv tv') (hr : RO 3 1 inC w' tv' T') :
  JW g w0 jb mb tv' pv T' P (w'.setCell ⟨jb, 1, none⟩ tv') := by
 have nj : tv.ownBlock ≠ some jb := fun e => by obtain ⟨_, _, q⟩ := h.t.ty e; rw [h.j] at q; simp at q
 have nm : tv.ownBlock ≠ some mb := fun e => by obtain ⟨_, _, q⟩ := h.t.ty e; obtain ⟨es, cl, q2⟩ := h.m.mp; rw [q2] at q; simp at q
 have ng : tv.ownBlock ≠ some w0.heap.size := fun e => by obtain ⟨_, _, q⟩ := h.t.ty e; rw [h.gb] at q; simp [gBox] at q
 obtain ⟨es, cl, hm⟩ := h.m.mp
 have j' := grew_ne hg h.j nj
 have m' := grew_ne hg hm nm
 have g' := grew_ne hg h.gb ng
 have p' : RO 3 1 inC w' pv P := h.p.kept fun j hj => hg.grown.block j (h.p.lt j hj) (fun e => h.ne j e.symm hj)
 have to' := hg.own (n := w0.heap.size) h.bel.size h.to
 have tj : tv'.ownBlock ≠ some jb := fun e => by obtain ⟨_, _, q⟩ := hr.ty e; rw [j'] at q; simp at q
 have pj : pv.ownBlock ≠ some jb := fun e => by obtain ⟨_, _, q⟩ := p'.ty e; rw [j'] at q; simp at q
 have mj : mb ≠ jb := fun e => by subst e; rw [m'] at j'; simp at j'
 have gj : w0.heap.size ≠ jb := fun e => by rw [<- e, g'] at j'; simp [gBox] at j'
 refine ⟨(setj_ne gj).trans g', (heap_set j' 1 _).trans rfl, hr.kept fun j hj => setj_ne (fun e => tj (by rw [<- e]; exact hj)), p'.kept fun j hj => setj_ne (fun e => pj (by rw [<- e]; exact hj)), to', h.po, new_ne hg h.p.lt h.ne, (h.m.kept (m'.trans hm.symm)).kept (setj_ne mj), h.jn, ?_⟩
 exact (hg.below h.bel (Nat.le_refl _) h.to).setCell (p := ⟨jb, 1, none⟩) h.jn _
theorem JW.pushP {g : GV} {w0 : World} {jb mb : Nat} {tv pv pv' : Value} {T P P' : List Int} {w w' : World} (h : JW g w0 jb mb tv pv T P w) (hg : Grew w w' pv pv') (hr : RO 3 1 inC w' pv' P') :
  JW g w0 jb mb tv pv' T P' (w'.setCell ⟨jb, 2, none⟩ pv') := by
 have nj : pv.ownBlock ≠ some jb := fun e => by obtain ⟨_, _, q⟩ := h.p.ty e; rw [h.j] at q; simp at q
 have nm : pv.ownBlock ≠ some mb := fun e => by obtain ⟨_, _, q⟩ := h.p.ty e; obtain ⟨es, cl, q2⟩ := h.m.mp; rw [q2] at q; simp at q
 have ng : pv.ownBlock ≠ some w0.heap.size := fun e => by obtain ⟨_, _, q⟩ := h.p.ty e; rw [h.gb] at q; simp [gBox] at q
 obtain ⟨es, cl, hm⟩ := h.m.mp
 have j' := grew_ne hg h.j nj
 have m' := grew_ne hg hm nm
 have g' := grew_ne hg h.gb ng
 have t' : RO 3 1 inC w' tv T := h.t.kept fun j hj => hg.grown.block j (h.t.lt j hj) (fun e => h.ne j hj e.symm)
 have po' := hg.own (n := w0.heap.size) h.bel.size h.po
 have tj : tv.ownBlock ≠ some jb := fun e => by obtain ⟨_, _, q⟩ := t'.ty e; rw [j'] at q; simp at q
 have pj : pv'.ownBlock ≠ some jb := fun e => by obtain ⟨_, _, q⟩ := hr.ty e; rw [j'] at q; simp at q
 have mj : mb ≠ jb := fun e => by subst e; rw [m'] at j'; simp at j'
 have gj : w0.heap.size ≠ jb := fun e => by rw [<- e, g'] at j'; simp [gBox] at j'
 refine ⟨(setj_ne gj).trans g', (heap_set j' 2 _).trans rfl, t'.kept fun j hj => setj_ne (fun e => tj (by rw [<- e]; exact hj)), hr.kept fun j hj => setj_ne (fun e => pj (by rw [<- e]; exact hj)), h.to, po', fun i hi e => new_ne hg h.t.lt (fun i hi e => h.ne i e hi) i e hi, (h.m.kept (m'.trans hm.symm)).kept (setj_ne mj), h.jn, ?_⟩
 exact (hg.below h.bel (Nat.le_refl _) h.po).setCell (p := ⟨jb, 2, none⟩) h.jn _
def tlU (g : GV) : List Int := (List.range g.ts.length).map fun i : Nat => levU g.ls (i : Int)
def plU (g : GV) : List Int := (List.range g.ps.length).map (plvU g)
theorem tl_len (g : GV) : (tlU g).length = g.ts.length := by simp [tlU]
theorem pl_len (g : GV) : (plU g).length = g.ps.length := by simp [plU]
theorem tl_step {g : GV} {i : Nat} (hi : i < g.ts.length) : (tlU g).take (i + 1) = (tlU g).take i ++ [levU g.ls (i : Int)] := by
 rw [List.take_succ_eq_append_getElem (by rw [tl_len]; exact hi)]
 simp [tlU]
theorem pl_step {g : GV} {i : Nat} (hi : i < g.ps.length) : (plU g).take (i + 1) = (plU g).take i ++ [plvU g i] := by
 rw [List.take_succ_eq_append_getElem (by rw [pl_len]; exact hi)]
 simp [plU]
theorem tl_at {g : GV} {i : Nat} (hi : i < g.ts.length) : (tlU g).getD i 0 = levU g.ls (i : Int) := by simp [tlU, List.getD, hi]
theorem pl_at {g : GV} {i : Nat} (hi : i < g.ps.length) : (plU g).getD i 0 = plvU g i := by simp [plU, List.getD, hi]
structure JU (g : GV) (jb : Nat) (w : World) : Prop where
 ex : ∃ ta tc pa pc mb, w.heap[jb]? = some (.cells #[.slice g.la g.ls.length g.lc, .slice ta g.ts.length tc, .slice pa g.ps.length pc, .map (some mb)] 134 (0, 0)) /\ InRow w ta (tlU g) /\ InRow w pa (plU g) /\ EqM w mb
theorem JU.later {g : GV} {jb : Nat} {w w' : World} (h : JU g jb w) (hb : Below w.heap.size w w') : JU g jb w' := by
 obtain ⟨ta, tc, pa, pc, mb, h1, h2, h3, h4⟩ := h.ex
 exact ⟨ta, tc, pa, pc, mb, blk_later h1 hb, h2.later hb, h3.later hb, h4.later hb⟩
theorem JW.ju {g : GV} {w0 : World} {jb mb : Nat} {tv pv : Value} {w : World} (h : JW g w0 jb mb tv pv (tlU g) (plU g) w) : JU g jb w := by
 obtain ⟨ta, tc, e1, _⟩ := h.t.len
 obtain ⟨pa, pc, e2, _⟩ := h.p.len
 have j := h.j
 have t := h.t
 have p := h.p
 rw [e1] at j t
 rw [e2] at j p
 rw [tl_len] at j t
 rw [pl_len] at j p
 exact ⟨ta, tc, pa, pc, mb, j, t.inrow, p.inrow, h.m⟩
theorem run_call0 {f : FuncId} (eg : ∀ args w, (callFunc f args).run Try.prog w = .ok (.enter f args) w) {o : Oper} {a : Act} (hop : o.op = Op.call { callee := Callee.value (Operand.func f), args := #[], argTypes := #[] }) {w : World} : (execOp a.eval o).run Try.prog w = .ok (.enter f #[]) w := by
 have hf : a.eval (Operand.func f) = .func (.func f) #[] #[] := rfl
 simp [execOp, hop, resolve, invoke, hf, Deferred.ofValue, eg]
theorem run_call1 {f : FuncId} (eg : ∀ args w, (callFunc f args).run Try.prog w = .ok (.enter f args) w) {o : Oper} {a : Act} {t0 : TypeId} {v0 : Value} {x0 : Operand} (hop : o.op = Op.call { callee := Callee.value (Operand.func f), args := #[x0], argTypes := #[t0] }) (h0 : a.eval x0 = v0) {w : World} : (execOp a.eval o).run Try.prog w = .ok (.enter f #[v0]) w := by
 have hf : a.eval (Operand.func f) = .func (.func f) #[] #[] := rfl
 simp [execOp, hop, resolve, invoke, hf, h0, Deferred.ofValue, eg]
theorem run_call2 {f : FuncId} (eg : ∀ args w, (callFunc f args).run Try.prog w = .ok (.enter f args) w) {o : Oper} {a : Act} {t0 t1 : TypeId} {v0 v1 : Value} {x0 x1 : Operand} (hop : o.op = Op.call { callee := Callee.value (Operand.func f), args := #[x0, x1], argTypes := #[t0, t1] }) (h0 : a.eval x0 = v0) (h1 : a.eval x1 = v1) {w : World} : (execOp a.eval o).run Try.prog w = .ok (.enter f #[v0, v1]) w := by
 have hf : a.eval (Operand.func f) = .func (.func f) #[] #[] := rfl
 simp [execOp, hop, resolve, invoke, hf, h0, h1, Deferred.ofValue, eg]
def lastK (md : Region.Mode) (ops : Array Oper) (m k : Nat) : Bool := (List.range k).all fun i => Region.waitsFor md ops m i
def ClK (m k : Nat) (L : Array Bool) : Prop := L.getD m false = true -> ∀ i, i < k -> L.getD i false = true
theorem ClK.next {md : Region.Mode} {ops : Array Oper} {m k : Nat} (hl : lastK md ops m k = true) (L : Array Bool) (j : Nat) (h : ClK m k L) (hj : j ∈ Region.ready md ops L) : ClK m k (L.setIfInBounds j true) := by
 intro hm i hi
 by_cases hjm : j = m
 ·subst hjm
  obtain ⟨_, oj, hoj, hall⟩ := mem_ready.1 hj
  have h1 := List.all_eq_true.1 hl i (List.mem_range.2 hi)
  obtain ⟨o', ho', e, he, hb, hon⟩ := Region.waitsFor_spec h1
  obtain rfl : o' = oj := Option.some.inj (ho'.symm.trans hoj)
  have h2 := hall e he hb
  rw [hon] at h2
  exact getD_set_true h2
 ·rw [Go.getD_set_ne false hjm] at hm
  exact getD_set_true (h hm i hi)
theorem takeK {P : Program} {ops : Array Oper} {Q : Exit -> Act -> World -> Prop} {md : Region.Mode} (m k : Nat) {i : Nat} {oi : Oper} {v : Value} {S0 S1 : World -> Prop} {fuel : Nat} {listed : Array Bool} {a : Act} {w : World} (hi' : ops.toList[i]? = some oi)
  (hs : Region.noSelect ops = true) (hl : lastK md ops m k = true) (him : i < k) (hkm : k <= m) (hf : Region.free md ops listed i = true) (hr : (Region.ready md ops listed).contains i = true)
  (hQ : ∀ c a w, Q (.panic c) (a.put oi.dst v) w -> Q (.panic c) a w) (hc0 : listed.getD m false = false) (hy : YieldsIf P ops (fun w => S0 w /\ S1 w) oi v a) (hS : SX m S0 S1 listed w)
  (h : wpAnyX P md ops Q (SX m S0 S1) fuel (listed.setIfInBounds i true) (a.put oi.dst v) w) : wpAnyX P md ops Q (SX m S0 S1) (fuel + 1) listed a w :=
 have hi : ops[i]? = some oi := by rw [<- Array.getElem?_toList]; exact hi'
 wpAnyX_first (Cl := ClK m k) hi (Region.noSelect_spec hs) hQ (ClK.next hl)
  (fun L w hc hun hS => ⟨hS.1, hS.2 (by
   cases e : L.getD m false with
   | false => rfl
   | true => have := hc e i him; rw [getD_both hun] at this; cases this)⟩)
  (fun L w => by
   have e : (L.setIfInBounds i true).getD m false = L.getD m false := Go.getD_set_ne false (by omega)
   unfold SX
   rw [e]) fuel listed a w (Region.free_spec hi hf) (by simpa using hr) (fun e => by rw [hc0] at e; cases e) hy hS h
end Go.Proofs.Ytlkkllehaabebaa
