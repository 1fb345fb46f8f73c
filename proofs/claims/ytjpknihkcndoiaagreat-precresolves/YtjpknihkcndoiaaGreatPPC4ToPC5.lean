import Derived.Test.YtjpknihkcndoiaaGreatPPC0ToPC3
import Derived.Test.YtjpknihkcndoiaaGreatPFThreeToFChk7
import Derived.Test.YtjpknihkcndoiaaGreatPGG1ToGWB
namespace Go.Proofs.YtjpknihkcndoiaaGreat
set_option linter.unusedVariables false
set_option maxRecDepth 100000
set_option maxHeartbeats 16000000
open Go.RowKit Go.Maps
def inC (x : Int) : List Value := [.int .i64 x]
theorem rkInt : RK 3 42 1 inC := by
 refine ⟨Tryz.underlying42, ?_, by decide, fun _ => rfl, fun x u hu => ?_⟩
 ·have h : (Tryz.prog.info? 3).map (fun i => (i.zero, i.size, i.bytes)) = some (some (.int .i64 0), 1, 8) := by kernel_rfl
  cases e : Tryz.prog.info? 3 with
  | none => rw [e] at h; cases h
  | some i =>
   rw [e] at h
   simp at h
   exact ⟨i, _, rfl, h.1, h.2.1, by rw [h.2.2]; decide, rfl⟩
 ·simp only [inC, List.mem_singleton] at hu
  subst hu
  rfl
theorem RO.ty {α : Type} {τ : TypeId} {k : Nat} {f : α -> List Value} {w : World} {v : Value} {l : List α} (h : RO τ k f w v l) {b : Nat} (hb : v.ownBlock = some b) : ∃ cur fr, w.heap[b]? = some (.cells cur τ fr) := by
 rcases h.2 with ⟨rfl, _⟩ | ⟨g, cap, cur, rfl, h1, h2, h3⟩
 ·have : (none : Option Nat) = some b := hb
  cases this
 ·have : some g = some b := hb
  cases this
  exact ⟨cur, _, h2⟩
theorem RO.inrow {w : World} {a : Option Addr} {n c : Nat} {l : List Int} (h : RO 3 1 inC w (.slice a n c) l) : InRow w a l := by
 intro hn
 obtain ⟨b, c', e, _, hc⟩ := RO.cell (f := inC) (k := 1) (fun _ => rfl) h (i := 0) (List.length_pos_iff.2 hn)
 have hb : b < w.heap.size := h.lt b (by rw [e]; rfl)
 have ea : a = some ⟨b, 0, none⟩ := by simp only [Value.slice.injEq] at e; exact e.1
 refine ⟨b, 0, ea, hb, fun i hi => ?_⟩
 obtain ⟨b', c2, e', _, hc'⟩ := RO.cell (f := inC) (k := 1) (fun _ => rfl) h hi
 have eb : b' = b := by rw [e] at e'; simp only [Value.slice.injEq, Option.some.injEq, Addr.mk.injEq] at e'; exact e'.1.1.symm
 subst eb
 have := hc' 0 (by decide)
 rw [Nat.mul_one, Nat.add_zero] at this
 rw [Nat.zero_add, this]
 simp [inC, List.getD, hi]
theorem EqM.kept {w w' : World} {mb : Nat} (h : EqM w mb) (e : w'.heap[mb]? = w.heap[mb]?) : EqM w' mb := by
 obtain ⟨D, f, ⟨es, cl, h1, h2⟩, h3⟩ := h.ex
 exact ⟨D, f, ⟨es, cl, e.trans h1, h2⟩, h3⟩
theorem EqM.mp {w : World} {mb : Nat} (h : EqM w mb) : ∃ es cl, w.heap[mb]? = some (.map es cl) := by
 obtain ⟨D, f, ⟨es, cl, h1, h2⟩, h3⟩ := h.ex
 exact ⟨es, cl, h1⟩
theorem EqM.later {w w' : World} {mb : Nat} (h : EqM w mb) (hb : Below w.heap.size w w') : EqM w' mb := by
 obtain ⟨es, cl, e⟩ := h.mp
 exact h.kept (hb.block _ (lt_of_block e))
structure JW (g : GV) (w0 : World) (jb mb : Nat) (tv pv : Value) (T P : List Int) (w : World) : Prop where
 gb : w.heap[w0.heap.size]? = some (gBox g)
 j : w.heap[jb]? = some (.cells #[.slice g.la g.ls.length g.lc, tv, pv, .map (some mb)] 121 (0, 0))
 t : RO 3 1 inC w tv T
 p : RO 3 1 inC w pv P
 to : ∀ i, tv.ownBlock = some i -> w0.heap.size <= i
 po : ∀ i, pv.ownBlock = some i -> w0.heap.size <= i
 ne : ∀ i, tv.ownBlock = some i -> pv.ownBlock ≠ some i
 m : EqM w mb
 jn : w0.heap.size <= jb
 bel : Below w0.heap.size w0 w
theorem JW.later {g : GV} {w0 : World} {jb mb : Nat} {tv pv : Value} {T P : List Int} {w w' : World} (h : JW g w0 jb mb tv pv T P w) (hb : Below w.heap.size w w') : JW g w0 jb mb tv pv T P w' :=
 ⟨blk_later h.gb hb, blk_later h.j hb, h.t.later hb, h.p.later hb, h.to, h.po, h.ne, h.m.later hb, h.jn, h.bel.trans (hb.mono h.bel.size)⟩
theorem grew_ne {w w' : World} {v v' : Value} (h : Grew w w' v v') {b : Nat} {o : Obj} (ho : w.heap[b]? = some o) (hn : v.ownBlock ≠ some b) : w'.heap[b]? = some o :=
 (h.grown.block b (lt_of_block ho) (fun e => hn e.symm)).trans ho
theorem new_ne {w w' : World} {v v' u : Value} (h : Grew w w' v v') (hu : ∀ j, u.ownBlock = some j -> j < w.heap.size) (hn : ∀ i, v.ownBlock = some i -> u.ownBlock ≠ some i) : ∀ i, v'.ownBlock = some i -> u.ownBlock ≠ some i := fun i hi e => by
 rcases h.moved with q | ⟨k, q, hk⟩
 ·exact hn i (by rw [<- q]; exact hi) e
 ·rw [q] at hi
  obtain rfl : k = i := by simpa using hi
  have := hu k e
  omega
theorem setj_ne {w : World} {jb i j : Nat} {v : Value} (h : j ≠ jb) : (w.setCell ⟨jb, i, none⟩ v).heap[j]? = w.heap[j]? := Below.heap_setCell _ _ _ _ h
theorem JW.pushT {g : GV} {w0 : World} {jb mb : Nat} {tv pv tv' : Value} {T P T' : List Int} {w w' : World} (h : JW g w0 jb mb tv pv T P w) (hg : Grew w w' tv tv') (hr : RO 3 1 inC w' tv' T') :
  JW g w0 jb mb tv' pv T' P (w'.setCell ⟨jb, 1, none⟩ tv') := by
 have nj : tv.ownBlock ≠ some jb := fun e => by obtain ⟨_, _, q⟩ := h.t.ty e; rw [h.j] at q; simp at q
 have nm : tv.ownBlock ≠ some mb := fun e => by obtain ⟨_, _, q⟩ := h.t.ty e; obtain ⟨es, cl, q2⟩ := h.m.mp; rw [q2] at q; simp at q
 have ng : tv.ownBlock ≠ some w0.heap.size := fun e => by obtain ⟨_, _, q⟩ := h.t.ty e; rw [h.gb] at q; simp [gBox] at q
 obtain ⟨es, cl, hm⟩ := h.m.mp
 have j' := grew_ne hg h.j nj
 have m' := grew_ne hg hm nm
 have g' := grew_ne hg h.gb ng
 have p' : RO 3 1 inC w' pv P := h.p.kept fun j hj => hg.grown.block j (h.p.lt j hj) (fun e => h.ne j e.symm hj)
 have to' := hg.own (n := w0.heap.size) h.bel.size h.to
 have tj : tv'.ownBlock ≠ some jb := fun e => by obtain ⟨_, _, q⟩ := hr.ty e; rw [j'] at q; simp at q
 have pj : pv.ownBlock ≠ some jb := fun e => by obtain ⟨_, _, q⟩ := p'.ty e; rw [j'] at q; simp at q
 have mj : mb ≠ jb := fun e => by subst e; rw [m'] at j'; simp at j'
 have gj : w0.heap.size ≠ jb := fun e => by rw [<- e, g'] at j'; simp [gBox] at j'
 refine ⟨(setj_ne gj).trans g', (heap_set j' 1 _).trans rfl, hr.kept fun j hj => setj_ne (fun e => tj (by rw [<- e]; exact hj)), p'.kept fun j hj => setj_ne (fun e => pj (by rw [<- e]; exact hj)), to', h.po, new_ne hg h.p.lt h.ne, (h.m.kept (m'.trans hm.symm)).kept (setj_ne mj), h.jn, ?_⟩
 exact (hg.below h.bel (Nat.le_refl _) h.to).setCell (p := ⟨jb, 1, none⟩) h.jn _
theorem JW.pushP {g : GV} {w0 : World} {jb mb : Nat} {tv pv pv' : Value} {T P P' : List Int} {w w' : World} (h : JW g w0 jb mb tv pv T P w) (hg : Grew w w' pv pv') (hr : RO 3 1 inC w' pv' P') :
  JW g w0 jb mb tv pv' T P' (w'.setCell ⟨jb, 2, none⟩ pv') := by
 have nj : pv.ownBlock ≠ some jb := fun e => by obtain ⟨_, _, q⟩ := h.p.ty e; rw [h.j] at q; simp at q
 have nm : pv.ownBlock ≠ some mb := fun e => by obtain ⟨_, _, q⟩ := h.p.ty e; obtain ⟨es, cl, q2⟩ := h.m.mp; rw [q2] at q; simp at q
 have ng : pv.ownBlock ≠ some w0.heap.size := fun e => by obtain ⟨_, _, q⟩ := h.p.ty e; rw [h.gb] at q; simp [gBox] at q
 obtain ⟨es, cl, hm⟩ := h.m.mp
 have j' := grew_ne hg h.j nj
 have m' := grew_ne hg hm nm
 have g' := grew_ne hg h.gb ng
 have t' : RO 3 1 inC w' tv T := h.t.kept fun j hj => hg.grown.block j (h.t.lt j hj) (fun e => h.ne j hj e.symm)
 have po' := hg.own (n := w0.heap.size) h.bel.size h.po
 have tj : tv.ownBlock ≠ some jb := fun e => by obtain ⟨_, _, q⟩ := t'.ty e; rw [j'] at q; simp at q
 have pj : pv'.ownBlock ≠ some jb := fun e => by obtain ⟨_, _, q⟩ := hr.ty e; rw [j'] at q; simp at q
 have mj : mb ≠ jb := fun e => by subst e; rw [m'] at j'; simp at j'
 have gj : w0.heap.size ≠ jb := fun e => by rw [<- e, g'] at j'; simp [gBox] at j'
 refine ⟨(setj_ne gj).trans g', (heap_set j' 2 _).trans rfl, t'.kept fun j hj => setj_ne (fun e => tj (by rw [<- e]; exact hj)), hr.kept fun j hj => setj_ne (fun e => pj (by rw [<- e]; exact hj)), h.to, po', fun i hi e => new_ne hg h.t.lt (fun i hi e => h.ne i e hi) i e hi, (h.m.kept (m'.trans hm.symm)).kept (setj_ne mj), h.jn, ?_⟩
 exact (hg.below h.bel (Nat.le_refl _) h.po).setCell (p := ⟨jb, 2, none⟩) h.jn _
def tlU (g : GV) : List Int := (List.range g.ts.length).map fun i : Nat => levU g.ls (i : Int)
def plU (g : GV) : List Int := (List.range g.ps.length).map (plvU g)
theorem tl_len (g : GV) : (tlU g).length = g.ts.length := by simp [tlU]
theorem pl_len (g : GV) : (plU g).length = g.ps.length := by simp [plU]
theorem tl_step {g : GV} {i : Nat} (hi : i < g.ts.length) : (tlU g).take (i + 1) = (tlU g).take i ++ [levU g.ls (i : Int)] := by
 rw [List.take_succ_eq_append_getElem (by rw [tl_len]; exact hi)]
 simp [tlU]
theorem pl_step {g : GV} {i : Nat} (hi : i < g.ps.length) : (plU g).take (i + 1) = (plU g).take i ++ [plvU g i] := by
 rw [List.take_succ_eq_append_getElem (by rw [pl_len]; exact hi)]
 simp [plU]
theorem tl_at {g : GV} {i : Nat} (hi : i < g.ts.length) : (tlU g).getD i 0 = levU g.ls (i : Int) := by simp [tlU, List.getD, hi]
theorem pl_at {g : GV} {i : Nat} (hi : i < g.ps.length) : (plU g).getD i 0 = plvU g i := by simp [plU, List.getD, hi]
structure JU (g : GV) (jb : Nat) (w : World) : Prop where
 ex : ∃ ta tc pa pc mb, w.heap[jb]? = some (.cells #[.slice g.la g.ls.length g.lc, .slice ta g.ts.length tc, .slice pa g.ps.length pc, .map (some mb)] 121 (0, 0)) /\ InRow w ta (tlU g) /\ InRow w pa (plU g) /\ EqM w mb
theorem JU.later {g : GV} {jb : Nat} {w w' : World} (h : JU g jb w) (hb : Below w.heap.size w w') : JU g jb w' := by
 obtain ⟨ta, tc, pa, pc, mb, h1, h2, h3, h4⟩ := h.ex
 exact ⟨ta, tc, pa, pc, mb, blk_later h1 hb, h2.later hb, h3.later hb, h4.later hb⟩
theorem JW.ju {g : GV} {w0 : World} {jb mb : Nat} {tv pv : Value} {w : World} (h : JW g w0 jb mb tv pv (tlU g) (plU g) w) : JU g jb w := by
 obtain ⟨ta, tc, e1, _⟩ := h.t.len
 obtain ⟨pa, pc, e2, _⟩ := h.p.len
 have j := h.j
 have t := h.t
 have p := h.p
 rw [e1] at j t
 rw [e2] at j p
 rw [tl_len] at j t
 rw [pl_len] at j p
 exact ⟨ta, tc, pa, pc, mb, j, t.inrow, p.inrow, h.m⟩
theorem run_call0 {f : FuncId} (eg : ∀ args w, (callFunc f args).run Tryz.prog w = .ok (.enter f args) w) {o : Oper} {a : Act} (hop : o.op = Op.call { callee := Callee.value (Operand.func f), args := #[], argTypes := #[] }) {w : World} : (execOp a.eval o).run Tryz.prog w = .ok (.enter f #[]) w := by
 have hf : a.eval (Operand.func f) = .func (.func f) #[] #[] := rfl
 simp [execOp, hop, resolve, invoke, hf, Deferred.ofValue, eg]
theorem run_call1 {f : FuncId} (eg : ∀ args w, (callFunc f args).run Tryz.prog w = .ok (.enter f args) w) {o : Oper} {a : Act} {t0 : TypeId} {v0 : Value} {x0 : Operand} (hop : o.op = Op.call { callee := Callee.value (Operand.func f), args := #[x0], argTypes := #[t0] }) (h0 : a.eval x0 = v0) {w : World} : (execOp a.eval o).run Tryz.prog w = .ok (.enter f #[v0]) w := by
 have hf : a.eval (Operand.func f) = .func (.func f) #[] #[] := rfl
 simp [execOp, hop, resolve, invoke, hf, h0, Deferred.ofValue, eg]
theorem run_call2 {f : FuncId} (eg : ∀ args w, (callFunc f args).run Tryz.prog w = .ok (.enter f args) w) {o : Oper} {a : Act} {t0 t1 : TypeId} {v0 v1 : Value} {x0 x1 : Operand} (hop : o.op = Op.call { callee := Callee.value (Operand.func f), args := #[x0, x1], argTypes := #[t0, t1] }) (h0 : a.eval x0 = v0) (h1 : a.eval x1 = v1) {w : World} : (execOp a.eval o).run Tryz.prog w = .ok (.enter f #[v0, v1]) w := by
 have hf : a.eval (Operand.func f) = .func (.func f) #[] #[] := rfl
 simp [execOp, hop, resolve, invoke, hf, h0, h1, Deferred.ofValue, eg]
def lastK (md : Region.Mode) (ops : Array Oper) (m k : Nat) : Bool := (List.range k).all fun i => Region.waitsFor md ops m i
def ClK (m k : Nat) (L : Array Bool) : Prop := L.getD m false = true -> ∀ i, i < k -> L.getD i false = true
theorem ClK.next {md : Region.Mode} {ops : Array Oper} {m k : Nat} (hl : lastK md ops m k = true) (L : Array Bool) (j : Nat) (h : ClK m k L) (hj : j ∈ Region.ready md ops L) : ClK m k (L.setIfInBounds j true) := by
 intro hm i hi
 by_cases hjm : j = m
 ·subst hjm
  obtain ⟨_, oj, hoj, hall⟩ := mem_ready.1 hj
  have h1 := List.all_eq_true.1 hl i (List.mem_range.2 hi)
  obtain ⟨o', ho', e, he, hb, hon⟩ := Region.waitsFor_spec h1
  obtain rfl : o' = oj := Option.some.inj (ho'.symm.trans hoj)
  have h2 := hall e he hb
  rw [hon] at h2
  exact getD_set_true h2
 ·rw [Go.getD_set_ne false hjm] at hm
  exact getD_set_true (h hm i hi)
theorem takeK {P : Program} {ops : Array Oper} {Q : Exit -> Act -> World -> Prop} {md : Region.Mode} (m k : Nat) {i : Nat} {oi : Oper} {v : Value} {S0 S1 : World -> Prop} {fuel : Nat} {listed : Array Bool} {a : Act} {w : World} (hi' : ops.toList[i]? = some oi)
  (hs : Region.noSelect ops = true) (hl : lastK md ops m k = true) (him : i < k) (hkm : k <= m) (hf : Region.free md ops listed i = true) (hr : (Region.ready md ops listed).contains i = true)
  (hQ : ∀ c a w, Q (.panic c) (a.put oi.dst v) w -> Q (.panic c) a w) (hc0 : listed.getD m false = false) (hy : YieldsIf P ops (fun w => S0 w /\ S1 w) oi v a) (hS : SX m S0 S1 listed w)
  (h : wpAnyX P md ops Q (SX m S0 S1) fuel (listed.setIfInBounds i true) (a.put oi.dst v) w) : wpAnyX P md ops Q (SX m S0 S1) (fuel + 1) listed a w :=
 have hi : ops[i]? = some oi := by rw [<- Array.getElem?_toList]; exact hi'
 wpAnyX_first (Cl := ClK m k) hi (Region.noSelect_spec hs) hQ (ClK.next hl)
  (fun L w hc hun hS => ⟨hS.1, hS.2 (by
   cases e : L.getD m false with
   | false => rfl
   | true => have := hc e i him; rw [getD_both hun] at this; cases this)⟩)
  (fun L w => by
   have e : (L.setIfInBounds i true).getD m false = L.getD m false := Go.getD_set_ne false (by omega)
   unfold SX
   rw [e]) fuel listed a w (Region.free_spec hi hf) (by simpa using hr) (fun e => by rw [hc0] at e; cases e) hy hS h
end Go.Proofs.YtjpknihkcndoiaaGreat
namespace Go.Proofs.YtjpknihkcndoiaaGreat
set_option linter.unusedVariables false
set_option maxRecDepth 100000
set_option maxHeartbeats 16000000
open Go.RowKit Go.Maps
theorem okc_sym {g : GV} (h : OkC g) (i : Nat) (hi : i < g.ps.length) : ∀ s ∈ (g.ps.getD i .none).right, SymIn g.ns.length s := fun s hs => by
 have h0 := h.ps i hi
 have e : ((g.ps.getD i .none).right.any fun s => !inG g s.1 s.2) = false := by
  cases q : ((g.ps.getD i .none).right.any fun s => !inG g s.1 s.2) with
  | false => rfl
  | true =>
   exfalso
   unfold prodU at h0
   rw [q] at h0
   split at h0
   ·exact absurd h0 (by decide)
   ·split at h0
    ·exact absurd h0 (by decide)
    ·simp at h0
 rw [List.any_eq_false] at e
 have := e s hs
 have ht := h.tl.2
 unfold inG inT inN at this
 unfold SymIn
 by_cases h1 : s.1 = 1
 ·simp [h1] at this
  exact .inl ⟨h1, by omega, by omega⟩
 ·by_cases h2 : s.1 = 2
  ·simp [h2] at this
   exact .inr ⟨h2, by omega, by omega⟩
  ·simp [h1, h2] at this
theorem one_int (w : World) (x : Int) : ∀ (j : Nat) (u : Value), (inC x)[j]? = some u -> (w.alloc (.cells #[.int .i64 x] 3)).cell? ⟨w.heap.size, j, none⟩ = some u := fun j u hu => by
 rw [cellq_any (heap_alloc_new _ _)]
 match j with
 | 0 => simpa [inC] using hu
 | j + 1 => simp [inC] at hu
theorem JW.holdT {g : GV} {w0 : World} {jb mb : Nat} {tv pv tv' : Value} {T P : List Int} {w w' : World} (h : JW g w0 jb mb tv pv T P w) (hg : Grew w w' tv tv') : w'.heap[w0.heap.size]? = some (gBox g) /\ w'.heap[jb]? = some (.cells #[.slice g.la g.ls.length g.lc, tv, pv, .map (some mb)] 121 (0, 0)) :=
 ⟨grew_ne hg h.gb fun e => by obtain ⟨_, _, q⟩ := h.t.ty e; rw [h.gb] at q; simp [gBox] at q, grew_ne hg h.j fun e => by obtain ⟨_, _, q⟩ := h.t.ty e; rw [h.j] at q; simp at q⟩
theorem JW.holdP {g : GV} {w0 : World} {jb mb : Nat} {tv pv pv' : Value} {T P : List Int} {w w' : World} (h : JW g w0 jb mb tv pv T P w) (hg : Grew w w' pv pv') : w'.heap[w0.heap.size]? = some (gBox g) /\ w'.heap[jb]? = some (.cells #[.slice g.la g.ls.length g.lc, tv, pv, .map (some mb)] 121 (0, 0)) :=
 ⟨grew_ne hg h.gb fun e => by obtain ⟨_, _, q⟩ := h.p.ty e; rw [h.gb] at q; simp [gBox] at q, grew_ne hg h.j fun e => by obtain ⟨_, _, q⟩ := h.p.ty e; rw [h.j] at q; simp at q⟩
set_option linter.unusedSimpArgs false in
theorem judgeOf_P (g : GV) (w : World) (h : GAt 140737488355328 w g) (ok : OkC g) :
  Calls Tryz.prog 21 #[g.val] w fun e w' => ∃ jb, e = .returned (.pointer (some ⟨jb, 0, none⟩)) /\ JU g jb w' /\ w.heap.size <= jb /\ Below w.heap.size w w' := by
 have X0 : Hid ((w.alloc (gBox g)).heap[w.heap.size]? = some (gBox g)) := heap_alloc_new _ _
 have GS : Hid (∀ w', Below (w.alloc (gBox g)).heap.size (w.alloc (gBox g)) w' -> (fun w' : World => w'.cell? ⟨w.heap.size, 4, none⟩ = some (.slice g.la g.ls.length g.lc)) w') := fun w' hb => (gb_cells (blk_later X0.out hb)).2.2.2.2
 have hs : Hid ((fun w' : World => w'.cell? ⟨w.heap.size, 4, none⟩ = some (.slice g.la g.ls.length g.lc)) (w.alloc (gBox g)).drew) := GS.out _ (Below.refl _ _).drew
 have HG : Hid (∀ w', Below w.heap.size w w' -> GAt 140737488355328 w' g) := fun w' hb => h.later hb
 have OK : Hid (OkC g) := ok
 have hn : Hid (Below w.heap.size w (w.alloc (gBox g))) := below_alloc _ _
 clear h ok
 go_enter Tryz.func21, Tryz.ntmps21
 go_wp2
 refine wp_region_x (S := fun _ => (fun w' : World => w'.cell? ⟨w.heap.size, 4, none⟩ = some (.slice g.la g.ls.length g.lc))) (by kernel_rfl) ?_
 refine takeF (i := 0) (v := ?_) rfl (by kernel_rfl) (by decide +kernel) (by decide +kernel) (fun _ _ _ h => h) (Or.inl ⟨by rfl, ?_⟩) hs.out ?_
 rotate_left
 ·(intro w hSw; (try dsimp only at hSw); go_simp; try (with_reducible rfl))
 (try simp only [Act.put, lsA, lsZ, lsN])
 refine takeF (i := 1) (v := ?_) rfl (by kernel_rfl) (by decide +kernel) (by decide +kernel) (fun _ _ _ h => h) (Or.inl ⟨by rfl, ?_⟩) hs.out ?_
 rotate_left
 ·(intro w hSw; (try dsimp only at hSw); go_simp; try (with_reducible rfl))
 (try simp only [Act.put, lsA, lsZ, lsN])
 refine wpAnyX_one (j := 2) (by decide +kernel) rfl (fun K' hK => ?_)
 refine step_callX (by rfl) 54 #[] _ (run_call0 (enters_of Tryz.func54 (by kernel_rfl) rfl) rfl) (equals_P _) ?_
 rintro e w1 ⟨rfl, m1', b1'⟩
 have M1 : Hid (EqM w1 ((w.alloc (gBox g)).drew).heap.size /\ Below (w.alloc (gBox g)).heap.size (w.alloc (gBox g)) w1) := ⟨m1', (Below.refl _ _).drew.trans b1'⟩
 clear m1' b1'
 refine ⟨_, rfl, hK.out _ _ (GS.out _ M1.out.2) ?_⟩
 clear hK K'
 (try simp only [Act.put, lsA, lsZ, lsN])
 refine wpAnyX_one (j := 3) (by decide +kernel) rfl (fun K' hK => ?_)
 go_simp
 refine hK.out _ _ (GS.out _ M1.out.2) ?_
 clear hK K'
 (try simp only [Act.put, lsA, lsZ, lsN])
 refine wpAnyX_one (j := 4) (by decide +kernel) rfl (fun K' hK => ?_)
 go_simp
 refine hK.out _ _ (GS.out _ (M1.out.2.trans ((below_alloc _ _).mono M1.out.2.size))) ?_
 clear hK K'
 (try simp only [Act.put, lsA, lsZ, lsN])
 refine wpAnyX_one (j := 5) (by decide +kernel) rfl (fun K' hK => ?_)
 go_simp
 refine hK.out _ _ (GS.out _ (M1.out.2.trans ((below_alloc _ _).mono M1.out.2.size))) ?_
 clear hK K'
 (try simp only [Act.put, lsA, lsZ, lsN])
 refine wpAnyX_done (by decide +kernel) ?_
 have J0 : Hid (JW g w w1.heap.size (w.heap.size + 1) (.slice none 0 0) (.slice none 0 0) [] [] (w1.alloc (.cells #[.slice g.la g.ls.length g.lc, .slice none 0 0, .slice none 0 0, .map (some (w.heap.size + 1))] 121))) := by
  have bm := M1.out.2
  have hm := M1.out.1
  rw [show ((w.alloc (gBox g)).drew).heap.size = w.heap.size + 1 by simp] at hm
  have bw : Below w.heap.size w w1 := hn.out.trans (bm.mono hn.out.size)
  refine ⟨blk_later (blk_later X0.out bm) (below_alloc _ _), heap_alloc_new _ _, RO.nil _, RO.nil _, fun i e => ?_, fun i e => ?_, fun i e => ?_, hm.later (below_alloc _ _), bw.size, bw.trans ((below_alloc _ _).mono bw.size)⟩
  ·have : (none : Option Nat) = some i := e
   cases this
  ·have : (none : Option Nat) = some i := e
   cases this
  ·have : (none : Option Nat) = some i := e
   cases this
 clear GS hs M1 X0 hn
 generalize w1.alloc (.cells #[.slice g.la g.ls.length g.lc, .slice none 0 0, .slice none 0 0, .map (some (w.heap.size + 1))] 121) = W1 at *
 generalize w1.heap.size = jb at *
 obtain ⟨x0, x1, x2, x3, x4⟩ := gb_cells J0.out.gb
 go_wp2
 go_loopw [15] (fun z wr => ∃ (i : Nat) (tv : Value), i <= g.ts.length /\ z = .int .i64 i /\ JW g w jb (w.heap.size + 1) tv (.slice none 0 0) ((tlU g).take i) [] wr) (fun z _ => g.ts.length - (intOf z).toNat)
 case atStart => exact ⟨0, _, Nat.zero_le _, rfl, by rw [List.take_zero]; exact J0.out⟩
 case round =>
  clear x0 x1 x2 x3 x4 J0
  obtain ⟨i, tv, hi, rfl, hJ⟩ := hrel
  by_cases hlt : i < g.ts.length
  ·have htl := OK.out.tl.2
   have klt : (i : Int) < (g.ts.length : Int) := by omega
   obtain ⟨ta, tc, rfl, hct⟩ := hJ.t.len
   rw [show ((tlU g).take i).length = i by rw [List.length_take, tl_len]; omega] at hJ hct
   have HJ : Hid (JW g w jb (w.heap.size + 1) (.slice ta i tc) (.slice none 0 0) ((tlU g).take i) [] wr) := hJ
   have HS : Hid (∀ w', w'.heap[w.heap.size]? = some (gBox g) -> w'.heap[jb]? = some (.cells #[.slice g.la g.ls.length g.lc, .slice ta i tc, .slice none 0 0, .map (some (w.heap.size + 1))] 121 (0, 0)) -> (fun w' : World => w'.cell? ⟨w.heap.size, 0, none⟩ = some (.slice g.ta g.ts.length g.tc) /\ w'.cell? ⟨w.heap.size, 1, none⟩ = some (.slice g.na g.ns.length g.nc) /\ w'.cell? ⟨w.heap.size, 2, none⟩ = some (.int .i64 g.start) /\ w'.cell? ⟨w.heap.size, 3, none⟩ = some (.slice g.pa g.ps.length g.pc) /\ w'.cell? ⟨w.heap.size, 4, none⟩ = some (.slice g.la g.ls.length g.lc)) w' /\ (fun w' : World => w'.cell? ⟨jb, 1, none⟩ = some (.slice ta i tc)) w') := fun w' h1 h2 => by
    obtain ⟨y0, y1, y2, y3, y4⟩ := gb_cells h1
    exact ⟨⟨y0, y1, y2, y3, y4⟩, (cellq_any h2).trans rfl⟩
   have hs : Hid ((fun w' : World => w'.cell? ⟨w.heap.size, 0, none⟩ = some (.slice g.ta g.ts.length g.tc) /\ w'.cell? ⟨w.heap.size, 1, none⟩ = some (.slice g.na g.ns.length g.nc) /\ w'.cell? ⟨w.heap.size, 2, none⟩ = some (.int .i64 g.start) /\ w'.cell? ⟨w.heap.size, 3, none⟩ = some (.slice g.pa g.ps.length g.pc) /\ w'.cell? ⟨w.heap.size, 4, none⟩ = some (.slice g.la g.ls.length g.lc)) wr.drew /\ (fun w' : World => w'.cell? ⟨jb, 1, none⟩ = some (.slice ta i tc)) wr.drew) := HS.out _ (HJ.out.later (Below.refl _ _).drew).gb (HJ.out.later (Below.refl _ _).drew).j
   have HL : Hid (((tlU g).take i).length <= 1000000000) := by show _ <= _; rw [List.length_take]; have := OK.out.tl.2; omega
   have ES : Hid ((tlU g).take (i + 1) = (tlU g).take i ++ [levU g.ls (i : Int)]) := tl_step hlt
   clear hJ hct
   go_wp2
   refine wp_region_x (S := SX 12 (fun w' : World => w'.cell? ⟨w.heap.size, 0, none⟩ = some (.slice g.ta g.ts.length g.tc) /\ w'.cell? ⟨w.heap.size, 1, none⟩ = some (.slice g.na g.ns.length g.nc) /\ w'.cell? ⟨w.heap.size, 2, none⟩ = some (.int .i64 g.start) /\ w'.cell? ⟨w.heap.size, 3, none⟩ = some (.slice g.pa g.ps.length g.pc) /\ w'.cell? ⟨w.heap.size, 4, none⟩ = some (.slice g.la g.ls.length g.lc)) (fun w' : World => w'.cell? ⟨jb, 1, none⟩ = some (.slice ta i tc))) (by kernel_rfl) ?_
   refine takeK 12 7 (i := 0) (v := ?_) rfl (by kernel_rfl) (by kernel_rfl) (by decide) (by decide) (by decide +kernel) (by decide +kernel) (fun _ _ _ h => h) (by kernel_rfl) (Or.inl ⟨by rfl, ?_⟩) (SX.both hs.out.1 hs.out.2) ?_
   rotate_left
   ·(intro w hSw; (try dsimp only at hSw); go_simp; try (with_reducible rfl))
   (try simp only [Act.put, lsA, lsZ, lsN])
   refine takeK 12 7 (i := 1) (v := ?_) rfl (by kernel_rfl) (by kernel_rfl) (by decide) (by decide) (by decide +kernel) (by decide +kernel) (fun _ _ _ h => h) (by kernel_rfl) (Or.inl ⟨by rfl, ?_⟩) (SX.both hs.out.1 hs.out.2) ?_
   rotate_left
   ·(intro w hSw; (try dsimp only at hSw); go_simp; try (with_reducible rfl))
   (try simp only [Act.put, lsA, lsZ, lsN])
   refine takeK 12 7 (i := 2) (v := ?_) rfl (by kernel_rfl) (by kernel_rfl) (by decide) (by decide) (by decide +kernel) (by decide +kernel) (fun _ _ _ h => h) (by kernel_rfl) (Or.inl ⟨by rfl, ?_⟩) (SX.both hs.out.1 hs.out.2) ?_
   rotate_left
   ·(intro w hSw; (try dsimp only at hSw); go_simp; try (with_reducible rfl))
   (try simp only [Act.put, lsA, lsZ, lsN])
   refine takeK 12 7 (i := 3) (v := ?_) rfl (by kernel_rfl) (by kernel_rfl) (by decide) (by decide) (by decide +kernel) (by decide +kernel) (fun _ _ _ h => h) (by kernel_rfl) (Or.inl ⟨by rfl, ?_⟩) (SX.both hs.out.1 hs.out.2) ?_
   rotate_left
   ·(intro w hSw; (try dsimp only at hSw); go_simp; try (with_reducible rfl))
   (try simp only [Act.put, lsA, lsZ, lsN])
   refine takeK 12 7 (i := 4) (v := ?_) rfl (by kernel_rfl) (by kernel_rfl) (by decide) (by decide) (by decide +kernel) (by decide +kernel) (fun _ _ _ h => h) (by kernel_rfl) (Or.inl ⟨by rfl, ?_⟩) (SX.both hs.out.1 hs.out.2) ?_
   rotate_left
   ·(intro w hSw; (try dsimp only at hSw); go_simp; try (with_reducible rfl))
   (try simp only [Act.put, lsA, lsZ, lsN])
   refine takeK 12 7 (i := 5) (v := ?_) rfl (by kernel_rfl) (by kernel_rfl) (by decide) (by decide) (by decide +kernel) (by decide +kernel) (fun _ _ _ h => h) (by kernel_rfl) (Or.inl ⟨by rfl, ?_⟩) (SX.both hs.out.1 hs.out.2) ?_
   rotate_left
   ·(intro w hSw; (try dsimp only at hSw); go_simp; try (with_reducible rfl))
   (try simp only [Act.put, lsA, lsZ, lsN])
   refine takeK 12 7 (i := 6) (v := ?_) rfl (by kernel_rfl) (by kernel_rfl) (by decide) (by decide) (by decide +kernel) (by decide +kernel) (fun _ _ _ h => h) (by kernel_rfl) (Or.inl ⟨by rfl, ?_⟩) (SX.both hs.out.1 hs.out.2) ?_
   rotate_left
   ·(intro w hSw; (try dsimp only at hSw); go_simp; try (with_reducible rfl))
   (try simp only [Act.put, lsA, lsZ, lsN])
   refine wpAnyX_one (j := 7) (by decide +kernel) rfl (fun K' hK => ?_)
   refine step_callX (by rfl) 55 #[g.val, .int .i64 (i : Int)] _ (by apply run_call2 (enters_of Tryz.func55 (by kernel_rfl) rfl) <;> rfl) (levelOf_P g (i : Int) _ (HG.out _ (HJ.out.later (Below.refl _ _).drew).bel)) ?_
   rintro e w2 ⟨rfl, b2⟩
   have J2 : Hid (JW g w jb (w.heap.size + 1) (.slice ta i tc) (.slice none 0 0) ((tlU g).take i) [] w2) := (HJ.out.later (Below.refl _ _).drew).later b2
   clear b2
   refine ⟨_, rfl, hK.out _ _ (SX.both (HS.out _ J2.out.gb J2.out.j).1 (HS.out _ J2.out.gb J2.out.j).2) ?_⟩
   clear hK K'
   (try simp only [Act.put, lsA, lsZ, lsN])
   refine wpAnyX_one (j := 8) (by decide +kernel) rfl (fun K' hK => ?_)
   go_simp
   have J3 : Hid (JW g w jb (w.heap.size + 1) (.slice ta i tc) (.slice none 0 0) ((tlU g).take i) [] (w2.alloc (.cells #[.int .i64 (levU g.ls (i : Int))] 3))) := J2.out.later (below_alloc _ _)
   refine hK.out _ _ (SX.both (HS.out _ J3.out.gb J3.out.j).1 (HS.out _ J3.out.gb J3.out.j).2) ?_
   clear hK K'
   (try simp only [Act.put, lsA, lsZ, lsN])
   refine wpAnyX_one (j := 9) (by decide +kernel) rfl (fun K' hK => ?_)
   refine step_ro_append rkInt (by rfl) _ _ (by rfl) (.slice ta i tc) ((tlU g).take i) (by rfl) J3.out.t w2.heap.size 1 (levU g.ls (i : Int)) (by rfl) (one_int _ _) HL.out ?_
   intro a5 n5 c5 w5 ho5 hg5
   have J5 : Hid (JW g w jb (w.heap.size + 1) (.slice a5 n5 c5) (.slice none 0 0) ((tlU g).take (i + 1)) [] (w5.setCell ⟨jb, 1, none⟩ (.slice a5 n5 c5))) := by have := J3.out.pushT hg5 ho5; rw [ES.out]; exact this
   have K5 := J3.out.holdT hg5
   have S5 : Hid ((fun w' : World => w'.cell? ⟨w.heap.size, 0, none⟩ = some (.slice g.ta g.ts.length g.tc) /\ w'.cell? ⟨w.heap.size, 1, none⟩ = some (.slice g.na g.ns.length g.nc) /\ w'.cell? ⟨w.heap.size, 2, none⟩ = some (.int .i64 g.start) /\ w'.cell? ⟨w.heap.size, 3, none⟩ = some (.slice g.pa g.ps.length g.pc) /\ w'.cell? ⟨w.heap.size, 4, none⟩ = some (.slice g.la g.ls.length g.lc)) w5 /\ (fun w' : World => w'.cell? ⟨jb, 1, none⟩ = some (.slice ta i tc)) w5) := HS.out _ K5.1 K5.2
   have z1 : w5.cell? ⟨jb, 1, none⟩ = some (.slice ta i tc) := S5.out.2
   have g1 := frostS K5.2 1
   have hz1 := lt_of_block K5.2
   clear ho5 hg5 K5 J2 J3
   refine hK.out _ _ (SX.both S5.out.1 S5.out.2) ?_
   clear hK K'
   (try simp only [Act.put, lsA, lsZ, lsN])
   refine wpAnyX_one (j := 10) (by decide +kernel) rfl (fun K' hK => ?_)
   go_simp
   refine hK.out _ _ (SX.both S5.out.1 S5.out.2) ?_
   clear hK K'
   (try simp only [Act.put, lsA, lsZ, lsN])
   refine wpAnyX_one (j := 11) (by decide +kernel) rfl (fun K' hK => ?_)
   go_simp
   refine hK.out _ _ (SX.both S5.out.1 S5.out.2) ?_
   clear hK K'
   (try simp only [Act.put, lsA, lsZ, lsN])
   refine wpAnyX_one (j := 12) (by decide +kernel) rfl (fun K' hK => ?_)
   go_simp
   have G5 : Hid ((fun w' : World => w'.cell? ⟨w.heap.size, 0, none⟩ = some (.slice g.ta g.ts.length g.tc) /\ w'.cell? ⟨w.heap.size, 1, none⟩ = some (.slice g.na g.ns.length g.nc) /\ w'.cell? ⟨w.heap.size, 2, none⟩ = some (.int .i64 g.start) /\ w'.cell? ⟨w.heap.size, 3, none⟩ = some (.slice g.pa g.ps.length g.pc) /\ w'.cell? ⟨w.heap.size, 4, none⟩ = some (.slice g.la g.ls.length g.lc)) (w5.setCell ⟨jb, 1, none⟩ (.slice a5 n5 c5))) := by
    obtain ⟨y0, y1, y2, y3, y4⟩ := gb_cells J5.out.gb
    exact ⟨y0, y1, y2, y3, y4⟩
   refine hK.out _ _ (SX.one G5.out (by kernel_rfl)) ?_
   clear hK K'
   (try simp only [Act.put, lsA, lsZ, lsN])
   refine wpAnyX_done (by decide +kernel) ?_
   clear hs HS z1 g1 hz1
   go_wp2
   go_roundw
   case rel => exact ⟨i + 1, _, by omega, by go_num, J5.out⟩
   case measure => simp [intOf]; omega
  ·obtain rfl : i = g.ts.length := by omega
   have klt : ¬ (g.ts.length : Int) < (g.ts.length : Int) := by omega
   rw [show (tlU g).take g.ts.length = tlU g by rw [<- tl_len, List.take_length]] at hJ
   have HJ0 : Hid (JW g w jb (w.heap.size + 1) tv (.slice none 0 0) (tlU g) [] wr) := hJ
   obtain ⟨x0, x1, x2, x3, x4⟩ := gb_cells hJ.gb
   clear hJ hi
   go_wp2
   go_loopw [34] (fun z wr => ∃ (i : Nat) (pv : Value), i <= g.ps.length /\ z = .int .i64 i /\ JW g w jb (w.heap.size + 1) tv pv (tlU g) ((plU g).take i) wr) (fun z _ => g.ps.length - (intOf z).toNat)
   case atStart => exact ⟨0, _, Nat.zero_le _, rfl, by rw [List.take_zero]; exact HJ0.out⟩
   case round =>
    clear x0 x1 x2 x3 x4 HJ0 klt
    obtain ⟨i, pv, hi, rfl, hJ⟩ := hrel
    by_cases hlt : i < g.ps.length
    ·have hpl := OK.out.pl.2
     have klt : (i : Int) < (g.ps.length : Int) := by omega
     obtain ⟨pa, pc, rfl, hct⟩ := hJ.p.len
     rw [show ((plU g).take i).length = i by rw [List.length_take, pl_len]; omega] at hJ hct
     have hG := HG.out _ hJ.bel
     obtain ⟨b, o, hpa, hbl, hc⟩ := hG.p.cells (by intro e; rw [e] at hlt; simp at hlt)
     obtain ⟨c0, c1, c2⟩ := hc i hlt
     have hmem : g.ps.getD i .none ∈ g.ps := mem_getD hlt
     have hrow := hG.p.rows _ hmem
     have hrl := hG.rl _ hmem
     have hsy : ∀ s ∈ (g.ps.getD i .none).right, SymIn g.ns.length s := okc_sym OK.out i hlt
     have ES : Hid ((plU g).take (i + 1) = (plU g).take i ++ [plvU g i]) := pl_step hlt
     have EV : Hid (plvU g i = levU g.ls (ownU (g.ps.getD i .none))) := rfl
     have HT : Hid (∀ w', Below wr.heap.size wr w' -> Calls Tryz.prog 56 #[.agg #[.int .i64 (g.ps.getD i .none).left, .slice (g.ps.getD i .none).ra (g.ps.getD i .none).right.length (g.ps.getD i .none).rc, .int .i64 (g.ps.getD i .none).prec]] w' fun e w'' => e = .returned (.int .i64 (ownU (g.ps.getD i .none))) /\ Below w'.heap.size w' w'') := fun w' hb => terminalOf_P _ g.ns.length w' (hrow.later (Nat.le_refl _) hb) hrl hsy
     generalize plvU g i = LV1 at *
     generalize ownU (g.ps.getD i .none) = OW at *
     generalize g.ps.getD i .none = p at *
     obtain ⟨pl, pra, prc, pr, pp⟩ := p
     simp only at c0 c1 c2 hrow hrl hsy HT
     have HJ : Hid (JW g w jb (w.heap.size + 1) tv (.slice pa i pc) (tlU g) ((plU g).take i) (wr.alloc (.cells #[.int .i64 pl, .slice pra pr.length prc, .int .i64 pp] 69)) /\ (wr.alloc (.cells #[.int .i64 pl, .slice pra pr.length prc, .int .i64 pp] 69)).heap[wr.heap.size]? = some (.cells #[.int .i64 pl, .slice pra pr.length prc, .int .i64 pp] 69 (0, 0))) := ⟨hJ.later (below_alloc _ _), heap_alloc_new _ _⟩
     have HS : Hid (∀ w', w'.heap[w.heap.size]? = some (gBox g) -> w'.heap[jb]? = some (.cells #[.slice g.la g.ls.length g.lc, tv, .slice pa i pc, .map (some (w.heap.size + 1))] 121 (0, 0)) -> w'.heap[wr.heap.size]? = some (.cells #[.int .i64 pl, .slice pra pr.length prc, .int .i64 pp] 69 (0, 0)) -> (fun w' : World => (w'.cell? ⟨w.heap.size, 0, none⟩ = some (.slice g.ta g.ts.length g.tc) /\ w'.cell? ⟨w.heap.size, 1, none⟩ = some (.slice g.na g.ns.length g.nc) /\ w'.cell? ⟨w.heap.size, 2, none⟩ = some (.int .i64 g.start) /\ w'.cell? ⟨w.heap.size, 3, none⟩ = some (.slice g.pa g.ps.length g.pc) /\ w'.cell? ⟨w.heap.size, 4, none⟩ = some (.slice g.la g.ls.length g.lc)) /\ w'.cell? ⟨wr.heap.size, 0, none⟩ = some (.int .i64 pl) /\ w'.cell? ⟨wr.heap.size, 1, none⟩ = some (.slice pra pr.length prc) /\ w'.cell? ⟨wr.heap.size, 2, none⟩ = some (.int .i64 pp)) w' /\ (fun w' : World => w'.cell? ⟨jb, 2, none⟩ = some (.slice pa i pc)) w') := fun w' h1 h2 h3 => by
      obtain ⟨y0, y1, y2, y3, y4⟩ := gb_cells h1
      exact ⟨⟨⟨y0, y1, y2, y3, y4⟩, (cellq_any h3).trans rfl, (cellq_any h3).trans rfl, (cellq_any h3).trans rfl⟩, (cellq_any h2).trans rfl⟩
     have hs : Hid ((fun w' : World => (w'.cell? ⟨w.heap.size, 0, none⟩ = some (.slice g.ta g.ts.length g.tc) /\ w'.cell? ⟨w.heap.size, 1, none⟩ = some (.slice g.na g.ns.length g.nc) /\ w'.cell? ⟨w.heap.size, 2, none⟩ = some (.int .i64 g.start) /\ w'.cell? ⟨w.heap.size, 3, none⟩ = some (.slice g.pa g.ps.length g.pc) /\ w'.cell? ⟨w.heap.size, 4, none⟩ = some (.slice g.la g.ls.length g.lc)) /\ w'.cell? ⟨wr.heap.size, 0, none⟩ = some (.int .i64 pl) /\ w'.cell? ⟨wr.heap.size, 1, none⟩ = some (.slice pra pr.length prc) /\ w'.cell? ⟨wr.heap.size, 2, none⟩ = some (.int .i64 pp)) (wr.alloc (.cells #[.int .i64 pl, .slice pra pr.length prc, .int .i64 pp] 69)).drew /\ (fun w' : World => w'.cell? ⟨jb, 2, none⟩ = some (.slice pa i pc)) (wr.alloc (.cells #[.int .i64 pl, .slice pra pr.length prc, .int .i64 pp] 69)).drew) := HS.out _ HJ.out.1.gb HJ.out.1.j HJ.out.2
     have HL : Hid (((plU g).take i).length <= 1000000000) := by show _ <= _; rw [List.length_take]; have := OK.out.pl.2; rw [pl_len]; omega
     have HPN : Hid (wr.heap.size ≠ jb /\ ∀ j, (Value.slice pa i pc).ownBlock = some j -> j < wr.heap.size) := ⟨fun e => by have := lt_of_block hJ.j; omega, hJ.p.lt⟩
     clear hJ hct hG hc hmem hrow hrl hsy
     rw [hpa]
     clear hpa
     go_wp2
     refine wp_region_x (S := SX 13 (fun w' : World => (w'.cell? ⟨w.heap.size, 0, none⟩ = some (.slice g.ta g.ts.length g.tc) /\ w'.cell? ⟨w.heap.size, 1, none⟩ = some (.slice g.na g.ns.length g.nc) /\ w'.cell? ⟨w.heap.size, 2, none⟩ = some (.int .i64 g.start) /\ w'.cell? ⟨w.heap.size, 3, none⟩ = some (.slice g.pa g.ps.length g.pc) /\ w'.cell? ⟨w.heap.size, 4, none⟩ = some (.slice g.la g.ls.length g.lc)) /\ w'.cell? ⟨wr.heap.size, 0, none⟩ = some (.int .i64 pl) /\ w'.cell? ⟨wr.heap.size, 1, none⟩ = some (.slice pra pr.length prc) /\ w'.cell? ⟨wr.heap.size, 2, none⟩ = some (.int .i64 pp)) (fun w' : World => w'.cell? ⟨jb, 2, none⟩ = some (.slice pa i pc))) (by kernel_rfl) ?_
     refine takeK 13 7 (i := 0) (v := ?_) rfl (by kernel_rfl) (by kernel_rfl) (by decide) (by decide) (by decide +kernel) (by decide +kernel) (fun _ _ _ h => h) (by kernel_rfl) (Or.inl ⟨by rfl, ?_⟩) (SX.both hs.out.1 hs.out.2) ?_
     rotate_left
     ·(intro w hSw; (try dsimp only at hSw); go_simp; try (with_reducible rfl))
     (try simp only [Act.put, lsA, lsZ, lsN])
     refine takeK 13 7 (i := 1) (v := ?_) rfl (by kernel_rfl) (by kernel_rfl) (by decide) (by decide) (by decide +kernel) (by decide +kernel) (fun _ _ _ h => h) (by kernel_rfl) (Or.inl ⟨by rfl, ?_⟩) (SX.both hs.out.1 hs.out.2) ?_
     rotate_left
     ·(intro w hSw; (try dsimp only at hSw); go_simp; try (with_reducible rfl))
     (try simp only [Act.put, lsA, lsZ, lsN])
     refine takeK 13 7 (i := 2) (v := ?_) rfl (by kernel_rfl) (by kernel_rfl) (by decide) (by decide) (by decide +kernel) (by decide +kernel) (fun _ _ _ h => h) (by kernel_rfl) (Or.inl ⟨by rfl, ?_⟩) (SX.both hs.out.1 hs.out.2) ?_
     rotate_left
     ·(intro w hSw; (try dsimp only at hSw); go_simp; try (with_reducible rfl))
     (try simp only [Act.put, lsA, lsZ, lsN])
     refine takeK 13 7 (i := 3) (v := ?_) rfl (by kernel_rfl) (by kernel_rfl) (by decide) (by decide) (by decide +kernel) (by decide +kernel) (fun _ _ _ h => h) (by kernel_rfl) (Or.inl ⟨by rfl, ?_⟩) (SX.both hs.out.1 hs.out.2) ?_
     rotate_left
     ·(intro w hSw; (try dsimp only at hSw); go_simp; try (with_reducible rfl))
     (try simp only [Act.put, lsA, lsZ, lsN])
     refine takeK 13 7 (i := 4) (v := ?_) rfl (by kernel_rfl) (by kernel_rfl) (by decide) (by decide) (by decide +kernel) (by decide +kernel) (fun _ _ _ h => h) (by kernel_rfl) (Or.inl ⟨by rfl, ?_⟩) (SX.both hs.out.1 hs.out.2) ?_
     rotate_left
     ·(intro w hSw; (try dsimp only at hSw); go_simp; try (with_reducible rfl))
     (try simp only [Act.put, lsA, lsZ, lsN])
     refine takeK 13 7 (i := 5) (v := ?_) rfl (by kernel_rfl) (by kernel_rfl) (by decide) (by decide) (by decide +kernel) (by decide +kernel) (fun _ _ _ h => h) (by kernel_rfl) (Or.inl ⟨by rfl, ?_⟩) (SX.both hs.out.1 hs.out.2) ?_
     rotate_left
     ·(intro w hSw; (try dsimp only at hSw); go_simp; try (with_reducible rfl))
     (try simp only [Act.put, lsA, lsZ, lsN])
     refine takeK 13 7 (i := 6) (v := ?_) rfl (by kernel_rfl) (by kernel_rfl) (by decide) (by decide) (by decide +kernel) (by decide +kernel) (fun _ _ _ h => h) (by kernel_rfl) (Or.inl ⟨by rfl, ?_⟩) (SX.both hs.out.1 hs.out.2) ?_
     rotate_left
     ·(intro w hSw; (try dsimp only at hSw); go_simp; try (with_reducible rfl))
     (try simp only [Act.put, lsA, lsZ, lsN])
     refine wpAnyX_one (j := 7) (by decide +kernel) rfl (fun K' hK => ?_)
     refine step_callX (by rfl) 56 #[.agg #[.int .i64 pl, .slice pra pr.length prc, .int .i64 pp]] _ (by apply run_call1 (enters_of Tryz.func56 (by kernel_rfl) rfl) <;> rfl) (HT.out _ (below_alloc _ _).drew) ?_
     rintro e w2 ⟨rfl, b2⟩
     have J2 : Hid (JW g w jb (w.heap.size + 1) tv (.slice pa i pc) (tlU g) ((plU g).take i) w2 /\ w2.heap[wr.heap.size]? = some (.cells #[.int .i64 pl, .slice pra pr.length prc, .int .i64 pp] 69 (0, 0))) := ⟨(HJ.out.1.later (Below.refl _ _).drew).later b2, blk_later (b := wr.heap.size) HJ.out.2 ((Below.refl _ _).drew.trans b2)⟩
     clear b2
     refine ⟨_, rfl, hK.out _ _ (SX.both (HS.out _ J2.out.1.gb J2.out.1.j J2.out.2).1 (HS.out _ J2.out.1.gb J2.out.1.j J2.out.2).2) ?_⟩
     clear hK K'
     (try simp only [Act.put, lsA, lsZ, lsN])
     refine wpAnyX_one (j := 8) (by decide +kernel) rfl (fun K' hK => ?_)
     refine step_callX (by rfl) 55 #[g.val, .int .i64 OW] _ (by apply run_call2 (enters_of Tryz.func55 (by kernel_rfl) rfl) <;> rfl) (levelOf_P g OW _ (HG.out _ J2.out.1.bel)) ?_
     rw [<- EV.out]
     rintro e w3 ⟨rfl, b3⟩
     have J3 : Hid (JW g w jb (w.heap.size + 1) tv (.slice pa i pc) (tlU g) ((plU g).take i) w3 /\ w3.heap[wr.heap.size]? = some (.cells #[.int .i64 pl, .slice pra pr.length prc, .int .i64 pp] 69 (0, 0))) := ⟨J2.out.1.later b3, blk_later J2.out.2 b3⟩
     clear b3 J2
     refine ⟨_, rfl, hK.out _ _ (SX.both (HS.out _ J3.out.1.gb J3.out.1.j J3.out.2).1 (HS.out _ J3.out.1.gb J3.out.1.j J3.out.2).2) ?_⟩
     clear hK K'
     (try simp only [Act.put, lsA, lsZ, lsN])
     refine wpAnyX_one (j := 9) (by decide +kernel) rfl (fun K' hK => ?_)
     go_simp
     have J4 : Hid (JW g w jb (w.heap.size + 1) tv (.slice pa i pc) (tlU g) ((plU g).take i) (w3.alloc (.cells #[.int .i64 LV1] 3)) /\ (w3.alloc (.cells #[.int .i64 LV1] 3)).heap[wr.heap.size]? = some (.cells #[.int .i64 pl, .slice pra pr.length prc, .int .i64 pp] 69 (0, 0))) := ⟨J3.out.1.later (below_alloc _ _), blk_later J3.out.2 (below_alloc _ _)⟩
     refine hK.out _ _ (SX.both (HS.out _ J4.out.1.gb J4.out.1.j J4.out.2).1 (HS.out _ J4.out.1.gb J4.out.1.j J4.out.2).2) ?_
     clear hK K'
     (try simp only [Act.put, lsA, lsZ, lsN])
     refine wpAnyX_one (j := 10) (by decide +kernel) rfl (fun K' hK => ?_)
     refine step_ro_append rkInt (by rfl) _ _ (by rfl) (.slice pa i pc) ((plU g).take i) (by rfl) J4.out.1.p w3.heap.size 1 LV1 (by rfl) (one_int _ _) HL.out ?_
     intro a5 n5 c5 w5 ho5 hg5
     have J5 : Hid (JW g w jb (w.heap.size + 1) tv (.slice a5 n5 c5) (tlU g) ((plU g).take (i + 1)) (w5.setCell ⟨jb, 2, none⟩ (.slice a5 n5 c5))) := by have := J4.out.1.pushP hg5 ho5; rw [ES.out]; exact this
     have K5 := J4.out.1.holdP hg5
     have P5 : Hid (w5.heap[wr.heap.size]? = some (.cells #[.int .i64 pl, .slice pra pr.length prc, .int .i64 pp] 69 (0, 0))) := grew_ne hg5 J4.out.2 fun e => by have := HPN.out.2 _ e; omega
     have S5 : Hid ((fun w' : World => (w'.cell? ⟨w.heap.size, 0, none⟩ = some (.slice g.ta g.ts.length g.tc) /\ w'.cell? ⟨w.heap.size, 1, none⟩ = some (.slice g.na g.ns.length g.nc) /\ w'.cell? ⟨w.heap.size, 2, none⟩ = some (.int .i64 g.start) /\ w'.cell? ⟨w.heap.size, 3, none⟩ = some (.slice g.pa g.ps.length g.pc) /\ w'.cell? ⟨w.heap.size, 4, none⟩ = some (.slice g.la g.ls.length g.lc)) /\ w'.cell? ⟨wr.heap.size, 0, none⟩ = some (.int .i64 pl) /\ w'.cell? ⟨wr.heap.size, 1, none⟩ = some (.slice pra pr.length prc) /\ w'.cell? ⟨wr.heap.size, 2, none⟩ = some (.int .i64 pp)) w5 /\ (fun w' : World => w'.cell? ⟨jb, 2, none⟩ = some (.slice pa i pc)) w5) := HS.out _ K5.1 K5.2 P5.out
     have z1 : w5.cell? ⟨jb, 2, none⟩ = some (.slice pa i pc) := S5.out.2
     have g1 := frostS K5.2 2
     have hz1 := lt_of_block K5.2
     clear ho5 hg5 K5 J3 J4
     refine hK.out _ _ (SX.both S5.out.1 S5.out.2) ?_
     clear hK K'
     (try simp only [Act.put, lsA, lsZ, lsN])
     refine wpAnyX_one (j := 11) (by decide +kernel) rfl (fun K' hK => ?_)
     go_simp
     refine hK.out _ _ (SX.both S5.out.1 S5.out.2) ?_
     clear hK K'
     (try simp only [Act.put, lsA, lsZ, lsN])
     refine wpAnyX_one (j := 12) (by decide +kernel) rfl (fun K' hK => ?_)
     go_simp
     refine hK.out _ _ (SX.both S5.out.1 S5.out.2) ?_
     clear hK K'
     (try simp only [Act.put, lsA, lsZ, lsN])
     refine wpAnyX_one (j := 13) (by decide +kernel) rfl (fun K' hK => ?_)
     go_simp
     have G5 : Hid ((fun w' : World => (w'.cell? ⟨w.heap.size, 0, none⟩ = some (.slice g.ta g.ts.length g.tc) /\ w'.cell? ⟨w.heap.size, 1, none⟩ = some (.slice g.na g.ns.length g.nc) /\ w'.cell? ⟨w.heap.size, 2, none⟩ = some (.int .i64 g.start) /\ w'.cell? ⟨w.heap.size, 3, none⟩ = some (.slice g.pa g.ps.length g.pc) /\ w'.cell? ⟨w.heap.size, 4, none⟩ = some (.slice g.la g.ls.length g.lc)) /\ w'.cell? ⟨wr.heap.size, 0, none⟩ = some (.int .i64 pl) /\ w'.cell? ⟨wr.heap.size, 1, none⟩ = some (.slice pra pr.length prc) /\ w'.cell? ⟨wr.heap.size, 2, none⟩ = some (.int .i64 pp)) (w5.setCell ⟨jb, 2, none⟩ (.slice a5 n5 c5))) := by
      obtain ⟨y0, y1, y2, y3, y4⟩ := gb_cells J5.out.gb
      have q : (w5.setCell ⟨jb, 2, none⟩ (.slice a5 n5 c5)).heap[wr.heap.size]? = some (.cells #[.int .i64 pl, .slice pra pr.length prc, .int .i64 pp] 69 (0, 0)) := (setj_ne HPN.out.1).trans P5.out
      exact ⟨⟨y0, y1, y2, y3, y4⟩, (cellq_any q).trans rfl, (cellq_any q).trans rfl, (cellq_any q).trans rfl⟩
     refine hK.out _ _ (SX.one G5.out (by kernel_rfl)) ?_
     clear hK K'
     (try simp only [Act.put, lsA, lsZ, lsN])
     refine wpAnyX_done (by decide +kernel) ?_
     clear hs HS z1 g1 hz1
     go_wp2
     go_roundw
     case rel => exact ⟨i + 1, _, by omega, by go_num, J5.out⟩
     case measure => simp [intOf]; omega
    ·obtain rfl : i = g.ps.length := by omega
     have klt : ¬ (g.ps.length : Int) < (g.ps.length : Int) := by omega
     rw [show (plU g).take g.ps.length = plU g by rw [<- pl_len, List.take_length]] at hJ
     have HJ1 : Hid (JW g w jb (w.heap.size + 1) tv pv (tlU g) (plU g) wr) := hJ
     clear hJ hi
     go_wp2
     go_ret
     exact ⟨jb, rfl, HJ1.out.ju, HJ1.out.jn, HJ1.out.bel⟩
end Go.Proofs.YtjpknihkcndoiaaGreat
