import Derived.Test.YtlkkllehaabebaaPGUp
import Derived.Test.YtlkkllehaabebaaPPC25
import Derived.Test.YtlkkllehaabebaaPGG1ToGWB
namespace Go.Proofs.Ytlkkllehaabebaa
set_option linter.unusedVariables false
set_option maxRecDepth 100000
set_option maxHeartbeats 16000000
open Go.RowKit
def tnB (i : Nat) : ByteArray := ⟨#[116, (97 + i).toUInt8]⟩
def xB : ByteArray := ⟨#[120]⟩
def eB : ByteArray := ⟨#[69]⟩
structure Tab (n : Nat) (a : Nat -> Int) (g : GV) : Prop where
 ts : g.ts = (List.range n).map tnB ++ [xB]
 ns : g.ns = [eB]
 st : g.start = 0
 pl : g.ps.length = n + 1
 pi : ∀ i, i < n -> (g.ps.getD i .none).left = 0 /\ (g.ps.getD i .none).right = [(2, 0), (1, (i : Int)), (2, 0)] /\ (g.ps.getD i .none).prec = -1
 px : (g.ps.getD n .none).left = 0 /\ (g.ps.getD n .none).right = [(1, (n : Int))] /\ (g.ps.getD n .none).prec = -1
 ll : g.ls.length = n
 li : ∀ i, i < n -> (g.ls.getD i .none).assoc = a i /\ (g.ls.getD i .none).terms = [(i : Int)]
theorem tab_names : ∀ n, n < 9 -> (checkF ((List.range n).map tnB ++ [xB]) [eB]).1 = 0 := by decide +kernel
theorem mem_take_getD {α : Type} {l : List α} {i : Nat} {x d : α} (h : x ∈ l.take i) : ∃ j, j < i /\ j < l.length /\ x = l.getD j d := by
 obtain ⟨j, hj, rfl⟩ := List.mem_iff_getElem.1 h
 simp only [List.length_take] at hj
 refine ⟨j, by omega, by omega, ?_⟩
 rw [List.getElem_take]
 simp [List.getD, show j < l.length by omega]
theorem Tab.tl {n : Nat} {a : Nat -> Int} {g : GV} (h : Tab n a g) : g.ts.length = n + 1 := by rw [h.ts]; simp
theorem Tab.check {n : Nat} {a : Nat -> Int} {g : GV} (h : Tab n a g) (h1 : 1 <= n) (h8 : n <= 8) (ha : ∀ i, i < n -> 1 <= a i /\ a i <= 3) : checkG g (checkF g.ts g.ns) = (0, 0) := by
 have tl := h.tl
 have nl : g.ns.length = 1 := by rw [h.ns]; rfl
 have n0 : inN g 0 = true := by unfold inN; rw [nl]; decide
 have it : ∀ i : Nat, i <= n -> inT g (i : Int) = true := fun i hi => by
  unfold inT
  rw [tl]
  exact decide_eq_true (by omega)
 have g2 : inG g 2 0 = true := n0
 have g1 : ∀ i : Nat, i <= n -> inG g 1 (i : Int) = true := fun i hi => it i hi
 refine checkG_of (by omega) (by omega) ?_ (by rw [h.st]; exact n0) (by rw [h.pl]; omega) (fun i hi => ?_) (by rw [h.ll]; omega) (fun i hi => ?_)
 ·rw [h.ts, h.ns]
  exact tab_names n (by omega)
 ·rw [h.pl] at hi
  have ne : ((g.ps.take i).any fun q => q.left == (g.ps.getD i .none).left && q.right == (g.ps.getD i .none).right) = false := by
   rw [List.any_eq_false]
   intro q hq
   obtain ⟨j, hj, _, rfl⟩ := mem_take_getD (d := PV.none) hq
   have q1 := h.pi j (by omega)
   rw [q1.2.1]
   by_cases e : i = n
   ·subst e
    rw [h.px.2.1]
    simp
   ·rw [(h.pi i (by omega)).2.1]
    simp
    omega
  unfold prodU
  rw [ne]
  by_cases e : i = n
  ·subst e
   obtain ⟨p1, p2, p3⟩ := h.px
   rw [p1, p2, p3]
   simp [n0, g1 i (Nat.le_refl _)]
  ·obtain ⟨p1, p2, p3⟩ := h.pi i (by omega)
   rw [p1, p2, p3]
   simp [n0, g2, g1 i (by omega)]
 ·rw [h.ll] at hi
  obtain ⟨l1, l2⟩ := h.li i hi
  have nm : (namedU g.ls i).contains (i : Int) = false := by
   rw [Bool.eq_false_iff]
   intro e
   have e := List.contains_iff_mem.1 e
   unfold namedU at e
   rw [List.mem_flatMap] at e
   obtain ⟨l, hl, hm⟩ := e
   obtain ⟨j, hj, _, rfl⟩ := mem_take_getD (d := LV.none) hl
   rw [(h.li j (by omega)).2] at hm
   simp at hm
   omega
  have := ha i hi
  unfold levelU
  rw [l1, l2, if_neg (by simp; omega), if_neg (by simp [it i (by omega)]), if_neg (by simp [risesU]), if_neg (by simpa using nm)]
theorem Tab.lev {n : Nat} {a : Nat -> Int} {g : GV} (h : Tab n a g) {k : Nat} (hk : k < n) : levU g.ls (k : Int) = k :=
 lev_at (by rw [h.ll]; exact hk) (fun j hj => by
  rw [(h.li j (by omega)).2]
  simp
  omega) (by rw [(h.li k hk).2]; simp)
theorem Tab.plv {n : Nat} {a : Nat -> Int} {g : GV} (h : Tab n a g) {i : Nat} (hi : i < n) : plvU g i = i := by
 unfold plvU ownU
 obtain ⟨_, p2, p3⟩ := h.pi i hi
 rw [p2, p3]
 exact h.lev hi
def wantU (a : Nat -> Int) (i k : Nat) : Int := if i < k ∨ (k = i /\ a i = 2) then 1 else if k = i /\ a i = 3 then 3 else 2
theorem Tab.res {n : Nat} {a : Nat -> Int} {g : GV} (h : Tab n a g) {i k : Nat} (hi : i < n) (hk : k < n) (ha : ∀ i, i < n -> 1 <= a i /\ a i <= 3) : (resU g k 3 [(i : Int)]).kind = wantU a i k /\ (resU g k 3 [(i : Int)]).sd = decide (wantU a i k ≠ 1) /\ ((resU g k 3 [(i : Int)]).drop.length = 1 ↔ wantU a i k ≠ 2) := by
 have e : decU g i k = duelD g i k i k := by unfold decU; rw [h.plv hi, h.lev hk]
 have e2 : resU g k 3 [(i : Int)] = pickD k [(i : Int)] [duelD g i k i k] := by
  unfold resU
  rw [if_neg (by simp)]
  simp only [List.map_cons, List.map_nil, Int.toNat_natCast, e]
 rw [e2]
 have hd : duelD g i k i k = if k < i then redD i k i else if i < k then shiD i k k else eqD (a i) i k i := by
  unfold duelD
  rw [if_neg (by omega)]
  simp only [Int.ofNat_lt, Int.toNat_natCast, (h.li i hi).1]
 rw [hd]
 unfold wantU
 have := ha i hi
 by_cases c1 : k < i
 ·rw [if_pos c1, if_neg (by omega), if_neg (by omega)]
  simp [redD, pickD, kindD, dropD]
 ·rw [if_neg c1]
  by_cases c2 : i < k
  ·rw [if_pos c2, if_pos (by omega)]
   simp [shiD, pickD, kindD, dropD]
  ·rw [if_neg c2]
   obtain rfl : k = i := by omega
   rcases (show a k = 1 ∨ a k = 2 ∨ a k = 3 by omega) with r | r | r
   ·simp [r, eqD, redD, pickD, kindD, dropD]
   ·simp [r, eqD, shiD, pickD, kindD, dropD]
    try omega
   ·simp [r, eqD, errD, pickD, kindD, dropD]
    try omega
theorem Tab.cf {n : Nat} {a : Nat -> Int} {g : GV} (h : Tab n a g) {i k : Nat} (hi : i < n) (hk : k < n) (q : CV) (q1 : q.look = k) (q2 : q.shift = 3) (q3 : q.red = [(i : Int)]) : cfE g q = 0 := by
 have tl := h.tl
 have pl := h.pl
 unfold cfE
 rw [if_neg, if_neg, if_neg]
 ·unfold cflU
  rw [q1, q2, q3]
  simp
  omega
 ·rw [q3]
  simp [risesU]
 ·unfold rngU oddU
  rw [q1, q2, q3]
  simp
  omega
structure TbW (W : World) (bg be na : Nat) (h : GV) (wr : World) : Prop where
 bel : Below W.heap.size W wr
 lo : W.heap.size < bg
 hb : wr.heap[bg]? = some (gBox h)
 eb : wr.heap[be]? = some (.cells #[.int .i64 2, .int .i64 0] 113 (0, 0))
 rs : wr.heap[W.heap.size]? = some zG
 hn : h.na = some ⟨na, 0, none⟩
 ns : h.ns = [eB]
 st : h.start = 0
 nb : wr.heap[na]? = some (.cells #[.string eB] 9 (0, 0))
 gs : GS wr (.slice h.ta h.ts.length h.tc) h.ts
 gl : ∀ k, (Value.slice h.ta h.ts.length h.tc).ownBlock = some k -> W.heap.size <= k /\ k ≠ na
 py : PY wr (.slice h.pa h.ps.length h.pc) h.ps
 pl : ∀ k, (Value.slice h.pa h.ps.length h.pc).ownBlock = some k -> W.heap.size <= k
 pe : ∀ x ∈ h.ps, ∃ b, x.ra = some ⟨b, 0, none⟩ /\ YB wr b x.right
 ly : LY wr (.slice h.la h.ls.length h.lc) h.ls
 ll : ∀ k, (Value.slice h.la h.ls.length h.lc).ownBlock = some k -> W.heap.size <= k
 le : ∀ x ∈ h.ls, ∃ b, x.ta = some ⟨b, 0, none⟩ /\ NB wr b x.terms
section
variable {W : World} {bg be na : Nat} {h : GV} {wr w' : World}
theorem TbW.later (t : TbW W bg be na h wr) (hb : Below wr.heap.size wr w') : TbW W bg be na h w' :=
 ⟨t.bel.trans (hb.mono t.bel.size), t.lo, blk_later t.hb hb, blk_later t.eb hb, blk_later t.rs hb, t.hn, t.ns, t.st, blk_later t.nb hb, t.gs.later hb, t.gl, t.py.later hb, t.pl, fun x hx => by obtain ⟨b, e, y⟩ := t.pe x hx; exact ⟨b, e, y.oth (Oth.ofBelow hb)⟩, t.ly.later hb, t.ll, fun x hx => by obtain ⟨b, e, y⟩ := t.le x hx; exact ⟨b, e, y.oth (Oth.ofBelow hb)⟩⟩
theorem TbW.turn (t : TbW W bg be na h wr) {own : Option Nat} (G : wr.grownBy w' own) (j : Nat) (u : Value) (k : Nat) (C : Array Value) (ty : TypeId) (hk : wr.heap[k]? = some (.cells C ty (0, 0))) (ht : ty ≠ 26) (ho : some k ≠ own) : (w'.setCell ⟨bg, j, none⟩ u).heap[k]? = wr.heap[k]? := by
 rw [Below.heap_setCell _ _ _ _ (fun e => by subst e; rw [t.hb] at hk; simp at hk; exact ht hk.2.symm)]
 exact G.block k (lt_of_block hk) ho
theorem TbW.boxes (t : TbW W bg be na h wr) {own : Option Nat} (G : wr.grownBy w' own) (hw : ∀ k C, wr.heap[k]? = some (.cells C 26 (0, 0)) -> some k ≠ own) (ho : ∀ k, own = some k -> W.heap.size <= k) (j : Nat) (u : Value) : w'.heap[bg]? = some (gBox h) /\ (w'.setCell ⟨bg, j, none⟩ u).heap[W.heap.size]? = some zG /\ Below W.heap.size W (w'.setCell ⟨bg, j, none⟩ u) := by
 have e := (G.block _ (lt_of_block t.hb) (hw _ _ t.hb)).trans t.hb
 refine ⟨e, ?_, ?_⟩
 ·rw [Below.heap_setCell _ _ _ _ (show W.heap.size ≠ bg by have := t.lo; omega)]
  exact (G.block _ (lt_of_block t.rs) (hw _ _ t.rs)).trans t.rs
 ·exact (t.bel.grown G t.bel.size ho).setCell (p := ⟨bg, j, none⟩) (Nat.le_of_lt t.lo) _
theorem gs_neG {w : World} {v : Value} {ss : List ByteArray} (h : GS w v ss) {k : Nat} {C : Array Value} {ty : TypeId} (hk : w.heap[k]? = some (.cells C ty (0, 0))) (ht : ty ≠ 9) : some k ≠ v.ownBlock := GS.ne h hk ht
theorem TbW.str (t : TbW W bg be na h wr) {y : ByteArray} {a' : Option Addr} {n' c' : Nat} (hy : GS w' (.slice a' n' c') (h.ts ++ [y])) (G : Grew wr w' (.slice h.ta h.ts.length h.tc) (.slice a' n' c')) :
  w'.heap[bg]? = some (gBox h) /\ TbW W bg be na { h with ta := a', tc := c', ts := h.ts ++ [y] } (w'.setCell ⟨bg, 0, none⟩ (.slice a' n' c')) := by
 obtain ⟨e1, e2, e3⟩ := t.boxes G.grown (fun k C hk => gs_neG t.gs hk (by decide)) (fun k hk => (t.gl k hk).1) 0 (.slice a' n' c')
 have kp := t.turn G.grown 0 (.slice a' n' c')
 have hn : n' = (h.ts ++ [y]).length := by obtain ⟨a2, c2, e⟩ := gs_len hy; simp only [Value.slice.injEq] at e; exact e.2.1
 subst hn
 refine ⟨e1, e3, t.lo, heap_set e1 _ _, (kp _ _ _ t.eb (by decide) (gs_neG t.gs t.eb (by decide))).trans t.eb, e2, t.hn, t.ns, t.st, (kp _ _ _ t.nb (by decide) (fun e => (t.gl na e.symm).2 rfl)).trans t.nb, ?_, ?_, ?_, t.pl, ?_, ?_, t.ll, ?_⟩
 ·exact row_kept hy fun k C _ hk => Below.heap_setCell _ _ _ _ (fun e => by subst e; rw [e1] at hk; simp at hk)
 ·intro k hk
  rcases G.moved with r | ⟨m, r, hm⟩
  ·exact t.gl k (r ▸ hk)
  ·have hk : (Value.slice a' (h.ts ++ [y]).length c').ownBlock = some k := hk
   rw [hk] at r
   have := Option.some.inj r
   have := t.bel.size
   have := lt_of_block t.nb
   omega
 ·exact row_kept t.py fun k C _ hk => kp k C _ hk (by decide) (gs_neG t.gs hk (by decide))
 ·intro x hx
  obtain ⟨b, e, zs, z1, z2⟩ := t.pe x hx
  exact ⟨b, e, zs, (kp _ _ _ z1 (by decide) (gs_neG t.gs z1 (by decide))).trans z1, z2⟩
 ·exact row_kept t.ly fun k C _ hk => kp k C _ hk (by decide) (gs_neG t.gs hk (by decide))
 ·intro x hx
  obtain ⟨b, e, zs, z1, z2⟩ := t.le x hx
  exact ⟨b, e, zs, (kp _ _ _ z1 (by decide) (gs_neG t.gs z1 (by decide))).trans z1, z2⟩
theorem TbW.prod (t : TbW W bg be na h wr) {q : PV} {a' : Option Addr} {n' c' : Nat} (hy : PY w' (.slice a' n' c') (h.ps ++ [q])) (G : Grew wr w' (.slice h.pa h.ps.length h.pc) (.slice a' n' c')) (hq : ∃ b, q.ra = some ⟨b, 0, none⟩ /\ YB wr b q.right) :
  w'.heap[bg]? = some (gBox h) /\ TbW W bg be na { h with pa := a', pc := c', ps := h.ps ++ [q] } (w'.setCell ⟨bg, 3, none⟩ (.slice a' n' c')) := by
 obtain ⟨e1, e2, e3⟩ := t.boxes G.grown (fun k C hk => py_ne t.py hk (by decide)) t.pl 3 (.slice a' n' c')
 have kp := t.turn G.grown 3 (.slice a' n' c')
 have hn : n' = (h.ps ++ [q]).length := by obtain ⟨a2, c2, e⟩ := PY.len hy; simp only [Value.slice.injEq] at e; exact e.2.1
 subst hn
 refine ⟨e1, e3, t.lo, heap_set e1 _ _, (kp _ _ _ t.eb (by decide) (py_ne t.py t.eb (by decide))).trans t.eb, e2, t.hn, t.ns, t.st, (kp _ _ _ t.nb (by decide) (py_ne t.py t.nb (by decide))).trans t.nb, ?_, t.gl, ?_, ?_, ?_, ?_, t.ll, ?_⟩
 ·exact row_kept t.gs fun k C _ hk => kp k C _ hk (by decide) (py_ne t.py hk (by decide))
 ·exact row_kept hy fun k C _ hk => Below.heap_setCell _ _ _ _ (fun e => by subst e; rw [e1] at hk; simp at hk)
 ·exact (grew_belowB t.bel.size t.pl G).2
 ·intro x hx
  have hx' : ∃ b, x.ra = some ⟨b, 0, none⟩ /\ YB wr b x.right := by
   rcases List.mem_append.1 hx with r | r
   ·exact t.pe x r
   ·rw [List.mem_singleton.1 r]; exact hq
  obtain ⟨b, e, zs, z1, z2⟩ := hx'
  exact ⟨b, e, zs, (kp _ _ _ z1 (by decide) (py_ne t.py z1 (by decide))).trans z1, z2⟩
 ·exact row_kept t.ly fun k C _ hk => kp k C _ hk (by decide) (py_ne t.py hk (by decide))
 ·intro x hx
  obtain ⟨b, e, zs, z1, z2⟩ := t.le x hx
  exact ⟨b, e, zs, (kp _ _ _ z1 (by decide) (py_ne t.py z1 (by decide))).trans z1, z2⟩
theorem TbW.lev (t : TbW W bg be na h wr) {q : LV} {a' : Option Addr} {n' c' : Nat} (hy : LY w' (.slice a' n' c') (h.ls ++ [q])) (G : Grew wr w' (.slice h.la h.ls.length h.lc) (.slice a' n' c')) (hq : ∃ b, q.ta = some ⟨b, 0, none⟩ /\ NB wr b q.terms) :
  w'.heap[bg]? = some (gBox h) /\ TbW W bg be na { h with la := a', lc := c', ls := h.ls ++ [q] } (w'.setCell ⟨bg, 4, none⟩ (.slice a' n' c')) := by
 obtain ⟨e1, e2, e3⟩ := t.boxes G.grown (fun k C hk => ly_ne t.ly hk (by decide)) t.ll 4 (.slice a' n' c')
 have kp := t.turn G.grown 4 (.slice a' n' c')
 have hn : n' = (h.ls ++ [q]).length := by obtain ⟨a2, c2, e⟩ := LY.len hy; simp only [Value.slice.injEq] at e; exact e.2.1
 subst hn
 refine ⟨e1, e3, t.lo, heap_set e1 _ _, (kp _ _ _ t.eb (by decide) (ly_ne t.ly t.eb (by decide))).trans t.eb, e2, t.hn, t.ns, t.st, (kp _ _ _ t.nb (by decide) (ly_ne t.ly t.nb (by decide))).trans t.nb, ?_, t.gl, ?_, t.pl, ?_, ?_, ?_, ?_⟩
 ·exact row_kept t.gs fun k C _ hk => kp k C _ hk (by decide) (ly_ne t.ly hk (by decide))
 ·exact row_kept t.py fun k C _ hk => kp k C _ hk (by decide) (ly_ne t.ly hk (by decide))
 ·intro x hx
  obtain ⟨b, e, zs, z1, z2⟩ := t.pe x hx
  exact ⟨b, e, zs, (kp _ _ _ z1 (by decide) (ly_ne t.ly z1 (by decide))).trans z1, z2⟩
 ·exact row_kept hy fun k C _ hk => Below.heap_setCell _ _ _ _ (fun e => by subst e; rw [e1] at hk; simp at hk)
 ·exact (grew_belowB t.bel.size t.ll G).2
 ·intro x hx
  have hx' : ∃ b, x.ta = some ⟨b, 0, none⟩ /\ NB wr b x.terms := by
   rcases List.mem_append.1 hx with r | r
   ·exact t.le x r
   ·rw [List.mem_singleton.1 r]; exact hq
  obtain ⟨b, e, zs, z1, z2⟩ := hx'
  exact ⟨b, e, zs, (kp _ _ _ z1 (by decide) (ly_ne t.ly z1 (by decide))).trans z1, z2⟩
theorem TbW.str2 {wa : World} (t0 : TbW W bg be na h wr) (hb : Below wr.heap.size wr wa) {y : ByteArray} {a' : Option Addr} {n' c' : Nat} (hy : GS w' (.slice a' n' c') (h.ts ++ [y])) (G : Grew wa w' (.slice h.ta h.ts.length h.tc) (.slice a' n' c')) :
  w'.heap[bg]? = some (gBox h) /\ TbW W bg be na { h with ta := a', tc := c', ts := h.ts ++ [y] } (w'.setCell ⟨bg, 0, none⟩ (.slice a' n' c')) /\ w'.heap[be]? = some (.cells #[.int .i64 2, .int .i64 0] 113 (0, 0)) /\ Below W.heap.size W w' /\ n' = h.ts.length + 1 := by
 have t := t0.later hb
 refine ⟨(t.str hy G).1, (t.str hy G).2, (G.grown.block _ (lt_of_block t.eb) (gs_neG t.gs t.eb (by decide))).trans t.eb, t.bel.grown G.grown t.bel.size (fun k hk => (t.gl k hk).1), ?_⟩
 obtain ⟨a2, c2, e⟩ := gs_len hy
 simp only [Value.slice.injEq] at e
 simpa using e.2.1
theorem TbW.prod2 {wa : World} (t0 : TbW W bg be na h wr) (hb : Below wr.heap.size wr wa) {q : PV} {a' : Option Addr} {n' c' : Nat} (hy : PY w' (.slice a' n' c') (h.ps ++ [q])) (G : Grew wa w' (.slice h.pa h.ps.length h.pc) (.slice a' n' c')) (hq : ∃ b, q.ra = some ⟨b, 0, none⟩ /\ YB wa b q.right) :
  w'.heap[bg]? = some (gBox h) /\ TbW W bg be na { h with pa := a', pc := c', ps := h.ps ++ [q] } (w'.setCell ⟨bg, 3, none⟩ (.slice a' n' c')) /\ Below W.heap.size W w' /\ n' = h.ps.length + 1 := by
 have t := t0.later hb
 refine ⟨(t.prod hy G hq).1, (t.prod hy G hq).2, t.bel.grown G.grown t.bel.size t.pl, ?_⟩
 obtain ⟨a2, c2, e⟩ := PY.len hy
 simp only [Value.slice.injEq] at e
 simpa using e.2.1
theorem TbW.lev2 {wa : World} (t0 : TbW W bg be na h wr) (hb : Below wr.heap.size wr wa) {q : LV} {a' : Option Addr} {n' c' : Nat} (hy : LY w' (.slice a' n' c') (h.ls ++ [q])) (G : Grew wa w' (.slice h.la h.ls.length h.lc) (.slice a' n' c')) (hq : ∃ b, q.ta = some ⟨b, 0, none⟩ /\ NB wa b q.terms) :
  w'.heap[bg]? = some (gBox h) /\ TbW W bg be na { h with la := a', lc := c', ls := h.ls ++ [q] } (w'.setCell ⟨bg, 4, none⟩ (.slice a' n' c')) /\ n' = h.ls.length + 1 := by
 have t := t0.later hb
 refine ⟨(t.lev hy G hq).1, (t.lev hy G hq).2, ?_⟩
 obtain ⟨a2, c2, e⟩ := LY.len hy
 simp only [Value.slice.injEq] at e
 simpa using e.2.1
end
structure Tbi (i : Nat) (a : Nat -> Int) (g : GV) : Prop where
 ts : g.ts = (List.range i).map tnB
 pl : g.ps.length = i
 pi : ∀ j, j < i -> (g.ps.getD j .none).left = 0 /\ (g.ps.getD j .none).right = [(2, 0), (1, (j : Int)), (2, 0)] /\ (g.ps.getD j .none).prec = -1
 ll : g.ls.length = i
 li : ∀ j, j < i -> (g.ls.getD j .none).assoc = a j /\ (g.ls.getD j .none).terms = [(j : Int)]
theorem getD_snoc {α : Type} {l : List α} {q d : α} : (l ++ [q]).getD l.length d = q := by simp [List.getD]
theorem getD_snoc_lt {α : Type} {l : List α} {q d : α} {i : Nat} (h : i < l.length) : (l ++ [q]).getD i d = l.getD i d := by simp [List.getD, List.getElem?_append_left h]
def tabP (b : Nat) (i : Nat) : PV := ⟨0, some ⟨b, 0, none⟩, 3, [(2, 0), (1, (i : Int)), (2, 0)], -1⟩
def tabX (b : Nat) (n : Nat) : PV := ⟨0, some ⟨b, 0, none⟩, 1, [(1, (n : Int))], -1⟩
def tabL (b : Nat) (a : Int) (i : Nat) : LV := ⟨a, some ⟨b, 0, none⟩, 1, [(i : Int)]⟩
theorem Tbi.next {i : Nat} {a : Nat -> Int} {g g' : GV} (h : Tbi i a g) (b1 b2 : Nat) (e1 : g'.ts = g.ts ++ [tnB i]) (e2 : g'.ps = g.ps ++ [tabP b1 i]) (e3 : g'.ls = g.ls ++ [tabL b2 (a i) i]) : Tbi (i + 1) a g' := by
 refine ⟨?_, by rw [e2]; simp [h.pl], fun j hj => ?_, by rw [e3]; simp [h.ll], fun j hj => ?_⟩
 ·rw [e1, h.ts, List.range_succ, List.map_append]
  rfl
 ·rw [e2]
  rcases Nat.lt_succ_iff_lt_or_eq.1 hj with q | rfl
  ·rw [getD_snoc_lt (by rw [h.pl]; exact q)]
   exact h.pi j q
  ·have := @getD_snoc _ g.ps (tabP b1 j) .none
   rw [h.pl] at this
   rw [this]
   exact ⟨rfl, rfl, rfl⟩
 ·rw [e3]
  rcases Nat.lt_succ_iff_lt_or_eq.1 hj with q | rfl
  ·rw [getD_snoc_lt (by rw [h.ll]; exact q)]
   exact h.li j q
  ·have := @getD_snoc _ g.ls (tabL b2 (a j) j) .none
   rw [h.ll] at this
   rw [this]
   exact ⟨rfl, rfl⟩
theorem Tbi.fin {n : Nat} {a : Nat -> Int} {g g' : GV} (h : Tbi n a g) (b : Nat) (e1 : g'.ts = g.ts ++ [xB]) (e2 : g'.ps = g.ps ++ [tabX b n]) (e3 : g'.ls = g.ls) (e4 : g'.ns = [eB]) (e5 : g'.start = 0) : Tab n a g' := by
 refine ⟨by rw [e1, h.ts], e4, e5, by rw [e2]; simp [h.pl], fun j hj => ?_, ?_, by rw [e3]; exact h.ll, fun j hj => by rw [e3]; exact h.li j hj⟩
 ·rw [e2, getD_snoc_lt (by rw [h.pl]; exact hj)]
  exact h.pi j hj
 ·rw [e2]
  have := @getD_snoc _ g.ps (tabX b n) .none
  rw [h.pl] at this
  rw [this]
  exact ⟨rfl, rfl, rfl⟩
theorem TbW.at2 {W : World} {bg be na : Nat} {h : GV} {wr w' : World} (t : TbW W bg be na h wr) {n : Nat} {a : Nat -> Int} (T : Tab n a h) (h8 : n <= 8) (hk : ∀ (k : Nat) (C : Array Value) (ty : TypeId), wr.heap[k]? = some (.cells C ty (0, 0)) -> ty ≠ 26 -> w'.heap[k]? = wr.heap[k]?) : GAt 140737488355328 w' h /\ h.ps.length <= h.pc := by
 have gs : GS w' (.slice h.ta h.ts.length h.tc) h.ts := row_kept t.gs fun k C _ q => hk k C _ q (by decide)
 have py : PY w' (.slice h.pa h.ps.length h.pc) h.ps := row_kept t.py fun k C _ q => hk k C _ q (by decide)
 have ly : LY w' (.slice h.la h.ls.length h.lc) h.ls := row_kept t.ly fun k C _ q => hk k C _ q (by decide)
 have nb := (hk _ _ _ t.nb (by decide)).trans t.nb
 refine ⟨GAt.mono (n := 9) ⟨?_, ?_, py.at fun p hp => ?_, ly.at fun p hp => ?_, ?_, ?_, by rw [T.tl]; omega, by rw [T.ns]; simp, by rw [T.pl]; omega, by rw [T.ll]; omega, fun p hp => ?_, fun p hp => ?_⟩ (by omega), t.py.cap⟩
 ·obtain ⟨a, c, e, hr, _⟩ := gs.row
  simp only [Value.slice.injEq] at e
  rw [e.1]
  exact hr
 ·rw [t.hn, t.ns]
  intro _
  refine ⟨na, 0, rfl, lt_of_block nb, fun i hi => ?_⟩
  have hi : i < 1 := hi
  obtain rfl : i = 0 := by omega
  exact (cellq_any nb).trans rfl
 ·obtain ⟨b, e, zs, z1, z2⟩ := t.pe p hp
  rw [e]
  exact YB.row ⟨zs, (hk _ _ _ z1 (by decide)).trans z1, z2⟩
 ·obtain ⟨b, e, zs, z1, z2⟩ := t.le p hp
  rw [e]
  exact NB.row ⟨zs, (hk _ _ _ z1 (by decide)).trans z1, z2⟩
 ·intro s hs
  rw [T.ts, List.mem_append, List.mem_map, List.mem_singleton] at hs
  rcases hs with ⟨i, _, rfl⟩ | rfl
  ·exact (by decide : 2 <= maxLen)
  ·exact (by decide : 1 <= maxLen)
 ·intro s hs
  rw [T.ns, List.mem_singleton] at hs
  subst hs
  exact (by decide : 1 <= maxLen)
 ·obtain ⟨i, hi, rfl⟩ := getD_mem (d := .none) hp
  rw [T.pl] at hi
  by_cases e : i = n
  ·subst e; rw [T.px.2.1]; simp
  ·rw [(T.pi i (by omega)).2.1]; simp
 ·obtain ⟨i, hi, rfl⟩ := getD_mem (d := .none) hp
  rw [T.ll] at hi
  rw [(T.li i hi).2]
  simp
theorem TbW.rs0 {W w8 : World} {bg be na o : Nat} {h : GV} {v : Value} (t : TbW W bg be na h (w8.setCell ⟨bg, o, none⟩ v)) : w8.heap[W.heap.size]? = some zG := by
 have e := t.rs
 rw [Below.heap_setCell _ _ _ _ (show W.heap.size ≠ bg by have := t.lo; omega)] at e
 exact e
theorem five_set {w : World} {b : Nat} (h : w.heap[b]? = some zG) (v0 v1 v2 v3 v4 : Value) :
  (((((w.setCell ⟨b, 0, none⟩ v0).setCell ⟨b, 1, none⟩ v1).setCell ⟨b, 2, none⟩ v2).setCell ⟨b, 3, none⟩ v3).setCell ⟨b, 4, none⟩ v4).heap[b]? = some (.cells #[v0, v1, v2, v3, v4] 26 (0, 0)) /\ (∀ j, j ≠ b -> (((((w.setCell ⟨b, 0, none⟩ v0).setCell ⟨b, 1, none⟩ v1).setCell ⟨b, 2, none⟩ v2).setCell ⟨b, 3, none⟩ v3).setCell ⟨b, 4, none⟩ v4).heap[j]? = w.heap[j]?) /\ ∀ (B : Nat) (w0 : World), Below B w0 w -> B <= b -> Below B w0 (((((w.setCell ⟨b, 0, none⟩ v0).setCell ⟨b, 1, none⟩ v1).setCell ⟨b, 2, none⟩ v2).setCell ⟨b, 3, none⟩ v3).setCell ⟨b, 4, none⟩ v4) := by
 refine ⟨heap_set (heap_set (heap_set (heap_set (heap_set h 0 v0) 1 v1) 2 v2) 3 v3) 4 v4, fun j hj => ?_, fun B w0 hb hB => ?_⟩
 ·rw [Below.heap_setCell _ _ _ _ hj, Below.heap_setCell _ _ _ _ hj, Below.heap_setCell _ _ _ _ hj, Below.heap_setCell _ _ _ _ hj, Below.heap_setCell _ _ _ _ hj]
 ·exact ((((hb.setCell (p := ⟨b, _, none⟩) hB _).setCell (p := ⟨b, _, none⟩) hB _).setCell (p := ⟨b, _, none⟩) hB _).setCell (p := ⟨b, _, none⟩) hB _).setCell (p := ⟨b, _, none⟩) hB _
end Go.Proofs.Ytlkkllehaabebaa
