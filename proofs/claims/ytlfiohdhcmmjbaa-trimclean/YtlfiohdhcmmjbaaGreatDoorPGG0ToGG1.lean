import Derived.Test.YtlfiohdhcmmjbaaGreatDoorPSGiven0ToHInt
import Derived.Test.YtlfiohdhcmmjbaaGreatDoorPReaderToGDec11
import Derived.Test.YtlfiohdhcmmjbaaGreatDoorPFSetToGIn2
import Derived.Test.YtlfiohdhcmmjbaaGreatDoorPRegXToFThy2
import Derived.Deep.RegionHeld3
namespace Go.Proofs.YtlfiohdhcmmjbaaGreatDoor
set_option linter.unusedVariables false
set_option maxRecDepth 100000
set_option maxHeartbeats 16000000
open Go.RowKit
def tyG : Nat -> TypeId := fun i => if i < 2 then 89 else if i < 4 then 41 else if i < 6 then 22 else if i < 8 then 83 else 47
def OkT (t : TypeId) : Prop := t ≠ 39 /\ t ≠ 89 /\ t ≠ 41 /\ t ≠ 22 /\ t ≠ 83 /\ t ≠ 47
theorem OkT.ty {t : TypeId} (h : OkT t) : t ≠ 39 /\ ∀ i, t ≠ tyG i := ⟨h.1, fun i => by
 unfold tyG
 split
 ·exact h.2.1
 ·split
  ·exact h.2.2.1
  ·split
   ·exact h.2.2.2.1
   ·split
    ·exact h.2.2.2.2.1
    ·exact h.2.2.2.2.2⟩
theorem okT_int : OkT 3 := by unfold OkT; decide
theorem okT_str : OkT 9 := by unfold OkT; decide
theorem okT_sym : OkT 54 := by unfold OkT; decide
theorem okT_prod : OkT 71 := by unfold OkT; decide
theorem okT_lev : OkT 78 := by unfold OkT; decide
theorem okT_gram : OkT 26 := by unfold OkT; decide
structure Oth (w w' : World) : Prop where
 size : w.heap.size <= w'.heap.size
 blk : ∀ (b : Nat) (C : Array Value) (t : TypeId), w.heap[b]? = some (.cells C t (0, 0)) -> OkT t -> w'.heap[b]? = w.heap[b]?
theorem Oth.refl (w : World) : Oth w w := ⟨Nat.le_refl _, fun _ _ _ _ _ => rfl⟩
theorem Oth.trans {w w1 w2 : World} (h : Oth w w1) (k : Oth w1 w2) : Oth w w2 := ⟨Nat.le_trans h.size k.size, fun b C t hb ht => (k.blk b C t ((h.blk b C t hb ht).trans hb) ht).trans (h.blk b C t hb ht)⟩
theorem Oth.ofBelow {w w' : World} (h : Below w.heap.size w w') : Oth w w' := ⟨h.size, fun b _ _ hb _ => h.block b (lt_of_block hb)⟩
def TB (w : World) (g : Nat) (xs : List ByteArray) : Prop := ∃ zs : List ByteArray, w.heap[g]? = some (.cells (zs.map Value.string).toArray 9 (0, 0)) /\ zs.take xs.length = xs
def YB (w : World) (g : Nat) (xs : List (Int × Int)) : Prop := ∃ zs : List (Int × Int), w.heap[g]? = some (.cells (symCells zs).toArray 54 (0, 0)) /\ zs.take xs.length = xs
def NB (w : World) (g : Nat) (xs : List Int) : Prop := ∃ zs : List Int, w.heap[g]? = some (.cells (zs.map (Value.int .i64 ·)).toArray 3 (0, 0)) /\ zs.take xs.length = xs
theorem TB.oth {w w' : World} {g : Nat} {xs : List ByteArray} (h : TB w g xs) (ho : Oth w w') : TB w' g xs := by obtain ⟨zs, h1, h2⟩ := h; exact ⟨zs, (ho.blk _ _ _ h1 okT_str).trans h1, h2⟩
theorem YB.oth {w w' : World} {g : Nat} {xs : List (Int × Int)} (h : YB w g xs) (ho : Oth w w') : YB w' g xs := by obtain ⟨zs, h1, h2⟩ := h; exact ⟨zs, (ho.blk _ _ _ h1 okT_sym).trans h1, h2⟩
theorem NB.oth {w w' : World} {g : Nat} {xs : List Int} (h : NB w g xs) (ho : Oth w w') : NB w' g xs := by obtain ⟨zs, h1, h2⟩ := h; exact ⟨zs, (ho.blk _ _ _ h1 okT_int).trans h1, h2⟩
theorem take_getD {α : Type} {zs xs : List α} {d : α} (h : zs.take xs.length = xs) {i : Nat} (hi : i < xs.length) : i < zs.length /\ xs.getD i d = zs.getD i d := by
 have hz : i < zs.length := by have := congrArg List.length h; simp at this; omega
 refine ⟨hz, ?_⟩
 rw [<- h]
 simp [List.getD, hi]
theorem TB.row {w : World} {g : Nat} {xs : List ByteArray} (h : TB w g xs) : StrRow w (some ⟨g, 0, none⟩) xs := by
 obtain ⟨zs, h1, h2⟩ := h
 refine fun _ => ⟨g, 0, rfl, lt_of_block h1, fun i hi => ?_⟩
 obtain ⟨hz, e⟩ := take_getD (d := ByteArray.empty) h2 hi
 rw [Nat.zero_add, cellq_any h1, e]
 simp [List.getD, hz]
theorem NB.row {w : World} {g : Nat} {xs : List Int} (h : NB w g xs) : InRow w (some ⟨g, 0, none⟩) xs := by
 obtain ⟨zs, h1, h2⟩ := h
 refine fun _ => ⟨g, 0, rfl, lt_of_block h1, fun i hi => ?_⟩
 obtain ⟨hz, e⟩ := take_getD (d := (0 : Int)) h2 hi
 rw [Nat.zero_add, cellq_any h1, e]
 simp [List.getD, hz]
theorem YB.row {w : World} {g : Nat} {xs : List (Int × Int)} (h : YB w g xs) : SymRow w (some ⟨g, 0, none⟩) xs := by
 obtain ⟨zs, h1, h2⟩ := h
 exact FullS.rowTake ⟨h1⟩ h2
structure StG (E : Nat -> List HE) : Prop where
 int : ∀ e ∈ E 1, e.t = 3 /\ e.sz = 1 /\ ∃ zs : List Int, e.cs = zs.map (Value.int .i64 ·)
 str : ∀ e ∈ E 2, e.t = 9 /\ e.sz = 1 /\ ∃ zs : List ByteArray, e.cs = zs.map Value.string
 sym : ∀ e ∈ E 4, e.t = 54 /\ e.sz = 2 /\ ∃ zs : List (Int × Int), e.cs = symCells zs
 no : ∀ κ, κ ≠ 1 -> κ ≠ 2 -> κ ≠ 4 -> E κ = []
structure HG (B : Nat) (w0 w : World) (q : Nat) (V : Nat -> Value) (E : Nat -> List HE) (n1 n2 n4 : Nat) : Prop where
 inv : HInv w q V tyG E
 lo : ∀ i k, (V i).ownBlock = some k -> B <= k
 q : B <= q
 bel : Below B w0 w
 sz : B <= w.heap.size
 st : StG E
 l1 : (E 1).length = n1
 l2 : (E 2).length = n2
 l4 : (E 4).length = n4
section
variable {B : Nat} {w0 w w' : World} {q : Nat} {V : Nat -> Value} {E : Nat -> List HE} {n1 n2 n4 : Nat}
theorem HG.later (h : HG B w0 w q V E n1 n2 n4) (hb : Below w.heap.size w w') : HG B w0 w' q V E n1 n2 n4 := ⟨h.inv.later hb, h.lo, h.q, h.bel.trans (hb.mono h.sz), Nat.le_trans h.sz hb.size, h.st, h.l1, h.l2, h.l4⟩
theorem HG.kept (h : HG B w0 w q V E n1 n2 n4) (hs : w.heap.size <= w'.heap.size) (hb : Below B w w') (hk : ∀ (k : Nat) (C : Array Value) (t : TypeId), w.heap[k]? = some (.cells C t (0, 0)) -> t ≠ 71 -> t ≠ 78 -> t ≠ 26 -> w'.heap[k]? = w.heap[k]?) : HG B w0 w' q V E n1 n2 n4 := by
 have ent : ∀ κ, ∀ e ∈ E κ, e.t ≠ 71 /\ e.t ≠ 78 /\ e.t ≠ 26 := fun κ e he => by
  by_cases k1 : κ = 1
  ·subst k1; rw [(h.st.int e he).1]; decide
  by_cases k2 : κ = 2
  ·subst k2; rw [(h.st.str e he).1]; decide
  by_cases k4 : κ = 4
  ·subst k4; rw [(h.st.sym e he).1]; decide
  rw [h.st.no κ k1 k2 k4] at he; cases he
 have tyn : ∀ i, tyG i ≠ 71 /\ tyG i ≠ 78 /\ tyG i ≠ 26 := fun i => by
  unfold tyG
  split
  ·decide
  ·split
   ·decide
   ·split
    ·decide
    ·split <;> decide
 refine ⟨⟨(hk _ _ _ h.inv.hq (by decide) (by decide) (by decide)).trans h.inv.hq, fun i => ?_, h.inv.apart, fun κ e he => (h.inv.at_ κ e he).keptBy fun k C hC => hk k C _ hC (ent κ e he).1 (ent κ e he).2.1 (ent κ e he).2.2, h.inv.tq, h.inv.te⟩, h.lo, h.q, h.bel.trans hb, Nat.le_trans h.sz hs, h.st, h.l1, h.l2, h.l4⟩
 exact row_kept (h.inv.row i) fun k C _ hC => hk k C _ hC (tyn i).1 (tyn i).2.1 (tyn i).2.2
structure HGOut (B : Nat) (w0 w w' : World) (q : Nat) (n1 n2 n4 : Nat) : Prop where
 ex : ∃ V' E', HG B w0 w' q V' E' n1 n2 n4
 oth : Oth w w'
 bel : Below B w w'
end
theorem PY.oth {w w' : World} {v : Value} {l : List PV} (h : PY w v l) (ho : Oth w w') : PY w' v l := row_kept h fun k C _ hC => ho.blk k C _ hC okT_prod
theorem LY.oth {w w' : World} {v : Value} {l : List LV} (h : LY w v l) (ho : Oth w w') : LY w' v l := row_kept h fun k C _ hC => ho.blk k C _ hC okT_lev
abbrev zG : Obj := .cells #[.slice none 0 0, .slice none 0 0, .int .i64 0, .slice none 0 0, .slice none 0 0] 26
abbrev oG (g : GV) (t0 n0 : Nat) (pa : Option Addr) (pn pc : Nat) (la : Option Addr) (ln lc : Nat) : Obj := .cells #[.slice (some ⟨t0, 0, none⟩) g.ts.length (g.ts.length + 3), .slice (some ⟨n0, 0, none⟩) g.ns.length (g.ns.length + 3), .int .i64 g.start, .slice pa pn pc, .slice la ln lc] 26
def RaC (x : PV) (b : Nat) : Prop := x.ra = some ⟨b, 0, none⟩ /\ x.right.length <= x.rc
structure GW (B : Nat) (w0 w : World) (q m1 m2 m4 : Nat) (g : GV) (p t0 n0 : Nat) (P : List PV) (L : List LV) (pa : Option Addr) (pc : Nat) (la : Option Addr) (lc : Nat) (wr : World) : Prop where
 hg : ∃ V E, HG B w0 wr q V E m1 m2 m4
 box : wr.heap[w.heap.size]? = some (gBox g)
 res : wr.heap[w.heap.size + 1]? = some zG
 out : wr.heap[p]? = some (oG g t0 n0 pa P.length pc la L.length lc)
 tb : TB wr t0 g.ts
 nb : TB wr n0 g.ns
 py : PY wr (.slice pa P.length pc) P
 plo : ∀ k, (Value.slice pa P.length pc).ownBlock = some k -> w.heap.size <= k
 pe : ∀ x ∈ P, ∃ b, RaC x b /\ YB wr b x.right
 ly : LY wr (.slice la L.length lc) L
 llo : ∀ k, (Value.slice la L.length lc).ownBlock = some k -> w.heap.size <= k
 le : ∀ x ∈ L, ∃ b, x.ta = some ⟨b, 0, none⟩ /\ NB wr b x.terms
 bel : Below B w wr
 sz : w.heap.size <= wr.heap.size
 Bw : B <= w.heap.size
 pB : w.heap.size <= p
 ot : Oth w wr
 p0 : w.heap.size ≠ p
 p1 : w.heap.size + 1 ≠ p
theorem py_ne {w : World} {v : Value} {l : List PV} (h : PY w v l) {b : Nat} {C : Array Value} {t : TypeId} {fz : Nat × Nat} (hb : w.heap[b]? = some (.cells C t fz)) (ht : t ≠ 71) : some b ≠ v.ownBlock := by
 rcases h.2 with ⟨rfl, _⟩ | ⟨g, cap, cur, rfl, h1, h2, h3⟩
 ·simp [Value.ownBlock]
 ·intro e
  simp only [Value.ownBlock, Option.some.injEq] at e
  subst e
  rw [h2] at hb
  simp at hb
  exact ht hb.2.1.symm
theorem ly_ne {w : World} {v : Value} {l : List LV} (h : LY w v l) {b : Nat} {C : Array Value} {t : TypeId} {fz : Nat × Nat} (hb : w.heap[b]? = some (.cells C t fz)) (ht : t ≠ 78) : some b ≠ v.ownBlock := by
 rcases h.2 with ⟨rfl, _⟩ | ⟨g, cap, cur, rfl, h1, h2, h3⟩
 ·simp [Value.ownBlock]
 ·intro e
  simp only [Value.ownBlock, Option.some.injEq] at e
  subst e
  rw [h2] at hb
  simp at hb
  exact ht hb.2.1.symm
theorem grew_belowB {B : Nat} {w w' : World} {v v' : Value} (hB : B <= w.heap.size) (hv : ∀ k, v.ownBlock = some k -> B <= k) (g : Grew w w' v v') : Below B w w' /\ ∀ k, v'.ownBlock = some k -> B <= k := by
 refine ⟨⟨g.grown.os, g.grown.tape, g.grown.output, g.grown.size, fun k hk => g.grown.block k (by omega) (fun e => by have := hv k e.symm; omega)⟩, fun k hk => ?_⟩
 rcases g.moved with r | ⟨m, r, hm⟩
 ·exact hv k (r ▸ hk)
 ·rw [hk] at r; have := Option.some.inj r; omega
section
variable {B : Nat} {w0 w : World} {q m1 m2 m4 : Nat} {g : GV} {p t0 n0 : Nat} {P : List PV} {L : List LV} {pa : Option Addr} {pc : Nat} {la : Option Addr} {lc : Nat} {wr w' : World}
theorem GW.given {k1 k2 k4 : Nat} (h : GW B w0 w q m1 m2 m4 g p t0 n0 P L pa pc la lc wr) (o : HGOut B w0 wr w' q k1 k2 k4) : GW B w0 w q k1 k2 k4 g p t0 n0 P L pa pc la lc w' :=
 ⟨o.ex, (o.oth.blk _ _ _ h.box okT_gram).trans h.box, (o.oth.blk _ _ _ h.res okT_gram).trans h.res, (o.oth.blk _ _ _ h.out okT_gram).trans h.out, h.tb.oth o.oth, h.nb.oth o.oth, h.py.oth o.oth, h.plo, fun x hx => by obtain ⟨b, e, y⟩ := h.pe x hx; exact ⟨b, e, y.oth o.oth⟩, h.ly.oth o.oth, h.llo, fun x hx => by obtain ⟨b, e, y⟩ := h.le x hx; exact ⟨b, e, y.oth o.oth⟩, h.bel.trans o.bel, Nat.le_trans h.sz o.oth.size, h.Bw, h.pB, h.ot.trans o.oth, h.p0, h.p1⟩
theorem GW.later (h : GW B w0 w q m1 m2 m4 g p t0 n0 P L pa pc la lc wr) (hb : Below wr.heap.size wr w') : GW B w0 w q m1 m2 m4 g p t0 n0 P L pa pc la lc w' := by
 obtain ⟨V, E, hv⟩ := h.hg
 exact h.given ⟨⟨V, E, hv.later hb⟩, Oth.ofBelow hb, hb.mono (Nat.le_trans h.Bw h.sz)⟩
theorem GW.prod {x : PV} {a' : Option Addr} {n' c' : Nat} (h : GW B w0 w q m1 m2 m4 g p t0 n0 P L pa pc la lc wr) (hy : PY w' (.slice a' n' c') (P ++ [x])) (hG : Grew wr w' (.slice pa P.length pc) (.slice a' n' c')) (hx : ∃ b, RaC x b /\ YB wr b x.right) :
  GW B w0 w q m1 m2 m4 g p t0 n0 (P ++ [x]) L a' c' la lc (w'.setCell ⟨p, 3, none⟩ (.slice a' n' c')) := by
 obtain ⟨V, E, hv⟩ := h.hg
 obtain ⟨hb, hlo⟩ := grew_belowB h.sz h.plo hG
 have hn : n' = (P ++ [x]).length := by obtain ⟨a2, c2, e⟩ := PY.len hy; simp only [Value.slice.injEq] at e; exact e.2.1
 subst hn
 have kb : ∀ (k : Nat) (C : Array Value) (t : TypeId), wr.heap[k]? = some (.cells C t (0, 0)) -> t ≠ 71 -> w'.heap[k]? = wr.heap[k]? := fun k C t hk ht => hG.grown.block k (lt_of_block hk) (py_ne h.py hk ht)
 have hout := (kb _ _ _ h.out (by decide)).trans h.out
 have kp : ∀ (k : Nat) (C : Array Value) (t : TypeId), wr.heap[k]? = some (.cells C t (0, 0)) -> t ≠ 71 -> t ≠ 26 -> (w'.setCell ⟨p, 3, none⟩ (.slice a' (P ++ [x]).length c')).heap[k]? = wr.heap[k]? := fun k C t hk ht hg' => by
  have e := kb k C t hk ht
  rw [Below.heap_setCell _ _ _ _ (fun e2 => by subst e2; rw [h.out] at hk; simp at hk; exact hg' hk.2.symm)]
  exact e
 have hs : wr.heap.size <= (w'.setCell ⟨p, 3, none⟩ (.slice a' (P ++ [x]).length c')).heap.size := by have := hG.grown.size; simpa [World.setCell] using this
 have hbw : Below w.heap.size wr (w'.setCell ⟨p, 3, none⟩ (.slice a' (P ++ [x]).length c')) := hb.setCell h.pB _
 have hbs := hbw.mono h.Bw
 have hot : Oth w (w'.setCell ⟨p, 3, none⟩ (.slice a' (P ++ [x]).length c')) := ⟨Nat.le_trans h.sz hs, fun b C t hb ht => (hbw.block b (lt_of_block hb)).trans (h.ot.blk b C t hb ht)⟩
 refine ⟨⟨V, E, hv.kept hs hbs fun k C t hk h1 _ h3 => kp k C t hk h1 h3⟩, ?_, ?_, ?_, ?_, ?_, ?_, hlo, ?_, ?_, h.llo, ?_, h.bel.trans hbs, Nat.le_trans h.sz hs, h.Bw, h.pB, hot, h.p0, h.p1⟩
 ·rw [Below.heap_setCell _ _ _ _ h.p0]; exact (kb _ _ _ h.box (by decide)).trans h.box
 ·rw [Below.heap_setCell _ _ _ _ h.p1]; exact (kb _ _ _ h.res (by decide)).trans h.res
 ·exact heap_set hout _ _
 ·obtain ⟨zs, z1, z2⟩ := h.tb; exact ⟨zs, (kp _ _ _ z1 (by decide) (by decide)).trans z1, z2⟩
 ·obtain ⟨zs, z1, z2⟩ := h.nb; exact ⟨zs, (kp _ _ _ z1 (by decide) (by decide)).trans z1, z2⟩
 ·exact row_kept hy fun k C _ hk => Below.heap_setCell _ _ _ _ (fun e2 => by subst e2; rw [hout] at hk; simp at hk)
 ·intro y hy'
  rcases List.mem_append.1 hy' with r | r
  ·obtain ⟨b, e, zs, z1, z2⟩ := h.pe y r; exact ⟨b, e, zs, (kp _ _ _ z1 (by decide) (by decide)).trans z1, z2⟩
  ·simp at r; subst r
   obtain ⟨b, e, zs, z1, z2⟩ := hx; exact ⟨b, e, zs, (kp _ _ _ z1 (by decide) (by decide)).trans z1, z2⟩
 ·exact row_kept h.ly fun k C _ hk => kp k C _ hk (by decide) (by decide)
 ·intro y hy'
  obtain ⟨b, e, zs, z1, z2⟩ := h.le y hy'; exact ⟨b, e, zs, (kp _ _ _ z1 (by decide) (by decide)).trans z1, z2⟩
theorem GW.lev {x : LV} {a' : Option Addr} {n' c' : Nat} (h : GW B w0 w q m1 m2 m4 g p t0 n0 P L pa pc la lc wr) (hy : LY w' (.slice a' n' c') (L ++ [x])) (hG : Grew wr w' (.slice la L.length lc) (.slice a' n' c')) (hx : ∃ b, x.ta = some ⟨b, 0, none⟩ /\ NB wr b x.terms) :
  GW B w0 w q m1 m2 m4 g p t0 n0 P (L ++ [x]) pa pc a' c' (w'.setCell ⟨p, 4, none⟩ (.slice a' n' c')) := by
 obtain ⟨V, E, hv⟩ := h.hg
 obtain ⟨hb, hlo⟩ := grew_belowB h.sz h.llo hG
 have hn : n' = (L ++ [x]).length := by obtain ⟨a2, c2, e⟩ := LY.len hy; simp only [Value.slice.injEq] at e; exact e.2.1
 subst hn
 have kb : ∀ (k : Nat) (C : Array Value) (t : TypeId), wr.heap[k]? = some (.cells C t (0, 0)) -> t ≠ 78 -> w'.heap[k]? = wr.heap[k]? := fun k C t hk ht => hG.grown.block k (lt_of_block hk) (ly_ne h.ly hk ht)
 have hout := (kb _ _ _ h.out (by decide)).trans h.out
 have kp : ∀ (k : Nat) (C : Array Value) (t : TypeId), wr.heap[k]? = some (.cells C t (0, 0)) -> t ≠ 78 -> t ≠ 26 -> (w'.setCell ⟨p, 4, none⟩ (.slice a' (L ++ [x]).length c')).heap[k]? = wr.heap[k]? := fun k C t hk ht hg' => by
  have e := kb k C t hk ht
  rw [Below.heap_setCell _ _ _ _ (fun e2 => by subst e2; rw [h.out] at hk; simp at hk; exact hg' hk.2.symm)]
  exact e
 have hs : wr.heap.size <= (w'.setCell ⟨p, 4, none⟩ (.slice a' (L ++ [x]).length c')).heap.size := by have := hG.grown.size; simpa [World.setCell] using this
 have hbw : Below w.heap.size wr (w'.setCell ⟨p, 4, none⟩ (.slice a' (L ++ [x]).length c')) := hb.setCell h.pB _
 have hbs := hbw.mono h.Bw
 have hot : Oth w (w'.setCell ⟨p, 4, none⟩ (.slice a' (L ++ [x]).length c')) := ⟨Nat.le_trans h.sz hs, fun b C t hb ht => (hbw.block b (lt_of_block hb)).trans (h.ot.blk b C t hb ht)⟩
 refine ⟨⟨V, E, hv.kept hs hbs fun k C t hk _ h2 h3 => kp k C t hk h2 h3⟩, ?_, ?_, ?_, ?_, ?_, ?_, h.plo, ?_, ?_, hlo, ?_, h.bel.trans hbs, Nat.le_trans h.sz hs, h.Bw, h.pB, hot, h.p0, h.p1⟩
 ·rw [Below.heap_setCell _ _ _ _ h.p0]; exact (kb _ _ _ h.box (by decide)).trans h.box
 ·rw [Below.heap_setCell _ _ _ _ h.p1]; exact (kb _ _ _ h.res (by decide)).trans h.res
 ·exact heap_set hout _ _
 ·obtain ⟨zs, z1, z2⟩ := h.tb; exact ⟨zs, (kp _ _ _ z1 (by decide) (by decide)).trans z1, z2⟩
 ·obtain ⟨zs, z1, z2⟩ := h.nb; exact ⟨zs, (kp _ _ _ z1 (by decide) (by decide)).trans z1, z2⟩
 ·exact row_kept h.py fun k C _ hk => kp k C _ hk (by decide) (by decide)
 ·intro y hy'
  obtain ⟨b, e, zs, z1, z2⟩ := h.pe y hy'; exact ⟨b, e, zs, (kp _ _ _ z1 (by decide) (by decide)).trans z1, z2⟩
 ·exact row_kept hy fun k C _ hk => Below.heap_setCell _ _ _ _ (fun e2 => by subst e2; rw [hout] at hk; simp at hk)
 ·intro y hy'
  rcases List.mem_append.1 hy' with r | r
  ·obtain ⟨b, e, zs, z1, z2⟩ := h.le y r; exact ⟨b, e, zs, (kp _ _ _ z1 (by decide) (by decide)).trans z1, z2⟩
  ·simp at r; subst r
   obtain ⟨b, e, zs, z1, z2⟩ := hx; exact ⟨b, e, zs, (kp _ _ _ z1 (by decide) (by decide)).trans z1, z2⟩
theorem GW.app {x : PV} {o : Obj} (h : GW B w0 w q m1 m2 m4 g p t0 n0 P L pa pc la lc wr) (hx : ∃ b, RaC x b /\ YB wr b x.right) (a' : Option Addr) (n' c' : Nat) (w4 : World) (hy : PY w4 (.slice a' n' c') (P ++ [x])) (hG : Grew (wr.alloc o) w4 (.slice pa P.length pc) (.slice a' n' c')) :
  w4.cell? ⟨p, 3, none⟩ = some (.slice pa P.length pc) /\ w4.frozen? ⟨p, 3, none⟩ = false /\ GW B w0 w q m1 m2 m4 g p t0 n0 (P ++ [x]) L a' c' la lc (w4.setCell ⟨p, 3, none⟩ (.slice a' n' c')) /\ Below B w w4 /\ w4.heap[w.heap.size]? = some (gBox g) := by
 have h3 := h.later (below_alloc wr o)
 have k4 : w4.heap[p]? = some (oG g t0 n0 pa P.length pc la L.length lc) := (hG.grown.block _ (lt_of_block h3.out) (py_ne h3.py h3.out (by decide))).trans h3.out
 refine ⟨(cellq_any k4).trans rfl, by simp [World.frozen?, k4], h3.prod hy hG ?_, h3.bel.trans ((grew_belowB h3.sz h3.plo hG).1.mono h3.Bw), (hG.grown.block _ (lt_of_block h3.box) (py_ne h3.py h3.box (by decide))).trans h3.box⟩
 obtain ⟨b, e, y⟩ := hx
 exact ⟨b, e, y.oth (Oth.ofBelow (below_alloc wr o))⟩
end
theorem pro_get : ∀ (l : List PV) (i : Nat), i < l.length -> (proCells l)[i * 3]? = some (.int .i64 (l.getD i .none).left) /\ (proCells l)[i * 3 + 1]? = some (.slice (l.getD i .none).ra (l.getD i .none).right.length (l.getD i .none).rc) /\ (proCells l)[i * 3 + 2]? = some (.int .i64 (l.getD i .none).prec)
 | [], i, h => by simp at h
 | q :: r, 0, _ => by simp [proCells]
 | q :: r, i + 1, h => by
  have := pro_get r i (by simpa using h)
  have e : proCells (q :: r) = .int .i64 q.left :: .slice q.ra q.right.length q.rc :: .int .i64 q.prec :: proCells r := rfl
  rw [e, show (i + 1) * 3 = i * 3 + 1 + 1 + 1 by omega]
  simpa using this
theorem lev_get : ∀ (l : List LV) (i : Nat), i < l.length -> (levCells l)[i * 2]? = some (.int .i64 (l.getD i .none).assoc) /\ (levCells l)[i * 2 + 1]? = some (.slice (l.getD i .none).ta (l.getD i .none).terms.length (l.getD i .none).tc)
 | [], i, h => by simp at h
 | q :: r, 0, _ => by simp [levCells]
 | q :: r, i + 1, h => by
  have := lev_get r i (by simpa using h)
  have e : levCells (q :: r) = .int .i64 q.assoc :: .slice q.ta q.terms.length q.tc :: levCells r := rfl
  rw [e, show (i + 1) * 2 = i * 2 + 1 + 1 by omega]
  simpa using this
theorem set5 {w : World} {b p : Nat} {o : Obj} (hn : b ≠ p) (h : w.heap[b]? = some o) (i0 i1 i2 i3 i4 : Nat) (v0 v1 v2 v3 v4 : Value) : (((((w.setCell ⟨p, i0, none⟩ v0).setCell ⟨p, i1, none⟩ v1).setCell ⟨p, i2, none⟩ v2).setCell ⟨p, i3, none⟩ v3).setCell ⟨p, i4, none⟩ v4).heap[b]? = some o := by
 rw [Below.heap_setCell _ _ _ _ hn, Below.heap_setCell _ _ _ _ hn, Below.heap_setCell _ _ _ _ hn, Below.heap_setCell _ _ _ _ hn, Below.heap_setCell _ _ _ _ hn]
 exact h
structure GX (w : World) (x : GV) : Prop where
 t : ∃ b, x.ta = some ⟨b, 0, none⟩ /\ TB w b x.ts
 n : ∃ b, x.na = some ⟨b, 0, none⟩ /\ TB w b x.ns
 p : PY w (.slice x.pa x.ps.length x.pc) x.ps
 pe : ∀ p ∈ x.ps, ∃ b, RaC p b /\ YB w b p.right
 l : LY w (.slice x.la x.ls.length x.lc) x.ls
 le : ∀ p ∈ x.ls, ∃ b, p.ta = some ⟨b, 0, none⟩ /\ NB w b p.terms
theorem PY.at {w : World} {a : Option Addr} {n c : Nat} {l : List PV} (hr : PY w (.slice a n c) l) (he : ∀ p ∈ l, SymRow w p.ra p.right) : PrRow w a l := by
 refine ⟨fun hne => ?_, he⟩
 rcases hr.2 with ⟨e, h0⟩ | ⟨g, cap, cur, e, h1, h2, h3⟩
 ·exact absurd (List.eq_nil_of_length_eq_zero h0) hne
 ·have hc := fun j x hx => World.ownsRow.cells hr (g := g) (by rw [e]; rfl) j x hx
  cases e
  refine ⟨g, 0, rfl, lt_of_block h2, fun i hi => ?_⟩
  obtain ⟨q1, q2, q3⟩ := pro_get l i hi
  have r1 := hc _ _ q1
  have r2 := hc _ _ q2
  have r3 := hc _ _ q3
  rw [add_none] at r1 r2 r3
  exact ⟨by simpa using r1, by simpa [Nat.add_assoc] using r2, by simpa [Nat.add_assoc] using r3⟩
theorem LY.at {w : World} {a : Option Addr} {n c : Nat} {l : List LV} (hr : LY w (.slice a n c) l) (he : ∀ p ∈ l, InRow w p.ta p.terms) : LvRow w a l := by
 refine ⟨fun hne => ?_, he⟩
 rcases hr.2 with ⟨e, h0⟩ | ⟨g, cap, cur, e, h1, h2, h3⟩
 ·exact absurd (List.eq_nil_of_length_eq_zero h0) hne
 ·have hc := fun j x hx => World.ownsRow.cells hr (g := g) (by rw [e]; rfl) j x hx
  cases e
  refine ⟨g, 0, rfl, lt_of_block h2, fun i hi => ?_⟩
  obtain ⟨q1, q2⟩ := lev_get l i hi
  have r1 := hc _ _ q1
  have r2 := hc _ _ q2
  rw [add_none] at r1 r2
  exact ⟨by simpa using r1, by simpa [Nat.add_assoc] using r2⟩
theorem PY.cap {w : World} {a : Option Addr} {n c : Nat} {l : List PV} (h : PY w (.slice a n c) l) : l.length <= c := by
 rcases h.2 with ⟨e, h0⟩ | ⟨g, cap, cur, e, h1, h2, h3, h4⟩
 ·omega
 ·cases e; omega
theorem GX.at {w : World} {n : Nat} {g x : GV} (h : GX w x) (hs : SameG g x) {w0 : World} (hg : GAt n w0 g) : GAt n w x /\ x.ps.length <= x.pc := by
 have hp : x.ps.length = g.ps.length := by simpa using congrArg List.length hs.ps
 have hl : x.ls.length = g.ls.length := by simpa using congrArg List.length hs.ls
 obtain ⟨tb, te, tt⟩ := h.t
 obtain ⟨nb, ne, nt⟩ := h.n
 refine ⟨⟨te ▸ tt.row, ne ▸ nt.row, h.p.at fun p hp => ?_, h.l.at fun p hp => ?_, ?_, ?_, by rw [hs.ts]; exact hg.tl, by rw [hs.ns]; exact hg.nl, by rw [hp]; exact hg.pl, by rw [hl]; exact hg.ll, ?_, ?_⟩, h.p.cap⟩
 ·obtain ⟨b, e, y⟩ := h.pe p hp; rw [e.1]; exact y.row
 ·obtain ⟨b, e, y⟩ := h.le p hp; rw [e]; exact y.row
 ·rw [hs.ts]; exact hg.tz
 ·rw [hs.ns]; exact hg.nz
 ·intro p hp'
  have : p.core ∈ g.ps.map PV.core := hs.ps ▸ List.mem_map_of_mem hp'
  obtain ⟨q, hq, e⟩ := List.mem_map.1 this
  have e' : q.right = p.right := congrArg (·.2.1) e
  rw [<- e']; exact hg.rl q hq
 ·intro p hp'
  have : p.core ∈ g.ls.map LV.core := hs.ls ▸ List.mem_map_of_mem hp'
  obtain ⟨q, hq, e⟩ := List.mem_map.1 this
  have e' : q.terms = p.terms := congrArg (·.2) e
  rw [<- e']; exact hg.vl q hq
theorem GX.later {w w' : World} {x : GV} (h : GX w x) (hb : Below w.heap.size w w') : GX w' x :=
 ⟨by obtain ⟨b, e, y⟩ := h.t; exact ⟨b, e, y.oth (Oth.ofBelow hb)⟩, by obtain ⟨b, e, y⟩ := h.n; exact ⟨b, e, y.oth (Oth.ofBelow hb)⟩, h.p.later hb, fun p hp => by obtain ⟨b, e, y⟩ := h.pe p hp; exact ⟨b, e, y.oth (Oth.ofBelow hb)⟩, h.l.later hb, fun p hp => by obtain ⟨b, e, y⟩ := h.le p hp; exact ⟨b, e, y.oth (Oth.ofBelow hb)⟩⟩
theorem GW.fin {B : Nat} {w0 w : World} {q m1 m2 m4 : Nat} {g : GV} {p t0 n0 : Nat} {P : List PV} {L : List LV} {pa : Option Addr} {pc : Nat} {la : Option Addr} {lc : Nat} {wr : World} (h : GW B w0 w q m1 m2 m4 g p t0 n0 P L pa pc la lc wr) (v0 v1 v2 v3 v4 : Value) :
  GX (((((wr.setCell ⟨w.heap.size + 1, 0, none⟩ v0).setCell ⟨w.heap.size + 1, 1, none⟩ v1).setCell ⟨w.heap.size + 1, 2, none⟩ v2).setCell ⟨w.heap.size + 1, 3, none⟩ v3).setCell ⟨w.heap.size + 1, 4, none⟩ v4) ⟨some ⟨t0, 0, none⟩, g.ts.length + 3, g.ts, some ⟨n0, 0, none⟩, g.ns.length + 3, g.ns, g.start, pa, pc, P, la, lc, L⟩ /\
  HGOut B w0 w (((((wr.setCell ⟨w.heap.size + 1, 0, none⟩ v0).setCell ⟨w.heap.size + 1, 1, none⟩ v1).setCell ⟨w.heap.size + 1, 2, none⟩ v2).setCell ⟨w.heap.size + 1, 3, none⟩ v3).setCell ⟨w.heap.size + 1, 4, none⟩ v4) q m1 m2 m4 := by
 have hb : Below w.heap.size wr (((((wr.setCell ⟨w.heap.size + 1, 0, none⟩ v0).setCell ⟨w.heap.size + 1, 1, none⟩ v1).setCell ⟨w.heap.size + 1, 2, none⟩ v2).setCell ⟨w.heap.size + 1, 3, none⟩ v3).setCell ⟨w.heap.size + 1, 4, none⟩ v4) :=
  (((((Below.refl _ _).setCell (Nat.le_succ _) _).setCell (Nat.le_succ _) _).setCell (Nat.le_succ _) _).setCell (Nat.le_succ _) _).setCell (Nat.le_succ _) _
 have kk : ∀ (k : Nat) (C : Array Value) (t : TypeId), wr.heap[k]? = some (.cells C t (0, 0)) -> t ≠ 26 -> (((((wr.setCell ⟨w.heap.size + 1, 0, none⟩ v0).setCell ⟨w.heap.size + 1, 1, none⟩ v1).setCell ⟨w.heap.size + 1, 2, none⟩ v2).setCell ⟨w.heap.size + 1, 3, none⟩ v3).setCell ⟨w.heap.size + 1, 4, none⟩ v4).heap[k]? = some (.cells C t (0, 0)) := fun k C t hk ht =>
  set5 (fun e => by subst e; rw [h.res] at hk; simp at hk; exact ht hk.2.symm) hk _ _ _ _ _ _ _ _ _ _
 obtain ⟨V, E, hv⟩ := h.hg
 refine ⟨⟨⟨t0, rfl, ?_⟩, ⟨n0, rfl, ?_⟩, ?_, ?_, ?_, ?_⟩, ⟨⟨V, E, hv.kept hb.size (hb.mono h.Bw) fun k C t hk _ _ h3 => (kk k C t hk h3).trans hk.symm⟩, ⟨Nat.le_trans h.sz hb.size, fun b C t hb2 ht => (hb.block b (lt_of_block hb2)).trans (h.ot.blk b C t hb2 ht)⟩, h.bel.trans (hb.mono h.Bw)⟩⟩
 ·obtain ⟨zs, z1, z2⟩ := h.tb; exact ⟨zs, kk _ _ _ z1 (by decide), z2⟩
 ·obtain ⟨zs, z1, z2⟩ := h.nb; exact ⟨zs, kk _ _ _ z1 (by decide), z2⟩
 ·exact row_kept h.py fun k C _ hk => (kk k C _ hk (by decide)).trans hk.symm
 ·intro x hx
  obtain ⟨b, e, zs, z1, z2⟩ := h.pe x hx; exact ⟨b, e, zs, kk _ _ _ z1 (by decide), z2⟩
 ·exact row_kept h.ly fun k C _ hk => (kk k C _ hk (by decide)).trans hk.symm
 ·intro x hx
  obtain ⟨b, e, zs, z1, z2⟩ := h.le x hx; exact ⟨b, e, zs, kk _ _ _ z1 (by decide), z2⟩
end Go.Proofs.YtlfiohdhcmmjbaaGreatDoor
