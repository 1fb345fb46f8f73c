import Derived.Deep.RegionHeld3
import Derived.StillTail
import Derived.WalkKit
import Derived.StillTactics
import Derived.Deep.Quiet
import Derived.Test.YtjpknihkcndoiaaGreatPBBaseToGRow
import Derived.Laws.OwnMore
import Derived.Deep.LoopGhost
namespace Go.Proofs.YtjpknihkcndoiaaGreat
set_option linter.unusedVariables false
set_option maxRecDepth 100000
set_option maxHeartbeats 16000000
open Go.RowKit
section
variable {P : Program} {ops : Array Oper} {Q : Exit -> Act -> World -> Prop} {md : Region.Mode} {S : Array Bool -> World -> Prop}
def wpAnyX (P : Program) (md : Region.Mode) (ops : Array Oper) (Q : Exit -> Act -> World -> Prop) (S : Array Bool -> World -> Prop) : Nat -> Array Bool -> Act -> World -> Prop
 | 0, listed, a, w => Region.ready md ops listed = [] /\ Q .normal a w
 | fuel + 1, listed, a, w =>
  (Region.ready md ops listed = [] -> Q .normal a w) /\
  ∀ i ∈ Region.ready md ops listed, wpOp P ops Q i (fun a' w' => S (listed.setIfInBounds i true) w' /\ wpAnyX P md ops Q S fuel (listed.setIfInBounds i true) a' w') a w
theorem wpAny_of_x : ∀ (fuel : Nat) (listed : Array Bool) (a : Act) (w : World), wpAnyX P md ops Q S fuel listed a w -> wpAny P md ops Q fuel listed a w
 | 0, _, _, _, h => h
 | fuel + 1, _, _, _, h => ⟨h.1, fun i hi => wpOp_mono (fun a' w' h' => wpAny_of_x fuel _ a' w' h'.2) (h.2 i hi)⟩
theorem wp_region_x {id : Nat} {a : Act} {w : World} (hm : P.follows .mixedOrders = true)
  (h : wpAnyX P .any ops Q S ops.size (Array.replicate ops.size false) a w.drew) : (Code.region id ops true).wp P Q a w :=
 wp_region_any hm (wpAny_of_x _ _ _ _ h)
theorem wpAnyX_first {i : Nat} {oi : Oper} {v : Value} {T : World -> Prop} {Cl : Array Bool -> Prop} (hi : ops[i]? = some oi) (hsel : ∀ (j : Nat) (o : Oper) cs b, ops[j]? = some o -> o.op ≠ .select cs b)
  (hQ : ∀ c a w, Q (.panic c) (a.put oi.dst v) w -> Q (.panic c) a w) (hCl : ∀ L j, Cl L -> j ∈ Region.ready md ops L -> Cl (L.setIfInBounds j true))
  (hST : ∀ L w, Cl L -> L.getD i true = false -> S L w -> T w) (hSi : ∀ L w, S (L.setIfInBounds i true) w ↔ S L w) :
  ∀ (fuel : Nat) (listed : Array Bool) (a : Act) (w : World),
   (∀ j oj, ops[j]? = some oj -> j ≠ i -> listed.getD j true = false -> (∀ e ∈ oj.after, Region.binds md e = true -> e.on ≠ i) -> oi.apart ops oj = true) ->
   i ∈ Region.ready md ops listed -> Cl listed -> YieldsIf P ops T oi v a -> S listed w ->
   wpAnyX P md ops Q S fuel (listed.setIfInBounds i true) (a.put oi.dst v) w -> wpAnyX P md ops Q S (fuel + 1) listed a w := by
 intro fuel
 induction fuel with
 | zero =>
  intro listed a w _ hr hc hy hS H
  refine ⟨fun h => (by rw [h] at hr; cases hr), fun j hj => ?_⟩
  by_cases hji : j = i
  ·subst hji; exact hy.wpOp hi (hST _ _ hc (mem_ready.1 hr).1 hS) ⟨(hSi _ _).2 hS, H⟩
  ·have := ready_mono hj hji
   rw [H.1] at this
   cases this
 | succ fuel ih =>
  intro listed a w hfree hr hc hy hS H
  refine ⟨fun h => (by rw [h] at hr; cases hr), fun j hj => ?_⟩
  by_cases hji : j = i
  ·subst hji; exact hy.wpOp hi (hST _ _ hc (mem_ready.1 hr).1 hS) ⟨(hSi _ _).2 hS, H⟩
  ·have h1 := H.2 j (ready_mono hj hji)
   obtain ⟨hjun, oj, hoj, hall⟩ := mem_ready.1 hj
   have hnot : ∀ e ∈ oj.after, Region.binds md e = true -> e.on ≠ i := fun e he hb heq => by
    have h1 := hall e he hb
    have h0 := (mem_ready.1 hr).1
    rw [heq] at h1
    rcases Nat.lt_or_ge i listed.size with h' | h'
    ·simp [h'] at h0 h1; rw [h0] at h1; cases h1
    ·simp [Array.getElem?_eq_none h'] at h1
   have h2 := wpOp_putIf hoj (hfree j oj hoj hji hjun hnot) (fun cs b => hsel i oi cs b hi) (fun cs b => hsel j oj cs b hoj) hQ hy h1
   have hfree' : ∀ k ok, ops[k]? = some ok -> k ≠ i -> (listed.setIfInBounds j true).getD k true = false ->
     (∀ e ∈ ok.after, Region.binds md e = true -> e.on ≠ i) -> oi.apart ops ok = true := fun k ok hk hki hun hno => by
    refine hfree k ok hk hki ?_ hno
    by_cases hjk : j = k
    ·subst hjk; exact hjun
    ·rw [getD_set_ne true hjk] at hun; exact hun
   refine wpOp_mono (fun a' w' h3 => ?_) h2
   have hs : S (listed.setIfInBounds j true) w' := by
    have := h3.2.1
    rw [Array.setIfInBounds_comm _ _ (Ne.symm hji)] at this
    exact (hSi _ _).1 this
   refine ⟨hs, ih (listed.setIfInBounds j true) a' w' hfree' (ready_mono hr (Ne.symm hji)) (hCl _ _ hc hj) h3.1 hs ?_⟩
   rw [Array.setIfInBounds_comm _ _ hji]
   exact h3.2.2
def SX (m : Nat) (S0 S1 : World -> Prop) (L : Array Bool) (w : World) : Prop := S0 w /\ (L.getD m false = false -> S1 w)
theorem SX.both {m : Nat} {S0 S1 : World -> Prop} {L : Array Bool} {w : World} (h0 : S0 w) (h1 : S1 w) : SX m S0 S1 L w := ⟨h0, fun _ => h1⟩
theorem SX.one {m : Nat} {S0 S1 : World -> Prop} {L : Array Bool} {w : World} (h0 : S0 w) (hm : L.getD m false = true) : SX m S0 S1 L w := ⟨h0, fun h => by rw [hm] at h; cases h⟩
def lastB (md : Region.Mode) (ops : Array Oper) (m : Nat) : Bool := (List.range m).all fun i => Region.waitsFor md ops m i
def ClX (m : Nat) (L : Array Bool) : Prop := L.getD m false = true -> ∀ i, i < m -> L.getD i false = true
theorem ClX.next {m : Nat} (hl : lastB md ops m = true) (L : Array Bool) (j : Nat) (h : ClX m L) (hj : j ∈ Region.ready md ops L) : ClX m (L.setIfInBounds j true) := by
 intro hm i hi
 by_cases hjm : j = m
 ·subst hjm
  obtain ⟨_, oj, hoj, hall⟩ := mem_ready.1 hj
  have h1 := List.all_eq_true.1 hl i (List.mem_range.2 hi)
  obtain ⟨o', ho', e, he, hb, hon⟩ := Region.waitsFor_spec h1
  obtain rfl : o' = oj := Option.some.inj (ho'.symm.trans hoj)
  have h2 := hall e he hb
  rw [hon] at h2
  exact getD_set_true h2
 ·rw [getD_set_ne false hjm] at hm
  exact getD_set_true (h hm i hi)
theorem wpAnyX_take {m i : Nat} {oi : Oper} {v : Value} {S0 S1 : World -> Prop} {fuel : Nat} {listed : Array Bool} {a : Act} {w : World} (hi' : ops.toList[i]? = some oi)
  (hs : Region.noSelect ops = true) (hl : lastB md ops m = true) (him : i < m) (hf : Region.free md ops listed i = true) (hr : (Region.ready md ops listed).contains i = true)
  (hQ : ∀ c a w, Q (.panic c) (a.put oi.dst v) w -> Q (.panic c) a w) (hc0 : listed.getD m false = false) (hy : YieldsIf P ops (fun w => S0 w /\ S1 w) oi v a) (hS : SX m S0 S1 listed w)
  (h : wpAnyX P md ops Q (SX m S0 S1) fuel (listed.setIfInBounds i true) (a.put oi.dst v) w) : wpAnyX P md ops Q (SX m S0 S1) (fuel + 1) listed a w :=
 have hi : ops[i]? = some oi := by rw [<- Array.getElem?_toList]; exact hi'
 wpAnyX_first (Cl := ClX m) hi (Region.noSelect_spec hs) hQ (ClX.next hl)
  (fun L w hc hun hS => ⟨hS.1, hS.2 (by
   cases e : L.getD m false with
   | false => rfl
   | true => have := hc e i him; rw [getD_both hun] at this; cases this)⟩)
  (fun L w => by
   have e : (L.setIfInBounds i true).getD m false = L.getD m false := getD_set_ne false (by omega)
   unfold SX
   rw [e]) fuel listed a w (Region.free_spec hi hf) (by simpa using hr) (fun e => by rw [hc0] at e; cases e) hy hS h
theorem wpAnyX_one {j : Nat} {o : Oper} {fuel : Nat} {listed : Array Bool} {a : Act} {w : World} (hr : Region.ready md ops listed = [j]) (ho' : ops.toList[j]? = some o)
  (h : ∀ K' : Act -> World -> Prop, Shut (∀ a' w', S (listed.setIfInBounds j true) w' -> wpAnyX P md ops Q S fuel (listed.setIfInBounds j true) a' w' -> K' a' w') -> if Region.wanted o (yielded ops a.tmps) = true then Oper.wp P o a w K' Q else K' (a.put o.dst undef) w) :
  wpAnyX P md ops Q S (fuel + 1) listed a w := by
 refine ⟨fun h0 => (by rw [hr] at h0; cases h0), fun i hi => ?_⟩
 rw [hr] at hi
 obtain rfl : i = j := by simpa using hi
 have ho : ops[i]? = some o := by rw [<- Array.getElem?_toList]; exact ho'
 exact wpOp_step ho (fun K' hK => h K' (fun a' w' hS hW => hK a' w' ⟨hS, hW⟩))
theorem step_callX {o : Oper} {a : Act} {w : World} {K : Act -> World -> Prop} {E : Prop} (hg : o.guard = none) (f : FuncId) (args : Array Value) (R : Ending -> World -> Prop)
  (hrun : (execOp a.eval o).run P w = .ok (.enter f args) w) (hC : Calls P f args w R) (hK : ∀ e w', R e w' -> ∃ v, e = .returned v /\ K (a.put o.dst v) w') :
  if Region.wanted o (yielded ops a.tmps) = true then Oper.wp P o a w K Q else E := by
 have hw : Region.wanted o (yielded ops a.tmps) = true := by simp [Region.wanted, hg]
 rw [if_pos hw]
 show o.upon P a K Q ((execOp a.eval o).run P w)
 rw [hrun, Oper.upon_enter]
 refine hC.mono fun e w' hR => ?_
 obtain ⟨v, rfl, hk⟩ := hK e w' hR
 exact hk
theorem wpAnyX_done {listed : Array Bool} {a : Act} {w : World} (hr : Region.ready md ops listed = []) (h : Q .normal a w) : wpAnyX P md ops Q S 0 listed a w := ⟨hr, h⟩
end
theorem lsA {α : Type} {xs : List α} {i : Nat} {a : α} : xs.toArray.setIfInBounds i a = (xs.set i a).toArray := List.setIfInBounds_toArray ..
theorem lsZ {α : Type} {a b : α} {l : List α} : (a :: l).set 0 b = b :: l := rfl
theorem lsN {α : Type} {a b : α} {l : List α} {n : Nat} : (a :: l).set (n + 1) b = a :: l.set n b := rfl
theorem wtT {P : Program} {ops : Array Oper} {Q : Exit → Act → World → Prop} {md : Region.Mode} {m i : Nat} {oi : Oper} {v : Value} {S0 S1 : World → Prop} {fuel : Nat} {listed : Array Bool} {a : Act} {w : World} (hi' : ops.toList[i]? = some oi) (hy : YieldsIf P ops (fun w => S0 w ∧ S1 w) oi v a) (hS : SX m S0 S1 listed w) (h : wpAnyX P md ops Q (SX m S0 S1) fuel (listed.setIfInBounds i true) (a.put oi.dst v) w)
    (hs : Region.noSelect ops = true := by kernel_rfl) (hl : lastB md ops m = true := by kernel_rfl) (him : i < m := by decide) (hf : Region.free md ops listed i = true := by decide +kernel) (hr : (Region.ready md ops listed).contains i = true := by decide +kernel) (hQ : ∀ c a w, Q (.panic c) (a.put oi.dst v) w → Q (.panic c) a w := by exact fun _ _ _ h => h) (hc0 : listed.getD m false = false := by kernel_rfl) : wpAnyX P md ops Q (SX m S0 S1) (fuel + 1) listed a w := wpAnyX_take hi' hs hl him hf hr hQ hc0 hy hS h
structure WS (P : Program) (ops : Array Oper) (w : World) (Q : Act -> Prop) (l : List Oper) (a : Act) : Prop where
 out : wpStill P ops w Q l a
theorem st_yes {P : Program} {ops : Array Oper} {w : World} {Q : Act -> Prop} {a : Act} {o : Oper} {rest : List Oper} {v : Value} (hw : Region.wanted o (yielded ops a.tmps) = true) (hr : (execOp a.eval o).run P w = .ok (.value v) w) (h : WS P ops w Q rest (a.put o.dst v)) : WS P ops w Q (o :: rest) a := by
 refine ⟨?_⟩
 unfold wpStill
 rw [if_pos hw]
 show o.stillUpon P a w _ _
 rw [hr, Oper.stillUpon_value]
 exact h.out
theorem st_no {P : Program} {ops : Array Oper} {w : World} {Q : Act -> Prop} {a : Act} {o : Oper} {rest : List Oper} (hw : Region.wanted o (yielded ops a.tmps) = false) (h : WS P ops w Q rest (a.put o.dst undef)) : WS P ops w Q (o :: rest) a := by
 refine ⟨?_⟩
 unfold wpStill
 rw [if_neg (by rw [hw]; exact Bool.false_ne_true)]
 exact h.out
theorem st_nil {P : Program} {ops : Array Oper} {w : World} {Q : Act -> Prop} {a : Act} (h : Q a) : WS P ops w Q [] a := ⟨h⟩
theorem wp_region_tail_d {P : Program} {id : Nat} {Q : Exit -> Act -> World -> Prop} {a : Act} {w : World} {l : List Oper} (n : Nat) (hm : P.follows .mixedOrders = true) (hB : Region.lexTailB .any l.toArray n = true) (wd : World) (hwd : wd = w.drew)
  (h : wpStill P l.toArray wd (fun a' => wpList P l.toArray Q (l.drop n) a' wd) (l.take n) a) : (Code.region id l.toArray true).wp P Q a w := by
 subst hwd
 exact wp_region_still_tail n hm hB h
theorem wp_region_tail_s {P : Program} {id : Nat} {Q : Exit -> Act -> World -> Prop} {a : Act} {w : World} {l : List Oper} (n : Nat) (hm : P.follows .mixedOrders = true) (hB : Region.lexTailB .any l.toArray n = true) (wd : World) (hwd : wd = w.drew)
  (h : WS P l.toArray wd (fun a' => wpList P l.toArray Q (l.drop n) a' wd) (l.take n) a) : (Code.region id l.toArray true).wp P Q a w := wp_region_tail_d n hm hB wd hwd h.out
theorem wp_region_s {P : Program} {id : Nat} {Q : Exit -> Act -> World -> Prop} {a : Act} {w : World} {l : List Oper} (hm : P.follows .mixedOrders = true) (hB : Region.lexB .any l.toArray = true) (wd : World) (hwd : wd = w.drew)
  (h : WS P l.toArray wd (fun a' => Q .normal a' wd) l a) : (Code.region id l.toArray true).wp P Q a w := by
 subst hwd
 exact wp_region_still_lit hm hB h.out
structure RK {α : Type} (τ σ : TypeId) (k : Nat) (f : α -> List Value) : Prop where
 und : Tryz.prog.underlying σ = some (.slice τ)
 info : ∃ i z, Tryz.prog.info? τ = some i /\ i.zero = some z /\ i.size = k /\ i.bytes <= 128 /\ z.cells.size = k
 pos : 0 < k
 len : ∀ x, (f x).length = k
 one : ∀ x, ∀ u ∈ f x, u.oneCell' = true
def RO {α : Type} (τ : TypeId) (k : Nat) (f : α -> List Value) (w : World) (v : Value) (l : List α) : Prop := w.ownsRow 0 τ k v l.length (l.flatMap f)
section
variable {α : Type} {τ σ : TypeId} {k : Nat} {f : α -> List Value}
theorem fm_get (hf : ∀ x, (f x).length = k) : ∀ (l : List α) (i : Nat) (h : i < l.length) (j : Nat), j < k -> (l.flatMap f)[i * k + j]? = (f l[i])[j]?
 | [], _, h, _, _ => by simp at h
 | x :: l, 0, _, j, hj => by rw [List.flatMap_cons, Nat.zero_mul, Nat.zero_add, List.getElem?_append_left (by rw [hf]; exact hj)]; rfl
 | x :: l, i + 1, h, j, hj => by
  have := fm_get hf l i (by simpa using h) j hj
  rw [List.flatMap_cons, List.getElem?_append_right (by rw [hf, Nat.add_mul]; omega), hf, show (i + 1) * k + j - k = i * k + j by rw [Nat.add_mul]; omega, this]
  rfl
theorem RO.nil (w : World) : RO τ k f w (.slice none 0 0) [] := World.ownsRow_nil w 0 τ k
theorem RO.len {w : World} {v : Value} {l : List α} (h : RO τ k f w v l) : ∃ a c, v = .slice a l.length c /\ l.length <= c := by
 rcases h.2 with ⟨rfl, h0⟩ | ⟨g, cap, cur, rfl, _, _, h3, _⟩
 ·exact ⟨none, 0, by rw [h0], by omega⟩
 ·exact ⟨_, _, rfl, h3⟩
theorem RO.kept {w w' : World} {v : Value} {l : List α} (h : RO τ k f w v l) (hb : ∀ j, v.ownBlock = some j -> w'.heap[j]? = w.heap[j]?) : RO τ k f w' v l := by
 refine ⟨h.1, ?_⟩
 rcases h.2 with q | ⟨g, cap, cur, rfl, h1, h2, h3⟩
 ·exact .inl q
 ·exact .inr ⟨g, cap, cur, rfl, h1, (hb g rfl).trans h2, h3⟩
theorem RO.lt {w : World} {v : Value} {l : List α} (h : RO τ k f w v l) : ∀ j, v.ownBlock = some j -> j < w.heap.size := fun j hj => (World.ownsRow.lt h j hj).2
theorem RO.later {w w' : World} {v : Value} {l : List α} (h : RO τ k f w v l) (hb : Below w.heap.size w w') : RO τ k f w' v l := h.kept fun j hj => hb.block j (h.lt j hj)
theorem RO.cell {w : World} {v : Value} {l : List α} (hf : ∀ x, (f x).length = k) (h : RO τ k f w v l) {i : Nat} (hi : i < l.length) : ∃ b c, v = .slice (some ⟨b, 0, none⟩) l.length c /\ l.length <= c /\ ∀ j, j < k -> w.cell? ⟨b, i * k + j, none⟩ = (f l[i])[j]? := by
 have hc := h
 rcases h.2 with ⟨_, h0⟩ | ⟨g, cap, cur, rfl, h1, h2, h3, h4⟩
 ·omega
 ·refine ⟨g, cap, rfl, h3, fun j hj => ?_⟩
  have hlt : i * k + j < l.length * k := by
   have : (i + 1) * k <= l.length * k := Nat.mul_le_mul_right _ hi
   rw [Nat.add_mul] at this
   omega
  rw [World.ownsRow.cellAt hc (i * k + j) hlt, fm_get hf l i hi j hj]
theorem run_ro_append (r : RK τ σ k f) (w : World) (ty : TypeId) (v : Value) (l : List α) (h : RO τ k f w v l) (b c : Nat) (x : α) (hy : ∀ j u, (f x)[j]? = some u -> w.cell? ⟨b, j, none⟩ = some u) (hlen : l.length <= 1000000000) :
  ∃ a' n' c' w', (Builtin.append_ #[σ, σ] ty #[v, .slice (some ⟨b, 0, none⟩) 1 c]).run Tryz.prog w = .ok (.slice a' n' c') w' /\ RO τ k f w' (.slice a' n' c') (l ++ [x]) /\ Grew w w' v (.slice a' n' c') := by
 obtain ⟨i0, z0, hi, hz0, hz1, hz2, hz3⟩ := r.info
 have hlim : (l.length + 1) * i0.bytes <= 140737488355328 := Nat.le_trans (Nat.mul_le_mul_left _ hz2) (by omega)
 obtain ⟨v', w', hrun, hown, hgrow, _, hmv⟩ := run_append_own_at (P := Tryz.prog) (w := w) 0 σ ty τ i0 z0 k i0.bytes r.und hi hz0 hz1 rfl hz3 r.pos v l.length (l.flatMap f) h ⟨b, 0, none⟩ 1 c (f x) (by rw [r.len]; omega) (fun j u hu => by rw [add_none, Nat.zero_add]; exact hy j u hu) (r.one x) (by unfold maxLen; omega) hlim (Nat.zero_le _)
 have h6 : RO τ k f w' v' (l ++ [x]) := by
  unfold RO
  have e : (l ++ [x]).flatMap f = l.flatMap f ++ f x := by simp
  rw [e]
  simpa using hown
 obtain ⟨a', c', rfl, _⟩ := RO.len h6
 exact ⟨_, _, _, w', hrun, h6, ⟨hgrow, hmv.imp id fun e => ⟨_, e, Nat.le_refl _⟩⟩⟩
theorem step_ro_append (r : RK τ σ k f) {ops : Array Oper} {o : Oper} {a : Act} {w : World} {K : Act -> World -> Prop} {Q : Exit -> Act -> World -> Prop} {E : Prop}
  (hg : o.guard = none) (s x : Operand) (hop : o.op = Op.call { callee := Callee.builtin Builtin.append, args := #[s, x], argTypes := #[σ, σ] })
  (v : Value) (l : List α) (hs : a.eval s = v) (h : RO τ k f w v l) (b c : Nat) (q : α) (hx : a.eval x = .slice (some ⟨b, 0, none⟩) 1 c) (hy : ∀ j u, (f q)[j]? = some u -> w.cell? ⟨b, j, none⟩ = some u) (hlen : l.length <= 1000000000)
  (hK : ∀ a' n' c' w', RO τ k f w' (.slice a' n' c') (l ++ [q]) -> Grew w w' v (.slice a' n' c') -> K (a.put o.dst (.slice a' n' c')) w') :
  if Region.wanted o (yielded ops a.tmps) = true then Oper.wp Tryz.prog o a w K Q else E := by
 have hw : Region.wanted o (yielded ops a.tmps) = true := by simp [Region.wanted, hg]
 rw [if_pos hw]
 obtain ⟨a', n', c', w', hrun, r1, r2⟩ := run_ro_append r w o.type v l h b c q hy hlen
 unfold Oper.wp
 simp [execOp, hop, resolve, invoke, builtin, hs, hx, hrun, Result.andThen]
 exact hK a' n' c' w' r1 r2
theorem wpList_ro_append (r : RK τ σ k f) {ops : Array Oper} {rest : List Oper} {o : Oper} {a : Act} {Q : Exit -> Act -> World -> Prop} {w : World} (hgd : o.guard = none) (s x : Operand)
  (ho : o.op = .call { callee := .builtin .append, args := #[s, x], argTypes := #[σ, σ] })
  (v : Value) (l : List α) (hs : a.eval s = v) (h : RO τ k f w v l) (b c : Nat) (q : α) (hx : a.eval x = .slice (some ⟨b, 0, none⟩) 1 c) (hy : ∀ j u, (f q)[j]? = some u -> w.cell? ⟨b, j, none⟩ = some u) (hlen : l.length <= 1000000000)
  (hK : ∀ a' n' c' w', RO τ k f w' (.slice a' n' c') (l ++ [q]) -> Grew w w' v (.slice a' n' c') -> wpList Tryz.prog ops Q rest (a.put o.dst (.slice a' n' c')) w') : wpList Tryz.prog ops Q (o :: rest) a w := by
 refine wpList_plain hgd fun K hK' => ?_
 obtain ⟨a', n', c', w', hrun, r1, r2⟩ := run_ro_append r w o.type v l h b c q hy hlen
 unfold Oper.wp execOp
 simp only [ho, resolve, invoke, builtin, Sem.run_bind, Sem.run_pure, Result.andThen_ok, List.map_toArray, List.map_cons, List.map_nil, hs, hx, hrun]
 exact hK' _ _ (hK a' n' c' w' r1 r2)
theorem Grew.below {w w' w0 : World} {v v' : Value} {n : Nat} (h : Grew w w' v v') (hb : Below n w0 w) (hn : n <= w0.heap.size) (hv : ∀ j, v.ownBlock = some j -> n <= j) : Below n w0 w' :=
 ⟨h.grown.os.trans hb.os, h.grown.tape.trans hb.tape, h.grown.output.trans hb.output, Nat.le_trans hb.size h.grown.size, fun j hj => (h.grown.block j (by have := hb.size; omega) (fun e => by have := hv j e.symm; omega)).trans (hb.block j hj)⟩
theorem Grew.own {w w' : World} {v v' : Value} {n : Nat} (h : Grew w w' v v') (hn : n <= w.heap.size) (hv : ∀ j, v.ownBlock = some j -> n <= j) : ∀ j, v'.ownBlock = some j -> n <= j := fun j hj => by
 rcases h.moved with e | ⟨i, e, hi⟩
 ·exact hv j (by rw [<- e]; exact hj)
 ·rw [e] at hj
  simp at hj
  omega
end
end Go.Proofs.YtjpknihkcndoiaaGreat
