import Derived.Test.YteciabdjkaackaaGreatPTBkToTW7
import Derived.RangeFuncNested
import Derived.RangeFuncLeaves
import Derived.RangeFuncCalls
import Derived.Shelf.Abstract
import Derived.WalkKit
import Derived.OwnWalkIn
import Derived.TacticsInMore
import Derived.LoopNIn
import Derived.LoopIn
import Derived.Test.YteciabdjkaackaaGreatPTW3ToRegX
import Derived.OrdersIn
import Derived.TacticsIn
namespace Go.Proofs.YteciabdjkaackaaGreat
set_option linter.unusedVariables false
open Go.RowKit Go.Shelf
def bkQ (n : Nat) : List (Fin n) := (List.finRange n).reverse
theorem bkQ_len (n : Nat) : (bkQ n).length = n := by simp [bkQ]
theorem bkQ_get (n k : Nat) (h : k < n) (h' : k < (bkQ n).length) : (bkQ n)[k]'h' = ⟨n - 1 - k, by omega⟩ := by
 have e : (bkQ n)[k]'h' = (List.finRange n).reverse[k]'(by simpa using h) := rfl
 rw [e, List.getElem_reverse]
 simp
def bkET (ls : List TV) (i : Nat) : Value := (ls.getD i TV.none).val
abbrev bkYq (ls : List TV) (x : Fin ls.length) : Array Value := #[.int .i64 ((x.1 : Nat) : Int), bkET ls x.1]
def PtrTy (o : Obj) : Prop := ∃ cs fz, o = .cells cs 75 fz
def KpQ (N n1 Bs : Nat) (W W' : World) : Prop := Below N W W' /\ W'.heap[Bs]? = W.heap[Bs]? /\ ∀ (j : Nat) (o : Obj), j < n1 -> W.heap[j]? = some o -> ¬ PtrTy o -> W'.heap[j]? = some o
theorem KpQ.t {N n1 Bs : Nat} {A B C : World} (h : KpQ N n1 Bs A B) (k : KpQ N n1 Bs B C) : KpQ N n1 Bs A C := ⟨h.1.trans k.1, k.2.1.trans h.2.1, fun j o hj q s => k.2.2 j o hj (h.2.2 j o hj q s) s⟩
theorem KpQ.b {N n1 Bs : Nat} {w : World} (hn : N <= w.heap.size) (h1 : n1 <= w.heap.size) (hB : Bs < w.heap.size) (W : World) (l : Nat) (o o' : Obj) (hl : w.heap.size <= l) (h : W.heap[l]? = some o) (hc : o.isCells = false) (hk : o.isWalk = false) : KpQ N n1 Bs W (W.putObj l o') :=
 ⟨belowK_b hn W l o o' hl h hc hk, World.putObj_heap_other (by omega), fun j o2 hj q _ => (World.putObj_heap_other (by omega)).trans q⟩
set_option maxRecDepth 100000 in
set_option maxHeartbeats 2000000 in
theorem backQ_run (F : Fence) (n : Nat) (h7 : F.fn 97) (hro : F.round = none) (hn : 1 <= n) (l Bs N n1 : Nat) (ao : Option Addr) (cap : Nat) (ls : List TV) (hl : ls.length <= 140737488355328) (J Jx : List (Fin ls.length) -> World -> Prop)
  (hY : ∀ pre x W, J pre W -> pre.length < ls.length -> YieldAt F (n - 1) Tryz.prog l (bkYq ls x) W fun e W' =>
   (e = .returned (.bool true) /\ J (pre ++ [x]) W' /\ KpQ N n1 Bs W W') ∨ (e = .returned (.bool false) /\ Jx (pre ++ [x]) W'))
  (W : World) (hBs : W.heap[Bs]? = some (.cells #[.slice ao ls.length cap] 24 (0, 0))) (hr : ∀ W', Below N W W' -> KRow W' ao ls) (h0 : J [] W) :
  CallsIn F n Tryz.prog 97 #[.func (.yield l) #[] #[], .pointer (some ⟨Bs, 0, none⟩)] W fun e W' => (∃ v, e = .returned v) /\
   ((∃ ys, ys = bkQ ls.length /\ J ys W') ∨ (∃ pre, True /\ Jx pre W')) := by
 obtain ⟨zs, hzs⟩ : ∃ zs, zs = bkQ ls.length := ⟨_, rfl⟩
 have hzl : zs.length = ls.length := by rw [hzs]; exact bkQ_len _
 have hBc : W.cell? ⟨Bs, 0, none⟩ = some (.slice ao ls.length cap) := (cellq_any hBs).trans rfl
 rw [<- hzs]
 refine callsIn_of_wp Tryz.func97 rfl h7 ?_ hro
 simp only [Tryz.ntmps97, List.size_toArray, List.length_cons, List.length_nil, Nat.reduceAdd, Nat.reduceSub, Array.replicate_succ, Array.replicate_zero, List.push_toArray, List.append_toArray, List.nil_append, List.cons_append]
 gi_wp2
 gi_loopw [3] (fun i wr => ∃ k : Nat, k <= ls.length /\ i = .int .i64 ((ls.length : Int) - 1 - k) /\ J (zs.take k) wr /\ KpQ N n1 Bs W wr)
  (fun i _ => (intOf i + 1).toNat)
 case atStart => exact ⟨0, Nat.zero_le _, by simp, h0, Below.refl _ _, rfl, fun _ _ _ q _ => q⟩
 case round =>
  obtain ⟨k, hk, rfl, hJs, hnx⟩ := hrel
  have hBr : wr.heap[Bs]? = some (.cells #[.slice ao ls.length cap] 24 (0, 0)) := hnx.2.1.trans hBs
  have hBc2 : wr.cell? ⟨Bs, 0, none⟩ = some (.slice ao ls.length cap) := (cellq_any hBr).trans rfl
  by_cases hlt : k < ls.length
  ·obtain ⟨x, hx⟩ : ∃ x, zs[k]'(by omega) = x := ⟨_, rfl⟩
   have hxv : x = ⟨ls.length - 1 - k, by omega⟩ := by
    rw [<- hx]
    subst hzs
    exact bkQ_get _ _ hlt _
   obtain ⟨fn, tmps, assign, body, hy, hR⟩ := hY _ x wr hJs (by rw [List.length_take]; omega)
   obtain ⟨b, off, rfl, _, hc⟩ := hr wr hnx.1 (by intro e; rw [e] at hlt; simp at hlt)
   obtain ⟨c0, c1, c2, c3⟩ := hc (ls.length - 1 - k) (by omega)
   have HS : Hid (zs.take (k + 1) = zs.take k ++ [x]) := by show _ = _; rw [List.take_succ_eq_append_getElem (by omega), hx]
   unfold bkYq bkET at hy
   rw [hxv] at hy
   dsimp only at hy
   have hi : ((ls.length : Int) - 1 - k) = ((ls.length - 1 - k : Nat) : Int) := by omega
   have hik : ls.length - 1 - k < ls.length := by omega
   rw [hi]
   clear hxv
   generalize hI : ls.length - 1 - k = i at *
   generalize ls.getD i TV.none = s at *
   unfold TV.val at hy
   clear hc hBs hBc hzs hx
   gi_wp2
   refine hR.mono ?_
   rintro e W3 (⟨rfl, hJ3, hk3⟩ | ⟨rfl, hJx3⟩)
   ·gi_wp2
    go_roundw
    case rel => exact ⟨k + 1, by omega, by go_num, by rw [HS.out]; exact hJ3, hnx.t hk3⟩
    case measure => simp [intOf]
   ·gi_wp2
    refine bodyPost_ret (results_none rfl _ _ _) rfl ?_
    exact ⟨⟨_, rfl⟩, .inr ⟨_, trivial, hJx3⟩⟩
  ·obtain rfl : k = ls.length := by omega
   have hneg : ((ls.length : Int) - 1 - (ls.length : Nat)) = -1 := by omega
   rw [hneg]
   gi_wp2
   go_end0
   exact ⟨⟨_, rfl⟩, .inl ⟨_, List.take_of_length_le (by omega), hJs⟩⟩
theorem backQ_seq (F : Fence) (n : Nat) (h7 : F.fn 97) (hro : F.round = none) (hn : 1 <= n) (Bs N n1 : Nat) (ao : Option Addr) (cap : Nat) (ls : List TV) (hl : ls.length <= 140737488355328) (w : World) (hB : Bs < w.heap.size) (hBs : w.heap[Bs]? = some (.cells #[.slice ao ls.length cap] 24 (0, 0))) (hN : N <= w.heap.size) (hr : ∀ W', Below N w W' -> KRow W' ao ls) :
  SeqStopsK F n Tryz.prog 97 #[.pointer (some ⟨Bs, 0, none⟩)] (bkYq ls) (KpQ N n1 Bs) (fun ys => ys = bkQ ls.length) (fun _ => True) ls.length w := fun l J Jx W hW _ _ hY h0 =>
 backQ_run F n h7 hro hn l Bs N n1 ao cap ls hl J Jx hY W ((hW.block _ hB).trans hBs) (fun _ hb => hr _ ((hW.mono hN).trans hb)) h0
set_option maxRecDepth 100000 in
set_option maxHeartbeats 1000000 in
theorem backwardQ_W (ao : Option Addr) (len cap : Nat) (w : World) : Calls Tryz.prog 78 #[.slice ao len cap] w fun e w' => e = .returned (.func (.func 97) #[] #[.pointer (some ⟨w.heap.size, 0, none⟩)]) /\ w' = w.alloc (.cells #[.slice ao len cap] 24) := by
 go_enter Tryz.func78, Tryz.ntmps78
 go_wp2
 go_ret
 exact ⟨rfl, rfl⟩
open Go.RowKit
section
variable {F : Fence} {n : Nat} {P : Program} {ops : Array Oper} {Q : Exit -> Act -> World -> Prop} {md : Region.Mode} {S : Array Bool -> World -> Prop}
def noDeferB (ops : Array Oper) : Bool := ops.toList.all fun o => match o.op with | .defer _ => false | _ => true
theorem noDefer_spec (h : noDeferB ops = true) {i : Nat} {o : Oper} (hi : ops[i]? = some o) : ∀ c, o.op ≠ .defer c := fun c e => by
 have hm : o ∈ ops.toList := by
  rw [<- Array.getElem?_toList] at hi
  exact List.mem_of_getElem? hi
 have := List.all_eq_true.1 h o hm
 rw [e] at this
 cases this
def wpAnyXIn (F : Fence) (n : Nat) (P : Program) (md : Region.Mode) (ops : Array Oper) (Q : Exit -> Act -> World -> Prop) (S : Array Bool -> World -> Prop) : Nat -> Array Bool -> Act -> World -> Prop
 | 0, listed, a, w => Region.ready md ops listed = [] /\ Q .normal a w
 | fuel + 1, listed, a, w =>
  (Region.ready md ops listed = [] -> Q .normal a w) /\
  ∀ i ∈ Region.ready md ops listed, wpOpIn F n P ops Q i (fun a' w' => S (listed.setIfInBounds i true) w' /\ wpAnyXIn F n P md ops Q S fuel (listed.setIfInBounds i true) a' w') a w
theorem wpAnyIn_of_x : ∀ (fuel : Nat) (listed : Array Bool) (a : Act) (w : World), wpAnyXIn F n P md ops Q S fuel listed a w -> wpAnyIn F n P md ops Q fuel listed a w
 | 0, _, _, _, h => h
 | fuel + 1, _, _, _, h => ⟨h.1, fun i hi => wpOpIn_mono (fun a' w' h' => wpAnyIn_of_x fuel _ a' w' h'.2) (h.2 i hi)⟩
theorem wpIn_region_x {id : Nat} {a : Act} {w : World} (hm : P.follows .mixedOrders = true)
  (h : wpAnyXIn F n P .any ops Q S ops.size (Array.replicate ops.size false) a w.drew) : (Code.region id ops true).wpIn F n P Q a w :=
 wpIn_region_any hm (wpAnyIn_of_x _ _ _ _ h)
def YieldsX (P : Program) (ops : Array Oper) (T : World -> Prop) (o : Oper) (v : Value) (a : Act) : Prop := YieldsIf P ops T o v a /\ ∀ w, o.about P w a.eval = none
theorem YieldsX.wpOpIn {T : World -> Prop} {i : Nat} {o : Oper} {v : Value} {a : Act} (hd : noDeferB ops = true) (hi : ops[i]? = some o) (hy : YieldsX P ops T o v a)
  {K : Act -> World -> Prop} {w : World} (hT : T w) (h : K (a.put o.dst v) w) : wpOpIn F n P ops Q i K a w := by
 unfold Go.wpOpIn
 simp only [hi]
 have hab : ∀ f, o.about P w a.eval = some f -> F.fn f := fun f hf => by rw [hy.2 w] at hf; cases hf
 rcases hy.1 with ⟨hw, hv⟩ | ⟨hw, rfl⟩
 ·simp only [hw, if_true, Oper.wpIn, Oper.semAt_eq F.round a.eval o (noDefer_spec hd hi), hv w hT, Oper.uponIn]; exact ⟨hab, h⟩
 ·simp only [hw, Bool.false_eq_true, if_false]; exact ⟨hab, h⟩
theorem YieldsX.of_same {T : World -> Prop} {o : Oper} {v : Value} {a a' : Act} (hy : YieldsX P ops T o v a) (he : execOp a'.eval o = execOp a.eval o)
  (hw : Region.wanted o (yielded ops a'.tmps) = Region.wanted o (yielded ops a.tmps)) (hb : ∀ w, o.about P w a'.eval = o.about P w a.eval) : YieldsX P ops T o v a' :=
 ⟨hy.1.of_same he hw, fun w => by rw [hb w]; exact hy.2 w⟩
theorem wpOpIn_putX {T : World -> Prop} {j : Nat} {oi oj : Oper} {v : Value} (hnd : noDeferB ops = true) (hj : ops[j]? = some oj) (hap : oi.apart ops oj = true)
  (hsi : ∀ cs b, oi.op ≠ .select cs b) (hsj : ∀ cs b, oj.op ≠ .select cs b)
  (hQ : ∀ c a w, Q (.panic c) (a.put oi.dst v) w -> Q (.panic c) a w) {K : Act -> World -> Prop} {a : Act} {w : World}
  (hy : YieldsX P ops T oi v a) (h : wpOpIn F n P ops Q j K (a.put oi.dst v) w) :
  wpOpIn F n P ops Q j (fun a' w' => YieldsX P ops T oi v a' /\ K (a'.put oi.dst v) w') a w := by
 obtain ⟨h1, h2, h3⟩ := Oper.apart_spec hap
 have keep : ∀ (a : Act), YieldsX P ops T oi v a -> ∀ u, YieldsX P ops T oi v (a.put oj.dst u) := fun a hy u =>
  hy.of_same (execOp_put oi hsi a oj.dst u h3) (wanted_put oi a oj.dst u h3) (fun w => about_put oi w a oj.dst u h3)
 have keepD : ∀ d, YieldsX P ops T oi v { a with defers := d :: a.defers } := fun d => hy.of_same rfl rfl (fun _ => rfl)
 have hdj := noDefer_spec hnd hj
 unfold wpOpIn at *
 simp only [hj] at *
 rw [wanted_put oj a oi.dst v h1, about_put oj w a oi.dst v h1] at h
 split
 ·rename_i hw
  simp only [hw, if_true] at h
  unfold Oper.wpIn at *
  rw [about_put oj w a oi.dst v h1] at h
  refine ⟨h.1, ?_⟩
  have h := h.2
  rw [Oper.semAt_eq _ _ _ hdj, execOp_put oj hsj a oi.dst v h1] at h
  rw [Oper.semAt_eq _ _ _ hdj]
  generalize (execOp a.eval oj).run P w = r at *
  cases r with
  | ok x w' =>
   cases x <;> simp only [Oper.uponIn] at h ⊢
   case value u => exact ⟨keep a hy u, by rw [<- Act.put_comm a v u h2]; exact h⟩
   case skip => exact ⟨keep a hy _, by rw [<- Act.put_comm a v undef h2]; exact h⟩
   case defer d =>
    refine ⟨keep _ (keepD d) _, ?_⟩
    rw [<- Act.put_comm _ v undef h2, <- Act.put_defers]
    exact h
   case enter f args =>
    refine ⟨h.1, CallsIn.mono h.2 fun e w'' he => ?_⟩
    cases e with
    | returned u => exact ⟨keep a hy u, by rw [<- Act.put_comm a v u h2]; exact he⟩
    | panicked c => exact hQ _ _ _ he
    | outgrown => exact he
   case row row args => exact ⟨h.1, RowsIn.mono h.2 fun u w'' he => ⟨keep a hy u, by rw [<- Act.put_comm a v u h2]; exact he⟩⟩
   case round l f tmps assign body =>
    refine ⟨h.1, RoundIn.mono h.2 fun e w'' he => ?_⟩
    cases e with
    | returned u => exact ⟨keep a hy u, by rw [<- Act.put_comm a v u h2]; exact he⟩
    | panicked c => exact hQ _ _ _ he
    | outgrown => exact he
  | halt x w' =>
   cases x <;> simp only [Oper.uponIn] at h ⊢
   case panic u => exact hQ _ _ _ h
 ·rename_i hw
  simp only [hw] at h
  exact ⟨h.1, keep a hy _, by rw [<- Act.put_comm a v undef h2]; exact h.2⟩
theorem wpAnyXIn_first {i : Nat} {oi : Oper} {v : Value} {T : World -> Prop} {Cl : Array Bool -> Prop} (hnd : noDeferB ops = true) (hi : ops[i]? = some oi) (hsel : ∀ (j : Nat) (o : Oper) cs b, ops[j]? = some o -> o.op ≠ .select cs b)
  (hQ : ∀ c a w, Q (.panic c) (a.put oi.dst v) w -> Q (.panic c) a w) (hCl : ∀ L j, Cl L -> j ∈ Region.ready md ops L -> Cl (L.setIfInBounds j true))
  (hST : ∀ L w, Cl L -> L.getD i true = false -> S L w -> T w) (hSi : ∀ L w, S (L.setIfInBounds i true) w ↔ S L w) :
  ∀ (fuel : Nat) (listed : Array Bool) (a : Act) (w : World),
   (∀ j oj, ops[j]? = some oj -> j ≠ i -> listed.getD j true = false -> (∀ e ∈ oj.after, Region.binds md e = true -> e.on ≠ i) -> oi.apart ops oj = true) ->
   i ∈ Region.ready md ops listed -> Cl listed -> YieldsX P ops T oi v a -> S listed w ->
   wpAnyXIn F n P md ops Q S fuel (listed.setIfInBounds i true) (a.put oi.dst v) w -> wpAnyXIn F n P md ops Q S (fuel + 1) listed a w := by
 intro fuel
 induction fuel with
 | zero =>
  intro listed a w _ hr hc hy hS H
  refine ⟨fun h => (by rw [h] at hr; cases hr), fun j hj => ?_⟩
  by_cases hji : j = i
  ·subst hji; exact hy.wpOpIn hnd hi (hST _ _ hc (mem_ready.1 hr).1 hS) ⟨(hSi _ _).2 hS, H⟩
  ·have := ready_mono hj hji
   rw [H.1] at this
   cases this
 | succ fuel ih =>
  intro listed a w hfree hr hc hy hS H
  refine ⟨fun h => (by rw [h] at hr; cases hr), fun j hj => ?_⟩
  by_cases hji : j = i
  ·subst hji; exact hy.wpOpIn hnd hi (hST _ _ hc (mem_ready.1 hr).1 hS) ⟨(hSi _ _).2 hS, H⟩
  ·have h1 := H.2 j (ready_mono hj hji)
   obtain ⟨hjun, oj, hoj, hall⟩ := mem_ready.1 hj
   have hnot : ∀ e ∈ oj.after, Region.binds md e = true -> e.on ≠ i := fun e he hb heq => by
    have h1 := hall e he hb
    have h0 := (mem_ready.1 hr).1
    rw [heq] at h1
    rcases Nat.lt_or_ge i listed.size with h' | h'
    ·simp [h'] at h0 h1; rw [h0] at h1; cases h1
    ·simp [Array.getElem?_eq_none h'] at h1
   have h2 := wpOpIn_putX hnd hoj (hfree j oj hoj hji hjun hnot) (fun cs b => hsel i oi cs b hi) (fun cs b => hsel j oj cs b hoj) hQ hy h1
   have hfree' : ∀ k ok, ops[k]? = some ok -> k ≠ i -> (listed.setIfInBounds j true).getD k true = false ->
     (∀ e ∈ ok.after, Region.binds md e = true -> e.on ≠ i) -> oi.apart ops ok = true := fun k ok hk hki hun hno => by
    refine hfree k ok hk hki ?_ hno
    by_cases hjk : j = k
    ·subst hjk; exact hjun
    ·rw [getD_set_ne true hjk] at hun; exact hun
   refine wpOpIn_mono (fun a' w' h3 => ?_) h2
   have hs : S (listed.setIfInBounds j true) w' := by
    have := h3.2.1
    rw [Array.setIfInBounds_comm _ _ (Ne.symm hji)] at this
    exact (hSi _ _).1 this
   refine ⟨hs, ih (listed.setIfInBounds j true) a' w' hfree' (ready_mono hr (Ne.symm hji)) (hCl _ _ hc hj) h3.1 hs ?_⟩
   rw [Array.setIfInBounds_comm _ _ hji]
   exact h3.2.2
theorem wpAnyXIn_take {m i : Nat} {oi : Oper} {v : Value} {S0 S1 : World -> Prop} {fuel : Nat} {listed : Array Bool} {a : Act} {w : World} (hnd : noDeferB ops = true) (hi' : ops.toList[i]? = some oi)
  (hs : Region.noSelect ops = true) (hl : lastB md ops m = true) (him : i < m) (hf : Region.free md ops listed i = true) (hr : (Region.ready md ops listed).contains i = true)
  (hQ : ∀ c a w, Q (.panic c) (a.put oi.dst v) w -> Q (.panic c) a w) (hc0 : listed.getD m false = false) (hab : ∀ w, oi.about P w a.eval = none) (hy : YieldsIf P ops (fun w => S0 w /\ S1 w) oi v a) (hS : SX m S0 S1 listed w)
  (h : wpAnyXIn F n P md ops Q (SX m S0 S1) fuel (listed.setIfInBounds i true) (a.put oi.dst v) w) : wpAnyXIn F n P md ops Q (SX m S0 S1) (fuel + 1) listed a w :=
 have hi : ops[i]? = some oi := by rw [<- Array.getElem?_toList]; exact hi'
 wpAnyXIn_first (Cl := ClX m) hnd hi (Region.noSelect_spec hs) hQ (ClX.next hl)
  (fun L w hc hun hS => ⟨hS.1, hS.2 (by
   cases e : L.getD m false with
   | false => rfl
   | true => have := hc e i him; rw [getD_both hun] at this; cases this)⟩)
  (fun L w => by
   have e : (L.setIfInBounds i true).getD m false = L.getD m false := getD_set_ne false (by omega)
   unfold SX
   rw [e]) fuel listed a w (Region.free_spec hi hf) (by simpa using hr) (fun e => by rw [hc0] at e; cases e) ⟨hy, hab⟩ hS h
theorem wpAnyXIn_one {j : Nat} {o : Oper} {fuel : Nat} {listed : Array Bool} {a : Act} {w : World} (hr : Region.ready md ops listed = [j]) (ho' : ops.toList[j]? = some o)
  (h : ∀ K' : Act -> World -> Prop, Shut (∀ a' w', S (listed.setIfInBounds j true) w' -> wpAnyXIn F n P md ops Q S fuel (listed.setIfInBounds j true) a' w' -> K' a' w') -> if Region.wanted o (yielded ops a.tmps) = true then Oper.wpIn F n P o a w K' Q else (∀ f, o.about P w a.eval = some f -> F.fn f) /\ K' (a.put o.dst undef) w) :
  wpAnyXIn F n P md ops Q S (fuel + 1) listed a w := by
 refine ⟨fun h0 => (by rw [hr] at h0; cases h0), fun i hi => ?_⟩
 rw [hr] at hi
 obtain rfl : i = j := by simpa using hi
 have ho : ops[i]? = some o := by rw [<- Array.getElem?_toList]; exact ho'
 exact wpOpIn_step ho (fun K' hK => h K' (fun a' w' hS hW => hK a' w' ⟨hS, hW⟩))
theorem wpAnyXIn_done {listed : Array Bool} {a : Act} {w : World} (hr : Region.ready md ops listed = []) (h : Q .normal a w) : wpAnyXIn F n P md ops Q S 0 listed a w := ⟨hr, h⟩
end
theorem infoPtr_parts : ∃ i, Tryz.prog.info? 75 = some i /\ i.zero = some (.pointer none) /\ i.size = 1 /\ i.bytes = 8 := by
 have h : (Tryz.prog.info? 75).map (fun i => (i.zero, i.size, i.bytes)) = some (some (.pointer none), 1, 8) := by kernel_rfl
 cases e : Tryz.prog.info? 75 with
 | none => rw [e] at h; cases h
 | some i =>
  rw [e] at h
  simp at h
  exact ⟨i, rfl, h.1, h.2.1, h.2.2⟩
def ptC (l : List (Nat × Nat)) : List Value := l.map fun a => .pointer (some ⟨a.1, a.2, none⟩)
theorem ptC_len (l : List (Nat × Nat)) : (ptC l).length = l.length := by simp [ptC]
theorem ptC_app (l : List (Nat × Nat)) (x : Nat × Nat) : ptC (l ++ [x]) = ptC l ++ [.pointer (some ⟨x.1, x.2, none⟩)] := by simp [ptC]
def kpA (o : TV) (i : Nat) : Nat × Nat := ((kadr o).1, (kadr o).2 + i * 4)
theorem kpA_at {o : TV} {b off : Nat} (h : o.ka = some ⟨b, off, none⟩) (i : Nat) : kpA o i = (b, off + i * 4) := by unfold kpA kadr; rw [h]
def FrQ (w W : World) : Prop := ∀ (j : Nat) (o : Obj), w.heap[j]? = some o -> ¬ PtrTy o -> W.heap[j]? = some o
theorem frQ_own {β : Type} {w : World} {B : Nat} (hB : w.heap.size <= B) : OwnFrom B (fun (_ : β) W => Below 0 w W /\ FrQ w W) := fun _ X Y row hs hg hr => by
 refine ⟨hs.1.grown hg (Nat.zero_le _) (fun _ _ => Nat.zero_le _), fun j o q s => ?_⟩
 rw [hg.block j (Nat.lt_of_lt_of_le (lt_of_block q) hs.1.size) (fun e => ?_), hs.2 j o q s]
 have := (hr j e.symm).1
 have := lt_of_block q
 omega
section
variable {F : Fence} {n : Nat} {P : Program}
theorem step_appendIn {ops : Array Oper} {o : Oper} {a : Act} {w : World} {K : Act -> World -> Prop} {Q : Exit -> Act -> World -> Prop} {E : Prop} (hg : o.guard = none) (s x : Operand) (t : TypeId) (hop : o.op = Op.call { callee := Callee.builtin Builtin.append, args := #[s, x], argTypes := #[t, t] })
  (base : Nat) (e : TypeId) (i : TypeInfo) (z : Value) (size bytes : Nat) (h1 : P.underlying t = some (.slice e)) (h2 : P.info? e = some i) (h3 : i.zero = some z) (h4 : i.size = size) (h5 : i.bytes = bytes) (h6 : z.cells.size = size) (h7 : 0 < size)
  (v : Value) (k : Nat) (xs : List Value) (hs : a.eval s = v) (hown : w.ownsRow base e size v k xs) (ad : Addr) (m c : Nat) (news : List Value) (hx : a.eval x = .slice (some ad) m c) (hn : news.length = m * size)
  (hc : ∀ j u, news[j]? = some u -> w.cell? (ad.add j) = some u) (h1c : ∀ u ∈ news, u.oneCell' = true) (b1 : k + m <= maxLen) (b2 : (k + m) * bytes <= 140737488355328) (b3 : base <= w.heap.size)
  (hK : ∀ v' w', w'.ownsRow base e size v' (k + m) (xs ++ news) -> w.grownBy w' v.ownBlock -> (v'.ownBlock = v.ownBlock ∨ v'.ownBlock = some w.heap.size) -> K (a.put o.dst v') w') :
  if Region.wanted o (yielded ops a.tmps) = true then Oper.wpIn F n P o a w K Q else E := by
 have hw : Region.wanted o (yielded ops a.tmps) = true := by simp [Region.wanted, hg]
 rw [if_pos hw]
 obtain ⟨v', w', hrun, r1, r2, _, r4⟩ := run_append_own_at (P := P) (w := w) base t o.type e i z size bytes h1 h2 h3 h4 h5 h6 h7 v k xs hown ad m c news hn hc h1c b1 b2 b3
 unfold Oper.wpIn
 refine ⟨?_, ?_⟩
 ·simp [Oper.about, hop, resolve, Target.leads, Sem.run_pure]
 ·rw [Oper.semAt_plain F _ _ (by rw [hop]; intro c hc'; cases hc')]
  simp [execOp, hop, resolve, invoke, builtin, hs, hx, hrun, Result.andThen]
  exact hK v' w' r1 r2 r4
end
theorem ownsRow_bel {w w' : World} {N k n : Nat} {τ : TypeId} {v : Value} {xs : List Value} (h : w.ownsRow N τ k v n xs) (hb : Below w.heap.size w w') : w'.ownsRow N τ k v n xs := by
 refine ⟨h.1, ?_⟩
 rcases h.2 with q | ⟨g, cap, cur, rfl, h1, h2, h3⟩
 ·exact .inl q
 ·exact .inr ⟨g, cap, cur, rfl, h1, (hb.block g (lt_of_block h2)).trans h2, h3⟩
def pkS (lb bb p q : Nat) (v kv : Value) (w : World) : Prop := w.cell? ⟨lb, 0, none⟩ = some v /\ w.cell? ⟨bb, 0, none⟩ = some (.pointer (some ⟨p, q, none⟩)) /\ w.cell? ⟨p, q + 3, none⟩ = some kv
set_option linter.unusedSimpArgs false in
set_option maxRecDepth 100000 in
set_option maxHeartbeats 4000000 in
theorem pushKids_W (N : Nat) (v : Value) (due : List (Nat × Nat)) (p q : Nat) (o : TV) (w : World) (hN : N <= w.heap.size) (hv : w.ownsRow N 75 1 v due.length (ptC due)) (ho : ∀ W', Below N w W' -> TBx W' p q o /\ KRow W' o.ka o.kids) (hlen : due.length + o.kids.length <= 1000000000) :
  Calls Tryz.prog 51 #[v, .pointer (some ⟨p, q, none⟩)] w fun e w' => ∃ v', e = .returned v' /\ w'.ownsRow N 75 1 v' (due ++ (bkQ o.kids.length).map fun x => kpA o x.1).length (ptC (due ++ (bkQ o.kids.length).map fun x => kpA o x.1)) /\ Below N w w' /\ FrQ w w' := by
 obtain ⟨va, vc, rfl⟩ : ∃ va vc, v = .slice va due.length vc := by
  rcases hv.2 with ⟨rfl, h0⟩ | ⟨g, cap, cur, rfl, _⟩
  ·exact ⟨none, 0, by rw [h0]⟩
  ·exact ⟨_, _, rfl⟩
 obtain ⟨i0, hi, hz0, hz1, hz2⟩ := infoPtr_parts
 have q3 := (ho w (Below.refl _ _)).1.c3
 have qlt := (ho w (Below.refl _ _)).1.lt
 have e1 : ∀ (u : World) (o : Obj), (u.alloc o).heap.size = u.heap.size + 1 := fun u o => by simp
 have b1 : Below w.heap.size w (w.alloc (.cells #[.slice va due.length vc] 91)) := below_alloc _ _
 have q3a : ((w.alloc (.cells #[.slice va due.length vc] 91)).alloc (.cells #[.pointer (some ⟨p, q, none⟩)] 75)).cell? ⟨p, q + 3, none⟩ = some (.slice o.ka o.kids.length o.kc) := ((b1.trans ((below_alloc _ _).mono b1.size)).cell (p := ⟨p, q + 3, none⟩) qlt).trans q3
 have p3a : ((w.alloc (.cells #[.slice va due.length vc] 91)).alloc (.cells #[.pointer (some ⟨p, q, none⟩)] 75)).cell? ⟨w.heap.size + 1, 0, none⟩ = some (.pointer (some ⟨p, q, none⟩)) := by
  have := heap_alloc_new (w.alloc (.cells #[.slice va due.length vc] 91)) (.cells #[.pointer (some ⟨p, q, none⟩)] 75)
  rw [e1] at this
  exact (cellq_any this).trans rfl
 refine (callsIn_wide (n := 6)).1 ?_
 refine callsIn_of_wp_marks Tryz.func51 rfl trivial ?_ rfl
 simp only [Tryz.ntmps51, List.size_toArray, List.length_cons, List.length_nil, Nat.reduceAdd, Nat.reduceSub, Array.replicate_succ, Array.replicate_zero, List.push_toArray, List.append_toArray, List.nil_append, List.cons_append]
 gi_wp2_with (refine ⟨trivial, ?_⟩; gi_at_call 78; refine (callsIn_wide.2 (backwardQ_W o.ka o.kids.length o.kc _)).mono ?_; rintro e w' ⟨rfl, rfl⟩)
 clear q3a p3a q3
 have b2 : Below w.heap.size w ((w.alloc (.cells #[.slice va due.length vc] 91)).alloc (.cells #[.pointer (some ⟨p, q, none⟩)] 75)) := b1.trans ((below_alloc _ _).mono b1.size)
 have b3 : Below w.heap.size w (((w.alloc (.cells #[.slice va due.length vc] 91)).alloc (.cells #[.pointer (some ⟨p, q, none⟩)] 75)).alloc (.cells #[.slice o.ka o.kids.length o.kc] 24)) := b2.trans ((below_alloc _ _).mono b2.size)
 have n1 := heap_alloc_new w (.cells #[.slice va due.length vc] 91)
 have n2 := heap_alloc_new (w.alloc (.cells #[.slice va due.length vc] 91)) (.cells #[.pointer (some ⟨p, q, none⟩)] 75)
 have n3 := heap_alloc_new ((w.alloc (.cells #[.slice va due.length vc] 91)).alloc (.cells #[.pointer (some ⟨p, q, none⟩)] 75)) (.cells #[.slice o.ka o.kids.length o.kc] 24)
 have z1 := e1 w (.cells #[.slice va due.length vc] 91)
 have z2 := e1 (w.alloc (.cells #[.slice va due.length vc] 91)) (.cells #[.pointer (some ⟨p, q, none⟩)] 75)
 have z3 := e1 ((w.alloc (.cells #[.slice va due.length vc] 91)).alloc (.cells #[.pointer (some ⟨p, q, none⟩)] 75)) (.cells #[.slice o.ka o.kids.length o.kc] 24)
 have c12 := below_alloc (w.alloc (.cells #[.slice va due.length vc] 91)) (.cells #[.pointer (some ⟨p, q, none⟩)] 75)
 have c23 := below_alloc ((w.alloc (.cells #[.slice va due.length vc] 91)).alloc (.cells #[.pointer (some ⟨p, q, none⟩)] 75)) (.cells #[.slice o.ka o.kids.length o.kc] 24)
 have hv3 := ((hv.alloc (.cells #[.slice va due.length vc] 91)).alloc (.cells #[.pointer (some ⟨p, q, none⟩)] 75)).alloc (.cells #[.slice o.ka o.kids.length o.kc] 24)
 rw [z1] at n2 z2 c12
 rw [z2] at n3 z3 c23
 have m1 := (c23.block _ (by omega)).trans ((c12.block _ (by omega)).trans n1)
 have m2 := (c23.block _ (by omega)).trans n2
 obtain ⟨W0, hW0⟩ : ∃ W0, (((w.alloc (.cells #[.slice va due.length vc] 91)).alloc (.cells #[.pointer (some ⟨p, q, none⟩)] 75)).alloc (.cells #[.slice o.ka o.kids.length o.kc] 24)) = W0 := ⟨_, rfl⟩
 rw [hW0] at b3 n3 z3 hv3 m1 m2 ⊢
 clear hW0 c12 c23 n1 n2 z1 z2 b1 b2
 refine wpIn_rangeFunc_ownH rfl (by omega) (gf := 97) (lb := #[.pointer (some ⟨w.heap.size + 1 + 1, 0, none⟩)]) rfl trivial (enters_of Tryz.func97 (by kernel_rfl) rfl)
  (backQ_seq Fence.wide _ trivial rfl (by omega) (w.heap.size + 1 + 1) N w.heap.size o.ka o.kc o.kids (by omega) W0 (by omega) n3 (by omega) (fun W' hb => (ho W' ((b3.mono hN).trans hb)).2)) KpQ.t (KpQ.b (by omega) (by omega) (by omega)) (Below.refl _ _) (fun _ => rfl)
  (fun (pre : List (Fin o.kids.length)) W => ((∃ v', Boxed W w.heap.size 91 v' /\ W.ownsRow N 75 1 v' (due.length + pre.length) (ptC (due ++ pre.map fun x => kpA o x.1)) /\ v'.ownBlock ≠ some (w.heap.size + 1)) /\ (Boxed W (w.heap.size + 1) 75 (.pointer (some ⟨p, q, none⟩)) /\ Boxed W (w.heap.size + 1 + 1) 24 (.slice o.ka o.kids.length o.kc))) /\ (Below N w W /\ (Below 0 w W /\ FrQ w W)))
  (fun _ _ _ => False)
  (OwnFrom.and (OwnFrom.and (Own.from (holdsRow_own N w.heap.size 91 75 1 (fun pre : List (Fin o.kids.length) => due.length + pre.length) (fun pre => ptC (due ++ pre.map fun x => kpA o x.1)) (fun _ v' => v'.ownBlock ≠ some (w.heap.size + 1))) _) (OwnFrom.and (Own.from (boxed_ownT _ _ _) _) (Own.from (boxed_ownT _ _ _) _))) (OwnFrom.and (ownFrom_below hN (by omega)) (frQ_own (by omega))))
  (fun _ _ _ _ _ hs _ _ => hs)
  ⟨⟨⟨.slice va due.length vc, m1, by simpa using hv3, fun e => by have := (World.ownsRow.lt hv _ e).2; omega⟩, m2, n3⟩, b3.mono hN, b3.mono (Nat.zero_le _), fun j o q _ => (b3.block _ (lt_of_block q)).trans q⟩
  (fun x a' W => a' = { tmps := #[.slice va due.length vc, .pointer (some ⟨p, q, none⟩), .pointer (some ⟨w.heap.size, 0, none⟩), .pointer (some ⟨w.heap.size + 1, 0, none⟩), .slice none 0 0, .int .i64 ((x.1 : Nat) : Int), .pointer (some ⟨p, q, none⟩), .pointer (some ⟨p, q, none⟩), .pointer (some ⟨p, q + 3, none⟩), .slice o.ka o.kids.length o.kc, .func (.func 97) #[] #[.pointer (some ⟨w.heap.size + 1 + 1, 0, none⟩)], .int .i64 ((x.1 : Nat) : Int), bkET o.kids x.1, undef, undef, undef, undef, undef, undef, undef, undef, undef, undef], defers := [] })
  (fun x a' _ X Y row hs hg hr' => hs)
  ?assign ?body ?done ?stop
 case assign =>
  rintro l' pre x W K ⟨⟨⟨v1, c1, c2, c2o⟩, c3, c4⟩, hB, hF⟩ hK
  have hsa := @Oper.semAt_some
  gi_wp2
  exact hK _ _ ((KeepsOthers.refl _).from _) ⟨Below.refl _ _, rfl, fun j o _ q _ => q⟩ ⟨⟨⟨v1, c1, c2, c2o⟩, c3, c4⟩, hB, hF⟩ rfl
 case body =>
  rintro l' pre x a' W hl' ⟨r, hr'⟩ ⟨⟨⟨v1, c1, c2, c2o⟩, c3, c4⟩, hB, hF⟩ rfl hlt
  obtain ⟨tb, kr⟩ := ho W hB
  obtain ⟨b, off, hka, -⟩ := krow_kid kr x.2
  have hkp := kpA_at hka x.1
  have hNW : N <= W.heap.size := Nat.le_trans hN hB.size
  obtain ⟨v1a, v1n, v1c, rfl⟩ : ∃ a n c, v1 = .slice a n c := by
   rcases c2.2 with ⟨rfl, h0⟩ | ⟨g, cap, cur, rfl, _⟩
   ·exact ⟨_, _, _, rfl⟩
   ·exact ⟨_, _, _, rfl⟩
  have hX : Below W.heap.size W W.drew := (Below.refl _ _).drew
  obtain ⟨X, hXe⟩ : ∃ X, X = W.drew := ⟨_, rfl⟩
  rw [<- hXe] at hX
  have hXs : X.heap.size = W.heap.size := by rw [hXe]; rfl
  have d1 : Boxed X w.heap.size 91 (.slice v1a v1n v1c) := (hX.block _ c1.lt).trans c1
  have d2 : X.ownsRow N 75 1 (.slice v1a v1n v1c) (due.length + pre.length) (ptC (due ++ pre.map fun x => kpA o x.1)) := ownsRow_bel c2 hX
  have d3 : Boxed X (w.heap.size + 1) 75 (.pointer (some ⟨p, q, none⟩)) := (hX.block _ c3.lt).trans c3
  have hBX : Below N w X := hB.trans (hX.mono hNW)
  have tbX := (ho X hBX).1
  have hs : Hid (pkS w.heap.size (w.heap.size + 1) p q (.slice v1a v1n v1c) (.slice o.ka o.kids.length o.kc) X) := ⟨d1.cell, d3.cell, tbX.c3⟩
  have xlt : ((x.1 : Nat) : Int) < (o.kids.length : Int) := by have := x.2; omega
  have xnn : (0 : Int) <= ((x.1 : Nat) : Int) := by omega
  rw [hka] at hs
  have HKA : Hid (o.ka = some ⟨b, off, none⟩) := hka
  have HKP : Hid (kpA o x.1 = (b, off + x.1 * 4)) := hkp
  rw [hka]
  clear hka hkp kr tb
  have hsa := @Oper.semAt_some
  gi_wp2
  refine wpIn_region_x (S := SX 9 (fun _ => True) (pkS w.heap.size (w.heap.size + 1) p q (.slice v1a v1n v1c) (.slice (some ⟨b, off, none⟩) o.kids.length o.kc))) (by kernel_rfl) ?_
  rw [<- hXe]
  clear hXe
  refine wpAnyXIn_take (m := 9) (i := 0) (v := ?_) (by kernel_rfl) rfl (by kernel_rfl) (by kernel_rfl) (by decide) (by decide +kernel) (by decide +kernel) (fun _ _ _ h => h) (by kernel_rfl) (fun _ => rfl) (Or.inl ⟨by rfl, ?_⟩) (SX.both trivial hs.out) ?_
  rotate_left
  ·(intro w hSw; have z0 := hSw.2; unfold pkS at z0; obtain ⟨z1, z2, z3⟩ := z0; clear hSw; go_simp; try (with_reducible rfl))
  (try simp only [Act.put, List.setIfInBounds_toArray, List.set_cons_zero, List.set_cons_succ])
  refine wpAnyXIn_take (m := 9) (i := 1) (v := ?_) (by kernel_rfl) rfl (by kernel_rfl) (by kernel_rfl) (by decide) (by decide +kernel) (by decide +kernel) (fun _ _ _ h => h) (by kernel_rfl) (fun _ => rfl) (Or.inl ⟨by rfl, ?_⟩) (SX.both trivial hs.out) ?_
  rotate_left
  ·(intro w hSw; have z0 := hSw.2; unfold pkS at z0; obtain ⟨z1, z2, z3⟩ := z0; clear hSw; go_simp; try (with_reducible rfl))
  (try simp only [Act.put, List.setIfInBounds_toArray, List.set_cons_zero, List.set_cons_succ])
  refine wpAnyXIn_take (m := 9) (i := 2) (v := ?_) (by kernel_rfl) rfl (by kernel_rfl) (by kernel_rfl) (by decide) (by decide +kernel) (by decide +kernel) (fun _ _ _ h => h) (by kernel_rfl) (fun _ => rfl) (Or.inl ⟨by rfl, ?_⟩) (SX.both trivial hs.out) ?_
  rotate_left
  ·(intro w hSw; have z0 := hSw.2; unfold pkS at z0; obtain ⟨z1, z2, z3⟩ := z0; clear hSw; go_simp; try (with_reducible rfl))
  (try simp only [Act.put, List.setIfInBounds_toArray, List.set_cons_zero, List.set_cons_succ])
  refine wpAnyXIn_take (m := 9) (i := 3) (v := ?_) (by kernel_rfl) rfl (by kernel_rfl) (by kernel_rfl) (by decide) (by decide +kernel) (by decide +kernel) (fun _ _ _ h => h) (by kernel_rfl) (fun _ => rfl) (Or.inl ⟨by rfl, ?_⟩) (SX.both trivial hs.out) ?_
  rotate_left
  ·(intro w hSw; have z0 := hSw.2; unfold pkS at z0; obtain ⟨z1, z2, z3⟩ := z0; clear hSw; go_simp; try (with_reducible rfl))
  (try simp only [Act.put, List.setIfInBounds_toArray, List.set_cons_zero, List.set_cons_succ])
  refine wpAnyXIn_take (m := 9) (i := 4) (v := ?_) (by kernel_rfl) rfl (by kernel_rfl) (by kernel_rfl) (by decide) (by decide +kernel) (by decide +kernel) (fun _ _ _ h => h) (by kernel_rfl) (fun _ => rfl) (Or.inl ⟨by rfl, ?_⟩) (SX.both trivial hs.out) ?_
  rotate_left
  ·(intro w hSw; have z0 := hSw.2; unfold pkS at z0; obtain ⟨z1, z2, z3⟩ := z0; clear hSw; go_simp; try (with_reducible rfl))
  (try simp only [Act.put, List.setIfInBounds_toArray, List.set_cons_zero, List.set_cons_succ])
  refine wpAnyXIn_take (m := 9) (i := 5) (v := ?_) (by kernel_rfl) rfl (by kernel_rfl) (by kernel_rfl) (by decide) (by decide +kernel) (by decide +kernel) (fun _ _ _ h => h) (by kernel_rfl) (fun _ => rfl) (Or.inl ⟨by rfl, ?_⟩) (SX.both trivial hs.out) ?_
  rotate_left
  ·(intro w hSw; have z0 := hSw.2; unfold pkS at z0; obtain ⟨z1, z2, z3⟩ := z0; clear hSw; go_simp; try (with_reducible rfl))
  (try simp only [Act.put, List.setIfInBounds_toArray, List.set_cons_zero, List.set_cons_succ])
  refine wpAnyXIn_take (m := 9) (i := 6) (v := ?_) (by kernel_rfl) rfl (by kernel_rfl) (by kernel_rfl) (by decide) (by decide +kernel) (by decide +kernel) (fun _ _ _ h => h) (by kernel_rfl) (fun _ => rfl) (Or.inl ⟨by rfl, ?_⟩) (SX.both trivial hs.out) ?_
  rotate_left
  ·(intro w hSw; have z0 := hSw.2; unfold pkS at z0; obtain ⟨z1, z2, z3⟩ := z0; clear hSw; go_simp; try (with_reducible rfl))
  (try simp only [Act.put, List.setIfInBounds_toArray, List.set_cons_zero, List.set_cons_succ])
  refine wpAnyXIn_one (j := 7) (by decide +kernel) rfl (fun K' hK => ?_)
  go_simp
  have hB7 := below_alloc X (.cells #[.pointer (some ⟨b, off + x.1 * 4, none⟩)] 75)
  have hn7 := heap_alloc_new X (.cells #[.pointer (some ⟨b, off + x.1 * 4, none⟩)] 75)
  have hs7 : Hid (pkS w.heap.size (w.heap.size + 1) p q (.slice v1a v1n v1c) (.slice (some ⟨b, off, none⟩) o.kids.length o.kc) (X.alloc (.cells #[.pointer (some ⟨b, off + x.1 * 4, none⟩)] 75))) := by
   obtain ⟨s1, s2, s3⟩ := hs.out
   exact ⟨cellW hB7 s1, cellW hB7 s2, cellW hB7 s3⟩
  refine hK.out _ _ (SX.both trivial hs7.out) ?_
  clear hK K'
  (try simp only [Act.put, List.setIfInBounds_toArray, List.set_cons_zero, List.set_cons_succ])
  refine wpAnyXIn_one (j := 8) (by decide +kernel) rfl (fun K' hK => ?_)
  have NX : ∀ j u, [Value.pointer (some ⟨b, off + x.1 * 4, none⟩)][j]? = some u -> (X.alloc (.cells #[.pointer (some ⟨b, off + x.1 * 4, none⟩)] 75)).cell? ((⟨W.heap.size, 0, none⟩ : Addr).add j) = some u := fun j u hu => by
   rw [<- hXs, add_none, Nat.zero_add, cellq_any hn7, <- hu]
   simp
  have hlt' : pre.length < 1000000000 := by omega
  refine step_appendIn rfl (.tmp 13) (.tmp 20) 91 rfl N 75 i0 (.pointer none) 1 8 Tryz.underlying91 hi hz0 hz1 hz2 rfl (by decide) (.slice v1a v1n v1c) _ _ (by rfl) (d2.alloc _) ⟨W.heap.size, 0, none⟩ 1 1 [.pointer (some ⟨b, off + x.1 * 4, none⟩)] (by rfl) rfl NX (by simp [Value.oneCell']) (by unfold maxLen; omega) (by omega) (by rw [e1]; omega) ?_
  intro v' w1 hown' hgrow hmv
  obtain ⟨g', cap', rfl⟩ := ownsRow_succ hown'
  obtain ⟨hv1, hv2', hr2, hk2, hb2⟩ := d1.appended (by decide) d2 (by omega) hN hown' hgrow
  have hoN : ∀ j, (Value.slice v1a v1n v1c).ownBlock = some j -> N <= j := fun j hj => (World.ownsRow.lt d2 j hj).1
  have hBw1 : Below N w w1 := (hBX.trans (hB7.mono (by omega))).grown hgrow (by rw [e1]; omega) hoN
  have m3 : w1.heap[w.heap.size + 1]? = some (.cells #[.pointer (some ⟨p, q, none⟩)] 75) := by
   have hl := d3.lt
   rw [hgrow.block _ (by rw [e1]; omega) (fun e => c2o e.symm)]
   exact (hB7.block _ hl).trans d3
  have hs8 : Hid (pkS w.heap.size (w.heap.size + 1) p q (.slice v1a v1n v1c) (.slice (some ⟨b, off, none⟩) o.kids.length o.kc) w1) := by
   have t3 := (ho w1 hBw1).1.c3
   rw [HKA.out] at t3
   exact ⟨hv1.cell, (cellq_any m3).trans rfl, t3⟩
  have f1 := hv1.frozen
  have x1c := hv1.cell
  refine hK.out _ _ (SX.both trivial hs8.out) ?_
  clear hK K'
  (try simp only [Act.put, List.setIfInBounds_toArray, List.set_cons_zero, List.set_cons_succ])
  refine wpAnyXIn_one (j := 9) (by decide +kernel) rfl (fun K' hK => ?_)
  go_simp
  refine hK.out _ _ (SX.one trivial (by kernel_rfl)) ?_
  clear hK K'
  (try simp only [Act.put, List.setIfInBounds_toArray, List.set_cons_zero, List.set_cons_succ])
  refine wpAnyXIn_done (by decide +kernel) ?_
  have hkeep : ∀ (j : Nat) (ob : Obj), W.heap[j]? = some ob -> j ≠ w.heap.size -> (¬ PtrTy ob ∨ j = w.heap.size + 1) -> (w1.setCell ⟨w.heap.size, 0, none⟩ (.slice (some ⟨g', 0, none⟩) (due.length + pre.length + 1) cap')).heap[j]? = some ob := fun j ob qq hne hs => by
   have hjl := lt_of_block qq
   rw [Below.heap_setCell _ _ _ _ (show j ≠ w.heap.size from hne), hgrow.block j (by rw [e1]; omega) (fun e => ?_)]
   ·exact (hB7.block _ (by omega)).trans ((hX.block _ hjl).trans qq)
   ·rcases hs with hs | rfl
    ·rcases c2.2 with ⟨h0, _⟩ | ⟨g, cap, cur, h0, _, h2, _⟩
     ·rw [h0] at e
      simp [Value.ownBlock] at e
     ·rw [h0] at e
      simp [Value.ownBlock] at e
      subst e
      rw [h2] at qq
      cases qq
      exact hs ⟨_, _, rfl⟩
    ·exact c2o e.symm
  have hns : ∀ cs fz, ¬ PtrTy (.cells cs 91 fz) := fun cs fz ⟨_, _, e⟩ => by simp at e
  have hns2 : ∀ cs fz, ¬ PtrTy (.cells cs 24 fz) := fun cs fz ⟨_, _, e⟩ => by simp at e
  have hk0 : KeepsOthers W X := ⟨by omega, fun k ob hk _ => (hX.block k (lt_of_block hk)).trans hk⟩
  refine ⟨(hk0.trans hk2).from _, ⟨(hX.mono hNW).trans hb2, ?_, fun j ob hj qq hs => hkeep j ob qq (by omega) (.inl hs)⟩, ⟨⟨⟨_, hv2', ?_, ?_⟩, ?_, ?_⟩, hBX.trans hb2, hF.1.trans ((hX.mono (Nat.zero_le _)).trans (hb2.mono (Nat.zero_le _))), fun j ob qq hs => hkeep j ob (hF.2 j ob qq hs) (by have := lt_of_block qq; omega) (.inl hs)⟩⟩
  ·rw [hkeep _ _ c4 (by omega) (.inl (hns2 _ _))]
   exact c4.symm
  ·have e3 : ptC (due ++ (pre ++ [x]).map fun x => kpA o x.1) = ptC (due ++ pre.map fun x => kpA o x.1) ++ [.pointer (some ⟨b, off + x.1 * 4, none⟩)] := by
    rw [List.map_append, List.map_singleton, <- List.append_assoc, ptC_app, HKP.out]
   rw [e3]
   simpa [Nat.add_assoc] using hr2
  ·rcases hmv with e | e
   ·rw [e]; exact c2o
   ·rw [e]
    simp only [ne_eq, Option.some.injEq]
    have := d3.lt
    rw [e1]
    omega
  ·exact hkeep _ _ c3 (by omega) (.inr rfl)
  ·have h4 := hkeep _ _ c4 (by omega) (.inl (hns2 _ _))
   rw [HKA.out] at h4
   exact h4
 case done =>
  rintro D ys W hD rfl ⟨⟨⟨v1, c1, c2, c2o⟩, c3, c4⟩, hB, hF⟩ hK
  have hcb := c1.cell
  have hyl : (bkQ o.kids.length).length = o.kids.length := bkQ_len _
  gi_wp2
  refine ⟨by simp, .inl ⟨_, _, rfl, run_takeDeferred hK, ?_⟩⟩
  exact ⟨_, results_tmp rfl _ _ _, v1, rfl, by simpa using ownsRow_putObj c2 _ hK rfl, hB.trans (belowK_b (w := w) hN W D _ _ (by omega) hK rfl rfl), fun j o q hs => (World.putObj_heap_other (by have := lt_of_block q; omega)).trans (hF.2 j o q hs)⟩
 case stop =>
  rintro D c pre W _ _ h _
  exact h.elim
end Go.Proofs.YteciabdjkaackaaGreat
