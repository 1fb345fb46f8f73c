import Derived.Test.YtobhemaikomdaaaGreatDoorPTBkToTW7
import Derived.RangeFuncNested
import Derived.RangeFuncLeaves
import Derived.RangeFuncCalls
import Derived.Shelf.Abstract
import Derived.WalkKit
import Derived.OwnWalkIn
import Derived.TacticsInMore
import Derived.LoopNIn
import Derived.LoopIn
import Derived.Test.YtobhemaikomdaaaGreatDoorPTW3ToRegX
import Derived.OrdersIn
import Derived.TacticsIn
namespace Go.Proofs.YtobhemaikomdaaaGreatDoor
set_option linter.unusedVariables false
open Go.RowKit Go.Shelf
def bkQ (n : Nat) : List (Fin n) := (List.finRange n).reverse
theorem bkQ_len (n : Nat) : (bkQ n).length = n := by simp [bkQ]
theorem bkQ_get (n k : Nat) (h : k < n) (h' : k < (bkQ n).length) : (bkQ n)[k]'h' = ⟨n - 1 - k, by omega⟩ := by
 have e : (bkQ n)[k]'h' = (List.finRange n).reverse[k]'(by simpa using h) := rfl
 rw [e, List.getElem_reverse]
 simp
def bkE (ls : List TV) (i : Nat) : Value := (ls.getD i TV.none).val
abbrev bkYq (ls : List TV) (x : Fin ls.length) : Array Value := #[.int .i64 ((x.1 : Nat) : Int), bkE ls x.1]
def PtrTy (o : Obj) : Prop := ∃ cs fz, o = .cells cs 64 fz
def KpQ (N n1 Bs : Nat) (W W' : World) : Prop := Below N W W' /\ W'.heap[Bs]? = W.heap[Bs]? /\ ∀ (j : Nat) (o : Obj), j < n1 -> W.heap[j]? = some o -> ¬ PtrTy o -> W'.heap[j]? = some o
theorem KpQ.t {N n1 Bs : Nat} {A B C : World} (h : KpQ N n1 Bs A B) (k : KpQ N n1 Bs B C) : KpQ N n1 Bs A C := ⟨h.1.trans k.1, k.2.1.trans h.2.1, fun j o hj q s => k.2.2 j o hj (h.2.2 j o hj q s) s⟩
theorem KpQ.b {N n1 Bs : Nat} {w : World} (hn : N <= w.heap.size) (h1 : n1 <= w.heap.size) (hB : Bs < w.heap.size) (W : World) (l : Nat) (o o' : Obj) (hl : w.heap.size <= l) (h : W.heap[l]? = some o) (hc : o.isCells = false) (hk : o.isWalk = false) : KpQ N n1 Bs W (W.putObj l o') :=
 ⟨belowK_b hn W l o o' hl h hc hk, World.putObj_heap_other (by omega), fun j o2 hj q _ => (World.putObj_heap_other (by omega)).trans q⟩
set_option maxRecDepth 100000 in
set_option maxHeartbeats 2000000 in
theorem backQ_run (F : Fence) (n : Nat) (h7 : F.fn 108) (hro : F.round = none) (hn : 1 <= n) (l Bs N n1 : Nat) (ao : Option Addr) (cap : Nat) (ls : List TV) (hl : ls.length <= 140737488355328) (J Jx : List (Fin ls.length) -> World -> Prop)
  (hY : ∀ pre x W, J pre W -> pre.length < ls.length -> YieldAt F (n - 1) Tryz.prog l (bkYq ls x) W fun e W' =>
   (e = .returned (.bool true) /\ J (pre ++ [x]) W' /\ KpQ N n1 Bs W W') ∨ (e = .returned (.bool false) /\ Jx (pre ++ [x]) W'))
  (W : World) (hBs : W.heap[Bs]? = some (.cells #[.slice ao ls.length cap] 30 (0, 0))) (hr : ∀ W', Below N W W' -> KRow W' ao ls) (h0 : J [] W) :
  CallsIn F n Tryz.prog 108 #[.func (.yield l) #[] #[], .pointer (some ⟨Bs, 0, none⟩)] W fun e W' => (∃ v, e = .returned v) /\
   ((∃ ys, ys = bkQ ls.length /\ J ys W') ∨ (∃ pre, True /\ Jx pre W')) := by
 obtain ⟨zs, hzs⟩ : ∃ zs, zs = bkQ ls.length := ⟨_, rfl⟩
 have hzl : zs.length = ls.length := by rw [hzs]; exact bkQ_len _
 have hBc : W.cell? ⟨Bs, 0, none⟩ = some (.slice ao ls.length cap) := (cellq_any hBs).trans rfl
 rw [<- hzs]
 refine callsIn_of_wp Tryz.func108 rfl h7 ?_ hro
 simp only [Tryz.ntmps108, List.size_toArray, List.length_cons, List.length_nil, Nat.reduceAdd, Nat.reduceSub, Array.replicate_succ, Array.replicate_zero, List.push_toArray, List.append_toArray, List.nil_append, List.cons_append]
 gi_wp2
 gi_loopw [3] (fun i wr => ∃ k : Nat, k <= ls.length /\ i = .int .i64 ((ls.length : Int) - 1 - k) /\ J (zs.take k) wr /\ KpQ N n1 Bs W wr)
  (fun i _ => (intOf i + 1).toNat)
 case atStart => exact ⟨0, Nat.zero_le _, by simp, h0, Below.refl _ _, rfl, fun _ _ _ q _ => q⟩
 case round =>
  obtain ⟨k, hk, rfl, hJs, hnx⟩ := hrel
  have hBr : wr.heap[Bs]? = some (.cells #[.slice ao ls.length cap] 30 (0, 0)) := hnx.2.1.trans hBs
  have hBc2 : wr.cell? ⟨Bs, 0, none⟩ = some (.slice ao ls.length cap) := (cellq_any hBr).trans rfl
  by_cases hlt : k < ls.length
  ·obtain ⟨x, hx⟩ : ∃ x, zs[k]'(by omega) = x := ⟨_, rfl⟩
   have hxv : x = ⟨ls.length - 1 - k, by omega⟩ := by
    rw [<- hx]
    subst hzs
    exact bkQ_get _ _ hlt _
   obtain ⟨fn, tmps, assign, body, hy, hR⟩ := hY _ x wr hJs (by rw [List.length_take]; omega)
   obtain ⟨b, off, rfl, _, hc⟩ := hr wr hnx.1 (by intro e; rw [e] at hlt; simp at hlt)
   obtain ⟨c0, c1, c2, c3⟩ := hc (ls.length - 1 - k) (by omega)
   have HS : Hid (zs.take (k + 1) = zs.take k ++ [x]) := by show _ = _; rw [List.take_succ_eq_append_getElem (by omega), hx]
   unfold bkYq bkE at hy
   rw [hxv] at hy
   dsimp only at hy
   have hi : ((ls.length : Int) - 1 - k) = ((ls.length - 1 - k : Nat) : Int) := by omega
   have hik : ls.length - 1 - k < ls.length := by omega
   rw [hi]
   clear hxv
   generalize hI : ls.length - 1 - k = i at *
   generalize ls.getD i TV.none = s at *
   unfold TV.val at hy
   clear hc hBs hBc hzs hx
   gi_wp2
   refine hR.mono ?_
   rintro e W3 (⟨rfl, hJ3, hk3⟩ | ⟨rfl, hJx3⟩)
   ·gi_wp2
    go_roundw
    case rel => exact ⟨k + 1, by omega, by go_num, by rw [HS.out]; exact hJ3, hnx.t hk3⟩
    case measure => simp [intOf]
   ·gi_wp2
    refine bodyPost_ret (results_none rfl _ _ _) rfl ?_
    exact ⟨⟨_, rfl⟩, .inr ⟨_, trivial, hJx3⟩⟩
  ·obtain rfl : k = ls.length := by omega
   have hneg : ((ls.length : Int) - 1 - (ls.length : Nat)) = -1 := by omega
   rw [hneg]
   gi_wp2
   go_end0
   exact ⟨⟨_, rfl⟩, .inl ⟨_, List.take_of_length_le (by omega), hJs⟩⟩
theorem backQ_seq (F : Fence) (n : Nat) (h7 : F.fn 108) (hro : F.round = none) (hn : 1 <= n) (Bs N n1 : Nat) (ao : Option Addr) (cap : Nat) (ls : List TV) (hl : ls.length <= 140737488355328) (w : World) (hB : Bs < w.heap.size) (hBs : w.heap[Bs]? = some (.cells #[.slice ao ls.length cap] 30 (0, 0))) (hN : N <= w.heap.size) (hr : ∀ W', Below N w W' -> KRow W' ao ls) :
  SeqStopsK F n Tryz.prog 108 #[.pointer (some ⟨Bs, 0, none⟩)] (bkYq ls) (KpQ N n1 Bs) (fun ys => ys = bkQ ls.length) (fun _ => True) ls.length w := fun l J Jx W hW _ _ hY h0 =>
 backQ_run F n h7 hro hn l Bs N n1 ao cap ls hl J Jx hY W ((hW.block _ hB).trans hBs) (fun _ hb => hr _ ((hW.mono hN).trans hb)) h0
set_option maxRecDepth 100000 in
set_option maxHeartbeats 1000000 in
theorem backwardQ_W (ao : Option Addr) (len cap : Nat) (w : World) : Calls Tryz.prog 86 #[.slice ao len cap] w fun e w' => e = .returned (.func (.func 108) #[] #[.pointer (some ⟨w.heap.size, 0, none⟩)]) /\ w' = w.alloc (.cells #[.slice ao len cap] 30) := by
 go_enter Tryz.func86, Tryz.ntmps86
 go_wp2
 go_ret
 exact ⟨rfl, rfl⟩
open Go.RowKit
section
variable {F : Fence} {n : Nat} {P : Program} {ops : Array Oper} {Q : Exit -> Act -> World -> Prop} {md : Region.Mode} {S : Array Bool -> World -> Prop}
def noDeferB (ops : Array Oper) : Bool := ops.toList.all fun o => match o.op with | .defer _ => false | _ => true
theorem noDefer_spec (h : noDeferB ops = true) {i : Nat} {o : Oper} (hi : ops[i]? = some o) : ∀ c, o.op ≠ .defer c := fun c e => by
 have hm : o ∈ ops.toList := by
  rw [<- Array.getElem?_toList] at hi
  exact List.mem_of_getElem? hi
 have := List.all_eq_true.1 h o hm
 rw [e] at this
 cases this
def wpAnyXIn (F : Fence) (n : Nat) (P : Program) (md : Region.Mode) (ops : Array Oper) (Q : Exit -> Act -> World -> Prop) (S : Array Bool -> World -> Prop) : Nat -> Array Bool -> Act -> World -> Prop
 | 0, listed, a, w => Region.ready md ops listed = [] /\ Q .normal a w
 | fuel + 1, listed, a, w =>
  (Region.ready md ops listed = [] -> Q .normal a w) /\
  ∀ i ∈ Region.ready md ops listed, wpOpIn F n P ops Q i (fun a' w' => S (listed.setIfInBounds i true) w' /\ wpAnyXIn F n P md ops Q S fuel (listed.setIfInBounds i true) a' w') a w
theorem wpAnyIn_of_x : ∀ (fuel : Nat) (listed : Array Bool) (a : Act) (w : World), wpAnyXIn F n P md ops Q S fuel listed a w -> wpAnyIn F n P md ops Q fuel listed a w
 | 0, _, _, _, h => h
 | fuel + 1, _, _, _, h => ⟨h.1, fun i hi => wpOpIn_mono (fun a' w' h' => wpAnyIn_of_x fuel _ a' w' h'.2) (h.2 i hi)⟩
theorem wpIn_region_x {id : Nat} {a : Act} {w : World} (hm : P.follows .mixedOrders = true)
  (h : wpAnyXIn F n P .any ops Q S ops.size (Array.replicate ops.size false) a w.drew) : (Code.region id ops true).wpIn F n P Q a w :=
 wpIn_region_any hm (wpAnyIn_of_x _ _ _ _ h)
def YieldsX (P : Program) (ops : Array Oper) (T : World -> Prop) (o : Oper) (v : Value) (a : Act) : Prop := YieldsIf P ops T o v a /\ ∀ w, o.about P w a.eval = none
theorem YieldsX.wpOpIn {T : World -> Prop} {i : Nat} {o : Oper} {v : Value} {a : Act} (hd : noDeferB ops = true) (hi : ops[i]? = some o) (hy : YieldsX P ops T o v a)
  {K : Act -> World -> Prop} {w : World} (hT : T w) (h : K (a.put o.dst v) w) : wpOpIn F n P ops Q i K a w := by
 unfold Go.wpOpIn
 simp only [hi]
 have hab : ∀ f, o.about P w a.eval = some f -> F.fn f := fun f hf => by rw [hy.2 w] at hf; cases hf
 rcases hy.1 with ⟨hw, hv⟩ | ⟨hw, rfl⟩
 ·simp only [hw, if_true, Oper.wpIn, Oper.semAt_eq F.round a.eval o (noDefer_spec hd hi), hv w hT, Oper.uponIn]; exact ⟨hab, h⟩
 ·simp only [hw, Bool.false_eq_true, if_false]; exact ⟨hab, h⟩
theorem YieldsX.of_same {T : World -> Prop} {o : Oper} {v : Value} {a a' : Act} (hy : YieldsX P ops T o v a) (he : execOp a'.eval o = execOp a.eval o)
  (hw : Region.wanted o (yielded ops a'.tmps) = Region.wanted o (yielded ops a.tmps)) (hb : ∀ w, o.about P w a'.eval = o.about P w a.eval) : YieldsX P ops T o v a' :=
 ⟨hy.1.of_same he hw, fun w => by rw [hb w]; exact hy.2 w⟩
theorem wpOpIn_putX {T : World -> Prop} {j : Nat} {oi oj : Oper} {v : Value} (hnd : noDeferB ops = true) (hj : ops[j]? = some oj) (hap : oi.apart ops oj = true)
  (hsi : ∀ cs b, oi.op ≠ .select cs b) (hsj : ∀ cs b, oj.op ≠ .select cs b)
  (hQ : ∀ c a w, Q (.panic c) (a.put oi.dst v) w -> Q (.panic c) a w) {K : Act -> World -> Prop} {a : Act} {w : World}
  (hy : YieldsX P ops T oi v a) (h : wpOpIn F n P ops Q j K (a.put oi.dst v) w) :
  wpOpIn F n P ops Q j (fun a' w' => YieldsX P ops T oi v a' /\ K (a'.put oi.dst v) w') a w := by
 obtain ⟨h1, h2, h3⟩ := Oper.apart_spec hap
 have keep : ∀ (a : Act), YieldsX P ops T oi v a -> ∀ u, YieldsX P ops T oi v (a.put oj.dst u) := fun a hy u =>
  hy.of_same (execOp_put oi hsi a oj.dst u h3) (wanted_put oi a oj.dst u h3) (fun w => about_put oi w a oj.dst u h3)
 have keepD : ∀ d, YieldsX P ops T oi v { a with defers := d :: a.defers } := fun d => hy.of_same rfl rfl (fun _ => rfl)
 have hdj := noDefer_spec hnd hj
 unfold wpOpIn at *
 simp only [hj] at *
 rw [wanted_put oj a oi.dst v h1, about_put oj w a oi.dst v h1] at h
 split
 ·rename_i hw
  simp only [hw, if_true] at h
  unfold Oper.wpIn at *
  rw [about_put oj w a oi.dst v h1] at h
  refine ⟨h.1, ?_⟩
  have h := h.2
  rw [Oper.semAt_eq _ _ _ hdj, execOp_put oj hsj a oi.dst v h1] at h
  rw [Oper.semAt_eq _ _ _ hdj]
  generalize (execOp a.eval oj).run P w = r at *
  cases r with
  | ok x w' =>
   cases x <;> simp only [Oper.uponIn] at h ⊢
   case value u => exact ⟨keep a hy u, by rw [<- Act.put_comm a v u h2]; exact h⟩
   case skip => exact ⟨keep a hy _, by rw [<- Act.put_comm a v undef h2]; exact h⟩
   case defer d =>
    refine ⟨keep _ (keepD d) _, ?_⟩
    rw [<- Act.put_comm _ v undef h2, <- Act.put_defers]
    exact h
   case enter f args =>
    refine ⟨h.1, CallsIn.mono h.2 fun e w'' he => ?_⟩
    cases e with
    | returned u => exact ⟨keep a hy u, by rw [<- Act.put_comm a v u h2]; exact he⟩
    | panicked c => exact hQ _ _ _ he
    | outgrown => exact he
   case row row args => exact ⟨h.1, RowsIn.mono h.2 fun u w'' he => ⟨keep a hy u, by rw [<- Act.put_comm a v u h2]; exact he⟩⟩
   case round l f tmps assign body =>
    refine ⟨h.1, RoundIn.mono h.2 fun e w'' he => ?_⟩
    cases e with
    | returned u => exact ⟨keep a hy u, by rw [<- Act.put_comm a v u h2]; exact he⟩
    | panicked c => exact hQ _ _ _ he
    | outgrown => exact he
  | halt x w' =>
   cases x <;> simp only [Oper.uponIn] at h ⊢
   case panic u => exact hQ _ _ _ h
 ·rename_i hw
  simp only [hw] at h
  exact ⟨h.1, keep a hy _, by rw [<- Act.put_comm a v undef h2]; exact h.2⟩
theorem wpAnyXIn_first {i : Nat} {oi : Oper} {v : Value} {T : World -> Prop} {Cl : Array Bool -> Prop} (hnd : noDeferB ops = true) (hi : ops[i]? = some oi) (hsel : ∀ (j : Nat) (o : Oper) cs b, ops[j]? = some o -> o.op ≠ .select cs b)
  (hQ : ∀ c a w, Q (.panic c) (a.put oi.dst v) w -> Q (.panic c) a w) (hCl : ∀ L j, Cl L -> j ∈ Region.ready md ops L -> Cl (L.setIfInBounds j true))
  (hST : ∀ L w, Cl L -> L.getD i true = false -> S L w -> T w) (hSi : ∀ L w, S (L.setIfInBounds i true) w ↔ S L w) :
  ∀ (fuel : Nat) (listed : Array Bool) (a : Act) (w : World),
   (∀ j oj, ops[j]? = some oj -> j ≠ i -> listed.getD j true = false -> (∀ e ∈ oj.after, Region.binds md e = true -> e.on ≠ i) -> oi.apart ops oj = true) ->
   i ∈ Region.ready md ops listed -> Cl listed -> YieldsX P ops T oi v a -> S listed w ->
   wpAnyXIn F n P md ops Q S fuel (listed.setIfInBounds i true) (a.put oi.dst v) w -> wpAnyXIn F n P md ops Q S (fuel + 1) listed a w := by
 intro fuel
 induction fuel with
 | zero =>
  intro listed a w _ hr hc hy hS H
  refine ⟨fun h => (by rw [h] at hr; cases hr), fun j hj => ?_⟩
  by_cases hji : j = i
  ·subst hji; exact hy.wpOpIn hnd hi (hST _ _ hc (mem_ready.1 hr).1 hS) ⟨(hSi _ _).2 hS, H⟩
  ·have := ready_mono hj hji
   rw [H.1] at this
   cases this
 | succ fuel ih =>
  intro listed a w hfree hr hc hy hS H
  refine ⟨fun h => (by rw [h] at hr; cases hr), fun j hj => ?_⟩
  by_cases hji : j = i
  ·subst hji; exact hy.wpOpIn hnd hi (hST _ _ hc (mem_ready.1 hr).1 hS) ⟨(hSi _ _).2 hS, H⟩
  ·have h1 := H.2 j (ready_mono hj hji)
   obtain ⟨hjun, oj, hoj, hall⟩ := mem_ready.1 hj
   have hnot : ∀ e ∈ oj.after, Region.binds md e = true -> e.on ≠ i := fun e he hb heq => by
    have h1 := hall e he hb
    have h0 := (mem_ready.1 hr).1
    rw [heq] at h1
    rcases Nat.lt_or_ge i listed.size with h' | h'
    ·simp [h'] at h0 h1; rw [h0] at h1; cases h1
    ·simp [Array.getElem?_eq_none h'] at h1
   have h2 := wpOpIn_putX hnd hoj (hfree j oj hoj hji hjun hnot) (fun cs b => hsel i oi cs b hi) (fun cs b => hsel j oj cs b hoj) hQ hy h1
   have hfree' : ∀ k ok, ops[k]? = some ok -> k ≠ i -> (listed.setIfInBounds j true).getD k true = false ->
     (∀ e ∈ ok.after, Region.binds md e = true -> e.on ≠ i) -> oi.apart ops ok = true := fun k ok hk hki hun hno => by
    refine hfree k ok hk hki ?_ hno
    by_cases hjk : j = k
    ·subst hjk; exact hjun
    ·rw [getD_set_ne true hjk] at hun; exact hun
   refine wpOpIn_mono (fun a' w' h3 => ?_) h2
   have hs : S (listed.setIfInBounds j true) w' := by
    have := h3.2.1
    rw [Array.setIfInBounds_comm _ _ (Ne.symm hji)] at this
    exact (hSi _ _).1 this
   refine ⟨hs, ih (listed.setIfInBounds j true) a' w' hfree' (ready_mono hr (Ne.symm hji)) (hCl _ _ hc hj) h3.1 hs ?_⟩
   rw [Array.setIfInBounds_comm _ _ hji]
   exact h3.2.2
theorem wpAnyXIn_take {m i : Nat} {oi : Oper} {v : Value} {S0 S1 : World -> Prop} {fuel : Nat} {listed : Array Bool} {a : Act} {w : World} (hnd : noDeferB ops = true) (hi' : ops.toList[i]? = some oi)
  (hs : Region.noSelect ops = true) (hl : lastB md ops m = true) (him : i < m) (hf : Region.free md ops listed i = true) (hr : (Region.ready md ops listed).contains i = true)
  (hQ : ∀ c a w, Q (.panic c) (a.put oi.dst v) w -> Q (.panic c) a w) (hc0 : listed.getD m false = false) (hab : ∀ w, oi.about P w a.eval = none) (hy : YieldsIf P ops (fun w => S0 w /\ S1 w) oi v a) (hS : SX m S0 S1 listed w)
  (h : wpAnyXIn F n P md ops Q (SX m S0 S1) fuel (listed.setIfInBounds i true) (a.put oi.dst v) w) : wpAnyXIn F n P md ops Q (SX m S0 S1) (fuel + 1) listed a w :=
 have hi : ops[i]? = some oi := by rw [<- Array.getElem?_toList]; exact hi'
 wpAnyXIn_first (Cl := ClX m) hnd hi (Region.noSelect_spec hs) hQ (ClX.next hl)
  (fun L w hc hun hS => ⟨hS.1, hS.2 (by
   cases e : L.getD m false with
   | false => rfl
   | true => have := hc e i him; rw [getD_both hun] at this; cases this)⟩)
  (fun L w => by
   have e : (L.setIfInBounds i true).getD m false = L.getD m false := getD_set_ne false (by omega)
   unfold SX
   rw [e]) fuel listed a w (Region.free_spec hi hf) (by simpa using hr) (fun e => by rw [hc0] at e; cases e) ⟨hy, hab⟩ hS h
theorem wpAnyXIn_one {j : Nat} {o : Oper} {fuel : Nat} {listed : Array Bool} {a : Act} {w : World} (hr : Region.ready md ops listed = [j]) (ho' : ops.toList[j]? = some o)
  (h : ∀ K' : Act -> World -> Prop, Shut (∀ a' w', S (listed.setIfInBounds j true) w' -> wpAnyXIn F n P md ops Q S fuel (listed.setIfInBounds j true) a' w' -> K' a' w') -> if Region.wanted o (yielded ops a.tmps) = true then Oper.wpIn F n P o a w K' Q else (∀ f, o.about P w a.eval = some f -> F.fn f) /\ K' (a.put o.dst undef) w) :
  wpAnyXIn F n P md ops Q S (fuel + 1) listed a w := by
 refine ⟨fun h0 => (by rw [hr] at h0; cases h0), fun i hi => ?_⟩
 rw [hr] at hi
 obtain rfl : i = j := by simpa using hi
 have ho : ops[i]? = some o := by rw [<- Array.getElem?_toList]; exact ho'
 exact wpOpIn_step ho (fun K' hK => h K' (fun a' w' hS hW => hK a' w' ⟨hS, hW⟩))
theorem wpAnyXIn_done {listed : Array Bool} {a : Act} {w : World} (hr : Region.ready md ops listed = []) (h : Q .normal a w) : wpAnyXIn F n P md ops Q S 0 listed a w := ⟨hr, h⟩
end
end Go.Proofs.YtobhemaikomdaaaGreatDoor
