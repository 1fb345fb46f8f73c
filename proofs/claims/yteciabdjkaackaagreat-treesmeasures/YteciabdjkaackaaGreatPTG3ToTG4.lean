import Derived.Test.YteciabdjkaackaaGreatPTG2
import Derived.Test.YteciabdjkaackaaGreatPUM0
import Derived.Test.YteciabdjkaackaaGreatPUN1
import Derived.Test.YteciabdjkaackaaGreatPTSn
import Derived.Test.YteciabdjkaackaaGreatPTDgToTD5
import Derived.Test.YteciabdjkaackaaGreatPTL1
import Derived.Test.YteciabdjkaackaaGreatPTW8ToTT8
import Derived.Test.YteciabdjkaackaaGreatPTS1ToTS3
import Derived.Test.YteciabdjkaackaaGreatPFSetToTT6
import Derived.Test.YteciabdjkaackaaGreatPTW5ToTT2
namespace Go.Proofs.YteciabdjkaackaaGreat
set_option linter.unusedVariables false
open Go.RowKit
def nodS (l : List SG) : List Int := (l.filter fun x => decide (x.1 ≠ -1)).map (·.1)
theorem nod_sg (l : List TV) : nodP l = nodS (l.map sgV) := by
 unfold nodP nodS
 rw [List.filter_map, List.map_map]
 rfl
theorem samQ_list : ∀ (l m : List TV), l.length = m.length -> (∀ i (h : i < l.length) (h' : i < m.length), (posT l[i]).map sgV = (posT m[i]).map sgV) -> (posL l).map sgV = (posL m).map sgV
 | [], [], _, _ => rfl
 | [], _ :: _, h, _ => by simp at h
 | _ :: _, [], h, _ => by simp at h
 | x :: l, y :: m, h, hs => by
  have e1 := hs 0 (by simp) (by simp)
  have e2 := samQ_list l m (by simpa using h) (fun i h1 h2 => hs (i + 1) (by simpa using h1) (by simpa using h2))
  simp only [List.getElem_cons_zero] at e1
  have c : ∀ (a : TV) (l : List TV), posL (a :: l) = posT a ++ posL l := fun a l => by simp [posL]
  rw [c, c, List.map_append, List.map_append, e1, e2]
theorem sam_pos (a : TV) : ∀ b, samV a b -> (posT a).map sgV = (posT b).map sgV := by
 induction a using TV.ind with
 | _ a ih =>
  intro b h
  obtain ⟨h1, h2⟩ := (samV_iff a b).1 h
  rw [posT_eq, posT_eq, List.map_append, List.map_append, List.map_singleton, List.map_singleton, h1, samQ_list a.kids b.kids (sgV_len h1) fun i hi hi' => ih _ (List.getElem_mem hi) _ (h2 i hi hi')]
theorem samH_list : ∀ (l m : List TV), l.length = m.length -> (∀ i (h : i < l.length) (h' : i < m.length), hgT l[i] = hgT m[i]) -> hgL l = hgL m
 | [], [], _, _ => rfl
 | [], _ :: _, h, _ => by simp at h
 | _ :: _, [], h, _ => by simp at h
 | x :: l, y :: m, h, hs => by
  have e1 := hs 0 (by simp) (by simp)
  have e2 := samH_list l m (by simpa using h) (fun i h1 h2 => hs (i + 1) (by simpa using h1) (by simpa using h2))
  simp only [List.getElem_cons_zero] at e1
  show max (hgT x) (hgL l) = max (hgT y) (hgL m)
  rw [e1, e2]
theorem sam_hg (a : TV) : ∀ b, samV a b -> hgT a = hgT b := by
 induction a using TV.ind with
 | _ a ih =>
  intro b h
  obtain ⟨h1, h2⟩ := (samV_iff a b).1 h
  have hp : a.prod = b.prod := congrArg (·.1) h1
  rw [hgT_eq, hgT_eq, hp, samH_list a.kids b.kids (sgV_len h1) fun i hi hi' => ih _ (List.getElem_mem hi) _ (h2 i hi hi')]
theorem lf_pl (t : TV) : leafT (preT t) = (leafs (plT 0 t)).map (·.t) := by
 rw [<- pre_depth 0 t]
 unfold leafT leafs
 rw [List.filter_map]
 rfl
theorem tko_tkt {w : World} {v : Value} {l : List SP} (h : TKo w v l) : TKt w v (l.map (·.t)) := by
 have e : (l.map (·.t)).flatMap tkC = l.flatMap tkCells := by rw [List.flatMap_map]; rfl
 unfold TKt RO
 rw [e, List.length_map]
 exact h
theorem tkt_rowM {w : World} {vo : Value} {l : List TV} (h : TKt w vo l) : ∃ a c, vo = .slice a (l.map tkV).length c /\ TkRow w a (l.map tkV) := by
 obtain ⟨a, c, rfl, -⟩ := RO.len h
 exact ⟨a, c, by rw [List.length_map], (TKt.row h).2⟩
theorem ilo_rowM {w : World} {vo : Value} {l : List Int} (h : ILo w vo l) : ∃ a c, vo = .slice a l.length c /\ InRow w a l := by
 obtain ⟨a, c, rfl, -⟩ := RO.len h
 exact ⟨a, c, rfl, (ILo.row h).2⟩
theorem tat_none (w : World) : TAt w TV.none := .mk _ (fun h => absurd rfl h) (fun k hk => by cases hk)
def TkS (L : List (Int × ByteArray)) (v : Value) (w : World) : Prop := ∃ a c, v = .slice a L.length c /\ TkRow w a L
def InS (L : List Int) (v : Value) (w : World) : Prop := ∃ a c, v = .slice a L.length c /\ InRow w a L
theorem TkS.later {L : List (Int × ByteArray)} {v : Value} {w w' : World} (h : TkS L v w) (hb : Below w.heap.size w w') : TkS L v w' := by
 obtain ⟨a, c, e, h⟩ := h
 exact ⟨a, c, e, h.later hb⟩
theorem InS.later {L : List Int} {v : Value} {w w' : World} (h : InS L v w) (hb : Below w.heap.size w w') : InS L v w' := by
 obtain ⟨a, c, e, h⟩ := h
 exact ⟨a, c, e, h.later hb⟩
section
variable {t U : TV} (hs : samV t U)
include hs
theorem meas_P (w : World) (hU : TAt w U) (hz : szT t <= 100000000) : Calls Tryz.prog 6 #[U.val] w fun e w' => e = .returned (.tuple #[.int .i64 ((plT 0 t).length : Int), .int .i64 ((leafs (plT 0 t)).length : Int), .int .i64 (hgT t : Int)]) /\ Below w.heap.size w w' := by
 have e1 : szT U = (plT 0 t).length := by rw [<- samV_size _ _ hs]; rfl
 have e2 : (leafT (preT U)).length = (leafs (plT 0 t)).length := by
  have h1 := congrArg List.length (leaf_sg (preT U))
  have h2 := congrArg List.length (leaf_sg (preT t))
  rw [<- sam_pre _ _ hs, <- h2, List.length_map, List.length_map] at h1
  rw [h1, lf_pl, List.length_map]
 have := measure_W U w hU (by rw [<- samV_size _ _ hs]; exact hz)
 rw [msU_ht, e1, e2, <- sam_hg _ _ hs] at this
 exact this
theorem yield_P (w : World) (hU : TAt w U) (hz : szT t <= 100000000) : Calls Tryz.prog 15 #[U.val] w fun e w' => ∃ v, e = .returned v /\ TkS ((leafT (preT t)).map tkV) v w' /\ Below w.heap.size w w' := by
 refine (yield_W U w hU (by rw [<- samV_size _ _ hs]; exact hz)).mono fun e w' ⟨v, e1, e2, _, e4⟩ => ⟨v, e1, ?_, e4⟩
 have e : (leafT (preT U)).map tkV = (leafT (preT t)).map tkV := by rw [leaf_sg, leaf_sg, sam_pre _ _ hs]
 obtain ⟨a, c, rfl, hr⟩ := tkt_rowM e2
 rw [e] at hr ⊢
 exact ⟨a, c, rfl, hr⟩
theorem left_P (w : World) (hU : TAt w U) (hz : szT t <= 100000000) : Calls Tryz.prog 18 #[U.val] w fun e w' => ∃ v, e = .returned v /\ InS (nodP (preT t)) v w' /\ Below w.heap.size w w' := by
 refine (left_W U w hU (by rw [<- samV_size _ _ hs]; exact hz)).mono fun e w' ⟨v, e1, e2, _, e4⟩ => ⟨v, e1, ?_, e4⟩
 have e : nodP (preT U) = nodP (preT t) := by rw [nod_sg, nod_sg, sam_pre _ _ hs]
 rw [e] at e2
 exact ilo_rowM e2
theorem right_P (w : World) (hU : TAt w U) (hz : szT t <= 100000000) : Calls Tryz.prog 20 #[U.val] w fun e w' => ∃ v, e = .returned v /\ InS (nodP (posT t)) v w' /\ Below w.heap.size w w' := by
 refine (right_W U w hU (by rw [<- samV_size _ _ hs]; exact hz)).mono fun e w' ⟨v, e1, e2, _, e4⟩ => ⟨v, e1, ?_, e4⟩
 have e : nodP (posT U) = nodP (posT t) := by rw [nod_sg, nod_sg, sam_pos _ _ hs]
 rw [e] at e2
 exact ilo_rowM e2
end
theorem yield_R (t : TV) (w : World) (ht : TAt w t) (hz : szT t <= 100000000) : Calls Tryz.prog 16 #[t.val] w fun e w' => ∃ v, e = .returned v /\ TkS ((leafT (preT t)).map tkV) v w' /\ Below w.heap.size w w' := by
 refine (yield_S t w ht hz).mono fun e w' ⟨a, c, e1, e2, e3⟩ => ⟨_, e1, ?_, e3⟩
 have := tkt_rowM (tko_tkt e2)
 rw [<- lf_pl] at this
 exact this
theorem left_R (t : TV) (w : World) (ht : TAt w t) (hz : szT t <= 100000000) : Calls Tryz.prog 19 #[t.val] w fun e w' => ∃ v, e = .returned v /\ InS (nodP (preT t)) v w' /\ Below w.heap.size w w' := by
 refine (rleft_S t w ht hz).mono fun e w' ⟨a, c, e1, e2, e3⟩ => ⟨_, e1, ?_, e3⟩
 have := ilo_rowM e2
 unfold ndS at this
 rw [pre_depth] at this
 exact this
theorem right_R (t : TV) (w : World) (ht : TAt w t) (hz : szT t <= 100000000) : Calls Tryz.prog 21 #[t.val] w fun e w' => ∃ v, e = .returned v /\ InS (nodP (posT t)) v w' /\ Below w.heap.size w w' :=
 (rright_S t w ht hz).mono fun e w' ⟨a, c, e1, e2, e3⟩ => ⟨_, e1, ilo_rowM e2, e3⟩
theorem nodP_lenM (t : TV) : (nodP (preT t)).length <= szT t /\ (nodP (posT t)).length <= szT t /\ ((leafT (preT t)).map tkV).length <= szT t := by
 have q : (posT t).length = szT t := by
  induction t using TV.ind with
  | _ t ih =>
   have e : ∀ l : List TV, (∀ k ∈ l, (posT k).length = szT k) -> (posL l).length = szL l := fun l => by
    induction l with
    | nil => intro _; rfl
    | cons x l il =>
     intro h
     show (posT x ++ posL l).length = _
     rw [List.length_append, h x (List.mem_cons_self ..), il fun k hk => h k (List.mem_cons_of_mem _ hk), szL_cons]
   rw [posT_eq, List.length_append, szT_eq, e _ ih]
   simp
 refine ⟨?_, ?_, ?_⟩
 ·rw [<- preT_len]; exact nodP_len _
 ·rw [<- q]; exact nodP_len _
 ·rw [List.length_map, <- preT_len]; exact leafT_len _
set_option maxRecDepth 100000 in
set_option maxHeartbeats 2000000 in
theorem sameints_gM (ao bo : Option Addr) (n m ca cb : Nat) (ss : List Int) (w : World) (hn : n = ss.length) (hm : m = ss.length) (hl : ss.length <= 140737488355328) (hr : InRow w ao ss) (hs : InRow w bo ss) :
  Calls Tryz.prog 17 #[.slice ao n ca, .slice bo m cb] w fun e w' => e = .returned (.bool true) /\ ∃ d, w' = w.drewN d := by
 subst hn hm
 have hb : ((ss.length : Int) != ss.length) = false := by simp
 go_enter Tryz.func17, Tryz.ntmps17
 go_wp2
 go_loopw [5] (fun i wr => ∃ k d : Nat, k <= ss.length /\ i = .int .i64 k /\ wr = w.drewN d) (fun i _ => ss.length - (intOf i).toNat)
 case atStart => exact ⟨0, 0, Nat.zero_le _, rfl, rfl⟩
 case round =>
  obtain ⟨k, d, hk, rfl, rfl⟩ := hrel
  by_cases hlt : k < ss.length
  ·obtain ⟨b, off, rfl, _, hc⟩ := hr (by intro h; subst h; simp at hlt)
   obtain ⟨b2, off2, rfl, _, hc2⟩ := hs (by intro h; subst h; simp at hlt)
   have h1 := hc k hlt
   have h2 := hc2 k hlt
   clear hc hc2 hr hs
   generalize ss.getD k 0 = x at *
   have het : (x != x) = false := by simp
   go_wp2
   go_quiet (fail)
   go_wp2
   go_roundw
   case rel => exact ⟨k + 1, _, by omega, by go_num, rfl⟩
   case measure => simp [intOf]; omega
  ·go_wp2
   go_ret
   exact ⟨rfl, _, rfl⟩
theorem samints_V (L : List Int) (v1 v2 : Value) (w : World) (hl : L.length <= 100000000) (h1 : InS L v1 w) (h2 : InS L v2 w) : Calls Tryz.prog 17 #[v1, v2] w fun e w' => e = .returned (.bool true) /\ Below w.heap.size w w' := by
 obtain ⟨a, c, rfl, r1⟩ := h1
 obtain ⟨b, d, rfl, r2⟩ := h2
 exact (sameints_gM a b _ _ c d L w rfl rfl (by omega) r1 r2).mono fun e w' ⟨e1, n, e2⟩ => ⟨e1, by rw [e2]; exact below_drewN (Below.refl _ _) n⟩
theorem samtoks_V (L : List (Int × ByteArray)) (v1 v2 : Value) (w : World) (hl : L.length <= 100000000) (h1 : TkS L v1 w) (h2 : TkS L v2 w) : Calls Tryz.prog 14 #[v1, v2] w fun e w' => e = .returned (.bool true) /\ Below w.heap.size w w' := by
 obtain ⟨a, c, rfl, r1⟩ := h1
 obtain ⟨b, d, rfl, r2⟩ := h2
 exact sameTokens_W a b c d L w r1 r2 (by omega)
theorem at_both {t U : TV} (hs : samV t U) (place : Int) (hpl : -9223372036854775808 <= place /\ place <= 9223372036854775807) (hz : szT t <= 50000000) : ∃ (e1 : Int) (A0 : TV), szT A0 <= 100000000 /\ (∀ w, TAt w U -> Calls Tryz.prog 8 #[U.val, .int .i64 place] w fun e w' => ∃ P : TV, e = .returned (.tuple #[P.val, .int .i64 e1]) /\ samV A0 P /\ TAt w' P /\ Below w.heap.size w w') /\ (∀ w, TAt w t -> Calls Tryz.prog 9 #[t.val, .int .i64 place] w fun e w' => ∃ P : TV, e = .returned (.tuple #[P.val, .int .i64 e1]) /\ samV A0 P /\ TAt w' P /\ Below w.heap.size w w') := by
 have hzU : szT U <= 50000000 := by rw [<- samV_size _ _ hs]; exact hz
 rcases place_ex t place with ⟨π, h1, h2⟩ | h0
 ·obtain ⟨k1, k2, k3, -⟩ := sam_path π t U hs h1
  refine ⟨0, getAt π t, ?_, fun w hw => ?_, fun w hw => ?_⟩
  ·obtain ⟨A, B, -, q, -⟩ := pre_set π t h1
   have := congrArg List.length q
   simp only [List.length_map, List.length_append, preT_len] at this
   omega
  ·exact (at_W U π place k1 (by rw [k2]; exact h2) w hw (by omega)).mono fun e w' ⟨T, e1, e2, e3, e4⟩ => ⟨T, e1, samV_trans _ _ _ k3 e3, e4.ta, e2⟩
  ·refine (rat_S t place w hpl hw (by omega)).mono fun e w' ⟨T, e1, q1, q2, q3, q4⟩ => ?_
   rw [h2] at q2
   obtain ⟨rfl, r2⟩ := rat_path h1 q2
   exact ⟨T, q1, r2, q3, q4⟩
 ·refine ⟨4, TV.none, by decide, fun w hw => ?_, fun w hw => ?_⟩
  ·have hsz := samV_size _ _ hs
   exact (at_no U place (by omega) w hw (by omega)).mono fun e w' ⟨e1, e2⟩ => ⟨_, e1, samV_refl _, tat_none _, e2⟩
  ·refine (rat_S t place w hpl hw (by omega)).mono fun e w' ⟨T, e1, q1, q2, q3, q4⟩ => ?_
   obtain ⟨rfl, rfl⟩ := rat_out h0 q2
   exact ⟨_, q1, samV_refl _, q3, q4⟩
theorem graft_both {t U s V : TV} (hs : samV t U) (hv : samV s V) (place : Int) (hpl : -9223372036854775808 <= place /\ place <= 9223372036854775807) (hz : szT t <= 50000000) (hzs : szT s <= 50000000) : ∃ (e1 : Int) (A0 : TV), szT A0 <= 100000000 /\ (∀ w, TAt w U -> TAt w V -> Calls Tryz.prog 10 #[U.val, .int .i64 place, V.val] w fun e w' => ∃ P : TV, e = .returned (.tuple #[P.val, .int .i64 e1]) /\ samV A0 P /\ TAt w' P /\ Below w.heap.size w w') /\ (∀ w, TAt w t -> TAt w s -> Calls Tryz.prog 11 #[t.val, .int .i64 place, s.val] w fun e w' => ∃ P : TV, e = .returned (.tuple #[P.val, .int .i64 e1]) /\ samV A0 P /\ TAt w' P /\ Below w.heap.size w w') := by
 have hzU : szT U <= 50000000 := by rw [<- samV_size _ _ hs]; exact hz
 have hzV : szT V <= 50000000 := by rw [<- samV_size _ _ hv]; exact hzs
 rcases place_ex t place with ⟨π, h1, h2⟩ | h0
 ·obtain ⟨k1, k2, -, k3⟩ := sam_path π t U hs h1
  refine ⟨0, setAt π t s, ?_, fun w hw hw2 => ?_, fun w hw hw2 => ?_⟩
  ·obtain ⟨A, B, -, q, q2⟩ := pre_set π t h1
   have := congrArg List.length q
   have h3 := congrArg List.length (q2 s)
   simp only [List.length_map, List.length_append, preT_len] at this h3
   omega
  ·exact (graft_W U V π place k1 (by rw [k2]; exact h2) w hw hw2 (by omega) (by omega)).mono fun e w' ⟨T, e1, e2, e3, e4⟩ => ⟨T, e1, samV_trans _ _ _ (k3 s V hv) e3, e4, e2⟩
  ·refine (rgraft_S t s place w hpl hw hw2 hz hzs).mono fun e w' ⟨T, e1, q1, q2, q3, q4⟩ => ?_
   rw [h2] at q2
   obtain ⟨rfl, r2⟩ := rgr_path h1 q2
   exact ⟨T, q1, samV_symm _ _ r2, q3, q4⟩
 ·refine ⟨4, TV.none, by decide, fun w hw hw2 => ?_, fun w hw hw2 => ?_⟩
  ·have hsz := samV_size _ _ hs
   exact (graft_no U V place (by omega) w hw hw2 (by omega)).mono fun e w' ⟨e1, e2⟩ => ⟨_, e1, samV_refl _, tat_none _, e2⟩
  ·refine (rgraft_S t s place w hpl hw hw2 hz hzs).mono fun e w' ⟨T, e1, q1, q2, q3, q4⟩ => ?_
   obtain ⟨rfl, rfl⟩ := rgr_out h0 q2
   exact ⟨_, q1, samV_refl _, q3, q4⟩
theorem same_both {t U s V : TV} (hs : samV t U) (hv : samV s V) (hz : szT t <= 50000000) (hzs : szT s <= 50000000) : ∃ β : Bool, (∀ w, TAt w U -> TAt w V -> Calls Tryz.prog 22 #[U.val, V.val] w fun e w' => e = .returned (.bool β) /\ Below w.heap.size w w') /\ (∀ w, TAt w t -> TAt w s -> Calls Tryz.prog 13 #[t.val, s.val] w fun e w' => e = .returned (.bool β) /\ Below w.heap.size w w') := by
 have hzU : szT U <= 50000000 := by rw [<- samV_size _ _ hs]; exact hz
 have hzV : szT V <= 50000000 := by rw [<- samV_size _ _ hv]; exact hzs
 by_cases h : samV t s
 ·exact ⟨true, fun w h1 h2 => same_W h1 h2 (samV_trans _ _ _ (samV_symm _ _ hs) (samV_trans _ _ _ h hv)) (by omega), fun w h1 h2 => sameTree_W t s w h1 h2 h (by omega)⟩
 ·exact ⟨false, fun w h1 h2 => same_N h1 h2 (fun e => h (samV_trans _ _ _ hs (samV_trans _ _ _ e (samV_symm _ _ hv)))) (by omega) (by omega), fun w h1 h2 => sameTree_no t s w h1 h2 h (by omega)⟩
theorem num_M (n : Int) (w : World) : Calls Tryz.prog 12 #[.int .i64 n] w fun e w' => e = .returned (.int .i64 n) /\ w' = w := by
 go_enter Tryz.func12, Tryz.ntmps12
 go_wp2
 go_ret
 exact ⟨rfl, rfl⟩
structure EnvT (w0 : World) (L : List (Nat × TV)) (w : World) : Prop where
 bel : Below w0.heap.size w0 w
 bx : ∀ x ∈ L, w.heap[x.1]? = some (tBox x.2) /\ TAt w x.2
theorem EnvT.later {w0 : World} {L : List (Nat × TV)} {w w' : World} (h : EnvT w0 L w) (hb : Below w.heap.size w w') : EnvT w0 L w' :=
 ⟨h.bel.trans (hb.mono h.bel.size), fun x hx => ⟨(hb.block _ (lt_of_block (h.bx x hx).1)).trans (h.bx x hx).1, (h.bx x hx).2.later hb⟩⟩
theorem EnvT.add {w0 : World} {L : List (Nat × TV)} {w : World} {U : TV} (h : EnvT w0 L w) (hU : TAt w U) : EnvT w0 ((w.heap.size, U) :: L) (w.alloc (tBox U)) := by
 have h2 := h.later (below_alloc w (tBox U))
 refine ⟨h2.bel, fun x hx => ?_⟩
 rcases List.mem_cons.1 hx with rfl | hx
 ·exact ⟨heap_alloc_new _ _, hU.later (below_alloc _ _)⟩
 ·exact h2.bx x hx
theorem env_start (t s : TV) (w : World) (ht : TAt w t) (hs : TAt w s) : EnvT w [(w.heap.size, t), (w.heap.size + 1, s)] ((w.alloc (tBox t)).alloc (tBox s)) := by
 obtain ⟨h1, h2, h3⟩ := two_allocT w (tBox t) (tBox s)
 refine ⟨h1, fun x hx => ?_⟩
 simp only [List.mem_cons, List.not_mem_nil, or_false] at hx
 rcases hx with rfl | rfl
 ·exact ⟨h2, ht.later h1⟩
 ·exact ⟨h3, hs.later h1⟩
theorem EnvT.get {w0 : World} {L : List (Nat × TV)} {w : World} (h : EnvT w0 L w) {k : Nat} {t : TV} (hm : (k, t) ∈ L) : w.heap[k]? = some (tBox t) /\ TAt w t := h.bx _ hm
theorem GvT.call {q g1 c1 g2 c2 : Nat} {L M : List TV} {w : World} (h : GvT q g1 c1 g2 c2 L M w) (hL : L.length <= 1000) (t : TV) (ht : TAt w t) (hsz : szT t <= 100000000) : Calls Tryz.prog 5 #[.pointer (some ⟨q, 0, none⟩), t.val] w fun e w' => ∃ T T2 k1 d1 k2 d2, e = .returned T.val /\ GvT q k1 d1 k2 d2 (L ++ [T]) (M ++ [T2]) w' /\ samV t T /\ (w'.os = w.os /\ w'.tape = w.tape /\ w'.output = w.output /\ w.heap.size <= w'.heap.size /\ ∀ k, k < w.heap.size -> k ≠ q -> k ≠ g1 -> k ≠ g2 -> w'.heap[k]? = w.heap[k]?) := by
 obtain ⟨V, hq, h0, h20, h21⟩ := h.ex
 have hML : L.length = M.length := h.sm.1
 have t2 := h.t2
 rw [hML] at h21 t2
 obtain ⟨n1, n2, n3⟩ := h.ne
 have o1 : ∀ {g n c k : Nat}, g ≠ k -> (Value.slice (some ⟨g, 0, none⟩) n c).ownBlock ≠ some k := fun h => own_neM h
 refine (tree_W2 q V w hq h20 h21 h.t1 t2 (by omega) (by omega) (fun j hj => ?_) (o1 n2) (o1 n3) t ht hsz).mono ?_
 ·have : g1 = j := Option.some.inj hj
  subst this
  exact o1 (Ne.symm n1)
 ·rintro e w' ⟨T1, T2, k1, k2, d1, d2, rfl, lw, hq', r1, r2, a1, a2, s1, s2, e1, e2, ne, nq1, nq2, ad1, ad2⟩
  have hqn := lt_of_block hq
  have f1 : k1 = g1 ∨ w.heap.size <= k1 := e1.imp (fun e => (Option.some.inj e).symm) id
  have f2 : k2 = g2 ∨ w.heap.size <= k2 := e2.imp (fun e => (Option.some.inj e).symm) id
  have blk : ∀ k, k < w.heap.size -> k ≠ q -> k ≠ g1 -> k ≠ g2 -> w'.heap[k]? = w.heap[k]? := fun k hk h1 h2 h3 => lw.blk k hk h1 (o1 (Ne.symm h2)) (o1 (Ne.symm h3))
  have old : ∀ T, T ∈ L ∨ T ∈ M -> TAt w T -> TAt w' T := fun T hT hTA => keep_at T 0 0 hTA fun a ha => ⟨Nat.lt_of_lt_of_le (kids_lt hTA ha) lw.size, fun j _ => World.cell?_of_block (blk a.1 (kids_lt hTA ha) (h.ad T hT a ha).1 (h.ad T hT a ha).2.1 (h.ad T hT a ha).2.2)⟩
  have hta : ∀ T, T ∈ L ∨ T ∈ M -> TAt w T := fun T hT => hT.elim (fun q => (h.a1 T q).1) (fun q => h.a2 T q)
  refine ⟨T1, T2, k1, d1, k2, d2, rfl, ⟨⟨_, hq', fun i hi => ?_, ?_, ?_⟩, ?_, ?_, fun T hT => ?_, fun T hT => ?_, samL_app h.sm (samL_one s2), ⟨ne, nq1, nq2⟩, fun T hT a ha => ?_⟩, s1, lw.os, lw.tape, lw.output, lw.size, blk⟩
  ·unfold updV
   rw [if_neg (by omega), if_neg (by omega), h0 i hi]
  ·rw [List.length_append]; rfl
  ·rw [List.length_append, hML]; rfl
  ·rw [List.length_append]; exact r1
  ·rw [List.length_append, hML]; exact r2
  ·rcases List.mem_append.1 hT with hT | hT
   ·exact ⟨old T (.inl hT) (h.a1 T hT).1, (h.a1 T hT).2⟩
   ·simp only [List.mem_cons, List.not_mem_nil, or_false] at hT
    subst hT
    exact ⟨a1, by rw [<- samV_size _ _ s1]; exact hsz⟩
  ·rcases List.mem_append.1 hT with hT | hT
   ·exact old T (.inr hT) (h.a2 T hT)
   ·simp only [List.mem_cons, List.not_mem_nil, or_false] at hT
    subst hT
    exact a2
  ·have hold : (T ∈ L ∨ T ∈ M) -> a.1 ≠ q /\ a.1 ≠ k1 /\ a.1 ≠ k2 := fun hT => by
    obtain ⟨p1, p2, p3⟩ := h.ad T hT a ha
    have hlt := kids_lt (hta T hT) ha
    refine ⟨p1, fun e => ?_, fun e => ?_⟩
    ·rcases f1 with f | f
     ·exact p2 (e.trans f)
     ·omega
    ·rcases f2 with f | f
     ·exact p3 (e.trans f)
     ·omega
   rcases hT with hT | hT
   ·rcases List.mem_append.1 hT with hT | hT
    ·exact hold (.inl hT)
    ·simp only [List.mem_cons, List.not_mem_nil, or_false] at hT
     subst hT
     obtain ⟨p1, p2, p3⟩ := ad1 a ha
     exact ⟨by omega, p2, p3⟩
   ·rcases List.mem_append.1 hT with hT | hT
    ·exact hold (.inr hT)
    ·simp only [List.mem_cons, List.not_mem_nil, or_false] at hT
     subst hT
     obtain ⟨p1, p2, p3⟩ := ad2 a ha
     exact ⟨by omega, p2, p3⟩
theorem gvt_first (q : Nat) (w : World) (hq : w.heap[q]? = some (.cells (hArr fun _ => hNil) 38 (0, 0))) (t : TV) (ht : TAt w t) (hsz : szT t <= 100000000) : Calls Tryz.prog 5 #[.pointer (some ⟨q, 0, none⟩), t.val] w fun e w' => ∃ T T2 k1 d1 k2 d2, e = .returned T.val /\ GvT q k1 d1 k2 d2 [T] [T2] w' /\ samV t T /\ (w'.os = w.os /\ w'.tape = w.tape /\ w'.output = w.output /\ w.heap.size <= w'.heap.size /\ ∀ k, k < w.heap.size -> k ≠ q -> w'.heap[k]? = w.heap[k]?) /\ w.heap.size <= k1 /\ w.heap.size <= k2 := by
 have nn : ∀ k, (Value.slice none 0 0).ownBlock ≠ some k := fun k e => by cases e
 refine (tree_W2 q (fun _ => hNil) w hq (aa := none) (ab := none) (ca := 0) (cb := 0) (LA := []) (LB := []) rfl rfl (RO.nil _) (RO.nil _) (by decide) (by decide) (fun j hj => by cases hj) (nn q) (nn q) t ht hsz).mono ?_
 rintro e w' ⟨T1, T2, k1, k2, d1, d2, rfl, lw, hq', r1, r2, a1, a2, s1, s2, e1, e2, ne, nq1, nq2, ad1, ad2⟩
 have hqn := lt_of_block hq
 have f1 : w.heap.size <= k1 := e1.elim (fun e => (nn _ e).elim) id
 have f2 : w.heap.size <= k2 := e2.elim (fun e => (nn _ e).elim) id
 refine ⟨T1, T2, k1, d1, k2, d2, rfl, ⟨⟨_, hq', fun i hi => ?_, rfl, rfl⟩, r1, r2, fun T hT => ?_, fun T hT => ?_, samL_one s2, ⟨ne, nq1, nq2⟩, fun T hT a ha => ?_⟩, s1, ⟨lw.os, lw.tape, lw.output, lw.size, fun k hk h1 => lw.blk k hk h1 (nn k) (nn k)⟩, f1, f2⟩
 ·unfold updV
  rw [if_neg (by omega), if_neg (by omega)]
 ·simp only [List.mem_cons, List.not_mem_nil, or_false] at hT
  subst hT
  exact ⟨a1, by rw [<- samV_size _ _ s1]; exact hsz⟩
 ·simp only [List.mem_cons, List.not_mem_nil, or_false] at hT
  subst hT
  exact a2
 ·rcases hT with hT | hT <;> simp only [List.mem_cons, List.not_mem_nil, or_false] at hT <;> subst hT
  ·obtain ⟨p1, p2, p3⟩ := ad1 a ha
   exact ⟨by omega, p2, p3⟩
  ·obtain ⟨p1, p2, p3⟩ := ad2 a ha
   exact ⟨by omega, p2, p3⟩
structure MsS (w0 : World) (q : Nat) (L : List (Nat × TV)) (LU : List TV) (w : World) : Prop where
 env : EnvT w0 L w
 gv : ∃ g1 c1 g2 c2 MU, GvT q g1 c1 g2 c2 LU MU w
theorem MsS.later {w0 : World} {q : Nat} {L : List (Nat × TV)} {LU : List TV} {w w' : World} (h : MsS w0 q L LU w) (hb : Below w.heap.size w w') : MsS w0 q L LU w' := by
 obtain ⟨g1, c1, g2, c2, MU, h2⟩ := h.gv
 exact ⟨h.env.later hb, g1, c1, g2, c2, MU, h2.later hb⟩
theorem MsS.add {w0 : World} {q : Nat} {L : List (Nat × TV)} {LU : List TV} {w : World} {P : TV} (h : MsS w0 q L LU w) (hP : TAt w P) : MsS w0 q ((w.heap.size, P) :: L) LU (w.alloc (tBox P)) :=
 ⟨h.env.add hP, (h.later (below_alloc _ _)).gv⟩
structure MsA (w0 : World) (t s : TV) (b8 : Nat) (U : TV) (w : World) : Prop where
 bel : Below w0.heap.size w0 w
 bt : w.heap[w0.heap.size]? = some (tBox t)
 bs : w.heap[w0.heap.size + 1]? = some (tBox s)
 x8 : w.heap[b8]? = some (tBox U)
 l8 : w0.heap.size + 2 < b8
 gv : ∃ g1 c1 g2 c2 U2, GvT (w0.heap.size + 2) g1 c1 g2 c2 [U] [U2] w /\ w0.heap.size + 2 < g1 /\ w0.heap.size + 2 < g2 /\ g1 ≠ b8 /\ g2 ≠ b8
abbrev gvBoxM : Obj := .cells #[hNil, hNil, hNil, hNil, hNil, hNil, hNil, hNil, hNil, hNil, hNil, hNil, hNil, hNil, hNil, hNil, hNil, hNil, hNil, hNil, hNil, hNil] 38
structure MsB (w0 : World) (t s : TV) (w : World) : Prop where
 env : EnvT w0 [(w0.heap.size, t), (w0.heap.size + 1, s)] w
 hq : w.heap[w0.heap.size + 2]? = some (.cells (hArr fun _ => hNil) 38 (0, 0))
theorem msb_start (t s : TV) (w : World) (ht : TAt w t) (hs : TAt w s) : MsB w t s (((w.alloc (tBox t)).alloc (tBox s)).alloc gvBoxM) := by
 have h := env_start t s w ht hs
 refine ⟨h.later (below_alloc _ _), ?_⟩
 have := heap_alloc_new ((w.alloc (tBox t)).alloc (tBox s)) gvBoxM
 have e : ((w.alloc (tBox t)).alloc (tBox s)).heap.size = w.heap.size + 2 := by simp
 rw [e] at this
 exact this
theorem MsB.call {w0 : World} {t s : TV} {w : World} (h : MsB w0 t s w) (ht : TAt w0 t) (hsz : szT t <= 100000000) : Calls Tryz.prog 5 #[.pointer (some ⟨w0.heap.size + 2, 0, none⟩), t.val] w fun e w' => ∃ U, e = .returned U.val /\ samV t U /\ MsA w0 t s w'.heap.size U (w'.alloc (tBox U)) := by
 refine (gvt_first _ w h.hq t (ht.later h.env.bel) hsz).mono ?_
 rintro e w' ⟨T, T2, k1, d1, k2, d2, rfl, hG, s1, ⟨f1, f2, f3, f4, f5⟩, l1, l2⟩
 have hqn := lt_of_block h.hq
 obtain ⟨x1, x2⟩ := h.env.get (k := w0.heap.size) (t := t) (by simp)
 obtain ⟨y1, y2⟩ := h.env.get (k := w0.heap.size + 1) (t := s) (by simp)
 have hb : Below w0.heap.size w0 w' := ⟨f1.trans h.env.bel.os, f2.trans h.env.bel.tape, f3.trans h.env.bel.output, Nat.le_trans h.env.bel.size f4, fun k hk => (f5 k (by omega) (by omega)).trans (h.env.bel.block k hk)⟩
 have ba := below_alloc w' (tBox T)
 have m1 := hG.t1.lt k1 rfl
 have m2 := hG.t2.lt k2 rfl
 exact ⟨T, rfl, s1, hb.trans (ba.mono hb.size), (ba.block _ (by omega)).trans ((f5 _ (lt_of_block x1) (by omega)).trans x1), (ba.block _ (by omega)).trans ((f5 _ (lt_of_block y1) (by omega)).trans y1), heap_alloc_new _ _, by omega, k1, d1, k2, d2, T2, hG.later ba, by omega, by omega, by omega, by omega⟩
theorem MsA.call {w0 : World} {t s : TV} {b8 : Nat} {U : TV} {w : World} (h : MsA w0 t s b8 U w) (ht : TAt w0 t) (hs : TAt w0 s) (hsz : szT s <= 100000000) : Calls Tryz.prog 5 #[.pointer (some ⟨w0.heap.size + 2, 0, none⟩), s.val] w fun e w' => ∃ V, e = .returned V.val /\ samV s V /\ MsS w0 (w0.heap.size + 2) [(w'.heap.size, V), (b8, U), (w0.heap.size, t), (w0.heap.size + 1, s)] [U, V] (w'.alloc (tBox V)) := by
 obtain ⟨g1, c1, g2, c2, U2, hG, n1, n2, n3, n4⟩ := h.gv
 refine (hG.call (by simp) s (hs.later h.bel) hsz).mono ?_
 rintro e w' ⟨T, T2, k1, d1, k2, d2, rfl, hG', s1, ⟨f1, f2, f3, f4, f5⟩⟩
 have hb : Below w0.heap.size w0 w' := ⟨f1.trans h.bel.os, f2.trans h.bel.tape, f3.trans h.bel.output, Nat.le_trans h.bel.size f4, fun k hk => (f5 k (Nat.lt_of_lt_of_le hk h.bel.size) (by omega) (by omega) (by omega)).trans (h.bel.block k hk)⟩
 have l8 := h.l8
 refine ⟨T, rfl, s1, MsS.add (L := [(b8, U), (w0.heap.size, t), (w0.heap.size + 1, s)]) ⟨⟨hb, fun x hx => ?_⟩, k1, d1, k2, d2, _, hG'⟩ (hG'.a1 T (by simp)).1⟩
 simp only [List.mem_cons, List.not_mem_nil, or_false] at hx
 rcases hx with rfl | rfl | rfl
 ·exact ⟨(f5 _ (lt_of_block h.x8) (by omega) (Ne.symm n3) (Ne.symm n4)).trans h.x8, (hG'.a1 U (by simp)).1⟩
 ·exact ⟨(f5 _ (lt_of_block h.bt) (by omega) (by omega) (by omega)).trans h.bt, ht.later hb⟩
 ·exact ⟨(f5 _ (lt_of_block h.bs) (by omega) (by omega) (by omega)).trans h.bs, hs.later hb⟩
end Go.Proofs.YteciabdjkaackaaGreat
