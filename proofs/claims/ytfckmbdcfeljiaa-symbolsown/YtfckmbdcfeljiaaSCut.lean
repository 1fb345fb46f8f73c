import Derived.Test.YtfckmbdcfeljiaaSCall3
namespace Go.Proofs.Ytfckmbdcfeljiaa
set_option linter.unusedVariables false
open Go.RowKit Go.Maps

def cutF (f : ByteArray → Option (Int × Int)) (l : List ByteArray) : ByteArray → Option (Int × Int) := fun s => if (l.any fun t => decide (t = s)) = true then none else f s
theorem cutF_nil (f : ByteArray → Option (Int × Int)) : cutF f [] = f := by funext s; simp [cutF]
theorem cutF_snoc (f : ByteArray → Option (Int × Int)) (l : List ByteArray) (s : ByteArray) : cutF f (l ++ [s]) = upd (cutF f l) s none := by
  funext t
  by_cases e : t = s
  · subst e; simp [cutF, upd]
  · have e' : ¬ s = t := fun q => e q.symm
    simp only [cutF, upd, if_neg e, List.any_append, List.any_cons, List.any_nil, decide_eq_false e', Bool.or_false]
/-- clear of a slice's tail. -/
theorem run_clear_tail (w : World) (ty : TypeId) (g n m c : Nat) (cur : Array Value) (hg : w.heap[g]? = some (.cells cur 9 (0, 0))) (hm : 0 < m) (hfit : n + m ≤ cur.size) :
    ∃ cur' : Array Value, (Builtin.clear_ #[23] ty #[.slice (some ⟨g, n, none⟩) m c]).run Try.prog w = .ok (.tuple #[]) (w.setRow g cur') ∧ cur'.size = cur.size ∧ cur'.toList.take n = cur.toList.take n := by
  obtain ⟨m', rfl⟩ : ∃ k, m = k + 1 := ⟨m - 1, by omega⟩
  have hz : ∀ w : World, (zeroValue 9).run Try.prog w = .ok (.string ⟨#[]⟩) w := fun w => by kernel_rfl
  have hzc : (Builtin.zeroCells (Value.string ⟨#[]⟩).cells (m' + 1)).toList.length = m' + 1 := by simp [Builtin.zeroCells, Value.cells]
  have h1 : ∀ v ∈ (Builtin.zeroCells (Value.string ⟨#[]⟩).cells (m' + 1)).toList, v.oneCell' = true := by
    intro v hv
    simp [Builtin.zeroCells, Value.cells] at hv
    obtain ⟨i, _, rfl⟩ := hv
    simp [Nat.mod_one]; rfl
  have hst := run_storeCells_at Try.prog g n 9 (Builtin.zeroCells (Value.string ⟨#[]⟩).cells (m' + 1)).toList 0 cur w hg (by rw [hzc]; omega) h1
  simp only [Nat.add_zero] at hst
  obtain ⟨Z, hZ⟩ : ∃ Z, Z = (Builtin.zeroCells (Value.string ⟨#[]⟩).cells (m' + 1)).toList := ⟨_, rfl⟩
  rw [← hZ] at hst hzc h1
  refine ⟨(cur.toList.take n ++ Z ++ cur.toList.drop (n + Z.length)).toArray, ?_, ?_, ?_⟩
  · simp [Builtin.clear_, run_underlying Try.underlying23, hz, Result.andThen]
    rw [← hZ, hst]
    simp
  · simp; omega
  · simp
    rw [List.take_append_of_le_length (by simp; omega)]
    exact List.take_take.trans (by simp)

/-- What a cut leaves. -/
structure PCut (w w' : World) (g b o n : Nat) (V V' : Value) (ss : List ByteArray) (D : DataW Unit) (f : ByteArray → Option (Int × Int)) (C : Array Value) (D0 : DataW Unit) : Prop where
  os : w'.os = w.os
  tape : w'.tape = w.tape
  output : w'.output = w.output
  size : w.heap.size ≤ w'.heap.size
  block : ∀ k, k < w.heap.size → k ≠ g → k ≠ b → some k ≠ V.ownBlock → w'.heap[k]? = w.heap[k]?
  hg : w'.heap[g]? = some (.cells (C.setIfInBounds (o + 3) V') 68 (0, 0))
  own : ∃ m, w'.ownsMap Try.prog 9 symElem b m D
  look : MInv D (cutF f (ss.drop n))
  names : GS w' V' (ss.take n)
  moved : V'.ownBlock = V.ownBlock
  sz : Maps.size D + (ss.length - n) = Maps.size D0
theorem wpList_clear_tail {ops : Array Oper} {rest : List Oper} {o : Oper} {a : Act} {Q : Exit → Act → World → Prop} {w : World} (hgd : o.guard = none) (s : Operand)
    (ho : o.op = .call { callee := .builtin .clear, args := #[s], argTypes := #[23] }) (g n m c : Nat) (cur : Array Value) (hs : a.eval s = .slice (some ⟨g, n, none⟩) m c) (hg : w.heap[g]? = some (.cells cur 9 (0, 0))) (hm : 0 < m) (hfit : n + m ≤ cur.size)
    (hK : ∀ cur' : Array Value, cur'.size = cur.size → cur'.toList.take n = cur.toList.take n → wpList Try.prog ops Q rest (a.put o.dst (.tuple #[])) (w.setRow g cur')) : wpList Try.prog ops Q (o :: rest) a w := by
  refine wpList_plain hgd fun K hK' => ?_
  obtain ⟨cur', hrun, h2, h3⟩ := run_clear_tail w o.type g n m c cur hg hm hfit
  unfold Oper.wp execOp
  simp only [ho, resolve, invoke, builtin, Sem.run_bind, Sem.run_pure, Result.andThen_ok, List.map_toArray, List.map_cons, List.map_nil, hs, hrun]
  exact hK' _ _ (hK cur' h2 h3)
theorem grownBy_refl (w : World) (r : Option Nat) : w.grownBy w r := ⟨rfl, rfl, rfl, Nat.le_refl _, fun _ _ _ => rfl⟩
set_option maxRecDepth 100000 in
set_option maxHeartbeats 2000000 in
theorem cut_tail {w : World} {g b o x cap n : Nat} {kd fl : Int} {ss : List ByteArray} {D : DataW Unit} {f : ByteArray → Option (Int × Int)} {C : Array Value} {cur : Array Value} (h : PAt w g b o kd fl (.slice (some ⟨x, 0, none⟩) ss.length cap) ss D f C)
    (hx : w.heap[x]? = some (.cells cur 9 (0, 0))) (hcs : cur.size = cap) (hle : ss.length ≤ cap) (hcap : cap ≤ maxLen) (hn : n < ss.length) (hl : ss.length ≤ 64) (hsz : ∀ s ∈ ss, s.size ≤ maxLen) (hin : ∀ k, n + k < ss.length → (cutF f ((ss.drop n).take k) (ss.getD (n + k) ByteArray.empty)).isSome = true) :
    Calls Try.prog 47 #[.pointer (some ⟨g, 0, none⟩), .pointer (some ⟨g, o, none⟩), .int .i64 n] w fun e w' => e = .returned (.tuple #[]) ∧ ∃ D' V', PCut w w' g b o n (.slice (some ⟨x, 0, none⟩) ss.length cap) V' ss D' f C D := by
  have HIN : Hid (∀ k, n + k < ss.length → (cutF f ((ss.drop n).take k) (ss.getD (n + k) ByteArray.empty)).isSome = true) := hin
  clear hin
  obtain ⟨c0, ck, cm, cf, cn, hfr⟩ := h.cell
  have hgl : g < w.heap.size := lt_of_block h.hg
  obtain ⟨es, cl, hbm, rr⟩ := h.own
  clear rr
  have hgb : g ≠ b := by intro e; have := h.hg; rw [e, hbm] at this; simp at this
  have hxb : x ≠ b := by intro e; rw [e, hbm] at hx; simp at hx
  have hxg : x ≠ g := by intro e; rw [e, h.hg] at hx; simp at hx
  have hxl := lt_of_block hx
  have k1 : (n : Int) ≤ ss.length := by omega
  have k2 : ¬ cap = n := by omega
  have k3 : (n : Int) ≤ cap := by omega
  go_enter Try.func47, Try.ntmps47
  go_wp2
  go_loopw [17] (fun i wr => ∃ (k m : Nat) (D' : DataW Unit), k ≤ ss.length - n ∧ i = .int .i64 k ∧ wr.ownsMap Try.prog 9 symElem b m D' ∧ MInv D' (cutF f ((ss.drop n).take k)) ∧ w.grownBy wr (some b) ∧ Hid (Maps.size D' + k = Maps.size D)) (fun i _ => ss.length - n - (intOf i).toNat)
  case atStart => exact ⟨0, _, D, Nat.zero_le _, rfl, h.own, by rw [List.take_zero, cutF_nil]; exact h.look, grownBy_refl _ _, by unfold Hid; omega⟩
  case round =>
    obtain ⟨k, m, D', hk, rfl, hown, hM, hG, HSZ⟩ := hrel
    have HM : Hid (MInv D' (cutF f ((ss.drop n).take k))) := hM
    clear hM
    have g3 : wr.heap[g]? = some (.cells C 68 (0, 0)) := (hG.block g hgl (by simpa using hgb)).trans h.hg
    have x3 : wr.heap[x]? = some (.cells cur 9 (0, 0)) := (hG.block x hxl (by simpa using hxb)).trans hx
    have d0 : wr.cell? ⟨g, 0, none⟩ = some (.map (some b)) := by rw [cellq_any g3]; exact h.c0
    have dn : wr.cell? ⟨g, o + 3, none⟩ = some (.slice (some ⟨x, 0, none⟩) ss.length cap) := by rw [cellq_any g3]; exact h.cn
    have df : wr.frozen? ⟨g, o + 3, none⟩ = false := by simp [World.frozen?, g3]
    have hxl3 := lt_of_block x3
    have hgl3 := lt_of_block g3
    clear c0 ck cm cf cn hfr
    by_cases hlt : k < ss.length - n
    · have hnk : n + k < ss.length := by omega
      have cc : wr.cell? ⟨x, n + k, none⟩ = some (.string (ss.getD (n + k) ByteArray.empty)) := by
        obtain ⟨g', c', e', hcell⟩ := gs_at h.names (n + k) hnk
        simp at e'
        obtain ⟨rfl, _⟩ := e'
        rw [← hcell]
        simp [World.cell?, hx, x3]
      have hs1 : (ss.getD (n + k) ByteArray.empty).size ≤ maxLen := hsz _ (by simp [List.getD, hnk])
      have HD : Hid ((ss.drop n).take (k + 1) = (ss.drop n).take k ++ [ss.getD (n + k) ByteArray.empty]) := by
        unfold Hid
        rw [List.take_succ_eq_append_getElem (by simp; omega)]
        simp [List.getD, hnk]
      have HH : Hid (Maps.size (D'.del (keyL (ss.getD (n + k) ByteArray.empty))) + (k + 1) = Maps.size D) := by
        unfold Hid
        have e1 := size_del (k := keyL (ss.getD (n + k) ByteArray.empty)) HM.out.tidy
        rw [HM.out.has_, HIN.out k hnk, if_pos rfl] at e1
        have e2 := HSZ.out
        omega
      clear HIN
      generalize ss.getD (n + k) ByteArray.empty = s at *
      have klt : (k : Int) < ((ss.length - n : Nat) : Int) := by omega
      have kn : (n : Int) + k = ((n + k : Nat) : Int) := by omega
      go_wp2_with (first | (at_delete; refine wpList_delete_own _ rfl _ _ 63 9 rfl 70 law Try.underlying63 symElem b m D' rfl hown _ _ rfl (keyOf_name hs1) ?_; intro w1 hown1 hturn1))
      go_roundw
      case rel => exact ⟨k + 1, m, _, by omega, by go_num, hown1, by rw [HD.out, cutF_snoc]; exact HM.out.del s, hG.trans hturn1.grown, HH⟩
      case measure => simp [intOf]; omega
    · have ke : k = ss.length - n := by omega
      have HM2 : Hid (MInv D' (cutF f (ss.drop n))) := by
        have := HM.out
        rw [List.take_of_length_le (by simp; omega)] at this
        exact this
      have HS2 : Hid (Maps.size D' + (ss.length - n) = Maps.size D) := by unfold Hid; have := HSZ.out; omega
      have hpos : 0 < ss.length - n := by omega
      have hfit : n + (ss.length - n) ≤ cur.size := by omega
      have nlt : ¬ ((k : Int) < ((ss.length - n : Nat) : Int)) := by omega
      have AF : Hid (∀ cur' : Array Value, (wr.setRow x cur').heap[g]? = some (.cells C 68 (0, 0)) ∧ (wr.setRow x cur').cell? ⟨g, o + 3, none⟩ = some (.slice (some ⟨x, 0, none⟩) ss.length cap) ∧ (wr.setRow x cur').frozen? ⟨g, o + 3, none⟩ = false) := fun cur' => by
        have y : (wr.setRow x cur').heap[g]? = some (.cells C 68 (0, 0)) := (setRow_other wr x g cur' (fun e => hxg e.symm)).trans g3
        exact ⟨y, by rw [cellq_any y]; exact h.cn, by simp [World.frozen?, y]⟩
      clear ke
      go_wp2_with (first | (refine wpList_clear_tail rfl (.tmp 27) rfl x n (ss.length - n) (cap - n) cur rfl x3 hpos hfit ?_; intro cur' hs' ht'; obtain ⟨y0, y1, y2⟩ := AF.out cur'))
      go_end0
      have s1 : (wr.setRow x cur').heap.size = wr.heap.size := by simp [World.setRow]
      have s2 : ((wr.setRow x cur').setCell ⟨g, o + 3, none⟩ (.slice (some ⟨x, 0, none⟩) n cap)).heap.size = wr.heap.size := by simp [World.setCell, s1]
      have xx : ((wr.setRow x cur').setCell ⟨g, o + 3, none⟩ (.slice (some ⟨x, 0, none⟩) n cap)).heap[x]? = some (.cells cur' 9 (0, 0)) := by rw [Below.heap_setCell _ _ _ _ hxg]; exact setRow_heap wr x cur cur' _ _ x3
      refine ⟨rfl, D', .slice (some ⟨x, 0, none⟩) n cap, ⟨hG.os, hG.tape, hG.output, by rw [s2]; exact hG.size, fun j hj hjg hjb hjv => ?_, heap_set y0 _ _, ?_, HM2.out, ?_, rfl, HS2.out⟩⟩
      · rw [Below.heap_setCell _ _ _ _ hjg, setRow_other wr x j cur' (fun e => hjv (by rw [e]; rfl))]
        exact hG.block j hj (by simpa using hjb)
      · obtain ⟨es', cl', hb', r'⟩ := hown
        exact ⟨m, es', cl', by rw [Below.heap_setCell _ _ _ _ (fun e => hgb e.symm), setRow_other wr x b cur' (fun e => hxb e.symm)]; exact hb', r'⟩
      · have hlen : (ss.take n).length = n := by simp; omega
        refine ⟨by simp, .inr ⟨x, cap, cur', by rw [hlen], Nat.zero_le _, xx, by rw [hlen]; omega, hcap, by omega, ?_⟩⟩
        rw [hlen, Nat.mul_one, ht']
        rcases h.names.2 with ⟨e, _⟩ | ⟨g', cap', cur2, e, _, hg2, _, _, _, ht2⟩
        · cases e
        · simp at e
          obtain ⟨rfl, rfl⟩ := e
          rw [hx] at hg2
          simp at hg2
          subst hg2
          rw [Nat.mul_one] at ht2
          have := congrArg (List.take n) ht2
          rw [List.take_take, Nat.min_eq_left (by omega)] at this
          rw [this, List.map_take]

theorem PCut.same {w : World} {g b o : Nat} {kd fl : Int} {V : Value} {ss : List ByteArray} {D : DataW Unit} {f : ByteArray → Option (Int × Int)} {C : Array Value} (h : PAt w g b o kd fl V ss D f C) : PCut w (w.setCell ⟨g, o + 3, none⟩ V) g b o ss.length V V ss D f C D := by
  have s2 : (w.setCell ⟨g, o + 3, none⟩ V).heap.size = w.heap.size := by simp [World.setCell]
  obtain ⟨es, cl, hbm, r⟩ := h.own
  have hgb : b ≠ g := by intro e; have := h.hg; rw [← e, hbm] at this; simp at this
  refine ⟨rfl, rfl, rfl, by rw [s2]; exact Nat.le_refl _, fun j hj hjg _ _ => Below.heap_setCell _ _ _ _ hjg, heap_set h.hg _ _, ⟨_, es, cl, by rw [Below.heap_setCell _ _ _ _ hgb]; exact hbm, r⟩, ?_, ?_, rfl, by omega⟩
  · rw [List.drop_length, cutF_nil]; exact h.look
  · rw [List.take_length]; exact h.names.kept fun k hk => Below.heap_setCell _ _ _ _ fun e => h.names.ne h.hg (by decide) (by rw [hk, e])
theorem wpList_clear_zero {ops : Array Oper} {rest : List Oper} {o : Oper} {a : Act} {Q : Exit → Act → World → Prop} {w : World} (hgd : o.guard = none) (s : Operand)
    (ho : o.op = .call { callee := .builtin .clear, args := #[s], argTypes := #[23] }) (ad : Option Addr) (c : Nat) (hs : a.eval s = .slice ad 0 c)
    (hK : wpList Try.prog ops Q rest (a.put o.dst (.tuple #[])) w) : wpList Try.prog ops Q (o :: rest) a w := by
  refine wpList_plain hgd fun K hK' => ?_
  have hrun : (Builtin.clear_ #[23] o.type #[.slice ad 0 c]).run Try.prog w = .ok (.tuple #[]) w := by
    cases ad <;> simp [Builtin.clear_, run_underlying Try.underlying23, Result.andThen]
  unfold Oper.wp execOp
  simp only [ho, resolve, invoke, builtin, Sem.run_bind, Sem.run_pure, Result.andThen_ok, List.map_toArray, List.map_cons, List.map_nil, hs, hrun]
  exact hK' _ _ hK
set_option maxRecDepth 100000 in
set_option maxHeartbeats 2000000 in
theorem cut_none {w : World} {g b o : Nat} {kd fl : Int} {V : Value} {ss : List ByteArray} {D : DataW Unit} {f : ByteArray → Option (Int × Int)} {C : Array Value} (h : PAt w g b o kd fl V ss D f C) (hl : ss.length ≤ 64) :
    Calls Try.prog 47 #[.pointer (some ⟨g, 0, none⟩), .pointer (some ⟨g, o, none⟩), .int .i64 ss.length] w fun e w' => e = .returned (.tuple #[]) ∧ ∃ D' V', PCut w w' g b o ss.length V V' ss D' f C D := by
  obtain ⟨c0, ck, cm, cf, cn, hfr⟩ := h.cell
  have fin := PCut.same h
  rcases h.names.2 with ⟨rfl, h0⟩ | ⟨x, cap, cur, rfl, _, hx, hle, hm, hs, ht⟩
  · rw [h0]
    rw [h0] at fin
    go_enter Try.func47, Try.ntmps47
    go_wp2
    go_loop [17] (fun i => i = .int .i64 0) (fun _ => 0)
    case atStart => rfl
    case round =>
      subst hrel
      go_wp2_with (first | (refine wpList_clear_zero rfl (.tmp 27) rfl _ _ rfl ?_))
      go_end0
      exact ⟨rfl, D, _, fin⟩
  · by_cases hc : cap = ss.length
    · subst hc
      go_enter Try.func47, Try.ntmps47
      go_wp2
      go_loop [17] (fun i => i = .int .i64 0) (fun _ => 0)
      case atStart => rfl
      case round =>
        subst hrel
        go_wp2_with (first | (refine wpList_clear_zero rfl (.tmp 27) rfl _ _ rfl ?_))
        go_end0
        exact ⟨rfl, D, _, fin⟩
    · have k3 : (ss.length : Int) ≤ cap := by omega
      go_enter Try.func47, Try.ntmps47
      go_wp2
      go_loop [17] (fun i => i = .int .i64 0) (fun _ => 0)
      case atStart => rfl
      case round =>
        subst hrel
        go_wp2_with (first | (refine wpList_clear_zero rfl (.tmp 27) rfl _ _ rfl ?_))
        go_end0
        exact ⟨rfl, D, _, fin⟩
theorem cut_any {w : World} {g b o n : Nat} {kd fl : Int} {V : Value} {ss : List ByteArray} {D : DataW Unit} {f : ByteArray → Option (Int × Int)} {C : Array Value} (h : PAt w g b o kd fl V ss D f C) (hn : n ≤ ss.length) (hl : ss.length ≤ 64) (hsz : ∀ s ∈ ss, s.size ≤ maxLen) (hin : ∀ k, n + k < ss.length → (cutF f ((ss.drop n).take k) (ss.getD (n + k) ByteArray.empty)).isSome = true) :
    Calls Try.prog 47 #[.pointer (some ⟨g, 0, none⟩), .pointer (some ⟨g, o, none⟩), .int .i64 n] w fun e w' => e = .returned (.tuple #[]) ∧ ∃ D' V', PCut w w' g b o n V V' ss D' f C D := by
  by_cases e : n = ss.length
  · subst e; exact cut_none h hl
  · rcases h.names.2 with ⟨rfl, h0⟩ | ⟨x, cap, cur, rfl, _, hx, hle, hm, hs, ht⟩
    · omega
    · exact cut_tail h hx (by omega) hle hm (by omega) hl hsz hin
end Go.Proofs.Ytfckmbdcfeljiaa
