import Derived.Test.YtfckmbdcfeljiaaDoorBBase
namespace Go.Proofs.YtfckmbdcfeljiaaDoor.K
set_option linter.unusedVariables false
open Go.RowKit

/-- A list of slices that is one's own; t: the type of its elements. -/
def HL (t : TypeId) (w : World) (v : Value) (ss : List Value) : Prop := w.ownsRow 0 t 1 v ss.length ss
def SliceInfo (t : TypeId) : Prop := ∃ i, Tryd.prog.info? t = some i ∧ i.zero = some (.slice none 0 0) ∧ i.size = 1 ∧ i.bytes = 24
theorem sliceInfo_of {t : TypeId} (h : (Tryd.prog.info? t).map (fun i => (i.zero, i.size, i.bytes)) = some (some (.slice none 0 0), 1, 24)) : SliceInfo t := by
  unfold SliceInfo
  cases e : Tryd.prog.info? t with
  | none => rw [e] at h; cases h
  | some i => rw [e] at h; simp at h; exact ⟨i, rfl, h⟩
section
variable {t : TypeId} {w w' : World} {v : Value} {ss : List Value}
theorem HL.kept (h : HL t w v ss) (hb : ∀ k, v.ownBlock = some k → w'.heap[k]? = w.heap[k]?) : HL t w' v ss := by
  refine ⟨h.1, ?_⟩
  rcases h.2 with q | ⟨g, cap, cur, rfl, h1, h2, h3⟩
  · exact .inl q
  · exact .inr ⟨g, cap, cur, rfl, h1, (hb g rfl).trans h2, h3⟩
theorem HL.lt (h : HL t w v ss) : ∀ k, v.ownBlock = some k → k < w.heap.size := fun k hk => (World.ownsRow.lt h k hk).2
theorem HL.later (h : HL t w v ss) (hb : Below w.heap.size w w') : HL t w' v ss := h.kept fun k hk => hb.block k (h.lt k hk)
theorem HL.ne (h : HL t w v ss) {b : Nat} {C : Array Value} {t' : TypeId} (hb : w.heap[b]? = some (.cells C t' (0, 0))) (ht : t' ≠ t) : some b ≠ v.ownBlock := by
  intro e
  rcases h.2 with ⟨rfl, _⟩ | ⟨g, cap, cur, rfl, _, hg, _⟩
  · simp [Value.ownBlock] at e
  · simp [Value.ownBlock] at e
    subst e
    rw [hb] at hg; simp at hg; exact ht hg.2
theorem HL.nil (t : TypeId) (w : World) : HL t w (.slice none 0 0) [] := World.ownsRow_nil w 0 t 1
theorem HL.slice (h : HL t w v ss) : ∃ a c, v = .slice a ss.length c := by
  rcases h.2 with ⟨rfl, h0⟩ | ⟨g, cap, cur, rfl, _⟩
  · exact ⟨none, 0, by rw [h0]⟩
  · exact ⟨_, _, rfl⟩
theorem HL.slice3 (h : HL t w v ss) : ∃ a N c, v = .slice a N c := by
  obtain ⟨a, c, e⟩ := h.slice
  exact ⟨a, _, c, e⟩
theorem HL.at (h : HL t w v ss) (i : Nat) (x : Value) (hx : ss[i]? = some x) : ∃ g c, v = .slice (some ⟨g, 0, none⟩) ss.length c ∧ w.cell? ⟨g, i, none⟩ = some x := by
  have hi : i < ss.length := (List.getElem?_eq_some_iff.1 hx).1
  rcases h.2 with ⟨rfl, h0⟩ | ⟨g, cap, cur, rfl, hb, hg, hle, hm, hs, ht⟩
  · omega
  · refine ⟨g, cap, rfl, ?_⟩
    have := World.ownsRow.cells h (g := g) rfl i x hx
    rwa [add_none, Nat.zero_add] at this
end
/-- One more slice behind it. -/
theorem run_hl_append {tt tl : TypeId} (hu : Tryd.prog.underlying tt = some (.slice tl)) (hI : SliceInfo tl) (w : World) (ty : TypeId) (v : Value) (ss : List Value) (h : HL tl w v ss) (b c : Nat) (x : Value) (hx : w.cell? ⟨b, 0, none⟩ = some x) (h1 : x.oneCell' = true) (hlen : ss.length ≤ 2000000) :
    ∃ v' w', (Builtin.append_ #[tt, tt] ty #[v, .slice (some ⟨b, 0, none⟩) 1 c]).run Tryd.prog w = .ok v' w' ∧ HL tl w' v' (ss ++ [x]) ∧ Grew w w' v v' := by
  obtain ⟨i0, hi, hz0, hz1, hz2⟩ := hI
  have hnews : ∀ j u, [x][j]? = some u → w.cell? ((⟨b, 0, none⟩ : Addr).add j) = some u := by
    intro j u hu
    match j with
    | 0 => simp at hu; subst hu; rw [add_none]; exact hx
    | j + 1 => simp at hu
  have h1' : ∀ u ∈ [x], u.oneCell' = true := by intro u hu; simp at hu; subst hu; exact h1
  obtain ⟨v', w', hrun, hown, hgrow, hnil⟩ := run_append_own (P := Tryd.prog) w 0 tt ty tl i0 (.slice none 0 0) 1 24 hu hi hz0 hz1 hz2 rfl (by decide) v ss.length ss h ⟨b, 0, none⟩ 1 c [x] (by simp) hnews h1' (by unfold maxLen; omega) (by omega) (Nat.zero_le _)
  refine ⟨v', w', hrun, by unfold HL; simpa using hown, ⟨hgrow, ?_⟩⟩
  rcases h.2 with ⟨rfl, hn0⟩ | ⟨g, cap, cur, rfl, hbg, hg, hnc, hcm, hcs, htake⟩
  · obtain rfl : ss = [] := List.eq_nil_of_length_eq_zero hn0
    have hr2 := run_append_nil (P := Tryd.prog) w tt ty tl i0 (.slice none 0 0) hu hi hz0 ⟨b, 0, none⟩ 1 c [x] (by rw [hz1]; simp) hnews (by omega) (by omega) (by rw [hz2]; omega)
    have e := hrun.symm.trans hr2
    right
    simp only [Result.ok.injEq] at e
    rw [e.1]
    exact ⟨w.heap.size, rfl, Nat.le_refl _⟩
  · by_cases hroom : ss.length + 1 ≤ cap
    · have hr2 := run_append_room (P := Tryd.prog) w tt ty tl i0 hu hi g ss.length cap cur hg ⟨b, 0, none⟩ 1 c [x] (by rw [hz1]; simp) hnews h1' hroom (by rw [hz1]; simp; omega)
      have e := hrun.symm.trans hr2
      simp only [Result.ok.injEq] at e
      left
      rw [e.1]; rfl
    · have hr2 := run_append_grow (P := Tryd.prog) w tt ty tl i0 (.slice none 0 0) hu hi hz0 ⟨g, 0, none⟩ ss.length cap ss (by rw [hz1]; simp) (World.ownsRow.cells h (g := g) rfl) ⟨b, 0, none⟩ 1 c [x] (by rw [hz1]; simp) hnews (by omega) (by omega) (growslice_fits (by omega) (by rw [hz2]; omega))
      have e := hrun.symm.trans hr2
      simp only [Result.ok.injEq] at e
      right
      rw [e.1]
      exact ⟨w.heap.size, rfl, Nat.le_refl _⟩
theorem wpList_hl_append {tt tl : TypeId} (hu : Tryd.prog.underlying tt = some (.slice tl)) (hI : SliceInfo tl) {ops : Array Oper} {rest : List Oper} {o : Oper} {a : Act} {Q : Exit → Act → World → Prop} {w : World} (hgd : o.guard = none) (s x : Operand)
    (ho : o.op = .call { callee := .builtin .append, args := #[s, x], argTypes := #[tt, tt] })
    (v : Value) (ss : List Value) (hs : a.eval s = v) (h : HL tl w v ss) (b c : Nat) (y : Value) (hx : a.eval x = .slice (some ⟨b, 0, none⟩) 1 c) (hy : w.cell? ⟨b, 0, none⟩ = some y) (h1 : y.oneCell' = true) (hlen : ss.length ≤ 2000000)
    (hK : ∀ v' w', HL tl w' v' (ss ++ [y]) → Grew w w' v v' → wpList Tryd.prog ops Q rest (a.put o.dst v') w') : wpList Tryd.prog ops Q (o :: rest) a w := by
  refine wpList_plain hgd fun K hK' => ?_
  obtain ⟨v', w', hrun, h2, h3⟩ := run_hl_append hu hI w o.type v ss h b c y hy h1 hlen
  unfold Oper.wp execOp
  simp only [ho, resolve, invoke, builtin, Sem.run_bind, Sem.run_pure, Result.andThen_ok, List.map_toArray, List.map_cons, List.map_nil, hs, hx, hrun]
  exact hK' _ _ (hK v' w' h2 h3)
theorem step_hl_append {tt tl : TypeId} (hu : Tryd.prog.underlying tt = some (.slice tl)) (hI : SliceInfo tl) {ops : Array Oper} {o : Oper} {a : Act} {w : World} {K : Act → World → Prop} {Q : Exit → Act → World → Prop} {E : Prop}
    (hg : o.guard = none) (s x : Operand) (hop : o.op = Op.call { callee := Callee.builtin Builtin.append, args := #[s, x], argTypes := #[tt, tt] })
    (v : Value) (ss : List Value) (hs : a.eval s = v) (h : HL tl w v ss) (b c : Nat) (y : Value) (hx : a.eval x = .slice (some ⟨b, 0, none⟩) 1 c) (hy : w.cell? ⟨b, 0, none⟩ = some y) (h1 : y.oneCell' = true) (hlen : ss.length ≤ 2000000)
    (hK : ∀ v' w', HL tl w' v' (ss ++ [y]) → Grew w w' v v' → K (a.put o.dst v') w') :
    if Region.wanted o (yielded ops a.tmps) = true then Oper.wp Tryd.prog o a w K Q else E := by
  have hw : Region.wanted o (yielded ops a.tmps) = true := by simp [Region.wanted, hg]
  rw [if_pos hw]
  obtain ⟨v', w', hrun, r1, r2⟩ := run_hl_append hu hI w o.type v ss h b c y hy h1 hlen
  unfold Oper.wp
  simp [execOp, hop, resolve, invoke, builtin, hs, hx, hrun, Result.andThen]
  exact hK v' w' r1 r2
end Go.Proofs.YtfckmbdcfeljiaaDoor.K
