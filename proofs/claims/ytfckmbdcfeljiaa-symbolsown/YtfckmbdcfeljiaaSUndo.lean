import Derived.Test.YtfckmbdcfeljiaaSCut
namespace Go.Proofs.Ytfckmbdcfeljiaa
set_option linter.unusedVariables false
open Go.RowKit Go.Maps

theorem placeS_spec {l : List ByteArray} {s : ByteArray} {i : Nat} (h : placeS l s = some i) : i < l.length ∧ l.getD i ByteArray.empty = s := by
  unfold placeS at h
  rw [List.findIdx?_eq_some_iff_getElem] at h
  obtain ⟨hi, h1, _⟩ := h
  exact ⟨hi, by simp [List.getD, hi]; simpa using h1⟩
theorem placeS_notMem {l : List ByteArray} {s : ByteArray} : placeS l s = none ↔ s ∉ l := by
  unfold placeS
  rw [List.findIdx?_eq_none_iff]
  constructor
  · intro h hm
    have := h s hm
    simp at this
  · intro h x hx
    simp
    exact fun e => h (e ▸ hx)
theorem placeS_self {l : List ByteArray} (hn : l.Nodup) {i : Nat} (hi : i < l.length) : placeS l (l.getD i ByteArray.empty) = some i := by
  refine placeS_at hi (fun j hj e => ?_) rfl
  simp [List.getD, hi, show j < l.length by omega] at e
  have := (List.getElem_inj hn).1 e
  omega
theorem any_mem {l : List ByteArray} {s : ByteArray} : ((l.any fun t => decide (t = s)) = true) ↔ s ∈ l := by
  simp
theorem mem_drop {l : List ByteArray} (hn : l.Nodup) {n i : Nat} (hi : i < l.length) : l.getD i ByteArray.empty ∈ l.drop n ↔ n ≤ i := by
  constructor
  · intro h
    obtain ⟨j, hj, e⟩ := List.getElem_of_mem h
    simp at hj e
    simp [hi] at e
    have := (List.getElem_inj hn).1 e
    omega
  · intro h
    have : l.getD i ByteArray.empty = (l.drop n)[i - n]'(by simp; omega) := by
      simp [List.getD, hi, show n + (i - n) = i by omega]
    rw [this]
    exact List.getElem_mem _
theorem placeS_take {l : List ByteArray} (hn : l.Nodup) {n i : Nat} {s : ByteArray} (h : placeS l s = some i) : placeS (l.take n) s = if i < n then some i else none := by
  obtain ⟨hi, e⟩ := placeS_spec h
  by_cases hin : i < n
  · rw [if_pos hin]
    have hlt : i < (l.take n).length := by simp; omega
    have e2 : (l.take n).getD i ByteArray.empty = s := by rw [← e]; simp [List.getD, hin]
    have := placeS_self (hn.sublist (List.take_sublist n l)) hlt
    rwa [e2] at this
  · rw [if_neg hin, placeS_notMem, ← e]
    intro hm
    obtain ⟨j, hj, e3⟩ := List.getElem_of_mem hm
    simp at hj e3
    simp [hi] at e3
    have := (List.getElem_inj hn).1 e3
    omega
theorem placeS_takeNone {l : List ByteArray} {n : Nat} {s : ByteArray} (h : placeS l s = none) : placeS (l.take n) s = none := by
  rw [placeS_notMem] at *
  exact fun hm => h (List.mem_of_mem_take hm)
theorem cut_terms {ts ns : List ByteArray} (hn : (ts ++ ns).Nodup) (n : Nat) : cutF (findS ts ns) (ts.drop n) = findS (ts.take n) ns := by
  have hts := (List.nodup_append.1 hn).1
  have hdis := (List.nodup_append.1 hn).2.2
  funext s
  unfold cutF
  cases h : placeS ts s with
  | some i =>
    obtain ⟨hi, e⟩ := placeS_spec h
    have hm := mem_drop hts (n := n) hi
    rw [e] at hm
    have hns : placeS ns s = none := placeS_notMem.2 fun q => hdis s (by rw [← e]; simp [List.getD, hi]) s q rfl
    have ht := placeS_take hts (n := n) h
    by_cases hin : i < n
    · rw [if_neg (fun q => by have := hm.1 (any_mem.1 q); omega)]
      unfold findS
      rw [h, ht, if_pos hin]
    · rw [if_pos (any_mem.2 (hm.2 (by omega)))]
      unfold findS
      rw [ht, if_neg hin, hns]
  | none =>
    have h2 := placeS_takeNone (n := n) h
    rw [if_neg (fun q => (placeS_notMem.1 h) (List.mem_of_mem_drop (any_mem.1 q)))]
    unfold findS
    rw [h, h2]
theorem cut_nons {ts ns : List ByteArray} (hn : (ts ++ ns).Nodup) (n : Nat) : cutF (findS ts ns) (ns.drop n) = findS ts (ns.take n) := by
  have hns := (List.nodup_append.1 hn).2.1
  have hdis := (List.nodup_append.1 hn).2.2
  funext s
  unfold cutF
  cases h : placeS ts s with
  | some i =>
    obtain ⟨hi, e⟩ := placeS_spec h
    have : s ∉ ns := fun q => hdis s (by rw [← e]; simp [List.getD, hi]) s q rfl
    rw [if_neg (fun q => this (List.mem_of_mem_drop (any_mem.1 q)))]
    unfold findS
    rw [h]
  | none =>
    cases h3 : placeS ns s with
    | some j =>
      obtain ⟨hj, e⟩ := placeS_spec h3
      have hm := mem_drop hns (n := n) hj
      rw [e] at hm
      have ht := placeS_take hns (n := n) h3
      by_cases hin : j < n
      · rw [if_neg (fun q => by have := hm.1 (any_mem.1 q); omega)]
        unfold findS
        rw [h, h3, ht, if_pos hin]
      · rw [if_pos (any_mem.2 (hm.2 (by omega)))]
        unfold findS
        rw [h, ht, if_neg hin]
    | none =>
      rw [if_neg (fun q => (placeS_notMem.1 h3) (List.mem_of_mem_drop (any_mem.1 q)))]
      unfold findS
      rw [h, h3, placeS_takeNone h3]
theorem notin_before {l : List ByteArray} (hn : l.Nodup) {n k : Nat} (h : n + k < l.length) : (((l.drop n).take k).any fun t => decide (t = l.getD (n + k) ByteArray.empty)) = false := by
  cases hq : ((l.drop n).take k).any fun t => decide (t = l.getD (n + k) ByteArray.empty) with
  | false => rfl
  | true =>
    exfalso
    obtain ⟨j, hj, e⟩ := List.getElem_of_mem (any_mem.1 hq)
    simp at hj e
    simp [h] at e
    have := (List.getElem_inj hn).1 e
    omega
theorem in_terms {ts ns : List ByteArray} (hn : (ts ++ ns).Nodup) {n : Nat} : ∀ k, n + k < ts.length → (cutF (findS ts ns) ((ts.drop n).take k) (ts.getD (n + k) ByteArray.empty)).isSome = true := fun k hk => by
  have hts := (List.nodup_append.1 hn).1
  unfold cutF
  rw [notin_before hts hk]
  simp only [Bool.false_eq_true, if_false]
  unfold findS
  rw [placeS_self hts hk]
  rfl
theorem in_nons {ts ns : List ByteArray} (hn : (ts ++ ns).Nodup) {n : Nat} : ∀ k, n + k < ns.length → (cutF (findS ts ns) ((ns.drop n).take k) (ns.getD (n + k) ByteArray.empty)).isSome = true := fun k hk => by
  have hns := (List.nodup_append.1 hn).2.1
  unfold cutF
  rw [notin_before hns hk]
  simp only [Bool.false_eq_true, if_false]
  unfold findS
  rw [placeS_self hns hk]
  cases placeS ts (ns.getD (n + k) ByteArray.empty) <;> rfl
/-- The names of a book: each may be one, none stands twice. -/
structure Fine (ts ns : List ByteArray) : Prop where
  nd : (ts ++ ns).Nodup
  ts : ∀ s ∈ ts, termS s = true
  ns : ∀ s ∈ ns, wordS s = true
theorem Fine.nil : Fine [] [] := ⟨by simp, fun s h => by simp at h, fun s h => by simp at h⟩
theorem Fine.term {ts ns : List ByteArray} (h : Fine ts ns) {s : ByteArray} (hf : findS ts ns s = none) (ht : termS s = true) : Fine (ts ++ [s]) ns := by
  obtain ⟨h1, h2⟩ := findS_none.1 hf
  rw [placeS_notMem] at h1 h2
  obtain ⟨a, b, c⟩ := List.nodup_append.1 h.nd
  refine ⟨?_, fun x hx => ?_, h.ns⟩
  · rw [List.nodup_append]
    refine ⟨?_, b, fun x hx y hy => ?_⟩
    · rw [List.nodup_append]
      refine ⟨a, by simp, fun x hx y hy => ?_⟩
      simp at hy; subst hy
      exact fun e => h1 (e ▸ hx)
    · rcases List.mem_append.1 hx with q | q
      · exact c x q y hy
      · simp at q; subst q
        exact fun e => h2 (e ▸ hy)
  · rcases List.mem_append.1 hx with q | q
    · exact h.ts x q
    · simp at q; subst q; exact ht
theorem Fine.non {ts ns : List ByteArray} (h : Fine ts ns) {s : ByteArray} (hf : findS ts ns s = none) (ht : wordS s = true) : Fine ts (ns ++ [s]) := by
  obtain ⟨h1, h2⟩ := findS_none.1 hf
  rw [placeS_notMem] at h1 h2
  obtain ⟨a, b, c⟩ := List.nodup_append.1 h.nd
  refine ⟨?_, h.ts, fun x hx => ?_⟩
  · rw [List.nodup_append]
    refine ⟨a, ?_, fun x hx y hy => ?_⟩
    · rw [List.nodup_append]
      refine ⟨b, by simp, fun x hx y hy => ?_⟩
      simp at hy; subst hy
      exact fun e => h2 (e ▸ hx)
    · rcases List.mem_append.1 hy with q | q
      · exact c x hx y q
      · simp at q; subst q
        exact fun e => h1 (e ▸ hx)
  · rcases List.mem_append.1 hx with q | q
    · exact h.ns x q
    · simp at q; subst q; exact ht
theorem Fine.take {ts ns : List ByteArray} (h : Fine ts ns) (a b : Nat) : Fine (ts.take a) (ns.take b) :=
  ⟨h.nd.sublist (List.Sublist.append (List.take_sublist _ _) (List.take_sublist _ _)), fun s hs => h.ts s (List.mem_of_mem_take hs), fun s hs => h.ns s (List.mem_of_mem_take hs)⟩
end Go.Proofs.Ytfckmbdcfeljiaa
