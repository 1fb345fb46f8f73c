import Derived.Test.YtndbdliaidbocaaPBBaseToGArg2
namespace Go.Proofs.Ytndbdliaidbocaa
set_option linter.unusedVariables false
open Go.ChangeShapes Go.WideShapes Go.ChangeAt Go.RowKit
theorem gbulk_pos {H : Type} (d : DataW H) : 1 <= Rows.uptoBulk d := by
 cases d with
 | lit x => cases x <;> simp [Rows.uptoBulk]
 | nil => simp [Rows.uptoBulk]
 | ptr d => simp [Rows.uptoBulk]
 | slice a b => simp [Rows.uptoBulk]
 | agg a => simp [Rows.uptoBulk]
 | iface a d => simp [Rows.uptoBulk]
 | map a => simp [Rows.uptoBulk]
 | held a => simp [Rows.uptoBulk]
theorem gbulk_len {H : Type} : ∀ ds : List (DataW H), ds.length <= Rows.uptoBulkAll ds
 | [] => by simp
 | d :: r => by
  have := gbulk_len r
  have := gbulk_pos d
  simp only [Rows.uptoBulkAll, List.length_cons]
  omega
theorem gbulk_mem {H : Type} : ∀ {ds : List (DataW H)} {d : DataW H}, d ∈ ds -> Rows.uptoBulk d <= Rows.uptoBulkAll ds
 | [], _, h => by cases h
 | a :: r, d, h => by
  simp only [Rows.uptoBulkAll]
  rcases List.mem_cons.1 h with rfl | h
  ·omega
  ·have := gbulk_mem h
   omega
theorem gbulk_el {H : Type} {el sp : List (DataW H)} {N : Nat} (h : Rows.uptoBulk (.slice el sp) <= N) : el.length <= N /\ ∀ d ∈ el, Rows.uptoBulk d <= N := by
 simp only [Rows.uptoBulk] at h
 have h1 := gbulk_len el
 exact ⟨by omega, fun d hd => by have := gbulk_mem hd; omega⟩
theorem ld_bulk {H : Type} {n N : Nat} {d : DataW H} (h : LD n d) (hb : Rows.uptoBulk d <= N) : n <= N := by
 rcases h with ⟨_, rfl⟩ | ⟨el, sp, rfl, rfl⟩
 ·exact Nat.zero_le _
 ·exact (gbulk_el hb).1
theorem agg_bulk {H : Type} {l : List (DataW H)} {d : DataW H} {N : Nat} (h : Rows.uptoBulk (.agg l) <= N) (hd : d ∈ l) : Rows.uptoBulk d <= N := by
 simp only [Rows.uptoBulk] at h
 have := gbulk_mem hd
 omega
theorem gram_bulk {H : Type} {W : World} {N : Nat} {d : DataW H} {g : GV} (hb : Rows.uptoBulk d <= N) (h : GD g d)
  (hr : StrRow W g.ta g.ts /\ StrRow W g.na g.ns /\ PrRow W g.pa g.ps /\ LvRow W g.la g.ls /\ (∀ s ∈ g.ts, s.size <= maxLen) /\ (∀ s ∈ g.ns, s.size <= maxLen) /\ g.ps.length <= g.pc) : GAt N W g := by
 obtain ⟨dt, dn, dp, dl, rfl, a1, a2, a3, a4⟩ := h.all
 have w0 : Rows.uptoBulk dt <= N := agg_bulk hb (by simp)
 have w1 : Rows.uptoBulk dn <= N := agg_bulk hb (by simp)
 have w3 : Rows.uptoBulk dp <= N := agg_bulk hb (by simp)
 have w4 : Rows.uptoBulk dl <= N := agg_bulk hb (by simp)
 obtain ⟨r1, r2, r3, r4, r5, r6, _⟩ := hr
 refine ⟨r1, r2, r3, r4, r5, r6, ?_, ?_, ?_, ?_, ?_, ?_⟩
 ·rcases a1 with ⟨_, e⟩ | ⟨sp, rfl⟩
  ·rw [e]; simp
  ·simpa using (gbulk_el w0).1
 ·rcases a2 with ⟨_, e⟩ | ⟨sp, rfl⟩
  ·rw [e]; simp
  ·simpa using (gbulk_el w1).1
 ·rcases a3 with ⟨_, e⟩ | ⟨el, sp, rfl, e, _⟩
  ·rw [e]; simp
  ·rw [<- e]; exact (gbulk_el w3).1
 ·rcases a4 with ⟨_, e⟩ | ⟨el, sp, rfl, e, _⟩
  ·rw [e]; simp
  ·rw [<- e]; exact (gbulk_el w4).1
 ·intro p hp
  rcases a3 with ⟨_, e⟩ | ⟨el, sp, rfl, e, hE⟩
  ·rw [e] at hp; cases hp
  ·obtain ⟨i, hi, rfl⟩ := in_getD (d := PV.none) hp
   obtain ⟨r, hr, hl, _⟩ := hE i hi
   have hm : el.getD i .nil ∈ el := getD_in (by omega)
   have hx := (gbulk_el w3).2 _ hm
   rw [hr] at hx
   exact ld_bulk hl (agg_bulk hx (by simp))
 ·intro p hp
  rcases a4 with ⟨_, e⟩ | ⟨el, sp, rfl, e, hE⟩
  ·rw [e] at hp; cases hp
  ·obtain ⟨i, hi, rfl⟩ := in_getD (d := LV.none) hp
   obtain ⟨r, hr, hl⟩ := hE i hi
   have hm : el.getD i .nil ∈ el := getD_in (by omega)
   have hx := (gbulk_el w4).2 _ hm
   rw [hr] at hx
   exact ld_bulk hl (agg_bulk hx (by simp))
end Go.Proofs.Ytndbdliaidbocaa
