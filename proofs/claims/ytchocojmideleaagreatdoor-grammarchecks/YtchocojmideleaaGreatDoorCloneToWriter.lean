import Derived.Test.YtchocojmideleaaGreatDoorOwnToAppNum
import Derived.Deep.RegionWith
namespace Go.Proofs.YtchocojmideleaaGreatDoor.C
set_option linter.unusedVariables false
open Go.RowKit

set_option maxRecDepth 100000 in
theorem clone_nil (w : World) :
    Calls Tryz.prog 134 #[.slice none 0 0] w fun e w' => e = .returned (.slice none 0 0) ∧ w' = w := by
  have hne := fun wx a n c => Lib.run_eql_slice_nil (P := Tryz.prog) (w := wx) 68 5 a n c 0 0 Tryz.underlying68
  go_enter Tryz.func134, Tryz.ntmps134
  go_wp2
  go_ret
  exact ⟨rfl, rfl⟩

theorem own_made (w : World) : Own (w.alloc (.cells #[] 5)) (.slice (some ⟨w.heap.size, 0, none⟩) 0 0) [] := ⟨isBytes_nil, World.ownsRow_made w #[] 0 (Nat.zero_le _) (Nat.zero_le _) rfl⟩

set_option maxRecDepth 100000 in
set_option maxHeartbeats 400000 in
/-- bytes.Clone of a slice that is not nil: a row of the call's own, not nil, in a new block. -/
theorem clone_some (ad : Addr) (cap : Nat) (xs : List Int) (w : World) (hl : xs.length ≤ 140737488355328) (hr : RowAt w (some ad) xs) :
    Calls Tryz.prog 134 #[.slice (some ad) xs.length cap] w fun e w' => ∃ g c, e = .returned (.slice (some ⟨g, 0, none⟩) xs.length c) ∧ Own w' (.slice (some ⟨g, 0, none⟩) xs.length c) xs ∧ w.heap.size ≤ g ∧ Below w.heap.size w w' := by
  have hne := fun wx a n c => Lib.run_eql_slice_nil (P := Tryz.prog) (w := wx) 68 5 a n c 0 0 Tryz.underlying68
  go_enter Tryz.func134, Tryz.ntmps134
  go_wp2_with (at_builtin; refine wpList_own_append rfl _ _ rfl _ [] rfl (own_made w) (some ad) cap xs rfl (hr.later (below_alloc _ _)) (fun h => by cases h) (by simp; omega) ?_)
  intro v' w1 hown hgrow hnil
  go_wp2
  go_ret
  have hsz : w.heap.size ≤ w1.heap.size := by have := hgrow.grown.size; simp at this; omega
  have hbel : Below w.heap.size w w1 := (below_alloc w _).trans (grew_below hgrow (by simp) (fun k hk => by simp [Value.ownBlock] at hk; omega))
  rcases hown.2.2 with ⟨rfl, _⟩ | ⟨g, cap, cur, rfl, _⟩
  · simp at hnil
  · refine ⟨g, cap, by simp, by simpa using hown, ?_, hbel⟩
    rcases hgrow.moved with e | ⟨k, e, hk⟩
    · simp [Value.ownBlock] at e; omega
    · simp [Value.ownBlock] at e hk; omega
end Go.Proofs.YtchocojmideleaaGreatDoor.C
namespace Go.Proofs.YtchocojmideleaaGreatDoor.C
set_option linter.unusedVariables false
open Go.RowKit

/-- A writer: its block p leads to block q, which holds the bytes (the slice v) and the first error. -/
structure WInv (w : World) (p q : Nat) (v : Value) (xs : List Int) (err : Int) : Prop where
  hp : w.heap[p]? = some (.cells #[.pointer (some ⟨q, 0, none⟩)] 193 (0, 0))
  hq : w.heap[q]? = some (.cells #[v, .int .i64 err] 191 (0, 0))
  own : Own w v xs
/-- What a call on a writer may have turned: block q and the slice's own. -/
structure WGrew (w w' : World) (q : Nat) (v v' : Value) : Prop where
  os : w'.os = w.os
  tape : w'.tape = w.tape
  output : w'.output = w.output
  size : w.heap.size ≤ w'.heap.size
  block : ∀ k, k < w.heap.size → k ≠ q → some k ≠ v.ownBlock → w'.heap[k]? = w.heap[k]?
  moved : v'.ownBlock = v.ownBlock ∨ ∃ k, v'.ownBlock = some k ∧ w.heap.size ≤ k
theorem WGrew.ofDrew {w w' : World} {q : Nat} {v v' : Value} (h : WGrew w.drew w' q v v') : WGrew w w' q v v' := ⟨h.os, h.tape, h.output, h.size, h.block, h.moved⟩
theorem WInv.cellp {w : World} {p q : Nat} {v : Value} {xs : List Int} {err : Int} (h : WInv w p q v xs err) : w.cell? ⟨p, 0, none⟩ = some (.pointer (some ⟨q, 0, none⟩)) := by simp [World.cell?, h.hp]
theorem WInv.cell0 {w : World} {p q : Nat} {v : Value} {xs : List Int} {err : Int} (h : WInv w p q v xs err) : w.cell? ⟨q, 0, none⟩ = some v := by simp [World.cell?, h.hq]
theorem WInv.cell1 {w : World} {p q : Nat} {v : Value} {xs : List Int} {err : Int} (h : WInv w p q v xs err) : w.cell? ⟨q, 1, none⟩ = some (.int .i64 err) := by simp [World.cell?, h.hq]
theorem WInv.free0 {w : World} {p q : Nat} {v : Value} {xs : List Int} {err : Int} (h : WInv w p q v xs err) : w.frozen? ⟨q, 0, none⟩ = false := by simp [World.frozen?, h.hq]
theorem WInv.free1 {w : World} {p q : Nat} {v : Value} {xs : List Int} {err : Int} (h : WInv w p q v xs err) : w.frozen? ⟨q, 1, none⟩ = false := by simp [World.frozen?, h.hq]

theorem heap_set {w : World} {b : Nat} {C : Array Value} {t : TypeId} (h : w.heap[b]? = some (.cells C t (0, 0))) (o : Nat) (u : Value) : (w.setCell ⟨b, o, none⟩ u).heap[b]? = some (.cells (C.setIfInBounds o u) t (0, 0)) := by
  have hlt := lt_of_block h
  have h' : w.heap[b] = .cells C t (0, 0) := by simpa [Array.getElem?_eq_getElem hlt] using h
  show (w.heap.modify b _)[b]? = _
  rw [Array.getElem?_eq_getElem (by simpa using hlt), Array.getElem_modify_self, h']
  rfl
theorem own_ne {w : World} {v : Value} {xs : List Int} (h : Own w v xs) {b : Nat} {C : Array Value} {t : TypeId} (hb : w.heap[b]? = some (.cells C t (0, 0))) (ht : t ≠ 5) : some b ≠ v.ownBlock := by
  intro e
  rcases h.2.2 with ⟨rfl, _⟩ | ⟨g, cap, cur, rfl, _, hg, _⟩
  · simp [Value.ownBlock] at e
  · simp [Value.ownBlock] at e
    subst e
    rw [hb] at hg
    simp at hg
    exact ht hg.2
theorem WInv.nep {w : World} {p q : Nat} {v : Value} {xs : List Int} {err : Int} (h : WInv w p q v xs err) : some p ≠ v.ownBlock := own_ne h.own h.hp (by decide)
theorem WInv.neq {w : World} {p q : Nat} {v : Value} {xs : List Int} {err : Int} (h : WInv w p q v xs err) : some q ≠ v.ownBlock := own_ne h.own h.hq (by decide)
theorem WInv.pq {w : World} {p q : Nat} {v : Value} {xs : List Int} {err : Int} (h : WInv w p q v xs err) : p ≠ q := by
  intro e; have h1 := h.hp; rw [e, h.hq] at h1; simp at h1
theorem WInv.still {w w' : World} {p q : Nat} {v : Value} {xs : List Int} {err : Int} (h : WInv w p q v xs err) (hs : ∀ k : Nat, w'.heap[k]? = w.heap[k]?) : WInv w' p q v xs err :=
  ⟨(hs p).trans h.hp, (hs q).trans h.hq, h.own.kept fun k _ => hs k⟩
/-- The writer behind an append to its bytes, ahead of the store. -/
theorem WInv.grown {w w1 : World} {p q : Nat} {v v1 : Value} {xs : List Int} {err : Int} (h : WInv w p q v xs err) (hg : Grew w w1 v v1) : w1.heap[p]? = some (.cells #[.pointer (some ⟨q, 0, none⟩)] 193 (0, 0)) ∧ w1.heap[q]? = some (.cells #[v, .int .i64 err] 191 (0, 0)) :=
  ⟨(hg.grown.block p (lt_of_block h.hp) h.nep).trans h.hp, (hg.grown.block q (lt_of_block h.hq) h.neq).trans h.hq⟩
/-- .. and behind the store. -/
theorem WInv.stored {w w1 : World} {p q : Nat} {v v1 : Value} {xs ys : List Int} {err : Int} (h : WInv w p q v xs err) (hg : Grew w w1 v v1) (ho : Own w1 v1 ys) : WInv (w1.setCell ⟨q, 0, none⟩ v1) p q v1 ys err ∧ WGrew w (w1.setCell ⟨q, 0, none⟩ v1) q v v1 := by
  obtain ⟨a, b⟩ := h.grown hg
  refine ⟨⟨?_, ?_, ?_⟩, ⟨hg.grown.os, hg.grown.tape, hg.grown.output, by have := hg.grown.size; simpa [World.setCell] using this, fun k hk hq hv => ?_, hg.moved⟩⟩
  · rw [Below.heap_setCell _ _ _ _ h.pq]; exact a
  · rw [heap_set b]; rfl
  · refine ho.kept fun k hk => Below.heap_setCell _ _ _ _ ?_
    intro e
    exact own_ne ho b (by decide) (by rw [hk, e])
  · rw [Below.heap_setCell _ _ _ _ hq]; exact hg.grown.block k hk hv
theorem newwriter_any (w : World) : Calls Tryz.prog 73 #[] w fun e w' => e = .returned (.pointer (some ⟨w.heap.size + 1, 0, none⟩)) ∧ w' = (w.alloc (.cells #[.slice none 0 0, .int .i64 0] 191)).alloc (.cells #[.pointer (some ⟨w.heap.size, 0, none⟩)] 193) := by
  go_enter Tryz.func73, Tryz.ntmps73
  go_wp2
  go_ret
  exact ⟨rfl, rfl⟩

theorem made_any {w : World} {p q : Nat} {v : Value} {xs : List Int} {err : Int} (h : WInv w p q v xs err) : Calls Tryz.prog 133 #[.pointer (some ⟨p, 0, none⟩)] w fun e w' => e = .returned (.bool true) ∧ w = w' := by
  have hp := h.cellp
  go_enter Tryz.func133, Tryz.ntmps133
  go_wp2
  go_ret
  exact ⟨rfl, rfl⟩

theorem ready_any {w : World} {p q : Nat} {v : Value} {xs : List Int} {err : Int} (h : WInv w p q v xs err) : Calls Tryz.prog 125 #[.pointer (some ⟨p, 0, none⟩)] w fun e w' => e = .returned (.bool (err == 0)) ∧ w = w' := by
  have hp := h.cellp
  have h1 := h.cell1
  go_enter Tryz.func125, Tryz.ntmps125
  go_wp2_with (go_at_call 133; refine (made_any h).mono ?_; rintro e w' ⟨rfl, rfl⟩)
  go_ret
  exact ⟨rfl, rfl⟩

set_option maxRecDepth 100000 in
set_option maxHeartbeats 1000000 in
theorem number_any {w : World} {p q : Nat} {v : Value} {xs : List Int} (n : Int) (h : WInv w p q v xs 0) (h0 : 0 ≤ n) (h1 : n ≤ 18446744073709551615) (hl : xs.length ≤ 140737488355300) :
    Calls Tryz.prog 128 #[.pointer (some ⟨p, 0, none⟩), .int .u64 n] w fun e w' => e = .returned (.tuple #[]) ∧ ∃ v', WInv w' p q v' (xs ++ enc 10 n) 0 ∧ WGrew w w' q v v' := by
  have hp := h.cellp
  have hq0 := h.cell0
  have hq1 := h.cell1
  have hf0 := h.free0
  go_enter Tryz.func128, Tryz.ntmps128
  go_wp2_with (go_at_call 125; refine (ready_any h).mono ?_; rintro e w' ⟨rfl, rfl⟩)
  have after : ∀ w1 v1, Grew w.drew w1 v v1 → w1.cell? ⟨p, 0, none⟩ = some (.pointer (some ⟨q, 0, none⟩)) ∧ (w1.cell? ⟨q, 0, none⟩ = some v ∧ w1.frozen? ⟨q, 0, none⟩ = false) := by
    intro w1 v1 hg
    obtain ⟨a, b⟩ := (h.still (w' := w.drew) (fun _ => rfl)).grown hg
    exact ⟨by simp [World.cell?, a], by simp [World.cell?, b], by simp [World.frozen?, b]⟩
  have AF : Hid _ := after
  clear after
  go_region_with (go_at_call 126; refine (appnum_any v xs n _ h0 h1 hl h.own.drew).mono ?_; rintro e w1 ⟨g1, N1, c1, rfl, ho1, hg1⟩; obtain ⟨hp1, hq1, hf1⟩ := AF.out w1 _ hg1)
  all_goals go_end0
  all_goals
    obtain ⟨r1, r2⟩ := (h.still (w' := w.drew) (fun _ => rfl)).stored hg1 ho1
    exact ⟨rfl, _, r1, r2.ofDrew⟩

set_option maxRecDepth 100000 in
set_option maxHeartbeats 1000000 in
/-- Bytes of a writer without an error. -/
theorem wbytes_any {w : World} {p q : Nat} {v : Value} {xs : List Int} (h : WInv w p q v xs 0) (hl : xs.length ≤ 140737488355328) :
    Calls Tryz.prog 81 #[.pointer (some ⟨p, 0, none⟩)] w fun e w' => ∃ ao c, e = .returned (.tuple #[.slice ao xs.length c, .int .i64 0]) ∧ Own w' (.slice ao xs.length c) xs ∧ (∀ k, (Value.slice ao xs.length c).ownBlock = some k → w.heap.size ≤ k) ∧ Below w.heap.size w w' := by
  have hp := h.cellp
  have hq0 := h.cell0
  have hq1 := h.cell1
  obtain ⟨ao, c, rfl, hnil, hr⟩ := h.own.row
  match ao with
  | none =>
    obtain ⟨rfl, rfl⟩ := hnil rfl
    go_enter Tryz.func81, Tryz.ntmps81
    go_wp2_with (first | (go_at_call 133; refine (made_any h).mono ?_; rintro e w' ⟨rfl, rfl⟩) | (go_at_call 134; refine (clone_nil w).mono ?_; rintro e w' ⟨rfl, rfl⟩))
    go_ret2
    exact ⟨none, 0, rfl, Own.nil _, fun k hk => by simp [Value.ownBlock] at hk, Below.refl _ _⟩
  | some ad =>
    go_enter Tryz.func81, Tryz.ntmps81
    go_wp2_with (first | (go_at_call 133; refine (made_any h).mono ?_; rintro e w' ⟨rfl, rfl⟩) | (go_at_call 134; refine (clone_some ad c xs w hl hr).mono ?_; rintro e w1 ⟨g, c1, rfl, ho1, hg1, hb1⟩))
    go_ret2
    exact ⟨_, c1, rfl, ho1, fun k hk => by simp [Value.ownBlock] at hk; omega, hb1⟩
end Go.Proofs.YtchocojmideleaaGreatDoor.C
