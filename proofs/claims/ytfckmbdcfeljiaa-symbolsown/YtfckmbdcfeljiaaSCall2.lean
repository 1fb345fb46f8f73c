import Derived.Test.YtfckmbdcfeljiaaSName
import Derived.Test.YtfckmbdcfeljiaaSWorks
import Derived.Shelf.Slices.Clone
import Derived.Deep.RegionHeld3
namespace Go.Proofs.Ytfckmbdcfeljiaa
set_option linter.unusedVariables false
open Go.RowKit Go.Maps Go.Shelf

def scloneRen : Ren := ⟨fun _ => 23, fun x => if x = 24 then 23 else x, fun x => x⟩
theorem sclone_lays : Lays2.n16 Try.prog scloneRen where
  mixed := by kernel_rfl
  f16 := by kernel_rfl
  t4 := by kernel_rfl
  a4 := fun _ => by kernel_rfl
  z4 := fun _ => by kernel_rfl
  v4 := fun _ => by kernel_rfl
  t9 := by kernel_rfl
  a9 := fun _ => by kernel_rfl
  z9 := fun _ => by kernel_rfl
  v9 := fun _ => by kernel_rfl
  t24 := by kernel_rfl
  a24 := fun _ => by kernel_rfl
  z24 := fun _ => by kernel_rfl
  v24 := fun _ => by kernel_rfl
  i9 := by kernel_rfl
theorem gs_of_owns {w : World} {base : Nat} {v : Value} {ss : List ByteArray} (h : w.ownsRow base 9 1 v ss.length (ss.map Value.string)) : GS w v ss ∧ ∀ k, v.ownBlock = some k → base ≤ k := by
  refine ⟨⟨h.1, ?_⟩, fun k hk => (h.lt k hk).1⟩
  rcases h.2 with q | ⟨g, cap, cur, rfl, _, h2⟩
  · exact .inl q
  · exact .inr ⟨g, cap, cur, rfl, Nat.zero_le _, h2⟩
theorem sclone_any {w : World} {v : Value} {ss : List ByteArray} (h : GS w v ss) (hl : ss.length ≤ 1000000) :
    Calls Try.prog 23 #[v] w fun e w' => ∃ a n c, e = .returned (.slice a n c) ∧ GS w' (.slice a n c) ss ∧ (∀ k, (Value.slice a n c).ownBlock = some k → w.heap.size ≤ k) ∧ Below w.heap.size w w' := by
  rcases h.2 with ⟨rfl, h0⟩ | ⟨g, cap, cur, rfl, hb, hg, hle, hm, hs, ht⟩
  · have : ss = [] := List.eq_nil_of_length_eq_zero h0
    subst this
    exact (Any.slices_Clone_string_nil sclone_lays 0 0 w).mono fun e w' ⟨he, hw⟩ => by subst hw; exact ⟨none, 0, 0, he, GS.nil _, (fun k hk => by simp [Value.ownBlock] at hk), Below.refl _ _⟩
  · have hc : ∀ j, j < ss.length → w.cell? ⟨g, 0 + j, none⟩ = some (.string (ss.getD j ByteArray.empty)) := fun j hj => by
      have := World.ownsRow.cells h (g := g) rfl j (.string (ss.getD j ByteArray.empty)) (by simp [List.getD, hj])
      rwa [add_none] at this
    refine (Any.slices_Clone_string sclone_lays g 0 ss.length cap ss w (Nat.le_refl _) (by omega) hc).mono fun e w' ⟨v', he, ho, _, hB⟩ => ?_
    rw [List.take_length] at ho
    obtain ⟨h1, h2⟩ := gs_of_owns ho
    obtain ⟨a, c, rfl⟩ := gs_len h1
    exact ⟨a, _, c, he, h1, h2, hB⟩
theorem BInv.cells {w : World} {p g b : Nat} {T N : Value} {D : DataW Unit} {ts ns : List ByteArray} (h : BInv w p g b T N D ts ns) : w.cell? ⟨p, 0, none⟩ = some (.pointer (some ⟨g, 0, none⟩)) ∧ w.cell? ⟨g, 0, none⟩ = some (.map (some b)) ∧ w.cell? ⟨g, 4, none⟩ = some T ∧ w.cell? ⟨g, 8, none⟩ = some N ∧ p < w.heap.size ∧ g < w.heap.size :=
  ⟨by rw [cellq_any h.hp]; rfl, by rw [cellq_any h.hg]; rfl, by rw [cellq_any h.hg]; rfl, by rw [cellq_any h.hg]; rfl, lt_of_block h.hp, lt_of_block h.hg⟩
set_option maxHeartbeats 1000000 in
theorem terms_any {w : World} {p g b : Nat} {T N : Value} {D : DataW Unit} {ts ns : List ByteArray} (h : BInv w p g b T N D ts ns) :
    Calls Try.prog 10 #[.pointer (some ⟨p, 0, none⟩)] w fun e w' => ∃ a n c, e = .returned (.slice a n c) ∧ GS w' (.slice a n c) ts ∧ (∀ k, (Value.slice a n c).ownBlock = some k → w.heap.size ≤ k) ∧ Below w.heap.size w w' := by
  obtain ⟨c0, c1, c2, c3, hp, hg⟩ := h.cells
  have hl : ts.length ≤ 1000000 := by have := h.tl; omega
  go_enter Try.func10, Try.ntmps10
  go_wp2_with (first
    | (go_at_call 22; refine (made_any h).mono ?_; rintro e w' ⟨rfl, rfl⟩)
    | (go_at_call 23; refine (sclone_any h.tn hl).mono ?_; rintro e w' ⟨a, n, c, rfl, H⟩))
  go_ret
  exact ⟨a, n, c, rfl, H⟩
set_option maxHeartbeats 1000000 in
theorem nons_any {w : World} {p g b : Nat} {T N : Value} {D : DataW Unit} {ts ns : List ByteArray} (h : BInv w p g b T N D ts ns) :
    Calls Try.prog 11 #[.pointer (some ⟨p, 0, none⟩)] w fun e w' => ∃ a n c, e = .returned (.slice a n c) ∧ GS w' (.slice a n c) ns ∧ (∀ k, (Value.slice a n c).ownBlock = some k → w.heap.size ≤ k) ∧ Below w.heap.size w w' := by
  obtain ⟨c0, c1, c2, c3, hp, hg⟩ := h.cells
  have hl : ns.length ≤ 1000000 := by have := h.nl; omega
  go_enter Try.func11, Try.ntmps11
  go_wp2_with (first
    | (go_at_call 22; refine (made_any h).mono ?_; rintro e w' ⟨rfl, rfl⟩)
    | (go_at_call 23; refine (sclone_any h.nn hl).mono ?_; rintro e w' ⟨a, n, c, rfl, H⟩))
  go_ret
  exact ⟨a, n, c, rfl, H⟩
set_option maxRecDepth 100000 in
set_option maxHeartbeats 2000000 in
theorem mark_any {w : World} {p g b : Nat} {T N : Value} {D : DataW Unit} {ts ns : List ByteArray} (h : BInv w p g b T N D ts ns) :
    Calls Try.prog 42 #[.pointer (some ⟨p, 0, none⟩)] w fun e w' => e = .returned (.agg #[.int .i64 ts.length, .int .i64 ns.length]) ∧ Below w.heap.size w w' := by
  obtain ⟨c0, c1, c2, c3, hp, hg⟩ := h.cells
  obtain ⟨ta, tc, rfl⟩ := gs_len h.tn
  obtain ⟨na, nc, rfl⟩ := gs_len h.nn
  have hA := h.later (below_alloc w (.cells #[.int .i64 0, .int .i64 0] 72))
  obtain ⟨d0, d1, d2, d3, _, _⟩ := hA.cells
  go_enter Try.func42, Try.ntmps42
  go_wp2_with (first
    | (go_at_call 22; refine (made_any hA).mono ?_; rintro e w' ⟨rfl, rfl⟩))
  go_region_held3 (fun w' => w'.cell? ⟨p, 0, none⟩ = some (.pointer (some ⟨g, 0, none⟩)) ∧ w'.cell? ⟨g, 4, none⟩ = some (.slice ta ts.length tc) ∧ w'.cell? ⟨g, 8, none⟩ = some (.slice na ns.length nc)) (first | assumption | go_keep) (fail)
  all_goals go_wp2
  all_goals go_returns
  all_goals exact ⟨rfl, by go_grown⟩
set_option maxHeartbeats 1000000 in
theorem find_any {w : World} {p g b : Nat} {T N : Value} {D : DataW Unit} {ts ns : List ByteArray} (h : BInv w p g b T N D ts ns) (s : ByteArray) (hs : s.size ≤ maxLen) (k i : Int) (ok : Bool) (hF : Hid ((∃ q, findS ts ns s = some q ∧ q = (k, i) ∧ ok = true) ∨ findS ts ns s = none ∧ k = 0 ∧ i = 0 ∧ ok = false)) :
    Calls Try.prog 40 #[.pointer (some ⟨p, 0, none⟩), .string s] w fun e w' => e = .returned (.tuple #[.agg #[.int .i64 k, .int .i64 i], .bool ok]) ∧ Below w.heap.size w w' := by
  have hA := h.later (below_alloc w (.cells #[.int .i64 0, .int .i64 0] 70))
  obtain ⟨d0, d1, d2, d3, _, _⟩ := hA.cells
  rcases hF.out with ⟨_, hf, rfl, rfl⟩ | ⟨hf, rfl, rfl, rfl⟩ <;> clear hF
  · go_enter Try.func40, Try.ntmps40
    go_wp2_with (first
      | (go_at_call 22; refine (made_any hA).mono ?_; rintro e w' ⟨rfl, rfl⟩)
      | (at_lookup; refine wpList_look_some _ rfl _ _ rfl b _ D (findS ts ns) rfl hA.own h.look s rfl hs k i hf ?_))
    go_returns
    exact ⟨rfl, by go_grown⟩
  · go_enter Try.func40, Try.ntmps40
    go_wp2_with (first
      | (go_at_call 22; refine (made_any hA).mono ?_; rintro e w' ⟨rfl, rfl⟩)
      | (at_lookup; refine wpList_look_none _ rfl _ _ rfl b _ D (findS ts ns) rfl hA.own h.look s rfl hs hf ?_))
    go_returns
    exact ⟨rfl, by go_grown⟩
end Go.Proofs.Ytfckmbdcfeljiaa
