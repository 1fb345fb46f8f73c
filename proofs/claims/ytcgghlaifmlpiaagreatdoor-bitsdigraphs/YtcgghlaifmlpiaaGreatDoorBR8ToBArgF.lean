import Derived.Test.YtcgghlaifmlpiaaGreatDoorGSame2ToBR7
import Derived.Test.YtcgghlaifmlpiaaGreatDoorBD1ToBD3
namespace Go.Proofs.YtcgghlaifmlpiaaGreatDoor
set_option linter.unusedVariables false
open Go.RowKit Go.Shelf

/-- A list of lists and an error. -/
def DgB (w : World) (c : Int) (L : List (List Int)) (e : Ending) (w' : World) : Prop := Below w.heap.size w w' ∧ ∃ a n cp, e = .returned (.tuple #[.slice a n cp, .int .i64 c]) ∧ n = L.length ∧ LrwB w' a L
theorem dg_both {w w' : World} {n most : Int} {F : List (List Int)} {E : List (Int × Int)} {e : Ending} (h : DgA w n most F E e w') : ∃ L, L.length ≤ 4096 ∧ (∀ l ∈ L, l.length ≤ 4096) ∧ DgB w (dgE n most F E) L e w' ∧ ∀ w5 e' w6, DpA w5 n most F E e' w6 → DgB w5 (dgE n most F E) L e' w6 := by
  obtain ⟨hb, ⟨hc, he⟩ | ⟨hc, k, m, b, Ms, V, hO, he, hL⟩⟩ := h
  · refine ⟨[], by simp, (fun l hl => by cases hl), ⟨hb, none, 0, 0, he, rfl, fun q => absurd rfl q⟩, ?_⟩
    rintro w5 e' w6 ⟨hb', ⟨_, he'⟩ | ⟨hc', _⟩⟩
    · exact ⟨hb', none, 0, 0, he', rfl, fun q => absurd rfl q⟩
    · exact absurd hc' hc
  · have hk := hO.le
    have hm := hO.mle
    refine ⟨(List.range k).map fun x => nI (bitsU (Ms.getD x 0) m), by simp; exact hk, fun l hl => ?_, ⟨hb, _, k, k, by rw [hc]; exact he, by simp, ?_⟩, ?_⟩
    · obtain ⟨x, _, rfl⟩ := List.mem_map.1 hl
      rw [nI_len, bitsU_len]
      exact Nat.le_trans (popB_le _ _) hm
    · have := hL.lrw
      rwa [List.map_map] at this
    · rintro w5 e' w6 ⟨hb', ⟨hc', _⟩ | ⟨_, k', m', a, c, Rs, h1, h2, _, _, hR, he', hL'⟩⟩
      · exact absurd hc hc'
      · have e1 := hO.n
        have e2 := hO.most
        obtain rfl : k = k' := by omega
        obtain rfl : m = m' := by omega
        rw [hO.same hR] at hL'
        exact ⟨hb', a, k, c, by rw [hc]; exact he', by simp, hL'⟩
theorem hq_intact {B : Nat} {w0 w : World} {q : Nat} {V : Nat → Value} {E : Nat → List HE} {n1 n8 : Nat} (h : HQ B w0 w q V E n1 n8) (h1 : n1 ≤ 5864062014720) (h8 : n8 ≤ 5864062014720) :
    Calls Tryz.prog 17 #[.pointer (some ⟨q, 0, none⟩)] w fun e w' => e = .returned (.bool true) ∧ Below w.heap.size w w' := qintact q V tyQ E w h.inv h.st (by rw [h.l1]; exact h1) (by rw [h.l8]; exact h8)
set_option maxRecDepth 100000 in
set_option maxHeartbeats 8000000 in
theorem digraphs_walk {w : World} (hT : TabB w) (n most : Int) (fa : Option Addr) (F : List (List Int)) (hF : LrwB w fa F) (hFl : F.length ≤ 5864062014650 ∧ ∀ l ∈ F, l.length ≤ 17592186044000) (fc : Nat) (ea : Option Addr) (E : List (Int × Int)) (hE : PrsB w ea E) (hEl : E.length ≤ 8796093022000) (ec : Nat) :
    Calls Tryz.prog 4 #[.int .i64 n, .int .i64 most, .slice fa F.length fc, .slice ea E.length ec] w fun e w' => e = .returned (.bool true) ∧ Below w.heap.size w w' := by
  have HT : Hid (TabB w) := hT
  have HF : Hid (LrwB w fa F ∧ F.length ≤ 140737488355328 ∧ (∀ l ∈ F, l.length ≤ 140737488355328)) := ⟨hF, by omega, fun l hl => by have := hFl.2 l hl; omega⟩
  have HE : Hid (PrsB w ea E ∧ E.length ≤ 140737488355328) := ⟨hE, by omega⟩
  have GL : Hid (Calls Tryz.prog 20 #[.pointer (some ⟨w.heap.size, 0, none⟩), .slice fa F.length fc] (w.alloc (.cells #[hNil, hNil, hNil, hNil, hNil, hNil, hNil, hNil, hNil, hNil, hNil, hNil, hNil, hNil, hNil, hNil, hNil, hNil, hNil, hNil, hNil, hNil] 35)) fun e w' => LsPq w.heap.size w (w.alloc (.cells #[hNil, hNil, hNil, hNil, hNil, hNil, hNil, hNil, hNil, hNil, hNil, hNil, hNil, hNil, hNil, hNil, hNil, hNil, hNil, hNil, hNil, hNil] 35)) w.heap.size 0 0 F e w') :=
    hq_lists (hq_new w) fa fc F (by omega) (fun wr hb => hF.later ((below_alloc w _).trans hb)) hFl.2
  have HLE : Hid (F.length ≤ 5864062014650 ∧ E.length ≤ 8796093022000) := ⟨hFl.1, hEl⟩
  clear hT hF hFl hE hEl
  generalize hfl : F.length = fl at *
  generalize hel : E.length = el at *
  have HFE : Hid (F.length = fl ∧ E.length = el) := ⟨hfl, hel⟩
  clear hfl hel
  go_enter Tryz.func4, Tryz.ntmps4
  go_wp2_with (go_at_call 20; refine GL.out.mono ?_)
  rintro e w2 ⟨a2, c2, V2, E2, rfl, k2, l2, o2, b2⟩
  have W2 : Hid (HQ w.heap.size w w2 w.heap.size V2 E2 (0 + F.length) 0 ∧ LsKq w2 V2 (.slice a2 F.length c2) F) := ⟨k2, l2⟩
  have GP : Hid (Calls Tryz.prog 6 #[.pointer (some ⟨w.heap.size, 0, none⟩), .slice ea el ec] w2 fun e w' => e = .returned (.slice (some ⟨w2.heap.size, 0, none⟩) el (el + 3)) ∧ (∃ V' E', HQ w.heap.size w w' w.heap.size V' E' (0 + F.length) 1 ∧ LsKq w' V' (.slice a2 F.length c2) F) ∧ PBq w' w2.heap.size E) := by
    have := hq_pair W2.out.1 (by omega) ea ec E (by have := HLE.out.2; have := HFE.out.2; omega) (HE.out.1.later W2.out.1.bel)
    rw [HFE.out.2] at this
    exact this.mono fun e w' ⟨q1, ⟨V', E', q2, q3⟩, q4, q5, q6⟩ => ⟨q1, ⟨V', E', q2, W2.out.2.hf W2.out.1.inv q3 q4⟩, q6⟩
  have hfe := HFE.out.1
  clear k2 l2 o2 b2 GL
  rw [hfe] at W2 GP ⊢
  clear hfe
  go_wp2_with (go_at_call 6; refine GP.out.mono ?_)
  rintro e w3 ⟨rfl, ⟨V3, E3, k3, l3⟩, p3⟩
  have W3 : Hid (HQ w.heap.size w w3 w.heap.size V3 E3 (0 + fl) 1) := k3
  have DG : Hid (Calls Tryz.prog 19 #[.int .i64 n, .int .i64 most, .slice a2 fl c2, .slice (some ⟨w2.heap.size, 0, none⟩) el (el + 3)] w3 (DgA w3 n most F E)) := by
    have hl3 : LrwB w3 a2 F := l3.row
    have := digraph_any n most w3 a2 c2 F hl3 (by rw [HFE.out.1]; exact HF.out.2.1) HF.out.2.2 (some ⟨w2.heap.size, 0, none⟩) (el + 3) E p3.row (by rw [HFE.out.2]; exact HE.out.2) (HT.out.later k3.bel)
    rwa [HFE.out.1, HFE.out.2] at this
  clear k3 l3 p3 GP W2
  go_wp2_with (go_at_call 19; refine DG.out.mono ?_)
  intro e w4 h4
  obtain ⟨L, hL1, hL2, ⟨b4, a4, n4, c4, rfl, hn4, r4⟩, hD⟩ := dg_both h4
  have B4 : Hid (Below w.heap.size w w4) := W3.out.bel.trans (b4.mono W3.out.sz)
  have W4 : Hid (HQ w.heap.size w w4 w.heap.size V3 E3 (0 + fl) 1 ∧ LrwB w4 a4 L ∧ n4 = L.length ∧ L.length ≤ 4096 ∧ ∀ l ∈ L, l.length ≤ 4096) := ⟨W3.out.later b4, r4, hn4, hL1, hL2⟩
  have DP : Hid (Calls Tryz.prog 21 #[.int .i64 n, .int .i64 most, .slice fa fl fc, .slice ea el ec] w4 (DgB w4 (dgE n most F E) L)) := by
    have := dig_any n most fa fc F (HF.out.1.later B4.out) (by rw [HFE.out.1]; exact HF.out.2.1) HF.out.2.2 ea ec E (HE.out.1.later B4.out) (by rw [HFE.out.2]; exact HE.out.2)
    rw [HFE.out.1, HFE.out.2] at this
    exact this.mono fun e w' q => hD w4 e w' q
  clear hL1 hL2 b4 hn4 r4 hD h4 DG W3
  generalize dgE n most F E = ce at *
  go_wp2_with (go_at_call 21; refine DP.out.mono ?_)
  rintro e w5 ⟨b5, a5, n5, c5, rfl, hn5, r5⟩
  have W5 : Hid (HQ w.heap.size w w5 w.heap.size V3 E3 (0 + fl) 1 ∧ Below w.heap.size w w5) := ⟨W4.out.1.later b5, B4.out.trans (b5.mono B4.out.size)⟩
  obtain rfl : n4 = n5 := W4.out.2.2.1.trans hn5.symm
  have SL : Hid (Calls Tryz.prog 15 #[.slice a4 n4 c4, .slice a5 n4 c5] w5 fun e w' => e = .returned (.bool true) ∧ Below w5.heap.size w5 w') := samelists_q a4 a5 n4 c4 c5 L w5 hn5 (by have := W4.out.2.2.2.1; omega) (fun l hl => by have := W4.out.2.2.2.2 l hl; omega) (W4.out.2.1.later b5) r5
  have NU : Hid (∀ (e : Int) (w : World), Calls Tryz.prog 14 #[.int .i64 e] w fun x w' => x = .returned (.int .i64 e) ∧ w' = w) := num_SB
  have cee : (ce == ce) = true := by simp
  clear b5 hn5 r5 DP W4 B4
  go_wp2_with (go_at_call 15; refine SL.out.mono ?_)
  rintro e w6 ⟨rfl, b6⟩
  have W6 : Hid (HQ w.heap.size w w6 w.heap.size V3 E3 (0 + fl) 1 ∧ Below w.heap.size w w6) := ⟨W5.out.1.later b6, W5.out.2.trans (b6.mono W5.out.2.size)⟩
  have IN : Hid (Calls Tryz.prog 17 #[.pointer (some ⟨w.heap.size, 0, none⟩)] w6 fun e w' => e = .returned (.bool true) ∧ Below w6.heap.size w6 w') := hq_intact W6.out.1 (by have := HLE.out.1; omega) (by omega)
  clear b6 SL W5
  go_wp2_with (first
    | (go_at_call 14; refine (NU.out _ _).mono ?_; rintro e w9 ⟨rfl, hz⟩; rw [hz]; clear hz w9)
    | (go_at_call 17; refine IN.out.mono ?_))
  rintro e w7 ⟨rfl, b7⟩
  have W7 : Hid (Below w.heap.size w w7) := W6.out.2.trans (b7.mono W6.out.2.size)
  have AL : Hid (Calls Tryz.prog 18 #[] w7 fun e w' => e = .returned (.bool true) ∧ Below w7.heap.size w7 w') := alive_SB (HT.out.later W7.out)
  clear b7 IN W6
  go_wp2_with (go_at_call 18; refine AL.out.mono ?_)
  rintro e w8 ⟨rfl, b8⟩
  have W8 : Hid (Below w.heap.size w w8) := W7.out.trans (b8.mono W7.out.size)
  clear b8
  go_wp2
  go_ret
  exact ⟨rfl, W8.out⟩
end Go.Proofs.YtcgghlaifmlpiaaGreatDoor
namespace Go.Proofs.YtcgghlaifmlpiaaGreatDoor
set_option linter.unusedVariables false
open Go.ChangeShapes Go.WideShapes Go.ChangeAt Go.RowKit

theorem pairs_fineB {H : Type} {ts : List TypeId} {ds : List (DataW H)} (hs : (DataW.weightsEach Tryz.prog ts ds).all (· ≤ reachBytes) = true) {j : Nat} {d : DataW H} {n : Nat} (ht : ts[j]? = some 22) (hd : ds[j]? = some d) (h : LD n d) : n ≤ 8796093022000 := by
  have := ld_weight2 (b := 16) Tryz.underlying22 (by decide +kernel) h fun k hk => by
    have := List.all_eq_true.1 hs k (DataW.weights_mem_each ht hd k hk)
    simpa using this
  omega
theorem lists_fineB {H : Type} {ts : List TypeId} {ds : List (DataW H)} (hs : (DataW.weightsEach Tryz.prog ts ds).all (· ≤ reachBytes) = true) {j : Nat} {d : DataW H} {L : List (List Int)} (ht : ts[j]? = some 24) (hd : ds[j]? = some d) (h : LLDB L d) : L.length ≤ 5864062014650 ∧ ∀ l ∈ L, l.length ≤ 17592186044000 := by
  have hw : ∀ k ∈ d.weights Tryz.prog 24, k ≤ reachBytes := fun k hk => by
    have := List.all_eq_true.1 hs k (DataW.weights_mem_each ht hd k hk)
    simpa using this
  rcases h with ⟨rfl, rfl⟩ | ⟨el, sp, rfl, e, hE⟩
  · exact ⟨by simp, fun l hl => by cases hl⟩
  · obtain ⟨h1, h2⟩ := slice_weight Tryz.underlying24 (by decide +kernel) hw
    have h3 := slice_weight2 (b := 24) Tryz.underlying24 (by decide +kernel) hw
    refine ⟨by omega, fun l hl => ?_⟩
    obtain ⟨i, hi, rfl⟩ := in_getD (d := []) hl
    have := ld_weight2 (b := 8) Tryz.underlying46 (by decide +kernel) (hE i hi) fun k hk => h2 _ (by simp [List.getD, show i < el.length by omega]) k hk
    omega
end Go.Proofs.YtcgghlaifmlpiaaGreatDoor
