import Derived.Test.YtaiebnppfabfgaaPTR1
namespace Go.Proofs.Ytaiebnppfabfgaa
set_option linter.unusedVariables false
set_option maxRecDepth 100000
set_option maxHeartbeats 16000000
open Go.RowKit
def tOf : Value -> Nat
 | .bool true => 1
 | _ => 0
structure MW (g : GV) (t : Bool) (w : World) (mb : Nat) (M : List Bool) (wr : World) : Prop where
 len : M.length = g.ns.length
 lst : ∀ C, ClM g.ps t C -> ∀ i, M.getD i false = true -> C i
 bb : BB wr mb M
 box : wr.heap[w.heap.size]? = some (gBox g)
 bel : Below w.heap.size w wr
theorem MW.set {g : GV} {t : Bool} {w wr : World} {mb : Nat} {M : List Bool} (h : MW g t w mb M wr) {p : PV} (hp : p ∈ g.ps) (hw : wholeU t M p.right = true) (hmb : w.heap.size < mb) : MW g t w mb (M.set p.left.toNat true) (wr.setCell ⟨mb, p.left.toNat, none⟩ (.bool true)) :=
 ⟨by rw [List.length_set]; exact h.len, sound_set hp h.lst hw, h.bb.set _ _, (Below.heap_setCell _ _ _ _ (by show w.heap.size ≠ mb; omega)).trans h.box, h.bel.setCell (p := ⟨mb, p.left.toNat, none⟩) (by show w.heap.size <= mb; omega) _⟩
theorem least_R (g : GV) (t : Bool) (w : World) (hfg : FG w g) :
  Calls Try.prog 62 #[g.val, .bool t] w fun e w' => ∃ b M, e = .returned (.slice (some ⟨b, 0, none⟩) g.ns.length g.ns.length) /\ MLst g.ps g.ns.length t M /\ BB w' b M /\ w.heap.size <= b /\ Below w.heap.size w w' := by
 have X0 : Hid ((w.alloc (gBox g)).heap[w.heap.size]? = some (gBox g)) := heap_alloc_new _ _
 have HFG : Hid (∀ w', Below w.heap.size w w' -> FG w' g) := fun w' hb => hfg.later hb
 have hmk := make_boolF g.ns.length (by have := hfg.nl; omega)
 have hpl := hfg.pl
 have hnl := hfg.nl.2
 obtain ⟨x0, x1, x2, x3, x4⟩ := gb_cells X0.out
 have hz : (w.alloc (gBox g)).heap.size = w.heap.size + 1 := by simp
 have M0 : Hid (MW g t w (w.heap.size + 1) (List.replicate g.ns.length false) ((w.alloc (gBox g)).alloc (.cells (madeCells #[.bool false] g.ns.length) 4))) := by
  have bA := below_alloc (w.alloc (gBox g)) (.cells (madeCells #[.bool false] g.ns.length) 4)
  refine ⟨by simp, fun C _ i hi => ?_, ?_, (bA.block _ (by simp)).trans X0.out, (below_alloc w _).trans (bA.mono (by simp))⟩
  ·have : (List.replicate g.ns.length false).getD i false = false := by simp [List.getD, List.getElem?_replicate]; split <;> rfl
   rw [this] at hi; cases hi
  ·have := BB.made (w.alloc (gBox g)) g.ns.length
   rwa [hz] at this
 clear hfg hz
 go_enter Try.func62, Try.ntmps62
 go_wp2
 go_loopw [6] (fun z wr => ∃ (bo : Bool) (M : List Bool), z = .bool bo /\ MW g t w (w.heap.size + 1) M wr /\ (bo = false -> ∀ p ∈ g.ps, wholeU t M p.right = true -> M.getD p.left.toNat false = true)) (fun z wr => mesB (w.heap.size + 1) wr + tOf z)
 case atStart => exact ⟨true, _, rfl, M0.out, fun h => by cases h⟩
 case round =>
  clear x0 x1 x2 x3 x4
  obtain ⟨bo, M, rfl, hW, hcl⟩ := hrel
  have HW : Hid (MW g t w (w.heap.size + 1) M wr) := hW
  have HM : Hid (mesB (w.heap.size + 1) wr = falseU M) := mesB_of hW.bb
  cases bo
  ·have R : Hid (MLst g.ps g.ns.length t M) := ⟨hW.len, hcl rfl, hW.lst⟩
   clear hW hcl
   go_wp2
   go_ret
   exact ⟨w.heap.size + 1, M, rfl, R.out, HW.out.bb, by omega, HW.out.bel⟩
  ·clear hcl hW
   obtain ⟨wz, rfl⟩ : ∃ wz : World, wz = wr := ⟨_, rfl⟩
   go_wp2
   go_loopw [6, 7] (fun z i wr2 => ∃ (k : Nat) (b2 : Bool) (M2 : List Bool), k <= g.ps.length /\ z = .bool b2 /\ i = .int .i64 k /\ MW g t w (w.heap.size + 1) M2 wr2 /\ falseU M2 + (if b2 then 1 else 0) <= falseU M /\ (b2 = false -> M2 = M /\ ∀ j, j < k -> wholeU t M (g.ps.getD j .none).right = true -> M.getD (g.ps.getD j .none).left.toNat false = true)) (fun _ i _ => g.ps.length - (intOf i).toNat)
   case atStart => exact ⟨0, false, M, Nat.zero_le _, rfl, rfl, HW.out, by simp, fun _ => ⟨rfl, fun j hj => absurd hj (Nat.not_lt_zero j)⟩⟩
   case round =>
    obtain ⟨k, b2, M2, hk, rfl, rfl, hW2, hle, hcl⟩ := hrel
    have HW2 : Hid (MW g t w (w.heap.size + 1) M2 wr) := hW2
    obtain ⟨x0, x1, x2, x3, x4⟩ := gb_cells hW2.box
    by_cases hlt : k < g.ps.length
    ·obtain ⟨b, o, hpa, hbl, hc⟩ := (HFG.out _ hW2.bel).p.cells (by intro e; rw [e] at hlt; simp at hlt)
     obtain ⟨c0, c1, c2⟩ := hc k hlt
     have klt : (k : Int) < (g.ps.length : Int) := by omega
     have hmem : g.ps.getD k .none ∈ g.ps := by simp [List.getD, hlt]
     obtain ⟨l0, l1⟩ := (HFG.out _ hW2.bel).left _ hmem
     have hrow := (HFG.out _ hW2.bel).p.rows _ hmem
     have hrl := (HFG.out _ hW2.bel).rl _ hmem
     have hsy := (HFG.out _ hW2.bel).sym _ hmem
     have HCL : Hid (b2 = false -> M2 = M /\ ∀ j, j < k -> wholeU t M (g.ps.getD j .none).right = true -> M.getD (g.ps.getD j .none).left.toNat false = true) := hcl
     have HS : Hid ((M2 = M -> wholeU t M (g.ps.getD k .none).right = true -> M.getD (g.ps.getD k .none).left.toNat false = true) -> b2 = false -> M2 = M /\ ∀ j, j < k + 1 -> wholeU t M (g.ps.getD j .none).right = true -> M.getD (g.ps.getD j .none).left.toNat false = true) := fun h hb => by
      obtain ⟨e, q⟩ := HCL.out hb
      refine ⟨e, fun j hj => ?_⟩
      by_cases r : j = k
      ·subst r; exact h e
      ·exact q j (by omega)
     have SET : Hid (wholeU t M2 (g.ps.getD k .none).right = true -> MW g t w (w.heap.size + 1) (M2.set (g.ps.getD k .none).left.toNat true) (wr.setCell ⟨w.heap.size + 1, (g.ps.getD k .none).left.toNat, none⟩ (.bool true))) := fun h => HW2.out.set hmem h (by omega)
     generalize g.ps.getD k .none = p at *
     obtain ⟨pl, pra, prc, pr, pp⟩ := p
     simp only at c0 c1 c2 l0 l1 hrow hrl hsy
     obtain ⟨m, rfl⟩ : ∃ m : Nat, pl = (m : Int) := ⟨pl.toNat, by omega⟩
     have hm : m < M2.length := by rw [hW2.len]; omega
     have mlt : (m : Int) < (g.ns.length : Int) := by omega
     have cm := hW2.bb.cell hm
     have fm := hW2.bb.free m
     have WC : Hid (Calls Try.prog 64 #[.slice pra pr.length prc, .slice (some ⟨w.heap.size + 1, 0, none⟩) g.ns.length g.ns.length, .bool t] wr fun e w' => e = .returned (.bool (wholeU t M2 pr)) /\ wr = w') := by
      have := whole_R (some ⟨w.heap.size + 1, 0, none⟩) g.ns.length M2 pra prc pr t wr hW2.bb.row hrow (by omega) (by rw [hW2.len]; omega) (fun s hs e => by
       rcases hsy s hs with q | q
       ·omega
       ·rw [hW2.len]; exact q.2)
      rwa [hW2.len] at this
     have FS : Hid (M2.getD m false = false -> falseU (M2.set m true) + 1 = falseU M2) := fun h => falseU_set M2 m hm h
     have HS' : Hid ((M2 = M -> wholeU t M pr = true -> M.getD m false = true) -> b2 = false -> M2 = M /\ ∀ j, j < k + 1 -> wholeU t M (g.ps.getD j .none).right = true -> M.getD (g.ps.getD j .none).left.toNat false = true) := fun h => HS.out (by simpa using h)
     have SET' : Hid (wholeU t M2 pr = true -> MW g t w (w.heap.size + 1) (M2.set m true) (wr.setCell ⟨w.heap.size + 1, m, none⟩ (.bool true))) := fun h => by have := SET.out h; simpa using this
     have HLE : Hid (falseU M2 + (if b2 then 1 else 0) <= falseU M) := hle
     rw [hpa] at x3
     clear hc hmem hrow hsy hW2 hcl hle HS SET hpa hm
     obtain ⟨mv, hmv⟩ : ∃ mv, M2.getD m false = mv := ⟨_, rfl⟩
     rw [hmv] at cm FS
     have HMV : Hid (M2.getD m false = mv) := hmv
     clear hmv
     cases mv
     ·obtain ⟨wv, hwv⟩ : ∃ wv, wholeU t M2 pr = wv := ⟨_, rfl⟩
      rw [hwv] at WC SET'
      have HWV : Hid (wholeU t M2 pr = wv) := hwv
      clear hwv
      cases wv
      ·have R : Hid (b2 = false -> M2 = M /\ ∀ j, j < k + 1 -> wholeU t M (g.ps.getD j .none).right = true -> M.getD (g.ps.getD j .none).left.toNat false = true) := HS'.out (fun e h => by rw [<- e, HWV.out] at h; cases h)
       clear SET' FS HS'
       go_wp2_with (go_at_call 64; refine WC.out.mono ?_; rintro e w3 ⟨rfl, rfl⟩)
       go_roundw
       case rel => exact ⟨k + 1, b2, M2, by omega, rfl, by go_num, HW2.out, HLE.out, R.out⟩
       case measure => simp [intOf]; omega
      ·have ST : Hid (MW g t w (w.heap.size + 1) (M2.set m true) (wr.setCell ⟨w.heap.size + 1, m, none⟩ (.bool true))) := SET'.out rfl
       have FT : Hid (falseU (M2.set m true) + 1 = falseU M2) := FS.out rfl
       have R : Hid (falseU (M2.set m true) + (if true then 1 else 0) <= falseU M) := by
        have := HLE.out
        have := FT.out
        show _ + 1 <= _
        omega
       clear SET' FS HS' FT
       go_wp2_with (go_at_call 64; refine WC.out.mono ?_; rintro e w3 ⟨rfl, rfl⟩)
       go_roundw
       case rel => exact ⟨k + 1, true, M2.set m true, by omega, rfl, by go_num, ST.out, R.out, fun h => by cases h⟩
       case measure => simp [intOf]; omega
     ·have R : Hid (b2 = false -> M2 = M /\ ∀ j, j < k + 1 -> wholeU t M (g.ps.getD j .none).right = true -> M.getD (g.ps.getD j .none).left.toNat false = true) := HS'.out (fun e _ => by rw [<- e]; exact HMV.out)
      clear SET' FS HS'
      go_wp2
      go_roundw
      case rel => exact ⟨k + 1, b2, M2, by omega, rfl, by go_num, HW2.out, HLE.out, R.out⟩
      case measure => simp [intOf]; omega
    ·have klt : ¬ (k : Int) < (g.ps.length : Int) := by omega
     have R : Hid (MW g t w (w.heap.size + 1) M2 wr /\ (b2 = false -> ∀ p ∈ g.ps, wholeU t M2 p.right = true -> M2.getD p.left.toNat false = true)) := ⟨hW2, fun hb p hp h => by
      obtain ⟨e, q⟩ := hcl hb
      obtain ⟨i, hi, rfl⟩ := List.getElem_of_mem hp
      have e2 : g.ps.getD i .none = g.ps[i] := by simp [List.getD, hi]
      rw [e] at h ⊢
      have := q i (by omega)
      rw [e2] at this
      exact this h⟩
     have ME : Hid (mesB (w.heap.size + 1) wr + (if b2 then 1 else 0) <= mesB (w.heap.size + 1) wz) := by
      show _ <= _
      rw [mesB_of hW2.bb, HM.out]
      exact hle
     clear hW2 hcl hle
     go_wp2
     go_roundw
     case rel => exact ⟨b2, M2, rfl, R.out.1, R.out.2⟩
     case measure =>
      have := ME.out
      cases b2 <;> simp [tOf] at this ⊢ <;> omega
end Go.Proofs.Ytaiebnppfabfgaa
