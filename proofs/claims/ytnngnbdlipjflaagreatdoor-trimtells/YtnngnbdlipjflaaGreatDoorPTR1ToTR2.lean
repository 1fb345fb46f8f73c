import Derived.Test.YtnngnbdlipjflaaGreatDoorPRegXToFThy2
namespace Go.Proofs.YtnngnbdlipjflaaGreatDoor
set_option linter.unusedVariables false
set_option maxRecDepth 100000
set_option maxHeartbeats 16000000
open Go.RowKit
def wh1 (t : Bool) (M : List Bool) (s : Int × Int) : Bool := !(decide (s.1 = 2) && !M.getD s.2.toNat false || decide (s.1 = 1) && !t)
def wholeU (t : Bool) (M : List Bool) (l : List (Int × Int)) : Bool := l.all (wh1 t M)
theorem whole_R (ma : Option Addr) (mc : Nat) (M : List Bool) (la : Option Addr) (lc : Nat) (l : List (Int × Int)) (t : Bool) (w : World) (hM : BRow w ma M) (hl : SymRow w la l) (hll : l.length <= 1048576) (hnl : M.length <= 1048576) (hr : ∀ s ∈ l, s.1 = 2 -> 0 <= s.2 /\ s.2 < M.length) :
  Calls Tryz.prog 60 #[.slice la l.length lc, .slice ma M.length mc, .bool t] w fun e w' => e = .returned (.bool (wholeU t M l)) /\ w = w' := by
 have HK : Hid (BRow w ma M) := hM
 have HL : Hid (SymRow w la l) := hl
 have HR : Hid (∀ s ∈ l, s.1 = 2 -> 0 <= s.2 /\ s.2 < M.length) := hr
 have HF : Hid (∀ k, k < l.length -> wh1 t M (l.getD k (0, 0)) = false -> wholeU t M l = false) := fun k hk h => all_no hk h
 have HY : Hid ((∀ k, k < l.length -> wh1 t M (l.getD k (0, 0)) = true) -> wholeU t M l = true) := all_yes
 clear hM hl hr
 generalize hX : wholeU t M l = X at *
 clear hX
 go_enter Tryz.func60, Tryz.ntmps60
 go_wp2
 go_loopw [7] (fun z wr => ∃ k : Nat, k <= l.length /\ z = .int .i64 k /\ (∀ j, j < k -> wh1 t M (l.getD j (0, 0)) = true) /\ w = wr) (fun z _ => l.length - (intOf z).toNat)
 case atStart => exact ⟨0, Nat.zero_le _, rfl, fun j hj => absurd hj (Nat.not_lt_zero j), rfl⟩
 case round =>
  obtain ⟨k, hk, rfl, hf, rfl⟩ := hrel
  by_cases hlt : k < l.length
  ·obtain ⟨b, o, rfl, hbl, hc⟩ := HL.out (by intro e; rw [e] at hlt; simp at hlt)
   obtain ⟨c0, c1⟩ := hc k hlt
   have hin := HR.out _ (show l.getD k (0, 0) ∈ l by simp [List.getD, hlt])
   have HN : Hid (wh1 t M (l.getD k (0, 0)) = false -> X = false) := HF.out k hlt
   have klt : (k : Int) < (l.length : Int) := by omega
   have HS : Hid (wh1 t M (l.getD k (0, 0)) = true -> ∀ j, j < k + 1 -> wh1 t M (l.getD j (0, 0)) = true) := fun h j hj => by
    by_cases e : j = k
    ·subst e; exact h
    ·exact hf j (by omega)
   have VW : wh1 t M (l.getD k (0, 0)) = !(decide ((l.getD k (0, 0)).1 = 2) && !M.getD (l.getD k (0, 0)).2.toNat false || decide ((l.getD k (0, 0)).1 = 1) && !t) := rfl
   generalize l.getD k (0, 0) = x at *
   obtain ⟨x1, x2⟩ := x
   simp only at c0 c1 hin VW
   by_cases h2 : x1 = 2
   ·obtain ⟨i0, i1⟩ := hin h2
    obtain ⟨m, rfl⟩ : ∃ m : Nat, x2 = (m : Int) := ⟨x2.toNat, by omega⟩
    have hm2 : m < M.length := by omega
    have mlt : (m : Int) < (M.length : Int) := by omega
    obtain ⟨nb, no, rfl, hnb, hnc⟩ := HK.out (by intro e; rw [e] at hm2; simp at hm2)
    have kc := hnc m hm2
    have e2 : (x1 == 2) = true := by simpa using h2
    have e1 : (x1 == 1) = false := by rw [h2]; decide
    have V : Hid (wh1 t M (x1, (m : Int)) = M.getD m false) := by show _ = _; rw [VW, decide_eq_true h2, decide_eq_false (show ¬ x1 = 1 by omega)]; simp
    generalize M.getD m false = v at *
    clear VW hnc h2
    cases v
    ·have R : Hid (X = false) := HN.out V.out
     clear hc hf
     go_wp2
     go_ret
     exact ⟨by rw [R.out]; rfl, rfl⟩
    ·have R : Hid (∀ j, j < k + 1 -> wh1 t M (l.getD j (0, 0)) = true) := HS.out V.out
     clear hc hf
     go_wp2
     go_roundw
     case rel => exact ⟨k + 1, by omega, by go_num, R.out, by first | rfl | trivial⟩
     case measure => simp [intOf]; omega
   ·have e2 : (x1 == 2) = false := by simpa using h2
    by_cases h1 : x1 = 1
    ·have e1 : (x1 == 1) = true := by simpa using h1
     have V : Hid (wh1 t M (x1, x2) = t) := by show _ = _; rw [VW, decide_eq_false h2, decide_eq_true h1]; simp
     clear VW h1 h2
     cases t
     ·have R : Hid (X = false) := HN.out V.out
      clear hc hf
      go_wp2
      go_ret
      exact ⟨by rw [R.out]; rfl, rfl⟩
     ·have R : Hid (∀ j, j < k + 1 -> wh1 true M (l.getD j (0, 0)) = true) := HS.out V.out
      clear hc hf
      go_wp2
      go_roundw
      case rel => exact ⟨k + 1, by omega, by go_num, R.out, by first | rfl | trivial⟩
      case measure => simp [intOf]; omega
    ·have e1 : (x1 == 1) = false := by simpa using h1
     have V : Hid (wh1 t M (x1, x2) = true) := by show _ = _; rw [VW, decide_eq_false h2, decide_eq_false h1]; simp
     have R : Hid (∀ j, j < k + 1 -> wh1 t M (l.getD j (0, 0)) = true) := HS.out V.out
     clear VW h1 h2 hc hf
     go_wp2
     go_roundw
     case rel => exact ⟨k + 1, by omega, by go_num, R.out, by first | rfl | trivial⟩
     case measure => simp [intOf]; omega
  ·have R : Hid (X = true) := HY.out (fun j hj => hf j (by omega))
   have klt : ¬ (k : Int) < (l.length : Int) := by omega
   clear hf
   go_wp2
   go_ret
   exact ⟨by rw [R.out]; rfl, rfl⟩
def ClM (ps : List PV) (t : Bool) (C : Nat -> Prop) : Prop := ∀ p ∈ ps, (∀ s ∈ p.right, (s.1 = 2 -> C s.2.toNat) /\ (s.1 = 1 -> t = true)) -> C p.left.toNat
structure MLst (ps : List PV) (n : Nat) (t : Bool) (M : List Bool) : Prop where
 len : M.length = n
 clo : ∀ p ∈ ps, wholeU t M p.right = true -> M.getD p.left.toNat false = true
 lst : ∀ C, ClM ps t C -> ∀ i, M.getD i false = true -> C i
def falseU : List Bool -> Nat
 | [] => 0
 | b :: l => (if b then 0 else 1) + falseU l
theorem falseU_set : ∀ (M : List Bool) (i : Nat), i < M.length -> M.getD i false = false -> falseU (M.set i true) + 1 = falseU M
 | [], i, h, _ => by simp at h
 | b :: l, 0, _, h0 => by
  simp only [List.getD_cons_zero] at h0
  subst h0
  simp [falseU, Nat.add_comm]
 | b :: l, i + 1, h, h0 => by
  simp only [List.getD_cons_succ] at h0
  have := falseU_set l i (by simpa using h) h0
  simp only [List.set_cons_succ, falseU]
  omega
def falseC : List Value -> Nat
 | [] => 0
 | .bool b :: l => (if b then 0 else 1) + falseC l
 | _ :: l => falseC l
theorem falseC_map : ∀ M : List Bool, falseC (M.map Value.bool) = falseU M
 | [] => rfl
 | b :: l => by rw [List.map_cons, falseC, falseU, falseC_map l]
def mesB (b : Nat) (w : World) : Nat := match w.heap[b]? with
 | some (.cells C _ _) => falseC C.toList
 | _ => 0
theorem mesB_of {w : World} {b : Nat} {M : List Bool} (h : BB w b M) : mesB b w = falseU M := by
 unfold mesB
 rw [show w.heap[b]? = _ from h]
 exact falseC_map M
theorem getD_set_b {M : List Bool} {i j : Nat} {v : Bool} : (M.set i v).getD j false = if i = j /\ j < M.length then v else M.getD j false := by
 simp only [List.getD, List.getElem?_set]
 by_cases h1 : i = j
 ·subst h1
  by_cases h2 : i < M.length
  ·simp [h2]
  ·simp [h2]
 ·simp [h1]
theorem whole_in {t : Bool} {M : List Bool} {l : List (Int × Int)} (h : wholeU t M l = true) : ∀ s ∈ l, (s.1 = 2 -> M.getD s.2.toNat false = true) /\ (s.1 = 1 -> t = true) := fun s hs => by
 have := List.all_eq_true.1 h s hs
 unfold wh1 at this
 constructor
 ·intro e
  rw [e] at this
  cases q : M.getD s.2.toNat false
  ·rw [q] at this; simp at this
  ·rfl
 ·intro e
  rw [e] at this
  cases t
  ·simp at this
  ·rfl
theorem sound_set {ps : List PV} {t : Bool} {M : List Bool} {p : PV} (hp : p ∈ ps) (hM : ∀ C, ClM ps t C -> ∀ i, M.getD i false = true -> C i) (hw : wholeU t M p.right = true) : ∀ C, ClM ps t C -> ∀ i, (M.set p.left.toNat true).getD i false = true -> C i := fun C hC i hi => by
 rw [getD_set_b] at hi
 split at hi
 ·rename_i q
  rw [<- q.1]
  exact hC p hp fun s hs => ⟨fun e => hM C hC _ ((whole_in hw s hs).1 e), (whole_in hw s hs).2⟩
 ·exact hM C hC i hi
def tOf : Value -> Nat
 | .bool true => 1
 | _ => 0
structure MW (g : GV) (t : Bool) (w : World) (mb : Nat) (M : List Bool) (wr : World) : Prop where
 len : M.length = g.ns.length
 lst : ∀ C, ClM g.ps t C -> ∀ i, M.getD i false = true -> C i
 bb : BB wr mb M
 box : wr.heap[w.heap.size]? = some (gBox g)
 bel : Below w.heap.size w wr
theorem MW.set {g : GV} {t : Bool} {w wr : World} {mb : Nat} {M : List Bool} (h : MW g t w mb M wr) {p : PV} (hp : p ∈ g.ps) (hw : wholeU t M p.right = true) (hmb : w.heap.size < mb) : MW g t w mb (M.set p.left.toNat true) (wr.setCell ⟨mb, p.left.toNat, none⟩ (.bool true)) :=
 ⟨by rw [List.length_set]; exact h.len, sound_set hp h.lst hw, h.bb.set _ _, (Below.heap_setCell _ _ _ _ (by show w.heap.size ≠ mb; omega)).trans h.box, h.bel.setCell (p := ⟨mb, p.left.toNat, none⟩) (by show w.heap.size <= mb; omega) _⟩
theorem least_R (g : GV) (t : Bool) (w : World) (hfg : FG w g) :
  Calls Tryz.prog 77 #[g.val, .bool t] w fun e w' => ∃ b M, e = .returned (.slice (some ⟨b, 0, none⟩) g.ns.length g.ns.length) /\ MLst g.ps g.ns.length t M /\ BB w' b M /\ w.heap.size <= b /\ Below w.heap.size w w' := by
 have X0 : Hid ((w.alloc (gBox g)).heap[w.heap.size]? = some (gBox g)) := heap_alloc_new _ _
 have HFG : Hid (∀ w', Below w.heap.size w w' -> FG w' g) := fun w' hb => hfg.later hb
 have hmk := make_boolF g.ns.length (by have := hfg.nl; omega)
 have hpl := hfg.pl
 have hnl := hfg.nl.2
 obtain ⟨x0, x1, x2, x3, x4⟩ := gb_cells X0.out
 have hz : (w.alloc (gBox g)).heap.size = w.heap.size + 1 := by simp
 have M0 : Hid (MW g t w (w.heap.size + 1) (List.replicate g.ns.length false) ((w.alloc (gBox g)).alloc (.cells (madeCells #[.bool false] g.ns.length) 4))) := by
  have bA := below_alloc (w.alloc (gBox g)) (.cells (madeCells #[.bool false] g.ns.length) 4)
  refine ⟨by simp, fun C _ i hi => ?_, ?_, (bA.block _ (by simp)).trans X0.out, (below_alloc w _).trans (bA.mono (by simp))⟩
  ·have : (List.replicate g.ns.length false).getD i false = false := by simp [List.getD, List.getElem?_replicate]; split <;> rfl
   rw [this] at hi; cases hi
  ·have := BB.made (w.alloc (gBox g)) g.ns.length
   rwa [hz] at this
 clear hfg hz
 go_enter Tryz.func77, Tryz.ntmps77
 go_wp2
 go_loopw [6] (fun z wr => ∃ (bo : Bool) (M : List Bool), z = .bool bo /\ MW g t w (w.heap.size + 1) M wr /\ (bo = false -> ∀ p ∈ g.ps, wholeU t M p.right = true -> M.getD p.left.toNat false = true)) (fun z wr => mesB (w.heap.size + 1) wr + tOf z)
 case atStart => exact ⟨true, _, rfl, M0.out, fun h => by cases h⟩
 case round =>
  clear x0 x1 x2 x3 x4
  obtain ⟨bo, M, rfl, hW, hcl⟩ := hrel
  have HW : Hid (MW g t w (w.heap.size + 1) M wr) := hW
  have HM : Hid (mesB (w.heap.size + 1) wr = falseU M) := mesB_of hW.bb
  cases bo
  ·have R : Hid (MLst g.ps g.ns.length t M) := ⟨hW.len, hcl rfl, hW.lst⟩
   clear hW hcl
   go_wp2
   go_ret
   exact ⟨w.heap.size + 1, M, rfl, R.out, HW.out.bb, by omega, HW.out.bel⟩
  ·clear hcl hW
   obtain ⟨wz, rfl⟩ : ∃ wz : World, wz = wr := ⟨_, rfl⟩
   go_wp2
   go_loopw [6, 7] (fun z i wr2 => ∃ (k : Nat) (b2 : Bool) (M2 : List Bool), k <= g.ps.length /\ z = .bool b2 /\ i = .int .i64 k /\ MW g t w (w.heap.size + 1) M2 wr2 /\ falseU M2 + (if b2 then 1 else 0) <= falseU M /\ (b2 = false -> M2 = M /\ ∀ j, j < k -> wholeU t M (g.ps.getD j .none).right = true -> M.getD (g.ps.getD j .none).left.toNat false = true)) (fun _ i _ => g.ps.length - (intOf i).toNat)
   case atStart => exact ⟨0, false, M, Nat.zero_le _, rfl, rfl, HW.out, by simp, fun _ => ⟨rfl, fun j hj => absurd hj (Nat.not_lt_zero j)⟩⟩
   case round =>
    obtain ⟨k, b2, M2, hk, rfl, rfl, hW2, hle, hcl⟩ := hrel
    have HW2 : Hid (MW g t w (w.heap.size + 1) M2 wr) := hW2
    obtain ⟨x0, x1, x2, x3, x4⟩ := gb_cells hW2.box
    by_cases hlt : k < g.ps.length
    ·obtain ⟨b, o, hpa, hbl, hc⟩ := (HFG.out _ hW2.bel).p.cells (by intro e; rw [e] at hlt; simp at hlt)
     obtain ⟨c0, c1, c2⟩ := hc k hlt
     have klt : (k : Int) < (g.ps.length : Int) := by omega
     have hmem : g.ps.getD k .none ∈ g.ps := by simp [List.getD, hlt]
     obtain ⟨l0, l1⟩ := (HFG.out _ hW2.bel).left _ hmem
     have hrow := (HFG.out _ hW2.bel).p.rows _ hmem
     have hrl := (HFG.out _ hW2.bel).rl _ hmem
     have hsy := (HFG.out _ hW2.bel).sym _ hmem
     have HCL : Hid (b2 = false -> M2 = M /\ ∀ j, j < k -> wholeU t M (g.ps.getD j .none).right = true -> M.getD (g.ps.getD j .none).left.toNat false = true) := hcl
     have HS : Hid ((M2 = M -> wholeU t M (g.ps.getD k .none).right = true -> M.getD (g.ps.getD k .none).left.toNat false = true) -> b2 = false -> M2 = M /\ ∀ j, j < k + 1 -> wholeU t M (g.ps.getD j .none).right = true -> M.getD (g.ps.getD j .none).left.toNat false = true) := fun h hb => by
      obtain ⟨e, q⟩ := HCL.out hb
      refine ⟨e, fun j hj => ?_⟩
      by_cases r : j = k
      ·subst r; exact h e
      ·exact q j (by omega)
     have SET : Hid (wholeU t M2 (g.ps.getD k .none).right = true -> MW g t w (w.heap.size + 1) (M2.set (g.ps.getD k .none).left.toNat true) (wr.setCell ⟨w.heap.size + 1, (g.ps.getD k .none).left.toNat, none⟩ (.bool true))) := fun h => HW2.out.set hmem h (by omega)
     generalize g.ps.getD k .none = p at *
     obtain ⟨pl, pra, prc, pr, pp⟩ := p
     simp only at c0 c1 c2 l0 l1 hrow hrl hsy
     obtain ⟨m, rfl⟩ : ∃ m : Nat, pl = (m : Int) := ⟨pl.toNat, by omega⟩
     have hm : m < M2.length := by rw [hW2.len]; omega
     have mlt : (m : Int) < (g.ns.length : Int) := by omega
     have cm := hW2.bb.cell hm
     have fm := hW2.bb.free m
     have WC : Hid (Calls Tryz.prog 60 #[.slice pra pr.length prc, .slice (some ⟨w.heap.size + 1, 0, none⟩) g.ns.length g.ns.length, .bool t] wr fun e w' => e = .returned (.bool (wholeU t M2 pr)) /\ wr = w') := by
      have := whole_R (some ⟨w.heap.size + 1, 0, none⟩) g.ns.length M2 pra prc pr t wr hW2.bb.row hrow (by omega) (by rw [hW2.len]; omega) (fun s hs e => by
       rcases hsy s hs with q | q
       ·omega
       ·rw [hW2.len]; exact q.2)
      rwa [hW2.len] at this
     have FS : Hid (M2.getD m false = false -> falseU (M2.set m true) + 1 = falseU M2) := fun h => falseU_set M2 m hm h
     have HS' : Hid ((M2 = M -> wholeU t M pr = true -> M.getD m false = true) -> b2 = false -> M2 = M /\ ∀ j, j < k + 1 -> wholeU t M (g.ps.getD j .none).right = true -> M.getD (g.ps.getD j .none).left.toNat false = true) := fun h => HS.out (by simpa using h)
     have SET' : Hid (wholeU t M2 pr = true -> MW g t w (w.heap.size + 1) (M2.set m true) (wr.setCell ⟨w.heap.size + 1, m, none⟩ (.bool true))) := fun h => by have := SET.out h; simpa using this
     have HLE : Hid (falseU M2 + (if b2 then 1 else 0) <= falseU M) := hle
     rw [hpa] at x3
     clear hc hmem hrow hsy hW2 hcl hle HS SET hpa hm
     obtain ⟨mv, hmv⟩ : ∃ mv, M2.getD m false = mv := ⟨_, rfl⟩
     rw [hmv] at cm FS
     have HMV : Hid (M2.getD m false = mv) := hmv
     clear hmv
     cases mv
     ·obtain ⟨wv, hwv⟩ : ∃ wv, wholeU t M2 pr = wv := ⟨_, rfl⟩
      rw [hwv] at WC SET'
      have HWV : Hid (wholeU t M2 pr = wv) := hwv
      clear hwv
      cases wv
      ·have R : Hid (b2 = false -> M2 = M /\ ∀ j, j < k + 1 -> wholeU t M (g.ps.getD j .none).right = true -> M.getD (g.ps.getD j .none).left.toNat false = true) := HS'.out (fun e h => by rw [<- e, HWV.out] at h; cases h)
       clear SET' FS HS'
       go_wp2_with (go_at_call 60; refine WC.out.mono ?_; rintro e w3 ⟨rfl, rfl⟩)
       go_roundw
       case rel => exact ⟨k + 1, b2, M2, by omega, rfl, by go_num, HW2.out, HLE.out, R.out⟩
       case measure => simp [intOf]; omega
      ·have ST : Hid (MW g t w (w.heap.size + 1) (M2.set m true) (wr.setCell ⟨w.heap.size + 1, m, none⟩ (.bool true))) := SET'.out rfl
       have FT : Hid (falseU (M2.set m true) + 1 = falseU M2) := FS.out rfl
       have R : Hid (falseU (M2.set m true) + (if true then 1 else 0) <= falseU M) := by
        have := HLE.out
        have := FT.out
        show _ + 1 <= _
        omega
       clear SET' FS HS' FT
       go_wp2_with (go_at_call 60; refine WC.out.mono ?_; rintro e w3 ⟨rfl, rfl⟩)
       go_roundw
       case rel => exact ⟨k + 1, true, M2.set m true, by omega, rfl, by go_num, ST.out, R.out, fun h => by cases h⟩
       case measure => simp [intOf]; omega
     ·have R : Hid (b2 = false -> M2 = M /\ ∀ j, j < k + 1 -> wholeU t M (g.ps.getD j .none).right = true -> M.getD (g.ps.getD j .none).left.toNat false = true) := HS'.out (fun e _ => by rw [<- e]; exact HMV.out)
      clear SET' FS HS'
      go_wp2
      go_roundw
      case rel => exact ⟨k + 1, b2, M2, by omega, rfl, by go_num, HW2.out, HLE.out, R.out⟩
      case measure => simp [intOf]; omega
    ·have klt : ¬ (k : Int) < (g.ps.length : Int) := by omega
     have R : Hid (MW g t w (w.heap.size + 1) M2 wr /\ (b2 = false -> ∀ p ∈ g.ps, wholeU t M2 p.right = true -> M2.getD p.left.toNat false = true)) := ⟨hW2, fun hb p hp h => by
      obtain ⟨e, q⟩ := hcl hb
      obtain ⟨i, hi, rfl⟩ := List.getElem_of_mem hp
      have e2 : g.ps.getD i .none = g.ps[i] := by simp [List.getD, hi]
      rw [e] at h ⊢
      have := q i (by omega)
      rw [e2] at this
      exact this h⟩
     have ME : Hid (mesB (w.heap.size + 1) wr + (if b2 then 1 else 0) <= mesB (w.heap.size + 1) wz) := by
      show _ <= _
      rw [mesB_of hW2.bb, HM.out]
      exact hle
     clear hW2 hcl hle
     go_wp2
     go_roundw
     case rel => exact ⟨b2, M2, rfl, R.out.1, R.out.2⟩
     case measure =>
      have := ME.out
      cases b2 <;> simp [tOf] at this ⊢ <;> omega
end Go.Proofs.YtnngnbdlipjflaaGreatDoor
