import Derived.Test.YtpbpombjndlnbaaGreatPFFolToFFol7
import Derived.Test.YtpbpombjndlnbaaGreatPFR0ToFR3
import Derived.Test.YtpbpombjndlnbaaGreatPTR1
namespace Go.Proofs.YtpbpombjndlnbaaGreat
set_option linter.unusedVariables false
set_option maxRecDepth 100000
set_option maxHeartbeats 16000000
open Go.RowKit
def tOf : Value -> Nat
 | .bool true => 1
 | _ => 0
theorem null_clo {g : GV} (hg : GP g) {p : PV} (hp : p ∈ g.ps) (h : allN (nullU g.ps g.ns.length) p.right = true) : (nullU g.ps g.ns.length).getD p.left.toNat false = true :=
 (nullU_iff _).2 (htU_closed g.ps g.ns.length hg.left p hp (fun s hs => by
  have := List.all_eq_true.1 h s hs
  unfold null1 at this
  rw [Bool.and_eq_true, decide_eq_true_eq] at this
  exact ⟨this.1, (nullU_iff _).1 this.2⟩))
theorem allN_mono {N M : List Bool} (h : ∀ i, N.getD i false = true -> M.getD i false = true) {l : List (Int × Int)} (hl : allN N l = true) : allN M l = true := List.all_eq_true.2 fun s hs => by
 have := List.all_eq_true.1 hl s hs
 unfold null1 at this ⊢
 rw [Bool.and_eq_true] at this ⊢
 exact ⟨this.1, h _ this.2⟩
structure NW (g : GV) (w : World) (mb : Nat) (M : List Bool) (wr : World) : Prop where
 len : M.length = g.ns.length
 le : ∀ i, M.getD i false = true -> (nullU g.ps g.ns.length).getD i false = true
 bb : BB wr mb M
 box : wr.heap[w.heap.size]? = some (gBox g)
 bel : Below w.heap.size w wr
theorem NW.any {g : GV} {w wr w' : World} {mb : Nat} {M : List Bool} (h : NW g w mb M wr) (hb : Below wr.heap.size wr w') : NW g w mb M w' := ⟨h.len, h.le, h.bb.later hb, (hb.block _ (lt_of_block h.box)).trans h.box, h.bel.trans (hb.mono h.bel.size)⟩
theorem NW.set {g : GV} (hg : GP g) {w wr : World} {mb : Nat} {M : List Bool} (h : NW g w mb M wr) {p : PV} (hp : p ∈ g.ps) (hw : allN M p.right = true) (hmb : w.heap.size < mb) : NW g w mb (M.set p.left.toNat true) (wr.setCell ⟨mb, p.left.toNat, none⟩ (.bool true)) :=
 ⟨by rw [List.length_set]; exact h.len, fun i hi => by
  rw [getD_set_b] at hi
  split at hi
  ·rename_i q
   rw [<- q.1]
   exact null_clo hg hp (allN_mono h.le hw)
  ·exact h.le i hi, h.bb.set _ _, (Below.heap_setCell _ _ _ _ (by show w.heap.size ≠ mb; omega)).trans h.box, h.bel.setCell (p := ⟨mb, p.left.toNat, none⟩) (by show w.heap.size <= mb; omega) _⟩
theorem NW.eq {g : GV} {w wr : World} {mb : Nat} {M : List Bool} (h : NW g w mb M wr) (hc : ∀ p ∈ g.ps, allN M p.right = true -> M.getD p.left.toNat false = true) : M = nullU g.ps g.ns.length := by
 have hl : M.length = (nullU g.ps g.ns.length).length := by rw [h.len, nullU_len]
 have hle : ∀ i, (nullU g.ps g.ns.length).getD i false = true -> M.getD i false = true := fun i hi =>
  htU_least g.ps g.ns.length (fun i => M.getD i false = true) (fun p hp hr => hc p hp (List.all_eq_true.2 fun s hs => by
   unfold null1
   rw [Bool.and_eq_true, decide_eq_true_eq]
   exact hr s hs)) g.ns.length i ((nullU_iff i).1 hi)
 apply List.ext_getElem hl
 intro i h1 h2
 have a := h.le i
 have b := hle i
 simp only [List.getD, List.getElem?_eq_getElem h1, List.getElem?_eq_getElem h2, Option.getD_some] at a b
 cases e1 : M[i] <;> cases e2 : (nullU g.ps g.ns.length)[i] <;> simp_all
theorem rnull_S (g : GV) (w : World) (hfg : FG w g) :
  Calls Tryz.prog 14 #[g.val] w fun e w' => ∃ b, e = .returned (.slice (some ⟨b, 0, none⟩) g.ns.length g.ns.length) /\ BB w' b (nullU g.ps g.ns.length) /\ w.heap.size <= b /\ Below w.heap.size w w' := by
 have X0 : Hid ((w.alloc (gBox g)).heap[w.heap.size]? = some (gBox g)) := heap_alloc_new _ _
 have HFG : Hid (∀ w', Below w.heap.size w w' -> FG w' g) := fun w' hb => hfg.later hb
 have HGP : Hid (GP g) := hfg.gp
 have hmk := make_boolF g.ns.length (by have := hfg.nl; omega)
 have hpl := hfg.pl
 have hnl := hfg.nl.2
 obtain ⟨x0, x1, x2, x3, x4⟩ := gb_cells X0.out
 have hz : (w.alloc (gBox g)).heap.size = w.heap.size + 1 := by simp
 have M0 : Hid (NW g w (w.heap.size + 1) (List.replicate g.ns.length false) ((w.alloc (gBox g)).alloc (.cells (madeCells #[.bool false] g.ns.length) 4))) := by
  have bA := below_alloc (w.alloc (gBox g)) (.cells (madeCells #[.bool false] g.ns.length) 4)
  refine ⟨by simp, fun i hi => ?_, ?_, (bA.block _ (by simp)).trans X0.out, (below_alloc w _).trans (bA.mono (by simp))⟩
  ·have : (List.replicate g.ns.length false).getD i false = false := by simp [List.getD, List.getElem?_replicate]; split <;> rfl
   rw [this] at hi; cases hi
  ·have := BB.made (w.alloc (gBox g)) g.ns.length
   rwa [hz] at this
 clear hfg hz
 go_enter Tryz.func14, Tryz.ntmps14
 go_wp2
 go_loopw [4] (fun z wr => ∃ (bo : Bool) (M : List Bool), z = .bool bo /\ NW g w (w.heap.size + 1) M wr /\ (bo = false -> ∀ p ∈ g.ps, allN M p.right = true -> M.getD p.left.toNat false = true)) (fun z wr => mesB (w.heap.size + 1) wr + tOf z)
 case atStart => exact ⟨true, _, rfl, M0.out, fun h => by cases h⟩
 case round =>
  clear x0 x1 x2 x3 x4
  obtain ⟨bo, M, rfl, hW, hcl⟩ := hrel
  have HW : Hid (NW g w (w.heap.size + 1) M wr) := hW
  have HM : Hid (mesB (w.heap.size + 1) wr = falseU M) := mesB_of hW.bb
  cases bo
  ·have R : Hid (M = nullU g.ps g.ns.length) := hW.eq (hcl rfl)
   clear hW hcl
   go_wp2
   go_ret
   exact ⟨w.heap.size + 1, rfl, by rw [<- R.out]; exact HW.out.bb, by omega, HW.out.bel⟩
  ·clear hcl hW
   obtain ⟨wz, rfl⟩ : ∃ wz : World, wz = wr := ⟨_, rfl⟩
   go_wp2
   go_loopw [4, 5] (fun z i wr2 => ∃ (k : Nat) (b2 : Bool) (M2 : List Bool), k <= g.ps.length /\ z = .bool b2 /\ i = .int .i64 k /\ NW g w (w.heap.size + 1) M2 wr2 /\ falseU M2 + (if b2 then 1 else 0) <= falseU M /\ (b2 = false -> M2 = M /\ ∀ j, j < k -> allN M (g.ps.getD j .none).right = true -> M.getD (g.ps.getD j .none).left.toNat false = true)) (fun _ i _ => g.ps.length - (intOf i).toNat)
   case atStart => exact ⟨0, false, M, Nat.zero_le _, rfl, rfl, HW.out, by simp, fun _ => ⟨rfl, fun j hj => absurd hj (Nat.not_lt_zero j)⟩⟩
   case round =>
    obtain ⟨k, b2, M2, hk, rfl, rfl, hW2, hle, hcl⟩ := hrel
    have HW2 : Hid (NW g w (w.heap.size + 1) M2 wr) := hW2
    obtain ⟨x0, x1, x2, x3, x4⟩ := gb_cells hW2.box
    by_cases hlt : k < g.ps.length
    ·obtain ⟨b, o, hpa, hbl, hc⟩ := (HFG.out _ hW2.bel).p.cells (by intro e; rw [e] at hlt; simp at hlt)
     obtain ⟨c0, c1, c2⟩ := hc k hlt
     have klt : (k : Int) < (g.ps.length : Int) := by omega
     have hmem : g.ps.getD k .none ∈ g.ps := by simp [List.getD, hlt]
     obtain ⟨l0, l1⟩ := (HFG.out _ hW2.bel).left _ hmem
     have hrow := (HFG.out _ hW2.bel).p.rows _ hmem
     have hrl := (HFG.out _ hW2.bel).rl _ hmem
     have hsy := (HFG.out _ hW2.bel).sym _ hmem
     have HCL : Hid (b2 = false -> M2 = M /\ ∀ j, j < k -> allN M (g.ps.getD j .none).right = true -> M.getD (g.ps.getD j .none).left.toNat false = true) := hcl
     have HS : Hid ((M2 = M -> allN M (g.ps.getD k .none).right = true -> M.getD (g.ps.getD k .none).left.toNat false = true) -> b2 = false -> M2 = M /\ ∀ j, j < k + 1 -> allN M (g.ps.getD j .none).right = true -> M.getD (g.ps.getD j .none).left.toNat false = true) := fun h hb => by
      obtain ⟨e, q⟩ := HCL.out hb
      refine ⟨e, fun j hj => ?_⟩
      by_cases r : j = k
      ·subst r; exact h e
      ·exact q j (by omega)
     have SET : Hid (allN M2 (g.ps.getD k .none).right = true -> ∀ w', Below wr.heap.size wr w' -> NW g w (w.heap.size + 1) (M2.set (g.ps.getD k .none).left.toNat true) (w'.setCell ⟨w.heap.size + 1, (g.ps.getD k .none).left.toNat, none⟩ (.bool true))) := fun h w' hb => (HW2.out.any hb).set HGP.out hmem h (by omega)
     generalize g.ps.getD k .none = p at *
     obtain ⟨pl, pra, prc, pr, pp⟩ := p
     simp only at c0 c1 c2 l0 l1 hrow hrl hsy
     obtain ⟨m, rfl⟩ : ∃ m : Nat, pl = (m : Int) := ⟨pl.toNat, by omega⟩
     have hm : m < M2.length := by rw [hW2.len]; omega
     have mlt : (m : Int) < (g.ns.length : Int) := by omega
     have HWA : Hid (NW g w (w.heap.size + 1) M2 (wr.alloc (.cells #[.int .i64 (m : Int), .slice pra pr.length prc, .int .i64 pp] 64))) := hW2.any (below_alloc _ _)
     have cm := HWA.out.bb.cell hm
     have HM3 : Hid (m < M2.length) := hm
     have WC : Hid (Calls Tryz.prog 41 #[.slice (some ⟨w.heap.size + 1, 0, none⟩) g.ns.length g.ns.length, .slice pra pr.length prc] (wr.alloc (.cells #[.int .i64 (m : Int), .slice pra pr.length prc, .int .i64 pp] 64)) fun e w' => e = .returned (.bool (allN M2 pr)) /\ Below (wr.alloc (.cells #[.int .i64 (m : Int), .slice pra pr.length prc, .int .i64 pp] 64)).heap.size (wr.alloc (.cells #[.int .i64 (m : Int), .slice pra pr.length prc, .int .i64 pp] 64)) w') := by
      have := rall_S (some ⟨w.heap.size + 1, 0, none⟩) g.ns.length M2 pra prc pr _ HWA.out.bb.row (hrow.later (Nat.le_refl _) (below_alloc wr (.cells #[.int .i64 (m : Int), .slice pra pr.length prc, .int .i64 pp] 64))) (by omega) (by rw [hW2.len]; omega) (fun s hs e => by
       rcases hsy s hs with q | q
       ·omega
       ·rw [hW2.len]; exact q.2)
      rwa [hW2.len] at this
     have FS : Hid (M2.getD m false = false -> falseU (M2.set m true) + 1 = falseU M2) := fun h => falseU_set M2 m hm h
     have HS' : Hid ((M2 = M -> allN M pr = true -> M.getD m false = true) -> b2 = false -> M2 = M /\ ∀ j, j < k + 1 -> allN M (g.ps.getD j .none).right = true -> M.getD (g.ps.getD j .none).left.toNat false = true) := fun h => HS.out (by simpa using h)
     have SET' : Hid (allN M2 pr = true -> ∀ w', Below wr.heap.size wr w' -> NW g w (w.heap.size + 1) (M2.set m true) (w'.setCell ⟨w.heap.size + 1, m, none⟩ (.bool true))) := fun h w' hb => by have := SET.out h w' hb; simpa using this
     have HLE : Hid (falseU M2 + (if b2 then 1 else 0) <= falseU M) := hle
     rw [hpa] at x3
     clear hc hmem hrow hsy hW2 hcl hle HS SET hpa hm
     obtain ⟨mv, hmv⟩ : ∃ mv, M2.getD m false = mv := ⟨_, rfl⟩
     rw [hmv] at cm FS
     have HMV : Hid (M2.getD m false = mv) := hmv
     clear hmv
     cases mv
     ·obtain ⟨wv, hwv⟩ : ∃ wv, allN M2 pr = wv := ⟨_, rfl⟩
      rw [hwv] at WC SET'
      have HWV : Hid (allN M2 pr = wv) := hwv
      clear hwv
      cases wv
      ·have R : Hid (b2 = false -> M2 = M /\ ∀ j, j < k + 1 -> allN M (g.ps.getD j .none).right = true -> M.getD (g.ps.getD j .none).left.toNat false = true) := HS'.out (fun e h => by rw [<- e, HWV.out] at h; cases h)
       clear SET' FS HS'
       go_wp2_with (go_at_call 41; refine WC.out.mono ?_; rintro e w3 ⟨rfl, b3⟩; have W3 : Hid (NW g w (w.heap.size + 1) M2 w3) := HWA.out.any b3; clear b3)
       go_roundw
       case rel => exact ⟨k + 1, b2, M2, by omega, rfl, by go_num, W3.out, HLE.out, R.out⟩
       case measure => simp [intOf]; omega
      ·have FT : Hid (falseU (M2.set m true) + 1 = falseU M2) := FS.out rfl
       have R : Hid (falseU (M2.set m true) + (if true then 1 else 0) <= falseU M) := by
        have := HLE.out
        have := FT.out
        show _ + 1 <= _
        omega
       clear FS HS' FT
       go_wp2_with (go_at_call 41; refine WC.out.mono ?_; rintro e w3 ⟨rfl, b3⟩; have W3 : Hid (NW g w (w.heap.size + 1) (M2.set m true) (w3.setCell ⟨w.heap.size + 1, m, none⟩ (.bool true))) := SET'.out rfl _ ((below_alloc wr _).trans (b3.mono (below_alloc wr _).size)); have c3 := (HWA.out.any b3).bb.cell HM3.out; have f3 := (HWA.out.any b3).bb.free m; have z3 : w3.cell? ⟨wr.heap.size, 0, none⟩ = some (.int .i64 (m : Int)) := (b3.cell (p := ⟨wr.heap.size, 0, none⟩) (by simp)).trans (by simp); clear b3)
       go_roundw
       case rel => exact ⟨k + 1, true, M2.set m true, by omega, rfl, by go_num, W3.out, R.out, fun h => by cases h⟩
       case measure => simp [intOf]; omega
     ·have R : Hid (b2 = false -> M2 = M /\ ∀ j, j < k + 1 -> allN M (g.ps.getD j .none).right = true -> M.getD (g.ps.getD j .none).left.toNat false = true) := HS'.out (fun e _ => by rw [<- e]; exact HMV.out)
      clear SET' FS HS'
      go_wp2
      go_roundw
      case rel => exact ⟨k + 1, b2, M2, by omega, rfl, by go_num, HWA.out, HLE.out, R.out⟩
      case measure => simp [intOf]; omega
    ·have klt : ¬ (k : Int) < (g.ps.length : Int) := by omega
     have R : Hid (NW g w (w.heap.size + 1) M2 wr /\ (b2 = false -> ∀ p ∈ g.ps, allN M2 p.right = true -> M2.getD p.left.toNat false = true)) := ⟨hW2, fun hb p hp h => by
      obtain ⟨e, q⟩ := hcl hb
      obtain ⟨i, hi, rfl⟩ := List.getElem_of_mem hp
      have e2 : g.ps.getD i .none = g.ps[i] := by simp [List.getD, hi]
      rw [e] at h ⊢
      have := q i (by omega)
      rw [e2] at this
      exact this h⟩
     have ME : Hid (mesB (w.heap.size + 1) wr + (if b2 then 1 else 0) <= mesB (w.heap.size + 1) wz) := by
      show _ <= _
      rw [mesB_of hW2.bb, HM.out]
      exact hle
     clear hW2 hcl hle
     go_wp2
     go_roundw
     case rel => exact ⟨b2, M2, rfl, R.out.1, R.out.2⟩
     case measure =>
      have := ME.out
      cases b2 <;> simp [tOf] at this ⊢ <;> omega
def RF (w : World) (fb : Nat) (G : List BS) : Prop := ∃ C : List Value, C.length = G.length /\ w.heap[fb]? = some (.cells C.toArray 47 (0, 0)) /\ ∀ i, i < G.length -> ∃ v, C[i]? = some v /\ JL w v (G.getD i (0, 0))
theorem RF.lt {w : World} {fb : Nat} {G : List BS} (h : RF w fb G) : fb < w.heap.size := by
 obtain ⟨C, _, h1, _⟩ := h
 exact lt_of_block h1
theorem RF.made (w : World) (n : Nat) : RF (w.alloc (.cells (madeCells #[.slice none 0 0] n) 47)) w.heap.size (List.replicate n (0, 0)) :=
 ⟨List.replicate n (.slice none 0 0), by simp, by rw [heap_alloc_new, made_listF], fun i hi => ⟨.slice none 0 0, by simp at hi; simp [hi], by rw [rep_zero]; exact JL.nil _⟩⟩
theorem RF.later {w w' : World} {fb : Nat} {G : List BS} (h : RF w fb G) (hb : Below w.heap.size w w') : RF w' fb G := by
 obtain ⟨C, h0, h1, h2⟩ := h
 refine ⟨C, h0, (hb.block _ (lt_of_block h1)).trans h1, fun i hi => ?_⟩
 obtain ⟨v, e, j⟩ := h2 i hi
 exact ⟨v, e, j.later hb⟩
theorem RF.cell {w : World} {fb : Nat} {G : List BS} (h : RF w fb G) {i : Nat} (hi : i < G.length) : ∃ a c, w.cell? ⟨fb, i, none⟩ = some (.slice a (listS (G.getD i (0, 0)) 128).length c) /\ JL w (.slice a (listS (G.getD i (0, 0)) 128).length c) (G.getD i (0, 0)) := by
 obtain ⟨C, h0, h1, h2⟩ := h
 obtain ⟨v, e, j⟩ := h2 i hi
 obtain ⟨a, c, rfl, q⟩ := j
 exact ⟨a, c, by rw [cellq_any h1]; simpa using e, a, c, rfl, q⟩
theorem RF.free {w : World} {fb : Nat} {G : List BS} (h : RF w fb G) (i : Nat) : w.frozen? ⟨fb, i, none⟩ = false := by
 obtain ⟨C, h0, h1, h2⟩ := h
 simp [World.frozen?, h1]
theorem RF.row_ne {w : World} {fb : Nat} {G : List BS} (h : RF w fb G) {a : Option Addr} {l : List Int} (hr : InRow w a l) (v : Value) (i : Nat) : InRow (w.setCell ⟨fb, i, none⟩ v) a l := by
 intro hne
 obtain ⟨b, off, e, hb, hc⟩ := hr hne
 have hbne : b ≠ fb := fun q => by
  subst q
  obtain ⟨C, h0, h1, h2⟩ := h
  have hp : 0 < l.length := by cases l with | nil => exact absurd rfl hne | cons _ _ => simp
  have c0 := hc 0 hp
  rw [cellq_any h1] at c0
  simp only [List.getElem?_toArray, Nat.add_zero] at c0
  have ho : off < C.length := (List.getElem?_eq_some_iff.1 c0).1
  obtain ⟨u, e1, a', c', rfl, _⟩ := h2 off (by omega)
  rw [e1] at c0
  cases c0
 refine ⟨b, off, e, by simpa using hb, fun j hj => ?_⟩
 rw [<- hc j hj]
 exact World.cell?_of_block (Below.heap_setCell _ _ _ _ hbne)
theorem RF.jl_ne {w : World} {fb : Nat} {G : List BS} (h : RF w fb G) {u : Value} {s : BS} (hj : JL w u s) (v : Value) (i : Nat) : JL (w.setCell ⟨fb, i, none⟩ v) u s := by
 obtain ⟨a, c, e, r, q⟩ := hj
 exact ⟨a, c, e, h.row_ne r v i, q⟩
theorem RF.set {w : World} {fb : Nat} {G : List BS} (h : RF w fb G) {i : Nat} (hi : i < G.length) {v : Value} {s : BS} (hj : JL w v s) : RF (w.setCell ⟨fb, i, none⟩ v) fb (G.set i s) := by
 have hne := fun {u : Value} {s : BS} (q : JL w u s) => h.jl_ne q v i
 obtain ⟨C, h0, h1, h2⟩ := h
 refine ⟨C.set i v, by simpa using h0, by rw [heap_set h1 i, List.setIfInBounds_toArray], fun j hj' => ?_⟩
 rw [List.length_set] at hj'
 by_cases e : i = j
 ·subst e
  exact ⟨v, by simp [h0, hi], by rw [getD_setS, if_pos ⟨rfl, hi⟩]; exact hne hj⟩
 ·obtain ⟨u, e1, q⟩ := h2 j hj'
  exact ⟨u, by rw [List.getElem?_set_ne e]; exact e1, by rw [getD_setS, if_neg (fun q => e q.1)]; exact hne q⟩
theorem RF.row {w : World} {fb : Nat} {G : List BS} (h : RF w fb G) : LsRow w (some ⟨fb, 0, none⟩) (listsU G) := by
 have hl := h.lt
 intro _
 refine ⟨fb, 0, rfl, hl, fun i hi => ?_⟩
 have hi' : i < G.length := by simpa [listsU] using hi
 have e : (listsU G).getD i [] = listS (G.getD i (0, 0)) 128 := by simp [listsU, List.getD, hi']
 rw [e, Nat.zero_add]
 obtain ⟨a, c, h1, a', c', h2, h3, _⟩ := h.cell hi'
 cases h2
 exact ⟨a, c, h1, h3⟩
theorem JL.inj {w : World} {v : Value} {s t : BS} (h : JL w v s) (h' : JL w v t) (hs : OkS s) (ht : OkS t) : s = t := by
 obtain ⟨a, c, rfl, r, _⟩ := h
 obtain ⟨a', c', e, r', _⟩ := h'
 simp only [Value.slice.injEq] at e
 obtain ⟨rfl, e2, _⟩ := e
 have : listS s 128 = listS t 128 := by
  apply List.ext_getElem e2
  intro i h1 h2
  obtain ⟨b, o, q1, _, q2⟩ := r (by intro q; rw [q] at h1; simp at h1)
  obtain ⟨b', o', p1, _, p2⟩ := r' (by intro q; rw [q] at h2; simp at h2)
  rw [q1] at p1
  simp only [Option.some.injEq, Addr.mk.injEq, and_true] at p1
  obtain ⟨rfl, rfl⟩ := p1
  have a1 := q2 i h1
  rw [p2 i h2] at a1
  simp only [List.getD, List.getElem?_eq_getElem h1, List.getElem?_eq_getElem h2, Option.getD_some, Option.some.injEq, Value.int.injEq, true_and] at a1
  exact a1.symm
 rw [<- set_list hs, <- set_list ht, this]
theorem RF.inj {w : World} {fb : Nat} {G H : List BS} (h : RF w fb G) (h' : RF w fb H) (hs : ∀ i, OkS (G.getD i (0, 0))) (ht : ∀ i, OkS (H.getD i (0, 0))) : G = H := by
 obtain ⟨C, h0, h1, h2⟩ := h
 obtain ⟨C', h0', h1', h2'⟩ := h'
 rw [h1] at h1'
 have : C = C' := by simpa using h1'
 subst this
 apply List.ext_getElem (by omega)
 intro i q1 q2
 obtain ⟨v, e, j⟩ := h2 i q1
 obtain ⟨v', e', j'⟩ := h2' i q2
 rw [e] at e'
 cases e'
 have := j.inj j' (hs i) (ht i)
 simpa [List.getD, q1, q2] using this
open Classical in
noncomputable def mesR (fb : Nat) (w : World) : Nat := if h : ∃ G, RF w fb G /\ ∀ i, OkS (G.getD i (0, 0)) then mesF h.choose else 0
theorem mesR_of {w : World} {fb : Nat} {G : List BS} (h : RF w fb G) (hs : ∀ i, OkS (G.getD i (0, 0))) : mesR fb w = mesF G := by
 have hex : ∃ G, RF w fb G /\ ∀ i, OkS (G.getD i (0, 0)) := ⟨G, h, hs⟩
 unfold mesR
 rw [dif_pos hex]
 rw [hex.choose_spec.1.inj h hex.choose_spec.2 hs]
theorem eqS_of {a b : BS} (ha : OkS a) (hb : OkS b) (h : LeS a b) (h' : LeS b a) : a = b := by
 have e1 := (within_iff ha hb).2 h
 have e2 := (within_iff hb ha).2 h'
 rw [with_comm, e1] at e2
 exact e2.symm
theorem eqF_of {F G : List BS} (hl : F.length = G.length) (hF : ∀ i, OkS (F.getD i (0, 0))) (hG : ∀ i, OkS (G.getD i (0, 0))) (h : ∀ i, LeS (F.getD i (0, 0)) (G.getD i (0, 0))) (h' : ∀ i, LeS (G.getD i (0, 0)) (F.getD i (0, 0))) : F = G := by
 apply List.ext_getElem hl
 intro i q1 q2
 have := eqS_of (hF i) (hG i) (h i) (h' i)
 simpa [List.getD, q1, q2] using this
structure RW1 (g : GV) (w : World) (nb fb : Nat) (F G : List BS) (wr : World) : Prop where
 len : G.length = g.ns.length
 ok : ∀ i, OkS (G.getD i (0, 0))
 le : ∀ i, LeS (G.getD i (0, 0)) (F.getD i (0, 0))
 rf : RF wr fb G
 nu : BB wr nb (nullU g.ps g.ns.length)
 box : wr.heap[w.heap.size]? = some (gBox g)
 bel : Below w.heap.size w wr
 ord : w.heap.size < fb /\ nb < fb
theorem RW1.any {g : GV} {w wr w' : World} {nb fb : Nat} {F G : List BS} (h : RW1 g w nb fb F G wr) (hb : Below wr.heap.size wr w') : RW1 g w nb fb F G w' :=
 ⟨h.len, h.ok, h.le, h.rf.later hb, h.nu.later hb, (hb.block _ (lt_of_block h.box)).trans h.box, h.bel.trans (hb.mono h.bel.size), h.ord⟩
theorem RW1.set {g : GV} {w wr : World} {nb fb : Nat} {F G : List BS} (h : RW1 g w nb fb F G wr) {i : Nat} (hi : i < G.length) {v : Value} {s : BS} (hj : JL wr v s) (hs : OkS s) (hl : LeS s (F.getD i (0, 0))) : RW1 g w nb fb F (G.set i s) (wr.setCell ⟨fb, i, none⟩ v) := by
 have ho := h.ord
 refine ⟨by simpa using h.len, fun j => ?_, fun j => ?_, h.rf.set hi hj, h.nu.kept (Below.heap_setCell _ _ _ _ (by show nb ≠ fb; omega)), (Below.heap_setCell _ _ _ _ (by show w.heap.size ≠ fb; omega)).trans h.box, h.bel.setCell (p := ⟨fb, i, none⟩) (by show w.heap.size <= fb; omega) _, ho⟩
 ·rw [getD_setS]
  split
  ·exact hs
  ·exact h.ok j
 ·rw [getD_setS]
  split
  ·rename_i q
   rw [<- q.1]
   exact hl
  ·exact h.le j
theorem run_join2 {o : Oper} {a : Act} {t0 t1 : TypeId} {v0 v1 : Value} {x0 x1 : Operand} (hop : o.op = Op.call { callee := Callee.value (Operand.func 44), args := #[x0, x1], argTypes := #[t0, t1] }) (h0 : a.eval x0 = v0) (h1 : a.eval x1 = v1) (w : World) : (execOp a.eval o).run Tryz.prog w = .ok (.enter 44 #[v0, v1]) w := by
 have hf : a.eval (Operand.func 44) = .func (.func 44) #[] #[] := rfl
 simp [execOp, hop, resolve, invoke, h0, h1, hf, Deferred.ofValue]
theorem listS_range (s : BS) : ∀ x ∈ listS s 128, 0 <= x /\ x < 128 := fun x hx => by have := (listS_mem s 128 x).1 hx; omega
theorem mesF_set {G : List BS} (hG : ∀ i, OkS (G.getD i (0, 0))) {i : Nat} (hi : i < G.length) {b : BS} (hb : OkS b) (hne : ¬ withS b (G.getD i (0, 0)) = G.getD i (0, 0)) : mesF (G.set i (withS (G.getD i (0, 0)) b)) + 1 <= mesF G := by
 have hle : LeF G (G.set i (withS (G.getD i (0, 0)) b)) := ⟨by simp, fun j => by
  rw [getD_setS]
  split
  ·rename_i h
   rw [<- h.1]
   exact ⟨Nat.left_le_or, Nat.left_le_or⟩
  ·exact ⟨Nat.le_refl _, Nat.le_refl _⟩⟩
 refine mesF_lt G _ hle (fun j => ?_) (fun e => hne ?_)
 ·rw [getD_setS]
  split
  ·exact (hG i).with hb
  ·exact hG j
 ·have : (G.set i (withS (G.getD i (0, 0)) b)).getD i (0, 0) = G.getD i (0, 0) := by rw [<- e]
  rw [getD_setS, if_pos ⟨rfl, hi⟩] at this
  rw [with_comm]
  exact this
set_option linter.unusedSimpArgs false in
theorem rfirst_S (g : GV) (w : World) (hfg : FG w g) (F : List BS) (hF : LeastF g F) :
  Calls Tryz.prog 16 #[g.val] w fun e w' => ∃ b, e = .returned (.slice (some ⟨b, 0, none⟩) g.ns.length g.ns.length) /\ RF w' b F /\ w.heap.size <= b /\ Below w.heap.size w w' := by
 have X0 : Hid ((w.alloc (gBox g)).heap[w.heap.size]? = some (gBox g)) := heap_alloc_new _ _
 have HFG : Hid (∀ w', Below w.heap.size w w' -> FG w' g) := fun w' hb => hfg.later hb
 have HGP : Hid (GP g) := hfg.gp
 have HLF : Hid (LeastF g F) := hF
 have HNU : Hid ((nullU g.ps g.ns.length).length = g.ns.length) := nullU_len _ _
 have hmk := make_intsF g.ns.length (by have := hfg.nl; omega)
 have hpl := hfg.pl
 have hnl := hfg.nl.2
 obtain ⟨x0, x1, x2, x3, x4⟩ := gb_cells X0.out
 have HFC : Hid (ClosF (nullU g.ps g.ns.length) g.ps F) := hF.closed hfg.gp
 have HFL : Hid (F.length = g.ns.length /\ ∀ i, OkS (F.getD i (0, 0))) := by obtain ⟨_, _, _, q1, q2⟩ := hF; exact ⟨q2, q1⟩
 clear hfg hF
 go_enter Tryz.func16, Tryz.ntmps16
 go_wp2_with (go_at_call 14; refine (rnull_S g _ (HFG.out _ (below_alloc w (gBox g)))).mono ?_; rintro e w2 ⟨nb, rfl, n2, l2, b2⟩; have B2 : Hid (BB w2 nb (nullU g.ps g.ns.length) /\ w2.heap[w.heap.size]? = some (gBox g) /\ Below w.heap.size w w2) := ⟨n2, (b2.block _ (lt_of_block X0.out)).trans X0.out, (below_alloc w _).trans (b2.mono (below_alloc w _).size)⟩; clear n2 l2 b2 x0 x1 x2 x3 x4; obtain ⟨x0, x1, x2, x3, x4⟩ := gb_cells B2.out.2.1)
 have M0 : Hid (RW1 g w nb w2.heap.size F (List.replicate g.ns.length (0, 0)) (w2.alloc (.cells (madeCells #[.slice none 0 0] g.ns.length) 47))) := by
  have bA := below_alloc w2 (.cells (madeCells #[.slice none 0 0] g.ns.length) 47)
  obtain ⟨q1, q2, q3⟩ := B2.out
  refine ⟨by simp, fun i => ?_, fun i n _ h => ?_, RF.made _ _, q1.later bA, (bA.block _ (lt_of_block q2)).trans q2, q3.trans (bA.mono q3.size), lt_of_block q2, q1.lt⟩
  ·rw [rep_zero]; exact OkS.zero
  ·rw [rep_zero, hasS_zero] at h
   cases h
 clear x0 x1 x2 x3 x4
 generalize Value.agg #[Value.slice g.ta g.ts.length g.tc, Value.slice g.na g.ns.length g.nc, Value.int .i64 g.start, Value.slice g.pa g.ps.length g.pc, Value.slice g.la g.ls.length g.lc] = v9
 generalize w2.heap.size = fb at *
 generalize w2.alloc (.cells (madeCells #[.slice none 0 0] g.ns.length) 47) = wB at *
 clear B2 X0
 go_loopw [5] (fun z wr => ∃ (bo : Bool) (G : List BS), z = .bool bo /\ RW1 g w nb fb F G wr /\ (bo = false -> ClosF (nullU g.ps g.ns.length) g.ps G)) (fun z wr => mesR fb wr + tOf z)
 case atStart => exact ⟨true, _, rfl, M0.out, fun h => by cases h⟩
 case round =>
  clear M0
  obtain ⟨bo, G, rfl, hW, hcl⟩ := hrel
  have HW : Hid (RW1 g w nb fb F G wr) := hW
  have HM : Hid (mesR fb wr = mesF G) := mesR_of hW.rf hW.ok
  cases bo
  ·have R : Hid (G = F) := eqF_of (by rw [hW.len, HFL.out.1]) hW.ok HFL.out.2 hW.le (HLF.out.within (fun _ q => q) (hcl rfl))
   clear hW hcl
   go_wp2
   go_ret
   exact ⟨fb, rfl, by rw [<- R.out]; exact HW.out.rf, Nat.le_of_lt HW.out.ord.1, HW.out.bel⟩
  ·clear hcl hW
   obtain ⟨wz, rfl⟩ : ∃ wz : World, wz = wr := ⟨_, rfl⟩
   go_wp2
   go_loopw [5, 6] (fun z i wr => ∃ (k : Nat) (b2 : Bool) (G2 : List BS), k <= g.ps.length /\ z = .bool b2 /\ i = .int .i64 k /\ RW1 g w nb fb F G2 wr /\ mesF G2 + (if b2 then 1 else 0) <= mesF G /\ (b2 = false -> G2 = G /\ ∀ j, j < k -> LeS (ofS (nullU g.ps g.ns.length) G (g.ps.getD j .none).right (0, 0)) (G.getD (g.ps.getD j .none).left.toNat (0, 0)))) (fun _ i _ => g.ps.length - (intOf i).toNat)
   case atStart => exact ⟨0, false, G, Nat.zero_le _, rfl, rfl, HW.out, by simp, fun _ => ⟨rfl, fun j hj => absurd hj (Nat.not_lt_zero j)⟩⟩
   case round =>
    obtain ⟨k, b2, G2, hk, rfl, rfl, hW2, hle, hcl⟩ := hrel
    have HW2 : Hid (RW1 g w nb fb F G2 wr) := hW2
    obtain ⟨x0, x1, x2, x3, x4⟩ := gb_cells hW2.box
    by_cases hlt : k < g.ps.length
    ·obtain ⟨b, o, hpa, hbl, hc⟩ := (HFG.out _ hW2.bel).p.cells (by intro e; rw [e] at hlt; simp at hlt)
     obtain ⟨c0, c1, c2⟩ := hc k hlt
     have klt : (k : Int) < (g.ps.length : Int) := by omega
     have hmem : g.ps.getD k .none ∈ g.ps := by simp [List.getD, hlt]
     obtain ⟨l0, l1⟩ := (HFG.out _ hW2.bel).left _ hmem
     have hrow := (HFG.out _ hW2.bel).p.rows _ hmem
     have hrl := (HFG.out _ hW2.bel).rl _ hmem
     have hsy := (HFG.out _ hW2.bel).gp.symIn (N := nullU g.ps g.ns.length) HNU.out _ hmem
     have HCL : Hid (b2 = false -> G2 = G /\ ∀ j, j < k -> LeS (ofS (nullU g.ps g.ns.length) G (g.ps.getD j .none).right (0, 0)) (G.getD (g.ps.getD j .none).left.toNat (0, 0))) := hcl
     have HS : Hid ((G2 = G -> LeS (ofS (nullU g.ps g.ns.length) G (g.ps.getD k .none).right (0, 0)) (G.getD (g.ps.getD k .none).left.toNat (0, 0))) -> b2 = false -> G2 = G /\ ∀ j, j < k + 1 -> LeS (ofS (nullU g.ps g.ns.length) G (g.ps.getD j .none).right (0, 0)) (G.getD (g.ps.getD j .none).left.toNat (0, 0))) := fun h hb => by
      obtain ⟨e, q⟩ := HCL.out hb
      refine ⟨e, fun j hj => ?_⟩
      by_cases r : j = k
      ·subst r; exact h e
      ·exact q j (by omega)
     have HFK : Hid (LeS (ofS (nullU g.ps g.ns.length) F (g.ps.getD k .none).right (0, 0)) (F.getD (g.ps.getD k .none).left.toNat (0, 0))) := HFC.out _ hmem
     generalize g.ps.getD k .none = p at *
     obtain ⟨pl, pra, prc, pr, pp⟩ := p
     simp only at c0 c1 c2 l0 l1 hrow hrl hsy
     obtain ⟨m, rfl⟩ : ∃ m : Nat, pl = (m : Int) := ⟨pl.toNat, by omega⟩
     have hm : m < G2.length := by rw [hW2.len]; omega
     have mlt : (m : Int) < (g.ns.length : Int) := by omega
     have HWA : Hid (RW1 g w nb fb F G2 (wr.alloc (.cells #[.int .i64 (m : Int), .slice pra pr.length prc, .int .i64 pp] 64))) := hW2.any (below_alloc _ _)
     have HM3 : Hid (m < G2.length) := hm
     have HOB : Hid (OkS (ofS (nullU g.ps g.ns.length) G2 pr (0, 0))) := ofS_ok hW2.ok pr _ hsy OkS.zero
     have BG : Hid (Calls Tryz.prog 42 #[.slice (some ⟨nb, 0, none⟩) g.ns.length g.ns.length, .slice (some ⟨fb, 0, none⟩) g.ns.length g.ns.length, .slice pra pr.length prc] (wr.alloc (.cells #[.int .i64 (m : Int), .slice pra pr.length prc, .int .i64 pp] 64)) fun e w' => ∃ v, e = .returned v /\ JL w' v (ofS (nullU g.ps g.ns.length) G2 pr (0, 0)) /\ Below (wr.alloc (.cells #[.int .i64 (m : Int), .slice pra pr.length prc, .int .i64 pp] 64)).heap.size (wr.alloc (.cells #[.int .i64 (m : Int), .slice pra pr.length prc, .int .i64 pp] 64)) w') := by
      have e1 : (listsU G2).length = g.ns.length := by simp [listsU, hW2.len]
      have := rbegins_S (some ⟨nb, 0, none⟩) g.ns.length (nullU g.ps g.ns.length) (some ⟨fb, 0, none⟩) g.ns.length (listsU G2) pra prc pr _ HWA.out.nu.row HWA.out.rf.row (hrow.later (Nat.le_refl _) (below_alloc wr (.cells #[.int .i64 (m : Int), .slice pra pr.length prc, .int .i64 pp] 64))) (by omega) (by rw [HNU.out]; omega) (by rw [HNU.out, e1]) hsy (fun z hz => by
       obtain ⟨s, _, rfl⟩ := List.mem_map.1 hz
       exact ⟨listS_range s, Nat.le_trans (listS_len s 128) (by omega)⟩)
      rwa [HNU.out, e1, sets_lists hW2.ok] at this
     have LEB : Hid (LeS (ofS (nullU g.ps g.ns.length) G2 pr (0, 0)) (F.getD m (0, 0))) := (of_mono (fun _ q => q) hW2.le (LeS.refl _) pr).trans (by simpa using HFK.out)
     have HOK : Hid (OkS (G2.getD m (0, 0)) /\ LeS (G2.getD m (0, 0)) (F.getD m (0, 0)) /\ ∀ i, OkS (G2.getD i (0, 0))) := ⟨hW2.ok m, hW2.le m, hW2.ok⟩
     have HS' : Hid ((G2 = G -> LeS (ofS (nullU g.ps g.ns.length) G2 pr (0, 0)) (G2.getD m (0, 0))) -> b2 = false -> G2 = G /\ ∀ j, j < k + 1 -> LeS (ofS (nullU g.ps g.ns.length) G (g.ps.getD j .none).right (0, 0)) (G.getD (g.ps.getD j .none).left.toNat (0, 0))) := fun h => HS.out (fun e => by have := h e; rw [e] at this; simpa using this)
     have HLE : Hid (mesF G2 + (if b2 then 1 else 0) <= mesF G) := hle
     rw [hpa] at x3
     clear hc hmem hrow hsy hW2 hcl hle HS hpa hm HFK
     obtain ⟨Bs, hBs⟩ : ∃ Bs, ofS (nullU g.ps g.ns.length) G2 pr (0, 0) = Bs := ⟨_, rfl⟩
     rw [hBs] at BG LEB HOB HS'
     clear hBs
     obtain ⟨Gm, hGm⟩ : ∃ Gm, G2.getD m (0, 0) = Gm := ⟨_, rfl⟩
     rw [hGm] at HOK HS'
     have HGM : Hid (G2.getD m (0, 0) = Gm) := hGm
     clear hGm
     have HRC : Hid (∀ w', RW1 g w nb fb F G2 w' -> ∃ a1 c1, w'.cell? ⟨fb, m, none⟩ = some (.slice a1 (listS Gm 128).length c1) /\ JL w' (.slice a1 (listS Gm 128).length c1) Gm) := fun w' h => by
      have := h.rf.cell HM3.out
      rwa [HGM.out] at this
     obtain ⟨dv, hdv⟩ : ∃ dv, decide (withS Bs Gm = Gm) = dv := ⟨_, rfl⟩
     have WI : Hid (∀ (w' : World) va vc a1 c1, JL w' (.slice va (listS Bs 128).length vc) Bs -> JL w' (.slice a1 (listS Gm 128).length c1) Gm -> Calls Tryz.prog 43 #[.slice va (listS Bs 128).length vc, .slice a1 (listS Gm 128).length c1] w' fun en w'' => en = .returned (.bool dv) /\ Below w'.heap.size w' w'') := fun w' va vc a1 c1 j1 j2 => by
      obtain ⟨_, _, e1, r1, _⟩ := j1
      obtain ⟨_, _, e2, r2, _⟩ := j2
      cases e1
      cases e2
      have := rwithin_S va a1 vc c1 (listS Bs 128) (listS Gm 128) w' r1 r2 (Nat.le_trans (listS_len _ _) (by omega)) (Nat.le_trans (listS_len _ _) (by omega))
      rw [part_within HOB.out (listS_range Gm), set_list HOK.out.1, hdv] at this
      exact this
     have HDV : Hid (decide (withS Bs Gm = Gm) = dv) := hdv
     clear hdv
     cases dv
     all_goals
      go_wp2_with (first
       | (go_at_call 42; refine BG.out.mono ?_; rintro e w3 ⟨v, rfl, jv, b3⟩; have W3 : Hid (RW1 g w nb fb F G2 w3) := HWA.out.any b3; obtain ⟨va, vc, hv, _⟩ := id jv; subst hv; have J3 : Hid (JL w3 (.slice va (listS Bs 128).length vc) Bs) := jv; have z3 : w3.cell? ⟨wr.heap.size, 0, none⟩ = some (.int .i64 (m : Int)) := (b3.cell (p := ⟨wr.heap.size, 0, none⟩) (by simp)).trans (by simp); have P3 : Hid (w3.heap[wr.heap.size]? = some (.cells #[.int .i64 (m : Int), .slice pra pr.length prc, .int .i64 pp] 64 (0, 0))) := (b3.block _ (by simp)).trans (heap_alloc_new _ _); obtain ⟨a1, c1', cr, jr⟩ := HRC.out _ W3.out; have JR : Hid (JL w3 (.slice a1 (listS Gm 128).length c1') Gm) := jr; clear b3 jv jr)
       | (go_at_call 43; refine (WI.out w3 va vc a1 c1' J3.out JR.out).mono ?_; rintro e w4 ⟨rfl, b4⟩; have W4 : Hid (RW1 g w nb fb F G2 w4 /\ JL w4 (.slice va (listS Bs 128).length vc) Bs /\ JL w4 (.slice a1 (listS Gm 128).length c1') Gm /\ w4.heap[wr.heap.size]? = some (.cells #[.int .i64 (m : Int), .slice pra pr.length prc, .int .i64 pp] 64 (0, 0)) /\ w4.cell? ⟨fb, m, none⟩ = some (.slice a1 (listS Gm 128).length c1')) := ⟨W3.out.any b4, J3.out.later b4, JR.out.later b4, (b4.block _ (lt_of_block P3.out)).trans P3.out, (b4.cell (p := ⟨fb, m, none⟩) W3.out.rf.lt).trans cr⟩; clear b4))
     ·have KS : Hid (∀ w', w'.heap[wr.heap.size]? = some (.cells #[.int .i64 (m : Int), .slice pra pr.length prc, .int .i64 pp] 64 (0, 0)) -> w'.cell? ⟨fb, m, none⟩ = some (.slice a1 (listS Gm 128).length c1') -> (fun w' : World => w'.cell? ⟨wr.heap.size, 0, none⟩ = some (.int .i64 (m : Int))) w' /\ (fun w' : World => w'.cell? ⟨fb, m, none⟩ = some (.slice a1 (listS Gm 128).length c1')) w') := fun w' h1 h2 => ⟨(cellq_any h1).trans rfl, h2⟩
      have BD : Hid (Below w4.heap.size w4 w4.drew) := (Below.refl _ _).drew
      have hs : Hid ((fun w' : World => w'.cell? ⟨wr.heap.size, 0, none⟩ = some (.int .i64 (m : Int))) w4.drew /\ (fun w' : World => w'.cell? ⟨fb, m, none⟩ = some (.slice a1 (listS Gm 128).length c1')) w4.drew) := KS.out _ W4.out.2.2.2.1 W4.out.2.2.2.2
      have HNE : Hid (mesF (G2.set m (withS Gm Bs)) + 1 <= mesF G2) := by
       have := mesF_set (G := G2) HOK.out.2.2 HM3.out HOB.out (by rw [HGM.out]; exact of_decide_eq_false HDV.out)
       rwa [HGM.out] at this
      have WD : Hid (RW1 g w nb fb F G2 w4.drew /\ JL w4.drew (.slice va (listS Bs 128).length vc) Bs /\ JL w4.drew (.slice a1 (listS Gm 128).length c1') Gm) := ⟨W4.out.1.any BD.out, W4.out.2.1.later BD.out, W4.out.2.2.1.later BD.out⟩
      have JN : Hid (Calls Tryz.prog 44 #[.slice a1 (listS Gm 128).length c1', .slice va (listS Bs 128).length vc] w4.drew fun e w' => ∃ v, e = .returned v /\ JL w' v (withS Gm Bs) /\ Below w4.drew.heap.size w4.drew w') := by
       obtain ⟨_, _, e1, r1, _⟩ := WD.out.2.1
       cases e1
       have := rjoin_S (.slice a1 (listS Gm 128).length c1') Gm va vc (listS Bs 128) w4.drew WD.out.2.2 HOK.out.1 r1 (listS_range Bs) (Nat.le_trans (listS_len _ _) (by omega))
       rwa [set_list HOB.out] at this
      clear z3 cr
      refine wp_region_x (S := SX 11 (fun w' : World => w'.cell? ⟨wr.heap.size, 0, none⟩ = some (.int .i64 (m : Int))) (fun w' : World => w'.cell? ⟨fb, m, none⟩ = some (.slice a1 (listS Gm 128).length c1'))) (by kernel_rfl) ?_
      refine wtT (m := 11) (i := 0) (v := ?_) rfl (Or.inl ⟨by rfl, ?_⟩) (SX.both hs.out.1 hs.out.2) ?_
      rotate_left
      ·(intro w hSw; (try dsimp only at hSw); go_simp; try (with_reducible rfl))
      (try simp only [Act.put, lsA, lsZ, lsN])
      refine wtT (m := 11) (i := 1) (v := ?_) rfl (Or.inl ⟨by rfl, ?_⟩) (SX.both hs.out.1 hs.out.2) ?_
      rotate_left
      ·(intro w hSw; (try dsimp only at hSw); go_simp; try (with_reducible rfl))
      (try simp only [Act.put, lsA, lsZ, lsN])
      refine wtT (m := 11) (i := 2) (v := ?_) rfl (Or.inl ⟨by rfl, ?_⟩) (SX.both hs.out.1 hs.out.2) ?_
      rotate_left
      ·(intro w hSw; (try dsimp only at hSw); go_simp; try (with_reducible rfl))
      (try simp only [Act.put, lsA, lsZ, lsN])
      refine wtT (m := 11) (i := 3) (v := ?_) rfl (Or.inl ⟨by rfl, ?_⟩) (SX.both hs.out.1 hs.out.2) ?_
      rotate_left
      ·(intro w hSw; (try dsimp only at hSw); go_simp; try (with_reducible rfl))
      (try simp only [Act.put, lsA, lsZ, lsN])
      refine wtT (m := 11) (i := 4) (v := ?_) rfl (Or.inl ⟨by rfl, ?_⟩) (SX.both hs.out.1 hs.out.2) ?_
      rotate_left
      ·(intro w hSw; (try dsimp only at hSw); go_simp; try (with_reducible rfl))
      (try simp only [Act.put, lsA, lsZ, lsN])
      refine wtT (m := 11) (i := 5) (v := ?_) rfl (Or.inl ⟨by rfl, ?_⟩) (SX.both hs.out.1 hs.out.2) ?_
      rotate_left
      ·(intro w hSw; (try dsimp only at hSw); go_simp; try (with_reducible rfl))
      (try simp only [Act.put, lsA, lsZ, lsN])
      refine wtT (m := 11) (i := 6) (v := ?_) rfl (Or.inl ⟨by rfl, ?_⟩) (SX.both hs.out.1 hs.out.2) ?_
      rotate_left
      ·(intro w hSw; (try dsimp only at hSw); go_simp; try (with_reducible rfl))
      (try simp only [Act.put, lsA, lsZ, lsN])
      refine wtT (m := 11) (i := 7) (v := ?_) rfl (Or.inl ⟨by rfl, ?_⟩) (SX.both hs.out.1 hs.out.2) ?_
      rotate_left
      ·(intro w hSw; (try dsimp only at hSw); go_simp; try (with_reducible rfl))
      (try simp only [Act.put, lsA, lsZ, lsN])
      refine wtT (m := 11) (i := 8) (v := ?_) rfl (Or.inl ⟨by rfl, ?_⟩) (SX.both hs.out.1 hs.out.2) ?_
      rotate_left
      ·(intro w hSw; (try dsimp only at hSw); go_simp; try (with_reducible rfl))
      (try simp only [Act.put, lsA, lsZ, lsN])
      refine wpAnyX_one (j := 9) (by decide +kernel) rfl (fun K' hK => ?_)
      refine step_callX rfl 44 #[.slice a1 (listS Gm 128).length c1', .slice va (listS Bs 128).length vc] _ (run_join2 (v0 := .slice a1 (listS Gm 128).length c1') (v1 := .slice va (listS Bs 128).length vc) (by rfl) (by rfl) (by rfl) _) JN.out ?_
      rintro e w5 ⟨jv, rfl, j5, b5⟩
      have W5 : Hid (RW1 g w nb fb F G2 w5 /\ JL w5 jv (withS Gm Bs) /\ w5.heap[wr.heap.size]? = some (.cells #[.int .i64 (m : Int), .slice pra pr.length prc, .int .i64 pp] 64 (0, 0))) := ⟨WD.out.1.any b5, j5, (b5.block _ (lt_of_block W4.out.2.2.2.1)).trans W4.out.2.2.2.1⟩
      have hc5 : w5.cell? ⟨fb, m, none⟩ = some (.slice a1 (listS Gm 128).length c1') := (b5.cell (p := ⟨fb, m, none⟩) WD.out.1.rf.lt).trans W4.out.2.2.2.2
      clear b5 j5 hs
      have hs : Hid ((fun w' : World => w'.cell? ⟨wr.heap.size, 0, none⟩ = some (.int .i64 (m : Int))) w5 /\ (fun w' : World => w'.cell? ⟨fb, m, none⟩ = some (.slice a1 (listS Gm 128).length c1')) w5) := KS.out _ W5.out.2.2 hc5
      refine ⟨_, rfl, hK.out _ _ (SX.both hs.out.1 hs.out.2) ?_⟩
      clear hK K'
      (try simp only [Act.put, lsA, lsZ, lsN])
      refine wtT (m := 11) (i := 10) (v := ?_) rfl (Or.inl ⟨by rfl, ?_⟩) (SX.both hs.out.1 hs.out.2) ?_
      rotate_left
      ·(intro w hSw; (try dsimp only at hSw); go_simp; try (with_reducible rfl))
      (try simp only [Act.put, lsA, lsZ, lsN])
      have f5 := W5.out.1.rf.free m
      obtain ⟨ja, jn, jc, rfl, _⟩ := W5.out.2.1.val
      refine wpAnyX_one (j := 11) (by decide +kernel) rfl (fun K' hK => ?_)
      go_simp
      have W6 : Hid (RW1 g w nb fb F (G2.set m (withS Gm Bs)) (w5.setCell ⟨fb, m, none⟩ (.slice ja jn jc))) := W5.out.1.set HM3.out W5.out.2.1 (HOK.out.1.with HOB.out) (leS_with HOK.out.2.1 LEB.out)
      have hp6 : (w5.setCell ⟨fb, m, none⟩ (.slice ja jn jc)).cell? ⟨wr.heap.size, 0, none⟩ = some (.int .i64 (m : Int)) := by
       have hne : wr.heap.size ≠ fb := by have := HW2.out.rf.lt; omega
       exact (World.cell?_of_block (Below.heap_setCell _ _ _ _ hne)).trans ((cellq_any W5.out.2.2).trans rfl)
      refine hK.out _ _ (SX.one hp6 (by decide +kernel)) ?_
      clear hK K' hs hp6 f5 hc5
      (try simp only [Act.put, lsA, lsZ, lsN])
      refine wpAnyX_done (by decide +kernel) ?_
      generalize w5.setCell ⟨fb, m, none⟩ (.slice ja jn jc) = w6 at *
      have R : Hid (mesF (G2.set m (withS Gm Bs)) + (if true then 1 else 0) <= mesF G) := by
       have := HLE.out
       have := HNE.out
       show _ + 1 <= _
       omega
      go_wp2
      go_roundw
      case rel => exact ⟨k + 1, true, _, by omega, rfl, by go_num, W6.out, R.out, fun h => by cases h⟩
      case measure => simp [intOf]; omega
     ·have R : Hid (b2 = false -> G2 = G /\ ∀ j, j < k + 1 -> LeS (ofS (nullU g.ps g.ns.length) G (g.ps.getD j .none).right (0, 0)) (G.getD (g.ps.getD j .none).left.toNat (0, 0))) := HS'.out (fun _ => (within_iff HOB.out HOK.out.1).1 (of_decide_eq_true HDV.out))
      go_roundw
      case rel => exact ⟨k + 1, b2, G2, by omega, rfl, by go_num, W4.out.1, HLE.out, R.out⟩
      case measure => simp [intOf]; omega
    ·have klt : ¬ (k : Int) < (g.ps.length : Int) := by omega
     have R : Hid (RW1 g w nb fb F G2 wr /\ (b2 = false -> ClosF (nullU g.ps g.ns.length) g.ps G2)) := ⟨hW2, fun hb p hp => by
      obtain ⟨e, q⟩ := hcl hb
      obtain ⟨i, hi, rfl⟩ := List.getElem_of_mem hp
      have e2 : g.ps.getD i .none = g.ps[i] := by simp [List.getD, hi]
      rw [e]
      have := q i (by omega)
      rw [e2] at this
      exact this⟩
     have ME : Hid (mesR fb wr + (if b2 then 1 else 0) <= mesR fb wz) := by
      show _ <= _
      rw [mesR_of hW2.rf hW2.ok, HM.out]
      exact hle
     clear hW2 hcl hle
     go_wp2
     go_roundw
     case rel => exact ⟨b2, G2, rfl, R.out.1, R.out.2⟩
     case measure =>
      have := ME.out
      cases b2 <;> simp [tOf] at this ⊢ <;> omega
end Go.Proofs.YtpbpombjndlnbaaGreat
