import Derived.Test.YtcgghlaifmlpiaaGreatDoorKCallF
namespace Go.Proofs.YtcgghlaifmlpiaaGreatDoor
set_option linter.unusedVariables false
open Go.RowKit Go.Maps

/-- The kinds of lists that chapter 6 answers. -/
def kF : KT := ⟨fun i => match i with | 1 => 3 | 3 => 4 | _ => 5, fun i => match i with | 1 => 1 | 3 => 1 | _ => 1, fun i => match i with | 1 => 46 | 3 => 91 | _ => 46⟩
def slA (v : Value) : Option Addr := match v with | .slice a _ _ => a | _ => none
def slC (v : Value) : Nat := match v with | .slice _ _ c => c | _ => 0
/-- A book in the midst of Apart: the kinds from n on are as they were. -/
structure KA (T : KT) (B : Nat) (w0 : World) (q : Nat) (V : Nat → Value) (E : Nat → List LE) (n : Nat) (w : World) : Prop where
  blk : w.heap[q]? = some (.cells (kArr V) 68 (0, 0))
  row : ∀ i, n ≤ i → HL (T.tl i) w (V i) ((E i).map LE.v)
  own : ∀ i, n ≤ i → ∃ X : Nat → List Value, ∀ j (h : j < (E i).length), w.ownsRow 0 (T.te i) (T.sz i) (E i)[j].v (E i)[j].n (X j)
  size : B ≤ w.heap.size
  bel : Below B w0 w
section
variable {T : KT} {B : Nat} {w0 w w' : World} {q n : Nat} {V : Nat → Value} {E : Nat → List LE}
theorem KI.toA (h : KI T B w q V E) : KA T B w q V E 0 w := ⟨h.hq, fun i _ => h.row i, fun i _ => h.own i, h.size, Below.refl _ _⟩
theorem KA.skip (h : KA T B w0 q V E n w) : KA T B w0 q V E (n + 1) w := ⟨h.blk, fun i hi => h.row i (by omega), fun i hi => h.own i (by omega), h.size, h.bel⟩
theorem KA.block (h : KA T B w0 q V E n w) (hf : KFr (E n) w w') {k : Nat} {C : Array Value} {t : TypeId} (hk : w.heap[k]? = some (.cells C t (0, 0))) (ht : t ≠ T.te n) : w'.heap[k]? = w.heap[k]? :=
  hf.block k (lt_of_block hk) fun e he e2 => by
    obtain ⟨j, hj, rfl⟩ := List.getElem_of_mem he
    obtain ⟨X, hX⟩ := h.own n (Nat.le_refl _)
    obtain ⟨cur, h1, _⟩ := row_block (hX j hj)
    rw [e2, hk] at h1
    simp at h1
    exact ht h1.2
theorem KA.keep (h : KA T B w0 q V E n w) (hf : KFr (E n) w w') {t : TypeId} {sz m : Nat} {v : Value} {xs : List Value} (ho : w.ownsRow 0 t sz v m xs) (ht : t ≠ T.te n) : w'.ownsRow 0 t sz v m xs := row_keptB ho fun k hk => by
  rcases ho.2 with ⟨rfl, _⟩ | ⟨g, cap, cur, rfl, _, hb, _⟩
  · simp [Value.ownBlock] at hk
  · simp [Value.ownBlock] at hk
    subst hk
    exact h.block hf hb ht
theorem KA.next (h : KA T B w0 q V E n w) (hT : T.Ok) (hd : ∀ i, n + 1 ≤ i → T.te i ≠ T.te n) (hlo : ∀ e ∈ E n, B ≤ e.g) (hf : KFr (E n) w w') : KA T B w0 q V E (n + 1) w' :=
  ⟨(h.block hf h.blk (hT.qe n)).trans h.blk, fun i hi => h.keep hf (h.row i (by omega)) (fun e => hT.el n i e.symm), fun i hi => by obtain ⟨X, hX⟩ := h.own i (by omega); exact ⟨X, fun j hj => h.keep hf (hX j hj) (hd i hi)⟩, Nat.le_trans h.size hf.size, h.bel.trans ⟨hf.os, hf.tape, hf.output, hf.size, fun k hk => hf.block k (Nat.lt_of_lt_of_le hk h.size) fun e he e2 => by have := hlo e he; omega⟩⟩
theorem KA.cell (h : KA T B w0 q V E n w) {i : Nat} (hi : i < 16) : w.cell? ⟨q, i, none⟩ = some (V i) := by
  simp only [World.cell?, h.blk]
  exact kArr_get V hi
theorem KA.nil (h : KA T B w0 q V E n w) {i : Nat} (hn : n ≤ i) (hi : i < 16) (hE : E i = []) : w.cell? ⟨q, i, none⟩ = some (.slice (slA (V i)) 0 (slC (V i))) := by
  have hr := h.row i hn
  rw [hE] at hr
  obtain ⟨a, c, e⟩ := hr.slice
  rw [h.cell hi, e]
  rfl
end
theorem kF_ok : kF.Ok := by
  refine ⟨fun i => ?_, fun i => ?_, fun i j => ?_⟩
  · unfold kF; dsimp only; split <;> decide
  · unfold kF; dsimp only; split <;> decide
  · unfold kF; dsimp only; split <;> (split <;> decide)
theorem kF_ne (n : Nat) (hn : n ∈ [1, 3]) : ∀ i, n + 1 ≤ i → kF.te i ≠ kF.te n := by
  intro i hi
  simp at hn
  rcases hn with rfl | rfl <;> (unfold kF; dsimp only; split <;> first | decide | omega)
set_option maxRecDepth 100000 in
set_option maxHeartbeats 2000000 in
theorem book_apartF (B q : Nat) (V : Nat → Value) (E : Nat → List LE) (w : World) (hK : KI kF B w q V E) (hno : ∀ i, i ∉ [1, 3] → E i = []) (hl : ∀ i, (E i).length ≤ 100000000) (hn : ∀ i, ∀ e ∈ E i, e.n ≤ 100000000) :
    Calls Tryz.prog 27 #[.pointer (some ⟨q, 0, none⟩)] w fun e w' => e = .returned (.bool true) ∧ Below B w w' := by
  have HK : Hid (KI kF B w q V E) := hK
  have HNO : Hid (∀ i, i ∉ [1, 3] → E i = []) := hno
  have HLA : Hid (∀ i, (E i).length ≤ 100000000) := hl
  have HN : Hid (∀ i, ∀ e ∈ E i, e.n ≤ 100000000) := hn
  have A0 : Hid (KA kF B w q V E 0 w) := hK.toA
  clear hK hno hl hn
  go_enter Tryz.func27, Tryz.ntmps27
  go_wp2_with (first
    | (go_at_call 57; refine (apartnilBytes q (slA (V 0)) (slC (V 0)) w (A0.out.nil (i := 0) (Nat.le_refl _) (by omega) (HNO.out 0 (by decide)))).mono ?_; rintro e w' ⟨rfl, rfl⟩; have A1 : Hid (KA kF B w q V E 1 w) := A0.out.skip)
    | (go_at_call 58; obtain ⟨X1, hX1⟩ := A1.out.own 1 (Nat.le_refl _); refine (apart_ints q (V 1) (E 1) X1 w (A1.out.cell (by omega)) (A1.out.row 1 (Nat.le_refl _)) hX1 (HK.out.nd 1) (HLA.out 1) (HN.out 1)).mono ?_; rintro e w1 ⟨rfl, f1⟩; have A2 : Hid (KA kF B w q V E 2 w1) := A1.out.next kF_ok (kF_ne 1 (by decide)) (HK.out.loE 1) f1; clear hX1 f1)
    | (go_at_call 59; refine (apartnilStrings q (slA (V 2)) (slC (V 2)) w1 (A2.out.nil (i := 2) (Nat.le_refl _) (by omega) (HNO.out 2 (by decide)))).mono ?_; rintro e w' ⟨rfl, rfl⟩; have A3 : Hid (KA kF B w q V E 3 w1) := A2.out.skip)
    | (go_at_call 60; obtain ⟨X3, hX3⟩ := A3.out.own 3 (Nat.le_refl _); refine (apart_bools q (V 3) (E 3) X3 w1 (A3.out.cell (by omega)) (A3.out.row 3 (Nat.le_refl _)) hX3 (HK.out.nd 3) (HLA.out 3) (HN.out 3)).mono ?_; rintro e w3 ⟨rfl, f3⟩; have A4 : Hid (KA kF B w q V E 4 w3) := A3.out.next kF_ok (kF_ne 3 (by decide)) (HK.out.loE 3) f3; clear hX3 f3)
    | (go_at_call 61; refine (apartnilSyms q (slA (V 4)) (slC (V 4)) w3 (A4.out.nil (i := 4) (Nat.le_refl _) (by omega) (HNO.out 4 (by decide)))).mono ?_; rintro e w' ⟨rfl, rfl⟩; have A5 : Hid (KA kF B w q V E 5 w3) := A4.out.skip)
    | (go_at_call 62; refine (apartnilCores q (slA (V 5)) (slC (V 5)) w3 (A5.out.nil (i := 5) (Nat.le_refl _) (by omega) (HNO.out 5 (by decide)))).mono ?_; rintro e w' ⟨rfl, rfl⟩; have A6 : Hid (KA kF B w q V E 6 w3) := A5.out.skip)
    | (go_at_call 63; refine (apartnilActions q (slA (V 6)) (slC (V 6)) w3 (A6.out.nil (i := 6) (Nat.le_refl _) (by omega) (HNO.out 6 (by decide)))).mono ?_; rintro e w' ⟨rfl, rfl⟩; have A7 : Hid (KA kF B w q V E 7 w3) := A6.out.skip)
    | (go_at_call 64; refine (apartnilEdges q (slA (V 7)) (slC (V 7)) w3 (A7.out.nil (i := 7) (Nat.le_refl _) (by omega) (HNO.out 7 (by decide)))).mono ?_; rintro e w' ⟨rfl, rfl⟩; have A8 : Hid (KA kF B w q V E 8 w3) := A7.out.skip)
    | (go_at_call 65; refine (apartnilPairs q (slA (V 8)) (slC (V 8)) w3 (A8.out.nil (i := 8) (Nat.le_refl _) (by omega) (HNO.out 8 (by decide)))).mono ?_; rintro e w' ⟨rfl, rfl⟩; have A9 : Hid (KA kF B w q V E 9 w3) := A8.out.skip)
    | (go_at_call 66; refine (apartnilTokens q (slA (V 9)) (slC (V 9)) w3 (A9.out.nil (i := 9) (Nat.le_refl _) (by omega) (HNO.out 9 (by decide)))).mono ?_; rintro e w' ⟨rfl, rfl⟩; have A10 : Hid (KA kF B w q V E 10 w3) := A9.out.skip)
    | (go_at_call 67; refine (apartnilProds q (slA (V 10)) (slC (V 10)) w3 (A10.out.nil (i := 10) (Nat.le_refl _) (by omega) (HNO.out 10 (by decide)))).mono ?_; rintro e w' ⟨rfl, rfl⟩; have A11 : Hid (KA kF B w q V E 11 w3) := A10.out.skip)
    | (go_at_call 68; refine (apartnilLevels q (slA (V 11)) (slC (V 11)) w3 (A11.out.nil (i := 11) (Nat.le_refl _) (by omega) (HNO.out 11 (by decide)))).mono ?_; rintro e w' ⟨rfl, rfl⟩; have A12 : Hid (KA kF B w q V E 12 w3) := A11.out.skip)
    | (go_at_call 69; refine (apartnilItems q (slA (V 12)) (slC (V 12)) w3 (A12.out.nil (i := 12) (Nat.le_refl _) (by omega) (HNO.out 12 (by decide)))).mono ?_; rintro e w' ⟨rfl, rfl⟩; have A13 : Hid (KA kF B w q V E 13 w3) := A12.out.skip)
    | (go_at_call 70; refine (apartnilTrees q (slA (V 13)) (slC (V 13)) w3 (A13.out.nil (i := 13) (Nat.le_refl _) (by omega) (HNO.out 13 (by decide)))).mono ?_; rintro e w' ⟨rfl, rfl⟩; have A14 : Hid (KA kF B w q V E 14 w3) := A13.out.skip)
    | (go_at_call 71; refine (apartnilRows q (slA (V 14)) (slC (V 14)) w3 (A14.out.nil (i := 14) (Nat.le_refl _) (by omega) (HNO.out 14 (by decide)))).mono ?_; rintro e w' ⟨rfl, rfl⟩; have A15 : Hid (KA kF B w q V E 15 w3) := A14.out.skip)
    | (go_at_call 72; refine (apartnilConflicts q (slA (V 15)) (slC (V 15)) w3 (A15.out.nil (i := 15) (Nat.le_refl _) (by omega) (HNO.out 15 (by decide)))).mono ?_; rintro e w' ⟨rfl, rfl⟩; have A16 : Hid (KA kF B w q V E 16 w3) := A15.out.skip))
  go_ret
  exact ⟨rfl, A16.out.bel⟩
end Go.Proofs.YtcgghlaifmlpiaaGreatDoor
