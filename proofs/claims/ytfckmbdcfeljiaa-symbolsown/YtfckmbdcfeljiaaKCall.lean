import Derived.Test.YtfckmbdcfeljiaaKBook
import Derived.Test.YtfckmbdcfeljiaaKStr2
import Derived.Test.YtfckmbdcfeljiaaKSy2
import Derived.Test.YtfckmbdcfeljiaaKNil
namespace Go.Proofs.Ytfckmbdcfeljiaa
set_option linter.unusedVariables false
open Go.RowKit Go.Maps

set_option maxHeartbeats 1000000 in
theorem book_strings (T : KT) (hT : T.Ok) (B q : Nat) (V : Nat → Value) (E : Nat → List LE) (w : World) (a : Option Addr) (n c : Nat) (X : List Value) (hK : KI T B w q V E) (ht : T.te 2 = 9 ∧ T.sz 2 = 1 ∧ T.tl 2 = 23) (hX : w.ownsRow 0 9 1 (.slice a n c) n X) (hlo : ∀ k, (Value.slice a n c).ownBlock = some k → B ≤ k ∧ ∀ x ∈ E 2, x.g ≠ k) (hlen : (E 2).length ≤ 1000) :
    Calls Try.prog 9 #[.pointer (some ⟨q, 0, none⟩), .slice a n c] w fun e w' => e = .returned (.tuple #[]) ∧ ∃ V' E', KI T B w' q V' E' ∧ (∀ i, i ≠ 2 → E' i = E i) ∧ (E' 2 = E 2 ∨ ∃ g, E' 2 = E 2 ++ [⟨g, n, c⟩]) ∧ Below B w w' := by
  by_cases h0 : n = 0
  · subst h0
    have HK : Hid (KI T B w q V E) := hK
    clear hK hX hlo
    go_enter Try.func9, Try.ntmps9
    go_wp2
    go_end0
    exact ⟨rfl, V, E, HK.out, fun _ _ => rfl, .inl rfl, Below.refl _ _⟩
  · obtain ⟨g, rfl⟩ : ∃ g, a = some ⟨g, 0, none⟩ := by
      rcases hX.2 with ⟨e, h⟩ | ⟨g, cap, cur, e, _⟩
      · exact absurd h h0
      · simp only [Value.slice.injEq] at e
        exact ⟨g, e.1⟩
    have HK : Hid (KI T B (w.alloc (.cells #[.slice (some ⟨g, 0, none⟩) n c] 23)) q V E) := hK.later (below_alloc w _)
    have HX : Hid ((w.alloc (.cells #[.slice (some ⟨g, 0, none⟩) n c] 23)).ownsRow 0 9 1 (LE.mk g n c).v n X) := row_later hX (below_alloc w _)
    have HSZ : Hid (B ≤ w.heap.size) := hK.size
    have HO : Hid (B ≤ g ∧ ∀ x ∈ E 2, x.g ≠ g) := hlo g rfl
    have c0 := hK.cell (i := 2) (by omega)
    have R : Hid (HL 23 (w.alloc (.cells #[.slice (some ⟨g, 0, none⟩) n c] 23)) (V 2) ((E 2).map LE.v)) := by have := HK.out.row 2; rw [ht.2.2] at this; exact this
    have AF : Hid (∀ w5 L5, Grew (w.alloc (.cells #[.slice (some ⟨g, 0, none⟩) n c] 23)) w5 (V 2) L5 → w5.cell? ⟨q, 2, none⟩ = some (V 2) ∧ w5.frozen? ⟨q, 2, none⟩ = false) := fun w5 L5 hg => by
      have b := (hg.grown.block q (lt_of_block HK.out.hq) (HK.out.ne hT 2)).trans HK.out.hq
      exact ⟨by simp only [World.cell?, b]; exact kArr_get V (by omega), by simp [World.frozen?, b]⟩
    have HLE : Hid (((E 2).map LE.v).length ≤ 2000000) := by show _ ≤ _; simp; omega
    have HT : Hid (T.te 2 = 9 ∧ T.sz 2 = 1 ∧ T.tl 2 = 23) := ht
    have hn : (n : Int) > 0 := by omega
    clear hK hX hlo ht hlen
    generalize hV : V 2 = L at *
    go_enter Try.func9, Try.ntmps9
    go_wp2_with (at_builtin; refine wpList_hl_append Try.underlying30 infoSSK rfl _ _ rfl L ((E 2).map LE.v) rfl R.out w.heap.size 1 (.slice (some ⟨g, 0, none⟩) n c) rfl (one_new w _ _ 0 _ rfl) rfl HLE.out ?_; intro L5 w5 hl5 hg5; obtain ⟨a5, N5, c5, rfl⟩ := hl5.slice3; obtain ⟨d1, d2⟩ := AF.out w5 _ hg5)
    go_end0
    obtain ⟨r1, r2⟩ := HK.out.store (i := 2) (v' := .slice a5 N5 c5) (e := ⟨g, n, c⟩) (X := X) hT (by rw [hV]; exact hg5) (by rw [HT.out.2.2]; exact hl5) (by rw [HT.out.1, HT.out.2.1]; exact HX.out) HO.out.2 HO.out.1
    refine ⟨rfl, _, _, r1, fun i hi => if_neg hi, .inr ⟨g, if_pos rfl⟩, ?_⟩
    exact ((Below.refl B w).alloc HSZ.out _).trans r2
set_option maxHeartbeats 1000000 in
theorem book_syms (T : KT) (hT : T.Ok) (B q : Nat) (V : Nat → Value) (E : Nat → List LE) (w : World) (a : Option Addr) (n c : Nat) (X : List Value) (hK : KI T B w q V E) (ht : T.te 4 = 70 ∧ T.sz 4 = 2 ∧ T.tl 4 = 46) (hX : w.ownsRow 0 70 2 (.slice a n c) n X) (hlo : ∀ k, (Value.slice a n c).ownBlock = some k → B ≤ k ∧ ∀ x ∈ E 4, x.g ≠ k) (hlen : (E 4).length ≤ 1000) :
    Calls Try.prog 8 #[.pointer (some ⟨q, 0, none⟩), .slice a n c] w fun e w' => e = .returned (.tuple #[]) ∧ ∃ V' E', KI T B w' q V' E' ∧ (∀ i, i ≠ 4 → E' i = E i) ∧ (E' 4 = E 4 ∨ ∃ g, E' 4 = E 4 ++ [⟨g, n, c⟩]) ∧ Below B w w' := by
  by_cases h0 : n = 0
  · subst h0
    have HK : Hid (KI T B w q V E) := hK
    clear hK hX hlo
    go_enter Try.func8, Try.ntmps8
    go_wp2
    go_end0
    exact ⟨rfl, V, E, HK.out, fun _ _ => rfl, .inl rfl, Below.refl _ _⟩
  · obtain ⟨g, rfl⟩ : ∃ g, a = some ⟨g, 0, none⟩ := by
      rcases hX.2 with ⟨e, h⟩ | ⟨g, cap, cur, e, _⟩
      · exact absurd h h0
      · simp only [Value.slice.injEq] at e
        exact ⟨g, e.1⟩
    have HK : Hid (KI T B (w.alloc (.cells #[.slice (some ⟨g, 0, none⟩) n c] 46)) q V E) := hK.later (below_alloc w _)
    have HX : Hid ((w.alloc (.cells #[.slice (some ⟨g, 0, none⟩) n c] 46)).ownsRow 0 70 2 (LE.mk g n c).v n X) := row_later hX (below_alloc w _)
    have HSZ : Hid (B ≤ w.heap.size) := hK.size
    have HO : Hid (B ≤ g ∧ ∀ x ∈ E 4, x.g ≠ g) := hlo g rfl
    have c0 := hK.cell (i := 4) (by omega)
    have R : Hid (HL 46 (w.alloc (.cells #[.slice (some ⟨g, 0, none⟩) n c] 46)) (V 4) ((E 4).map LE.v)) := by have := HK.out.row 4; rw [ht.2.2] at this; exact this
    have AF : Hid (∀ w5 L5, Grew (w.alloc (.cells #[.slice (some ⟨g, 0, none⟩) n c] 46)) w5 (V 4) L5 → w5.cell? ⟨q, 4, none⟩ = some (V 4) ∧ w5.frozen? ⟨q, 4, none⟩ = false) := fun w5 L5 hg => by
      have b := (hg.grown.block q (lt_of_block HK.out.hq) (HK.out.ne hT 4)).trans HK.out.hq
      exact ⟨by simp only [World.cell?, b]; exact kArr_get V (by omega), by simp [World.frozen?, b]⟩
    have HLE : Hid (((E 4).map LE.v).length ≤ 2000000) := by show _ ≤ _; simp; omega
    have HT : Hid (T.te 4 = 70 ∧ T.sz 4 = 2 ∧ T.tl 4 = 46) := ht
    have hn : (n : Int) > 0 := by omega
    clear hK hX hlo ht hlen
    generalize hV : V 4 = L at *
    go_enter Try.func8, Try.ntmps8
    go_wp2_with (at_builtin; refine wpList_hl_append Try.underlying32 infoSYK rfl _ _ rfl L ((E 4).map LE.v) rfl R.out w.heap.size 1 (.slice (some ⟨g, 0, none⟩) n c) rfl (one_new w _ _ 0 _ rfl) rfl HLE.out ?_; intro L5 w5 hl5 hg5; obtain ⟨a5, N5, c5, rfl⟩ := hl5.slice3; obtain ⟨d1, d2⟩ := AF.out w5 _ hg5)
    go_end0
    obtain ⟨r1, r2⟩ := HK.out.store (i := 4) (v' := .slice a5 N5 c5) (e := ⟨g, n, c⟩) (X := X) hT (by rw [hV]; exact hg5) (by rw [HT.out.2.2]; exact hl5) (by rw [HT.out.1, HT.out.2.1]; exact HX.out) HO.out.2 HO.out.1
    refine ⟨rfl, _, _, r1, fun i hi => if_neg hi, .inr ⟨g, if_pos rfl⟩, ?_⟩
    exact ((Below.refl B w).alloc HSZ.out _).trans r2
def slA (v : Value) : Option Addr := match v with | .slice a _ _ => a | _ => none
def slC (v : Value) : Nat := match v with | .slice _ _ c => c | _ => 0
theorem KI.frBlock {T : KT} {B : Nat} {w w' : World} {q : Nat} {V : Nat → Value} {E : Nat → List LE} (h : KI T B w q V E) {i : Nat} (hf : KFr (E i) w w') {k : Nat} {C : Array Value} {t : TypeId} (hk : w.heap[k]? = some (.cells C t (0, 0))) (ht : t ≠ T.te i) : w'.heap[k]? = w.heap[k]? :=
  hf.block k (lt_of_block hk) fun e he e2 => by
    obtain ⟨j, hj, rfl⟩ := List.getElem_of_mem he
    obtain ⟨X, hX⟩ := h.own i
    obtain ⟨cur, h1, _⟩ := row_block (hX j hj)
    rw [e2, hk] at h1
    simp at h1
    exact ht h1.2
theorem KI.frRow {T : KT} {B : Nat} {w w' : World} {q : Nat} {V : Nat → Value} {E : Nat → List LE} (h : KI T B w q V E) {i : Nat} (hf : KFr (E i) w w') {t : TypeId} {sz n : Nat} {v : Value} {xs : List Value} (ho : w.ownsRow 0 t sz v n xs) (ht : t ≠ T.te i) : w'.ownsRow 0 t sz v n xs := row_keptB ho fun k hk => by
  rcases ho.2 with ⟨rfl, _⟩ | ⟨g, cap, cur, rfl, _, hb, _⟩
  · simp [Value.ownBlock] at hk
  · simp [Value.ownBlock] at hk
    subst hk
    exact h.frBlock hf hb ht
set_option maxRecDepth 100000 in
set_option maxHeartbeats 2000000 in
theorem book_apart (T : KT) (hT : T.Ok) (B q : Nat) (V : Nat → Value) (E : Nat → List LE) (w : World) (hK : KI T B w q V E) (h2 : T.te 2 = 9 ∧ T.sz 2 = 1 ∧ T.tl 2 = 23) (h4 : T.te 4 = 70 ∧ T.sz 4 = 2 ∧ T.tl 4 = 46) (hno : ∀ i, i ≠ 2 → i ≠ 4 → E i = []) (hl2 : (E 2).length ≤ 1000) (hl4 : (E 4).length ≤ 1000) (hn2 : ∀ e ∈ E 2, e.n ≤ 100000000) (hn4 : ∀ e ∈ E 4, e.n ≤ 100000000) :
    Calls Try.prog 12 #[.pointer (some ⟨q, 0, none⟩)] w fun e w' => e = .returned (.bool true) ∧ Below B w w' := by
  have HK : Hid (KI T B w q V E) := hK
  obtain ⟨X2, hX2⟩ := hK.own 2
  obtain ⟨X4, hX4⟩ := hK.own 4
  rw [h2.1, h2.2.1] at hX2
  rw [h4.1, h4.2.1] at hX4
  have hr2 := hK.row 2
  have hr4 := hK.row 4
  rw [h2.2.2] at hr2
  rw [h4.2.2] at hr4
  have C2 : Hid (w.cell? ⟨q, 2, none⟩ = some (V 2)) := hK.cell (by omega)
  have R2 : Hid (HL 23 w (V 2) ((E 2).map LE.v)) := hr2
  have O2 : Hid (∀ j (h : j < (E 2).length), w.ownsRow 0 9 1 (E 2)[j].v (E 2)[j].n (X2 j)) := hX2
  have N2 : Hid (∀ e ∈ E 2, e.n ≤ 100000000) := hn2
  have N4 : Hid (∀ e ∈ E 4, e.n ≤ 100000000) := hn4
  have HB2 : Hid (∀ w2, KFr (E 2) w w2 → w2.heap[q]? = w.heap[q]?) := fun w2 hf => hK.frBlock hf hK.hq (hT.qe 2)
  have C4 : Hid (∀ w2 : World, w2.heap[q]? = w.heap[q]? → w2.cell? ⟨q, 4, none⟩ = some (V 4)) := fun w2 hb => (World.cell?_of_block hb).trans (hK.cell (by omega))
  have R4 : Hid (∀ w2, KFr (E 2) w w2 → HL 46 w2 (V 4) ((E 4).map LE.v)) := fun w2 hf => hK.frRow hf hr4 (by rw [h2.1]; decide)
  have O4 : Hid (∀ w2, KFr (E 2) w w2 → ∀ j (h : j < (E 4).length), w2.ownsRow 0 70 2 (E 4)[j].v (E 4)[j].n (X4 j)) := fun w2 hf j hj => hK.frRow hf (hX4 j hj) (by rw [h2.1]; decide)
  have HB4 : Hid (∀ w2 w4, KFr (E 2) w w2 → KFr (E 4) w2 w4 → w4.heap[q]? = w.heap[q]?) := fun w2 w4 hf hf4 => by
    have e1 := hK.frBlock hf hK.hq (hT.qe 2)
    refine Eq.trans (hf4.block q (by have := lt_of_block hK.hq; have := hf.size; omega) fun e he e2 => ?_) e1
    obtain ⟨j, hj, rfl⟩ := List.getElem_of_mem he
    obtain ⟨cur, h1, _⟩ := row_block (hX4 j hj)
    rw [e2, hK.hq] at h1
    simp at h1
  have HC : Hid (∀ w' : World, w'.heap[q]? = w.heap[q]? → ∀ i, i < 16 → i ≠ 2 → i ≠ 4 → w'.cell? ⟨q, i, none⟩ = some (.slice (slA (V i)) 0 (slC (V i)))) := fun w' hb i hi n2 n4 => by
    have hr := hK.row i
    rw [hno i n2 n4] at hr
    obtain ⟨a, c, e⟩ := hr.slice
    rw [World.cell?_of_block hb, hK.cell hi, e]
    rfl
  have FIN : Hid (∀ w2 w4, KFr (E 2) w w2 → KFr (E 4) w2 w4 → Below B w w4) := fun w2 w4 hf hf4 => by
    have e1 := hK.fr hT hf
    exact e1.trans ⟨hf4.os, hf4.tape, hf4.output, hf4.size, fun k hk => hf4.block k (by have := hK.size; have := e1.size; omega) (fun e he e2 => by have := hK.loE 4 e he; omega)⟩
  clear hK hX2 hX4 hr2 hr4 hno hn2 hn4
  go_enter Try.func12, Try.ntmps12
  go_wp2_with (first
    | (go_at_call 24; refine (apartnilBytes q (slA (V 0)) (slC (V 0)) w (HC.out w rfl 0 (by omega) (by omega) (by omega))).mono ?_; rintro e w' ⟨rfl, rfl⟩)
    | (go_at_call 25; refine (apartnilInts q (slA (V 1)) (slC (V 1)) w (HC.out w rfl 1 (by omega) (by omega) (by omega))).mono ?_; rintro e w' ⟨rfl, rfl⟩)
    | (go_at_call 26; refine (apart_strings q (V 2) (E 2) X2 w C2.out R2.out O2.out (HK.out.nd 2) hl2 N2.out).mono ?_; rintro e w2 ⟨rfl, f2'⟩; have f2 : Hid (KFr (E 2) w w2) := f2'; clear f2'; have b2 : Hid _ := HB2.out w2 f2.out)
    | (go_at_call 27; refine (apartnilBools q (slA (V 3)) (slC (V 3)) w2 (HC.out w2 b2.out 3 (by omega) (by omega) (by omega))).mono ?_; rintro e w' ⟨rfl, rfl⟩)
    | (go_at_call 28; refine (apart_syms q (V 4) (E 4) X4 w2 (C4.out w2 b2.out) (R4.out w2 f2.out) (O4.out w2 f2.out) (HK.out.nd 4) hl4 N4.out).mono ?_; rintro e w4 ⟨rfl, f4'⟩; have f4 : Hid (KFr (E 4) w2 w4) := f4'; clear f4'; have b4 : Hid _ := HB4.out w2 w4 f2.out f4.out)
    | (go_at_call 29; refine (apartnilCores q (slA (V 5)) (slC (V 5)) w4 (HC.out w4 b4.out 5 (by omega) (by omega) (by omega))).mono ?_; rintro e w' ⟨rfl, rfl⟩)
    | (go_at_call 30; refine (apartnilActions q (slA (V 6)) (slC (V 6)) w4 (HC.out w4 b4.out 6 (by omega) (by omega) (by omega))).mono ?_; rintro e w' ⟨rfl, rfl⟩)
    | (go_at_call 31; refine (apartnilEdges q (slA (V 7)) (slC (V 7)) w4 (HC.out w4 b4.out 7 (by omega) (by omega) (by omega))).mono ?_; rintro e w' ⟨rfl, rfl⟩)
    | (go_at_call 32; refine (apartnilPairs q (slA (V 8)) (slC (V 8)) w4 (HC.out w4 b4.out 8 (by omega) (by omega) (by omega))).mono ?_; rintro e w' ⟨rfl, rfl⟩)
    | (go_at_call 33; refine (apartnilTokens q (slA (V 9)) (slC (V 9)) w4 (HC.out w4 b4.out 9 (by omega) (by omega) (by omega))).mono ?_; rintro e w' ⟨rfl, rfl⟩)
    | (go_at_call 34; refine (apartnilProds q (slA (V 10)) (slC (V 10)) w4 (HC.out w4 b4.out 10 (by omega) (by omega) (by omega))).mono ?_; rintro e w' ⟨rfl, rfl⟩)
    | (go_at_call 35; refine (apartnilLevels q (slA (V 11)) (slC (V 11)) w4 (HC.out w4 b4.out 11 (by omega) (by omega) (by omega))).mono ?_; rintro e w' ⟨rfl, rfl⟩)
    | (go_at_call 36; refine (apartnilItems q (slA (V 12)) (slC (V 12)) w4 (HC.out w4 b4.out 12 (by omega) (by omega) (by omega))).mono ?_; rintro e w' ⟨rfl, rfl⟩)
    | (go_at_call 37; refine (apartnilTrees q (slA (V 13)) (slC (V 13)) w4 (HC.out w4 b4.out 13 (by omega) (by omega) (by omega))).mono ?_; rintro e w' ⟨rfl, rfl⟩)
    | (go_at_call 38; refine (apartnilRows q (slA (V 14)) (slC (V 14)) w4 (HC.out w4 b4.out 14 (by omega) (by omega) (by omega))).mono ?_; rintro e w' ⟨rfl, rfl⟩)
    | (go_at_call 39; refine (apartnilConflicts q (slA (V 15)) (slC (V 15)) w4 (HC.out w4 b4.out 15 (by omega) (by omega) (by omega))).mono ?_; rintro e w' ⟨rfl, rfl⟩))
  go_ret
  exact ⟨rfl, FIN.out w2 w4 f2.out f4.out⟩
end Go.Proofs.Ytfckmbdcfeljiaa
