import Derived.Test.YtfckmbdcfeljiaaDoorKBook
import Derived.Test.YtfckmbdcfeljiaaDoorKByte2
import Derived.Test.YtfckmbdcfeljiaaDoorKNil
namespace Go.Proofs.YtfckmbdcfeljiaaDoor.K
set_option linter.unusedVariables false
open Go.RowKit Go.Maps

set_option maxHeartbeats 1000000 in
theorem book_bytes (T : KT) (hT : T.Ok) (B q : Nat) (V : Nat → Value) (E : Nat → List LE) (w : World) (a : Option Addr) (n c : Nat) (X : List Value) (hK : KI T B w q V E) (ht : T.te 0 = 5 ∧ T.sz 0 = 1 ∧ T.tl 0 = 22) (hX : w.ownsRow 0 5 1 (.slice a n c) n X) (hlo : ∀ k, (Value.slice a n c).ownBlock = some k → B ≤ k ∧ ∀ x ∈ E 0, x.g ≠ k) (hlen : (E 0).length ≤ 1000) :
    Calls Tryd.prog 11 #[.pointer (some ⟨q, 0, none⟩), .slice a n c] w fun e w' => e = .returned (.tuple #[]) ∧ ∃ V' E', KI T B w' q V' E' ∧ (∀ i, i ≠ 0 → E' i = E i) ∧ (E' 0 = E 0 ∨ ∃ g, a = some ⟨g, 0, none⟩ ∧ E' 0 = E 0 ++ [⟨g, n, c⟩]) ∧ Below B w w' ∧ (∀ (k : Nat) (C : Array Value) (t : TypeId), w.heap[k]? = some (.cells C t (0, 0)) → t ≠ 41 → t ≠ 22 → w'.heap[k]? = w.heap[k]?) := by
  by_cases h0 : n = 0
  · subst h0
    have HK : Hid (KI T B w q V E) := hK
    clear hK hX hlo
    go_enter Tryd.func11, Tryd.ntmps11
    go_wp2
    go_end0
    exact ⟨rfl, V, E, HK.out, fun _ _ => rfl, .inl rfl, Below.refl _ _, fun _ _ _ _ _ _ => rfl⟩
  · obtain ⟨g, rfl⟩ : ∃ g, a = some ⟨g, 0, none⟩ := by
      rcases hX.2 with ⟨e, h⟩ | ⟨g, cap, cur, e, _⟩
      · exact absurd h h0
      · simp only [Value.slice.injEq] at e
        exact ⟨g, e.1⟩
    have HK : Hid (KI T B (w.alloc (.cells #[.slice (some ⟨g, 0, none⟩) n c] 22)) q V E) := hK.later (below_alloc w _)
    have HX : Hid ((w.alloc (.cells #[.slice (some ⟨g, 0, none⟩) n c] 22)).ownsRow 0 5 1 (LE.mk g n c).v n X) := row_later hX (below_alloc w _)
    have HSZ : Hid (B ≤ w.heap.size) := hK.size
    have HO : Hid (B ≤ g ∧ ∀ x ∈ E 0, x.g ≠ g) := hlo g rfl
    have c0 := hK.cell (i := 0) (by omega)
    have R : Hid (HL 22 (w.alloc (.cells #[.slice (some ⟨g, 0, none⟩) n c] 22)) (V 0) ((E 0).map LE.v)) := by have := HK.out.row 0; rw [ht.2.2] at this; exact this
    have AF : Hid (∀ w5 L5, Grew (w.alloc (.cells #[.slice (some ⟨g, 0, none⟩) n c] 22)) w5 (V 0) L5 → w5.cell? ⟨q, 0, none⟩ = some (V 0) ∧ w5.frozen? ⟨q, 0, none⟩ = false) := fun w5 L5 hg => by
      have b := (hg.grown.block q (lt_of_block HK.out.hq) (HK.out.ne hT 0)).trans HK.out.hq
      exact ⟨by simp only [World.cell?, b]; exact kArr_get V (by omega), by simp [World.frozen?, b]⟩
    have HLE : Hid (((E 0).map LE.v).length ≤ 2000000) := by show _ ≤ _; simp; omega
    have HT : Hid (T.te 0 = 5 ∧ T.sz 0 = 1 ∧ T.tl 0 = 22) := ht
    have hn : (n : Int) > 0 := by omega
    clear hK hX hlo ht hlen
    generalize hV : V 0 = L at *
    go_enter Tryd.func11, Tryd.ntmps11
    go_wp2_with (at_builtin; refine wpList_hl_append Tryd.underlying24 infoBYK rfl _ _ rfl L ((E 0).map LE.v) rfl R.out w.heap.size 1 (.slice (some ⟨g, 0, none⟩) n c) rfl (one_new w _ _ 0 _ rfl) rfl HLE.out ?_; intro L5 w5 hl5 hg5; obtain ⟨a5, N5, c5, rfl⟩ := hl5.slice3; obtain ⟨d1, d2⟩ := AF.out w5 _ hg5)
    go_end0
    obtain ⟨r1, r2⟩ := HK.out.store (i := 0) (v' := .slice a5 N5 c5) (e := ⟨g, n, c⟩) (X := X) hT (by rw [hV]; exact hg5) (by rw [HT.out.2.2]; exact hl5) (by rw [HT.out.1, HT.out.2.1]; exact HX.out) HO.out.2 HO.out.1
    refine ⟨rfl, _, _, r1, fun i hi => if_neg hi, .inr ⟨g, rfl, if_pos rfl⟩, ?_⟩
    refine ⟨((Below.refl B w).alloc HSZ.out _).trans r2, fun k C t hk h1 h2 => ?_⟩
    have hka : (w.alloc (.cells #[.slice (some ⟨g, 0, none⟩) n c] 22)).heap[k]? = some (.cells C t (0, 0)) := ((below_alloc w _).block k (lt_of_block hk)).trans hk
    have n1 : k ≠ q := fun e => by have := HK.out.hq; rw [← e, hka] at this; simp at this; exact h1 this.2
    rw [Below.heap_setCell _ _ _ _ n1]
    exact (hg5.grown.block k (lt_of_block hka) (R.out.ne hka h2)).trans ((below_alloc w _).block k (lt_of_block hk))
def slA (v : Value) : Option Addr := match v with | .slice a _ _ => a | _ => none
def slC (v : Value) : Nat := match v with | .slice _ _ c => c | _ => 0
theorem KI.frBlock {T : KT} {B : Nat} {w w' : World} {q : Nat} {V : Nat → Value} {E : Nat → List LE} (h : KI T B w q V E) {i : Nat} (hf : KFr (E i) w w') {k : Nat} {C : Array Value} {t : TypeId} (hk : w.heap[k]? = some (.cells C t (0, 0))) (ht : t ≠ T.te i) : w'.heap[k]? = w.heap[k]? :=
  hf.block k (lt_of_block hk) fun e he e2 => by
    obtain ⟨j, hj, rfl⟩ := List.getElem_of_mem he
    obtain ⟨X, hX⟩ := h.own i
    obtain ⟨cur, h1, _⟩ := row_block (hX j hj)
    rw [e2, hk] at h1
    simp at h1
    exact ht h1.2
theorem KI.frRow {T : KT} {B : Nat} {w w' : World} {q : Nat} {V : Nat → Value} {E : Nat → List LE} (h : KI T B w q V E) {i : Nat} (hf : KFr (E i) w w') {t : TypeId} {sz n : Nat} {v : Value} {xs : List Value} (ho : w.ownsRow 0 t sz v n xs) (ht : t ≠ T.te i) : w'.ownsRow 0 t sz v n xs := row_keptB ho fun k hk => by
  rcases ho.2 with ⟨rfl, _⟩ | ⟨g, cap, cur, rfl, _, hb, _⟩
  · simp [Value.ownBlock] at hk
  · simp [Value.ownBlock] at hk
    subst hk
    exact h.frBlock hf hb ht
set_option maxRecDepth 100000 in
set_option maxHeartbeats 2000000 in
theorem book_apartB (T : KT) (hT : T.Ok) (B q : Nat) (V : Nat → Value) (E : Nat → List LE) (w : World) (hK : KI T B w q V E) (h2 : T.te 0 = 5 ∧ T.sz 0 = 1 ∧ T.tl 0 = 22) (hno : ∀ i, i ≠ 0 → E i = []) (hl2 : (E 0).length ≤ 1000) (hn2 : ∀ e ∈ E 0, e.n ≤ 100000000) :
    Calls Tryd.prog 14 #[.pointer (some ⟨q, 0, none⟩)] w fun e w' => e = .returned (.bool true) ∧ KFr (E 0) w w' := by
  have HK : Hid (KI T B w q V E) := hK
  obtain ⟨X2, hX2⟩ := hK.own 0
  rw [h2.1, h2.2.1] at hX2
  have hr2 := hK.row 0
  rw [h2.2.2] at hr2
  have C2 : Hid (w.cell? ⟨q, 0, none⟩ = some (V 0)) := hK.cell (by omega)
  have R2 : Hid (HL 22 w (V 0) ((E 0).map LE.v)) := hr2
  have O2 : Hid (∀ j (h : j < (E 0).length), w.ownsRow 0 5 1 (E 0)[j].v (E 0)[j].n (X2 j)) := hX2
  have N2 : Hid (∀ e ∈ E 0, e.n ≤ 100000000) := hn2
  have HB2 : Hid (∀ w2, KFr (E 0) w w2 → w2.heap[q]? = w.heap[q]?) := fun w2 hf => hK.frBlock hf hK.hq (hT.qe 0)
  have HC : Hid (∀ w' : World, w'.heap[q]? = w.heap[q]? → ∀ i, i < 16 → i ≠ 0 → w'.cell? ⟨q, i, none⟩ = some (.slice (slA (V i)) 0 (slC (V i)))) := fun w' hb i hi n2 => by
    have hr := hK.row i
    rw [hno i n2] at hr
    obtain ⟨a, c, e⟩ := hr.slice
    rw [World.cell?_of_block hb, hK.cell hi, e]
    rfl
  clear hK hX2 hr2 hno hn2
  go_enter Tryd.func14, Tryd.ntmps14
  go_wp2_with (first
    | (go_at_call 35; refine (apart_bytes q (V 0) (E 0) X2 w C2.out R2.out O2.out (HK.out.nd 0) hl2 N2.out).mono ?_; rintro e w2 ⟨rfl, f2'⟩; have f2 : Hid (KFr (E 0) w w2) := f2'; clear f2'; have b2 : Hid _ := HB2.out w2 f2.out)
    | (go_at_call 36; refine (apartnilInts q (slA (V 1)) (slC (V 1)) w2 (HC.out w2 b2.out 1 (by omega) (by omega))).mono ?_; rintro e w' ⟨rfl, rfl⟩)
    | (go_at_call 37; refine (apartnilStrings q (slA (V 2)) (slC (V 2)) w2 (HC.out w2 b2.out 2 (by omega) (by omega))).mono ?_; rintro e w' ⟨rfl, rfl⟩)
    | (go_at_call 38; refine (apartnilBools q (slA (V 3)) (slC (V 3)) w2 (HC.out w2 b2.out 3 (by omega) (by omega))).mono ?_; rintro e w' ⟨rfl, rfl⟩)
    | (go_at_call 39; refine (apartnilSyms q (slA (V 4)) (slC (V 4)) w2 (HC.out w2 b2.out 4 (by omega) (by omega))).mono ?_; rintro e w' ⟨rfl, rfl⟩)
    | (go_at_call 40; refine (apartnilCores q (slA (V 5)) (slC (V 5)) w2 (HC.out w2 b2.out 5 (by omega) (by omega))).mono ?_; rintro e w' ⟨rfl, rfl⟩)
    | (go_at_call 41; refine (apartnilActions q (slA (V 6)) (slC (V 6)) w2 (HC.out w2 b2.out 6 (by omega) (by omega))).mono ?_; rintro e w' ⟨rfl, rfl⟩)
    | (go_at_call 42; refine (apartnilEdges q (slA (V 7)) (slC (V 7)) w2 (HC.out w2 b2.out 7 (by omega) (by omega))).mono ?_; rintro e w' ⟨rfl, rfl⟩)
    | (go_at_call 43; refine (apartnilPairs q (slA (V 8)) (slC (V 8)) w2 (HC.out w2 b2.out 8 (by omega) (by omega))).mono ?_; rintro e w' ⟨rfl, rfl⟩)
    | (go_at_call 44; refine (apartnilTokens q (slA (V 9)) (slC (V 9)) w2 (HC.out w2 b2.out 9 (by omega) (by omega))).mono ?_; rintro e w' ⟨rfl, rfl⟩)
    | (go_at_call 45; refine (apartnilProds q (slA (V 10)) (slC (V 10)) w2 (HC.out w2 b2.out 10 (by omega) (by omega))).mono ?_; rintro e w' ⟨rfl, rfl⟩)
    | (go_at_call 46; refine (apartnilLevels q (slA (V 11)) (slC (V 11)) w2 (HC.out w2 b2.out 11 (by omega) (by omega))).mono ?_; rintro e w' ⟨rfl, rfl⟩)
    | (go_at_call 47; refine (apartnilItems q (slA (V 12)) (slC (V 12)) w2 (HC.out w2 b2.out 12 (by omega) (by omega))).mono ?_; rintro e w' ⟨rfl, rfl⟩)
    | (go_at_call 48; refine (apartnilTrees q (slA (V 13)) (slC (V 13)) w2 (HC.out w2 b2.out 13 (by omega) (by omega))).mono ?_; rintro e w' ⟨rfl, rfl⟩)
    | (go_at_call 49; refine (apartnilRows q (slA (V 14)) (slC (V 14)) w2 (HC.out w2 b2.out 14 (by omega) (by omega))).mono ?_; rintro e w' ⟨rfl, rfl⟩)
    | (go_at_call 50; refine (apartnilConflicts q (slA (V 15)) (slC (V 15)) w2 (HC.out w2 b2.out 15 (by omega) (by omega))).mono ?_; rintro e w' ⟨rfl, rfl⟩))
  go_ret
  exact ⟨rfl, f2.out⟩
end Go.Proofs.YtfckmbdcfeljiaaDoor.K
