import Derived.Test.YthgnhdnmcjpdmaaGreatDoorPKBaseToKNil
import Derived.Test.YthgnhdnmcjpdmaaGreatDoorPKStr2ToKByte2
import Derived.Test.YthgnhdnmcjpdmaaGreatDoorPKInt2ToKSy2
import Derived.Test.YthgnhdnmcjpdmaaGreatDoorPKCore2ToKProd2
namespace Go.Proofs.YthgnhdnmcjpdmaaGreatDoor
set_option linter.unusedVariables false
set_option maxRecDepth 100000
set_option maxHeartbeats 16000000
open Go.RowKit Go.Maps
theorem book_bytes (T : KT) (hT : T.Ok) (B q : Nat) (V : Nat -> Value) (E : Nat -> List LE) (w : World) (a : Option Addr) (n c : Nat) (X : List Value) (hK : KI T B w q V E) (ht : T.te 0 = 5 /\ T.sz 0 = 1 /\ T.tl 0 = 55) (hX : n ≠ 0 -> w.ownsRow 0 5 1 (.slice a n c) n X) (hlo : n ≠ 0 -> ∀ k, (Value.slice a n c).ownBlock = some k -> B <= k /\ ∀ x ∈ E 0, x.g ≠ k) (hlen : (E 0).length <= 100000000) :
  Calls Tryz.prog 11 #[.pointer (some ⟨q, 0, none⟩), .slice a n c] w fun e w' => e = .returned (.tuple #[]) /\ ∃ V' E', KI T B w' q V' E' /\ (∀ i, i ≠ 0 -> E' i = E i) /\ (E' 0 = E 0 ∨ ∃ g, a = some ⟨g, 0, none⟩ /\ n ≠ 0 /\ E' 0 = E 0 ++ [⟨g, n, c⟩]) /\ Below B w w' /\ KQ T w w' := by
 by_cases h0 : n = 0
 ·subst h0
  have HK : Hid (KI T B w q V E) := hK
  clear hK hX hlo
  go_enter Tryz.func11, Tryz.ntmps11
  go_wp2
  go_end0
  exact ⟨rfl, V, E, HK.out, fun _ _ => rfl, .inl rfl, Below.refl _ _, KQ.refl _ _⟩
 ·obtain ⟨g, rfl⟩ : ∃ g, a = some ⟨g, 0, none⟩ := by
   rcases (hX h0).2 with ⟨e, h⟩ | ⟨g, cap, cur, e, _⟩
   ·exact absurd h h0
   ·simp only [Value.slice.injEq] at e
    exact ⟨g, e.1⟩
  have HK : Hid (KI T B (w.alloc (.cells #[.slice (some ⟨g, 0, none⟩) n c] 55)) q V E) := hK.later (below_alloc w _)
  have HX : Hid ((w.alloc (.cells #[.slice (some ⟨g, 0, none⟩) n c] 55)).ownsRow 0 5 1 (LE.mk g n c).v n X) := row_later (hX h0) (below_alloc w _)
  have HSZ : Hid (B <= w.heap.size) := hK.size
  have HO : Hid (B <= g /\ ∀ x ∈ E 0, x.g ≠ g) := hlo h0 g rfl
  have c0 := hK.cell (i := 0) (by omega)
  have R : Hid (HL 55 (w.alloc (.cells #[.slice (some ⟨g, 0, none⟩) n c] 55)) (V 0) ((E 0).map LE.v)) := by have := HK.out.row 0; rw [ht.2.2] at this; exact this
  have AF : Hid (∀ w5 L5, Grew (w.alloc (.cells #[.slice (some ⟨g, 0, none⟩) n c] 55)) w5 (V 0) L5 -> w5.cell? ⟨q, 0, none⟩ = some (V 0) /\ w5.frozen? ⟨q, 0, none⟩ = false) := fun w5 L5 hg => by
   have b := (hg.grown.block q (lt_of_block HK.out.hq) (HK.out.ne hT 0)).trans HK.out.hq
   exact ⟨by simp only [World.cell?, b]; exact kArr_get V (by omega), by simp [World.frozen?, b]⟩
  have HLE : Hid (((E 0).map LE.v).length <= 5000000000000) := by show _ <= _; simp; omega
  have HT : Hid (T.te 0 = 5 /\ T.sz 0 = 1 /\ T.tl 0 = 55) := ht
  have hn : (n : Int) > 0 := by omega
  clear hK hX hlo ht hlen
  generalize hV : V 0 = L at *
  go_enter Tryz.func11, Tryz.ntmps11
  go_wp2_with (at_builtin; refine wpList_hl_append Tryz.underlying32 infoBYK rfl _ _ rfl L ((E 0).map LE.v) rfl R.out w.heap.size 1 (.slice (some ⟨g, 0, none⟩) n c) rfl (one_new w _ _ 0 _ rfl) rfl HLE.out ?_; intro L5 w5 hl5 hg5; obtain ⟨a5, N5, c5, rfl⟩ := hl5.slice3; obtain ⟨d1, d2⟩ := AF.out w5 _ hg5)
  go_end0
  obtain ⟨r1, r2⟩ := HK.out.store (i := 0) (v' := .slice a5 N5 c5) (e := ⟨g, n, c⟩) (X := X) hT (by rw [hV]; exact hg5) (by rw [HT.out.2.2]; exact hl5) (by rw [HT.out.1, HT.out.2.1]; exact HX.out) HO.out.2 HO.out.1
  exact ⟨rfl, _, _, r1, fun i hi => if_neg hi, .inr ⟨g, rfl, h0, if_pos rfl⟩, ((Below.refl B w).alloc HSZ.out _).trans r2, (KQ.of (below_alloc w _)).trans (HK.out.storeQ hT (by rw [hV]; exact hg5))⟩
theorem book_ints (T : KT) (hT : T.Ok) (B q : Nat) (V : Nat -> Value) (E : Nat -> List LE) (w : World) (a : Option Addr) (n c : Nat) (X : List Value) (hK : KI T B w q V E) (ht : T.te 1 = 3 /\ T.sz 1 = 1 /\ T.tl 1 = 27) (hX : n ≠ 0 -> w.ownsRow 0 3 1 (.slice a n c) n X) (hlo : n ≠ 0 -> ∀ k, (Value.slice a n c).ownBlock = some k -> B <= k /\ ∀ x ∈ E 1, x.g ≠ k) (hlen : (E 1).length <= 100000000) :
  Calls Tryz.prog 12 #[.pointer (some ⟨q, 0, none⟩), .slice a n c] w fun e w' => e = .returned (.tuple #[]) /\ ∃ V' E', KI T B w' q V' E' /\ (∀ i, i ≠ 1 -> E' i = E i) /\ (E' 1 = E 1 ∨ ∃ g, a = some ⟨g, 0, none⟩ /\ n ≠ 0 /\ E' 1 = E 1 ++ [⟨g, n, c⟩]) /\ Below B w w' /\ KQ T w w' := by
 by_cases h0 : n = 0
 ·subst h0
  have HK : Hid (KI T B w q V E) := hK
  clear hK hX hlo
  go_enter Tryz.func12, Tryz.ntmps12
  go_wp2
  go_end0
  exact ⟨rfl, V, E, HK.out, fun _ _ => rfl, .inl rfl, Below.refl _ _, KQ.refl _ _⟩
 ·obtain ⟨g, rfl⟩ : ∃ g, a = some ⟨g, 0, none⟩ := by
   rcases (hX h0).2 with ⟨e, h⟩ | ⟨g, cap, cur, e, _⟩
   ·exact absurd h h0
   ·simp only [Value.slice.injEq] at e
    exact ⟨g, e.1⟩
  have HK : Hid (KI T B (w.alloc (.cells #[.slice (some ⟨g, 0, none⟩) n c] 27)) q V E) := hK.later (below_alloc w _)
  have HX : Hid ((w.alloc (.cells #[.slice (some ⟨g, 0, none⟩) n c] 27)).ownsRow 0 3 1 (LE.mk g n c).v n X) := row_later (hX h0) (below_alloc w _)
  have HSZ : Hid (B <= w.heap.size) := hK.size
  have HO : Hid (B <= g /\ ∀ x ∈ E 1, x.g ≠ g) := hlo h0 g rfl
  have c0 := hK.cell (i := 1) (by omega)
  have R : Hid (HL 27 (w.alloc (.cells #[.slice (some ⟨g, 0, none⟩) n c] 27)) (V 1) ((E 1).map LE.v)) := by have := HK.out.row 1; rw [ht.2.2] at this; exact this
  have AF : Hid (∀ w5 L5, Grew (w.alloc (.cells #[.slice (some ⟨g, 0, none⟩) n c] 27)) w5 (V 1) L5 -> w5.cell? ⟨q, 1, none⟩ = some (V 1) /\ w5.frozen? ⟨q, 1, none⟩ = false) := fun w5 L5 hg => by
   have b := (hg.grown.block q (lt_of_block HK.out.hq) (HK.out.ne hT 1)).trans HK.out.hq
   exact ⟨by simp only [World.cell?, b]; exact kArr_get V (by omega), by simp [World.frozen?, b]⟩
  have HLE : Hid (((E 1).map LE.v).length <= 5000000000000) := by show _ <= _; simp; omega
  have HT : Hid (T.te 1 = 3 /\ T.sz 1 = 1 /\ T.tl 1 = 27) := ht
  have hn : (n : Int) > 0 := by omega
  clear hK hX hlo ht hlen
  generalize hV : V 1 = L at *
  go_enter Tryz.func12, Tryz.ntmps12
  go_wp2_with (at_builtin; refine wpList_hl_append Tryz.underlying33 infoINK rfl _ _ rfl L ((E 1).map LE.v) rfl R.out w.heap.size 1 (.slice (some ⟨g, 0, none⟩) n c) rfl (one_new w _ _ 0 _ rfl) rfl HLE.out ?_; intro L5 w5 hl5 hg5; obtain ⟨a5, N5, c5, rfl⟩ := hl5.slice3; obtain ⟨d1, d2⟩ := AF.out w5 _ hg5)
  go_end0
  obtain ⟨r1, r2⟩ := HK.out.store (i := 1) (v' := .slice a5 N5 c5) (e := ⟨g, n, c⟩) (X := X) hT (by rw [hV]; exact hg5) (by rw [HT.out.2.2]; exact hl5) (by rw [HT.out.1, HT.out.2.1]; exact HX.out) HO.out.2 HO.out.1
  exact ⟨rfl, _, _, r1, fun i hi => if_neg hi, .inr ⟨g, rfl, h0, if_pos rfl⟩, ((Below.refl B w).alloc HSZ.out _).trans r2, (KQ.of (below_alloc w _)).trans (HK.out.storeQ hT (by rw [hV]; exact hg5))⟩
theorem book_strsG (T : KT) (hT : T.Ok) (B q : Nat) (V : Nat -> Value) (E : Nat -> List LE) (w : World) (a : Option Addr) (n c : Nat) (X : List Value) (hK : KI T B w q V E) (ht : T.te 2 = 9 /\ T.sz 2 = 1 /\ T.tl 2 = 22) (hX : n ≠ 0 -> w.ownsRow 0 9 1 (.slice a n c) n X) (hlo : n ≠ 0 -> ∀ k, (Value.slice a n c).ownBlock = some k -> B <= k /\ ∀ x ∈ E 2, x.g ≠ k) (hlen : (E 2).length <= 100000000) :
  Calls Tryz.prog 40 #[.pointer (some ⟨q, 0, none⟩), .slice a n c] w fun e w' => e = .returned (.tuple #[]) /\ ∃ V' E', KI T B w' q V' E' /\ (∀ i, i ≠ 2 -> E' i = E i) /\ (E' 2 = E 2 ∨ ∃ g, a = some ⟨g, 0, none⟩ /\ n ≠ 0 /\ E' 2 = E 2 ++ [⟨g, n, c⟩]) /\ Below B w w' /\ KQ T w w' := by
 by_cases h0 : n = 0
 ·subst h0
  have HK : Hid (KI T B w q V E) := hK
  clear hK hX hlo
  go_enter Tryz.func40, Tryz.ntmps40
  go_wp2
  go_end0
  exact ⟨rfl, V, E, HK.out, fun _ _ => rfl, .inl rfl, Below.refl _ _, KQ.refl _ _⟩
 ·obtain ⟨g, rfl⟩ : ∃ g, a = some ⟨g, 0, none⟩ := by
   rcases (hX h0).2 with ⟨e, h⟩ | ⟨g, cap, cur, e, _⟩
   ·exact absurd h h0
   ·simp only [Value.slice.injEq] at e
    exact ⟨g, e.1⟩
  have HK : Hid (KI T B (w.alloc (.cells #[.slice (some ⟨g, 0, none⟩) n c] 22)) q V E) := hK.later (below_alloc w _)
  have HX : Hid ((w.alloc (.cells #[.slice (some ⟨g, 0, none⟩) n c] 22)).ownsRow 0 9 1 (LE.mk g n c).v n X) := row_later (hX h0) (below_alloc w _)
  have HSZ : Hid (B <= w.heap.size) := hK.size
  have HO : Hid (B <= g /\ ∀ x ∈ E 2, x.g ≠ g) := hlo h0 g rfl
  have c0 := hK.cell (i := 2) (by omega)
  have R : Hid (HL 22 (w.alloc (.cells #[.slice (some ⟨g, 0, none⟩) n c] 22)) (V 2) ((E 2).map LE.v)) := by have := HK.out.row 2; rw [ht.2.2] at this; exact this
  have AF : Hid (∀ w5 L5, Grew (w.alloc (.cells #[.slice (some ⟨g, 0, none⟩) n c] 22)) w5 (V 2) L5 -> w5.cell? ⟨q, 2, none⟩ = some (V 2) /\ w5.frozen? ⟨q, 2, none⟩ = false) := fun w5 L5 hg => by
   have b := (hg.grown.block q (lt_of_block HK.out.hq) (HK.out.ne hT 2)).trans HK.out.hq
   exact ⟨by simp only [World.cell?, b]; exact kArr_get V (by omega), by simp [World.frozen?, b]⟩
  have HLE : Hid (((E 2).map LE.v).length <= 5000000000000) := by show _ <= _; simp; omega
  have HT : Hid (T.te 2 = 9 /\ T.sz 2 = 1 /\ T.tl 2 = 22) := ht
  have hn : (n : Int) > 0 := by omega
  clear hK hX hlo ht hlen
  generalize hV : V 2 = L at *
  go_enter Tryz.func40, Tryz.ntmps40
  go_wp2_with (at_builtin; refine wpList_hl_append Tryz.underlying34 infoSSK rfl _ _ rfl L ((E 2).map LE.v) rfl R.out w.heap.size 1 (.slice (some ⟨g, 0, none⟩) n c) rfl (one_new w _ _ 0 _ rfl) rfl HLE.out ?_; intro L5 w5 hl5 hg5; obtain ⟨a5, N5, c5, rfl⟩ := hl5.slice3; obtain ⟨d1, d2⟩ := AF.out w5 _ hg5)
  go_end0
  obtain ⟨r1, r2⟩ := HK.out.store (i := 2) (v' := .slice a5 N5 c5) (e := ⟨g, n, c⟩) (X := X) hT (by rw [hV]; exact hg5) (by rw [HT.out.2.2]; exact hl5) (by rw [HT.out.1, HT.out.2.1]; exact HX.out) HO.out.2 HO.out.1
  exact ⟨rfl, _, _, r1, fun i hi => if_neg hi, .inr ⟨g, rfl, h0, if_pos rfl⟩, ((Below.refl B w).alloc HSZ.out _).trans r2, (KQ.of (below_alloc w _)).trans (HK.out.storeQ hT (by rw [hV]; exact hg5))⟩
theorem book_symsW (T : KT) (hT : T.Ok) (B q : Nat) (V : Nat -> Value) (E : Nat -> List LE) (w : World) (a : Option Addr) (n c : Nat) (X : List Value) (hK : KI T B w q V E) (ht : T.te 4 = 30 /\ T.sz 4 = 2 /\ T.tl 4 = 73) (hX : n ≠ 0 -> w.ownsRow 0 30 2 (.slice a n c) n X) (hlo : n ≠ 0 -> ∀ k, (Value.slice a n c).ownBlock = some k -> B <= k /\ ∀ x ∈ E 4, x.g ≠ k) (hlen : (E 4).length <= 100000000) :
  Calls Tryz.prog 104 #[.pointer (some ⟨q, 0, none⟩), .slice a n c] w fun e w' => e = .returned (.tuple #[]) /\ ∃ V' E', KI T B w' q V' E' /\ (∀ i, i ≠ 4 -> E' i = E i) /\ (E' 4 = E 4 ∨ ∃ g, a = some ⟨g, 0, none⟩ /\ n ≠ 0 /\ E' 4 = E 4 ++ [⟨g, n, c⟩]) /\ Below B w w' /\ KQ T w w' := by
 by_cases h0 : n = 0
 ·subst h0
  have HK : Hid (KI T B w q V E) := hK
  clear hK hX hlo
  go_enter Tryz.func104, Tryz.ntmps104
  go_wp2
  go_end0
  exact ⟨rfl, V, E, HK.out, fun _ _ => rfl, .inl rfl, Below.refl _ _, KQ.refl _ _⟩
 ·obtain ⟨g, rfl⟩ : ∃ g, a = some ⟨g, 0, none⟩ := by
   rcases (hX h0).2 with ⟨e, h⟩ | ⟨g, cap, cur, e, _⟩
   ·exact absurd h h0
   ·simp only [Value.slice.injEq] at e
    exact ⟨g, e.1⟩
  have HK : Hid (KI T B (w.alloc (.cells #[.slice (some ⟨g, 0, none⟩) n c] 73)) q V E) := hK.later (below_alloc w _)
  have HX : Hid ((w.alloc (.cells #[.slice (some ⟨g, 0, none⟩) n c] 73)).ownsRow 0 30 2 (LE.mk g n c).v n X) := row_later (hX h0) (below_alloc w _)
  have HSZ : Hid (B <= w.heap.size) := hK.size
  have HO : Hid (B <= g /\ ∀ x ∈ E 4, x.g ≠ g) := hlo h0 g rfl
  have c0 := hK.cell (i := 4) (by omega)
  have R : Hid (HL 73 (w.alloc (.cells #[.slice (some ⟨g, 0, none⟩) n c] 73)) (V 4) ((E 4).map LE.v)) := by have := HK.out.row 4; rw [ht.2.2] at this; exact this
  have AF : Hid (∀ w5 L5, Grew (w.alloc (.cells #[.slice (some ⟨g, 0, none⟩) n c] 73)) w5 (V 4) L5 -> w5.cell? ⟨q, 4, none⟩ = some (V 4) /\ w5.frozen? ⟨q, 4, none⟩ = false) := fun w5 L5 hg => by
   have b := (hg.grown.block q (lt_of_block HK.out.hq) (HK.out.ne hT 4)).trans HK.out.hq
   exact ⟨by simp only [World.cell?, b]; exact kArr_get V (by omega), by simp [World.frozen?, b]⟩
  have HLE : Hid (((E 4).map LE.v).length <= 5000000000000) := by show _ <= _; simp; omega
  have HT : Hid (T.te 4 = 30 /\ T.sz 4 = 2 /\ T.tl 4 = 73) := ht
  have hn : (n : Int) > 0 := by omega
  clear hK hX hlo ht hlen
  generalize hV : V 4 = L at *
  go_enter Tryz.func104, Tryz.ntmps104
  go_wp2_with (at_builtin; refine wpList_hl_append Tryz.underlying36 infoSYK rfl _ _ rfl L ((E 4).map LE.v) rfl R.out w.heap.size 1 (.slice (some ⟨g, 0, none⟩) n c) rfl (one_new w _ _ 0 _ rfl) rfl HLE.out ?_; intro L5 w5 hl5 hg5; obtain ⟨a5, N5, c5, rfl⟩ := hl5.slice3; obtain ⟨d1, d2⟩ := AF.out w5 _ hg5)
  go_end0
  obtain ⟨r1, r2⟩ := HK.out.store (i := 4) (v' := .slice a5 N5 c5) (e := ⟨g, n, c⟩) (X := X) hT (by rw [hV]; exact hg5) (by rw [HT.out.2.2]; exact hl5) (by rw [HT.out.1, HT.out.2.1]; exact HX.out) HO.out.2 HO.out.1
  exact ⟨rfl, _, _, r1, fun i hi => if_neg hi, .inr ⟨g, rfl, h0, if_pos rfl⟩, ((Below.refl B w).alloc HSZ.out _).trans r2, (KQ.of (below_alloc w _)).trans (HK.out.storeQ hT (by rw [hV]; exact hg5))⟩
theorem book_cores (T : KT) (hT : T.Ok) (B q : Nat) (V : Nat -> Value) (E : Nat -> List LE) (w : World) (a : Option Addr) (n c : Nat) (X : List Value) (hK : KI T B w q V E) (ht : T.te 5 = 107 /\ T.sz 5 = 2 /\ T.tl 5 = 65) (hX : n ≠ 0 -> w.ownsRow 0 107 2 (.slice a n c) n X) (hlo : n ≠ 0 -> ∀ k, (Value.slice a n c).ownBlock = some k -> B <= k /\ ∀ x ∈ E 5, x.g ≠ k) (hlen : (E 5).length <= 100000000) :
  Calls Tryz.prog 14 #[.pointer (some ⟨q, 0, none⟩), .slice a n c] w fun e w' => e = .returned (.tuple #[]) /\ ∃ V' E', KI T B w' q V' E' /\ (∀ i, i ≠ 5 -> E' i = E i) /\ (E' 5 = E 5 ∨ ∃ g, a = some ⟨g, 0, none⟩ /\ n ≠ 0 /\ E' 5 = E 5 ++ [⟨g, n, c⟩]) /\ Below B w w' /\ KQ T w w' := by
 by_cases h0 : n = 0
 ·subst h0
  have HK : Hid (KI T B w q V E) := hK
  clear hK hX hlo
  go_enter Tryz.func14, Tryz.ntmps14
  go_wp2
  go_end0
  exact ⟨rfl, V, E, HK.out, fun _ _ => rfl, .inl rfl, Below.refl _ _, KQ.refl _ _⟩
 ·obtain ⟨g, rfl⟩ : ∃ g, a = some ⟨g, 0, none⟩ := by
   rcases (hX h0).2 with ⟨e, h⟩ | ⟨g, cap, cur, e, _⟩
   ·exact absurd h h0
   ·simp only [Value.slice.injEq] at e
    exact ⟨g, e.1⟩
  have HK : Hid (KI T B (w.alloc (.cells #[.slice (some ⟨g, 0, none⟩) n c] 65)) q V E) := hK.later (below_alloc w _)
  have HX : Hid ((w.alloc (.cells #[.slice (some ⟨g, 0, none⟩) n c] 65)).ownsRow 0 107 2 (LE.mk g n c).v n X) := row_later (hX h0) (below_alloc w _)
  have HSZ : Hid (B <= w.heap.size) := hK.size
  have HO : Hid (B <= g /\ ∀ x ∈ E 5, x.g ≠ g) := hlo h0 g rfl
  have c0 := hK.cell (i := 5) (by omega)
  have R : Hid (HL 65 (w.alloc (.cells #[.slice (some ⟨g, 0, none⟩) n c] 65)) (V 5) ((E 5).map LE.v)) := by have := HK.out.row 5; rw [ht.2.2] at this; exact this
  have AF : Hid (∀ w5 L5, Grew (w.alloc (.cells #[.slice (some ⟨g, 0, none⟩) n c] 65)) w5 (V 5) L5 -> w5.cell? ⟨q, 5, none⟩ = some (V 5) /\ w5.frozen? ⟨q, 5, none⟩ = false) := fun w5 L5 hg => by
   have b := (hg.grown.block q (lt_of_block HK.out.hq) (HK.out.ne hT 5)).trans HK.out.hq
   exact ⟨by simp only [World.cell?, b]; exact kArr_get V (by omega), by simp [World.frozen?, b]⟩
  have HLE : Hid (((E 5).map LE.v).length <= 5000000000000) := by show _ <= _; simp; omega
  have HT : Hid (T.te 5 = 107 /\ T.sz 5 = 2 /\ T.tl 5 = 65) := ht
  have hn : (n : Int) > 0 := by omega
  clear hK hX hlo ht hlen
  generalize hV : V 5 = L at *
  go_enter Tryz.func14, Tryz.ntmps14
  go_wp2_with (at_builtin; refine wpList_hl_append Tryz.underlying37 infoCRK rfl _ _ rfl L ((E 5).map LE.v) rfl R.out w.heap.size 1 (.slice (some ⟨g, 0, none⟩) n c) rfl (one_new w _ _ 0 _ rfl) rfl HLE.out ?_; intro L5 w5 hl5 hg5; obtain ⟨a5, N5, c5, rfl⟩ := hl5.slice3; obtain ⟨d1, d2⟩ := AF.out w5 _ hg5)
  go_end0
  obtain ⟨r1, r2⟩ := HK.out.store (i := 5) (v' := .slice a5 N5 c5) (e := ⟨g, n, c⟩) (X := X) hT (by rw [hV]; exact hg5) (by rw [HT.out.2.2]; exact hl5) (by rw [HT.out.1, HT.out.2.1]; exact HX.out) HO.out.2 HO.out.1
  exact ⟨rfl, _, _, r1, fun i hi => if_neg hi, .inr ⟨g, rfl, h0, if_pos rfl⟩, ((Below.refl B w).alloc HSZ.out _).trans r2, (KQ.of (below_alloc w _)).trans (HK.out.storeQ hT (by rw [hV]; exact hg5))⟩
theorem book_prods (T : KT) (hT : T.Ok) (B q : Nat) (V : Nat -> Value) (E : Nat -> List LE) (w : World) (a : Option Addr) (n c : Nat) (X : List Value) (hK : KI T B w q V E) (ht : T.te 10 = 75 /\ T.sz 10 = 3 /\ T.tl 10 = 23) (hX : n ≠ 0 -> w.ownsRow 0 75 3 (.slice a n c) n X) (hlo : n ≠ 0 -> ∀ k, (Value.slice a n c).ownBlock = some k -> B <= k /\ ∀ x ∈ E 10, x.g ≠ k) (hlen : (E 10).length <= 100000000) :
  Calls Tryz.prog 105 #[.pointer (some ⟨q, 0, none⟩), .slice a n c] w fun e w' => e = .returned (.tuple #[]) /\ ∃ V' E', KI T B w' q V' E' /\ (∀ i, i ≠ 10 -> E' i = E i) /\ (E' 10 = E 10 ∨ ∃ g, a = some ⟨g, 0, none⟩ /\ n ≠ 0 /\ E' 10 = E 10 ++ [⟨g, n, c⟩]) /\ Below B w w' /\ KQ T w w' := by
 by_cases h0 : n = 0
 ·subst h0
  have HK : Hid (KI T B w q V E) := hK
  clear hK hX hlo
  go_enter Tryz.func105, Tryz.ntmps105
  go_wp2
  go_end0
  exact ⟨rfl, V, E, HK.out, fun _ _ => rfl, .inl rfl, Below.refl _ _, KQ.refl _ _⟩
 ·obtain ⟨g, rfl⟩ : ∃ g, a = some ⟨g, 0, none⟩ := by
   rcases (hX h0).2 with ⟨e, h⟩ | ⟨g, cap, cur, e, _⟩
   ·exact absurd h h0
   ·simp only [Value.slice.injEq] at e
    exact ⟨g, e.1⟩
  have HK : Hid (KI T B (w.alloc (.cells #[.slice (some ⟨g, 0, none⟩) n c] 23)) q V E) := hK.later (below_alloc w _)
  have HX : Hid ((w.alloc (.cells #[.slice (some ⟨g, 0, none⟩) n c] 23)).ownsRow 0 75 3 (LE.mk g n c).v n X) := row_later (hX h0) (below_alloc w _)
  have HSZ : Hid (B <= w.heap.size) := hK.size
  have HO : Hid (B <= g /\ ∀ x ∈ E 10, x.g ≠ g) := hlo h0 g rfl
  have c0 := hK.cell (i := 10) (by omega)
  have R : Hid (HL 23 (w.alloc (.cells #[.slice (some ⟨g, 0, none⟩) n c] 23)) (V 10) ((E 10).map LE.v)) := by have := HK.out.row 10; rw [ht.2.2] at this; exact this
  have AF : Hid (∀ w5 L5, Grew (w.alloc (.cells #[.slice (some ⟨g, 0, none⟩) n c] 23)) w5 (V 10) L5 -> w5.cell? ⟨q, 10, none⟩ = some (V 10) /\ w5.frozen? ⟨q, 10, none⟩ = false) := fun w5 L5 hg => by
   have b := (hg.grown.block q (lt_of_block HK.out.hq) (HK.out.ne hT 10)).trans HK.out.hq
   exact ⟨by simp only [World.cell?, b]; exact kArr_get V (by omega), by simp [World.frozen?, b]⟩
  have HLE : Hid (((E 10).map LE.v).length <= 5000000000000) := by show _ <= _; simp; omega
  have HT : Hid (T.te 10 = 75 /\ T.sz 10 = 3 /\ T.tl 10 = 23) := ht
  have hn : (n : Int) > 0 := by omega
  clear hK hX hlo ht hlen
  generalize hV : V 10 = L at *
  go_enter Tryz.func105, Tryz.ntmps105
  go_wp2_with (at_builtin; refine wpList_hl_append Tryz.underlying42 infoPDK rfl _ _ rfl L ((E 10).map LE.v) rfl R.out w.heap.size 1 (.slice (some ⟨g, 0, none⟩) n c) rfl (one_new w _ _ 0 _ rfl) rfl HLE.out ?_; intro L5 w5 hl5 hg5; obtain ⟨a5, N5, c5, rfl⟩ := hl5.slice3; obtain ⟨d1, d2⟩ := AF.out w5 _ hg5)
  go_end0
  obtain ⟨r1, r2⟩ := HK.out.store (i := 10) (v' := .slice a5 N5 c5) (e := ⟨g, n, c⟩) (X := X) hT (by rw [hV]; exact hg5) (by rw [HT.out.2.2]; exact hl5) (by rw [HT.out.1, HT.out.2.1]; exact HX.out) HO.out.2 HO.out.1
  exact ⟨rfl, _, _, r1, fun i hi => if_neg hi, .inr ⟨g, rfl, h0, if_pos rfl⟩, ((Below.refl B w).alloc HSZ.out _).trans r2, (KQ.of (below_alloc w _)).trans (HK.out.storeQ hT (by rw [hV]; exact hg5))⟩
theorem book_levels (T : KT) (hT : T.Ok) (B q : Nat) (V : Nat -> Value) (E : Nat -> List LE) (w : World) (a : Option Addr) (n c : Nat) (X : List Value) (hK : KI T B w q V E) (ht : T.te 11 = 92 /\ T.sz 11 = 2 /\ T.tl 11 = 24) (hX : n ≠ 0 -> w.ownsRow 0 92 2 (.slice a n c) n X) (hlo : n ≠ 0 -> ∀ k, (Value.slice a n c).ownBlock = some k -> B <= k /\ ∀ x ∈ E 11, x.g ≠ k) (hlen : (E 11).length <= 100000000) :
  Calls Tryz.prog 42 #[.pointer (some ⟨q, 0, none⟩), .slice a n c] w fun e w' => e = .returned (.tuple #[]) /\ ∃ V' E', KI T B w' q V' E' /\ (∀ i, i ≠ 11 -> E' i = E i) /\ (E' 11 = E 11 ∨ ∃ g, a = some ⟨g, 0, none⟩ /\ n ≠ 0 /\ E' 11 = E 11 ++ [⟨g, n, c⟩]) /\ Below B w w' /\ KQ T w w' := by
 by_cases h0 : n = 0
 ·subst h0
  have HK : Hid (KI T B w q V E) := hK
  clear hK hX hlo
  go_enter Tryz.func42, Tryz.ntmps42
  go_wp2
  go_end0
  exact ⟨rfl, V, E, HK.out, fun _ _ => rfl, .inl rfl, Below.refl _ _, KQ.refl _ _⟩
 ·obtain ⟨g, rfl⟩ : ∃ g, a = some ⟨g, 0, none⟩ := by
   rcases (hX h0).2 with ⟨e, h⟩ | ⟨g, cap, cur, e, _⟩
   ·exact absurd h h0
   ·simp only [Value.slice.injEq] at e
    exact ⟨g, e.1⟩
  have HK : Hid (KI T B (w.alloc (.cells #[.slice (some ⟨g, 0, none⟩) n c] 24)) q V E) := hK.later (below_alloc w _)
  have HX : Hid ((w.alloc (.cells #[.slice (some ⟨g, 0, none⟩) n c] 24)).ownsRow 0 92 2 (LE.mk g n c).v n X) := row_later (hX h0) (below_alloc w _)
  have HSZ : Hid (B <= w.heap.size) := hK.size
  have HO : Hid (B <= g /\ ∀ x ∈ E 11, x.g ≠ g) := hlo h0 g rfl
  have c0 := hK.cell (i := 11) (by omega)
  have R : Hid (HL 24 (w.alloc (.cells #[.slice (some ⟨g, 0, none⟩) n c] 24)) (V 11) ((E 11).map LE.v)) := by have := HK.out.row 11; rw [ht.2.2] at this; exact this
  have AF : Hid (∀ w5 L5, Grew (w.alloc (.cells #[.slice (some ⟨g, 0, none⟩) n c] 24)) w5 (V 11) L5 -> w5.cell? ⟨q, 11, none⟩ = some (V 11) /\ w5.frozen? ⟨q, 11, none⟩ = false) := fun w5 L5 hg => by
   have b := (hg.grown.block q (lt_of_block HK.out.hq) (HK.out.ne hT 11)).trans HK.out.hq
   exact ⟨by simp only [World.cell?, b]; exact kArr_get V (by omega), by simp [World.frozen?, b]⟩
  have HLE : Hid (((E 11).map LE.v).length <= 5000000000000) := by show _ <= _; simp; omega
  have HT : Hid (T.te 11 = 92 /\ T.sz 11 = 2 /\ T.tl 11 = 24) := ht
  have hn : (n : Int) > 0 := by omega
  clear hK hX hlo ht hlen
  generalize hV : V 11 = L at *
  go_enter Tryz.func42, Tryz.ntmps42
  go_wp2_with (at_builtin; refine wpList_hl_append Tryz.underlying43 infoLVK rfl _ _ rfl L ((E 11).map LE.v) rfl R.out w.heap.size 1 (.slice (some ⟨g, 0, none⟩) n c) rfl (one_new w _ _ 0 _ rfl) rfl HLE.out ?_; intro L5 w5 hl5 hg5; obtain ⟨a5, N5, c5, rfl⟩ := hl5.slice3; obtain ⟨d1, d2⟩ := AF.out w5 _ hg5)
  go_end0
  obtain ⟨r1, r2⟩ := HK.out.store (i := 11) (v' := .slice a5 N5 c5) (e := ⟨g, n, c⟩) (X := X) hT (by rw [hV]; exact hg5) (by rw [HT.out.2.2]; exact hl5) (by rw [HT.out.1, HT.out.2.1]; exact HX.out) HO.out.2 HO.out.1
  exact ⟨rfl, _, _, r1, fun i hi => if_neg hi, .inr ⟨g, rfl, h0, if_pos rfl⟩, ((Below.refl B w).alloc HSZ.out _).trans r2, (KQ.of (below_alloc w _)).trans (HK.out.storeQ hT (by rw [hV]; exact hg5))⟩
end Go.Proofs.YthgnhdnmcjpdmaaGreatDoor
namespace Go.Proofs.YthgnhdnmcjpdmaaGreatDoor
set_option linter.unusedVariables false
set_option maxRecDepth 100000
set_option maxHeartbeats 16000000
open Go.RowKit Go.Maps
def kG : KT := ⟨fun i => match i with | 0 => 5 | 1 => 3 | 2 => 9 | 4 => 30 | 5 => 107 | 10 => 75 | 11 => 92 | _ => 4, fun i => match i with | 0 => 1 | 1 => 1 | 2 => 1 | 4 => 2 | 5 => 2 | 10 => 3 | 11 => 2 | _ => 1, fun i => match i with | 0 => 55 | 1 => 27 | 2 => 22 | 4 => 73 | 5 => 65 | 10 => 23 | 11 => 24 | _ => 27⟩
def slA (v : Value) : Option Addr := match v with | .slice a _ _ => a | _ => none
def slC (v : Value) : Nat := match v with | .slice _ _ c => c | _ => 0
structure KA (T : KT) (B : Nat) (w0 : World) (q : Nat) (V : Nat -> Value) (E : Nat -> List LE) (n : Nat) (w : World) : Prop where
 blk : w.heap[q]? = some (.cells (kArr V) 49 (0, 0))
 row : ∀ i, n <= i -> HL (T.tl i) w (V i) ((E i).map LE.v)
 own : ∀ i, n <= i -> ∃ X : Nat -> List Value, ∀ j (h : j < (E i).length), w.ownsRow 0 (T.te i) (T.sz i) (E i)[j].v (E i)[j].n (X j)
 size : B <= w.heap.size
 bel : Below B w0 w
section
variable {T : KT} {B : Nat} {w0 w w' : World} {q n : Nat} {V : Nat -> Value} {E : Nat -> List LE}
theorem KI.toA (h : KI T B w q V E) : KA T B w q V E 0 w := ⟨h.hq, fun i _ => h.row i, fun i _ => h.own i, h.size, Below.refl _ _⟩
theorem KA.skip (h : KA T B w0 q V E n w) : KA T B w0 q V E (n + 1) w := ⟨h.blk, fun i hi => h.row i (by omega), fun i hi => h.own i (by omega), h.size, h.bel⟩
theorem KA.block (h : KA T B w0 q V E n w) (hf : KFr (E n) w w') {k : Nat} {C : Array Value} {t : TypeId} (hk : w.heap[k]? = some (.cells C t (0, 0))) (ht : t ≠ T.te n) : w'.heap[k]? = w.heap[k]? :=
 hf.block k (lt_of_block hk) fun e he e2 => by
  obtain ⟨j, hj, rfl⟩ := List.getElem_of_mem he
  obtain ⟨X, hX⟩ := h.own n (Nat.le_refl _)
  obtain ⟨cur, h1, _⟩ := row_block (hX j hj)
  rw [e2, hk] at h1
  simp at h1
  exact ht h1.2
theorem KA.keep (h : KA T B w0 q V E n w) (hf : KFr (E n) w w') {t : TypeId} {sz m : Nat} {v : Value} {xs : List Value} (ho : w.ownsRow 0 t sz v m xs) (ht : t ≠ T.te n) : w'.ownsRow 0 t sz v m xs := row_keptB ho fun k hk => by
 rcases ho.2 with ⟨rfl, _⟩ | ⟨g, cap, cur, rfl, _, hb, _⟩
 ·simp [Value.ownBlock] at hk
 ·simp [Value.ownBlock] at hk
  subst hk
  exact h.block hf hb ht
theorem KA.next (h : KA T B w0 q V E n w) (hT : T.Ok) (hd : ∀ i, n + 1 <= i -> T.te i ≠ T.te n) (hlo : ∀ e ∈ E n, B <= e.g) (hf : KFr (E n) w w') : KA T B w0 q V E (n + 1) w' :=
 ⟨(h.block hf h.blk (hT.qe n)).trans h.blk, fun i hi => h.keep hf (h.row i (by omega)) (fun e => hT.el n i e.symm), fun i hi => by obtain ⟨X, hX⟩ := h.own i (by omega); exact ⟨X, fun j hj => h.keep hf (hX j hj) (hd i hi)⟩, Nat.le_trans h.size hf.size, h.bel.trans ⟨hf.os, hf.tape, hf.output, hf.size, fun k hk => hf.block k (Nat.lt_of_lt_of_le hk h.size) fun e he e2 => by have := hlo e he; omega⟩⟩
theorem KA.cell (h : KA T B w0 q V E n w) {i : Nat} (hi : i < 16) : w.cell? ⟨q, i, none⟩ = some (V i) := by
 simp only [World.cell?, h.blk]
 exact kArr_get V hi
theorem KA.nil (h : KA T B w0 q V E n w) {i : Nat} (hn : n <= i) (hi : i < 16) (hE : E i = []) : w.cell? ⟨q, i, none⟩ = some (.slice (slA (V i)) 0 (slC (V i))) := by
 have hr := h.row i hn
 rw [hE] at hr
 obtain ⟨a, c, e⟩ := hr.slice
 rw [h.cell hi, e]
 rfl
end
theorem kG_ok : kG.Ok := by
 refine ⟨fun i => ?_, fun i => ?_, fun i j => ?_⟩
 ·unfold kG; dsimp only; split <;> decide
 ·unfold kG; dsimp only; split <;> decide
 ·unfold kG; dsimp only; split <;> (split <;> decide)
theorem kG_ne (n : Nat) (hn : n ∈ [0, 1, 2, 4, 5, 10, 11]) : ∀ i, n + 1 <= i -> kG.te i ≠ kG.te n := by
 intro i hi
 simp at hn
 rcases hn with rfl | rfl | rfl | rfl | rfl | rfl | rfl <;> (unfold kG; dsimp only; split <;> first | decide | omega)
theorem book_apartG (B q : Nat) (V : Nat -> Value) (E : Nat -> List LE) (w : World) (hK : KI kG B w q V E) (hno : ∀ i, i ∉ [0, 1, 2, 4, 5, 10, 11] -> E i = []) (hl0 : (E 0).length <= 1000) (hl2 : (E 2).length <= 1000) (hl : ∀ i, (E i).length <= 100000000) (hn : ∀ i, ∀ e ∈ E i, e.n <= 100000000) :
  Calls Tryz.prog 16 #[.pointer (some ⟨q, 0, none⟩)] w fun e w' => e = .returned (.bool true) /\ Below B w w' := by
 have HK : Hid (KI kG B w q V E) := hK
 have HNO : Hid (∀ i, i ∉ [0, 1, 2, 4, 5, 10, 11] -> E i = []) := hno
 have HL0 : Hid ((E 0).length <= 1000 /\ (E 2).length <= 1000) := ⟨hl0, hl2⟩
 have HLA : Hid (∀ i, (E i).length <= 100000000) := hl
 have HN : Hid (∀ i, ∀ e ∈ E i, e.n <= 100000000) := hn
 have A0 : Hid (KA kG B w q V E 0 w) := hK.toA
 clear hK hno hl0 hl2 hl hn
 go_enter Tryz.func16, Tryz.ntmps16
 go_wp2_with (first
  | (go_at_call 43; obtain ⟨X0, hX0⟩ := A0.out.own 0 (Nat.le_refl _); refine (apart_bytes q (V 0) (E 0) X0 w (A0.out.cell (by omega)) (A0.out.row 0 (Nat.le_refl _)) hX0 (HK.out.nd 0) HL0.out.1 (HN.out 0)).mono ?_; rintro e w0 ⟨rfl, f0⟩; have A1 : Hid (KA kG B w q V E 1 w0) := A0.out.next kG_ok (kG_ne 0 (by decide)) (HK.out.loE 0) f0; clear hX0 f0)
  | (go_at_call 44; obtain ⟨X1, hX1⟩ := A1.out.own 1 (Nat.le_refl _); refine (apart_ints q (V 1) (E 1) X1 w0 (A1.out.cell (by omega)) (A1.out.row 1 (Nat.le_refl _)) hX1 (HK.out.nd 1) (HLA.out 1) (HN.out 1)).mono ?_; rintro e w1 ⟨rfl, f1⟩; have A2 : Hid (KA kG B w q V E 2 w1) := A1.out.next kG_ok (kG_ne 1 (by decide)) (HK.out.loE 1) f1; clear hX1 f1)
  | (go_at_call 45; obtain ⟨X2, hX2⟩ := A2.out.own 2 (Nat.le_refl _); refine (apart_strings q (V 2) (E 2) X2 w1 (A2.out.cell (by omega)) (A2.out.row 2 (Nat.le_refl _)) hX2 (HK.out.nd 2) HL0.out.2 (HN.out 2)).mono ?_; rintro e w2 ⟨rfl, f2⟩; have A3 : Hid (KA kG B w q V E 3 w2) := A2.out.next kG_ok (kG_ne 2 (by decide)) (HK.out.loE 2) f2; clear hX2 f2)
  | (go_at_call 46; refine (apartnilBools q (slA (V 3)) (slC (V 3)) w2 (A3.out.nil (i := 3) (Nat.le_refl _) (by omega) (HNO.out 3 (by decide)))).mono ?_; rintro e w' ⟨rfl, rfl⟩; have A4 : Hid (KA kG B w q V E 4 w2) := A3.out.skip)
  | (go_at_call 47; obtain ⟨X4, hX4⟩ := A4.out.own 4 (Nat.le_refl _); refine (apart_syms q (V 4) (E 4) X4 w2 (A4.out.cell (by omega)) (A4.out.row 4 (Nat.le_refl _)) hX4 (HK.out.nd 4) (HLA.out 4) (HN.out 4)).mono ?_; rintro e w4 ⟨rfl, f4⟩; have A5 : Hid (KA kG B w q V E 5 w4) := A4.out.next kG_ok (kG_ne 4 (by decide)) (HK.out.loE 4) f4; clear hX4 f4)
  | (go_at_call 48; obtain ⟨X5, hX5⟩ := A5.out.own 5 (Nat.le_refl _); refine (apart_cores q (V 5) (E 5) X5 w4 (A5.out.cell (by omega)) (A5.out.row 5 (Nat.le_refl _)) hX5 (HK.out.nd 5) (HLA.out 5) (HN.out 5)).mono ?_; rintro e w5 ⟨rfl, f5⟩; have A6 : Hid (KA kG B w q V E 6 w5) := A5.out.next kG_ok (kG_ne 5 (by decide)) (HK.out.loE 5) f5; clear hX5 f5)
  | (go_at_call 49; refine (apartnilActions q (slA (V 6)) (slC (V 6)) w5 (A6.out.nil (i := 6) (Nat.le_refl _) (by omega) (HNO.out 6 (by decide)))).mono ?_; rintro e w' ⟨rfl, rfl⟩; have A7 : Hid (KA kG B w q V E 7 w5) := A6.out.skip)
  | (go_at_call 50; refine (apartnilEdges q (slA (V 7)) (slC (V 7)) w5 (A7.out.nil (i := 7) (Nat.le_refl _) (by omega) (HNO.out 7 (by decide)))).mono ?_; rintro e w' ⟨rfl, rfl⟩; have A8 : Hid (KA kG B w q V E 8 w5) := A7.out.skip)
  | (go_at_call 51; refine (apartnilPairs q (slA (V 8)) (slC (V 8)) w5 (A8.out.nil (i := 8) (Nat.le_refl _) (by omega) (HNO.out 8 (by decide)))).mono ?_; rintro e w' ⟨rfl, rfl⟩; have A9 : Hid (KA kG B w q V E 9 w5) := A8.out.skip)
  | (go_at_call 52; refine (apartnilTokens q (slA (V 9)) (slC (V 9)) w5 (A9.out.nil (i := 9) (Nat.le_refl _) (by omega) (HNO.out 9 (by decide)))).mono ?_; rintro e w' ⟨rfl, rfl⟩; have A10 : Hid (KA kG B w q V E 10 w5) := A9.out.skip)
  | (go_at_call 53; obtain ⟨X10, hX10⟩ := A10.out.own 10 (Nat.le_refl _); refine (apart_prods q (V 10) (E 10) X10 w5 (A10.out.cell (by omega)) (A10.out.row 10 (Nat.le_refl _)) hX10 (HK.out.nd 10) (HLA.out 10) (HN.out 10)).mono ?_; rintro e w10 ⟨rfl, f10⟩; have A11 : Hid (KA kG B w q V E 11 w10) := A10.out.next kG_ok (kG_ne 10 (by decide)) (HK.out.loE 10) f10; clear hX10 f10)
  | (go_at_call 54; obtain ⟨X11, hX11⟩ := A11.out.own 11 (Nat.le_refl _); refine (apart_levels q (V 11) (E 11) X11 w10 (A11.out.cell (by omega)) (A11.out.row 11 (Nat.le_refl _)) hX11 (HK.out.nd 11) (HLA.out 11) (HN.out 11)).mono ?_; rintro e w11 ⟨rfl, f11⟩; have A12 : Hid (KA kG B w q V E 12 w11) := A11.out.next kG_ok (kG_ne 11 (by decide)) (HK.out.loE 11) f11; clear hX11 f11)
  | (go_at_call 55; refine (apartnilItems q (slA (V 12)) (slC (V 12)) w11 (A12.out.nil (i := 12) (Nat.le_refl _) (by omega) (HNO.out 12 (by decide)))).mono ?_; rintro e w' ⟨rfl, rfl⟩; have A13 : Hid (KA kG B w q V E 13 w11) := A12.out.skip)
  | (go_at_call 56; refine (apartnilTrees q (slA (V 13)) (slC (V 13)) w11 (A13.out.nil (i := 13) (Nat.le_refl _) (by omega) (HNO.out 13 (by decide)))).mono ?_; rintro e w' ⟨rfl, rfl⟩; have A14 : Hid (KA kG B w q V E 14 w11) := A13.out.skip)
  | (go_at_call 57; refine (apartnilRows q (slA (V 14)) (slC (V 14)) w11 (A14.out.nil (i := 14) (Nat.le_refl _) (by omega) (HNO.out 14 (by decide)))).mono ?_; rintro e w' ⟨rfl, rfl⟩; have A15 : Hid (KA kG B w q V E 15 w11) := A14.out.skip)
  | (go_at_call 58; refine (apartnilConflicts q (slA (V 15)) (slC (V 15)) w11 (A15.out.nil (i := 15) (Nat.le_refl _) (by omega) (HNO.out 15 (by decide)))).mono ?_; rintro e w' ⟨rfl, rfl⟩; have A16 : Hid (KA kG B w q V E 16 w11) := A15.out.skip))
 go_ret
 exact ⟨rfl, A16.out.bel⟩
end Go.Proofs.YthgnhdnmcjpdmaaGreatDoor
