import Derived.Test.YtldomigddgaabaaGreatPFOwn3
import Derived.Test.YtldomigddgaabaaGreatPFSamToFClo
namespace Go.Proofs.YtldomigddgaabaaGreat
set_option linter.unusedVariables false
set_option maxRecDepth 100000
set_option maxHeartbeats 16000000
open Go.RowKit Go.Maps
structure FK (B q : Nat) (V : Nat -> Value) (E : Nat -> List LE) (c : Nat) (w : World) : Prop where
 ki : KI kF B w q V E
 no : ∀ i, i ∉ [1, 3] -> E i = []
 ln : ∀ i, (E i).length <= c
 nm : ∀ i, ∀ e ∈ E i, e.n <= 100000000
theorem FK.fb {B q : Nat} {V : Nat -> Value} {E : Nat -> List LE} {c : Nat} {w w6 : World} (h : FK B q V E c w) (hb : Below w.heap.size w w6) : FB B q w.heap.size w6.heap.size w6 V E w.heap.size w.heap.size c w6 :=
 ⟨h.ki.later hb, lt_of_block h.ki.hq, fun i k hk => .inl ((h.ki.row i).lt k hk), fun _ _ _ => rfl, Nat.le_refl _, h.ki.size, h.no, h.ln, h.nm, h.ki.lt 1, h.ki.lt 3, Below.refl _ _⟩
theorem FB.fk {B q lo hi : Nat} {w5 : World} {V : Nat -> Value} {E : Nat -> List LE} {m1 m3 c c' : Nat} {w : World} (h : FB B q lo hi w5 V E m1 m3 c w) (hc : c <= c') : FK B q V E c' w := ⟨h.ki, h.no, fun i => Nat.le_trans (h.ln i) hc, h.nm⟩
structure FA (w0 w2 w3 w4 w5 w6 : World) (na : Option Addr) (N : List Bool) (nc : Nat) (fa : Option Addr) (L : List (List Int)) (fc : Nat) (wa : Option Addr) (M : List (List Int)) (wc : Nat) (ha : Option Addr) (H : List Int) (hc : Nat) (oa : Option Addr) (R : List Int) (oc : Nat) : Prop where
 n : BO w2 w0.heap.size na N nc
 f : LO2 w3 w2.heap.size fa L fc
 o : LO2 w4 w3.heap.size wa M wc
 h : NO w5 w4.heap.size ha H hc
 r : NO w6 w5.heap.size oa R oc
 b2 : Below w0.heap.size w0 w2
 b3 : Below w2.heap.size w2 w3
 b4 : Below w3.heap.size w3 w4
 b5 : Below w4.heap.size w4 w5
 b6 : Below w5.heap.size w5 w6
theorem firstOwn_walk (g : GV) (la : Option Addr) (lc : Nat) (l : List (Int × Int)) (w : World) (h : GAt 140737488355328 w g) (hpc : g.ps.length <= g.pc) (hl : SymRow w la l) (hll : l.length <= 140737488355328) :
  Calls Tryz.prog 3 #[g.val, .slice la l.length lc] w fun e w' => e = .returned (.bool true) /\ Below w.heap.size w w' := by
 obtain ⟨⟨er, at_⟩, hE⟩ : ∃ x, checkG g (checkF g.ts g.ns) = x := ⟨_, rfl⟩
 have X0 : Hid ((w.alloc (gBox g)).heap[w.heap.size]? = some (gBox g)) := heap_alloc_new _ _
 have NC : Hid (∀ w', Below w.heap.size w w' -> Calls Tryz.prog 5 #[g.val] w' fun e w'' => ∃ a N c, e = .returned (.tuple #[.slice a (List.length N) c, .int .i64 er]) /\ BO w'' w'.heap.size a N c /\ Below w'.heap.size w' w'') := fun w' hb => null_own g w' (h.later hb) hpc er at_ hE
 have FC : Hid (∀ w', Below w.heap.size w w' -> Calls Tryz.prog 6 #[g.val] w' fun e w'' => ∃ a L c, e = .returned (.tuple #[.slice a (List.length L) c, .int .i64 er]) /\ LO2 w'' w'.heap.size a L c /\ Below w'.heap.size w' w'') := fun w' hb => first_own g w' (h.later hb) hpc er at_ hE
 have WC : Hid (∀ w', Below w.heap.size w w' -> Calls Tryz.prog 7 #[g.val] w' fun e w'' => ∃ a L c, e = .returned (.tuple #[.slice a (List.length L) c, .int .i64 er]) /\ LO2 w'' w'.heap.size a L c /\ Below w'.heap.size w' w'') := fun w' hb => follow_own g w' (h.later hb) hpc er at_ hE
 have HC : Hid (∀ w', Below w.heap.size w w' -> Calls Tryz.prog 8 #[g.val] w' fun e w'' => ∃ a L c, e = .returned (.tuple #[.slice a (List.length L) c, .int .i64 er]) /\ NO w'' w'.heap.size a L c /\ Below w'.heap.size w' w'') := fun w' hb => heights_own g w' (h.later hb) hpc er at_ hE
 have OC : Hid (∀ w' na fa nc fc z N L, Below w.heap.size w w' -> BRow w' na N -> LsRow w' fa L -> (L.length <= 64 /\ ∀ z ∈ L, z.length <= 128) -> w'.heap[z]? = some (.cells #[.int .i64 0] 3 (0, 0)) -> Calls Tryz.prog 9 #[g.val, .slice na N.length nc, .slice fa L.length fc, .slice la l.length lc, .slice (some ⟨z, 0, none⟩) 1 1] w' fun e w'' => ∃ a R c x, e = .returned (.tuple #[.slice a (List.length R) c, .int .i64 x]) /\ NO w'' w'.heap.size a R c /\ Below w'.heap.size w' w'') := fun w' na fa nc fc z N L hb h1 h2 h3 h4 => by
  refine of_own g w' (h.later hb) hpc er at_ hE na fa la (some ⟨z, 0, none⟩) nc fc lc 1 N L l [0] h1 h2 (hl.later (Nat.le_refl _) hb) (fun _ => ⟨z, 0, rfl, lt_of_block h4, fun i hi => ?_⟩) h3 hll (by decide)
  obtain rfl : i = 0 := by simpa using hi
  exact (cellq_any h4).trans rfl
 clear h hpc hl hE
 go_enter Tryz.func3, Tryz.ntmps3
 go_wp2_with (go_at_call 4; refine (works_S _).mono ?_; rintro e w1 ⟨rfl, b1⟩; have B1 : Hid (Below w.heap.size w w1 /\ w1.heap[w.heap.size]? = some (gBox g)) := ⟨(below_alloc w _).trans (b1.mono (below_alloc w _).size), (b1.block _ (lt_of_block X0.out)).trans X0.out⟩; clear b1)
 have KN : Hid (FK w1.heap.size w1.heap.size (fun _ => kNil) (fun _ => []) 0 (w1.alloc (.cells #[kNil, kNil, kNil, kNil, kNil, kNil, kNil, kNil, kNil, kNil, kNil, kNil, kNil, kNil, kNil, kNil] 46))) := ⟨knew kF w1, fun _ _ => rfl, fun _ => Nat.zero_le _, fun _ e he => (by cases he)⟩
 have BK : Hid (Below w1.heap.size w1 (w1.alloc (.cells #[kNil, kNil, kNil, kNil, kNil, kNil, kNil, kNil, kNil, kNil, kNil, kNil, kNil, kNil, kNil, kNil] 46))) := below_alloc _ _
 have BW : Hid (∀ w', Below w1.heap.size w1 w' -> Below w.heap.size w w' /\ w'.heap[w.heap.size]? = some (gBox g)) := fun w' hb => ⟨B1.out.1.trans (hb.mono B1.out.1.size), (hb.block _ (lt_of_block B1.out.2)).trans B1.out.2⟩
 clear X0 B1
 go_loopw [6] (fun z wr => ∃ (i : Nat) (V : Nat -> Value) (E : Nat -> List LE), i <= 2 /\ z = .int .i64 i /\ FK w1.heap.size w1.heap.size V E (131 * i) wr /\ Below w1.heap.size w1 wr) (fun z _ => 2 - (intOf z).toNat)
 case atStart => exact ⟨0, _, _, Nat.zero_le _, rfl, KN.out, BK.out⟩
 case round =>
  clear KN BK
  obtain ⟨i, V, E, hi, rfl, hS, hb⟩ := hrel
  have HS : Hid (FK w1.heap.size w1.heap.size V E (131 * i) wr /\ Below w1.heap.size w1 wr) := ⟨hS, hb⟩
  obtain ⟨x0, x1, x2, x3, x4⟩ := gb_cells (BW.out wr hb).2
  clear hS hb
  by_cases hlt : i < 2
  ·have ilt : (i : Int) < 2 := by omega
   go_wp2_with (first
    | (go_at_call 5; refine (NC.out _ (BW.out _ HS.out.2).1).mono ?_; rintro e w2 ⟨na, N, nc, rfl, n2, b2⟩; have B2 : Hid (Below w1.heap.size w1 w2) := HS.out.2.trans (b2.mono HS.out.1.ki.size); have A2 : Hid (BO w2 wr.heap.size na N nc /\ Below wr.heap.size wr w2) := ⟨n2, b2⟩; clear n2 b2 x0 x1 x2 x3 x4; obtain ⟨x0, x1, x2, x3, x4⟩ := gb_cells (BW.out _ B2.out).2)
    | (go_at_call 6; refine (FC.out _ (BW.out _ B2.out).1).mono ?_; rintro e w3 ⟨fa, L, fc, rfl, n3, b3⟩; have B3 : Hid (Below w1.heap.size w1 w3) := B2.out.trans (b3.mono B2.out.size); have A3 : Hid (LO2 w3 w2.heap.size fa L fc /\ Below w2.heap.size w2 w3) := ⟨n3, b3⟩; clear n3 b3 x0 x1 x2 x3 x4; obtain ⟨x0, x1, x2, x3, x4⟩ := gb_cells (BW.out _ B3.out).2)
    | (go_at_call 7; refine (WC.out _ (BW.out _ B3.out).1).mono ?_; rintro e w4 ⟨wa, M, wc, rfl, n4, b4⟩; have B4 : Hid (Below w1.heap.size w1 w4) := B3.out.trans (b4.mono B3.out.size); have A4 : Hid (LO2 w4 w3.heap.size wa M wc /\ Below w3.heap.size w3 w4) := ⟨n4, b4⟩; clear n4 b4 x0 x1 x2 x3 x4; obtain ⟨x0, x1, x2, x3, x4⟩ := gb_cells (BW.out _ B4.out).2)
    | (go_at_call 8; refine (HC.out _ (BW.out _ B4.out).1).mono ?_; rintro e w5 ⟨ha, H, hc, rfl, n5, b5⟩; have B5 : Hid (Below w1.heap.size w1 w5) := B4.out.trans (b5.mono B4.out.size); have A5 : Hid (NO w5 w4.heap.size ha H hc /\ Below w4.heap.size w4 w5) := ⟨n5, b5⟩; clear n5 b5 x0 x1 x2 x3 x4; obtain ⟨x0, x1, x2, x3, x4⟩ := gb_cells (BW.out _ B5.out).2; have CO : Hid (Calls Tryz.prog 9 #[g.val, .slice na N.length nc, .slice fa L.length fc, .slice la l.length lc, .slice (some ⟨w5.heap.size, 0, none⟩) 1 1] (w5.alloc (.cells #[.int .i64 0] 3)) fun e w'' => ∃ a R c x, e = .returned (.tuple #[.slice a (List.length R) c, .int .i64 x]) /\ NO w'' w5.heap.size a R c /\ Below w5.heap.size w5 w'') := (by
      have ba := below_alloc w5 (.cells #[.int .i64 0] 3)
      have b25 := A3.out.2.trans ((A4.out.2.trans (A5.out.2.mono A4.out.2.size)).mono A3.out.2.size)
      have b35 := A4.out.2.trans (A5.out.2.mono A4.out.2.size)
      refine (OC.out _ na fa nc fc w5.heap.size N L (BW.out _ (B5.out.trans (ba.mono B5.out.size))).1 ((A2.out.1.row.later b25).later ba) ((A3.out.1.row.later b35).later ba) ⟨A3.out.1.le, A3.out.1.each⟩ (heap_alloc_new _ _)).mono ?_
      rintro e w'' ⟨a, R, c, x, q1, q2, q3⟩
      exact ⟨a, R, c, x, q1, ⟨q2.own, fun j hj => Nat.le_trans ba.size (q2.lo j hj), q2.le⟩, ba.trans (q3.mono ba.size)⟩))
    | (go_at_call 9; refine CO.out.mono ?_; rintro e w6 ⟨oa, R, oc, xe, rfl, n6, b6⟩; have AA : Hid (FA wr w2 w3 w4 w5 w6 na N nc fa L fc wa M wc ha H hc oa R oc) := ⟨A2.out.1, A3.out.1, A4.out.1, A5.out.1, n6, A2.out.2, A3.out.2, A4.out.2, A5.out.2, b6⟩; have B6 : Hid (Below w1.heap.size w1 w6) := B5.out.trans (b6.mono B5.out.size); clear n6 b6 x0 x1 x2 x3 x4; have P6 : Hid (FB w1.heap.size w1.heap.size wr.heap.size w6.heap.size w6 V E wr.heap.size wr.heap.size (131 * i) w6) := HS.out.1.fb (AA.out.b2.trans ((AA.out.b3.trans ((AA.out.b4.trans ((AA.out.b5.trans (AA.out.b6.mono AA.out.b5.size)).mono AA.out.b4.size)).mono AA.out.b3.size)).mono AA.out.b2.size)))
    | (go_at_call 10; refine (P7.out.lists AA.out.o (AA.out.b5.trans (AA.out.b6.mono AA.out.b5.size)) (Nat.le_trans AA.out.b5.size AA.out.b6.size) (Nat.le_trans AA.out.b2.size AA.out.b3.size) (Nat.le_refl _) AA.out.b4.size (by omega)).mono ?_; rintro e w8 ⟨rfl, V8, E8, r8⟩; have P8 : Hid _ := r8; clear r8)
    | (go_at_call 10; refine (P6.out.lists AA.out.f (AA.out.b4.trans ((AA.out.b5.trans (AA.out.b6.mono AA.out.b5.size)).mono AA.out.b4.size)) (Nat.le_trans AA.out.b4.size (Nat.le_trans AA.out.b5.size AA.out.b6.size)) AA.out.b2.size AA.out.b2.size AA.out.b3.size (by omega)).mono ?_; rintro e w7 ⟨rfl, V7, E7, r7⟩; have P7 : Hid _ := r7; clear r7)
    | (go_at_call 11; refine (P9.out.ints AA.out.r (Below.refl _ _) (Nat.le_refl _) (Nat.le_trans AA.out.b2.size (Nat.le_trans AA.out.b3.size (Nat.le_trans AA.out.b4.size AA.out.b5.size))) (Nat.le_refl _) AA.out.b6.size (by omega) rfl).mono ?_; rintro e w10 ⟨rfl, V10, E10, r10⟩; have P10 : Hid _ := r10; clear r10)
    | (go_at_call 11; refine (P8.out.ints AA.out.h AA.out.b6 AA.out.b6.size (Nat.le_trans AA.out.b2.size (Nat.le_trans AA.out.b3.size AA.out.b4.size)) (Nat.le_refl _) AA.out.b5.size (by omega) rfl).mono ?_; rintro e w9 ⟨rfl, V9, E9, r9⟩; have P9 : Hid _ := r9; clear r9)
    | (go_at_call 12; refine (P10.out.bools AA.out.n (AA.out.b3.trans ((AA.out.b4.trans ((AA.out.b5.trans (AA.out.b6.mono AA.out.b5.size)).mono AA.out.b4.size)).mono AA.out.b3.size)) (Nat.le_trans AA.out.b3.size (Nat.le_trans AA.out.b4.size (Nat.le_trans AA.out.b5.size AA.out.b6.size))) (Nat.le_refl _) (Nat.le_refl _) AA.out.b2.size (by omega) rfl).mono ?_; rintro e w11 ⟨rfl, V11, E11, r11⟩; have P11 : Hid _ := r11; clear r11))
   go_roundw
   case rel => exact ⟨i + 1, V11, E11, by omega, by go_num, P11.out.fk (by omega), B6.out.trans P11.out.bw⟩
   case measure => simp [intOf]; omega
  ·obtain rfl : i = 2 := by omega
   have ilt : ¬ ((2 : Nat) : Int) < 2 := by omega
   clear x0 x1 x2 x3 x4
   go_wp2_with (go_at_call 13; refine (book_apartF w1.heap.size w1.heap.size V E wr HS.out.1.ki HS.out.1.no (fun i => Nat.le_trans (HS.out.1.ln i) (by omega)) HS.out.1.nm).mono ?_; rintro e w9 ⟨rfl, b9⟩)
   go_ret
   exact ⟨rfl, (BW.out _ (HS.out.2.trans b9)).1⟩
end Go.Proofs.YtldomigddgaabaaGreat
