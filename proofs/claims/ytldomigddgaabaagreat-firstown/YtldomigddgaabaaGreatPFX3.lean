import Derived.Test.YtldomigddgaabaaGreatPFO1ToFO2
import Derived.Test.YtldomigddgaabaaGreatPFX2
namespace Go.Proofs.YtldomigddgaabaaGreat
set_option linter.unusedVariables false
set_option maxRecDepth 100000
set_option maxHeartbeats 16000000
open Go.RowKit
def OfX (w : World) (R : List Int) (E : Int) (e : Ending) (w' : World) : Prop := ∃ a c, e = .returned (.tuple #[.slice a R.length c, .int .i64 E]) /\ IL w' (.slice a R.length c) R /\ (∀ j, (Value.slice a R.length c).ownBlock = some j -> w.heap.size <= j) /\ Below w.heap.size w w'
theorem OfX.void {w w' : World} {E : Int} (hb : Below w.heap.size w w') : OfX w [] E (.returned (.tuple #[.slice none 0 0, .int .i64 E])) w' := ⟨none, 0, rfl, IL.nil _, fun j hj => by simp [Value.ownBlock] at hj, hb⟩
theorem firstOfX_S (g : GV) (na : Option Addr) (nc : Nat) (N : List Bool) (fa : Option Addr) (fc : Nat) (L : List (List Int)) (la : Option Addr) (lc : Nat) (l : List (Int × Int)) (ka : Option Addr) (kc : Nat) (look : List Int) (w : World) (h : GAt 140737488355328 w g) (hpc : g.ps.length <= g.pc) (er at_ : Int) (hE : checkG g (checkF g.ts g.ns) = (er, at_)) (hN : BRow w na N) (hL : LsRow w fa L) (hl : SymRow w la l) (hk : InRow w ka look) (hLl : L.length <= 1048576 /\ ∀ z ∈ L, z.length <= 1048576) (hll : l.length <= 140737488355328) (hkl : look.length <= 1048576) :
  Calls Tryz.prog 9 #[g.val, .slice na N.length nc, .slice fa L.length fc, .slice la l.length lc, .slice ka look.length kc] w fun e w' => OfX w (ofL g N L l look er) (ofE g N.length L l look er) e w' := by
 have X0 : Hid ((w.alloc (gBox g)).heap[w.heap.size]? = some (gBox g)) := heap_alloc_new _ _
 have CK : Hid (Calls Tryz.prog 25 #[g.val, .slice na N.length nc, .slice fa L.length fc] (w.alloc (gBox g)) fun e w' => e = .returned (.int .i64 (askC g N.length L.length er)) /\ Below (w.alloc (gBox g)).heap.size (w.alloc (gBox g)) w') := askC_S g na fa N.length nc L.length fc _ (h.later (below_alloc w (gBox g))) hpc er at_ hE
 obtain ⟨x0, x1, x2, x3, x4⟩ := gb_cells X0.out
 by_cases h0 : askC g N.length L.length er = 0
 case neg =>
  have t1 : (askC g N.length L.length er != 0) = true := by simpa using h0
  have e1 : ofE g N.length L l look er = askC g N.length L.length er := by rw [ofE, if_pos h0]
  have R : Hid (ofE g N.length L l look er = askC g N.length L.length er /\ ofL g N L l look er = []) := ⟨e1, by rw [ofL, e1, if_neg h0]⟩
  rw [R.out.1, R.out.2]
  clear h hE hN hL hl hk R h0 e1
  generalize askC g N.length L.length er = U at *
  go_enter Tryz.func9, Tryz.ntmps9
  go_wp2_with (go_at_call 25; refine CK.out.mono ?_; rintro e w2 ⟨rfl, b2⟩; have B2 : Hid (Below w.heap.size w w2) := (below_alloc w _).trans (b2.mono (below_alloc w _).size); clear b2)
  refine bodyPost_ret (results_tmp2 rfl _ _ _) rfl ?_
  exact OfX.void B2.out
 obtain ⟨e0, e1, e2⟩ := askC_zero h0
 subst e0
 have ok : OkC g := OkC.of (by rw [hE])
 have HN64 : Hid (N.length <= 64 /\ L.length = N.length /\ N.length = g.ns.length) := ⟨by rw [e1]; exact ok.nl.2, by rw [e1, e2], e1⟩
 have htl := ok.tl.2
 have hLlen : L.length <= 64 := by rw [e2]; exact ok.nl.2
 have HR : Hid (∀ w', Below w.heap.size w w' -> BRow w' na N /\ LsRow w' fa L /\ SymRow w' la l /\ InRow w' ka look) := fun w' hb => ⟨hN.later hb, hL.later hb, hl.later (Nat.le_refl _) hb, hk.later hb⟩
 have HLL : Hid (∀ z ∈ L, z.length <= 1048576) := hLl.2
 have AI : Hid (∀ w', Below w.heap.size w w' -> Calls Tryz.prog 27 #[g.val, .slice la l.length lc] w' fun e w'' => e = .returned (.bool (allI g l)) /\ Below w'.heap.size w' w'') := fun w' hb => allIn_S g la lc l w' h.tl h.nl (hl.later (Nat.le_refl _) hb) (by omega)
 have AB : Hid (∀ w', Below w.heap.size w w' -> Calls Tryz.prog 26 #[.slice ka look.length kc, .int .i64 ((g.ts.length : Int) + 1)] w' fun en w'' => en = .returned (.bool (allB look (g.ts.length + 1))) /\ Below w'.heap.size w' w'') := fun w' hb => by
  have := allBelow_S ka kc look (g.ts.length + 1) w' (hk.later hb) (by omega)
  rwa [show ((g.ts.length + 1 : Nat) : Int) = (g.ts.length : Int) + 1 by omega] at this
 have HAL : Hid (∀ k, k < L.length -> allB (L.getD k []) g.ts.length = false -> (L.all fun z => allB z g.ts.length) = false) := fun k hk h => all_no (p := fun z => allB z g.ts.length) hk h
 have HAY : Hid ((∀ k, k < L.length -> allB (L.getD k []) g.ts.length = true) -> (L.all fun z => allB z g.ts.length) = true) := fun h => all_yes (p := fun z => allB z g.ts.length) h
 have V1 : Hid (ofE g N.length L l look 0 = if (L.all fun z => allB z g.ts.length) = false then 4 else if allB look (g.ts.length + 1) = false then 4 else if allI g l = false then 35 else 0) := by show _ = _; rw [ofE, if_neg (by omega)]
 have V2 : Hid (ofL g N L l look 0 = if ofE g N.length L l look 0 = 0 then listS (ofS N (L.map setS) l (setS look)) 128 else []) := rfl
 have BDL : Hid ((L.all fun z => allB z g.ts.length) = true -> ∀ z ∈ L, ∀ x ∈ z, 0 <= x /\ x < 128) := fun h z hz x hx => by
  have := allB_in (List.all_eq_true.1 h z hz) x hx
  omega
 have BDK : Hid (allB look (g.ts.length + 1) = true -> ∀ x ∈ look, 0 <= x /\ x < 128) := fun h x hx => by
  have := allB_in h x hx
  omega
 have BDS : Hid (allI g l = true -> ∀ s ∈ l, SymIn N.length s) := fun h s hs => by
  rcases allI_in h s hs with q | q
  ·exact .inl ⟨q.1, q.2.1, by omega⟩
  ·exact .inr ⟨q.1, q.2.1, by rw [e1]; exact q.2.2⟩
 rw [h0] at CK
 have t1 : ((0 : Int) != 0) = false := by decide
 have CO : Hid ((L.all fun z => allB z g.ts.length) = true -> ∀ w', Below w.heap.size w w' -> Calls Tryz.prog 28 #[.slice na N.length nc, .slice fa L.length fc] w' fun e w'' => ∃ fb, e = .returned (.agg #[.slice na N.length nc, .slice (some ⟨fb, 0, none⟩) N.length N.length]) /\ SBk w'' fb (L.map setS) /\ Below w'.heap.size w' w'') := fun ha w' hb => by
  refine (claimOf_S na fa N.length nc fc L w' (HR.out w' hb).2.1 (by omega) (fun z hz => ⟨BDL.out ha z hz, Nat.le_trans (HLL.out z hz) (by omega)⟩)).mono ?_
  rintro e w'' ⟨fb, q1, q2, _, q4⟩
  exact ⟨fb, by rw [q1, HN64.out.2.1], q2, q4⟩
 have SO : Hid (allB look (g.ts.length + 1) = true -> ∀ w', Below w.heap.size w w' -> Calls Tryz.prog 30 #[.slice ka look.length kc] w' fun e w'' => e = .returned (sv (setS look)) /\ Below w'.heap.size w' w'') := fun ha w' hb => setOf_S ka kc look w' (HR.out w' hb).2.2.2 (by omega) (BDK.out ha)
 have OKF : Hid ((L.all fun z => allB z g.ts.length) = true -> ∀ i, OkS ((L.map setS).getD i (0, 0))) := fun ha i => by
  by_cases hi : i < L.length
  ·rw [show (L.map setS).getD i (0, 0) = setS L[i] by simp [List.getD, hi]]
   exact setS_ok (BDL.out ha _ (List.getElem_mem hi))
  ·rw [show (L.map setS).getD i (0, 0) = (0, 0) by simp [List.getD, show L.length <= i by omega]]
   exact OkS.zero
 have OO : Hid ((L.all fun z => allB z g.ts.length) = true -> allB look (g.ts.length + 1) = true -> allI g l = true -> ∀ w' fb, Below w.heap.size w w' -> SBk w' fb (L.map setS) -> Calls Tryz.prog 29 #[.agg #[.slice na N.length nc, .slice (some ⟨fb, 0, none⟩) N.length N.length], .slice la l.length lc, sv (setS look)] w' fun e w'' => e = .returned (sv (ofS N (L.map setS) l (setS look))) /\ Below w'.heap.size w' w'') := fun h1 h2 h3 w' fb hb hS =>
  of_SW na N nc fb N.length (L.map setS) la lc l (setS look) w' ⟨(HR.out w' hb).1, hS, ⟨by rw [List.length_map]; exact HN64.out.2.1, HN64.out.1⟩, OKF.out h1⟩ (HR.out w' hb).2.2.1 hll (BDS.out h3) (setS_ok (BDK.out h2))
 have LS : Hid ((L.all fun z => allB z g.ts.length) = true -> allB look (g.ts.length + 1) = true -> allI g l = true -> ∀ w', Calls Tryz.prog 31 #[sv (ofS N (L.map setS) l (setS look))] w' fun e w'' => ∃ a c, e = .returned (.slice a (listS (ofS N (L.map setS) l (setS look)) 128).length c) /\ (IL w'' (.slice a (listS (ofS N (L.map setS) l (setS look)) 128).length c) (listS (ofS N (L.map setS) l (setS look)) 128) /\ ∀ j, (Value.slice a (listS (ofS N (L.map setS) l (setS look)) 128).length c).ownBlock = some j -> w'.heap.size <= j) /\ Below w'.heap.size w' w'') := fun h1 h2 h3 w' => by
  refine (list_S _ (ofS_ok (OKF.out h1) l _ (BDS.out h3) (setS_ok (BDK.out h2))) w').mono ?_
  rintro e w'' ⟨a, c, q1, q2, q3, q4⟩
  exact ⟨a, c, q1, ⟨q2, q3⟩, q4⟩
 clear h hE hN hL hl hk ok h0 e1 e2 BDL BDK BDS OKF hLl
 generalize ofL g N L l look 0 = R2 at *
 generalize ofE g N.length L l look 0 = R1 at *
 generalize (L.all fun z => allB z g.ts.length) = A at *
 generalize allB look (g.ts.length + 1) = K at *
 generalize allI g l = I at *
 generalize listS (ofS N (L.map setS) l (setS look)) 128 = T at *
 generalize ofS N (L.map setS) l (setS look) = O at *
 generalize setS look = SL0 at *
 generalize L.map setS = F at *
 obtain ⟨o1, o2⟩ := O
 obtain ⟨s1, s2⟩ := SL0
 go_enter Tryz.func9, Tryz.ntmps9
 go_wp2_with (go_at_call 25; refine CK.out.mono ?_; rintro e w2 ⟨rfl, b2⟩; have B2 : Hid (Below w.heap.size w w2 /\ w2.heap[w.heap.size]? = some (gBox g)) := ⟨(below_alloc w _).trans (b2.mono (below_alloc w _).size), (b2.block _ (lt_of_block X0.out)).trans X0.out⟩; clear b2 x0 x1 x2 x3 x4; obtain ⟨x0, x1, x2, x3, x4⟩ := gb_cells B2.out.2)
 go_loopw [27] (fun z wr => ∃ k : Nat, k <= L.length /\ z = .int .i64 k /\ (∀ j, j < k -> allB (L.getD j []) g.ts.length = true) /\ Below w.heap.size w wr /\ wr.heap[w.heap.size]? = some (gBox g)) (fun z _ => L.length - (intOf z).toNat)
 case atStart => exact ⟨0, Nat.zero_le _, rfl, fun j hj => absurd hj (Nat.not_lt_zero j), B2.out.1, B2.out.2⟩
 case round =>
  clear x0 x1 x2 x3 x4
  obtain ⟨k, hk, rfl, hf, hb, hg⟩ := hrel
  have HB : Hid (Below w.heap.size w wr /\ wr.heap[w.heap.size]? = some (gBox g)) := ⟨hb, hg⟩
  by_cases hlt : k < L.length
  ·have klt : (k : Int) < (L.length : Int) := by omega
   obtain ⟨lb, lo, hfa, hlb, hlc⟩ := (HR.out wr hb).2.1 (by intro e; rw [e] at hlt; simp at hlt)
   obtain ⟨za, zc, c0, hrow⟩ := hlc k hlt
   have AC : Hid (Calls Tryz.prog 26 #[.slice za (L.getD k []).length zc, .int .i64 g.ts.length] wr fun en w'' => en = .returned (.bool (allB (L.getD k []) g.ts.length)) /\ Below wr.heap.size wr w'') := allBelow_S za zc _ _ wr hrow (Nat.le_trans (HLL.out _ (by simp [List.getD, hlt])) (by omega))
   have HH : Hid (allB (L.getD k []) g.ts.length = false -> A = false) := HAL.out k hlt
   have HS : Hid (allB (L.getD k []) g.ts.length = true -> ∀ j, j < k + 1 -> allB (L.getD j []) g.ts.length = true) := fun h j hj => by
    by_cases q : j = k
    ·subst q; exact h
    ·exact hf j (by omega)
   generalize allB (L.getD k []) g.ts.length = v at *
   generalize L.getD k [] = z at *
   rw [hfa]
   clear hb hg hf hlc hrow hfa
   cases v
   ·have R : Hid (R1 = 4 /\ R2 = []) := by
     have e : R1 = 4 := by rw [V1.out, HH.out rfl]; rfl
     exact ⟨e, by rw [V2.out, e]; rfl⟩
    go_wp2_with (go_at_call 26; refine AC.out.mono ?_; rintro e w3 ⟨rfl, b3⟩; have B3 : Hid (Below w.heap.size w w3) := HB.out.1.trans (b3.mono HB.out.1.size); clear b3)
    refine bodyPost_ret (results_tmp2 rfl _ _ _) rfl ?_
    rw [R.out.1, R.out.2]
    exact OfX.void B3.out
   ·have R : Hid (∀ j, j < k + 1 -> allB (L.getD j []) g.ts.length = true) := HS.out rfl
    go_wp2_with (go_at_call 26; refine AC.out.mono ?_; rintro e w3 ⟨rfl, b3⟩; have B3 : Hid (Below w.heap.size w w3 /\ w3.heap[w.heap.size]? = some (gBox g)) := ⟨HB.out.1.trans (b3.mono HB.out.1.size), (b3.block _ (lt_of_block HB.out.2)).trans HB.out.2⟩; clear b3)
    go_roundw
    case rel => exact ⟨k + 1, by omega, by go_num, R.out, B3.out⟩
    case measure => simp [intOf]; omega
  ·obtain rfl : A = true := HAY.out (fun j hj => hf j (by omega))
   have VT : Hid (R1 = if K = false then 4 else if I = false then 35 else 0) := V1.out
   have CT : Hid (∀ w', Below w.heap.size w w' -> Calls Tryz.prog 28 #[.slice na N.length nc, .slice fa L.length fc] w' fun e w'' => ∃ fb, e = .returned (.agg #[.slice na N.length nc, .slice (some ⟨fb, 0, none⟩) N.length N.length]) /\ SBk w'' fb F /\ Below w'.heap.size w' w'') := CO.out rfl
   clear HAL HAY V1 CO
   have klt : ¬ (k : Int) < (L.length : Int) := by omega
   clear hf hb hg
   cases K
   ·have R : Hid (R1 = 4 /\ R2 = []) := by
     have e : R1 = 4 := by rw [VT.out]; rfl
     exact ⟨e, by rw [V2.out, e]; rfl⟩
    clear SO OO LS VT V2
    go_wp2_with (go_at_call 26; refine (AB.out _ HB.out.1).mono ?_; rintro e w3 ⟨rfl, b3⟩; have B3 : Hid (Below w.heap.size w w3) := HB.out.1.trans (b3.mono HB.out.1.size); clear b3)
    refine bodyPost_ret (results_tmp2 rfl _ _ _) rfl ?_
    rw [R.out.1, R.out.2]
    exact OfX.void B3.out
   ·cases I
    ·have R : Hid (R1 = 35 /\ R2 = []) := by
      have e : R1 = 35 := by rw [VT.out]; rfl
      exact ⟨e, by rw [V2.out, e]; rfl⟩
     clear SO OO LS VT V2
     go_wp2_with (first
      | (go_at_call 26; refine (AB.out _ HB.out.1).mono ?_; rintro e w3 ⟨rfl, b3⟩; have B3 : Hid (Below w.heap.size w w3 /\ w3.heap[w.heap.size]? = some (gBox g)) := ⟨HB.out.1.trans (b3.mono HB.out.1.size), (b3.block _ (lt_of_block HB.out.2)).trans HB.out.2⟩; clear b3; obtain ⟨x0, x1, x2, x3, x4⟩ := gb_cells B3.out.2)
      | (go_at_call 27; refine (AI.out _ B3.out.1).mono ?_; rintro e w4 ⟨rfl, b4⟩; have B4 : Hid (Below w.heap.size w w4) := B3.out.1.trans (b4.mono B3.out.1.size); clear b4 x0 x1 x2 x3 x4))
     refine bodyPost_ret (results_tmp2 rfl _ _ _) rfl ?_
     rw [R.out.1, R.out.2]
     exact OfX.void B4.out
    ·have R : Hid (R1 = 0 /\ R2 = T) := by
      have e : R1 = 0 := by rw [VT.out]; rfl
      exact ⟨e, by rw [V2.out, e]; rfl⟩
     have ST : Hid (∀ w', Below w.heap.size w w' -> Calls Tryz.prog 30 #[.slice ka look.length kc] w' fun e w'' => e = .returned (sv (s1, s2)) /\ Below w'.heap.size w' w'') := SO.out rfl
     have OT : Hid (∀ w' fb, Below w.heap.size w w' -> SBk w' fb F -> Calls Tryz.prog 29 #[.agg #[.slice na N.length nc, .slice (some ⟨fb, 0, none⟩) N.length N.length], .slice la l.length lc, sv (s1, s2)] w' fun e w'' => e = .returned (sv (o1, o2)) /\ Below w'.heap.size w' w'') := OO.out rfl rfl rfl
     have LT : Hid (∀ w', Calls Tryz.prog 31 #[sv (o1, o2)] w' fun e w'' => ∃ a c, e = .returned (.slice a T.length c) /\ (IL w'' (.slice a T.length c) T /\ ∀ j, (Value.slice a T.length c).ownBlock = some j -> w'.heap.size <= j) /\ Below w'.heap.size w' w'') := LS.out rfl rfl rfl
     clear SO OO LS VT V2
     go_wp2_with (first
      | (go_at_call 26; refine (AB.out _ HB.out.1).mono ?_; rintro e w3 ⟨rfl, b3⟩; have B3 : Hid (Below w.heap.size w w3 /\ w3.heap[w.heap.size]? = some (gBox g)) := ⟨HB.out.1.trans (b3.mono HB.out.1.size), (b3.block _ (lt_of_block HB.out.2)).trans HB.out.2⟩; clear b3; obtain ⟨x0, x1, x2, x3, x4⟩ := gb_cells B3.out.2)
      | (go_at_call 27; refine (AI.out _ B3.out.1).mono ?_; rintro e w4 ⟨rfl, b4⟩; have B4 : Hid (Below w.heap.size w w4) := B3.out.1.trans (b4.mono B3.out.1.size); clear b4 x0 x1 x2 x3 x4)
      | (go_at_call 28; refine (CT.out _ B4.out).mono ?_; rintro e w5 ⟨fb, rfl, s5, b5⟩; have B5 : Hid (SBk w5 fb F /\ Below w.heap.size w w5) := ⟨s5, B4.out.trans (b5.mono B4.out.size)⟩; clear s5 b5)
      | (go_at_call 30; refine (ST.out _ B5.out.2).mono ?_; rintro e w6 ⟨rfl, b6⟩; have B6 : Hid (SBk w6 fb F /\ Below w.heap.size w w6) := ⟨B5.out.1.later b6, B5.out.2.trans (b6.mono B5.out.2.size)⟩; clear b6)
      | (go_at_call 29; refine (OT.out _ fb B6.out.2 B6.out.1).mono ?_; rintro e w7 ⟨rfl, b7⟩; have B7 : Hid (Below w.heap.size w w7) := B6.out.2.trans (b7.mono B6.out.2.size); clear b7)
      | (go_at_call 31; refine (LT.out w7).mono ?_; rintro e w8 ⟨ta, tc, rfl, r8, b8⟩; have B8 : Hid (IL w8 (.slice ta T.length tc) T /\ (∀ j, (Value.slice ta T.length tc).ownBlock = some j -> w.heap.size <= j) /\ Below w.heap.size w w8) := ⟨r8.1, fun j hj => Nat.le_trans B7.out.size (r8.2 j hj), B7.out.trans (b8.mono B7.out.size)⟩; clear r8 b8))
     refine bodyPost_ret (results_tmp2 rfl _ _ _) rfl ?_
     rw [R.out.1, R.out.2]
     exact ⟨ta, tc, rfl, B8.out⟩
end Go.Proofs.YtldomigddgaabaaGreat
