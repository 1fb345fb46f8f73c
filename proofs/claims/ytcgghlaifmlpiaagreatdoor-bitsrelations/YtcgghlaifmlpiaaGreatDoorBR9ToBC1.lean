import Derived.Test.YtcgghlaifmlpiaaGreatDoorGSame2ToBR7
namespace Go.Proofs.YtcgghlaifmlpiaaGreatDoor
set_option linter.unusedVariables false
open Go.RowKit Go.Shelf

theorem MxR.grewG {α : Type} {τ : TypeId} {k : Nat} {f : α → List Value} {B n x : Nat} {w wr w' : World} {ks : List Nat} {Rs : List (List Bool)} {v v' : Value} {l : List α} (h : MxR B n x w ks Rs wr) (h1 : 91 ≠ τ) (h2 : 4 ≠ τ) (hv : RO τ k f wr v l) (ho : ∀ j, v.ownBlock = some j → B ≤ j) (g : Grew wr w' v v') : MxR B n x w ks Rs w' :=
  ⟨(g.grown.block _ (lt_of_block h.row) (hv.neR h.row h1)).trans h.row, h.kl, h.rl, h.xn, h.nd, fun j k R hk hR => by
    obtain ⟨q1, q2, q3⟩ := h.blk j k R hk hR
    exact ⟨q1, q2, (g.grown.block _ (lt_of_block q3) (hv.neR q3 h2)).trans q3⟩, h.bel.grown g.grown (by have := lt_of_block h.row; omega) ho⟩
/-- Who is marked in a row, as far as y. -/
def rlR (R : List Bool) (y : Nat) : List Nat := (List.range y).filter fun j => R.getD j false
theorem rlR_next (R : List Bool) (y : Nat) : rlR R (y + 1) = rlR R y ++ (if R.getD y false = true then [y] else []) := by
  unfold rlR
  rw [List.range_succ, List.filter_append]
  congr 1
  by_cases h : R.getD y false = true
  · rw [if_pos h, List.filter_cons_of_pos (by simpa using h)]; rfl
  · rw [if_neg h, List.filter_cons_of_neg (by simpa using h)]; rfl
theorem rlR_len (R : List Bool) (y : Nat) : (rlR R y).length ≤ y := by
  unfold rlR
  have := List.length_filter_le (fun j => R.getD j false) (List.range y)
  simpa using this
/-- The page's pairs. -/
def pmR (Rs : List (List Bool)) (n x : Nat) : List (Int × Int) := (List.range x).flatMap fun u => prR u (rlR (Rs.getD u []) n)
theorem pmR_next (Rs : List (List Bool)) (n x : Nat) : pmR Rs n (x + 1) = pmR Rs n x ++ prR x (rlR (Rs.getD x []) n) := by
  unfold pmR
  rw [List.range_succ, List.flatMap_append]
  simp
theorem pmR_len (Rs : List (List Bool)) (n : Nat) (hn : n ≤ 4096) : ∀ x, (pmR Rs n x).length ≤ 4096 * x
  | 0 => by simp [pmR]
  | x + 1 => by
    rw [pmR_next, List.length_append]
    have h1 := pmR_len Rs n hn x
    have h2 : (prR x (rlR (Rs.getD x []) n)).length ≤ 4096 := by
      unfold prR
      rw [List.length_map]
      exact Nat.le_trans (rlR_len _ _) hn
    omega
theorem prR_snoc (x : Nat) (l : List Nat) (y : Nat) : prR x (l ++ [y]) = prR x l ++ [((x : Int), (y : Int))] := by simp [prR]
/-- What the page's Closure answers. -/
def CpA (w : World) (n : Int) (E : List (Int × Int)) (e : Ending) (w' : World) : Prop :=
  Below w.heap.size w w' ∧ ((rgE n E ≠ 0 ∧ e = .returned (.tuple #[.slice none 0 0, .int .i64 (rgE n E)])) ∨ (rgE n E = 0 ∧ ∃ (k : Nat) (Rs : List (List Bool)) (v : Value), n = (k : Int) ∧ k ≤ 4096 ∧ RxR E k Rs ∧ e = .returned (.tuple #[v, .int .i64 0]) ∧ PRo w' v (pmR Rs k k)))
set_option maxRecDepth 100000 in
set_option maxHeartbeats 8000000 in
theorem clo_no {w : World} (n : Int) (ea : Option Addr) (ec : Nat) (E : List (Int × Int)) (hE : PrsB w ea E) (hEl : E.length ≤ 140737488355328) (h0 : rgE n E ≠ 0) :
    Calls Tryz.prog 8 #[.int .i64 n, .slice ea E.length ec] w (CpA w n E) := by
  have RG : Hid (Calls Tryz.prog 34 #[.int .i64 n, .slice ea E.length ec] w fun e w' => e = .returned (.int .i64 (rgE n E)) ∧ w' = w) := ranged_any n w ea ec E hE hEl
  have h1 : (rgE n E != 0) = true := by simpa using h0
  have HR : Hid (∃ c, rgE n E = c ∧ c ≠ 0) := ⟨_, rfl, h0⟩
  clear hE h0
  generalize hc : rgE n E = c at *
  have HC : Hid (rgE n E = c ∧ c ≠ 0) := ⟨hc, by simpa using h1⟩
  clear hc
  generalize E.length = el at *
  go_enter Tryz.func8, Tryz.ntmps8
  go_wp2_with (go_at_call 34; refine RG.out.mono ?_; rintro e w1 ⟨rfl, hz⟩; rw [hz]; clear hz w1)
  refine bodyPost_ret (v := .tuple #[.slice none 0 0, .int .i64 c]) (by simp [results, Tryz.results8, go_sem]) rfl ?_
  exact ⟨Below.refl _ _, .inl ⟨by rw [HC.out.1]; exact HC.out.2, by rw [HC.out.1]⟩⟩
set_option maxRecDepth 100000 in
set_option maxHeartbeats 8000000 in
theorem clo_yes {w : World} (n : Int) (ea : Option Addr) (ec : Nat) (E : List (Int × Int)) (hE : PrsB w ea E) (hEl : E.length ≤ 140737488355328) (h0 : rgE n E = 0) :
    Calls Tryz.prog 8 #[.int .i64 n, .slice ea E.length ec] w (CpA w n E) := by
  have RG : Hid (Calls Tryz.prog 34 #[.int .i64 n, .slice ea E.length ec] w fun e w' => e = .returned (.int .i64 0) ∧ w' = w) := by
    have := ranged_any n w ea ec E hE hEl
    rwa [h0] at this
  obtain ⟨n, rfl, hn, hok, _⟩ := rg_zero h0
  have H0 : Hid (rgE (n : Int) E = 0) := h0
  have RC : Hid (Calls Tryz.prog 35 #[.int .i64 (n : Int), .slice ea E.length ec] w fun e w' => e = .returned (.slice (some ⟨w.heap.size, 0, none⟩) n n) ∧ ∃ ks Rs, MxR w.heap.size n n w ks Rs w' ∧ RxR E n Rs) := reach_R hn ea ec E hE hEl hok
  clear hE h0 hok
  generalize hel : E.length = el at *
  clear hel
  go_enter Tryz.func8, Tryz.ntmps8
  go_wp2_with (first
    | (go_at_call 34; refine RG.out.mono ?_; rintro e w1 ⟨rfl, hz⟩; rw [hz]; clear hz w1)
    | (go_at_call 35; refine RC.out.mono ?_; rintro e w1 ⟨rfl, ks, Rs, m1, r1⟩; have M1 : Hid (MxR w.heap.size n n w ks Rs w1 ∧ RxR E n Rs) := ⟨m1, r1⟩; clear m1 r1))
  clear RG RC
  go_loopw [8, 9] (fun v z wr => ∃ (x : Nat), x ≤ n ∧ z = .int .i64 (x : Int) ∧ MxR w.heap.size n n w ks Rs wr ∧ PRo wr v (pmR Rs n x) ∧ ∀ j, v.ownBlock = some j → w.heap.size ≤ j) (fun _ z _ => n - (intOf z).toNat)
  case atStart => exact ⟨0, Nat.zero_le _, rfl, M1.out.1, RO.nil _, fun j hj => by simp [Value.ownBlock] at hj⟩
  case round =>
    have HRX : Hid (RxR E n Rs) := M1.out.2
    clear M1
    obtain ⟨x, hx, rfl, hM, hP, hown⟩ := hrel
    have HW : Hid (MxR w.heap.size n n w ks Rs wr ∧ PRo wr u8 (pmR Rs n x) ∧ ∀ j, u8.ownBlock = some j → w.heap.size ≤ j) := ⟨hM, hP, hown⟩
    clear hM hP hown
    by_cases hlt : x < n
    · have xlt : (x : Int) < (n : Int) := by omega
      have HPN : Hid (pmR Rs n (x + 1) = pmR Rs n x ++ prR x (rlR (Rs.getD x []) n)) := pmR_next Rs n x
      have HPL : Hid ((pmR Rs n x).length ≤ 16777216) := by
        have := pmR_len Rs n hn x
        show _ ≤ _
        omega
      generalize pmR Rs n x = pl at *
      go_wp2
      go_loopw [8, 10] (fun v z wr => ∃ (y : Nat), y ≤ n ∧ z = .int .i64 (y : Int) ∧ MxR w.heap.size n n w ks Rs wr ∧ PRo wr v (pl ++ prR x (rlR (Rs.getD x []) y)) ∧ ∀ j, v.ownBlock = some j → w.heap.size ≤ j) (fun _ z _ => n - (intOf z).toNat)
      case atStart => exact ⟨0, Nat.zero_le _, rfl, HW.out.1, by simpa [rlR, prR] using HW.out.2.1, HW.out.2.2⟩
      case round =>
        clear HW
        obtain ⟨y, hy, rfl, hM, hP, hown⟩ := hrel
        obtain ⟨va, vc, rfl, _⟩ := hP.len
        by_cases hyn : y < n
        · have ylt : (y : Int) < (n : Int) := by omega
          obtain ⟨k, R, hk, hR, hRe, hRl, ck, hkb⟩ := hM.at hlt
          obtain ⟨cy, _⟩ := boR_cell hkb (show y < R.length by omega)
          rw [hRe] at cy
          have hne := rlR_next (Rs.getD x []) y
          have HLN : Hid ((pl ++ prR x (rlR (Rs.getD x []) y)).length ≤ 1000000000) := by
            have h1 := HPL.out
            have h2 := rlR_len (Rs.getD x []) y
            show _ ≤ _
            rw [List.length_append]
            unfold prR
            rw [List.length_map]
            omega
          have HW : Hid (MxR w.heap.size n n w ks Rs wr ∧ PRo wr (.slice va (pl ++ prR x (rlR (Rs.getD x []) y)).length vc) (pl ++ prR x (rlR (Rs.getD x []) y)) ∧ ∀ j, (Value.slice va (pl ++ prR x (rlR (Rs.getD x []) y)).length vc).ownBlock = some j → w.heap.size ≤ j) := ⟨hM, hP, hown⟩
          clear hM hP hown hk hR hRe hRl hkb
          cases hb : (Rs.getD x []).getD y false with
          | true =>
            rw [hb] at cy
            rw [hb, if_pos rfl] at hne
            have HNE : Hid (pl ++ prR x (rlR (Rs.getD x []) (y + 1)) = pl ++ prR x (rlR (Rs.getD x []) y) ++ [((x : Int), (y : Int))]) := by show _ = _; rw [hne, prR_snoc, List.append_assoc]
            clear hne hb
            generalize pl ++ prR x (rlR (Rs.getD x []) y) = fl at *
            obtain ⟨fn, hfn⟩ : ∃ fn, fl.length = fn := ⟨_, rfl⟩
            rw [hfn] at HW ⊢
            clear hfn
            go_wp2_with (at_builtin; refine wpList_ro_append rkPr rfl _ _ rfl (.slice va fn vc) fl rfl (HW.out.2.1.later (below_alloc _ _)) wr.heap.size 1 ((x : Int), (y : Int)) rfl (pr_cell wr ((x : Int), (y : Int)) _) HLN.out ?_)
            intro a5 n5 c5 w5 t5 g5
            have H5 : Hid (MxR w.heap.size n n w ks Rs w5 ∧ PRo w5 (.slice a5 n5 c5) (pl ++ prR x (rlR (Rs.getD x []) (y + 1))) ∧ ∀ j, (Value.slice a5 n5 c5).ownBlock = some j → w.heap.size ≤ j) := ⟨(HW.out.1.any (below_alloc _ _)).grewG (by decide) (by decide) (HW.out.2.1.later (below_alloc _ _)) HW.out.2.2 g5, by rw [HNE.out]; exact t5, Grew.own g5 (Nat.le_trans HW.out.1.bel.size (below_alloc wr _).size) HW.out.2.2⟩
            clear t5 g5
            go_wp2
            go_roundw
            case rel => exact ⟨y + 1, by omega, by go_num, H5.out⟩
            case measure => simp [intOf]; omega
          | false =>
            rw [hb] at cy
            rw [hb, if_neg (by simp), List.append_nil] at hne
            have HNE : Hid (rlR (Rs.getD x []) (y + 1) = rlR (Rs.getD x []) y) := hne
            clear hne hb
            generalize (pl ++ prR x (rlR (Rs.getD x []) y)).length = fn at *
            go_wp2
            go_roundw
            case rel => exact ⟨y + 1, by omega, by go_num, HW.out.1, by rw [HNE.out]; exact HW.out.2.1, HW.out.2.2⟩
            case measure => simp [intOf]; omega
        · have ylt : ¬ (y : Int) < (n : Int) := by omega
          obtain rfl : n = y := by omega
          have HW : Hid (MxR w.heap.size n n w ks Rs wr ∧ PRo wr (.slice va (pl ++ prR x (rlR (Rs.getD x []) n)).length vc) (pmR Rs n (x + 1)) ∧ ∀ j, (Value.slice va (pl ++ prR x (rlR (Rs.getD x []) n)).length vc).ownBlock = some j → w.heap.size ≤ j) := ⟨hM, by rw [HPN.out]; exact hP, hown⟩
          clear hM hP hown
          generalize (pl ++ prR x (rlR (Rs.getD x []) n)).length = fn at *
          go_wp2
          go_roundw
          case rel => exact ⟨x + 1, by omega, by go_num, HW.out⟩
          case measure => simp [intOf]; omega
    · have xlt : ¬ (x : Int) < (n : Int) := by omega
      obtain rfl : n = x := by omega
      go_wp2
      refine bodyPost_ret (v := .tuple #[u8, .int .i64 0]) (by simp [results, Tryz.results8, go_sem]) rfl ?_
      exact ⟨HW.out.1.bel, .inr ⟨H0.out, n, Rs, u8, rfl, hn, HRX.out, rfl, HW.out.2.1⟩⟩
end Go.Proofs.YtcgghlaifmlpiaaGreatDoor
namespace Go.Proofs.YtcgghlaifmlpiaaGreatDoor
set_option linter.unusedVariables false
open Go.RowKit Go.Shelf

theorem cd_of {Ns : List Nat} {n P x : Nat} (hx : x < n) (h1 : P.testBit x = false) (h2 : ∀ y, EdB Ns n x y → P.testBit y = true) : cdB Ns n P x = true := by
  unfold cdB
  rw [Bool.and_eq_true, decide_eq_true_iff]
  refine ⟨by rw [h1]; rfl, ?_⟩
  by_cases q : lkB (minusB (Ns.getD x 0) P) n < n
  · obtain ⟨q1, q2⟩ := lk_new q
    rw [h2 _ ⟨hx, q, q1⟩] at q2
    cases q2
  · have := (lkB_is (minusB (Ns.getD x 0) P) n).le
    omega
/-- What is placed where: the first that may be. -/
theorem plc_at {Ns : List Nat} {n : Nat} : ∀ (f : Nat) (l : List Nat) (P : Nat), PcB Ns n l P → ∀ A x B, (plcF Ns n f (l, P)).1 = A ++ x :: B → l.length ≤ A.length → ∃ P', (∀ z, P'.testBit z = true ↔ z ∈ A) ∧ nxB Ns n P' = some x
  | 0, l, P, _, A, x, B, he, hl => by
    have : l = A ++ x :: B := he
    rw [this] at hl
    simp at hl
    omega
  | f + 1, l, P, h, A, x, B, he, hl => by
    unfold plcF at he
    cases e : nxB Ns n P with
    | none =>
      rw [e] at he
      have : l = A ++ x :: B := he
      rw [this] at hl
      simp at hl
      omega
    | some y =>
      rw [e] at he
      have he' : (plcF Ns n f (l ++ [y], addN P y)).1 = A ++ x :: B := he
      by_cases q : l.length < A.length
      · exact plc_at f (l ++ [y]) (addN P y) (h.next e) A x B he' (by simp; omega)
      · have hlA : A.length = l.length := by omega
        have hpre : ∀ (f : Nat) (l : List Nat) (P : Nat), l <+: (plcF Ns n f (l, P)).1 := by
          intro f
          induction f with
          | zero => intro l P; exact List.prefix_refl _
          | succ f ih =>
            intro l P
            unfold plcF
            cases e2 : nxB Ns n P with
            | none => exact List.prefix_refl _
            | some z => exact (List.prefix_append l [z]).trans (ih _ _)
        obtain ⟨C, hC⟩ := hpre f (l ++ [y]) (addN P y)
        rw [he', List.append_assoc] at hC
        have h1 := List.append_inj hC hlA.symm
        have h2 : y = x := by
          have := h1.2
          simp at this
          exact this.1
        refine ⟨P, fun z => by rw [h.sn z, h1.1], by rw [e, h2]⟩
theorem place_at {Ns : List Nat} {n : Nat} {A B : List Nat} {x : Nat} (h : placeU Ns n = A ++ x :: B) : ∃ P', (∀ z, P'.testBit z = true ↔ z ∈ A) ∧ nxB Ns n P' = some x := plc_at n [] 0 .first A x B h (Nat.zero_le _)
theorem nx_least {Ns : List Nat} {n P x : Nat} (h : nxB Ns n P = some x) : x < n ∧ cdB Ns n P x = true ∧ ∀ y, y < x → cdB Ns n P y = false := by
  unfold nxB at h
  have hxn : x < n := List.mem_range.1 (List.mem_of_find?_eq_some h)
  refine ⟨hxn, by simpa using List.find?_some h, fun y hy => ?_⟩
  obtain ⟨_, A, B, hAB, hA⟩ := List.find?_eq_some_iff_append.1 h
  have hyA : y ∈ A := by
    have hl : A.length = x := by
      have e : (List.range n)[A.length]? = some x := by rw [hAB]; simp
      have hlt : A.length < n := by
        have := congrArg List.length hAB
        simp at this
        omega
      rw [List.getElem?_range hlt] at e
      exact Option.some.inj e
    have e2 : (List.range n)[y]? = some y := List.getElem?_range (by omega)
    rw [hAB, List.getElem?_append_left (by omega)] at e2
    exact List.mem_of_getElem? e2
  simpa using hA y hyA
theorem rise_eq : ∀ {l l' : List Nat}, l.Pairwise (· < ·) → l'.Pairwise (· < ·) → (∀ z, z ∈ l ↔ z ∈ l') → l = l'
  | [], [], _, _, _ => rfl
  | [], y :: l', _, _, h => by have := (h y).2 (by simp); cases this
  | x :: l, [], _, _, h => by have := (h x).1 (by simp); cases this
  | x :: l, y :: l', h1, h2, h => by
    have a1 := List.pairwise_cons.1 h1
    have a2 := List.pairwise_cons.1 h2
    have hxy : x = y := by
      have q1 := (h x).1 (by simp)
      have q2 := (h y).2 (by simp)
      rcases List.mem_cons.1 q1 with e | e
      · exact e
      · rcases List.mem_cons.1 q2 with e2 | e2
        · exact e2.symm
        · have := a2.1 x e
          have := a1.1 y e2
          omega
    subst hxy
    congr 1
    refine rise_eq a1.2 a2.2 fun z => ?_
    constructor
    · intro hz
      rcases List.mem_cons.1 ((h z).1 (List.mem_cons_of_mem _ hz)) with e | e
      · subst e; exact absurd (a1.1 z hz) (Nat.lt_irrefl _)
      · exact e
    · intro hz
      rcases List.mem_cons.1 ((h z).2 (List.mem_cons_of_mem _ hz)) with e | e
      · subst e; exact absurd (a2.1 z hz) (Nat.lt_irrefl _)
      · exact e
def rcR (Rs : List (List Bool)) (x y : Nat) : Bool := (Rs.getD x []).getD y false
def smR (Rs : List (List Bool)) (x y : Nat) : Bool := decide (y = x) || (rcR Rs x y && rcR Rs y x)
def csR (Rs : List (List Bool)) (x y : Nat) : List Nat := (List.range y).filter (smR Rs x)
/-- May x come next, as far as y? -/
def maR (Rs : List (List Bool)) (dn : Nat → Bool) (x y : Nat) : Bool := !dn x && (List.range y).all fun u => smR Rs x u || (!rcR Rs x u || dn u)
def okR (Rs : List (List Bool)) (n : Nat) (dn : Nat → Bool) (x : Nat) : Bool := maR Rs dn x n && decide ((csR Rs x n).getD 0 0 = x)
/-- Classes in the page's order. -/
structure GdD (Rs : List (List Bool)) (n : Nat) (D : List (List Nat)) : Prop where
  step : ∀ A T B, D = A ++ T :: B → ∃ x, x < n ∧ T = csR Rs x n ∧ okR Rs n (fun z => decide (z ∈ A.flatten)) x = true ∧ ∀ x', x' < x → okR Rs n (fun z => decide (z ∈ A.flatten)) x' = false
  nd : D.flatten.Nodup
  cov : ∀ z, z ∈ D.flatten ↔ z < n
section
variable {E : List (Int × Int)} {n : Nat} {Ns : List Nat} {Rs : List (List Bool)}
theorem sm_same (hN : RelB E n Ns) (hok : E.all (okE n) = true) (hR : RxR E n Rs) {x y : Nat} (hx : x < n) (hy : y < n) : smR Rs x y = true ↔ RchB Ns n x y ∧ RchB Ns n y x := by
  have h1 := rch_same hN hok hR hx y
  have h2 := rch_same hN hok hR hy x
  rw [← h1, ← h2]
  unfold smR cnR rcR
  simp only [Bool.or_eq_true, Bool.and_eq_true, decide_eq_true_iff]
  constructor
  · rintro (e | ⟨q1, q2⟩)
    · exact ⟨.inl e.symm, .inl e⟩
    · exact ⟨.inr q1, .inr q2⟩
  · rintro ⟨e | q1, e2 | q2⟩
    · exact .inl e2
    · exact .inl e.symm
    · exact .inl e2
    · exact .inr ⟨q1, q2⟩
theorem cl_is (hN : RelB E n Ns) (hok : E.all (okE n) = true) (hR : RxR E n Rs) {C : List (List Nat)} (hC : ClB Ns n C) {T : List Nat} (hT : T ∈ C) (hrise : T.Pairwise (· < ·)) {x : Nat} (hx : x ∈ T) : T = csR Rs x n := by
  have hxn := hC.lt hT hx
  refine rise_eq hrise (List.Pairwise.filter _ List.pairwise_lt_range) fun z => ?_
  unfold csR
  rw [List.mem_filter, List.mem_range]
  constructor
  · intro hz
    have hzn := hC.lt hT hz
    exact ⟨hzn, (sm_same hN hok hR hxn hzn).2 ((hC.mut hT hx).1 hz)⟩
  · rintro ⟨hzn, hz⟩
    exact (hC.mut hT hx).2 ((sm_same hN hok hR hxn hzn).1 hz)
theorem rise_head {T : List Nat} (h : T.Pairwise (· < ·)) (hne : T ≠ []) : T.getD 0 0 ∈ T ∧ ∀ z ∈ T, T.getD 0 0 ≤ z := by
  cases T with
  | nil => exact absurd rfl hne
  | cons x l =>
    refine ⟨by simp [List.getD], fun z hz => ?_⟩
    rcases List.mem_cons.1 hz with e | e
    · simp [List.getD, e]
    · have := (List.pairwise_cons.1 h).1 z e
      simp [List.getD]
      omega
theorem gd_of (hN : RelB E n Ns) (hok : E.all (okE n) = true) (hR : RxR E n Rs) {C D : List (List Nat)} (hC : ClB Ns n C) (hs : C.Pairwise fun T T' => T.getD 0 0 < T'.getD 0 0) (hD : D = orU C Ns n) (hrise : ∀ T ∈ D, T.Pairwise (· < ·)) : GdD Rs n D := by
  have hco : CoB Ns n D := hD ▸ hC.order
  obtain ⟨Q, hQ, _⟩ := place_is (btU C Ns n) C.length
  have hall := nodup_all hQ.nd hQ.lt hC.full
  have inC : ∀ T ∈ D, T ∈ C := fun T hT => by
    rw [hD] at hT
    obtain ⟨a, ha, rfl⟩ := List.mem_map.1 hT
    exact List.mem_of_getElem? (getD_someL (hQ.lt a ha))
  have inD : ∀ T ∈ C, T ∈ D := fun T hT => by
    obtain ⟨i, hi⟩ := List.getElem?_of_mem hT
    have hil := (List.getElem?_eq_some_iff.1 hi).1
    rw [hD]
    refine List.mem_map.2 ⟨i, hall i hil, ?_⟩
    rw [List.getD_eq_getElem?_getD, hi]
    rfl
  have ne : ∀ T ∈ C, T ≠ [] := fun T hT e => by
    obtain ⟨_, r, hr, _⟩ := hC.cls T hT
    rw [e] at hr
    cases hr
  refine ⟨fun A T B hAB => ?_, ?_, fun z => ?_⟩
  · have hTD : T ∈ D := by rw [hAB]; simp
    have hTC := inC T hTD
    have hrT := hrise T hTD
    obtain ⟨hx, hxle⟩ := rise_head hrT (ne T hTC)
    generalize hxe : T.getD 0 0 = x at *
    have hxn := hC.lt hTC hx
    have hTe := cl_is hN hok hR hC hTC hrT hx
    -- what is reached lies ahead or here
    have clo : ∀ u v, u ∈ (A ++ [T]).flatten → EdB Ns n u v → v ∈ (A ++ [T]).flatten := fun u v hu e => by
      obtain ⟨U, hU, huU⟩ := List.mem_flatten.1 hu
      obtain ⟨A1, B1, hA1⟩ := List.append_of_mem hU
      have hsp : D = A1 ++ U :: (B1 ++ B) := by
        rw [hAB, show A ++ T :: B = (A ++ [T]) ++ B by simp, hA1]
        simp
      rcases hco.od A1 U _ hsp u huU v e with q | ⟨T', hT', hv⟩
      · exact List.mem_flatten.2 ⟨U, hU, q⟩
      · exact List.mem_flatten.2 ⟨T', by rw [hA1]; simp [hT'], hv⟩
    have rea : ∀ v, RchB Ns n x v → v ∈ T ∨ v ∈ A.flatten := fun v hv => by
      have := hv.fwd (fun u => u ∈ (A ++ [T]).flatten) clo (by simp [hx])
      simp at this
      rcases this with q | q
      · exact .inr (List.mem_flatten.2 q)
      · exact .inl q
    have apart : ∀ z ∈ T, z ∉ A.flatten := fun z hz q => by
      obtain ⟨U, hU, hzU⟩ := List.mem_flatten.1 q
      have hd := hco.dis
      rw [hAB, List.pairwise_append] at hd
      exact hd.2.2 U hU T (by simp) z hzU z hz rfl
    refine ⟨x, hxn, hTe, ?_, fun x' hx' => ?_⟩
    · unfold okR maR
      rw [Bool.and_eq_true, Bool.and_eq_true, decide_eq_true_iff, ← hTe]
      refine ⟨⟨by simpa using apart x hx, ?_⟩, hxe⟩
      rw [List.all_eq_true]
      intro y hy
      have hy := List.mem_range.1 hy
      by_cases q : rcR Rs x y = true
      · have hr : RchB Ns n x y := (rch_same hN hok hR hxn y).1 (by unfold cnR; unfold rcR at q; rw [q]; simp)
        rcases rea y hr with e | e
        · have := (sm_same hN hok hR hxn hy).2 ((hC.mut hTC hx).1 e)
          rw [this]; rfl
        · simp only [Bool.or_eq_true, decide_eq_true_iff]
          exact .inr (.inr e)
      · have : rcR Rs x y = false := by simpa using q
        rw [this]
        simp
    · cases hk : okR Rs n (fun z => decide (z ∈ A.flatten)) x' with
      | false => rfl
      | true =>
        exfalso
        unfold okR maR at hk
        rw [Bool.and_eq_true, Bool.and_eq_true, decide_eq_true_iff, List.all_eq_true] at hk
        obtain ⟨⟨hk1, hk2⟩, hk3⟩ := hk
        have hk1' : x' ∉ A.flatten := by simpa using hk1
        have hxn' : x' < n := by omega
        obtain ⟨T', hT'C, hx'T⟩ := hC.cov x' hxn'
        have hT'e := cl_is hN hok hR hC hT'C (hrise T' (inD T' hT'C)) hx'T
        rw [← hT'e] at hk3
        -- places of the two classes
        have hD2 := hAB
        rw [hD] at hD2
        unfold orU at hD2
        obtain ⟨A1, R1, hp, hA, hR1⟩ := List.map_eq_append_iff.1 hD2
        obtain ⟨a, B1, rfl, hTa, hB⟩ := List.map_eq_cons_iff.1 hR1
        obtain ⟨P', hP', hnx⟩ := place_at hp
        obtain ⟨hal, _, hless⟩ := nx_least hnx
        obtain ⟨b, hb⟩ := List.getElem?_of_mem hT'C
        have hbl := (List.getElem?_eq_some_iff.1 hb).1
        have hCa : C[a]? = some T := by rw [getD_someL hal, hTa]
        have hba : b < a := by
          rcases Nat.lt_trichotomy b a with q | q | q
          · exact q
          · subst q
            rw [hb] at hCa
            obtain rfl := Option.some.inj hCa
            omega
          · have := List.pairwise_iff_getElem.1 hs a b hal hbl q
            have e1 : C[a] = T := (List.getElem?_eq_some_iff.1 hCa).2
            have e2 : C[b] = T' := (List.getElem?_eq_some_iff.1 hb).2
            rw [e1, e2, hxe, hk3] at this
            omega
        have hcd := hless b hba
        have memA : ∀ c, c ∈ A1 → ∀ Tc, C[c]? = some Tc → Tc ∈ A := fun c hc Tc hTc => by
          rw [← hA]
          exact List.mem_map.2 ⟨c, hc, by rw [List.getD_eq_getElem?_getD, hTc]; rfl⟩
        rw [cd_of hbl ?_ ?_] at hcd
        · cases hcd
        · cases q : P'.testBit b with
          | false => rfl
          | true => exact absurd (List.mem_flatten.2 ⟨T', memA b ((hP' b).1 q) T' hb, hx'T⟩) hk1'
        · intro c hec
          obtain ⟨hbc, T1, T2, x1, y1, hT1, hT2, hx1, hy1, he1⟩ := hC.ed.1 hec
          rw [hb] at hT1
          obtain rfl := Option.some.inj hT1
          have hy1n := he1.2.1
          have hr1 : RchB Ns n x' y1 := (((hC.mut hT'C hx'T).1 hx1).1).trans (.one he1)
          have hns : smR Rs x' y1 = false := by
            cases q : smR Rs x' y1 with
            | false => rfl
            | true =>
              have := (hC.mut hT'C hx'T).2 ((sm_same hN hok hR hxn' hy1n).1 q)
              exact absurd (hC.one hb hT2 this hy1) hbc
          have hrc : rcR Rs x' y1 = true := by
            have := (rch_same hN hok hR hxn' y1).2 hr1
            unfold cnR at this
            rw [Bool.or_eq_true, decide_eq_true_iff] at this
            rcases this with e | e
            · subst e
              unfold smR at hns
              simp at hns
            · exact e
          have h3 := hk2 y1 (List.mem_range.2 hy1n)
          rw [hns, hrc] at h3
          have h4 : y1 ∈ A.flatten := by simpa using h3
          obtain ⟨U, hU, hyU⟩ := List.mem_flatten.1 h4
          rw [← hA] at hU
          obtain ⟨c', hc', rfl⟩ := List.mem_map.1 hU
          have hc'l := hQ.lt c' (by rw [hp]; simp [hc'])
          have : c' = c := hC.one (getD_someL hc'l) hT2 hyU hy1
          subst this
          exact (hP' c').2 hc'
  · show List.Pairwise (· ≠ ·) D.flatten
    rw [List.pairwise_flatten]
    exact ⟨fun T hT => (hrise T hT).imp (fun h => Nat.ne_of_lt h), hco.dis⟩
  · constructor
    · intro hz
      obtain ⟨T, hT, hzT⟩ := List.mem_flatten.1 hz
      exact hC.lt (inC T hT) hzT
    · intro hz
      obtain ⟨T, hT, hzT⟩ := hco.cov z hz
      exact List.mem_flatten.2 ⟨T, hT, hzT⟩
end
end Go.Proofs.YtcgghlaifmlpiaaGreatDoor
namespace Go.Proofs.YtcgghlaifmlpiaaGreatDoor
set_option linter.unusedVariables false
open Go.RowKit Go.Shelf

/-- The truths of a list of numbers. -/
def bsD (l : List Nat) (n : Nat) : List Bool := (List.range n).map fun z => decide (z ∈ l)
theorem bsD_len (l : List Nat) (n : Nat) : (bsD l n).length = n := by simp [bsD]
theorem bsD_get (l : List Nat) {n z : Nat} (hz : z < n) : (bsD l n).getD z false = decide (z ∈ l) := by
  unfold bsD
  rw [List.getD_eq_getElem?_getD, List.getElem?_map, List.getElem?_range hz]
  rfl
theorem bsD_set (l : List Nat) {n t : Nat} : (bsD l n).set t true = bsD (l ++ [t]) n := by
  apply List.ext_getElem?
  intro z
  rw [List.getElem?_set]
  unfold bsD
  rw [List.getElem?_map, List.getElem?_map]
  by_cases hz : z < n
  · rw [List.getElem?_range hz]
    by_cases e : t = z
    · subst e
      simp [hz]
    · rw [if_neg e]
      simp only [Option.map_some, Option.some.injEq, List.mem_append, List.mem_singleton]
      rw [Bool.eq_iff_iff, decide_eq_true_iff, decide_eq_true_iff]
      exact ⟨fun q => .inl q, fun q => q.elim id (fun q => absurd q.symm e)⟩
  · rw [List.getElem?_eq_none (by simp; omega)]
    by_cases e : t = z
    · subst e
      simp [hz]
    · rw [if_neg e]
      simp
theorem bsD_nil (n : Nat) : bsD [] n = List.replicate n false := by
  apply List.ext_getElem
  · simp [bsD]
  · intro k h1 h2
    simp [bsD]
theorem maR_next (Rs : List (List Bool)) (dn : Nat → Bool) (x y : Nat) : maR Rs dn x (y + 1) = (maR Rs dn x y && (smR Rs x y || (!rcR Rs x y || dn y))) := by
  unfold maR
  rw [List.range_succ, List.all_append]
  simp [Bool.and_assoc]
theorem csR_next (Rs : List (List Bool)) (x y : Nat) : csR Rs x (y + 1) = csR Rs x y ++ (if smR Rs x y = true then [y] else []) := by
  unfold csR
  rw [List.range_succ, List.filter_append]
  congr 1
  by_cases h : smR Rs x y = true
  · rw [if_pos h, List.filter_cons_of_pos h]; rfl
  · rw [if_neg h, List.filter_cons_of_neg h]; rfl
theorem csR_len (Rs : List (List Bool)) (x y : Nat) : (csR Rs x y).length ≤ y := by
  unfold csR
  have := List.length_filter_le (smR Rs x) (List.range y)
  simpa using this
theorem csR_self (Rs : List (List Bool)) {x n : Nat} (hx : x < n) : x ∈ csR Rs x n := by
  unfold csR
  rw [List.mem_filter, List.mem_range]
  exact ⟨hx, by unfold smR; simp⟩
theorem csR_lt {Rs : List (List Bool)} {x n z : Nat} (h : z ∈ csR Rs x n) : z < n := List.mem_range.1 (List.mem_filter.1 h).1
section
variable {Rs : List (List Bool)} {n : Nat} {D : List (List Nat)}
theorem GdD.total (h : GdD Rs n D) : D.flatten.length = n := by
  have := (List.perm_ext_iff_of_nodup h.nd List.nodup_range).2 fun z => by rw [h.cov z, List.mem_range]
  rw [this.length_eq, List.length_range]
theorem GdD.split (h : GdD Rs n D) (i : Nat) : (D.take i).flatten.length + (D.drop i).flatten.length = n := by
  rw [← h.total, ← List.length_append, ← List.flatten_append, List.take_append_drop]
theorem GdD.le (h : GdD Rs n D) (i : Nat) : (D.take i).flatten.length ≤ n := by have := h.split i; omega
/-- So long as there are classes, one comes next. -/
theorem GdD.go (h : GdD Rs n D) {i : Nat} (hi : i < D.length) : ∃ x, x < n ∧ D.getD i [] = csR Rs x n ∧ okR Rs n (fun z => decide (z ∈ (D.take i).flatten)) x = true ∧ (∀ x', x' < x → okR Rs n (fun z => decide (z ∈ (D.take i).flatten)) x' = false) ∧ (D.take (i + 1)).flatten = (D.take i).flatten ++ csR Rs x n ∧ (D.take i).flatten.length + (csR Rs x n).length ≤ n ∧ 0 < (csR Rs x n).length := by
  have hs : D = D.take i ++ D.getD i [] :: D.drop (i + 1) := by
    rw [List.getD_eq_getElem?_getD, List.getElem?_eq_getElem hi]
    simp
  obtain ⟨x, hx, hT, h1, h2⟩ := h.step _ _ _ hs
  have e : (D.take (i + 1)).flatten = (D.take i).flatten ++ csR Rs x n := by
    rw [List.take_add_one, List.getElem?_eq_getElem hi, List.flatten_append]
    rw [List.getD_eq_getElem?_getD, List.getElem?_eq_getElem hi] at hT
    simp only [Option.getD_some] at hT
    rw [hT]
    simp
  refine ⟨x, hx, hT, h1, h2, e, ?_, List.length_pos_iff.2 (List.ne_nil_of_mem (csR_self Rs hx))⟩
  have := h.le (i + 1)
  rw [e, List.length_append] at this
  exact this
theorem GdD.stop (h : GdD Rs n D) {i : Nat} (hi : i ≤ D.length) (h0 : (D.take i).flatten.length = n) : i = D.length := by
  rcases Nat.lt_or_ge i D.length with q | q
  · obtain ⟨x, _, _, _, _, _, h1, h2⟩ := h.go q
    omega
  · omega
theorem GdD.len (h : GdD Rs n D) : D.length ≤ n := by
  have key : ∀ i, i ≤ D.length → i ≤ (D.take i).flatten.length := by
    intro i
    induction i with
    | zero => intro _; exact Nat.zero_le _
    | succ i ih =>
      intro hi
      obtain ⟨x, _, _, _, _, e, _, h2⟩ := h.go (show i < D.length by omega)
      have := ih (by omega)
      rw [e, List.length_append]
      omega
  have := key D.length (Nat.le_refl _)
  rw [List.take_length, h.total] at this
  exact this
end
theorem DoR.kepB {B x : Nat} {L : Nat → List Int} {v : Value} {wr w' : World} (h : DoR B L x v wr) (hk : ∀ (b : Nat) (C : Array Value) (t : TypeId), wr.heap[b]? = some (.cells C t (0, 0)) → t ≠ 4 → w'.heap[b]? = wr.heap[b]?) : DoR B L x v w' := by
  obtain ⟨Vs, h1, h2, h3⟩ := h.hl
  refine ⟨⟨Vs, h1.kept fun k hk' => ?_, h2, fun j V hV => (h3 j V hV).kepT fun b C hb => hk b C _ hb (by decide)⟩, h.own⟩
  rcases h1.2 with ⟨rfl, _⟩ | ⟨g, cap, cur, rfl, _, hg, _⟩
  · simp [Value.ownBlock] at hk'
  · simp [Value.ownBlock] at hk'
    subst hk'
    exact hk _ _ _ hg (by decide)
theorem setB_kept {wr : World} {k z : Nat} {R : List Bool} (h : wr.heap[k]? = some (.cells (R.map Value.bool).toArray 4)) (v : Value) : ∀ (b : Nat) (C : Array Value) (t : TypeId), wr.heap[b]? = some (.cells C t (0, 0)) → t ≠ 4 → (wr.setCell ⟨k, z, none⟩ v).heap[b]? = wr.heap[b]? := fun b C t hb ht => by
  refine (frB_setCell wr k z v).block b (lt_of_block hb) fun e => ?_
  have e2 : b = k := e
  subst e2
  rw [h] at hb
  simp only [Option.some.injEq, Obj.cells.injEq] at hb
  exact ht hb.2.1.symm
theorem IRo.kepB {w w' : World} {v : Value} {l : List Int} (h : IRo w v l) (hk : ∀ (b : Nat) (C : Array Value) (t : TypeId), w.heap[b]? = some (.cells C t (0, 0)) → t ≠ 4 → w'.heap[b]? = w.heap[b]?) : IRo w' v l := by
  refine h.kept fun k hk' => ?_
  rcases h.2 with ⟨rfl, _⟩ | ⟨g, cap, cur, rfl, _, hg, _⟩
  · simp [Value.ownBlock] at hk'
  · simp [Value.ownBlock] at hk'
    subst hk'
    exact hk _ _ _ hg (by decide)
/-- One list more, beside a row of truths. -/
theorem dor_stepB {w1 wr w' : World} {n x fn : Nat} {bs : List Bool} {L : Nat → List Int} {va ta : Option Addr} {vc tc : Nat} {v' : Value} {Vs : List Value} (hl : HL 46 wr (.slice va x vc) Vs) (hn : Vs.length = x) (hj : ∀ (j : Nat) (V : Value), Vs[j]? = some V → IL wr V (L j)) (ho : ∀ j, (Value.slice va x vc).ownBlock = some j → w1.heap.size ≤ j) (hV : IL wr (.slice ta fn tc) (L x)) (hM : RoR w1 n bs wr) (h' : HL 46 w' v' (Vs ++ [.slice ta fn tc])) (g : Grew (wr.alloc (.cells #[.slice ta fn tc] 46)) w' (.slice va x vc) v') : DoR w1.heap.size L (x + 1) v' w' ∧ RoR w1 n bs w' := by
  have hb := below_alloc wr (.cells #[.slice ta fn tc] 46)
  have hM2 := hM.any hb
  refine ⟨DoR.push (hl.later hb) hn (fun j V hV => (hj j V hV).later hb) ho (Nat.le_trans hM.bel.size hb.size) (hV.later hb) h' g, ?_⟩
  exact ⟨(g.grown.block _ (lt_of_block hM2.blk) ((hl.later hb).ne hM2.blk (by decide))).trans hM2.blk, hM2.len, hM2.bel.grown g.grown hM2.bel.size ho⟩
/-- A list of lists and an error, of the page's Components. -/
def CqA (w : World) (n : Int) (E : List (Int × Int)) (D : List (List Nat)) (e : Ending) (w' : World) : Prop := Below w.heap.size w w' ∧ ((rgE n E ≠ 0 ∧ e = .returned (.tuple #[.slice none 0 0, .int .i64 (rgE n E)])) ∨ (rgE n E = 0 ∧ ∃ a c, e = .returned (.tuple #[.slice a D.length c, .int .i64 0]) ∧ LrwB w' a (D.map nI)))
theorem mapD_range (D : List (List Nat)) : (List.range D.length).map (fun j => nI (D.getD j [])) = D.map nI := by
  apply List.ext_getElem?
  intro i
  rw [List.getElem?_map, List.getElem?_map]
  by_cases h : i < D.length
  · rw [List.getElem?_range h, List.getElem?_eq_getElem h]
    simp [List.getD, h]
  · rw [List.getElem?_eq_none (by simp; omega), List.getElem?_eq_none (by omega)]
    rfl
end Go.Proofs.YtcgghlaifmlpiaaGreatDoor
