import Derived.Test.YtmpdgmigpjfcpaaDoorBL1
namespace Go.Proofs.YtmpdgmigpjfcpaaDoor
set_option linter.unusedVariables false
open Go.RowKit Go.Shelf

/-- What Closure tells of two numbers. -/
def tcB (Ms : List Nat) (x y : Nat) : Bool := (Ms.getD x 0).testBit y
theorem prU_mem {Ms : List Nat} {m n : Nat} {p : Int × Int} : p ∈ prU Ms m n ↔ ∃ x y : Nat, x < n ∧ y < m ∧ (Ms.getD x 0).testBit y = true ∧ p = ((x : Int), (y : Int)) := by
  unfold prU prR
  simp only [List.mem_flatMap, List.mem_range, List.mem_map, bitsU_mem]
  constructor
  · rintro ⟨x, hx, y, ⟨hy, hb⟩, rfl⟩
    exact ⟨x, y, hx, hy, hb, rfl⟩
  · rintro ⟨x, y, hx, hy, hb, rfl⟩
    exact ⟨x, hx, y, ⟨hy, hb⟩, rfl⟩
theorem hasP_mem {E : List (Int × Int)} {a b : Int} : hasP E a b = true ↔ (a, b) ∈ E := by
  unfold hasP
  rw [List.any_eq_true]
  constructor
  · rintro ⟨p, hp, h⟩
    simp only [Bool.and_eq_true, decide_eq_true_iff] at h
    have : p = (a, b) := Prod.ext h.1 h.2
    rw [← this]
    exact hp
  · intro h
    exact ⟨_, h, by simp⟩
theorem hasP_pr {Ms : List Nat} {k x y : Nat} (hx : x < k) (hy : y < k) : hasP (prU Ms k k) (x : Int) (y : Int) = tcB Ms x y := by
  rw [Bool.eq_iff_iff, hasP_mem, prU_mem]
  constructor
  · rintro ⟨x', y', _, _, hb, e⟩
    simp only [Prod.mk.injEq] at e
    have e1 : x' = x := by omega
    have e2 : y' = y := by omega
    rw [e1, e2] at hb
    exact hb
  · intro h
    exact ⟨x, y, hx, hy, h, rfl⟩
theorem tc_rch {Ns Ms : List Nat} {k x y : Nat} (hM : SolB Ns Ns k Ms) (hx : x < k) (hy : y < k) : tcB Ms x y = true ↔ Relation.TransGen (EdB Ns k) x y := by
  unfold tcB
  rw [hM.bit x hx y]
  constructor
  · rintro ⟨z, hz, hb⟩
    have ez : EdB Ns k z y := ⟨hz.lt hx, hy, hb⟩
    rcases hz with rfl | hz
    · exact .single ez
    · exact hz.tail ez
  · intro h
    cases h with
    | single e => exact ⟨x, .refl x, e.2.2⟩
    | tail h e => exact ⟨_, .inr h, e.2.2⟩
theorem CoB.idx {Ns : List Nat} {n : Nat} {D : List (List Nat)} (h : CoB Ns n D) {x y : Nat} (hr : RchB Ns n x y) : ∀ {i j : Nat} {T T' : List Nat}, D[i]? = some T → x ∈ T → D[j]? = some T' → y ∈ T' → j ≤ i := by
  intro i j T T' hi hx hj hy
  have key : ∀ j T', D[j]? = some T' → y ∈ T' → j ≤ i := hr.fwd (fun u => ∀ j T', D[j]? = some T' → u ∈ T' → j ≤ i) (fun u v hu e j2 T2 hj2 hv => by
    obtain ⟨Tu, hTu, huT⟩ := h.cov u e.1
    obtain ⟨iu, hiu⟩ := List.getElem?_of_mem hTu
    have hle := hu iu Tu hiu huT
    obtain ⟨hlu, hvu⟩ := List.getElem?_eq_some_iff.1 hiu
    have hspl : D = D.take iu ++ Tu :: D.drop (iu + 1) := by
      rw [← hvu, ← List.drop_eq_getElem_cons hlu, List.take_append_drop]
    rcases h.od _ _ _ hspl u huT v e with q | ⟨T3, hT3, hv3⟩
    · have := h.toClB.one hj2 hiu hv q
      omega
    · obtain ⟨j3, hj3⟩ := List.getElem?_of_mem hT3
      have hl3 : j3 < iu := by
        have := (List.getElem?_eq_some_iff.1 hj3).1
        simp at this
        omega
      rw [List.getElem?_take_of_lt hl3] at hj3
      have := h.toClB.one hj2 hj3 hv hv3
      omega) (fun j2 T2 hj2 hx2 => Nat.le_of_eq (h.toClB.one hj2 hi hx2 hx))
  exact key j T' hj hy
theorem popB_all {N : Nat} : ∀ {n : Nat}, (∀ j, j < n → N.testBit j = true) → popB N n = n
  | 0, _ => rfl
  | n + 1, h => by
    show popB N n + (N.testBit n).toNat = n + 1
    rw [popB_all (fun j hj => h j (by omega)), h n (by omega)]
    rfl
theorem CoB.total {Ns : List Nat} {n : Nat} {D : List (List Nat)} (h : CoB Ns n D) : D.flatten.length = n := by
  have h1 : D.flatten.Nodup := List.pairwise_flatten.2 ⟨fun T hT => (h.cls T hT).1, h.dis⟩
  have h2 : ∀ z ∈ D.flatten, z < n := fun z hz => by
    obtain ⟨T, hT, hzT⟩ := List.mem_flatten.1 hz
    exact h.toClB.lt hT hzT
  rw [← bsN_pop h1 h2]
  refine popB_all (fun j hj => (bsN_bit _ j).2 ?_)
  obtain ⟨T, hT, hjT⟩ := h.cov j hj
  exact List.mem_flatten.2 ⟨T, hT, hjT⟩
/-- Classes told so far. -/
structure AtC (D : List (List Nat)) (k i q : Nat) (K : List Nat) : Prop where
  len : K.length = k
  yes : ∀ (i' x : Nat) (T : List Nat), D[i']? = some T → x ∈ T → i' < i ∨ (i' = i ∧ x ∈ T.take q) → K.getD x 0 = i' + 1
theorem AtC.next {Ns D : List (List Nat)} {N : List Nat} {k i q : Nat} {K T : List Nat} (h : AtC D k i q K) (hD : CoB N k D) (hi : D[i]? = some T) (hq : q < T.length) : AtC D k i (q + 1) (K.set (T.getD q 0) (i + 1)) := by
  have hxT := getD_memN hq
  have hxk := hD.toClB.lt (List.mem_of_getElem? hi) hxT
  refine ⟨by rw [List.length_set]; exact h.len, fun i' x T' hi' hx hor => ?_⟩
  rw [getD_setV]
  by_cases e : T.getD q 0 = x
  · have e2 : i' = i := hD.toClB.one hi' hi hx (by rw [← e]; exact hxT)
    rw [if_pos ⟨e, by rw [h.len, ← e]; exact hxk⟩, e2]
  · rw [if_neg (fun z => e z.1)]
    refine h.yes i' x T' hi' hx (hor.imp id (fun z => ⟨z.1, ?_⟩))
    have e3 : T' = T := by
      rw [z.1, hi] at hi'
      exact (Option.some.inj hi').symm
    rw [e3] at z ⊢
    rcases (take_memB hq).1 z.2 with q1 | q1
    · exact q1
    · exact absurd q1.symm e
theorem AtC.row {D : List (List Nat)} {k i : Nat} {K T : List Nat} (h : AtC D k i T.length K) (hi : D[i]? = some T) : AtC D k (i + 1) 0 K := by
  refine ⟨h.len, fun i' x T' hi' hx hor => h.yes i' x T' hi' hx ?_⟩
  rcases hor with q | ⟨_, q⟩
  · by_cases e : i' = i
    · subst e
      rw [hi] at hi'
      cases hi'
      exact .inr ⟨rfl, by rw [List.take_length]; exact hx⟩
    · exact .inl (by omega)
  · simp at q
set_option maxRecDepth 100000 in
set_option maxHeartbeats 16000000 in
theorem partition_B {w : World} {k : Nat} {Ns Ms : List Nat} {D : List (List Nat)} {V : List SlV} (hk : k ≤ 4096) (hM : SolB Ns Ns k Ms) (hD : CoB Ns k D) (hrise : ∀ T ∈ D, T.Pairwise (· < ·)) {la da : Option Addr} (L : List (Int × Int)) (hLe : L = prU Ms k k) (hL : PrsB w la L) (hC : LrB w da V D) (lc dc : Nat) :
    Calls Tryd.prog 32 #[.int .i64 (k : Int), .slice la L.length lc, .slice da D.length dc] w fun e w' => e = .returned (.bool true) ∧ Below w.heap.size w w' := by
  have hLl : L.length ≤ 140737488355328 := by
    rw [hLe]
    have := prU_len Ms k hk k
    omega
  have HHP : Hid (∀ x y : Nat, x < k → y < k → hasP L (x : Int) (y : Int) = tcB Ms x y) := fun x y hx hy => by rw [hLe]; exact hasP_pr hx hy
  have HL : Hid (PrsB w la L) := hL
  have HD : Hid (CoB Ns k D ∧ ∀ T ∈ D, T.Pairwise (· < ·)) := ⟨hD, hrise⟩
  have HC : Hid (LrB w da V D) := hC
  have HM : Hid (SolB Ns Ns k Ms) := hM
  have hDl : D.length ≤ 4096 := by have := hD.toClB.count.1; omega
  have HTL : Hid (∀ T ∈ D, T.length ≤ 4096) := fun T hT => by have := hD.toClB.count.2.2 T hT; omega
  have HFL : Hid (∀ i, (D.take i).flatten.length ≤ 4096) := fun i => by
    have h1 : (D.take i).flatten.length + (D.drop i).flatten.length = D.flatten.length := by
      rw [← List.length_append, ← List.flatten_append, List.take_append_drop]
    have := hD.total
    omega
  have HTK : Hid (∀ i, i < D.length → (D.take (i + 1)).flatten.length = (D.take i).flatten.length + (D.getD i []).length) := fun i hi => by
    rw [List.take_add_one, getD_someL hi]
    simp
  have HTO : Hid ((D.take D.length).flatten.length = k) := by
    show _ = _
    rw [List.take_length]
    exact hD.total
  have hmk := make_iB k (by omega) w
  have K0 : Hid (KbB (w.alloc (.cells (madeCells #[.int .i64 0] k) 3)) w.heap.size (List.replicate k 0) ∧ Below w.heap.size w (w.alloc (.cells (madeCells #[.int .i64 0] k) 3))) := ⟨KbB.made w k, below_alloc w _⟩
  have A0 : Hid (AtC D k 0 0 (List.replicate k 0)) := ⟨by simp, fun i' x T _ _ hor => by
    rcases hor with q | ⟨_, q⟩
    · omega
    · simp at q⟩
  have HAS : Hid (∀ w3, Below w.heap.size w w3 → ∀ x y : Nat, x < k → y < k → Calls Tryd.prog 31 #[.slice la L.length lc, .agg #[.int .i64 (x : Int), .int .i64 (y : Int)]] w3 fun e w' => e = .returned (.bool (tcB Ms x y)) ∧ Below w3.heap.size w3 w') := fun w3 b3 x y hx hy => by
    have := has_B (HL.out.later b3) hLl lc (x : Int) (y : Int)
    rw [HHP.out x y hx hy] at this
    exact this
  clear hM hD hrise hLe hL hC hLl
  go_enter Tryd.func32, Tryd.ntmps32
  go_wp2
  clear hmk
  go_loopw [8, 9] (fun c z wr => ∃ (i : Nat) (K : List Nat), i ≤ D.length ∧ z = .int .i64 (i : Int) ∧ c = .int .i64 (((D.take i).flatten.length : Nat) : Int) ∧ KbB wr w.heap.size K ∧ AtC D k i 0 K ∧ Below w.heap.size w wr) (fun _ z _ => D.length - (intOf z).toNat)
  case atStart => exact ⟨0, _, Nat.zero_le _, rfl, rfl, K0.out.1, A0.out, K0.out.2⟩
  case round =>
    clear K0 A0
    obtain ⟨i, K, hi, rfl, rfl, hK, hA, hB⟩ := hrel
    by_cases hil : i < D.length
    · have ilt : (i : Int) < (D.length : Int) := by omega
      obtain ⟨db, do_, xa, xc, hda, hdbl, ck0, hrow⟩ := HC.out.at hil
      have hTm := getD_memL hil
      have hTi := getD_someL hil
      have htk := HTK.out i hil
      have hfl := HFL.out (i + 1)
      obtain ⟨T, hTe⟩ : ∃ T, D.getD i [] = T := ⟨_, rfl⟩
      rw [hTe] at ck0 hrow hTm htk hTi
      have hTl := HTL.out T hTm
      have hris := HD.out.2 T hTm
      have HTX : Hid (∀ x ∈ T, x < k) := fun x hx => HD.out.1.toClB.lt hTm hx
      have HTI : Hid (D[i]? = some T) := hTi
      have HTK2 : Hid ((D.take (i + 1)).flatten.length = (D.take i).flatten.length + T.length) := htk
      have HRI : Hid (∀ q, 0 < q → q < T.length → T.getD (q - 1) 0 < T.getD q 0) := fun q h1 h2 => by
        have := (List.pairwise_iff_getElem.1 hris) (q - 1) q (by omega) h2 (by omega)
        rw [List.getD_eq_getElem?_getD, List.getD_eq_getElem?_getD, List.getElem?_eq_getElem (show q - 1 < T.length by omega), List.getElem?_eq_getElem h2]
        exact this
      have CK : Hid (∀ wr, Below w.heap.size w wr → wr.cell? ⟨db, do_ + i, none⟩ = some (.slice xa T.length xc)) := fun wr b => cellL ck0 b
      have HRW : Hid (InRow w xa (nI T)) := hrow
      rw [htk] at hfl
      have HK : Hid (KbB wr w.heap.size K ∧ AtC D k i 0 K ∧ Below w.heap.size w wr) := ⟨hK, hA, hB⟩
      subst hda
      generalize (D.take i).flatten.length = A at *
      clear hK hA hB hTm hTi htk hTe hrow ck0 hris
      obtain ⟨wz, rfl⟩ : ∃ wz : World, wz = wr := ⟨_, rfl⟩
      go_wp2
      go_loopw [8, 10] (fun c z wr => ∃ (q : Nat) (K : List Nat), q ≤ T.length ∧ z = .int .i64 (q : Int) ∧ c = .int .i64 ((A : Int) + (q : Int)) ∧ KbB wr w.heap.size K ∧ AtC D k i q K ∧ Below w.heap.size w wr) (fun _ z _ => T.length - (intOf z).toNat)
      case atStart => exact ⟨0, K, Nat.zero_le _, rfl, by simp, HK.out.1, HK.out.2.1, HK.out.2.2⟩
      case round =>
        clear HK
        obtain ⟨q, K2, hq, rfl, rfl, hK, hA, hB⟩ := hrel
        have ck := CK.out wr hB
        by_cases hql : q < T.length
        · have qlt : (q : Int) < (T.length : Int) := by omega
          obtain ⟨tb, to, hxa, htl, cq⟩ := inrow_at (HRW.out.later hB) (i := q) (x := T.getD q 0) (by rw [List.getD_eq_getElem?_getD, List.getElem?_eq_getElem hql]; rfl)
          have hxk := HTX.out _ (getD_memN hql)
          have hnx := AtC.next (Ns := []) hA HD.out.1 HTI.out hql
          have cx := hK.cell (i := T.getD q 0) (by rw [hA.len]; exact hxk)
          have fx := hK.free (T.getD q 0)
          have HN : Hid (KbB (wr.setCell ⟨w.heap.size, T.getD q 0, none⟩ (.int .i64 ((i : Int) + 1))) w.heap.size (K2.set (T.getD q 0) (i + 1)) ∧ AtC D k i (q + 1) (K2.set (T.getD q 0) (i + 1)) ∧ Below w.heap.size w (wr.setCell ⟨w.heap.size, T.getD q 0, none⟩ (.int .i64 ((i : Int) + 1)))) := ⟨hK.set _ (i + 1), hnx, hB.setCell (p := ⟨w.heap.size, T.getD q 0, none⟩) (Nat.le_refl _) _⟩
          have wA : IntKind.i64.wrap ((A : Int) + (q : Int) + 1) = (A : Int) + (q : Int) + 1 := by rw [IntKind.wrap_i64]; omega
          by_cases hq0 : q = 0
          · subst hq0
            rw [Nat.add_zero] at cq
            generalize K2.getD (T.getD 0 0) 0 = kx at *
            generalize T.getD 0 0 = x at *
            have xlt : (x : Int) < (k : Int) := by omega
            have xge : ¬ ((x : Int) ≥ (k : Int)) := by omega
            have x0 : ¬ ((x : Int) < 0) := by omega
            subst hxa
            clear hK hA hB hnx
            go_wp2
            go_roundw
            case rel => exact ⟨1, _, by omega, by go_num, by simp, HN.out.1, HN.out.2.1, HN.out.2.2⟩
            case measure => simp [intOf]; omega
          · have hris := HRI.out q (by omega) hql
            obtain ⟨tb', to', hxa', htl', cq'⟩ := inrow_at (HRW.out.later hB) (i := q - 1) (x := T.getD (q - 1) 0) (by rw [List.getD_eq_getElem?_getD, List.getElem?_eq_getElem (by omega)]; rfl)
            obtain ⟨p, rfl⟩ : ∃ p, q = p + 1 := ⟨q - 1, by omega⟩
            rw [Nat.add_sub_cancel] at hris cq'
            rw [hxa] at hxa'
            simp only [Option.some.injEq, Addr.mk.injEq, and_true] at hxa'
            obtain ⟨rfl, rfl⟩ := hxa'
            generalize K2.getD (T.getD (p + 1) 0) 0 = kx at *
            generalize T.getD (p + 1) 0 = x at *
            generalize T.getD p 0 = x' at *
            have xlt : (x : Int) < (k : Int) := by omega
            have xge : ¬ ((x : Int) ≥ (k : Int)) := by omega
            have x0 : ¬ ((x : Int) < 0) := by omega
            have xle : ¬ ((x : Int) ≤ (x' : Int)) := by omega
            have plt : (p : Int) < (T.length : Int) := by omega
            have qpos : ((p + 1 : Nat) : Int) > 0 := by omega
            subst hxa
            clear hK hA hB hnx hq0
            go_wp2
            go_roundw
            case rel => exact ⟨p + 1 + 1, _, by omega, by go_num, by go_num, HN.out.1, HN.out.2.1, HN.out.2.2⟩
            case measure => simp [intOf]; omega
        · obtain rfl : q = T.length := by omega
          have qlt : ¬ (T.length : Int) < (T.length : Int) := by omega
          have HN : Hid (KbB wr w.heap.size K2 ∧ AtC D k (i + 1) 0 K2 ∧ Below w.heap.size w wr) := ⟨hK, hA.row HTI.out, hB⟩
          clear hK hA hB
          go_wp2
          go_roundw
          case rel => exact ⟨i + 1, _, by omega, by go_num, by rw [HTK2.out]; simp, HN.out.1, HN.out.2.1, HN.out.2.2⟩
          case measure => simp [intOf]; omega
    · obtain rfl : i = D.length := by omega
      have ilt : ¬ (D.length : Int) < (D.length : Int) := by omega
      rw [HTO.out]
      have HK : Hid (KbB wr w.heap.size K ∧ Below w.heap.size w wr ∧ K.length = k) := ⟨hK, hB, hA.len⟩
      have HAT : Hid (∀ x, x < k → ∃ i T, D[i]? = some T ∧ x ∈ T ∧ K.getD x 0 = i + 1) := fun x hx => by
        obtain ⟨T, hT, hxT⟩ := HD.out.1.cov x hx
        obtain ⟨i, hi⟩ := List.getElem?_of_mem hT
        exact ⟨i, T, hi, hxT, hA.yes i x T hi hxT (.inl (List.getElem?_eq_some_iff.1 hi).1)⟩
      have HSAME : Hid (∀ x y, x < k → y < k → (K.getD x 0 = K.getD y 0 ↔ x = y ∨ tcB Ms x y = true ∧ tcB Ms y x = true) ∧ (tcB Ms x y = true → K.getD y 0 ≤ K.getD x 0)) := fun x y hx hy => by
        obtain ⟨i, T, hi, hxT, e1⟩ := HAT.out x hx
        obtain ⟨j, T', hj, hyT, e2⟩ := HAT.out y hy
        rw [e1, e2, tc_rch HM.out hx hy, tc_rch HM.out hy hx]
        refine ⟨⟨fun e => ?_, fun h => ?_⟩, fun h => ?_⟩
        · have eij : i = j := by omega
          subst eij
          rw [hi] at hj
          cases hj
          obtain ⟨r1, r2⟩ := (HD.out.1.toClB.mut (List.mem_of_getElem? hi) hxT).1 hyT
          rcases r1 with r1 | r1
          · exact .inl r1
          · rcases r2 with r2 | r2
            · exact .inl r2.symm
            · exact .inr ⟨r1, r2⟩
        · rcases h with rfl | ⟨r1, r2⟩
          · have := HD.out.1.toClB.one hi hj hxT hyT
            omega
          · have h1 := HD.out.1.idx (.inr r1) hi hxT hj hyT
            have h2 := HD.out.1.idx (.inr r2) hj hyT hi hxT
            omega
        · have h1 := HD.out.1.idx (.inr h) hi hxT hj hyT
          omega
      clear hK hA hB
      go_wp2
      go_loopw [12] (fun z wr => ∃ (x : Nat), x ≤ k ∧ z = .int .i64 (x : Int) ∧ KbB wr w.heap.size K ∧ Below w.heap.size w wr) (fun z _ => k - (intOf z).toNat)
      case atStart => exact ⟨0, Nat.zero_le _, rfl, HK.out.1, HK.out.2.1⟩
      case round =>
        obtain ⟨x, hx, rfl, hK, hB⟩ := hrel
        by_cases hxl : x < k
        · have xlt : (x : Int) < (k : Int) := by omega
          have cx := hK.cell (i := x) (by rw [HK.out.2.2]; exact hxl)
          obtain ⟨ix, _, _, _, ex⟩ := HAT.out x hxl
          have HKX : Hid (K.getD x 0 = ix + 1) := ex
          rw [ex] at cx
          have HKB : Hid (KbB wr w.heap.size K ∧ Below w.heap.size w wr) := ⟨hK, hB⟩
          have kx0 : (((ix : Int) + 1) == 0) = false := by rw [beq_eq_false_iff_ne]; omega
          clear hK hB ex
          obtain ⟨wz, rfl⟩ : ∃ wz : World, wz = wr := ⟨_, rfl⟩
          go_wp2
          go_loopw [13] (fun z wr => ∃ (y : Nat), y ≤ k ∧ z = .int .i64 (y : Int) ∧ KbB wr w.heap.size K ∧ Below w.heap.size w wr) (fun z _ => k - (intOf z).toNat)
          case atStart => exact ⟨0, Nat.zero_le _, rfl, HKB.out.1, HKB.out.2⟩
          case round =>
            clear HKB cx
            obtain ⟨y, hy, rfl, hK, hB⟩ := hrel
            by_cases hyl : y < k
            · have ylt : (y : Int) < (k : Int) := by omega
              have hsm := HSAME.out x y hxl hyl
              have hcx : ∀ wq, Below wr.heap.size wr wq → wq.cell? ⟨w.heap.size, x, none⟩ = some (.int .i64 (K.getD x 0 : Int)) := fun wq b => cellL (hK.cell (i := x) (by rw [HK.out.2.2]; exact hxl)) b
              have hcy : ∀ wq, Below wr.heap.size wr wq → wq.cell? ⟨w.heap.size, y, none⟩ = some (.int .i64 (K.getD y 0 : Int)) := fun wq b => cellL (hK.cell (i := y) (by rw [HK.out.2.2]; exact hyl)) b
              have HBQ0 : Hid (∀ wq, Below wr.heap.size wr wq → KbB wq w.heap.size K ∧ Below w.heap.size w wq) := fun wq b => ⟨hK.later b, hB.trans (b.mono hB.size)⟩
              have H1 : Hid (∀ wq, Below wr.heap.size wr wq → Calls Tryd.prog 31 #[.slice la L.length lc, .agg #[.int .i64 (x : Int), .int .i64 (y : Int)]] wq fun e w' => e = .returned (.bool (tcB Ms x y)) ∧ Below wq.heap.size wq w') := fun wq b => HAS.out wq (HBQ0.out wq b).2 x y hxl hyl
              have H2 : Hid (∀ wq, Below wr.heap.size wr wq → Calls Tryd.prog 31 #[.slice la L.length lc, .agg #[.int .i64 (y : Int), .int .i64 (x : Int)]] wq fun e w' => e = .returned (.bool (tcB Ms y x)) ∧ Below wq.heap.size wq w') := fun wq b => HAS.out wq (HBQ0.out wq b).2 y x hyl hxl
              generalize tcB Ms x y = t1 at *
              generalize tcB Ms y x = t2 at *
              obtain ⟨kx, hkx⟩ : ∃ kx, K.getD x 0 = kx := ⟨_, rfl⟩
              obtain ⟨ky, hky⟩ : ∃ ky, K.getD y 0 = ky := ⟨_, rfl⟩
              simp only [hkx, hky] at hsm hcx hcy
              clear hK hB hkx hky
              by_cases hxy : x = y
              · -- A
                subst hxy
                have hkk : kx = ky := hsm.1.2 (.inl rfl)
                subst hkk
                have CX : Hid (∀ wq, Below wr.heap.size wr wq → wq.cell? ⟨w.heap.size, x, none⟩ = some (.int .i64 (kx : Int))) := hcx
                have CY : Hid (∀ wq, Below wr.heap.size wr wq → wq.cell? ⟨w.heap.size, x, none⟩ = some (.int .i64 (kx : Int))) := hcx
                have HBQ : Hid (∀ wq, Below wr.heap.size wr wq → KbB wq w.heap.size K ∧ Below w.heap.size w wq) := HBQ0.out
                clear hsm hcx hcy H1 H2 HBQ0
                go_wp2
                have BR : Hid (Below wr.heap.size wr wr.drew) := (Below.refl _ _).drew
                refine wp_region_q (C := fun wq => Below wr.heap.size wr wq) (by kernel_rfl) (by kernel_rfl) BR.out ?_
                iterate 15 (refine qt_yes (v := ?_) (by rfl) ?_ ?_; rotate_left; (· (intro wq hSw; have f1 := CX.out wq hSw; have f2 := CY.out wq hSw; clear hSw; go_simp; with_reducible rfl)); (try simp only [Act.put, List.setIfInBounds_toArray, List.set_cons_zero, List.set_cons_succ]))
                iterate 5 (refine qt_no (by rfl) ?_; (try simp only [Act.put, List.setIfInBounds_toArray, List.set_cons_zero, List.set_cons_succ]))
                iterate 2 (refine qt_yes (v := ?_) (by rfl) ?_ ?_; rotate_left; (· (intro wq hSw; have f1 := CX.out wq hSw; have f2 := CY.out wq hSw; clear hSw; go_simp; with_reducible rfl)); (try simp only [Act.put, List.setIfInBounds_toArray, List.set_cons_zero, List.set_cons_succ]))
                iterate 9 (refine qt_no (by rfl) ?_; (try simp only [Act.put, List.setIfInBounds_toArray, List.set_cons_zero, List.set_cons_succ]))
                iterate 2 (refine qt_yes (v := ?_) (by rfl) ?_ ?_; rotate_left; (· (intro wq hSw; have f1 := CX.out wq hSw; have f2 := CY.out wq hSw; clear hSw; go_simp; with_reducible rfl)); (try simp only [Act.put, List.setIfInBounds_toArray, List.set_cons_zero, List.set_cons_succ]))
                refine qt_nil ?_
                intro wq hSw
                have HQ : Hid (KbB wq w.heap.size K ∧ Below w.heap.size w wq) := HBQ.out wq hSw
                clear hSw
                go_wp2
                go_roundw
                case rel => exact ⟨x + 1, by omega, by go_num, HQ.out.1, HQ.out.2⟩
                case measure => simp [intOf]; omega
              · have xyn : ((x : Int) == (y : Int)) = false := by rw [beq_eq_false_iff_ne]; omega
                cases t1 with
                | false =>
                  -- D
                  have hkk : kx ≠ ky := fun e => by
                    rcases hsm.1.1 e with q | q
                    · exact hxy q
                    · simp at q
                  have kkn : ((kx : Int) == (ky : Int)) = false := by rw [beq_eq_false_iff_ne]; omega
                  have HCX : Hid ((∀ wq, Below wr.heap.size wr wq → wq.cell? ⟨w.heap.size, x, none⟩ = some (.int .i64 (kx : Int))) ∧ (∀ wq, Below wr.heap.size wr wq → wq.cell? ⟨w.heap.size, y, none⟩ = some (.int .i64 (ky : Int)))) := ⟨hcx, hcy⟩
                  clear hsm hcx hcy hxy hkk
                  go_wp2_with (go_at_call 31; refine (H1.out _ (Below.refl _ _)).mono ?_)
                  rintro e w4 ⟨rfl, b4⟩
                  have B4 : Hid (Below wr.heap.size wr w4) := b4
                  have CX : Hid (∀ wq, Below w4.heap.size w4 wq → wq.cell? ⟨w.heap.size, x, none⟩ = some (.int .i64 (kx : Int))) := fun wq b => HCX.out.1 wq (B4.out.trans (b.mono B4.out.size))
                  have CY : Hid (∀ wq, Below w4.heap.size w4 wq → wq.cell? ⟨w.heap.size, y, none⟩ = some (.int .i64 (ky : Int))) := fun wq b => HCX.out.2 wq (B4.out.trans (b.mono B4.out.size))
                  have HBQ : Hid (∀ wq, Below w4.heap.size w4 wq → KbB wq w.heap.size K ∧ Below w.heap.size w wq) := fun wq b => HBQ0.out wq (B4.out.trans (b.mono B4.out.size))
                  have CA : Hid (∀ wq, Below w4.heap.size w4 wq → Calls Tryd.prog 31 #[.slice la L.length lc, .agg #[.int .i64 (x : Int), .int .i64 (y : Int)]] wq fun e w' => e = .returned (.bool false) ∧ Below w4.heap.size w4 w') := fun wq b => (H1.out wq (B4.out.trans (b.mono B4.out.size))).mono fun e w' ⟨q1, q2⟩ => ⟨q1, b.trans (q2.mono b.size)⟩
                  clear b4 HCX HBQ0 H1 H2
                  go_wp2
                  have BR : Hid (Below w4.heap.size w4 w4.drew) := (Below.refl _ _).drew
                  refine wp_region_q (C := fun wq => Below w4.heap.size w4 wq) (by kernel_rfl) (by kernel_rfl) BR.out ?_
                  iterate 15 (refine qt_yes (v := ?_) (by rfl) ?_ ?_; rotate_left; (· (intro wq hSw; have f1 := CX.out wq hSw; have f2 := CY.out wq hSw; clear hSw; go_simp; with_reducible rfl)); (try simp only [Act.put, List.setIfInBounds_toArray, List.set_cons_zero, List.set_cons_succ]))
                  iterate 4 (refine qt_yes (v := ?_) (by rfl) ?_ ?_; rotate_left; (· (intro wq hSw; have f1 := CX.out wq hSw; have f2 := CY.out wq hSw; clear hSw; go_simp; with_reducible rfl)); (try simp only [Act.put, List.setIfInBounds_toArray, List.set_cons_zero, List.set_cons_succ]))
                  refine qt_call (v := .bool false) 31 #[.slice la L.length lc, .agg #[.int .i64 (x : Int), .int .i64 (y : Int)]] (by rfl) ?_ (fun wq hq => CA.out wq hq) ?_
                  · intro wq hSw
                    clear hSw
                    go_simp
                    try with_reducible rfl
                  (try simp only [Act.put, List.setIfInBounds_toArray, List.set_cons_zero, List.set_cons_succ])
                  iterate 2 (refine qt_yes (v := ?_) (by rfl) ?_ ?_; rotate_left; (· (intro wq hSw; have f1 := CX.out wq hSw; have f2 := CY.out wq hSw; clear hSw; go_simp; with_reducible rfl)); (try simp only [Act.put, List.setIfInBounds_toArray, List.set_cons_zero, List.set_cons_succ]))
                  iterate 9 (refine qt_no (by rfl) ?_; (try simp only [Act.put, List.setIfInBounds_toArray, List.set_cons_zero, List.set_cons_succ]))
                  iterate 2 (refine qt_yes (v := ?_) (by rfl) ?_ ?_; rotate_left; (· (intro wq hSw; have f1 := CX.out wq hSw; have f2 := CY.out wq hSw; clear hSw; go_simp; with_reducible rfl)); (try simp only [Act.put, List.setIfInBounds_toArray, List.set_cons_zero, List.set_cons_succ]))
                  refine qt_nil ?_
                  intro wq hSw
                  have HQ : Hid (KbB wq w.heap.size K ∧ Below w.heap.size w wq) := HBQ.out wq hSw
                  clear hSw
                  go_wp2
                  go_roundw
                  case rel => exact ⟨y + 1, by omega, by go_num, HQ.out.1, HQ.out.2⟩
                  case measure => simp [intOf]; omega
                | true =>
                  have hle := hsm.2 rfl
                  cases t2 with
                  | true =>
                    -- B
                    have hkk : kx = ky := hsm.1.2 (.inr ⟨rfl, rfl⟩)
                    subst hkk
                    have HCX : Hid ((∀ wq, Below wr.heap.size wr wq → wq.cell? ⟨w.heap.size, x, none⟩ = some (.int .i64 (kx : Int))) ∧ (∀ wq, Below wr.heap.size wr wq → wq.cell? ⟨w.heap.size, y, none⟩ = some (.int .i64 (kx : Int)))) := ⟨hcx, hcy⟩
                    clear hsm hcx hcy hxy hle
                    go_wp2_with (go_at_call 31; refine (H1.out _ (Below.refl _ _)).mono ?_)
                    rintro e w3 ⟨rfl, b3⟩
                    have B3 : Hid (Below wr.heap.size wr w3) := b3
                    clear b3
                    go_wp2_with (go_at_call 31; refine (H2.out _ B3.out).mono ?_)
                    rintro e w4 ⟨rfl, b4⟩
                    have B4 : Hid (Below wr.heap.size wr w4) := B3.out.trans (b4.mono B3.out.size)
                    have CX : Hid (∀ wq, Below w4.heap.size w4 wq → wq.cell? ⟨w.heap.size, x, none⟩ = some (.int .i64 (kx : Int))) := fun wq b => HCX.out.1 wq (B4.out.trans (b.mono B4.out.size))
                    have CY : Hid (∀ wq, Below w4.heap.size w4 wq → wq.cell? ⟨w.heap.size, y, none⟩ = some (.int .i64 (kx : Int))) := fun wq b => HCX.out.2 wq (B4.out.trans (b.mono B4.out.size))
                    have HBQ : Hid (∀ wq, Below w4.heap.size w4 wq → KbB wq w.heap.size K ∧ Below w.heap.size w wq) := fun wq b => HBQ0.out wq (B4.out.trans (b.mono B4.out.size))
                    clear b4 HCX HBQ0 H1 H2 B3
                    go_wp2
                    have BR : Hid (Below w4.heap.size w4 w4.drew) := (Below.refl _ _).drew
                    refine wp_region_q (C := fun wq => Below w4.heap.size w4 wq) (by kernel_rfl) (by kernel_rfl) BR.out ?_
                    iterate 15 (refine qt_yes (v := ?_) (by rfl) ?_ ?_; rotate_left; (· (intro wq hSw; have f1 := CX.out wq hSw; have f2 := CY.out wq hSw; clear hSw; go_simp; with_reducible rfl)); (try simp only [Act.put, List.setIfInBounds_toArray, List.set_cons_zero, List.set_cons_succ]))
                    iterate 5 (refine qt_no (by rfl) ?_; (try simp only [Act.put, List.setIfInBounds_toArray, List.set_cons_zero, List.set_cons_succ]))
                    iterate 2 (refine qt_yes (v := ?_) (by rfl) ?_ ?_; rotate_left; (· (intro wq hSw; have f1 := CX.out wq hSw; have f2 := CY.out wq hSw; clear hSw; go_simp; with_reducible rfl)); (try simp only [Act.put, List.setIfInBounds_toArray, List.set_cons_zero, List.set_cons_succ]))
                    iterate 9 (refine qt_no (by rfl) ?_; (try simp only [Act.put, List.setIfInBounds_toArray, List.set_cons_zero, List.set_cons_succ]))
                    iterate 2 (refine qt_yes (v := ?_) (by rfl) ?_ ?_; rotate_left; (· (intro wq hSw; have f1 := CX.out wq hSw; have f2 := CY.out wq hSw; clear hSw; go_simp; with_reducible rfl)); (try simp only [Act.put, List.setIfInBounds_toArray, List.set_cons_zero, List.set_cons_succ]))
                    refine qt_nil ?_
                    intro wq hSw
                    have HQ : Hid (KbB wq w.heap.size K ∧ Below w.heap.size w wq) := HBQ.out wq hSw
                    clear hSw
                    go_wp2
                    go_roundw
                    case rel => exact ⟨y + 1, by omega, by go_num, HQ.out.1, HQ.out.2⟩
                    case measure => simp [intOf]; omega
                  | false =>
                    -- C
                    have hkk : kx ≠ ky := fun e => by
                      rcases hsm.1.1 e with q | q
                      · exact hxy q
                      · simp at q
                    have kkn : ((kx : Int) == (ky : Int)) = false := by rw [beq_eq_false_iff_ne]; omega
                    have g1 : decide (kx < ky) = false := decide_eq_false (by omega)
                    have g2 : decide ((kx : Int) < (ky : Int)) = false := decide_eq_false (by omega)
                    have HCX : Hid ((∀ wq, Below wr.heap.size wr wq → wq.cell? ⟨w.heap.size, x, none⟩ = some (.int .i64 (kx : Int))) ∧ (∀ wq, Below wr.heap.size wr wq → wq.cell? ⟨w.heap.size, y, none⟩ = some (.int .i64 (ky : Int)))) := ⟨hcx, hcy⟩
                    clear hsm hcx hcy hxy hkk hle
                    go_wp2_with (go_at_call 31; refine (H1.out _ (Below.refl _ _)).mono ?_)
                    rintro e w3 ⟨rfl, b3⟩
                    have B3 : Hid (Below wr.heap.size wr w3) := b3
                    clear b3
                    go_wp2_with (go_at_call 31; refine (H2.out _ B3.out).mono ?_)
                    rintro e w4 ⟨rfl, b4⟩
                    have B4 : Hid (Below wr.heap.size wr w4) := B3.out.trans (b4.mono B3.out.size)
                    have CX : Hid (∀ wq, Below w4.heap.size w4 wq → wq.cell? ⟨w.heap.size, x, none⟩ = some (.int .i64 (kx : Int))) := fun wq b => HCX.out.1 wq (B4.out.trans (b.mono B4.out.size))
                    have CY : Hid (∀ wq, Below w4.heap.size w4 wq → wq.cell? ⟨w.heap.size, y, none⟩ = some (.int .i64 (ky : Int))) := fun wq b => HCX.out.2 wq (B4.out.trans (b.mono B4.out.size))
                    have HBQ : Hid (∀ wq, Below w4.heap.size w4 wq → KbB wq w.heap.size K ∧ Below w.heap.size w wq) := fun wq b => HBQ0.out wq (B4.out.trans (b.mono B4.out.size))
                    have CA : Hid (∀ wq, Below w4.heap.size w4 wq → Calls Tryd.prog 31 #[.slice la L.length lc, .agg #[.int .i64 (x : Int), .int .i64 (y : Int)]] wq fun e w' => e = .returned (.bool true) ∧ Below w4.heap.size w4 w') := fun wq b => (H1.out wq (B4.out.trans (b.mono B4.out.size))).mono fun e w' ⟨q1, q2⟩ => ⟨q1, b.trans (q2.mono b.size)⟩
                    clear b4 HCX HBQ0 H1 H2 B3
                    go_wp2
                    have BR : Hid (Below w4.heap.size w4 w4.drew) := (Below.refl _ _).drew
                    refine wp_region_q (C := fun wq => Below w4.heap.size w4 wq) (by kernel_rfl) (by kernel_rfl) BR.out ?_
                    iterate 15 (refine qt_yes (v := ?_) (by rfl) ?_ ?_; rotate_left; (· (intro wq hSw; have f1 := CX.out wq hSw; have f2 := CY.out wq hSw; clear hSw; go_simp; with_reducible rfl)); (try simp only [Act.put, List.setIfInBounds_toArray, List.set_cons_zero, List.set_cons_succ]))
                    iterate 4 (refine qt_yes (v := ?_) (by rfl) ?_ ?_; rotate_left; (· (intro wq hSw; have f1 := CX.out wq hSw; have f2 := CY.out wq hSw; clear hSw; go_simp; with_reducible rfl)); (try simp only [Act.put, List.setIfInBounds_toArray, List.set_cons_zero, List.set_cons_succ]))
                    refine qt_call (v := .bool true) 31 #[.slice la L.length lc, .agg #[.int .i64 (x : Int), .int .i64 (y : Int)]] (by rfl) ?_ (fun wq hq => CA.out wq hq) ?_
                    · intro wq hSw
                      clear hSw
                      go_simp
                      try with_reducible rfl
                    (try simp only [Act.put, List.setIfInBounds_toArray, List.set_cons_zero, List.set_cons_succ])
                    iterate 13 (refine qt_yes (v := ?_) (by rfl) ?_ ?_; rotate_left; (· (intro wq hSw; have f1 := CX.out wq hSw; have f2 := CY.out wq hSw; clear hSw; go_simp; with_reducible rfl)); (try simp only [Act.put, List.setIfInBounds_toArray, List.set_cons_zero, List.set_cons_succ]))
                    refine qt_nil ?_
                    intro wq hSw
                    have HQ : Hid (KbB wq w.heap.size K ∧ Below w.heap.size w wq) := HBQ.out wq hSw
                    clear hSw
                    go_wp2
                    go_roundw
                    case rel => exact ⟨y + 1, by omega, by go_num, HQ.out.1, HQ.out.2⟩
                    case measure => simp [intOf]; omega
            · obtain rfl : y = k := by omega
              have ylt : ¬ (y : Int) < (y : Int) := by omega
              have HN : Hid (KbB wr w.heap.size K ∧ Below w.heap.size w wr) := ⟨hK, hB⟩
              clear hK hB
              go_wp2
              go_roundw
              case rel => exact ⟨x + 1, by omega, by go_num, HN.out.1, HN.out.2⟩
              case measure => simp [intOf]; omega
        · obtain rfl : x = k := by omega
          have xlt : ¬ (x : Int) < (x : Int) := by omega
          have HN : Hid (Below w.heap.size w wr) := hB
          clear hK hB
          go_wp2
          go_ret
          exact ⟨rfl, HN.out⟩
end Go.Proofs.YtmpdgmigpjfcpaaDoor
