import Derived.Test.YtcgghlaifmlpiaaGreatDoorBO1ToBD0
import Derived.Test.YtcgghlaifmlpiaaGreatDoorBArg
namespace Go.Proofs.YtcgghlaifmlpiaaGreatDoor
set_option linter.unusedVariables false
open Go.RowKit Go.Shelf

theorem take_allB {l : List Int} {i : Nat} (h : i < l.length) (p : Int → Bool) : (l.take (i + 1)).all p = ((l.take i).all p && p (l.getD i 0)) := by
  rw [List.take_add_one, List.getElem?_eq_getElem h, List.getD_eq_getElem?_getD, List.getElem?_eq_getElem h, List.all_append]
  simp
theorem getD_inI {l : List Int} {i : Nat} (h : i < l.length) : l.getD i 0 ∈ l := by
  rw [List.getD_eq_getElem?_getD, List.getElem?_eq_getElem h]
  exact List.getElem_mem h
set_option maxRecDepth 100000 in
set_option maxHeartbeats 8000000 in
theorem every_SB {w : World} {k m N : Nat} (h : SB w k m N) (la : Option Addr) (lc : Nat) (l : List Int) (hl : InRow w la l) (hll : l.length ≤ 140737488355328) :
    Calls Tryz.prog 125 #[.slice la l.length lc, .func (.func 51) #[.pointer (some ⟨k + 1, 0, none⟩)] #[]] w fun e w' => e = .returned (.bool (l.all (hasB N m))) ∧ Below w.heap.size w w' := by
  have HS : Hid (∀ wr, Below w.heap.size w wr → ∀ x : Int, Calls Tryz.prog 51 #[.pointer (some ⟨k + 1, 0, none⟩), .int .i64 x] wr fun e w' => e = .returned (.bool (hasB N m x)) ∧ Below wr.heap.size wr w') := fun wr b x => has_SB (h.later b) x
  have HL : Hid (InRow w la l) := hl
  clear h hl
  go_enter Tryz.func125, Tryz.ntmps125
  go_wp2
  go_loopw [9] (fun z wr => ∃ i : Nat, i ≤ l.length ∧ z = .int .i64 (i : Int) ∧ Below w.heap.size w wr ∧ (l.take i).all (hasB N m) = true) (fun z _ => l.length - (intOf z).toNat)
  case atStart => exact ⟨0, Nat.zero_le _, rfl, Below.refl _ _, rfl⟩
  case round =>
    obtain ⟨i, hi, rfl, hB, hall⟩ := hrel
    by_cases hlt : i < l.length
    · have ilt : (i : Int) < (l.length : Int) := by omega
      obtain ⟨b, off, hla, _, hc⟩ := (HL.out.later hB) (by intro q; rw [q] at hlt; simp at hlt)
      have c0 := hc i hlt
      have HTK : Hid ((l.take (i + 1)).all (hasB N m) = hasB N m (l.getD i 0)) := by
        show _ = _
        rw [take_allB hlt, hall, Bool.true_and]
      have HME : Hid (l.getD i 0 ∈ l) := getD_inI hlt
      generalize l.getD i 0 = x at *
      have HB : Hid (Below w.heap.size w wr) := hB
      have CH : Hid (Calls Tryz.prog 51 #[.pointer (some ⟨k + 1, 0, none⟩), .int .i64 x] wr fun e w' => e = .returned (.bool (hasB N m x)) ∧ Below wr.heap.size wr w') := HS.out wr hB x
      subst hla
      clear hc hB hall
      cases hx : hasB N m x with
      | true =>
        rw [hx] at CH
        have HTK2 : Hid ((l.take (i + 1)).all (hasB N m) = true) := HTK.out.trans hx
        clear hx HTK
        go_wp2_with (go_at_call 51; refine CH.out.mono ?_; rintro e w3 ⟨rfl, b3⟩; have B3 : Hid (Below w.heap.size w w3) := HB.out.trans (b3.mono HB.out.size); clear b3)
        go_roundw
        case rel => exact ⟨i + 1, by omega, by go_num, B3.out, HTK2.out⟩
        case measure => simp [intOf]; omega
      | false =>
        rw [hx] at CH
        have HNO : Hid (l.all (hasB N m) = false) := by
          show _ = _
          rw [List.all_eq_false]
          exact ⟨x, HME.out, by rw [hx]; simp⟩
        clear hx HTK
        go_wp2_with (go_at_call 51; refine CH.out.mono ?_; rintro e w3 ⟨rfl, b3⟩; have B3 : Hid (Below w.heap.size w w3) := HB.out.trans (b3.mono HB.out.size); clear b3)
        go_ret
        exact ⟨by rw [HNO.out]; rfl, B3.out⟩
    · obtain rfl : i = l.length := by omega
      have ilt : ¬ (l.length : Int) < (l.length : Int) := by omega
      rw [List.take_length] at hall
      have HA : Hid (l.all (hasB N m) = true) := hall
      have HB : Hid (Below w.heap.size w wr) := hB
      clear hall hB
      go_wp2
      go_ret
      exact ⟨by rw [HA.out]; rfl, HB.out⟩
set_option maxRecDepth 100000 in
set_option maxHeartbeats 8000000 in
theorem fill_SB {w : World} {k m N : Nat} (h : SB w k m N) (la : Option Addr) (lc : Nat) (l : List Int) (hl : ∀ w', FrB (· = k) w w' → InRow w' la l) (hll : l.length ≤ 140737488355328) :
    Calls Tryz.prog 97 #[.pointer (some ⟨k + 1, 0, none⟩), .slice la l.length lc] w fun e w' => e = .returned (.bool (inLB m l)) ∧ SB w' k m (flN m l N) ∧ FrB (· = k) w w' := by
  have AD : Hid (∀ wr M, SB wr k m M → ∀ x : Int, Calls Tryz.prog 50 #[.pointer (some ⟨k + 1, 0, none⟩), .int .i64 x] wr fun e w' => ∃ bv, e = .returned (.bool bv) ∧ SB w' k m (addX M m x) ∧ FrB (· = k) wr w') := fun wr M hs x => (add_SB hs x).mono fun e w'' ⟨q1, q2, q3⟩ => ⟨_, q1, q2, q3⟩
  have EV : Hid (∀ wr, SB wr k m (flN m l N) → FrB (· = k) w wr → Calls Tryz.prog 125 #[.slice la l.length lc, .func (.func 51) #[.pointer (some ⟨k + 1, 0, none⟩)] #[]] wr fun e w' => e = .returned (.bool (inLB m l)) ∧ Below wr.heap.size wr w') := fun wr hs hf => by
    have e1 : l.all (hasB (flN m l N) m) = inLB m l := by
      unfold inLB
      rw [Bool.eq_iff_iff, List.all_eq_true, List.all_eq_true]
      exact ⟨fun q x hx => by rw [← hasB_fl hx]; exact q x hx, fun q x hx => by rw [hasB_fl hx]; exact q x hx⟩
    have := every_SB hs la lc l (hl wr hf) hll
    rw [e1] at this
    exact this
  have HL : Hid (∀ w', FrB (· = k) w w' → InRow w' la l) := hl
  have H0 : Hid (SB w k m N) := h
  clear h hl
  go_enter Tryz.func97, Tryz.ntmps97
  go_wp2
  go_loopw [9] (fun z wr => ∃ i : Nat, i ≤ l.length ∧ z = .int .i64 (i : Int) ∧ SB wr k m (flN m (l.take i) N) ∧ FrB (· = k) w wr) (fun z _ => l.length - (intOf z).toNat)
  case atStart => exact ⟨0, Nat.zero_le _, rfl, H0.out, Below.frB (Below.refl _ _)⟩
  case round =>
    clear H0
    obtain ⟨i, hi, rfl, hS, hF⟩ := hrel
    by_cases hlt : i < l.length
    · have ilt : (i : Int) < (l.length : Int) := by omega
      obtain ⟨b, off, hla, _, hc⟩ := (HL.out wr hF) (by intro q; rw [q] at hlt; simp at hlt)
      have c0 := hc i hlt
      have htk : flN m (l.take (i + 1)) N = addX (flN m (l.take i) N) m (l.getD i 0) := by
        rw [List.take_add_one, List.getElem?_eq_getElem hlt, List.getD_eq_getElem?_getD, List.getElem?_eq_getElem hlt]
        exact flN_snoc m _ _ N
      have HTK : Hid (flN m (l.take (i + 1)) N = addX (flN m (l.take i) N) m (l.getD i 0)) := htk
      generalize l.getD i 0 = x at *
      have HF : Hid (FrB (· = k) w wr) := hF
      have CH := AD.out wr _ hS x
      have CH2 : Hid (Calls Tryz.prog 50 #[.pointer (some ⟨k + 1, 0, none⟩), .int .i64 x] wr fun e w' => ∃ bv, e = .returned (.bool bv) ∧ SB w' k m (addX (flN m (l.take i) N) m x) ∧ FrB (· = k) wr w') := CH
      subst hla
      clear hc hF hS htk CH
      go_wp2_with (go_at_call 50; refine CH2.out.mono ?_; rintro e w3 ⟨bv, rfl, s3, f3⟩; have N3 : Hid (SB w3 k m (addX (flN m (l.take i) N) m x) ∧ FrB (· = k) w w3) := ⟨s3, HF.out.trans f3⟩; clear s3 f3)
      go_roundw
      case rel => exact ⟨i + 1, by omega, by go_num, by rw [HTK.out]; exact N3.out.1, N3.out.2⟩
      case measure => simp [intOf]; omega
    · obtain rfl : i = l.length := by omega
      have ilt : ¬ (l.length : Int) < (l.length : Int) := by omega
      rw [List.take_length] at hS
      have CE : Hid (Calls Tryz.prog 125 #[.slice la l.length lc, .func (.func 51) #[.pointer (some ⟨k + 1, 0, none⟩)] #[]] wr fun e w' => e = .returned (.bool (inLB m l)) ∧ Below wr.heap.size wr w') := EV.out wr hS hF
      have HSF : Hid (SB wr k m (flN m l N) ∧ FrB (· = k) w wr) := ⟨hS, hF⟩
      clear hS hF
      go_wp2_with (go_at_call 125; refine CE.out.mono ?_; rintro e w3 ⟨rfl, b3⟩; have N3 : Hid (SB w3 k m (flN m l N) ∧ FrB (· = k) w w3) := ⟨HSF.out.1.later b3, HSF.out.2.trans (Below.frB b3)⟩; clear b3)
      go_ret
      exact ⟨rfl, N3.out.1, N3.out.2⟩
end Go.Proofs.YtcgghlaifmlpiaaGreatDoor
namespace Go.Proofs.YtcgghlaifmlpiaaGreatDoor
set_option linter.unusedVariables false
open Go.ChangeShapes Go.WideShapes Go.ChangeAt Go.RowKit

/-- Lists of numbers in memory. -/
def LrwB (w : World) (ao : Option Addr) (L : List (List Int)) : Prop := L ≠ [] → ∃ b off, ao = some ⟨b, off, none⟩ ∧ b < w.heap.size ∧ ∀ i, i < L.length → ∃ a c, w.cell? ⟨b, off + i, none⟩ = some (.slice a (L.getD i []).length c) ∧ InRow w a (L.getD i [])
theorem bcellsInts : Tryz.prog.cellsOf 46 = 1 := by kernel_rfl
section
variable {H : Type} {enc : TypeId × Value → H} {W : World}
/-- A list of lists and its datum. -/
def LLDB (L : List (List Int)) (d : DataW H) : Prop := (d = .nil ∧ L = []) ∨ ∃ el sp, d = .slice el sp ∧ el.length = L.length ∧ ∀ i, i < L.length → LD (L.getD i []).length (el.getD i .nil)
set_option maxRecDepth 100000 in
theorem olistsB {fuel : Nat} {cs : List Value} {x : DataW H × List MemPlace} (hf : DataW.trod enc Tryz.prog W 0 (fun _ => true) true fuel 24 cs = some x) :
    ∃ (a : Option Addr) (cap : Nat) (l : List (List Int)), cs = [.slice a l.length cap] ∧ LrwB W a l ∧ l.length ≤ cap ∧ LLDB l x.1 := by
  rcases Go.Deep.open_slice Tryz.underlying24 hf with ⟨hcs, hx⟩ | ⟨a, len, cap, m, n, D, Pl, hcs, _, hl, _, hm, hx, hel⟩
  · exact ⟨none, 0, [], hcs, fun h => absurd rfl h, Nat.le_refl _, .inl ⟨by rw [hx], rfl⟩⟩
  · have hm' : m = cap := by simpa using hm
    have each : ∀ i, i < m → ∃ s : Option Addr × Nat × List Int, W.cell? (a.add (i * 1)) = some (.slice s.1 s.2.2.length s.2.1) ∧ InRow W s.1 s.2.2 ∧ LD s.2.2.length (D i) := by
      intro i hi
      obtain ⟨cs', h1, h2⟩ := hel i hi
      rw [bcellsInts] at h1
      obtain ⟨hl1, _, hcell⟩ := World.cells?_some h1
      obtain ⟨la, lc, l, hs, hr, _, hd, _⟩ := onums h2
      subst hs
      have e0 := hcell 0 (by omega)
      rw [Go.Deep.add_add] at e0
      exact ⟨(la, lc, l), by simpa using e0, hr, hd⟩
    obtain ⟨f, hfs⟩ : ∃ f : Nat → Option Addr × Nat × List Int, ∀ i, i < m → W.cell? (a.add (i * 1)) = some (.slice (f i).1 (f i).2.2.length (f i).2.1) ∧ InRow W (f i).1 (f i).2.2 ∧ LD (f i).2.2.length (D i) :=
      ⟨fun i => if h : i < m then Classical.choose (each i h) else (none, 0, []), fun i h => by simp only [dif_pos h]; exact Classical.choose_spec (each i h)⟩
    have hpl : ((List.range len).map fun i => (f i).2.2).length = len := by simp
    have hgd : ∀ i, i < len → ((List.range len).map fun i => (f i).2.2).getD i [] = (f i).2.2 := fun i hi => by simp [List.getD, hi]
    refine ⟨some a, cap, (List.range len).map fun i => (f i).2.2, by rw [hpl]; exact hcs, fun hne => ?_, by rw [hpl]; exact hl, .inr ⟨_, _, by rw [hx], by simp, fun i hi => ?_⟩⟩
    · obtain ⟨b, off, spot⟩ := a
      have h0 : 0 < len := by
        rcases Nat.eq_zero_or_pos len with e | e
        · subst e; simp at hne
        · exact e
      have hc0 := (hfs 0 (by omega)).1
      have hspot : spot = none := by simpa [Addr.add] using World.cell?_spot hc0
      subst hspot
      refine ⟨b, off, rfl, ?_, fun i hi => ?_⟩
      · have := World.block_lt_of_cell? W _ hc0
        rw [add_none] at this
        exact this
      · rw [hpl] at hi
        rw [hgd i hi]
        obtain ⟨e0, e1, _⟩ := hfs i (by omega)
        rw [add_none, Nat.mul_one] at e0
        exact ⟨_, _, e0, e1⟩
    · rw [hpl] at hi
      have := (hfs i (by omega)).2.2
      rw [hgd i hi]
      have e : ((List.range len).map D).getD i DataW.nil = D i := by simp [List.getD, hi]
      rw [e]
      exact this
set_option maxRecDepth 100000 in
theorem open_listsB {base : Nat} {v : Value} {d : DataW H} {p : List MemPlace} (hv : Value.okWide Tryz.prog W .any base 24 v)
    (h : DataW.Trod enc Tryz.prog W 0 (fun _ => true) true 24 v d p) :
    ∃ (a : Option Addr) (cap : Nat) (l : List (List Int)), v = .slice a l.length cap ∧ LrwB W a l ∧ l.length ≤ cap ∧ LLDB l d ∧ True := by
  obtain ⟨a0, len0, cap0, rfl⟩ := okWide_slice Tryz.underlying24 hv
  obtain ⟨fuel, hf⟩ := h
  obtain ⟨a, cap, l, hcs, h1, h2, h3⟩ := olistsB hf
  simp only [Value.cells, List.cons.injEq, and_true] at hcs
  exact ⟨a, cap, l, hcs, h1, h2, h3, trivial⟩
set_option maxRecDepth 100000 in
theorem lists_reachB {ts : List TypeId} {ds : List (DataW H)} (hs : (DataW.weightsEach Tryz.prog ts ds).all (· ≤ reachBytes) = true) {j : Nat} {d : DataW H} {L : List (List Int)} (ht : ts[j]? = some 24) (hd : ds[j]? = some d) (h : LLDB L d) : L.length ≤ 140737488355328 ∧ ∀ l ∈ L, l.length ≤ 140737488355328 := by
  have hw : ∀ k ∈ d.weights Tryz.prog 24, k ≤ reachBytes := fun k hk => by
    have := List.all_eq_true.1 hs k (DataW.weights_mem_each ht hd k hk)
    simpa using this
  rcases h with ⟨rfl, rfl⟩ | ⟨el, sp, rfl, e, hE⟩
  · exact ⟨by simp, fun l hl => by cases hl⟩
  · obtain ⟨h1, h2⟩ := slice_weight Tryz.underlying24 (by decide +kernel) hw
    refine ⟨by omega, fun l hl => ?_⟩
    obtain ⟨i, hi, rfl⟩ := in_getD (d := []) hl
    exact ld_weight Tryz.underlying46 (by decide +kernel) (hE i hi) (h2 _ (getD_in (by omega)))
end
end Go.Proofs.YtcgghlaifmlpiaaGreatDoor
namespace Go.Proofs.YtcgghlaifmlpiaaGreatDoor
set_option linter.unusedVariables false
open Go.RowKit Go.Shelf

/-- Rows of sets of another size, under way. -/
structure TmB (w : World) (n m : Nat) (Ms : List Nat) (wr : World) : Prop where
  rw : RwB wr w.heap.size m (ksE w.heap.size n) Ms
  len : Ms.length = n
  bel : Below w.heap.size w wr
theorem TmB.any {w wr w' : World} {n m : Nat} {Ms : List Nat} (h : TmB w n m Ms wr) (hb : Below wr.heap.size wr w') : TmB w n m Ms w' := ⟨h.rw.later hb, h.len, h.bel.trans (hb.mono h.bel.size)⟩
theorem TmB.far {w wr w' : World} {n m y k : Nat} {Ms : List Nat} (h : TmB w n m Ms wr) (hk : (ksE w.heap.size n)[y]? = some k) (hf : FrB (· = k) wr w') : Below w.heap.size w w' := by
  have hy : y < n := by have := (List.getElem?_eq_some_iff.1 hk).1; rwa [ksE_len] at this
  rw [ksE_get hy] at hk
  refine hf.below h.bel h.bel.size (fun j q => ?_)
  have q2 : j = k := q
  have := Option.some.inj hk
  omega
theorem TmB.turn {w wr w' : World} {n m y k M : Nat} {Ms : List Nat} (h : TmB w n m Ms wr) (hk : (ksE w.heap.size n)[y]? = some k) (hs : SB w' k m M) (hf : FrB (· = k) wr w') : TmB w n m (Ms.set y M) w' :=
  ⟨h.rw.turn hk hs hf, by rw [List.length_set]; exact h.len, h.far hk hf⟩
/-- setsOf's error. -/
def seE (n : Nat) (most : Int) (F : List (List Int)) : Int := if (decide (0 ≤ most) && decide (most ≤ 4096)) = false then 4 else if F.length ≠ n then 3 else if F.all (inLB most.toNat) = false then 4 else 0
def SeA (w : World) (n : Nat) (most : Int) (F : List (List Int)) (e : Ending) (w' : World) : Prop :=
  Below w.heap.size w w' ∧ ((seE n most F ≠ 0 ∧ e = .returned (.tuple #[.slice none 0 0, .int .i64 (seE n most F)])) ∨ (seE n most F = 0 ∧ ∃ (m : Nat) (Fs : List Nat), most = (m : Int) ∧ m ≤ 4096 ∧ e = .returned (.tuple #[.slice (some ⟨w.heap.size, 0, none⟩) n n, .int .i64 0]) ∧ TmB w n m Fs w' ∧ FsB F n m Fs))
theorem SeA.no {w w' : World} {n : Nat} {most c : Int} {F : List (List Int)} {e : Ending} (hb : Below w.heap.size w w') (hc : seE n most F = c) (h0 : c ≠ 0) (he : e = .returned (.tuple #[.slice none 0 0, .int .i64 c])) : SeA w n most F e w' := ⟨hb, .inl ⟨by rw [hc]; exact h0, by rw [hc]; exact he⟩⟩
theorem take_allL {F : List (List Int)} {i : Nat} (h : i < F.length) (p : List Int → Bool) : (F.take (i + 1)).all p = ((F.take i).all p && p (F.getD i [])) := by
  rw [List.take_add_one, List.getElem?_eq_getElem h, List.getD_eq_getElem?_getD, List.getElem?_eq_getElem h, List.all_append]
  simp
theorem getD_memIL {F : List (List Int)} {i : Nat} (h : i < F.length) : F.getD i [] ∈ F := by
  rw [List.getD_eq_getElem?_getD, List.getElem?_eq_getElem h]
  exact List.getElem_mem h
theorem LrwB.later {w w' : World} {ao : Option Addr} {L : List (List Int)} (h : LrwB w ao L) (hb : Below w.heap.size w w') : LrwB w' ao L := fun hne => by
  obtain ⟨b, off, e, hl, hc⟩ := h hne
  refine ⟨b, off, e, Nat.lt_of_lt_of_le hl hb.size, fun i hi => ?_⟩
  obtain ⟨a, c, h1, h2⟩ := hc i hi
  exact ⟨a, c, cellL h1 hb, h2.later hb⟩
set_option maxRecDepth 100000 in
set_option maxHeartbeats 8000000 in
theorem setsOf_no {w : World} {n : Nat} (most : Int) (fa : Option Addr) (fc : Nat) (F : List (List Int)) (hFl : F.length ≤ 140737488355328) (hn : n ≤ 4096) (hc : (decide (0 ≤ most) && decide (most ≤ 4096)) = false ∨ ((decide (0 ≤ most) && decide (most ≤ 4096)) = true ∧ F.length ≠ n)) :
    Calls Tryz.prog 53 #[.int .i64 (n : Int), .int .i64 most, .slice fa F.length fc] w (SeA w n most F) := by
  rcases hc with hc | ⟨hc, hl⟩
  · have AL : Hid (Calls Tryz.prog 81 #[.int .i64 most] w fun e w' => e = .returned (.bool false) ∧ w' = w) := by
      have := allowed_SB most w
      rwa [hc] at this
    have HC : Hid (seE n most F = 4) := by show _ = _; unfold seE; rw [if_pos hc]
    clear hc
    go_enter Tryz.func53, Tryz.ntmps53
    go_wp2_with (go_at_call 81; refine AL.out.mono ?_; rintro e w1 ⟨rfl, hz⟩; rw [hz]; clear hz w1)
    refine bodyPost_ret (v := .tuple #[.slice none 0 0, .int .i64 4]) (by simp [results, Tryz.results53, go_sem]) rfl ?_
    exact SeA.no (Below.refl _ _) HC.out (by decide) rfl
  · have AL : Hid (Calls Tryz.prog 81 #[.int .i64 most] w fun e w' => e = .returned (.bool true) ∧ w' = w) := by
      have := allowed_SB most w
      rwa [hc] at this
    have HC : Hid (seE n most F = 3) := by show _ = _; unfold seE; rw [if_neg (by rw [hc]; simp), if_pos hl]
    have hne : ((F.length : Int) != (n : Int)) = true := by simp; omega
    clear hc hl
    generalize F.length = el at *
    go_enter Tryz.func53, Tryz.ntmps53
    go_wp2_with (go_at_call 81; refine AL.out.mono ?_; rintro e w1 ⟨rfl, hz⟩; rw [hz]; clear hz w1)
    refine bodyPost_ret (v := .tuple #[.slice none 0 0, .int .i64 3]) (by simp [results, Tryz.results53, go_sem]) rfl ?_
    exact SeA.no (Below.refl _ _) HC.out (by decide) rfl
set_option maxRecDepth 100000 in
set_option maxHeartbeats 8000000 in
theorem setsOf_ok {w : World} {n m : Nat} (hn : n ≤ 4096) (hm : m ≤ 4096) (fa : Option Addr) (fc : Nat) (F : List (List Int)) (hF : LrwB w fa F) (hFl : F.length = n) (hFs : ∀ l ∈ F, l.length ≤ 140737488355328) :
    Calls Tryz.prog 53 #[.int .i64 (n : Int), .int .i64 (m : Int), .slice fa n fc] w (SeA w n (m : Int) F) := by
  have HF : Hid (LrwB w fa F) := hF
  have HFL : Hid (F.length = n) := hFl
  have HFS : Hid (∀ l ∈ F, l.length ≤ 140737488355328) := hFs
  have AL : Hid (Calls Tryz.prog 81 #[.int .i64 (m : Int)] w fun e w' => e = .returned (.bool true) ∧ w' = w) := by
    have := allowed_SB (m : Int) w
    rwa [decide_eq_true (show (0 : Int) ≤ (m : Int) by omega), decide_eq_true (show (m : Int) ≤ 4096 by omega)] at this
  have HEM : Hid (Calls Tryz.prog 82 #[.int .i64 (n : Int), .int .i64 (m : Int)] w fun e w' => e = .returned (.slice (some ⟨w.heap.size, 0, none⟩) n n) ∧ RwB w' w.heap.size m (ksE w.heap.size n) (List.replicate n 0) ∧ Below w.heap.size w w') := empties_SB n m hn hm w
  have HSE : Hid (∀ c, (F.all (inLB m) = true ∧ c = 0) ∨ (F.all (inLB m) = false ∧ c = 4) → seE n (m : Int) F = c) := fun c q => by
    unfold seE
    rw [if_neg (by rw [decide_eq_true (show (0 : Int) ≤ (m : Int) by omega), decide_eq_true (show (m : Int) ≤ 4096 by omega)]; simp), if_neg (by rw [hFl]; simp), Int.toNat_natCast]
    rcases q with ⟨q, rfl⟩ | ⟨q, rfl⟩
    · rw [if_neg (by rw [q]; simp)]
    · rw [if_pos q]
  clear hF hFl hFs
  go_enter Tryz.func53, Tryz.ntmps53
  go_wp2_with (first
    | (go_at_call 81; refine AL.out.mono ?_; rintro e w1 ⟨rfl, hz⟩; rw [hz]; clear hz w1)
    | (go_at_call 82; refine HEM.out.mono ?_; rintro e w1 ⟨rfl, s1, b1⟩; have S1 : Hid (TmB w n m (List.replicate n 0) w1) := ⟨s1, by simp, b1⟩; clear s1 b1))
  clear HEM AL
  go_loopw [23] (fun z wr => ∃ (i : Nat) (Ms : List Nat), i ≤ n ∧ z = .int .i64 (i : Int) ∧ TmB w n m Ms wr ∧ (F.take i).all (inLB m) = true ∧ ∀ x, x < n → Ms.getD x 0 = if x < i then flN m (F.getD x []) 0 else 0) (fun z _ => n - (intOf z).toNat)
  case atStart => exact ⟨0, _, Nat.zero_le _, rfl, S1.out, rfl, fun x hx => by simp [List.getD_eq_getElem?_getD, hx]⟩
  case round =>
    clear S1
    obtain ⟨i, Ms, hi, rfl, hU, hok, hbit⟩ := hrel
    by_cases hlt : i < n
    · have ilt : (i : Int) < (n : Int) := by omega
      have hfl : i < F.length := by rw [HFL.out]; exact hlt
      obtain ⟨b, off, hfa, hbl, hc⟩ := HF.out (by intro q; rw [q] at hfl; simp at hfl)
      obtain ⟨la, lc, c0, hrow⟩ := hc i hfl
      have c1 := cellL c0 hU.bel
      obtain ⟨k, hk, hs⟩ := hU.rw.at (show i < Ms.length by rw [hU.len]; exact hlt)
      have ck := hU.rw.cell hk
      have e0 : Ms.getD i 0 = 0 := by rw [hbit i hlt, if_neg (Nat.lt_irrefl _)]
      rw [e0] at hs
      have htk := take_allL hfl (inLB m)
      have hml := HFS.out _ (getD_memIL hfl)
      have FI : Hid (Calls Tryz.prog 97 #[.pointer (some ⟨k + 1, 0, none⟩), .slice la (F.getD i []).length lc] wr fun e w' => e = .returned (.bool (inLB m (F.getD i []))) ∧ TmB w n m (Ms.set i (flN m (F.getD i []) 0)) w') := (fill_SB hs la lc (F.getD i []) (fun w' hf => hrow.later (hU.far hk hf)) hml).mono fun e w' ⟨q1, q2, q3⟩ => ⟨q1, hU.turn hk q2 q3⟩
      have HB2 : Hid (∀ x, x < n → (Ms.set i (flN m (F.getD i []) 0)).getD x 0 = if x < i + 1 then flN m (F.getD x []) 0 else 0) := fun x hx => by
        rw [getD_setV]
        by_cases e : i = x
        · subst e
          rw [if_pos ⟨rfl, by rw [hU.len]; exact hx⟩, if_pos (Nat.lt_succ_self _)]
        · rw [if_neg (fun q => e q.1), hbit x hx]
          by_cases q : x < i
          · rw [if_pos q, if_pos (by omega)]
          · rw [if_neg q, if_neg (by omega)]
      have HME : Hid (F.getD i [] ∈ F) := getD_memIL hfl
      subst hfa
      rw [hok, Bool.true_and] at htk
      have HTK : Hid ((F.take (i + 1)).all (inLB m) = inLB m (F.getD i [])) := htk
      clear hok hbit htk hc c0 hs hk hU e0 hrow hml
      generalize F.getD i [] = l at *
      cases hx : inLB m l with
      | true =>
        rw [hx] at FI
        have HTK2 : Hid ((F.take (i + 1)).all (inLB m) = true) := HTK.out.trans hx
        clear hx HTK HME
        go_wp2_with (go_at_call 97; refine FI.out.mono ?_; rintro e w3 ⟨rfl, t3⟩; have T3 : Hid (TmB w n m (Ms.set i (flN m l 0)) w3) := t3; clear t3)
        go_roundw
        case rel => exact ⟨i + 1, _, by omega, by go_num, T3.out, HTK2.out, HB2.out⟩
        case measure => simp [intOf]; omega
      | false =>
        rw [hx] at FI
        have HNO : Hid (F.all (inLB m) = false) := by
          show _ = _
          rw [List.all_eq_false]
          exact ⟨l, HME.out, by rw [hx]; simp⟩
        clear hx HTK HME
        go_wp2_with (go_at_call 97; refine FI.out.mono ?_; rintro e w3 ⟨rfl, t3⟩; have T3 : Hid (TmB w n m (Ms.set i (flN m l 0)) w3) := t3; clear t3)
        refine bodyPost_ret (v := .tuple #[.slice none 0 0, .int .i64 4]) (by simp [results, Tryz.results53, go_sem]) rfl ?_
        exact SeA.no T3.out.bel (HSE.out 4 (.inr ⟨HNO.out, rfl⟩)) (by decide) rfl
    · obtain rfl : i = n := by omega
      have ilt : ¬ (i : Int) < (i : Int) := by omega
      have HA : Hid (F.all (inLB m) = true) := by
        show _ = _
        rw [← hok, ← HFL.out, List.take_length]
      have HU : Hid (TmB w i m Ms wr ∧ FsB F i m Ms) := ⟨hU, hU.len, HFL.out, HA.out, fun x hx b => by
        rw [hbit x hx, if_pos hx, flN_bit]
        simp⟩
      clear hU hok hbit
      go_wp2
      refine bodyPost_ret (v := .tuple #[.slice (some ⟨w.heap.size, 0, none⟩) i i, .int .i64 0]) (by simp [results, Tryz.results53, go_sem]) rfl ?_
      exact ⟨HU.out.1.bel, .inr ⟨HSE.out 0 (.inl ⟨HA.out, rfl⟩), m, Ms, rfl, hm, rfl, HU.out.1, HU.out.2⟩⟩
theorem setsOf_any {w : World} {n : Nat} (hn : n ≤ 4096) (most : Int) (fa : Option Addr) (fc : Nat) (F : List (List Int)) (hF : LrwB w fa F) (hFl : F.length ≤ 140737488355328) (hFs : ∀ l ∈ F, l.length ≤ 140737488355328) :
    Calls Tryz.prog 53 #[.int .i64 (n : Int), .int .i64 most, .slice fa F.length fc] w (SeA w n most F) := by
  by_cases h1 : (decide (0 ≤ most) && decide (most ≤ 4096)) = true
  · by_cases h2 : F.length = n
    · obtain ⟨m, rfl⟩ : ∃ m : Nat, most = (m : Int) := ⟨most.toNat, by simp at h1; omega⟩
      rw [h2]
      exact setsOf_ok hn (by simp at h1; omega) fa fc F hF h2 hFs
    · exact setsOf_no most fa fc F hFl hn (.inr ⟨h1, h2⟩)
  · exact setsOf_no most fa fc F hFl hn (.inl (Bool.eq_false_iff.2 h1))
end Go.Proofs.YtcgghlaifmlpiaaGreatDoor
namespace Go.Proofs.YtcgghlaifmlpiaaGreatDoor
set_option linter.unusedVariables false
open Go.RowKit Go.Shelf

theorem infoLlB : ∃ i, Tryz.prog.info? 46 = some i ∧ i.zero = some (.slice none 0 0) ∧ i.size = 1 ∧ i.bytes = 24 := by
  have h : (Tryz.prog.info? 46).map (fun i => (i.zero, i.size, i.bytes)) = some (some (.slice none 0 0), 1, 24) := by kernel_rfl
  cases e : Tryz.prog.info? 46 with
  | none => rw [e] at h; cases h
  | some i => rw [e] at h; simp at h; exact ⟨i, rfl, h⟩
theorem make_llB (n : Nat) (hn : n ≤ 1048576) (w : World) : (Instr.makeSlice 24 (.int .i64 (n : Int)) (.int .i64 (n : Int))).run Tryz.prog w = .ok (.slice (some ⟨w.heap.size, 0, none⟩) n n) (w.alloc (.cells (madeCells #[.slice none 0 0] n) 46)) := by
  obtain ⟨i0, hi, hz0, hz1, hz2⟩ := infoLlB
  have := run_makeSlice w 24 46 i0 (.slice none 0 0) Tryz.underlying24 hi hz0 .i64 .i64 (n : Int) (n : Int) (by omega) (by omega) (by rw [hz1]; simp; omega) (by rw [hz2]; omega) (by omega)
  rw [hz1] at this
  simpa [Value.cells] using this
theorem ne_tyB {w : World} {a b : Nat} {ca cb : Array Value} {ta tb : TypeId} (h1 : w.heap[a]? = some (.cells ca ta)) (h2 : w.heap[b]? = some (.cells cb tb)) (ht : (ta == tb) = false) : a ≠ b := by
  intro e
  subst e
  rw [h1] at h2
  simp only [Option.some.injEq, Obj.cells.injEq] at h2
  rw [h2.2.1] at ht
  simp at ht
theorem RrB.frB {X : Nat → Prop} {w w' : World} {rb m : Nat} {ks Ns : List Nat} (h : RrB w rb m ks Ns) (hf : FrB X w w') (h0 : ¬ X rb) (h1 : ∀ k ∈ ks, ¬ X k ∧ ¬ X (k + 1)) : RrB w' rb m ks Ns :=
  ⟨(hf.block _ (lt_of_block h.row) h0).trans h.row, h.len, fun i k N hk hN => (h.sb i k N hk hN).frB hf (h1 k (List.mem_of_getElem? hk)).1 (h1 k (List.mem_of_getElem? hk)).2⟩
/-- Rows of sets stay where a block of lists turns. -/
theorem RrB.lists {w w' : World} {rb m b : Nat} {ks Ns : List Nat} {C : Array Value} (h : RrB w rb m ks Ns) (hb : w.heap[b]? = some (.cells C 46)) (hf : FrB (· = b) w w') : RrB w' rb m ks Ns := by
  refine h.frB hf (fun q => ?_) (fun k hk => ?_)
  · have q2 : rb = b := q
    exact ne_tyB h.row hb (by decide) q2
  · obtain ⟨i, hi⟩ := List.getElem?_of_mem hk
    have hil : i < Ns.length := by rw [← h.len]; exact (List.getElem?_eq_some_iff.1 hi).1
    have hs := h.sb i k _ hi (List.getElem?_eq_getElem hil)
    refine ⟨fun q => ?_, fun q => ?_⟩
    · have q2 : k = b := q
      exact ne_tyB hs.wd hb (by decide) q2
    · have q2 : k + 1 = b := q
      exact ne_tyB hs.hd hb (by decide) q2
/-- The lists of sets, laid into a made list: the first i of them. -/
structure DlB (w4 : World) (b n m i : Nat) (Ms : List Nat) (V : List SlV) (wr : World) : Prop where
  row : wr.heap[b]? = some (.cells (V.map slV ++ List.replicate (n - i) (Value.slice none 0 0)).toArray 46)
  len : V.length = i
  il : ∀ (j : Nat) (x : SlV), V[j]? = some x → IL wr (slV x) (nI (bitsU (Ms.getD j 0) m)) ∧ ∀ q, (slV x).ownBlock = some q → w4.heap.size ≤ q
  fr : FrB (· = b) w4 wr
theorem DlB.next {w4 wr w1 : World} {b n m i : Nat} {Ms : List Nat} {V : List SlV} {x : SlV} (h : DlB w4 b n m i Ms V wr) (hb4 : b < w4.heap.size) (hi : i < n) (hx : LBs wr (nI (bitsU (Ms.getD i 0) m)) (slV x) w1) : DlB w4 b n m (i + 1) Ms (V ++ [x]) (w1.setCell ⟨b, i, none⟩ (slV x)) := by
  have hz := h.fr.size
  have r1 := (hx.bel.block _ (lt_of_block h.row)).trans h.row
  have hf := frB_setCell w1 b i (slV x)
  have hk : ∀ (y : SlV) (l : List Int), IL w1 (slV y) l → (∀ q, (slV y).ownBlock = some q → w4.heap.size ≤ q) → IL (w1.setCell ⟨b, i, none⟩ (slV x)) (slV y) l := fun y l hy ho => hy.kept (fun j hj => hf.block j (World.ownsRow.lt hy j hj).2 (fun e => by have e2 : j = b := e; have := ho j hj; omega))
  refine ⟨?_, by simp [h.len], fun j y hy => ?_, h.fr.trans ((Below.frB hx.bel).trans hf)⟩
  · rw [heap_set r1 i (slV x), List.setIfInBounds_toArray]
    congr 3
    have hl : (V.map slV).length = i := by rw [List.length_map, h.len]
    rw [List.set_append_right _ _ (by omega), hl, Nat.sub_self, List.map_append, List.append_assoc]
    congr 1
    rw [show n - i = (n - (i + 1)) + 1 by omega, List.replicate_succ]
    rfl
  · rcases Nat.lt_or_ge j V.length with q | q
    · rw [List.getElem?_append_left q] at hy
      obtain ⟨h1, h2⟩ := h.il j y hy
      exact ⟨hk y _ (h1.later hx.bel) h2, h2⟩
    · rw [List.getElem?_append_right q] at hy
      have h0 : j - V.length = 0 := by
        have := (List.getElem?_eq_some_iff.1 hy).1
        simp at this
        omega
      rw [h0] at hy
      simp at hy
      subst hy
      have hj : j = i := by have := h.len; omega
      subst hj
      have ho : ∀ q, (slV x).ownBlock = some q → w4.heap.size ≤ q := fun q hq => Nat.le_trans hz (hx.own q hq)
      exact ⟨hk x _ hx.il ho, ho⟩
theorem DlB.old {w4 wr w1 : World} {b n m i : Nat} {Ms : List Nat} {V : List SlV} (h : DlB w4 b n m i Ms V wr) (hi : i < n) (hb : Below wr.heap.size wr w1) : w1.cell? ⟨b, i, none⟩ = some (.slice none 0 0) ∧ w1.frozen? ⟨b, i, none⟩ = false := by
  have r1 := (hb.block _ (lt_of_block h.row)).trans h.row
  refine ⟨?_, by simp [World.frozen?, r1]⟩
  rw [cellq_any r1]
  have hl : (V.map slV).length = i := by rw [List.length_map, h.len]
  simp only [List.getElem?_toArray]
  rw [List.getElem?_append_right (by omega), hl, List.getElem?_replicate, if_pos (by omega)]
theorem DlB.fin {w4 wr : World} {b n m : Nat} {Ms : List Nat} {V : List SlV} (h : DlB w4 b n m n Ms V wr) : LrB wr (some ⟨b, 0, none⟩) V ((List.range n).map fun x => bitsU (Ms.getD x 0) m) := by
  refine ⟨by simp [h.len], fun _ => ⟨b, 0, rfl, lt_of_block h.row, fun i x hx => ?_⟩, fun i x l hx hl => ?_⟩
  · rw [cellq_any h.row]
    rw [Nat.sub_self, List.replicate_zero, List.append_nil]
    simp [hx]
  · have hi : i < n := by rw [← h.len]; exact (List.getElem?_eq_some_iff.1 hx).1
    rw [List.getElem?_map, List.getElem?_range hi] at hl
    simp at hl
    subst hl
    obtain ⟨a, c, e, hr⟩ := (h.il i x hx).1.rowB
    simp only [Value.slice.injEq] at e
    exact ⟨e.2.1, by rw [e.1]; exact hr⟩
/-- Digraph's error. -/
def dgE (n most : Int) (F : List (List Int)) (E : List (Int × Int)) : Int := if (decide (0 ≤ n) && decide (n ≤ 4096)) = false then 4 else if E.all (okE n.toNat) = false then 51 else seE n.toNat most F
structure DgO (n most : Int) (F : List (List Int)) (E : List (Int × Int)) (k m : Nat) (Ms : List Nat) : Prop where
  n : n = (k : Int)
  le : k ≤ 4096
  most : most = (m : Int)
  mle : m ≤ 4096
  ok : E.all (okE k) = true
  ex : ∃ Ns Fs, RelB E k Ns ∧ FsB F k m Fs ∧ SolB Ns Fs k Ms
/-- What Digraph answers. -/
def DgA (w : World) (n most : Int) (F : List (List Int)) (E : List (Int × Int)) (e : Ending) (w' : World) : Prop :=
  Below w.heap.size w w' ∧ ((dgE n most F E ≠ 0 ∧ e = .returned (.tuple #[.slice none 0 0, .int .i64 (dgE n most F E)])) ∨ (dgE n most F E = 0 ∧ ∃ (k m b : Nat) (Ms : List Nat) (V : List SlV), DgO n most F E k m Ms ∧ e = .returned (.tuple #[.slice (some ⟨b, 0, none⟩) k k, .int .i64 0]) ∧ LrB w' (some ⟨b, 0, none⟩) V ((List.range k).map fun x => bitsU (Ms.getD x 0) m)))
theorem DgA.no {w w' : World} {n most c : Int} {F : List (List Int)} {E : List (Int × Int)} {e : Ending} (hb : Below w.heap.size w w') (hc : dgE n most F E = c) (h0 : c ≠ 0) (he : e = .returned (.tuple #[.slice none 0 0, .int .i64 c])) : DgA w n most F E e w' := ⟨hb, .inl ⟨by rw [hc]; exact h0, by rw [hc]; exact he⟩⟩
set_option maxRecDepth 100000 in
set_option maxHeartbeats 8000000 in
theorem digraph_any (n most : Int) (w : World) (fa : Option Addr) (fc : Nat) (F : List (List Int)) (hF : LrwB w fa F) (hFl : F.length ≤ 140737488355328) (hFs : ∀ l ∈ F, l.length ≤ 140737488355328) (ea : Option Addr) (ec : Nat) (E : List (Int × Int)) (hE : PrsB w ea E) (hEl : E.length ≤ 140737488355328) (hT : TabB w) :
    Calls Tryz.prog 19 #[.int .i64 n, .int .i64 most, .slice fa F.length fc, .slice ea E.length ec] w (DgA w n most F E) := by
  by_cases hn : (decide (0 ≤ n) && decide (n ≤ 4096)) = false
  · have RF : Hid (Calls Tryz.prog 31 #[.int .i64 n, .slice ea E.length ec] w fun e w' => e = .returned (.tuple #[.slice none 0 0, .int .i64 4]) ∧ w' = w) := rows_far n hn ea E.length ec w
    have HN : Hid (dgE n most F E = 4) := by show _ = _; unfold dgE; rw [if_pos hn]
    clear hE hT hn hF hFs
    generalize E.length = el at *
    generalize F.length = fl at *
    go_enter Tryz.func19, Tryz.ntmps19
    go_wp2_with (go_at_call 31; refine RF.out.mono ?_; rintro e w1 ⟨rfl, hz⟩; rw [hz]; clear hz w1)
    refine bodyPost_ret (v := .tuple #[.slice none 0 0, .int .i64 4]) (by simp [results, Tryz.results19, go_sem]) rfl ?_
    exact DgA.no (Below.refl _ _) HN.out (by decide) rfl
  · obtain ⟨k, rfl⟩ : ∃ k : Nat, n = (k : Int) := ⟨n.toNat, by simp at hn; omega⟩
    have hk : k ≤ 4096 := by simp at hn; omega
    have hnt : (decide (0 ≤ (k : Int)) && decide ((k : Int) ≤ 4096)) ≠ false := hn
    have RF : Hid (Calls Tryz.prog 31 #[.int .i64 (k : Int), .slice ea E.length ec] w (RoA w k E)) := rows_SB hk ea ec E hE hEl
    have HT : Hid (TabB w) := hT
    have SO : Hid (∀ w1, Below w.heap.size w w1 → Calls Tryz.prog 53 #[.int .i64 (k : Int), .int .i64 most, .slice fa F.length fc] w1 (SeA w1 k most F)) := fun w1 b1 => setsOf_any hk most fa fc F (hF.later b1) hFl hFs
    have HD1 : Hid (E.all (okE k) = false → dgE (k : Int) most F E = 51) := fun q => by unfold dgE; rw [if_neg hnt, Int.toNat_natCast, if_pos q]
    have HD2 : Hid (E.all (okE k) = true → dgE (k : Int) most F E = seE k most F) := fun q => by unfold dgE; rw [if_neg hnt, Int.toNat_natCast, if_neg (by rw [q]; simp)]
    clear hE hT hn hnt hF hFs
    generalize hel : E.length = el at *
    generalize hfl : F.length = fl at *
    clear hel hfl
    go_enter Tryz.func19, Tryz.ntmps19
    go_wp2_with (go_at_call 31; refine RF.out.mono ?_)
    rintro e w1 (⟨hE, rfl, b1⟩ | ⟨hE, Ns, rfl, t1, hb1⟩)
    · have HE : Hid (dgE (k : Int) most F E = 51 ∧ Below w.heap.size w w1) := ⟨HD1.out hE, b1⟩
      clear hE b1
      go_wp2
      refine bodyPost_ret (v := .tuple #[.slice none 0 0, .int .i64 51]) (by simp [results, Tryz.results19, go_sem]) rfl ?_
      exact DgA.no HE.out.2 HE.out.1 (by decide) rfl
    · have HE : Hid (E.all (okE k) = true ∧ RelB E k Ns ∧ Below w.heap.size w w1 ∧ dgE (k : Int) most F E = seE k most F) := ⟨hE, t1.rel hb1, t1.bel, HD2.out hE⟩
      have T1 : Hid (TuB w k Ns w1) := t1
      have S1 : Hid (Calls Tryz.prog 53 #[.int .i64 (k : Int), .int .i64 most, .slice fa fl fc] w1 (SeA w1 k most F)) := SO.out w1 t1.bel
      clear hE hb1 t1 SO
      go_wp2_with (go_at_call 53; refine S1.out.mono ?_)
      rintro e w2 ⟨b2, (⟨hc, rfl⟩ | ⟨hc, m, Fs, rfl, hm, rfl, t2, hfs⟩)⟩
      · have H2 : Hid (Below w.heap.size w w2 ∧ seE k most F ≠ 0) := ⟨HE.out.2.2.1.trans (b2.mono HE.out.2.2.1.size), hc⟩
        have h2 : (seE k most F != 0) = true := by simpa using hc
        have HQ : Hid (dgE (k : Int) most F E = seE k most F) := HE.out.2.2.2
        clear hc b2
        generalize seE k most F = c at *
        go_wp2
        refine bodyPost_ret (v := .tuple #[.slice none 0 0, .int .i64 c]) (by simp [results, Tryz.results19, go_sem]) rfl ?_
        exact DgA.no H2.out.1 HQ.out H2.out.2 rfl
      · have hmk := make_llB k (by omega) w2
        obtain ⟨w3, hw3⟩ : ∃ w3 : World, w3 = w2.alloc (.cells (madeCells #[.slice none 0 0] k) 46) := ⟨_, rfl⟩
        have b3 : Below w2.heap.size w2 w3 := by rw [hw3]; exact below_alloc _ _
        have b13 : Below w1.heap.size w1 w3 := b2.trans (b3.mono b2.size)
        have B3 : Hid (Below w.heap.size w w3) := HE.out.2.2.1.trans (b13.mono HE.out.2.2.1.size)
        have R3 : Hid (w3.heap[w2.heap.size]? = some (.cells (List.replicate k (Value.slice none 0 0)).toArray 46) ∧ w.heap.size ≤ w2.heap.size) := ⟨by rw [hw3, heap_alloc_new, made_listB], Nat.le_trans HE.out.2.2.1.size b2.size⟩
        have SV : Hid (Calls Tryz.prog 33 #[.slice (some ⟨w.heap.size, 0, none⟩) k k, .slice (some ⟨w1.heap.size, 0, none⟩) k k] w3 fun e w' => ∃ ko D, e = .returned (.slice (some ⟨w3.heap.size, 0, none⟩) k k) ∧ CoB Ns k D ∧ SvM w' w3.heap.size m ko (svC Ns Fs k D (List.replicate k none)) ∧ Below w3.heap.size w3 w') := solve_SB (T1.out.rw.later b13) T1.out.len hk (HT.out.later B3.out) (fun q hq => Nat.lt_of_lt_of_le (T1.out.kin q hq) b13.size) (t2.rw.later b3) t2.len k k
        have HFS : Hid (FsB F k m Fs ∧ dgE (k : Int) (m : Int) F E = 0) := ⟨hfs, HE.out.2.2.2.trans hc⟩
        rw [← hw3] at hmk
        clear hc t2 hfs b2 b3 b13 hw3 S1 T1
        go_wp2_with (go_at_call 33; refine SV.out.mono ?_)
        rintro e w4 ⟨ko, D, rfl, hD, h4, b4⟩
        obtain ⟨hall, hsol⟩ := sol_of (Fs := Fs) hD
        have RR : Hid (RrB w4 w3.heap.size m (unO ko) (unO (svC Ns Fs k D (List.replicate k none)))) := h4.read hall
        have HS : Hid (SolB Ns Fs k (unO (svC Ns Fs k D (List.replicate k none)))) := hsol
        have B4 : Hid (Below w.heap.size w w4) := B3.out.trans (b4.mono B3.out.size)
        have R4 : Hid (w4.heap[w2.heap.size]? = some (.cells (List.replicate k (Value.slice none 0 0)).toArray 46) ∧ w.heap.size ≤ w2.heap.size) := ⟨(b4.block _ (lt_of_block R3.out.1)).trans R3.out.1, R3.out.2⟩
        generalize unO (svC Ns Fs k D (List.replicate k none)) = Ms at *
        generalize unO ko = kk at *
        generalize w3.heap.size = sb at *
        generalize w2.heap.size = b at *
        clear hall hsol hD h4 b4 SV hmk R3 B3
        have D0 : Hid (DlB w4 b k m 0 Ms [] w4) := ⟨by rw [R4.out.1]; rfl, rfl, fun j x hx => by simp at hx, Below.frB (Below.refl _ _)⟩
        go_wp2
        go_loopw [41] (fun z wr => ∃ (i : Nat) (V : List SlV), i ≤ k ∧ z = .int .i64 (i : Int) ∧ DlB w4 b k m i Ms V wr) (fun z _ => k - (intOf z).toNat)
        case atStart => exact ⟨0, [], Nat.zero_le _, rfl, D0.out⟩
        case round =>
          clear D0
          obtain ⟨i, V, hi, rfl, hDl⟩ := hrel
          have BW : Hid (Below w.heap.size w wr) := hDl.fr.below B4.out B4.out.size (fun j q => by have q2 : j = b := q; rw [q2]; exact R4.out.2)
          by_cases hlt : i < k
          · have ilt : (i : Int) < (k : Int) := by omega
            have R5 := RR.out.lists R4.out.1 hDl.fr
            obtain ⟨kx, hkx, hs⟩ := R5.at (show i < Ms.length by rw [HS.out.len]; exact hlt)
            have ck := R5.cell hkx
            have LI : Hid (Calls Tryz.prog 23 #[.pointer (some ⟨kx + 1, 0, none⟩)] wr fun e w' => ∃ x : SlV, e = .returned (slV x) ∧ DlB w4 b k m (i + 1) Ms (V ++ [x]) (w'.setCell ⟨b, i, none⟩ (slV x)) ∧ w'.cell? ⟨b, i, none⟩ = some (.slice none 0 0) ∧ w'.frozen? ⟨b, i, none⟩ = false) := (list_SB hs (HT.out.later BW.out)).mono fun e w' ⟨v, q1, q2⟩ => by
              rw [bitsL_nI] at q2
              obtain ⟨la, lc, rfl⟩ := il_lenB q2.il
              exact ⟨(la, _, lc), q1, hDl.next (lt_of_block R4.out.1) hlt q2, hDl.old hlt q2.bel⟩
            clear hDl R5 hkx hs
            go_wp2_with (go_at_call 23; refine LI.out.mono ?_; rintro e w5 ⟨x, rfl, d5, cc, fz⟩; obtain ⟨xa, xl, xc⟩ := x; have N5 : Hid (DlB w4 b k m (i + 1) Ms (V ++ [(xa, xl, xc)]) (w5.setCell ⟨b, i, none⟩ (.slice xa xl xc))) := d5; clear d5)
            go_roundw
            case rel => exact ⟨i + 1, _, by omega, by go_num, N5.out⟩
            case measure => simp [intOf]; omega
          · obtain rfl : i = k := by omega
            have ilt : ¬ (i : Int) < (i : Int) := by omega
            have HL : Hid (LrB wr (some ⟨b, 0, none⟩) V ((List.range i).map fun x => bitsU (Ms.getD x 0) m)) := hDl.fin
            clear hDl
            go_wp2
            refine bodyPost_ret (v := .tuple #[.slice (some ⟨b, 0, none⟩) i i, .int .i64 0]) (by simp [results, Tryz.results19, go_sem]) rfl ?_
            exact ⟨BW.out, .inr ⟨HFS.out.2, i, m, b, Ms, V, ⟨rfl, hk, rfl, hm, HE.out.1, Ns, Fs, HE.out.2.1, HFS.out.1, HS.out⟩, rfl, HL.out⟩⟩
end Go.Proofs.YtcgghlaifmlpiaaGreatDoor
