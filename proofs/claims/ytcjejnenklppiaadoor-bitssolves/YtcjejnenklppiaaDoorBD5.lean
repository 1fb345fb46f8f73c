import Derived.Test.YtcjejnenklppiaaDoorBD1ToBD4
namespace Go.Proofs.YtcjejnenklppiaaDoor
set_option linter.unusedVariables false
open Go.RowKit Go.Shelf

/-- What the law asks of Digraph's lists. -/
structure SlB (fl : Nat → List Int) (F O : List (List Int)) (E : List (Int × Int)) (k : Nat) : Prop where
  flen : F.length = k
  len : ∀ x, (fl x).length ≤ 140737488355328
  own : ∀ x, x < k → ∀ z ∈ F.getD x [], z ∈ fl x
  ed : ∀ p ∈ E, ∃ x y : Nat, p = ((x : Int), (y : Int)) ∧ x < k ∧ y < k ∧ ∀ z ∈ fl y, z ∈ fl x
  rise : ∀ x p, p + 1 < (fl x).length → (fl x).getD p 0 < (fl x).getD (p + 1) 0
  least : AeB F O E k E.length → ∀ x, x < k → ∀ z ∈ fl x, z ∈ O.getD x []
def FxB (w : World) (b k : Nat) (fl : Nat → List Int) : Prop := ∀ x, x < k → ∃ xa xc, w.cell? ⟨b, x, none⟩ = some (.slice xa (fl x).length xc) ∧ InRow w xa (fl x)
theorem FxB.later {w w' : World} {b k : Nat} {fl : Nat → List Int} (h : FxB w b k fl) (hb : Below w.heap.size w w') : FxB w' b k fl := fun x hx => by
  obtain ⟨xa, xc, h1, h2⟩ := h x hx
  exact ⟨xa, xc, cellL h1 hb, h2.later hb⟩
/-- What Digraph answers, as the law reads it. -/
def DgL (w : World) (n : Int) (F O : List (List Int)) (E : List (Int × Int)) (e : Ending) (w' : World) : Prop :=
  Below w.heap.size w w' ∧ ((∃ c : Int, c ≠ 0 ∧ e = .returned (.tuple #[.slice none 0 0, .int .i64 c])) ∨ ∃ (k b : Nat) (fl : Nat → List Int), n = (k : Int) ∧ k ≤ 4096 ∧ SlB fl F O E k ∧ e = .returned (.tuple #[.slice (some ⟨b, 0, none⟩) k k, .int .i64 0]) ∧ FxB w' b k fl)
set_option maxRecDepth 100000 in
set_option maxHeartbeats 32000000 in
theorem solves_core {w : World} (n most : Int) (fa : Option Addr) (F : List (List Int)) (hF : LrwB w fa F) (fc : Nat) (ea : Option Addr) (E : List (Int × Int)) (hE : PrsB w ea E) (hEl : E.length ≤ 140737488355328) (ec : Nat) (oa : Option Addr) (O : List (List Int)) (hO : LrwB w oa O) (hOl : O.length ≤ 140737488355328) (hOs : ∀ l ∈ O, l.length ≤ 140737488355328) (hFs : ∀ l ∈ F, l.length ≤ 140737488355328) (oc : Nat)
    (AL : Hid (Calls Tryd.prog 22 #[] w fun e w' => e = .returned (.bool true) ∧ Below w.heap.size w w'))
    (NU : Hid (∀ (e : Int) (w : World), Calls Tryd.prog 6 #[.int .i64 e] w fun x w' => x = .returned (.int .i64 e) ∧ w' = w))
    (DG : Hid (∀ w1, Below w.heap.size w w1 → Calls Tryd.prog 23 #[.int .i64 n, .int .i64 most, .slice fa F.length fc, .slice ea E.length ec] w1 (DgL w1 n F O E))) :
    Calls Tryd.prog 4 #[.int .i64 n, .int .i64 most, .slice fa F.length fc, .slice ea E.length ec, .slice oa O.length oc] w fun e w' => e = .returned (.bool true) ∧ Below w.heap.size w w' := by
  have HE : Hid (PrsB w ea E) := hE
  have HF : Hid (LrwB w fa F) := hF
  have HO : Hid (LrwB w oa O) := hO
  have HOS : Hid (∀ i, i < O.length → (O.getD i []).length ≤ 140737488355328) := fun i hi => hOs _ (getD_memIL hi)
  have HFS : Hid (∀ i, i < F.length → (F.getD i []).length ≤ 140737488355328) := fun i hi => hFs _ (getD_memIL hi)
  clear hE hF hO hOs hFs
  go_enter Tryd.func4, Tryd.ntmps4
  go_wp2_with (go_at_call 22; refine AL.out.mono ?_)
  rintro e w1 ⟨rfl, b1⟩
  have B1 : Hid (Below w.heap.size w w1) := b1
  clear b1 AL
  go_wp2_with (go_at_call 23; refine (DG.out _ B1.out).mono ?_)
  rintro e w2 ⟨b2, h2⟩
  have B2 : Hid (Below w.heap.size w w2) := B1.out.trans (b2.mono B1.out.size)
  clear b2 DG B1
  rcases h2 with ⟨c, hc, rfl⟩ | ⟨k, b, fl, rfl, hk, hsl, rfl, hfx⟩
  · have hcb : (c != 0) = true := by simpa using hc
    go_wp2_with (go_at_call 6; refine (NU.out _ _).mono ?_; rintro e w9 ⟨rfl, hz⟩; rw [hz]; clear hz w9)
    go_ret
    exact ⟨rfl, B2.out⟩
  · have SL : Hid (SlB fl F O E k) := hsl
    have FX : Hid (∀ wr, Below w2.heap.size w2 wr → FxB wr b k fl) := fun wr b => hfx.later b
    have HB : Hid (∀ wr, Below w2.heap.size w2 wr → Below w.heap.size w wr) := fun wr b => B2.out.trans (b.mono B2.out.size)
    clear hsl hfx
    go_wp2_with (go_at_call 6; refine (NU.out _ _).mono ?_; rintro e w9 ⟨rfl, hz⟩; rw [hz]; clear hz w9)
    clear NU
    obtain ⟨A0, hA0⟩ : ∃ A0 : Bool, ((O.length : Int) == (k : Int)) = A0 := ⟨_, rfl⟩
    rw [hA0]
    have HA0 : Hid (A0 = true → AbB F O k 0) := fun q => by
      rw [← hA0] at q
      exact ⟨by simp at q; omega, fun y hy => absurd hy (Nat.not_lt_zero _)⟩
    clear hA0
    go_loopw [13, 14] (fun a z wr => ∃ (x : Nat) (A : Bool), x ≤ k ∧ z = .int .i64 (x : Int) ∧ a = .bool A ∧ (A = true → AbB F O k x) ∧ Below w2.heap.size w2 wr) (fun _ z _ => k - (intOf z).toNat)
    case atStart => exact ⟨0, A0, Nat.zero_le _, rfl, rfl, HA0.out, Below.refl _ _⟩
    case round =>
      clear HA0
      obtain ⟨x, A, hx, rfl, rfl, hA, hB⟩ := hrel
      by_cases hlt : x < k
      · have xlt : (x : Int) < (k : Int) := by omega
        have hfl : x < F.length := by rw [SL.out.flen]; exact hlt
        obtain ⟨fb, fo, xa, xc, hfa, c0, r0⟩ := HF.out.at hfl
        subst hfa
        have xfl : (x : Int) < (F.length : Int) := by omega
        have hll := HFS.out x hfl
        have HA : Hid (A = true → AbB F O k x) := hA
        have HBB : Hid (Below w2.heap.size w2 wr) := hB
        have FC : Hid (∀ wr, Below w2.heap.size w2 wr → wr.cell? ⟨fb, fo + x, none⟩ = some (.slice xa (F.getD x []).length xc) ∧ InRow wr xa (F.getD x [])) := fun wr b => ⟨cellL c0 (HB.out wr b), r0.later (HB.out wr b)⟩
        have FO : Hid (∀ z ∈ F.getD x [], z ∈ fl x) := SL.out.own x hlt
        have OW : Hid ((∀ z ∈ F.getD x [], z ∈ O.getD x []) → AbB F O k x → AbB F O k (x + 1)) := fun q r => ⟨r.len, fun y hy => by
          rcases Nat.lt_or_ge y x with h | h
          · exact r.own y h
          · obtain rfl : y = x := by omega
            exact q⟩
        obtain ⟨l, hle⟩ : ∃ l, F.getD x [] = l := ⟨_, rfl⟩
        rw [hle] at hll FC FO OW
        clear hA hB c0 r0 hle
        obtain ⟨wz, rfl⟩ : ∃ wz : World, wz = wr := ⟨_, rfl⟩
        go_wp2
        go_loopw [13, 15] (fun a z wr => ∃ (i : Nat) (A : Bool), i ≤ l.length ∧ z = .int .i64 (i : Int) ∧ a = .bool A ∧ (A = true → AbB F O k x ∧ ∀ z ∈ l.take i, z ∈ O.getD x []) ∧ Below w2.heap.size w2 wr) (fun _ z _ => l.length - (intOf z).toNat)
        case atStart => exact ⟨0, A, Nat.zero_le _, rfl, rfl, fun q => ⟨HA.out q, fun z hz => by simp at hz⟩, HBB.out⟩
        case round =>
          clear HA HBB
          obtain ⟨i, A2, hi, rfl, rfl, hA, hB⟩ := hrel
          have HA : Hid (A2 = true → AbB F O k x ∧ ∀ z ∈ l.take i, z ∈ O.getD x []) := hA
          have HBB : Hid (Below w2.heap.size w2 wr) := hB
          have cf := (FC.out wr hB).1
          clear hA
          by_cases hil : i < l.length
          · have ilt : (i : Int) < (l.length : Int) := by omega
            obtain ⟨lb, lo, hla, cl⟩ := (FC.out wr hB).2.atB hil
            obtain ⟨ya, yc, cy, ry⟩ := FX.out wr hB x hlt
            have hyl := SL.out.len x
            have hin : decide (l.getD i 0 ∈ fl x) = true := decide_eq_true (FO.out _ (getD_inI hil))
            have HT2 : Hid (∀ {P : Int → Prop}, (∀ z ∈ l.take i, P z) → P (l.getD i 0) → ∀ z ∈ l.take (i + 1), P z) := take_inI hil
            generalize l.getD i 0 = v at *
            generalize fl x = fx at *
            have BR : Hid (Below wr.heap.size wr wr.drew) := (Below.refl _ _).drew
            have CI : Hid (∀ wq, Below wr.heap.size wr wq → Calls Tryd.prog 24 #[.slice ya fx.length yc, .int .i64 v] wq fun e w' => e = .returned (.bool true) ∧ Below wr.heap.size wr w') := fun wq bq => by
              have := in_B (ry.later bq) hyl yc v
              rw [hin] at this
              exact this.mono fun e w' ⟨q1, q2⟩ => ⟨q1, by rw [q2]; exact bq⟩
            have C1 : Hid (∀ wq, Below wr.heap.size wr wq → wq.cell? ⟨b, x, none⟩ = some (.slice ya fx.length yc)) := fun wq b => cellL cy b
            have C2 : Hid (∀ wq, Below wr.heap.size wr wq → wq.cell? ⟨fb, fo + x, none⟩ = some (.slice xa l.length xc)) := fun wq b => cellL cf b
            have C3 : Hid (∀ wq, Below wr.heap.size wr wq → wq.cell? ⟨lb, lo + i, none⟩ = some (.int .i64 v)) := fun wq b => cellL cl b
            subst hla
            clear cl cy ry hin
            go_wp2
            refine wp_region_q (C := fun wq => Below wr.heap.size wr wq) (by kernel_rfl) (by kernel_rfl) BR.out ?_
            iterate 11 (refine qt_yes (v := ?_) (by rfl) ?_ ?_; rotate_left; (· (intro wq hSw; have f0 := C1.out wq hSw; have f1 := C2.out wq hSw; have f2 := C3.out wq hSw; clear hSw; go_simp; with_reducible rfl)); (try simp only [Act.put, List.setIfInBounds_toArray, List.set_cons_zero, List.set_cons_succ]))
            refine qt_call (v := .bool true) 24 #[.slice ya fx.length yc, .int .i64 v] (by rfl) ?_ (fun wq hq => CI.out wq hq) ?_
            · intro wq hSw
              clear hSw
              go_simp
              try with_reducible rfl
            (try simp only [Act.put, List.setIfInBounds_toArray, List.set_cons_zero, List.set_cons_succ])
            iterate 1 (refine qt_yes (v := ?_) (by rfl) ?_ ?_; rotate_left; (· (intro wq hSw; have f0 := C1.out wq hSw; have f1 := C2.out wq hSw; have f2 := C3.out wq hSw; clear hSw; go_simp; with_reducible rfl)); (try simp only [Act.put, List.setIfInBounds_toArray, List.set_cons_zero, List.set_cons_succ]))
            refine qt_nil ?_
            intro wq hSw
            have BQ : Hid (Below w2.heap.size w2 wq) := HBB.out.trans (hSw.mono HBB.out.size)
            have cl2 := C3.out wq hSw
            have cf2 := C2.out wq hSw
            clear hSw BR CI C1 C2 C3 HBB cf
            obtain ⟨wy, rfl⟩ : ∃ wy : World, wy = wr := ⟨_, rfl⟩
            obtain ⟨wr, rfl⟩ : ∃ wr : World, wr = wq := ⟨_, rfl⟩
            have BR : Hid (Below wr.heap.size wr wr.drew) := (Below.refl _ _).drew
            cases A2 with
            | false =>
              go_wp2
              refine wp_region_q (C := fun wq => Below wr.heap.size wr wq) (by kernel_rfl) (by kernel_rfl) BR.out ?_
              iterate 2 (refine qt_yes (v := ?_) (by rfl) ?_ ?_; rotate_left; (· (intro wq hSw; clear hSw; go_simp; with_reducible rfl)); (try simp only [Act.put, List.setIfInBounds_toArray, List.set_cons_zero, List.set_cons_succ]))
              iterate 12 (refine qt_no (by rfl) ?_; (try simp only [Act.put, List.setIfInBounds_toArray, List.set_cons_zero, List.set_cons_succ]))
              iterate 2 (refine qt_yes (v := ?_) (by rfl) ?_ ?_; rotate_left; (· (intro wq hSw; clear hSw; go_simp; with_reducible rfl)); (try simp only [Act.put, List.setIfInBounds_toArray, List.set_cons_zero, List.set_cons_succ]))
              refine qt_nil ?_
              intro wq hSw
              have BQ2 : Hid (Below w2.heap.size w2 wq) := BQ.out.trans (hSw.mono BQ.out.size)
              clear hSw BR
              go_wp2
              go_roundw
              case rel => exact ⟨i + 1, false, by omega, by go_num, rfl, fun q => (by cases q), BQ2.out⟩
              case measure => simp [intOf]; omega
            | true =>
              have hol : x < O.length := by rw [(HA.out rfl).1.len]; exact hlt
              have xol : (x : Int) < (O.length : Int) := by omega
              obtain ⟨ob, oo, pa, pc, hoa, co, ro⟩ := (HO.out.later (HB.out wr BQ.out)).at hol
              have hol2 := HOS.out x hol
              have HV : Hid (decide (v ∈ O.getD x []) = true → ∀ z ∈ l.take (i + 1), z ∈ O.getD x []) := fun q => HT2.out (P := fun z => z ∈ O.getD x []) (HA.out rfl).2 (of_decide_eq_true q)
              have HA2 : Hid (AbB F O k x) := (HA.out rfl).1
              obtain ⟨dv, hdv⟩ : ∃ dv, decide (v ∈ O.getD x []) = dv := ⟨_, rfl⟩
              rw [hdv] at HV
              have CJ : Hid (∀ wq, Below wr.heap.size wr wq → Calls Tryd.prog 24 #[.slice pa (O.getD x []).length pc, .int .i64 v] wq fun e w' => e = .returned (.bool dv) ∧ Below wr.heap.size wr w') := fun wq bq => by
                have := in_B (ro.later bq) hol2 pc v
                rw [hdv] at this
                exact this.mono fun e w' ⟨q1, q2⟩ => ⟨q1, by rw [q2]; exact bq⟩
              have D1 : Hid (∀ wq, Below wr.heap.size wr wq → wq.cell? ⟨ob, oo + x, none⟩ = some (.slice pa (O.getD x []).length pc)) := fun wq b => cellL co b
              have D2 : Hid (∀ wq, Below wr.heap.size wr wq → wq.cell? ⟨fb, fo + x, none⟩ = some (.slice (some ⟨lb, lo, none⟩) l.length xc)) := fun wq b => cellL cf2 b
              have D3 : Hid (∀ wq, Below wr.heap.size wr wq → wq.cell? ⟨lb, lo + i, none⟩ = some (.int .i64 v)) := fun wq b => cellL cl2 b
              subst hoa
              clear co ro cl2 cf2 hdv HA hol2
              go_wp2
              refine wp_region_q (C := fun wq => Below wr.heap.size wr wq) (by kernel_rfl) (by kernel_rfl) BR.out ?_
              iterate 13 (refine qt_yes (v := ?_) (by rfl) ?_ ?_; rotate_left; (· (intro wq hSw; have f0 := D1.out wq hSw; have f1 := D2.out wq hSw; have f2 := D3.out wq hSw; clear hSw; go_simp; with_reducible rfl)); (try simp only [Act.put, List.setIfInBounds_toArray, List.set_cons_zero, List.set_cons_succ]))
              refine qt_call (v := .bool dv) 24 #[.slice pa (O.getD x []).length pc, .int .i64 v] (by rfl) ?_ (fun wq hq => CJ.out wq hq) ?_
              · intro wq hSw
                clear hSw
                go_simp
                try with_reducible rfl
              (try simp only [Act.put, List.setIfInBounds_toArray, List.set_cons_zero, List.set_cons_succ])
              iterate 2 (refine qt_yes (v := ?_) (by rfl) ?_ ?_; rotate_left; (· (intro wq hSw; have f0 := D1.out wq hSw; have f1 := D2.out wq hSw; have f2 := D3.out wq hSw; clear hSw; go_simp; with_reducible rfl)); (try simp only [Act.put, List.setIfInBounds_toArray, List.set_cons_zero, List.set_cons_succ]))
              refine qt_nil ?_
              intro wq hSw
              have BQ2 : Hid (Below w2.heap.size w2 wq) := BQ.out.trans (hSw.mono BQ.out.size)
              clear hSw BR CJ D1 D2 D3 BQ
              go_wp2
              go_roundw
              case rel => exact ⟨i + 1, dv, by omega, by go_num, rfl, fun q => ⟨HA2.out, HV.out q⟩, BQ2.out⟩
              case measure => simp [intOf]; omega
          · obtain rfl : i = l.length := by omega
            have ilt : ¬ (l.length : Int) < (l.length : Int) := by omega
            have HA3 : Hid (A2 = true → AbB F O k (x + 1)) := fun q => OW.out (by have := (HA.out q).2; rwa [List.take_length] at this) (HA.out q).1
            clear HA
            go_wp2
            obtain ⟨wx, rfl⟩ : ∃ wx : World, wx = wr := ⟨_, rfl⟩
            go_loopw [16] (fun z wr => ∃ (p : Nat), z = .int .i64 ((p : Int) + 1) ∧ p ≤ 140737488355328 ∧ Below w2.heap.size w2 wr) (fun z _ => 140737488355329 - (intOf z).toNat)
            case atStart => exact ⟨0, by go_num, Nat.zero_le _, HBB.out⟩
            case round =>
              clear HBB
              obtain ⟨p, rfl, hp, hB⟩ := hrel
              have HBB : Hid (Below w2.heap.size w2 wr) := hB
              obtain ⟨ya, yc, cy, ry⟩ := FX.out wr hB x hlt
              have hyl := SL.out.len x
              have HRI : Hid (p + 1 < (fl x).length → (fl x).getD p 0 < (fl x).getD (p + 1) 0) := SL.out.rise x p
              clear hB
              generalize fl x = fx at *
              have wp0 : IntKind.i64.wrap (p : Int) = (p : Int) := by rw [IntKind.wrap_i64]; omega
              have wp1 : IntKind.i64.wrap ((p : Int) + 1) = (p : Int) + 1 := by rw [IntKind.wrap_i64]; omega
              have wp2 : IntKind.i64.wrap ((p : Int) + 1 + 1) = (p : Int) + 1 + 1 := by rw [IntKind.wrap_i64]; omega
              have p00 : (0 : Int) ≤ (p : Int) := by omega
              have pp0 : (0 : Int) ≤ (p : Int) + 1 := by omega
              have p1 : (p : Int) + 1 - 1 = (p : Int) := by omega
              by_cases hpl : p + 1 < fx.length
              · have plt : (p : Int) + 1 < (fx.length : Int) := by omega
                have plt0 : (p : Int) < (fx.length : Int) := by omega
                obtain ⟨lb, lo, hya, c1⟩ := ry.atB hpl
                obtain ⟨lb', lo', hya', c2⟩ := ry.atB (show p < fx.length by omega)
                rw [hya] at hya'
                simp only [Option.some.injEq, Addr.mk.injEq, and_true] at hya'
                obtain ⟨rfl, rfl⟩ := hya'
                have hr := HRI.out hpl
                generalize fx.getD p 0 = u at *
                generalize fx.getD (p + 1) 0 = v at *
                have hr2 : decide (v ≤ u) = false := decide_eq_false (by omega)
                have BR : Hid (Below wr.heap.size wr wr.drew) := (Below.refl _ _).drew
                have C1 : Hid (∀ wq, Below wr.heap.size wr wq → wq.cell? ⟨b, x, none⟩ = some (.slice ya fx.length yc)) := fun wq b => cellL cy b
                have C2 : Hid (∀ wq, Below wr.heap.size wr wq → wq.cell? ⟨lb, lo + (p + 1), none⟩ = some (.int .i64 v)) := fun wq b => cellL c1 b
                have C3 : Hid (∀ wq, Below wr.heap.size wr wq → wq.cell? ⟨lb, lo + p, none⟩ = some (.int .i64 u)) := fun wq b => cellL c2 b
                subst hya
                clear ry c1 c2 hr HRI
                go_wp2
                refine wp_region_q (C := fun wq => Below wr.heap.size wr wq) (by kernel_rfl) (by kernel_rfl) BR.out ?_
                iterate 16 (refine qt_yes (v := ?_) (by rfl) ?_ ?_; rotate_left; (· (intro wq hSw; have f0 := C1.out wq hSw; have f1 := C2.out wq hSw; have f2 := C3.out wq hSw; clear hSw; go_simp; with_reducible rfl)); (try simp only [Act.put, List.setIfInBounds_toArray, List.set_cons_zero, List.set_cons_succ]))
                refine qt_nil ?_
                intro wq hSw
                have BQ : Hid (Below w2.heap.size w2 wq) := HBB.out.trans (hSw.mono HBB.out.size)
                clear hSw BR C1 C2 C3 HBB
                go_wp2
                go_roundw
                case rel => exact ⟨p + 1, by go_num, by omega, BQ.out⟩
                case measure => simp [intOf]; omega
              · have plt : ¬ ((p : Int) + 1 < (fx.length : Int)) := by omega
                clear HRI ry
                go_wp2
                go_roundw
                case rel => exact ⟨x + 1, A2, by omega, by go_num, rfl, HA3.out, HBB.out⟩
                case measure => simp [intOf]; omega
      · obtain rfl : k = x := by omega
        have xlt : ¬ (k : Int) < (k : Int) := by omega
        have HA : Hid (A = true → AeB F O E k 0) := fun q => ⟨hA q, fun p hp => by simp at hp⟩
        have HBB : Hid (Below w2.heap.size w2 wr) := hB
        clear hA hB
        go_wp2
        obtain ⟨wz, rfl⟩ : ∃ wz : World, wz = wr := ⟨_, rfl⟩
        go_loopw [13, 17] (fun a z wr => ∃ (i : Nat) (A : Bool), i ≤ E.length ∧ z = .int .i64 (i : Int) ∧ a = .bool A ∧ (A = true → AeB F O E k i) ∧ Below w2.heap.size w2 wr) (fun _ z _ => E.length - (intOf z).toNat)
        case atStart => exact ⟨0, A, Nat.zero_le _, rfl, rfl, HA.out, HBB.out⟩
        case round =>
          clear HA HBB
          obtain ⟨i, A2, hi, rfl, rfl, hA, hB⟩ := hrel
          have HA : Hid (A2 = true → AeB F O E k i) := hA
          have HBB : Hid (Below w2.heap.size w2 wr) := hB
          clear hA
          by_cases hil : i < E.length
          · have ilt : (i : Int) < (E.length : Int) := by omega
            obtain ⟨eb, eo, hea, c0, c1⟩ := (HE.out.later (HB.out wr hB)).at hil
            have hmem : E.getD i (0, 0) ∈ E := by
              rw [List.getD_eq_getElem?_getD, List.getElem?_eq_getElem hil]
              exact List.getElem_mem hil
            obtain ⟨px, py, hpe, hpx, hpy, hsub⟩ := SL.out.ed _ hmem
            have HTE : Hid (∀ {P : Int × Int → Prop}, (∀ z ∈ E.take i, P z) → P (E.getD i (0, 0)) → ∀ z ∈ E.take (i + 1), P z) := take_inE hil
            rw [hpe] at c0 c1 HTE
            simp only at c0 c1
            have HNX : Hid (AeB F O E k i → (∀ z ∈ O.getD py [], z ∈ O.getD px []) → AeB F O E k (i + 1)) := fun q r => ⟨q.toAbB, HTE.out (P := fun p => ∀ z ∈ O.getD p.2.toNat [], z ∈ O.getD p.1.toNat []) q.ed (by simpa using r)⟩
            have HSU : Hid (∀ z ∈ fl py, z ∈ fl px) := hsub
            obtain ⟨op, hop⟩ : ∃ l, O.getD py [] = l := ⟨_, rfl⟩
            obtain ⟨ox, hoxe⟩ : ∃ l, O.getD px [] = l := ⟨_, rfl⟩
            have HOP : Hid (O.getD py [] = op) := hop
            have HOX : Hid (O.getD px [] = ox) := hoxe
            rw [hop, hoxe] at HNX
            clear hop hoxe
            have pxl : (px : Int) < (k : Int) := by omega
            have pyl : (py : Int) < (k : Int) := by omega
            have BR : Hid (Below wr.heap.size wr wr.drew) := (Below.refl _ _).drew
            have C1 : Hid (∀ wq, Below wr.heap.size wr wq → wq.cell? ⟨eb, eo + i * 2, none⟩ = some (.int .i64 (px : Int))) := fun wq b => cellL c0 b
            have C2 : Hid (∀ wq, Below wr.heap.size wr wq → wq.cell? ⟨eb, eo + i * 2 + 1, none⟩ = some (.int .i64 (py : Int))) := fun wq b => cellL c1 b
            subst hea
            clear hB c0 c1 hpe hmem hsub HTE
            go_wp2
            refine wp_region_q (C := fun wq => Below wr.heap.size wr wq) (by kernel_rfl) (by kernel_rfl) BR.out ?_
            iterate 12 (refine qt_yes (v := ?_) (by rfl) ?_ ?_; rotate_left; (· (intro wq hSw; have f0 := C1.out wq hSw; have f1 := C2.out wq hSw; clear hSw; go_simp; with_reducible rfl)); (try simp only [Act.put, List.setIfInBounds_toArray, List.set_cons_zero, List.set_cons_succ]))
            refine qt_nil ?_
            intro wq hSw
            have BQ : Hid (Below w2.heap.size w2 wq) := HBB.out.trans (hSw.mono HBB.out.size)
            clear hSw BR C1 C2 HBB
            go_wp2
            obtain ⟨wy, rfl⟩ : ∃ wy : World, wy = wr := ⟨_, rfl⟩
            go_loopw [20] (fun z wr => ∃ (q : Nat), q ≤ (fl py).length ∧ z = .int .i64 (q : Int) ∧ Below w2.heap.size w2 wr) (fun z _ => (fl py).length - (intOf z).toNat)
            case atStart => exact ⟨0, Nat.zero_le _, rfl, BQ.out⟩
            case round =>
              clear BQ
              obtain ⟨q, hq, rfl, hB⟩ := hrel
              have HBB : Hid (Below w2.heap.size w2 wr) := hB
              obtain ⟨ya, yc, cy, ry⟩ := FX.out wr hB py hpy
              have hyl := SL.out.len py
              by_cases hql : q < (fl py).length
              · have qlt : (q : Int) < ((fl py).length : Int) := by omega
                obtain ⟨xa, xc, cx, rx⟩ := FX.out wr hB px hpx
                have hxl := SL.out.len px
                obtain ⟨lb, lo, hya, c1⟩ := ry.atB hql
                have hin : decide ((fl py).getD q 0 ∈ fl px) = true := decide_eq_true (HSU.out _ (getD_inI hql))
                generalize (fl py).getD q 0 = v at *
                have BR : Hid (Below wr.heap.size wr wr.drew) := (Below.refl _ _).drew
                have CI : Hid (∀ wq, Below wr.heap.size wr wq → Calls Tryd.prog 24 #[.slice xa (fl px).length xc, .int .i64 v] wq fun e w' => e = .returned (.bool true) ∧ Below wr.heap.size wr w') := fun wq bq => by
                  have := in_B (rx.later bq) hxl xc v
                  rw [hin] at this
                  exact this.mono fun e w' ⟨q1, q2⟩ => ⟨q1, by rw [q2]; exact bq⟩
                have C1 : Hid (∀ wq, Below wr.heap.size wr wq → wq.cell? ⟨b, px, none⟩ = some (.slice xa (fl px).length xc)) := fun wq b => cellL cx b
                have C2 : Hid (∀ wq, Below wr.heap.size wr wq → wq.cell? ⟨b, py, none⟩ = some (.slice ya (fl py).length yc)) := fun wq b => cellL cy b
                have C3 : Hid (∀ wq, Below wr.heap.size wr wq → wq.cell? ⟨lb, lo + q, none⟩ = some (.int .i64 v)) := fun wq b => cellL c1 b
                subst hya
                clear hB ry rx c1 hin cx
                go_wp2
                refine wp_region_q (C := fun wq => Below wr.heap.size wr wq) (by kernel_rfl) (by kernel_rfl) BR.out ?_
                iterate 11 (refine qt_yes (v := ?_) (by rfl) ?_ ?_; rotate_left; (· (intro wq hSw; have f0 := C1.out wq hSw; have f1 := C2.out wq hSw; have f2 := C3.out wq hSw; clear hSw; go_simp; with_reducible rfl)); (try simp only [Act.put, List.setIfInBounds_toArray, List.set_cons_zero, List.set_cons_succ]))
                refine qt_call (v := .bool true) 24 #[.slice xa (fl px).length xc, .int .i64 v] (by rfl) ?_ (fun wq hq => CI.out wq hq) ?_
                · intro wq hSw
                  clear hSw
                  go_simp
                  try with_reducible rfl
                (try simp only [Act.put, List.setIfInBounds_toArray, List.set_cons_zero, List.set_cons_succ])
                iterate 1 (refine qt_yes (v := ?_) (by rfl) ?_ ?_; rotate_left; (· (intro wq hSw; have f0 := C1.out wq hSw; have f1 := C2.out wq hSw; have f2 := C3.out wq hSw; clear hSw; go_simp; with_reducible rfl)); (try simp only [Act.put, List.setIfInBounds_toArray, List.set_cons_zero, List.set_cons_succ]))
                refine qt_nil ?_
                intro wq hSw
                have BQ : Hid (Below w2.heap.size w2 wq) := HBB.out.trans (hSw.mono HBB.out.size)
                clear hSw BR CI C1 C2 C3 HBB
                go_wp2
                go_roundw
                case rel => exact ⟨q + 1, by omega, by go_num, BQ.out⟩
                case measure => simp [intOf]; omega
              · obtain rfl : q = (fl py).length := by omega
                have qlt : ¬ ((fl py).length : Int) < ((fl py).length : Int) := by omega
                clear hB ry
                go_wp2
                clear cy hyl hq hql qlt
                obtain ⟨wx, rfl⟩ : ∃ wx : World, wx = wr := ⟨_, rfl⟩
                go_loopw [13, 21] (fun a z wr => ∃ (q : Nat) (A : Bool), q ≤ 140737488355328 ∧ z = .int .i64 (q : Int) ∧ a = .bool A ∧ (A = true → AeB F O E k i ∧ q ≤ op.length ∧ ∀ z ∈ op.take q, z ∈ ox) ∧ Below w2.heap.size w2 wr) (fun _ z _ => 140737488355329 - (intOf z).toNat)
                case atStart => exact ⟨0, A2, Nat.zero_le _, rfl, rfl, fun q => ⟨HA.out q, Nat.zero_le _, fun z hz => by simp at hz⟩, HBB.out⟩
                case round =>
                  clear HA HBB
                  obtain ⟨q, A3, hq, rfl, rfl, hA, hB⟩ := hrel
                  have HBB : Hid (Below w2.heap.size w2 wr) := hB
                  cases A3 with
                  | false =>
                    clear hA hB
                    go_wp2
                    go_roundw
                    case rel => exact ⟨i + 1, false, by omega, by go_num, rfl, fun q => (by cases q), HBB.out⟩
                    case measure => simp [intOf]; omega
                  | true =>
                    obtain ⟨ha1, ha2, ha3⟩ := hA rfl
                    have hol : py < O.length := by rw [ha1.len]; exact hpy
                    have hox : px < O.length := by rw [ha1.len]; exact hpx
                    have pyo : (py : Int) < (O.length : Int) := by omega
                    have pxo : (px : Int) < (O.length : Int) := by omega
                    obtain ⟨ob, oo, pa, pc, hoa, co, ro⟩ := (HO.out.later (HB.out wr hB)).at hol
                    obtain ⟨ob', oo', ra, rc, hoa', co2, ro2⟩ := (HO.out.later (HB.out wr hB)).at hox
                    rw [hoa] at hoa'
                    simp only [Option.some.injEq, Addr.mk.injEq, and_true] at hoa'
                    obtain ⟨rfl, rfl⟩ := hoa'
                    have hpl := HOS.out py hol
                    have hxl := HOS.out px hox
                    rw [HOP.out] at co ro hpl
                    rw [HOX.out] at co2 ro2 hxl
                    by_cases hql : q < op.length
                    · have qlt : (q : Int) < (op.length : Int) := by omega
                      obtain ⟨lb, lo, hpa, c1⟩ := ro.atB hql
                      have HV : Hid (decide (op.getD q 0 ∈ ox) = true → AeB F O E k i ∧ q + 1 ≤ op.length ∧ ∀ z ∈ op.take (q + 1), z ∈ ox) := fun r => ⟨ha1, hql, take_inI hql (P := fun z => z ∈ ox) ha3 (of_decide_eq_true r)⟩
                      generalize op.getD q 0 = v at *
                      obtain ⟨dv, hdv⟩ : ∃ dv, decide (v ∈ ox) = dv := ⟨_, rfl⟩
                      rw [hdv] at HV
                      have BR : Hid (Below wr.heap.size wr wr.drew) := (Below.refl _ _).drew
                      have CI : Hid (∀ wq, Below wr.heap.size wr wq → Calls Tryd.prog 24 #[.slice ra ox.length rc, .int .i64 v] wq fun e w' => e = .returned (.bool dv) ∧ Below wr.heap.size wr w') := fun wq bq => by
                        have := in_B (ro2.later bq) hxl rc v
                        rw [hdv] at this
                        exact this.mono fun e w' ⟨q1, q2⟩ => ⟨q1, by rw [q2]; exact bq⟩
                      have C1 : Hid (∀ wq, Below wr.heap.size wr wq → wq.cell? ⟨ob, oo + px, none⟩ = some (.slice ra ox.length rc)) := fun wq b => cellL co2 b
                      have C2 : Hid (∀ wq, Below wr.heap.size wr wq → wq.cell? ⟨ob, oo + py, none⟩ = some (.slice pa op.length pc)) := fun wq b => cellL co b
                      have C3 : Hid (∀ wq, Below wr.heap.size wr wq → wq.cell? ⟨lb, lo + q, none⟩ = some (.int .i64 v)) := fun wq b => cellL c1 b
                      subst hoa
                      subst hpa
                      clear hA hB ro ro2 c1 hdv co2 ha1 ha2 ha3
                      go_wp2
                      refine wp_region_q (C := fun wq => Below wr.heap.size wr wq) (by kernel_rfl) (by kernel_rfl) BR.out ?_
                      iterate 11 (refine qt_yes (v := ?_) (by rfl) ?_ ?_; rotate_left; (· (intro wq hSw; have f0 := C1.out wq hSw; have f1 := C2.out wq hSw; have f2 := C3.out wq hSw; clear hSw; go_simp; with_reducible rfl)); (try simp only [Act.put, List.setIfInBounds_toArray, List.set_cons_zero, List.set_cons_succ]))
                      refine qt_call (v := .bool dv) 24 #[.slice ra ox.length rc, .int .i64 v] (by rfl) ?_ (fun wq hq => CI.out wq hq) ?_
                      · intro wq hSw
                        clear hSw
                        go_simp
                        try with_reducible rfl
                      (try simp only [Act.put, List.setIfInBounds_toArray, List.set_cons_zero, List.set_cons_succ])
                      iterate 1 (refine qt_yes (v := ?_) (by rfl) ?_ ?_; rotate_left; (· (intro wq hSw; have f0 := C1.out wq hSw; have f1 := C2.out wq hSw; have f2 := C3.out wq hSw; clear hSw; go_simp; with_reducible rfl)); (try simp only [Act.put, List.setIfInBounds_toArray, List.set_cons_zero, List.set_cons_succ]))
                      refine qt_nil ?_
                      intro wq hSw
                      have BQ : Hid (Below w2.heap.size w2 wq) := HBB.out.trans (hSw.mono HBB.out.size)
                      clear hSw BR CI C1 C2 C3 HBB
                      go_wp2
                      go_roundw
                      case rel => exact ⟨q + 1, dv, by omega, by go_num, rfl, HV.out, BQ.out⟩
                      case measure => simp [intOf]; omega
                    · have qlt : ¬ ((q : Int) < (op.length : Int)) := by omega
                      have HZ : Hid (AeB F O E k (i + 1)) := HNX.out ha1 (by
                        have e : op.take q = op := List.take_of_length_le (by omega)
                        rw [e] at ha3
                        exact ha3)
                      subst hoa
                      clear hA hB ro ro2 co2 ha1 ha2 ha3
                      go_wp2
                      go_roundw
                      case rel => exact ⟨i + 1, true, by omega, by go_num, rfl, fun _ => HZ.out, HBB.out⟩
                      case measure => simp [intOf]; omega
          · obtain rfl : i = E.length := by omega
            have ilt : ¬ (E.length : Int) < (E.length : Int) := by omega
            have HZ : Hid (A2 = true → O.length = k ∧ ∀ x, x < k → ∀ z ∈ fl x, z ∈ O.getD x []) := fun q => ⟨(HA.out q).len, SL.out.least (HA.out q)⟩
            clear HA hB
            go_wp2
            obtain ⟨wy, rfl⟩ : ∃ wy : World, wy = wr := ⟨_, rfl⟩
            go_loopw [22] (fun z wr => ∃ (x : Nat), x ≤ k ∧ z = .int .i64 (x : Int) ∧ Below w2.heap.size w2 wr) (fun z _ => k - (intOf z).toNat)
            case atStart => exact ⟨0, Nat.zero_le _, rfl, HBB.out⟩
            case round =>
              clear HBB
              obtain ⟨x, hx, rfl, hB⟩ := hrel
              have HBB : Hid (Below w2.heap.size w2 wr) := hB
              clear hB
              by_cases hlt : x < k
              · have xlt2 : (x : Int) < (k : Int) := by omega
                cases A2 with
                | false =>
                  go_wp2
                  go_ret
                  exact ⟨rfl, HB.out _ HBB.out⟩
                | true =>
                  have hol : x < O.length := by rw [(HZ.out rfl).1]; exact hlt
                  have xol : (x : Int) < (O.length : Int) := by omega
                  have HIN : Hid (∀ z ∈ fl x, z ∈ O.getD x []) := (HZ.out rfl).2 x hlt
                  have hyl := SL.out.len x
                  have hol2 := HOS.out x hol
                  have FX2 : Hid (∀ wr, Below w2.heap.size w2 wr → ∃ xa xc, wr.cell? ⟨b, x, none⟩ = some (.slice xa (fl x).length xc) ∧ InRow wr xa (fl x)) := fun wr b => FX.out wr b x hlt
                  generalize fl x = fx at *
                  go_wp2
                  obtain ⟨wx, rfl⟩ : ∃ wx : World, wx = wr := ⟨_, rfl⟩
                  go_loopw [23] (fun z wr => ∃ (q : Nat), q ≤ fx.length ∧ z = .int .i64 (q : Int) ∧ Below w2.heap.size w2 wr) (fun z _ => fx.length - (intOf z).toNat)
                  case atStart => exact ⟨0, Nat.zero_le _, rfl, HBB.out⟩
                  case round =>
                    clear HBB
                    obtain ⟨q, hq, rfl, hB⟩ := hrel
                    have HBB : Hid (Below w2.heap.size w2 wr) := hB
                    obtain ⟨ya, yc, cy, ry⟩ := FX2.out wr hB
                    by_cases hql : q < fx.length
                    · have qlt : (q : Int) < (fx.length : Int) := by omega
                      obtain ⟨ob, oo, pa, pc, hoa, co, ro⟩ := (HO.out.later (HB.out wr hB)).at hol
                      obtain ⟨lb, lo, hya, c1⟩ := ry.atB hql
                      have hin : decide (fx.getD q 0 ∈ O.getD x []) = true := decide_eq_true (HIN.out _ (getD_inI hql))
                      generalize fx.getD q 0 = v at *
                      have BR : Hid (Below wr.heap.size wr wr.drew) := (Below.refl _ _).drew
                      have CI : Hid (∀ wq, Below wr.heap.size wr wq → Calls Tryd.prog 24 #[.slice pa (O.getD x []).length pc, .int .i64 v] wq fun e w' => e = .returned (.bool true) ∧ Below wr.heap.size wr w') := fun wq bq => by
                        have := in_B (ro.later bq) hol2 pc v
                        rw [hin] at this
                        exact this.mono fun e w' ⟨q1, q2⟩ => ⟨q1, by rw [q2]; exact bq⟩
                      have C1 : Hid (∀ wq, Below wr.heap.size wr wq → wq.cell? ⟨ob, oo + x, none⟩ = some (.slice pa (O.getD x []).length pc)) := fun wq b => cellL co b
                      have C2 : Hid (∀ wq, Below wr.heap.size wr wq → wq.cell? ⟨b, x, none⟩ = some (.slice ya fx.length yc)) := fun wq b => cellL cy b
                      have C3 : Hid (∀ wq, Below wr.heap.size wr wq → wq.cell? ⟨lb, lo + q, none⟩ = some (.int .i64 v)) := fun wq b => cellL c1 b
                      subst hoa
                      subst hya
                      clear hB ry ro c1 hin co
                      go_wp2
                      refine wp_region_q (C := fun wq => Below wr.heap.size wr wq) (by kernel_rfl) (by kernel_rfl) BR.out ?_
                      iterate 11 (refine qt_yes (v := ?_) (by rfl) ?_ ?_; rotate_left; (· (intro wq hSw; have f0 := C1.out wq hSw; have f1 := C2.out wq hSw; have f2 := C3.out wq hSw; clear hSw; go_simp; with_reducible rfl)); (try simp only [Act.put, List.setIfInBounds_toArray, List.set_cons_zero, List.set_cons_succ]))
                      refine qt_call (v := .bool true) 24 #[.slice pa (O.getD x []).length pc, .int .i64 v] (by rfl) ?_ (fun wq hq => CI.out wq hq) ?_
                      · intro wq hSw
                        clear hSw
                        go_simp
                        try with_reducible rfl
                      (try simp only [Act.put, List.setIfInBounds_toArray, List.set_cons_zero, List.set_cons_succ])
                      iterate 1 (refine qt_yes (v := ?_) (by rfl) ?_ ?_; rotate_left; (· (intro wq hSw; have f0 := C1.out wq hSw; have f1 := C2.out wq hSw; have f2 := C3.out wq hSw; clear hSw; go_simp; with_reducible rfl)); (try simp only [Act.put, List.setIfInBounds_toArray, List.set_cons_zero, List.set_cons_succ]))
                      refine qt_nil ?_
                      intro wq hSw
                      have BQ : Hid (Below w2.heap.size w2 wq) := HBB.out.trans (hSw.mono HBB.out.size)
                      clear hSw BR CI C1 C2 C3 HBB
                      go_wp2
                      go_roundw
                      case rel => exact ⟨q + 1, by omega, by go_num, BQ.out⟩
                      case measure => simp [intOf]; omega
                    · obtain rfl : q = fx.length := by omega
                      have qlt : ¬ (fx.length : Int) < (fx.length : Int) := by omega
                      clear hB ry
                      go_wp2
                      go_roundw
                      case rel => exact ⟨x + 1, by omega, by go_num, HBB.out⟩
                      case measure => simp [intOf]; omega
              · obtain rfl : k = x := by omega
                go_wp2
                go_ret
                exact ⟨rfl, HB.out _ HBB.out⟩
end Go.Proofs.YtcjejnenklppiaaDoor
