import Derived.Test.YtcgghlaifmlpiaaGreatDoorBT19
import Derived.Deep.LoopGhost
namespace Go.Proofs.YtcgghlaifmlpiaaGreatDoor
set_option linter.unusedVariables false
open Go.RowKit Go.Shelf

/-- What the page's ranged says. -/
def rgE (n : Int) (E : List (Int × Int)) : Int := if (decide (0 ≤ n) && decide (n ≤ 4096)) = false then 4 else if E.all (okE n.toNat) = false then 51 else 0
theorem all_takeE {E : List (Int × Int)} {i n : Nat} (h : i < E.length) : (E.take (i + 1)).all (okE n) = ((E.take i).all (okE n) && okE n (E.getD i (0, 0))) := by
  rw [List.take_add_one, List.getElem?_eq_getElem h, List.getD_eq_getElem?_getD, List.getElem?_eq_getElem h, List.all_append]
  simp
theorem not_allE {E : List (Int × Int)} {i n : Nat} (h : i < E.length) (hk : okE n (E.getD i (0, 0)) = false) : E.all (okE n) = false := by
  rw [List.all_eq_false]
  exact ⟨E.getD i (0, 0), by rw [List.getD_eq_getElem?_getD, List.getElem?_eq_getElem h]; exact List.getElem_mem h, by rw [hk]; simp⟩
set_option maxRecDepth 100000 in
set_option maxHeartbeats 8000000 in
theorem ranged_no (n : Int) (w : World) (ea : Option Addr) (el ec : Nat) (hn : n < 0 ∨ 4096 < n) :
    Calls Tryz.prog 34 #[.int .i64 n, .slice ea el ec] w fun e w' => e = .returned (.int .i64 4) ∧ w' = w := by
  rcases hn with hn | hn
  · have h1 : decide (n < 0) = true := decide_eq_true hn
    go_enter Tryz.func34, Tryz.ntmps34
    go_wp2
    go_ret
    exact ⟨rfl, rfl⟩
  · have h1 : decide (n < 0) = false := decide_eq_false (by omega)
    have h2 : decide (n > 4096) = true := decide_eq_true hn
    have h3 : decide (4096 < n) = true := decide_eq_true hn
    go_enter Tryz.func34, Tryz.ntmps34
    go_wp2
    go_ret
    exact ⟨rfl, rfl⟩
set_option maxRecDepth 100000 in
set_option maxHeartbeats 8000000 in
theorem ranged_yes (n : Nat) (hn : n ≤ 4096) (w : World) (ea : Option Addr) (ec : Nat) (E : List (Int × Int)) (hE : PrsB w ea E) (hEl : E.length ≤ 140737488355328) :
    Calls Tryz.prog 34 #[.int .i64 (n : Int), .slice ea E.length ec] w fun e w' => e = .returned (.int .i64 (rgE (n : Int) E)) ∧ w' = w := by
  have HE : Hid (PrsB w ea E) := hE
  have n0 : decide ((n : Int) < 0) = false := decide_eq_false (by omega)
  have n1 : decide (4096 < (n : Int)) = false := decide_eq_false (by omega)
  have HR1 : Hid (E.all (okE n) = false → rgE (n : Int) E = 51) := fun q => by
    unfold rgE
    rw [if_neg (by rw [decide_eq_true (show (0 : Int) ≤ (n : Int) by omega), decide_eq_true (show (n : Int) ≤ 4096 by omega)]; simp), Int.toNat_natCast, if_pos q]
  have HR0 : Hid (E.all (okE n) = true → rgE (n : Int) E = 0) := fun q => by
    unfold rgE
    rw [if_neg (by rw [decide_eq_true (show (0 : Int) ≤ (n : Int) by omega), decide_eq_true (show (n : Int) ≤ 4096 by omega)]; simp), Int.toNat_natCast, if_neg (by rw [q]; simp)]
  clear hE
  go_enter Tryz.func34, Tryz.ntmps34
  go_wp2
  clear n0 n1
  go_loop [5] (fun z => ∃ i : Nat, i ≤ E.length ∧ z = .int .i64 (i : Int) ∧ Hid ((E.take i).all (okE n) = true)) (fun z => E.length - (intOf z).toNat)
  case atStart => exact ⟨0, Nat.zero_le _, rfl, rfl⟩
  case round =>
    obtain ⟨i, hi, rfl, hok⟩ := hrel
    by_cases hlt : i < E.length
    · obtain ⟨b, off, hea, hbl, hc⟩ := HE.out (by intro q; rw [q] at hlt; simp at hlt)
      obtain ⟨c0, c1⟩ := hc i hlt
      have HN : Hid (okE n (E.getD i (0, 0)) = false → E.all (okE n) = false) := not_allE hlt
      have HY : Hid (okE n (E.getD i (0, 0)) = true → (E.take (i + 1)).all (okE n) = true) := fun q => by rw [all_takeE hlt, hok.out, q]; rfl
      clear hc HE hok
      subst hea
      generalize E.getD i (0, 0) = p at *
      obtain ⟨pa, pb⟩ := p
      simp only at c0 c1
      by_cases h1 : pa < 0
      · have d1 : decide (pa < 0) = true := decide_eq_true h1
        have HX : Hid (E.all (okE n) = false) := HN.out (by unfold okE; rw [decide_eq_false (show ¬ (0 : Int) ≤ pa by omega)]; rfl)
        clear HN HY h1
        go_wp2
        go_ret
        exact ⟨by rw [HR1.out HX.out]; rfl, rfl⟩
      · have d1 : decide (pa < 0) = false := decide_eq_false h1
        by_cases h2 : (n : Int) ≤ pa
        · have d2 : decide ((n : Int) ≤ pa) = true := decide_eq_true h2
          have HX : Hid (E.all (okE n) = false) := HN.out (by unfold okE; simp only []; rw [decide_eq_false (show ¬ pa < (n : Int) by omega)]; simp)
          clear HN HY h1 h2
          go_wp2
          go_ret
          exact ⟨by rw [HR1.out HX.out]; rfl, rfl⟩
        · have d2 : decide ((n : Int) ≤ pa) = false := decide_eq_false h2
          by_cases h3 : pb < 0
          · have d3 : decide (pb < 0) = true := decide_eq_true h3
            have HX : Hid (E.all (okE n) = false) := HN.out (by unfold okE; simp only []; rw [decide_eq_false (show ¬ (0 : Int) ≤ pb by omega)]; simp)
            clear HN HY h1 h2 h3
            go_wp2
            go_ret
            exact ⟨by rw [HR1.out HX.out]; rfl, rfl⟩
          · have d3 : decide (pb < 0) = false := decide_eq_false h3
            by_cases h4 : (n : Int) ≤ pb
            · have d4 : decide ((n : Int) ≤ pb) = true := decide_eq_true h4
              have HX : Hid (E.all (okE n) = false) := HN.out (by unfold okE; simp only []; rw [decide_eq_false (show ¬ pb < (n : Int) by omega)]; simp)
              clear HN HY h1 h2 h3 h4
              go_wp2
              go_ret
              exact ⟨by rw [HR1.out HX.out]; rfl, rfl⟩
            · have d4 : decide ((n : Int) ≤ pb) = false := decide_eq_false h4
              have HX : Hid ((E.take (i + 1)).all (okE n) = true) := HY.out (by unfold okE; simp only []; rw [decide_eq_true (show (0 : Int) ≤ pa by omega), decide_eq_true (show pa < (n : Int) by omega), decide_eq_true (show (0 : Int) ≤ pb by omega), decide_eq_true (show pb < (n : Int) by omega)]; rfl)
              clear HN HY h1 h2 h3 h4
              go_wp2
              go_roundw
              case rel => exact ⟨i + 1, by omega, by go_num, HX⟩
              case measure => simp [intOf]; omega
    · have hie : i = E.length := by omega
      have HX : Hid (E.all (okE n) = true) := by
        have := hok.out
        rw [hie, List.take_length] at this
        exact this
      clear hok hie HE
      go_wp2
      go_ret
      exact ⟨by rw [HR0.out HX.out]; rfl, rfl⟩
theorem ranged_any (n : Int) (w : World) (ea : Option Addr) (ec : Nat) (E : List (Int × Int)) (hE : PrsB w ea E) (hEl : E.length ≤ 140737488355328) :
    Calls Tryz.prog 34 #[.int .i64 n, .slice ea E.length ec] w fun e w' => e = .returned (.int .i64 (rgE n E)) ∧ w' = w := by
  by_cases h : 0 ≤ n ∧ n ≤ 4096
  · obtain ⟨k, rfl⟩ : ∃ k : Nat, n = (k : Int) := ⟨n.toNat, by omega⟩
    exact ranged_yes k (by omega) w ea ec E hE hEl
  · have e : rgE n E = 4 := by
      unfold rgE
      rw [if_pos]
      by_cases h0 : 0 ≤ n
      · rw [decide_eq_false (show ¬ n ≤ 4096 by omega)]; simp
      · rw [decide_eq_false h0]; rfl
    rw [e]
    exact ranged_no n w ea E.length ec (by omega)
end Go.Proofs.YtcgghlaifmlpiaaGreatDoor
namespace Go.Proofs.YtcgghlaifmlpiaaGreatDoor
set_option linter.unusedVariables false
open Go.RowKit Go.Shelf

/-- An edge among pairs. -/
def EdE (E : List (Int × Int)) (a b : Nat) : Prop := ((a : Int), (b : Int)) ∈ E
abbrev TrE (E : List (Int × Int)) : Nat → Nat → Prop := Relation.TransGen (EdE E)
/-- The search from x: R what is marked, T what is to be looked at. -/
structure SrR (E : List (Int × Int)) (n x : Nat) (R : List Bool) (T : List Int) : Prop where
  len : R.length = n
  sound : ∀ y, R.getD y false = true → TrE E x y
  todo : ∀ t ∈ T, ∃ y : Nat, t = (y : Int) ∧ y < n ∧ (y = x ∨ R.getD y false = true)
  done : ∀ y, (y = x ∨ R.getD y false = true) → (y : Int) ∈ T ∨ ∀ z, EdE E y z → R.getD z false = true
structure SrI (E : List (Int × Int)) (n x y i : Nat) (R : List Bool) (T : List Int) : Prop where
  len : R.length = n
  sound : ∀ y, R.getD y false = true → TrE E x y
  todo : ∀ t ∈ T, ∃ y : Nat, t = (y : Int) ∧ y < n ∧ (y = x ∨ R.getD y false = true)
  yx : y = x ∨ R.getD y false = true
  done : ∀ u, (u = x ∨ R.getD u false = true) → (u : Int) ∈ T ∨ u = y ∨ ∀ z, EdE E u z → R.getD z false = true
  part : ∀ (j z : Nat), j < i → E[j]? = some ((y : Int), (z : Int)) → R.getD z false = true
theorem getD_setR (R : List Bool) (z u : Nat) (b : Bool) : (R.set z b).getD u false = if z = u ∧ u < R.length then b else R.getD u false := by
  rw [List.getD_eq_getElem?_getD, List.getD_eq_getElem?_getD, List.getElem?_set]
  by_cases h : z = u
  · subst h
    by_cases h2 : z < R.length
    · simp [h2]
    · simp [h2]
  · simp [h]
theorem repl_getR (n u : Nat) : (List.replicate n false).getD u false = false := by
  rw [List.getD_eq_getElem?_getD, List.getElem?_replicate]
  split <;> rfl
theorem SrR.start {E : List (Int × Int)} {n x : Nat} (hx : x < n) : SrR E n x (List.replicate n false) [(x : Int)] := by
  refine ⟨by simp, fun y hy => ?_, fun t ht => ⟨x, by simpa using ht, hx, .inl rfl⟩, fun y hy => .inl ?_⟩
  · rw [repl_getR] at hy; cases hy
  · rw [repl_getR] at hy
    rcases hy with rfl | q
    · simp
    · cases q
theorem SrR.pop {E : List (Int × Int)} {n x : Nat} {R : List Bool} {T : List Int} {t : Int} (h : SrR E n x R (T ++ [t])) : ∃ y : Nat, t = (y : Int) ∧ y < n ∧ SrI E n x y 0 R T := by
  obtain ⟨y, rfl, hy, hx⟩ := h.todo t (by simp)
  refine ⟨y, rfl, hy, h.len, h.sound, fun t ht => h.todo t (by simp [ht]), hx, fun u hu => ?_, fun j z hj => absurd hj (Nat.not_lt_zero j)⟩
  rcases h.done u hu with q | q
  · rcases List.mem_append.1 q with q | q
    · exact .inl q
    · have : (u : Int) = (y : Int) := by simpa using q
      exact .inr (.inl (by omega))
  · exact .inr (.inr q)
theorem SrI.fin {E : List (Int × Int)} {n x y : Nat} {R : List Bool} {T : List Int} (h : SrI E n x y E.length R T) : SrR E n x R T := by
  refine ⟨h.len, h.sound, h.todo, fun u hu => ?_⟩
  rcases h.done u hu with q | q | q
  · exact .inl q
  · subst q
    refine .inr fun z hz => ?_
    obtain ⟨j, hj⟩ := List.getElem?_of_mem hz
    exact h.part j z (List.getElem?_eq_some_iff.1 hj).1 hj
  · exact .inr q
theorem SrI.skip {E : List (Int × Int)} {n x y i : Nat} {R : List Bool} {T : List Int} {p : Int × Int} (h : SrI E n x y i R T) (hp : E[i]? = some p) (hk : p.1 ≠ (y : Int) ∨ R.getD p.2.toNat false = true) : SrI E n x y (i + 1) R T := by
  refine ⟨h.len, h.sound, h.todo, h.yx, h.done, fun j z hj he => ?_⟩
  by_cases e : j = i
  · subst e
    rw [hp] at he
    have := Option.some.inj he
    subst this
    rcases hk with q | q
    · exact absurd rfl q
    · simpa using q
  · exact h.part j z (by omega) he
theorem SrI.push {E : List (Int × Int)} {n x y i z : Nat} {R : List Bool} {T : List Int} (h : SrI E n x y i R T) (hp : E[i]? = some ((y : Int), (z : Int))) (hz : z < n) : SrI E n x y (i + 1) (R.set z true) (T ++ [(z : Int)]) := by
  have hl := h.len
  have up : ∀ u, R.getD u false = true → (R.set z true).getD u false = true := fun u hu => by
    rw [getD_setR]
    split
    · rfl
    · exact hu
  have hzz : (R.set z true).getD z false = true := by rw [getD_setR, if_pos ⟨rfl, by omega⟩]
  have hed : EdE E y z := List.mem_of_getElem? hp
  have hxz : TrE E x z := by
    rcases h.yx with e | e
    · subst e; exact .single hed
    · exact (h.sound y e).tail hed
  have back : ∀ u, (R.set z true).getD u false = true → u = z ∨ R.getD u false = true := fun u hu => by
    rw [getD_setR] at hu
    by_cases e : z = u ∧ u < R.length
    · exact .inl e.1.symm
    · rw [if_neg e] at hu; exact .inr hu
  refine ⟨by rw [List.length_set]; exact hl, fun u hu => ?_, fun t ht => ?_, h.yx.imp id (up y), fun u hu => ?_, fun j v hj he => ?_⟩
  · rcases back u hu with e | e
    · subst e; exact hxz
    · exact h.sound u e
  · rcases List.mem_append.1 ht with q | q
    · obtain ⟨u, e, hu, hx⟩ := h.todo t q
      exact ⟨u, e, hu, hx.imp id (up u)⟩
    · exact ⟨z, by simpa using q, hz, .inr hzz⟩
  · have hu2 : u = z ∨ (u = x ∨ R.getD u false = true) := by
      rcases hu with e | e
      · exact .inr (.inl e)
      · rcases back u e with q | q
        · exact .inl q
        · exact .inr (.inr q)
    rcases hu2 with rfl | hu2
    · exact .inl (by simp)
    · rcases h.done u hu2 with q | q | q
      · exact .inl (by simp [q])
      · exact .inr (.inl q)
      · exact .inr (.inr fun v hv => up v (q v hv))
  · by_cases e : j = i
    · subst e
      rw [hp] at he
      simp only [Option.some.injEq, Prod.mk.injEq, true_and] at he
      have : v = z := by omega
      subst this
      exact hzz
    · exact up v (h.part j v (by omega) he)
theorem SrR.all {E : List (Int × Int)} {n x : Nat} {R : List Bool} (h : SrR E n x R []) (y : Nat) : R.getD y false = true ↔ TrE E x y := by
  refine ⟨h.sound y, fun ht => ?_⟩
  induction ht with
  | single e =>
    rcases h.done x (.inl rfl) with q | q
    · cases q
    · exact q _ e
  | tail _ e ih =>
    rcases h.done _ (.inr ih) with q | q
    · cases q
    · exact q _ e
theorem count_setR {R : List Bool} {z : Nat} (hz : z < R.length) (h : R.getD z false = false) : (R.set z true).count false + 1 = R.count false := by
  have e : R[z] = false := by
    rw [List.getD_eq_getElem?_getD, List.getElem?_eq_getElem hz] at h
    exact h
  rw [List.count_set hz, e]
  have : 0 < R.count false := List.count_pos_iff.2 (e ▸ List.getElem_mem hz)
  simp
  omega
theorem count_repl (n : Nat) : (List.replicate n false).count false = n := by simp
end Go.Proofs.YtcgghlaifmlpiaaGreatDoor
namespace Go.Proofs.YtcgghlaifmlpiaaGreatDoor
set_option linter.unusedVariables false
open Go.RowKit Go.Shelf

theorem infoBoR : ∃ i, Tryz.prog.info? 4 = some i ∧ i.zero = some (.bool false) ∧ i.size = 1 ∧ i.bytes = 1 := by
  have h : (Tryz.prog.info? 4).map (fun i => (i.zero, i.size, i.bytes)) = some (some (.bool false), 1, 1) := by kernel_rfl
  cases e : Tryz.prog.info? 4 with
  | none => rw [e] at h; cases h
  | some i => rw [e] at h; simp at h; exact ⟨i, rfl, h⟩
theorem infoBlR : ∃ i, Tryz.prog.info? 91 = some i ∧ i.zero = some (.slice none 0 0) ∧ i.size = 1 ∧ i.bytes = 24 := by
  have h : (Tryz.prog.info? 91).map (fun i => (i.zero, i.size, i.bytes)) = some (some (.slice none 0 0), 1, 24) := by kernel_rfl
  cases e : Tryz.prog.info? 91 with
  | none => rw [e] at h; cases h
  | some i => rw [e] at h; simp at h; exact ⟨i, rfl, h⟩
theorem make_boR (n : Nat) (hn : n ≤ 1048576) (w : World) : (Instr.makeSlice 91 (.int .i64 (n : Int)) (.int .i64 (n : Int))).run Tryz.prog w = .ok (.slice (some ⟨w.heap.size, 0, none⟩) n n) (w.alloc (.cells (madeCells #[.bool false] n) 4)) := by
  obtain ⟨i0, hi, hz0, hz1, hz2⟩ := infoBoR
  have := run_makeSlice w 91 4 i0 (.bool false) Tryz.underlying91 hi hz0 .i64 .i64 (n : Int) (n : Int) (by omega) (by omega) (by rw [hz1]; simp; omega) (by rw [hz2]; omega) (by omega)
  rw [hz1] at this
  simpa [Value.cells] using this
theorem make_blR (n : Nat) (hn : n ≤ 1048576) (w : World) : (Instr.makeSlice 26 (.int .i64 (n : Int)) (.int .i64 (n : Int))).run Tryz.prog w = .ok (.slice (some ⟨w.heap.size, 0, none⟩) n n) (w.alloc (.cells (madeCells #[.slice none 0 0] n) 91)) := by
  obtain ⟨i0, hi, hz0, hz1, hz2⟩ := infoBlR
  have := run_makeSlice w 26 91 i0 (.slice none 0 0) Tryz.underlying26 hi hz0 .i64 .i64 (n : Int) (n : Int) (by omega) (by omega) (by rw [hz1]; simp; omega) (by rw [hz2]; omega) (by omega)
  rw [hz1] at this
  simpa [Value.cells] using this
theorem made_listR (n : Nat) (v : Value) : madeCells #[v] n = (List.replicate n v).toArray := made_listB v n
def inCR (x : Int) : List Value := [.int .i64 x]
theorem infoInR : ∃ i, Tryz.prog.info? 3 = some i ∧ i.zero = some (.int .i64 0) ∧ i.size = 1 ∧ i.bytes = 8 := by
  have h : (Tryz.prog.info? 3).map (fun i => (i.zero, i.size, i.bytes)) = some (some (.int .i64 0), 1, 8) := by kernel_rfl
  cases e : Tryz.prog.info? 3 with
  | none => rw [e] at h; cases h
  | some i => rw [e] at h; simp at h; exact ⟨i, rfl, h⟩
theorem rkIntR : RK 3 46 1 inCR := by
  refine ⟨Tryz.underlying46, ?_, by decide, fun _ => rfl, fun x u hu => ?_⟩
  · obtain ⟨i, h1, h2, h3, h4⟩ := infoInR
    exact ⟨i, _, h1, h2, h3, by rw [h4]; decide, rfl⟩
  · simp [inCR] at hu
    subst hu
    rfl
abbrev IRo := RO 3 1 inCR
theorem RO.neR {α : Type} {τ : TypeId} {k : Nat} {f : α → List Value} {w : World} {v : Value} {l : List α} (h : RO τ k f w v l) {b : Nat} {C : Array Value} {t : TypeId} (hb : w.heap[b]? = some (.cells C t (0, 0))) (ht : t ≠ τ) : some b ≠ v.ownBlock := by
  intro e
  rcases h.2 with ⟨rfl, _⟩ | ⟨g, cap, cur, rfl, _, hg, _⟩
  · simp [Value.ownBlock] at e
  · simp [Value.ownBlock] at e
    subst e
    rw [hb] at hg; simp at hg; exact ht hg.2
theorem IRo.il {w : World} {v : Value} {l : List Int} (h : IRo w v l) : IL w v l := by
  unfold IL
  have e : l.map (fun x => Value.int .i64 x) = l.flatMap inCR := by
    rw [List.map_eq_flatMap]
    rfl
  rw [e]
  exact h
/-- The page's matrix under way: its first x rows. -/
structure MxR (B n x : Nat) (w : World) (ks : List Nat) (Rs : List (List Bool)) (wr : World) : Prop where
  row : wr.heap[B]? = some (.cells ((ks.map fun k => Value.slice (some ⟨k, 0, none⟩) n n) ++ List.replicate (n - x) (Value.slice none 0 0)).toArray 91)
  kl : ks.length = x
  rl : Rs.length = x
  xn : x ≤ n
  nd : ks.Nodup
  blk : ∀ (j k : Nat) (R : List Bool), ks[j]? = some k → Rs[j]? = some R → B ≤ k ∧ R.length = n ∧ wr.heap[k]? = some (.cells (R.map Value.bool).toArray 4)
  bel : Below B w wr
section
variable {B n x : Nat} {w wr w' : World} {ks : List Nat} {Rs : List (List Bool)}
theorem MxR.any (h : MxR B n x w ks Rs wr) (hb : Below wr.heap.size wr w') : MxR B n x w ks Rs w' :=
  ⟨(hb.block _ (lt_of_block h.row)).trans h.row, h.kl, h.rl, h.xn, h.nd, fun j k R hk hR => by
    obtain ⟨h1, h2, h3⟩ := h.blk j k R hk hR
    exact ⟨h1, h2, (hb.block _ (lt_of_block h3)).trans h3⟩, h.bel.trans (hb.mono (by have := lt_of_block h.row; omega))⟩
/-- A list of numbers beside it grows. -/
theorem MxR.grew {v v' : Value} {l : List Int} (h : MxR B n x w ks Rs wr) (hv : IRo wr v l) (ho : ∀ j, v.ownBlock = some j → B ≤ j) (g : Grew wr w' v v') : MxR B n x w ks Rs w' :=
  ⟨(g.grown.block _ (lt_of_block h.row) (hv.neR h.row (by decide))).trans h.row, h.kl, h.rl, h.xn, h.nd, fun j k R hk hR => by
    obtain ⟨h1, h2, h3⟩ := h.blk j k R hk hR
    exact ⟨h1, h2, (g.grown.block _ (lt_of_block h3) (hv.neR h3 (by decide))).trans h3⟩, h.bel.grown g.grown (by have := lt_of_block h.row; omega) ho⟩
theorem MxR.at (h : MxR B n x w ks Rs wr) {j : Nat} (hj : j < x) : ∃ k R, ks[j]? = some k ∧ Rs[j]? = some R ∧ R = Rs.getD j [] ∧ R.length = n ∧ wr.cell? ⟨B, j, none⟩ = some (.slice (some ⟨k, 0, none⟩) n n) ∧ wr.heap[k]? = some (.cells (R.map Value.bool).toArray 4) := by
  have hk : ks[j]? = some (ks[j]'(by rw [h.kl]; exact hj)) := List.getElem?_eq_getElem _
  have hR : Rs[j]? = some (Rs[j]'(by rw [h.rl]; exact hj)) := List.getElem?_eq_getElem _
  obtain ⟨h1, h2, h3⟩ := h.blk j _ _ hk hR
  refine ⟨_, _, hk, hR, by simp [List.getD, hR], h2, ?_, h3⟩
  rw [cellq_any h.row]
  simp only [List.getElem?_toArray]
  rw [List.getElem?_append_left (by simp [h.kl]; exact hj), List.getElem?_map, hk]
  rfl
theorem boR_cell {k : Nat} {R : List Bool} (h : wr.heap[k]? = some (.cells (R.map Value.bool).toArray 4)) {y : Nat} (hy : y < R.length) : wr.cell? ⟨k, y, none⟩ = some (.bool (R.getD y false)) ∧ wr.frozen? ⟨k, y, none⟩ = false := by
  refine ⟨?_, by simp [World.frozen?, h]⟩
  rw [cellq_any h]
  simp [List.getD, hy]
/-- A truth is put into row j. -/
theorem MxR.put (h : MxR B n x w ks Rs wr) {j k z : Nat} {R : List Bool} (hk : ks[j]? = some k) (hR : Rs[j]? = some R) (b : Bool) : MxR B n x w ks (Rs.set j (R.set z b)) (wr.setCell ⟨k, z, none⟩ (.bool b)) := by
  obtain ⟨h1, h2, h3⟩ := h.blk j k R hk hR
  have hne : B ≠ k := fun e => by
    subst e
    rw [h.row] at h3
    simp only [Option.some.injEq, Obj.cells.injEq] at h3
    exact absurd h3.2.1 (by decide)
  have hf := frB_setCell wr k z (Value.bool b)
  refine ⟨(hf.block _ (lt_of_block h.row) hne).trans h.row, h.kl, by rw [List.length_set]; exact h.rl, h.xn, h.nd, fun j' k' R' hk' hR' => ?_, h.bel.setCell h1 _⟩
  have hjl : j < Rs.length := (List.getElem?_eq_some_iff.1 hR).1
  by_cases e : j = j'
  · subst e
    rw [hk] at hk'
    obtain rfl := Option.some.inj hk'
    rw [List.getElem?_set_self hjl] at hR'
    obtain rfl := Option.some.inj hR'
    refine ⟨h1, by rw [List.length_set]; exact h2, ?_⟩
    rw [heap_set h3, List.setIfInBounds_toArray, List.map_set]
  · rw [List.getElem?_set_ne e] at hR'
    obtain ⟨q1, q2, q3⟩ := h.blk j' k' R' hk' hR'
    have hkk : k' ≠ k := fun ek => by
      subst ek
      have a1 := (List.getElem?_eq_some_iff.1 hk)
      have a2 := (List.getElem?_eq_some_iff.1 hk')
      have nd := List.pairwise_iff_getElem.1 h.nd
      rcases Nat.lt_or_gt_of_ne e with q | q
      · exact nd j j' a1.1 a2.1 q (a1.2.trans a2.2.symm)
      · exact nd j' j a2.1 a1.1 q (a2.2.trans a1.2.symm)
    exact ⟨q1, q2, (hf.block _ (lt_of_block q3) hkk).trans q3⟩
/-- A new row. -/
theorem MxR.more (h : MxR B n x w ks Rs wr) (hx : x < n) : MxR B n (x + 1) w (ks ++ [wr.heap.size]) (Rs ++ [List.replicate n false]) ((wr.alloc (.cells (madeCells #[.bool false] n) 4)).setCell ⟨B, x, none⟩ (.slice (some ⟨wr.heap.size, 0, none⟩) n n)) := by
  have hB := lt_of_block h.row
  have ha := h.any (below_alloc wr (.cells (madeCells #[.bool false] n) 4))
  have hn := heap_alloc_new wr (.cells (madeCells #[.bool false] n) 4)
  have hf := frB_setCell (wr.alloc (.cells (madeCells #[.bool false] n) 4)) B x (.slice (some ⟨wr.heap.size, 0, none⟩) n n)
  refine ⟨?_, by simp [h.kl], by simp [h.rl], hx, ?_, fun j k R hk hR => ?_, ha.bel.setCell (Nat.le_refl _) _⟩
  · rw [heap_set ha.row, List.setIfInBounds_toArray]
    congr 3
    have hl : (ks.map fun k => Value.slice (some ⟨k, 0, none⟩) n n).length = x := by rw [List.length_map, h.kl]
    rw [List.set_append_right _ _ (by omega), hl, Nat.sub_self, List.map_append, List.append_assoc]
    congr 1
    rw [show n - x = (n - (x + 1)) + 1 by omega, List.replicate_succ]
    rfl
  · rw [List.nodup_append]
    refine ⟨h.nd, by simp, fun a ha b hb e => ?_⟩
    have e2 : a = wr.heap.size := by simp at hb; omega
    obtain ⟨j, hj⟩ := List.getElem?_of_mem ha
    have hjx : j < Rs.length := by rw [h.rl, ← h.kl]; exact (List.getElem?_eq_some_iff.1 hj).1
    have := lt_of_block (h.blk j a _ hj (List.getElem?_eq_getElem hjx)).2.2
    omega
  · rcases Nat.lt_or_ge j x with q | q
    · rw [List.getElem?_append_left (by rw [h.kl]; exact q)] at hk
      rw [List.getElem?_append_left (by rw [h.rl]; exact q)] at hR
      obtain ⟨q1, q2, q3⟩ := ha.blk j k R hk hR
      have hne : k ≠ B := fun e => by
        subst e
        rw [ha.row] at q3
        simp only [Option.some.injEq, Obj.cells.injEq] at q3
        exact absurd q3.2.1 (by decide)
      exact ⟨q1, q2, (hf.block _ (lt_of_block q3) hne).trans q3⟩
    · rw [List.getElem?_append_right (by rw [h.kl]; exact q)] at hk
      rw [List.getElem?_append_right (by rw [h.rl]; exact q)] at hR
      have h0 : j - ks.length = 0 := by have := (List.getElem?_eq_some_iff.1 hk).1; simp at this; omega
      rw [h0] at hk
      rw [show j - Rs.length = 0 by have := h.kl; have := h.rl; omega] at hR
      simp at hk hR
      subst hk hR
      refine ⟨by omega, by simp, ?_⟩
      rw [hf.block _ (lt_of_block hn) (by show wr.heap.size ≠ B; omega), hn, made_listR]
      simp
theorem MxR.old (h : MxR B n x w ks Rs wr) (hx : x < n) (o : Obj) : (wr.alloc o).cell? ⟨B, x, none⟩ = some (.slice none 0 0) ∧ (wr.alloc o).frozen? ⟨B, x, none⟩ = false := by
  have r := (h.any (below_alloc wr o)).row
  refine ⟨?_, by simp [World.frozen?, r]⟩
  rw [cellq_any r]
  have hl : (ks.map fun k => Value.slice (some ⟨k, 0, none⟩) n n).length = x := by rw [List.length_map, h.kl]
  simp only [List.getElem?_toArray]
  rw [List.getElem?_append_right (by omega), hl, List.getElem?_replicate, if_pos (by omega)]
end
/-- The whole matrix: who reaches whom. -/
structure RxR (E : List (Int × Int)) (n : Nat) (Rs : List (List Bool)) : Prop where
  len : Rs.length = n
  row : ∀ x, x < n → (Rs.getD x []).length = n
  bit : ∀ x y, x < n → ((Rs.getD x []).getD y false = true ↔ TrE E x y)
end Go.Proofs.YtcgghlaifmlpiaaGreatDoor
namespace Go.Proofs.YtcgghlaifmlpiaaGreatDoor
set_option linter.unusedVariables false
open Go.RowKit Go.Shelf

/-- The search under way: the matrix, its last row, and what is to be looked at. -/
structure SeW (w : World) (n x : Nat) (ks : List Nat) (Rs : List (List Bool)) (R : List Bool) (T : List Int) (v : Value) (wr : World) : Prop where
  mx : MxR w.heap.size n (x + 1) w ks (Rs ++ [R]) wr
  t : IRo wr v T
  own : ∀ j, v.ownBlock = some j → w.heap.size ≤ j
theorem SeW.rl {w wr : World} {n x : Nat} {ks : List Nat} {Rs : List (List Bool)} {R : List Bool} {T : List Int} {v : Value} (h : SeW w n x ks Rs R T v wr) : Rs.length = x := by
  have := h.mx.rl
  simp at this
  exact this
theorem SeW.look {w wr : World} {n x : Nat} {ks : List Nat} {Rs : List (List Bool)} {R : List Bool} {T : List Int} {v : Value} (h : SeW w n x ks Rs R T v wr) : ∃ k, ks[x]? = some k ∧ R.length = n ∧ wr.cell? ⟨w.heap.size, x, none⟩ = some (.slice (some ⟨k, 0, none⟩) n n) ∧ ∀ y, y < n → wr.cell? ⟨k, y, none⟩ = some (.bool (R.getD y false)) ∧ wr.frozen? ⟨k, y, none⟩ = false := by
  obtain ⟨k, R', hk, hR, _, h2, hc, hb⟩ := h.mx.at (j := x) (Nat.lt_succ_self x)
  have e : (Rs ++ [R])[x]? = some R := by rw [List.getElem?_append_right (by rw [h.rl]; exact Nat.le_refl _), h.rl]; simp
  rw [e] at hR
  obtain rfl := Option.some.inj hR
  exact ⟨k, hk, h2, hc, fun y hy => boR_cell hb (by omega)⟩
theorem SeW.pop {w wr : World} {n x : Nat} {ks : List Nat} {Rs : List (List Bool)} {R : List Bool} {T : List Int} {t : Int} {v : Value} (h : SeW w n x ks Rs R (T ++ [t]) v wr) : ∃ b c, v = .slice (some ⟨b, 0, none⟩) (T.length + 1) c ∧ T.length + 1 ≤ c ∧ wr.cell? ⟨b, T.length, none⟩ = some (.int .i64 t) ∧ SeW w n x ks Rs R T (.slice (some ⟨b, 0, none⟩) T.length c) wr := by
  obtain ⟨b, c, rfl, hc, h1, h2⟩ := RO.pop (f := inCR) (fun _ => rfl) h.t
  refine ⟨b, c, rfl, hc, ?_, h.mx, h2, fun j hj => h.own j hj⟩
  have := h1 0 (by decide)
  simpa [inCR] using this
theorem SeW.put {w wr : World} {n x k z : Nat} {ks : List Nat} {Rs : List (List Bool)} {R : List Bool} {T : List Int} {v : Value} (h : SeW w n x ks Rs R T v wr) (hk : ks[x]? = some k) : SeW w n x ks Rs (R.set z true) T v (wr.setCell ⟨k, z, none⟩ (.bool true)) := by
  have e : (Rs ++ [R])[x]? = some R := by rw [List.getElem?_append_right (by rw [h.rl]; exact Nat.le_refl _), h.rl]; simp
  have hm := h.mx.put (z := z) hk e true
  have e2 : (Rs ++ [R]).set x (R.set z true) = Rs ++ [R.set z true] := by
    rw [List.set_append_right _ _ (by rw [h.rl]; exact Nat.le_refl _), h.rl, Nat.sub_self]
    rfl
  rw [e2] at hm
  have hb := (h.mx.blk x k R hk e).2.2
  exact ⟨hm, h.t.kept (fun j hj => (frB_setCell wr k z (Value.bool true)).block j (h.t.lt j hj) (fun q => h.t.neR hb (by decide) (by have q2 : j = k := q; rw [← q2]; exact hj.symm))), h.own⟩
theorem SeW.grew {w wr w' : World} {n x : Nat} {ks : List Nat} {Rs : List (List Bool)} {R : List Bool} {T T' : List Int} {v v' : Value} (h : SeW w n x ks Rs R T v wr) (ht : IRo w' v' T') (g : Grew wr w' v v') : SeW w n x ks Rs R T' v' w' :=
  ⟨h.mx.grew h.t h.own g, ht, Grew.own g (by have := lt_of_block h.mx.row; omega) h.own⟩
theorem SeW.any {w wr w' : World} {n x : Nat} {ks : List Nat} {Rs : List (List Bool)} {R : List Bool} {T : List Int} {v : Value} (h : SeW w n x ks Rs R T v wr) (hb : Below wr.heap.size wr w') : SeW w n x ks Rs R T v w' := ⟨h.mx.any hb, h.t.later hb, h.own⟩
theorem inR_cell (w : World) (x : Int) (t : TypeId) : ∀ (j : Nat) (u : Value), (inCR x)[j]? = some u → (w.alloc (.cells #[.int .i64 x] t)).cell? ⟨w.heap.size, j, none⟩ = some u := fun j u hu => by
  rw [cellq_any (heap_alloc_new w _)]
  match j, hu with
  | 0, hu => simpa [inCR] using hu
  | j + 1, hu => simp [inCR] at hu
/-- The rows so far tell who reaches whom. -/
def RsR (E : List (Int × Int)) (n : Nat) (Rs : List (List Bool)) : Prop := ∀ (x : Nat) (R : List Bool), Rs[x]? = some R → ∀ y, R.getD y false = true ↔ TrE E x y
theorem RsR.snoc {E : List (Int × Int)} {n x : Nat} {Rs : List (List Bool)} {R : List Bool} (h : RsR E n Rs) (hl : Rs.length = x) (hR : ∀ y, R.getD y false = true ↔ TrE E x y) : RsR E n (Rs ++ [R]) := fun j R' hj => by
  rcases Nat.lt_or_ge j Rs.length with q | q
  · rw [List.getElem?_append_left q] at hj
    exact h j R' hj
  · rw [List.getElem?_append_right q] at hj
    have h0 : j - Rs.length = 0 := by have := (List.getElem?_eq_some_iff.1 hj).1; simp at this; omega
    rw [h0] at hj
    simp at hj
    subst hj
    obtain rfl : j = x := by omega
    exact hR
theorem MxR.fin {B n : Nat} {w wr : World} {ks : List Nat} {Rs : List (List Bool)} {E : List (Int × Int)} (h : MxR B n n w ks Rs wr) (hr : RsR E n Rs) : RxR E n Rs :=
  ⟨h.rl, fun x hx => by
    obtain ⟨k, R, _, _, e, hl, _⟩ := h.at hx
    rw [← e]; exact hl, fun x y hx => by
    obtain ⟨k, R, _, hR, e, _⟩ := h.at hx
    rw [← e]
    exact hr x R hR y⟩
set_option maxRecDepth 100000 in
set_option maxHeartbeats 8000000 in
theorem reach_R {w : World} {n : Nat} (hn : n ≤ 4096) (ea : Option Addr) (ec : Nat) (E : List (Int × Int)) (hE : PrsB w ea E) (hEl : E.length ≤ 140737488355328) (hok : E.all (okE n) = true) :
    Calls Tryz.prog 35 #[.int .i64 (n : Int), .slice ea E.length ec] w fun e w' => e = .returned (.slice (some ⟨w.heap.size, 0, none⟩) n n) ∧ ∃ ks Rs, MxR w.heap.size n n w ks Rs w' ∧ RxR E n Rs := by
  have HE : Hid (PrsB w ea E) := hE
  have HOK : Hid (∀ p ∈ E, okE n p = true) := fun p hp => List.all_eq_true.1 hok p hp
  have hmk := make_blR n (by omega) w
  have M0 : Hid (MxR w.heap.size n 0 w [] [] (w.alloc (.cells (madeCells #[.slice none 0 0] n) 91))) := ⟨by rw [heap_alloc_new, made_listR]; rfl, rfl, rfl, Nat.zero_le _, List.nodup_nil, fun j k R hk => by simp at hk, below_alloc w _⟩
  clear hE hok
  go_enter Tryz.func35, Tryz.ntmps35
  go_wp2
  clear hmk
  go_loopw [6] (fun z wr => ∃ (x : Nat) (ks : List Nat) (Rs : List (List Bool)), x ≤ n ∧ z = .int .i64 (x : Int) ∧ MxR w.heap.size n x w ks Rs wr ∧ RsR E n Rs) (fun z _ => n - (intOf z).toNat)
  case atStart => exact ⟨0, [], [], Nat.zero_le _, rfl, M0.out, fun j R hj => by simp at hj⟩
  case round =>
    clear M0
    obtain ⟨x, ks, Rs, hx, rfl, hM, hRs⟩ := hrel
    by_cases hlt : x < n
    · have xlt : (x : Int) < (n : Int) := by omega
      have hmk := make_boR n (by omega) wr
      obtain ⟨co, fo⟩ := hM.old hlt (.cells (madeCells #[.bool false] n) 4)
      have hM1 := hM.more hlt
      have HRS : Hid (RsR E n Rs ∧ Rs.length = x) := ⟨hRs, hM.rl⟩
      have HM1 : Hid (MxR w.heap.size n (x + 1) w (ks ++ [wr.heap.size]) (Rs ++ [List.replicate n false]) ((wr.alloc (.cells (madeCells #[.bool false] n) 4)).setCell ⟨w.heap.size, x, none⟩ (.slice (some ⟨wr.heap.size, 0, none⟩) n n))) := hM1
      clear hM hM1 hRs
      have HC : Hid (∀ (j : Nat) (u : Value), (inCR (x : Int))[j]? = some u → (((wr.alloc (.cells (madeCells #[.bool false] n) 4)).setCell ⟨w.heap.size, x, none⟩ (.slice (some ⟨wr.heap.size, 0, none⟩) n n)).alloc (.cells #[.int .i64 (x : Int)] 3)).cell? ⟨wr.heap.size + 1, j, none⟩ = some u) := fun j u hu => by
        have := inR_cell ((wr.alloc (.cells (madeCells #[.bool false] n) 4)).setCell ⟨w.heap.size, x, none⟩ (.slice (some ⟨wr.heap.size, 0, none⟩) n n)) (x : Int) 3 j u hu
        rw [show ((wr.alloc (.cells (madeCells #[.bool false] n) 4)).setCell ⟨w.heap.size, x, none⟩ (.slice (some ⟨wr.heap.size, 0, none⟩) n n)).heap.size = wr.heap.size + 1 by simp] at this
        exact this
      go_wp2_with (at_builtin; refine wpList_ro_append rkIntR rfl _ _ rfl (.slice none 0 0) [] rfl (RO.nil _) (wr.heap.size + 1) 1 (x : Int) rfl HC.out (by decide) ?_)
      intro a1 n1 c1 w1 t1 g1
      have S1 : Hid (SeW w n x (ks ++ [wr.heap.size]) Rs (List.replicate n false) [(x : Int)] (.slice a1 n1 c1) w1) := SeW.grew (v := .slice none 0 0) (T := []) ⟨HM1.out.any (below_alloc _ _), RO.nil _, fun j hj => by simp [Value.ownBlock] at hj⟩ t1 g1
      clear HM1 HC hmk co fo t1 g1
      generalize ks ++ [wr.heap.size] = ks1 at *
      obtain ⟨wz, rfl⟩ : ∃ wz : World, wz = wr := ⟨_, rfl⟩
      have P1 : Hid (SrR E n x (List.replicate n false) [(x : Int)] ∧ 2 * (List.replicate n false).count false + 1 ≤ 2 * n + 1) := ⟨SrR.start hlt, Nat.le_of_eq (by rw [count_repl])⟩
      have HLT : Hid (x < n) := hlt
      clear hlt xlt
      go_wp2
      go_loopg [7] (2 * n + 1) (fun gk v wr => ∃ (R : List Bool) (T : List Int), SeW w n x ks1 Rs R T v wr ∧ SrR E n x R T ∧ 2 * R.count false + T.length ≤ gk ∧ gk ≤ 2 * n + 1)
      case atStart => exact ⟨_, _, S1.out, P1.out.1, P1.out.2, Nat.le_refl _⟩
      case round =>
        clear S1 P1
        obtain ⟨R, T, hS, hP, hg, hgn⟩ := hrel
        rcases List.eq_nil_or_concat T with rfl | ⟨T', t, rfl⟩
        · obtain ⟨va, vc, rfl, _⟩ := hS.t.len
          have HN : Hid (MxR w.heap.size n (x + 1) w ks1 (Rs ++ [R]) wr ∧ RsR E n (Rs ++ [R])) := ⟨hS.mx, HRS.out.1.snoc HRS.out.2 hP.all⟩
          clear hS hP
          simp only [List.length_nil]
          go_wp2
          go_roundw
          case rel => exact ⟨x + 1, ks1, _, by have := HLT.out; omega, by go_num, HN.out.1, HN.out.2⟩
          case measure => have := HLT.out; simp [intOf]; omega
        · rw [List.concat_eq_append] at hS hP hg
          obtain ⟨b, c, rfl, hc, ct, hS2⟩ := hS.pop
          obtain ⟨y, rfl, hy, hI⟩ := hP.pop
          have HS : Hid (SeW w n x ks1 Rs R T' (.slice (some ⟨b, 0, none⟩) T'.length c) wr ∧ SrI E n x y 0 R T' ∧ 2 * R.count false + T'.length + 1 ≤ gk) := ⟨hS2, hI, by simpa [Nat.add_assoc] using hg⟩
          have tl : T'.length ≤ 100000 := by simp at hg; omega
          clear hS hP hg hS2 hI
          generalize htn : T'.length = tn at *
          have w1e : IntKind.i64.wrap (((tn : Int) + 1) - 1) = (tn : Int) := by rw [IntKind.wrap_i64]; omega
          have HTN : Hid (T'.length = tn) := htn
          clear htn
          obtain ⟨wy, rfl⟩ : ∃ wy : World, wy = wr := ⟨_, rfl⟩
          go_wp2
          go_loopw [7, 9] (fun v z wr => ∃ (i : Nat) (R : List Bool) (T : List Int), i ≤ E.length ∧ z = .int .i64 (i : Int) ∧ SeW w n x ks1 Rs R T v wr ∧ SrI E n x y i R T ∧ 2 * R.count false + T.length + 1 ≤ gk) (fun _ z _ => E.length - (intOf z).toNat)
          case atStart => exact ⟨0, R, T', Nat.zero_le _, rfl, HS.out.1, HS.out.2.1, by rw [HTN.out]; exact HS.out.2.2⟩
          case round =>
            clear HS HTN ct hc w1e
            obtain ⟨i, R, T, hi, rfl, hS, hI, hg⟩ := hrel
            have hbel := hS.mx.bel
            by_cases hlt : i < E.length
            · have ilt : (i : Int) < (E.length : Int) := by omega
              obtain ⟨eb, eo, hea, hbl, hce⟩ := HE.out (by intro q; rw [q] at hlt; simp at hlt)
              obtain ⟨cw0, cw1⟩ := hce i hlt
              have hEi : E[i]? = some (E.getD i (0, 0)) := by rw [List.getD_eq_getElem?_getD, List.getElem?_eq_getElem hlt]; rfl
              have hoe := HOK.out _ (List.mem_of_getElem? hEi)
              generalize E.getD i (0, 0) = p at *
              obtain ⟨pa, pb⟩ := p
              unfold okE at hoe
              simp only [Bool.and_eq_true, decide_eq_true_iff] at hoe
              obtain ⟨a, rfl⟩ : ∃ a : Nat, pa = (a : Int) := ⟨pa.toNat, by omega⟩
              obtain ⟨z, rfl⟩ : ∃ z : Nat, pb = (z : Int) := ⟨pb.toNat, by omega⟩
              have hzn : z < n := by omega
              simp only at cw0 cw1
              have c0 := (hbel.cell (p := ⟨eb, eo + i * 2, none⟩) hbl).trans cw0
              have c1 := (hbel.cell (p := ⟨eb, eo + i * 2 + 1, none⟩) hbl).trans cw1
              have HC1 : Hid (w.cell? ⟨eb, eo + i * 2 + 1, none⟩ = some (.int .i64 (z : Int)) ∧ eb < w.heap.size) := ⟨cw1, hbl⟩
              subst hea
              clear hce hbel hoe cw0 cw1 hbl
              obtain ⟨k, hk, hRl, ck, cz⟩ := hS.look
              obtain ⟨cz0, fz0⟩ := cz z hzn
              obtain ⟨va, vc, rfl, hvc⟩ := hS.t.len
              have xlt : (x : Int) < (n : Int) := by have := HLT.out; omega
              have xltn : x < n := HLT.out
              have zlt : (z : Int) < (n : Int) := by omega
              by_cases hay : a = y
              · subst hay
                cases hR : R.getD z false with
                | true =>
                  rw [hR] at cz0
                  have HN : Hid (SeW w n x ks1 Rs R T (.slice va T.length vc) wr ∧ SrI E n x a (i + 1) R T ∧ 2 * R.count false + T.length + 1 ≤ gk) := ⟨hS, hI.skip hEi (.inr (by simpa using hR)), hg⟩
                  clear hS hI hg hEi hR cz hk hRl fz0
                  go_wp2
                  go_quiet (fail)
                  go_wp2
                  go_roundw
                  case rel => exact ⟨i + 1, R, T, by omega, by go_num, HN.out.1.any (below_drewN (Below.refl _ _) _), HN.out.2.1, HN.out.2.2⟩
                  case measure => simp [intOf]; omega
                | false =>
                  rw [hR] at cz0
                  have HP : Hid (SrI E n x a (i + 1) (R.set z true) (T ++ [(z : Int)]) ∧ 2 * (R.set z true).count false + (T ++ [(z : Int)]).length + 1 ≤ gk ∧ T.length ≤ 1000000000) := ⟨hI.push hEi hzn, by have := count_setR (z := z) (by omega) hR; simp; omega, by omega⟩
                  have HS : Hid (SeW w n x ks1 Rs R T (.slice va T.length vc) wr ∧ ks1[x]? = some k) := ⟨hS, hk⟩
                  clear hS hI hg hEi hR cz hRl
                  go_wp2
                  go_quiet (fail)
                  go_wp2
                  refine wp_world (fun w2 => Below wr.heap.size wr w2) (below_drewN (Below.refl _ _) _) fun w2 b2 => ?_
                  have S2 : Hid (SeW w n x ks1 Rs R T (.slice va T.length vc) w2) := HS.out.1.any b2
                  have d1 := (S2.out.mx.bel.cell (p := ⟨eb, eo + i * 2 + 1, none⟩) HC1.out.2).trans HC1.out.1
                  obtain ⟨k2, hk2, _, d3, d4⟩ := SeW.look S2.out
                  obtain rfl : k = k2 := Option.some.inj (HS.out.2.symm.trans hk2)
                  obtain ⟨d5, d6⟩ := d4 z hzn
                  have S3 : Hid (SeW w n x ks1 Rs (R.set z true) T (.slice va T.length vc) (w2.setCell ⟨k, z, none⟩ (.bool true)).drew) := (S2.out.put HS.out.2).any (Below.refl _ _).drew
                  clear c0 c1 ck cz0 fz0 hk2 d4 b2 hk S2 HS
                  go_wp2
                  go_region
                  clear d1 d3 d5 d6
                  generalize (w2.setCell ⟨k, z, none⟩ (.bool true)).drew = w3 at *
                  have hS3 := S3.out
                  have e1 := (hS3.mx.bel.cell (p := ⟨eb, eo + i * 2 + 1, none⟩) HC1.out.2).trans HC1.out.1
                  have S4 : Hid (SeW w n x ks1 Rs (R.set z true) T (.slice va T.length vc) w3) := hS3
                  clear hS3 S3
                  go_wp2_with (at_builtin; refine wpList_ro_append rkIntR rfl _ _ rfl (.slice va T.length vc) T rfl (S4.out.t.later (below_alloc _ _)) w3.heap.size 1 (z : Int) rfl (inR_cell w3 (z : Int) _) HP.out.2.2 ?_)
                  intro a5 n5 c5 w5 t5 g5
                  have S5 : Hid (SeW w n x ks1 Rs (R.set z true) (T ++ [(z : Int)]) (.slice a5 n5 c5) w5) := (S4.out.any (below_alloc _ _)).grew t5 g5
                  clear t5 g5 e1 S4
                  go_wp2
                  go_roundw
                  case rel => exact ⟨i + 1, _, _, by omega, by go_num, S5.out, HP.out.1, HP.out.2.1⟩
                  case measure => simp [intOf]; omega
              · have eay : ((a : Int) == (y : Int)) = false := by rw [beq_eq_false_iff_ne]; omega
                have HN : Hid (SeW w n x ks1 Rs R T (.slice va T.length vc) wr ∧ SrI E n x y (i + 1) R T ∧ 2 * R.count false + T.length + 1 ≤ gk) := ⟨hS, hI.skip hEi (.inl (by show (a : Int) ≠ (y : Int); omega)), hg⟩
                have eay2 : (a == y) = false := by rw [beq_eq_false_iff_ne]; exact hay
                have eay3 : decide (a = y) = false := decide_eq_false hay
                clear hS hI hg hEi cz hk hRl fz0 cz0
                go_wp2
                go_quiet (fail)
                go_wp2
                go_roundw
                case rel => exact ⟨i + 1, R, T, by omega, by go_num, HN.out.1.any (below_drewN (Below.refl _ _) _), HN.out.2.1, HN.out.2.2⟩
                case measure => simp [intOf]; omega
            · have ilt : ¬ (i : Int) < (E.length : Int) := by omega
              have hie : i = E.length := by omega
              have HN : Hid (SeW w n x ks1 Rs R T u7 wr ∧ SrR E n x R T ∧ 2 * R.count false + T.length + 1 ≤ gk) := ⟨hS, SrI.fin (by rw [← hie]; exact hI), hg⟩
              clear hS hI hg hbel hie
              go_wp2
              go_roundg (gk - 1)
              case measure => have := HN.out.2.2; omega
              case rel => exact ⟨R, T, HN.out.1, HN.out.2.1, by have := HN.out.2.2; omega, by omega⟩
    · have xlt : ¬ (x : Int) < (n : Int) := by omega
      obtain rfl : x = n := by omega
      have HN : Hid (MxR w.heap.size x x w ks Rs wr ∧ RxR E x Rs) := ⟨hM, hM.fin hRs⟩
      clear hM hRs
      go_wp2
      go_ret
      exact ⟨rfl, ks, Rs, HN.out.1, HN.out.2⟩
end Go.Proofs.YtcgghlaifmlpiaaGreatDoor
