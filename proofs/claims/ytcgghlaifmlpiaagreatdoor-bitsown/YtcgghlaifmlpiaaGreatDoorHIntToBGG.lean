import Derived.Test.YtcgghlaifmlpiaaGreatDoorHListToHGiven
import Derived.Test.YtcgghlaifmlpiaaGreatDoorBBaseToGRow
import Derived.Deep.RegionWith
import Derived.Test.YtcgghlaifmlpiaaGreatDoorBT19
import Derived.Test.YtcgghlaifmlpiaaGreatDoorBD1ToBD3
namespace Go.Proofs.YtcgghlaifmlpiaaGreatDoor
set_option linter.unusedVariables false
open Go.RowKit

theorem cell_newI (w : World) (x : Value) (t : TypeId) : (w.alloc (.cells #[x] t)).cell? ⟨w.heap.size, 0, none⟩ = some x := by
  have := heap_alloc_new w (.cells #[x] t)
  simp only [World.cell?, this]; rfl
set_option maxRecDepth 100000 in
set_option maxHeartbeats 1000000 in
theorem markint_any (k : Nat) (w : World) (hk : k ≤ 140737488355400) :
    Calls Tryz.prog 98 #[.int .i64 987, .int .i64 k] w fun e w' => ∃ m : Int, e = .returned (.int .i64 m) ∧ Below w.heap.size w w' := by
  go_enter Tryz.func98, Tryz.ntmps98
  go_wp2
  go_ret
  exact ⟨_, rfl, by go_grown⟩
/-- A whole row of numbers behind an empty list. -/
theorem wpList_il_copy {ops : Array Oper} {rest : List Oper} {o : Oper} {a : Act} {Q : Exit → Act → World → Prop} {w : World} (hgd : o.guard = none) (s x : Operand)
    (ho : o.op = .call { callee := .builtin .append, args := #[s, x], argTypes := #[46, 46] })
    (hs : a.eval s = .slice none 0 0) (b off c : Nat) (zs : List Int) (hx : a.eval x = .slice (some ⟨b, off, none⟩) zs.length c) (hr : InRow w (some ⟨b, off, none⟩) zs) (hlen : zs.length ≤ 17592186044416)
    (hK : ∀ a' n' c' w', IL w' (.slice a' n' c') zs → Grew w w' (.slice none 0 0) (.slice a' n' c') → wpList Tryz.prog ops Q rest (a.put o.dst (.slice a' n' c')) w') : wpList Tryz.prog ops Q (o :: rest) a w := by
  obtain ⟨i0, hi, hz0, hz1, hz2⟩ := infoInt_parts
  refine wpList_append_own_at w hgd s x 46 ho 0 3 i0 (.int .i64 0) 1 8 Tryz.underlying46 hi hz0 hz1 hz2 rfl (by decide) (.slice none 0 0) 0 [] hs (World.ownsRow_nil w 0 3 1) ⟨b, off, none⟩ zs.length c (zs.map (.int .i64 ·)) hx (by simp) ?_ ?_ (by unfold maxLen; omega) (by omega) (Nat.zero_le _) ?_
  · intro j u hu
    have hj : j < zs.length := by have := (List.getElem?_eq_some_iff.1 hu).1; simpa using this
    obtain ⟨b', off', e, _, hc⟩ := hr (by intro h; subst h; simp at hj)
    simp at e
    obtain ⟨rfl, rfl⟩ := e
    rw [add_none, hc j hj, ← hu]
    simp [List.getD, hj]
  · intro u hu; simp at hu; obtain ⟨y, _, rfl⟩ := hu; rfl
  · intro v' w' h2 h3 _ h5
    have h6 : IL w' v' zs := by unfold IL; simpa using h2
    obtain ⟨a', c', rfl⟩ := il_len h6
    exact hK _ _ _ w' h6 ⟨h3, h5.imp id fun e => ⟨_, e, Nat.le_refl _⟩⟩
set_option maxRecDepth 100000 in
set_option maxHeartbeats 1000000 in
theorem copyint_any (b off cap : Nat) (zs : List Int) (w : World) (hl : zs.length ≤ 17592186044416) (hr : InRow w (some ⟨b, off, none⟩) zs) :
    Calls Tryz.prog 99 #[.slice (some ⟨b, off, none⟩) zs.length cap] w fun e w' => ∃ a N c, e = .returned (.slice a N c) ∧ IL w' (.slice a N c) zs ∧ Below w.heap.size w w' := by
  go_enter Tryz.func99, Tryz.ntmps99
  go_wp2_with (at_builtin; refine wpList_il_copy rfl _ _ rfl rfl b off cap zs rfl hr hl ?_; intro a2 n2 c2 w2 ho2 hg2)
  go_ret
  exact ⟨a2, n2, c2, rfl, ho2, ⟨hg2.grown.os, hg2.grown.tape, hg2.grown.output, hg2.grown.size, fun k hk => hg2.grown.block k hk (by simp [Value.ownBlock])⟩⟩
/-- Numbers that fill a block. -/
structure FullI (w : World) (g : Nat) (zs : List Int) : Prop where
  hg : w.heap[g]? = some (.cells (zs.map (.int .i64 ·)).toArray 3 (0, 0))
theorem FullI.cell {w : World} {g : Nat} {zs : List Int} (h : FullI w g zs) (j : Nat) (hj : j < zs.length) : w.cell? ⟨g, j, none⟩ = some (.int .i64 (zs.getD j 0)) := by
  simp [World.cell?, h.hg, List.getD, hj]
theorem FullI.free {w : World} {g : Nat} {zs : List Int} (h : FullI w g zs) (j : Nat) : w.frozen? ⟨g, j, none⟩ = false := by
  simp [World.frozen?, h.hg]
theorem FullI.set {w : World} {g : Nat} {zs : List Int} (h : FullI w g zs) (j : Nat) (m : Int) : FullI (w.setCell ⟨g, j, none⟩ (.int .i64 m)) g (zs.set j m) := by
  refine ⟨?_⟩
  rw [heap_set h.hg]
  congr 2
  simp [List.map_set]
theorem FullI.later {w w' : World} {g : Nat} {zs : List Int} (h : FullI w g zs) (hb : w'.heap[g]? = w.heap[g]?) : FullI w' g zs := ⟨hb.trans h.hg⟩
theorem FullI.row {w : World} {g : Nat} {zs : List Int} (h : FullI w g zs) : InRow w (some ⟨g, 0, none⟩) zs :=
  fun _ => ⟨g, 0, rfl, lt_of_block h.hg, fun i hi => by rw [Nat.zero_add]; exact h.cell i hi⟩
theorem fullI_of_made {w : World} {g n : Nat} {vs : List Value} (h : w.ownsRow 0 3 1 (.slice (some ⟨g, 0, none⟩) n n) n vs) (hv : vs = (madeCells (Value.int .i64 0).cells (n * 1)).toList) : ∃ zs : List Int, zs.length = n ∧ FullI w g zs := by
  rcases h.2 with ⟨e, _⟩ | ⟨g', cap, cur, e, _, hg, _, _, hs, ht⟩
  · cases e
  · cases e
    refine ⟨List.replicate n 0, by simp, ⟨?_⟩⟩
    rw [hg]
    have hc : cur.toList = vs := by rw [← ht, List.take_of_length_le (by simp; omega)]
    congr 2
    apply Array.toList_inj.1
    rw [hc, hv]
    apply List.ext_getElem
    · simp [madeCells]
    · intro k h1 h2
      simp [madeCells, Value.cells, Nat.mod_one]
theorem take_set_stepI {zs xs : List Int} {j : Nat} (h : zs.take j = xs.take j) (hx : j < xs.length) (hz : j < zs.length) : (zs.set j (xs.getD j 0)).take (j + 1) = xs.take (j + 1) := by
  rw [List.take_succ_eq_append_getElem hx, ← h, List.take_succ_eq_append_getElem (by simpa using hz), List.take_set_of_le (Nat.le_refl _)]
  simp [List.getD, hx]
theorem il_cnt {w : World} {a : Option Addr} {n c : Nat} {l : List Int} (h : IL w (.slice a n c) l) : n = l.length := by
  obtain ⟨a', c', e⟩ := il_len h
  simp at e
  exact e.2.1
theorem enter_copyI (args : Array Value) (w : World) : (callFunc 99 args).run Tryz.prog w = .ok (.enter 99 args) w := by kernel_rfl
theorem step_copyI {ops : Array Oper} {o : Oper} {a : Act} {w : World} {K : Act → World → Prop} {Q : Exit → Act → World → Prop} {E : Prop}
    (hg : o.guard = none) (x : Operand) (hop : o.op = Op.call { callee := Callee.value (Operand.func 99), args := #[x], argTypes := #[46] })
    (b off N cap : Nat) (xs : List Int) (hx : a.eval x = .slice (some ⟨b, off, none⟩) N cap) (hN : N = xs.length) (hl : xs.length ≤ 17592186044416) (hr : InRow w (some ⟨b, off, none⟩) xs)
    (hK : ∀ a' N' c' w', IL w' (.slice a' N' c') xs → Below w.heap.size w w' → K (a.put o.dst (.slice a' N' c')) w') :
    if Region.wanted o (yielded ops a.tmps) = true then Oper.wp Tryz.prog o a w K Q else E := by
  have hw : Region.wanted o (yielded ops a.tmps) = true := by simp [Region.wanted, hg]
  rw [if_pos hw]
  have hf : a.eval (Operand.func 99) = .func (.func 99) #[] #[] := rfl
  have hcf := enter_copyI #[.slice (some ⟨b, off, none⟩) N cap] w
  have e : (execOp a.eval o).run Tryz.prog w = .ok (.enter 99 #[.slice (some ⟨b, off, none⟩) N cap]) w := by
    simp [execOp, hop, resolve, invoke, hx, hf, Deferred.ofValue, hcf]
  show o.upon Tryz.prog a K Q ((execOp a.eval o).run Tryz.prog w)
  rw [e, Oper.upon_enter]
  subst hN
  refine (copyint_any b off cap xs w hl hr).mono ?_
  rintro e w' ⟨a', N', c', rfl, ho, hb⟩
  exact hK a' N' c' w' ho hb
theorem infoII2 : SliceInfo 46 := sliceInfo_of (by kernel_rfl)
set_option maxRecDepth 100000 in
set_option maxHeartbeats 2000000 in
theorem hints (q : Nat) (V : Nat → Value) (ty : Nat → TypeId) (E : Nat → List HE) (ao : Option Addr) (N cap : Nat) (xs : List Int) (w : World) (hN : N = xs.length) (hl : xs.length ≤ 17592186044000) (hr : InRow w ao xs) (hG : HInv w q V ty E) (hes : (E 1).length ≤ 5864062014700) (t4 : ty 2 = 46) (t5 : ty 3 = 46) (ht : 3 ≠ 35 ∧ ∀ i, 3 ≠ ty i) :
    Calls Tryz.prog 54 #[.pointer (some ⟨q, 0, none⟩), .slice ao N cap] w fun e w' => e = .returned (.slice (some ⟨w.heap.size, 0, none⟩) xs.length (xs.length + 3)) ∧ ∃ V' x, HInv w' q V' ty (updE E 1 x) ∧ x.g = w.heap.size ∧ x.t = 3 ∧ x.sz = 1 ∧ (∃ zs : List Int, x.cs = zs.map (.int .i64 ·) ∧ zs.take xs.length = xs) ∧ HF w w' q V V' := by
  subst hN
  obtain ⟨i0, hi, hz0, hz1, hz2⟩ := infoInt_parts
  have HB2 : Hid (i0.bytes * (xs.length + 3) ≤ 281474976710656) := by show _ ≤ _; rw [hz2]; omega
  have HB3 : Hid (xs.length + 3 ≤ maxLen) := by show _ ≤ _; unfold maxLen; omega
  go_enter Tryz.func54, Tryz.ntmps54
  go_wp2_with (at_make; refine wpList_make_full _ rfl _ _ 46 rfl 0 3 i0 (.int .i64 0) 1 Tryz.underlying46 hi hz0 hz1 _ _ _ _ (xs.length + 3) rfl rfl (by omega) (by omega) HB2.out HB3.out (Nat.zero_le _) ?_; intro w0 hown0 hgrow0)
  have hb0 : Below w.heap.size w w0 := (Below.refl _ _).grown hgrow0 (Nat.le_refl _) (fun k h => by cases h)
  obtain ⟨zs0, hzl0, hF0⟩ := fullI_of_made hown0 rfl
  clear hown0 hgrow0
  go_loopw [6] (fun i wr => ∃ (j : Nat) (zs : List Int), i = .int .i64 j ∧ j ≤ xs.length + 3 ∧ zs.length = xs.length + 3 ∧ FullI wr w.heap.size zs ∧ Below w.heap.size w wr) (fun i _ => xs.length + 3 - (intOf i).toNat)
  case atStart => exact ⟨0, zs0, rfl, by omega, hzl0, hF0, hb0⟩
  case round =>
    obtain ⟨j, zs, rfl, hj, hzl, hF, hb⟩ := hrel
    clear hb0 hF0 hzl0
    by_cases hlt : j < xs.length + 3
    · have ck := hF.cell j (by omega)
      have fk := hF.free j
      go_wp2_with (go_at_call 98; refine (markint_any j wr (by omega)).mono ?_; rintro e w4 ⟨m, rfl, hb4⟩; have hF4 := hF.later (hb4.block _ (lt_of_block hF.hg)); have ck4 := hF4.cell j (by omega); have fk4 := hF4.free j)
      go_roundw
      case rel => exact ⟨j + 1, zs.set j m, by go_num, by omega, by simp; omega, hF4.set j m, (hb.trans (hb4.mono hb.size)).setCell (Nat.le_refl _) _⟩
      case measure => simp [intOf]; omega
    · go_wp2
      clear hlt hj
      go_loopw [7] (fun i wr => ∃ (j : Nat) (zs : List Int), i = .int .i64 j ∧ j ≤ xs.length ∧ zs.length = xs.length + 3 ∧ zs.take j = xs.take j ∧ FullI wr w.heap.size zs ∧ Below w.heap.size w wr) (fun i _ => xs.length - (intOf i).toNat)
      case atStart => exact ⟨0, zs, rfl, by omega, hzl, rfl, hF, hb⟩
      case round =>
        clear hF hzl hb
        obtain ⟨j, zs, rfl, hj, hzl, hzt, hF, hb⟩ := hrel
        by_cases hlt : j < xs.length
        · obtain ⟨b, off, rfl, hbl, hc⟩ := hr (fun e => by subst e; simp at hlt)
          have hcj := (hb.cell (p := ⟨b, off + j, none⟩) hbl).trans (hc j hlt)
          have ck := hF.cell j (by omega)
          have fk := hF.free j
          have FS : Hid _ := hF.set j
          have HT : Hid ((zs.set j (xs.getD j 0)).take (j + 1) = xs.take (j + 1)) := take_set_stepI hzt hlt (by omega)
          clear hc hzt
          generalize hx : xs.getD j 0 = x at *
          clear hx
          go_wp2
          go_roundw
          case rel => exact ⟨j + 1, zs.set j x, by go_num, by omega, by simp; omega, HT.out, FS.out x, hb.setCell (Nat.le_refl _) _⟩
          case measure => simp [intOf]; omega
        · obtain rfl : j = xs.length := by omega
          rw [List.take_length] at hzt
          have HZT : Hid (zs.take xs.length = xs) := hzt
          clear hzt hj
          have hG2 := hG.later hb
          have hA := hG2.later (below_alloc wr (.cells #[Value.slice (some ⟨w.heap.size, 0, none⟩) (xs.length + 3) (xs.length + 3)] 46))
          have HLF : Hid (((E 1).map HE.fst).length ≤ 5864062014720) := by show _ ≤ _; simp; omega
          have HLN : Hid (((E 1).map HE.snd).length ≤ 5864062014720) := by show _ ≤ _; simp; omega
          have R4 : Hid (HL 46 (wr.alloc (.cells #[Value.slice (some ⟨w.heap.size, 0, none⟩) (xs.length + 3) (xs.length + 3)] 46)) (V 2) ((E 1).map HE.fst)) := by have := hA.row 2; rw [t4] at this; exact this
          have c0 := hG2.cell (i := 2) (by omega)
          have AF0 : Hid (∀ w5 L5, Grew (wr.alloc (.cells #[Value.slice (some ⟨w.heap.size, 0, none⟩) (xs.length + 3) (xs.length + 3)] 46)) w5 (V 2) L5 → w5.cell? ⟨q, 2, none⟩ = some (V 2) ∧ w5.frozen? ⟨q, 2, none⟩ = false) := fun w5 L5 hg => by
            have b := (hg.grown.block q (lt_of_block hA.hq) (hA.ne 2)).trans hA.hq
            exact ⟨by simp only [World.cell?, b]; exact hArr_get V (by omega), by simp [World.frozen?, b]⟩
          have HA : Hid _ := hA
          clear hA hG2
          generalize hV4 : V 2 = L at *
          go_wp2_with (at_builtin; refine wpList_hl_append Tryz.underlying24 infoII2 rfl _ _ rfl L ((E 1).map HE.fst) rfl R4.out wr.heap.size 1 (.slice (some ⟨w.heap.size, 0, none⟩) (xs.length + 3) (xs.length + 3)) rfl (cell_newI wr _ _) rfl HLF.out ?_; intro L5 w5 hl5 hg5; obtain ⟨a5, N5, c5, rfl⟩ := hl5.slice3; obtain ⟨d1, d2⟩ := AF0.out w5 _ hg5)
          obtain ⟨hG6, hf6⟩ := HA.out.store (i := 2) (v' := .slice a5 N5 c5) (s' := (E 1).map HE.fst ++ [.slice (some ⟨w.heap.size, 0, none⟩) (xs.length + 3) (xs.length + 3)]) (by rw [hV4]; exact hg5) (by rw [t4]; exact hl5)
          have hF6 := (hF.later ((below_alloc wr (.cells #[Value.slice (some ⟨w.heap.size, 0, none⟩) (xs.length + 3) (xs.length + 3)] 46)).block _ (lt_of_block hF.hg)))
          have hF7 := hF6.later (HA.out.other hf6 hF6.hg ht)
          have HF6 : Hid _ := hf6
          clear hF6 d1 d2 hl5 hg5 c0 AF0 R4 hf6
          generalize (Value.slice a5 N5 c5) = L6 at *
          generalize w5.setCell ⟨q, 2, none⟩ L6 = w6 at *
          have hGd := hG6.later (Below.refl _ _).drew
          have e1 : w6.cell? ⟨q, 3, none⟩ = some (V 3) := hG6.cell (i := 3) (by omega)
          have hR6 := hF7.row
          have HZ : Hid (zs.length ≤ 17592186044416) := by show _ ≤ _; omega
          have AF : Hid (∀ w1 o, Below w6.drew.heap.size w6.drew w1 → w1.cell? ⟨q, 3, none⟩ = some (V 3) ∧ (w1.alloc o).cell? ⟨q, 3, none⟩ = some (V 3) ∧ HL 46 (w1.alloc o) (V 3) ((E 1).map HE.snd)) := fun w1 o hb => by
            have r1 := hGd.later hb
            have r2 := r1.later (below_alloc w1 o)
            refine ⟨r1.cell (i := 3) (by omega), r2.cell (i := 3) (by omega), ?_⟩
            have := r2.row 3
            rw [t5] at this
            exact this
          have AF2 : Hid (∀ w1 o w2 W2, Below w6.drew.heap.size w6.drew w1 → Grew (w1.alloc o) w2 (V 3) W2 → w2.cell? ⟨q, 3, none⟩ = some (V 3) ∧ w2.frozen? ⟨q, 3, none⟩ = false) := fun w1 o w2 W2 hb hg => by
            have h1 := (hGd.later hb).later (below_alloc _ o)
            have b := (hg.grown.block q (lt_of_block h1.hq) (h1.ne 3)).trans h1.hq
            exact ⟨by simp only [World.cell?, b]; exact hArr_get _ (by omega), by simp [World.frozen?, b]⟩
          have HGd : Hid _ := hGd
          have HG6 : Hid _ := hG6
          clear hGd hG6
          generalize hV5 : V 3 = W at *
          go_region_law (first
            | (refine step_copyI (by rfl) _ (by rfl) w.heap.size 0 (xs.length + 3) (xs.length + 3) zs (by rfl) hzl.symm HZ.out hR6 ?_; intro a8 N8 c8 w8 ho8 hb8; obtain ⟨f0, f1, f2⟩ := AF.out w8 (.cells #[.slice a8 N8 c8] 46) hb8)
            | (refine step_hl_append Tryz.underlying24 infoII2 (by rfl) _ _ (by rfl) W ((E 1).map HE.snd) (by rfl) f2 w8.heap.size 1 (.slice a8 N8 c8) (by rfl) (cell_newI w8 _ _) (by rfl) HLN.out ?_; intro W9 w9 hl9 hg9; obtain ⟨a9, N9, c9, rfl⟩ := hl9.slice3; obtain ⟨m0, m1⟩ := AF2.out w8 _ w9 _ hb8 hg9))
          all_goals go_wp2
          all_goals go_ret
          all_goals
            have hN8 := il_cnt ho8
            subst hN8
            have hI8 := (HGd.out.later hb8).later (below_alloc w8 (.cells #[.slice a8 zs.length c8] 46))
            obtain ⟨hG9, hf9⟩ := hI8.store (i := 3) (v' := .slice a9 N9 c9) (s' := (E 1).map HE.snd ++ [.slice a8 zs.length c8]) (by show Grew _ _ (V 3) _; rw [hV5]; exact hg9) (by rw [t5]; exact hl9)
            have hfa : HF w6 (w8.alloc (.cells #[.slice a8 zs.length c8] 46)) q (updV V 2 L6) (updV V 2 L6) := HF.ofBelow ((Below.refl _ _).drew.trans (hb8.trans ((below_alloc w8 _).mono hb8.size)))
            have hfx := hfa.trans hf9
            have hF9 := hF7.later (HG6.out.other hfx hF7.hg ht)
            have ho9 := row_kept (ho8.later (below_alloc _ _)) (w' := w9.setCell ⟨q, 3, none⟩ (.slice a9 N9 c9)) fun k C _ hk => hI8.other hf9 hk ht
            have hend := (HF.ofBelow hb).trans ((HF.ofBelow (below_alloc wr _)).trans (HF6.out.trans hfx))
            refine ⟨rfl, _, ⟨3, 1, w.heap.size, zs.length, a8, c8, zs.map (.int .i64 ·)⟩, HI.add (κ := 1) (by rw [← hzl] at hG9; exact hG9) ⟨by simp, by show zs.length ≤ _; omega, hF9.hg, by show World.ownsRow _ _ _ _ _ _ _; simpa using ho9⟩ ht, rfl, rfl, rfl, ⟨zs, rfl, HZT.out⟩, hend⟩
end Go.Proofs.YtcgghlaifmlpiaaGreatDoor
namespace Go.Proofs.YtcgghlaifmlpiaaGreatDoor
set_option linter.unusedVariables false
open Go.RowKit Go.Maps

/-- A list of symbols that is one's own. -/
def YPr (w : World) (v : Value) (l : List (Int × Int)) : Prop := w.ownsRow 0 82 2 v l.length (symCells l)
theorem infoPrB : (Tryz.prog.info? 82).map (fun i => (i.zero, i.size, i.bytes)) = some (some (.agg #[.int .i64 0, .int .i64 0]), 2, 16) := by kernel_rfl
theorem infoPrB_parts : ∃ i, Tryz.prog.info? 82 = some i ∧ i.zero = some (.agg #[.int .i64 0, .int .i64 0]) ∧ i.size = 2 ∧ i.bytes = 16 := by
  have h := infoPrB
  cases e : Tryz.prog.info? 82 with
  | none => rw [e] at h; cases h
  | some i => rw [e] at h; simp at h; exact ⟨i, rfl, h⟩
theorem YPr.nil (w : World) : YPr w (.slice none 0 0) [] := World.ownsRow_nil w 0 82 2
theorem yp_len {w : World} {v : Value} {l : List (Int × Int)} (h : YPr w v l) : ∃ a c, v = .slice a l.length c := by
  rcases h.2 with ⟨rfl, h0⟩ | ⟨g, cap, cur, rfl, _⟩
  · exact ⟨none, 0, by rw [h0]⟩
  · exact ⟨_, _, rfl⟩
theorem YPr.kept {w w' : World} {v : Value} {l : List (Int × Int)} (h : YPr w v l) (hb : ∀ k, v.ownBlock = some k → w'.heap[k]? = w.heap[k]?) : YPr w' v l := by
  refine ⟨h.1, ?_⟩
  rcases h.2 with q | ⟨g, cap, cur, rfl, h1, h2, h3⟩
  · exact .inl q
  · exact .inr ⟨g, cap, cur, rfl, h1, (hb g rfl).trans h2, h3⟩
theorem YPr.lt {w : World} {v : Value} {l : List (Int × Int)} (h : YPr w v l) : ∀ k, v.ownBlock = some k → k < w.heap.size := fun k hk => (World.ownsRow.lt h k hk).2
theorem YPr.later {w w' : World} {v : Value} {l : List (Int × Int)} (h : YPr w v l) (hb : Below w.heap.size w w') : YPr w' v l := h.kept fun k hk => hb.block k (h.lt k hk)
theorem YPr.row {w : World} {a : Option Addr} {n c : Nat} {l : List (Int × Int)} (h : YPr w (.slice a n c) l) : PrsB w a l := by
  intro hne
  rcases h.2 with ⟨e, h0⟩ | ⟨g, cap, cur, e, h1, h2, h3⟩
  · exact absurd (List.eq_nil_of_length_eq_zero h0) hne
  · have hc := fun j x hx => World.ownsRow.cells h (g := g) (by rw [e]; rfl) j x hx
    cases e
    refine ⟨g, 0, rfl, lt_of_block h2, fun i hi => ?_⟩
    obtain ⟨q1, q2⟩ := symCells_get l i hi
    have r1 := hc _ _ q1
    have r2 := hc _ _ q2
    rw [add_none] at r1 r2
    exact ⟨r1, r2⟩

set_option maxRecDepth 100000 in
set_option maxHeartbeats 1000000 in
theorem markpr_any (k : Nat) (w : World) (hk : k ≤ 140737488355400) :
    Calls Tryz.prog 29 #[.int .i64 987, .int .i64 k] w fun e w' => ∃ m : Int, e = .returned (.agg #[.int .i64 m, .int .i64 0]) ∧ Below w.heap.size w w' := by
  go_enter Tryz.func29, Tryz.ntmps29
  go_wp2
  go_returns
  exact ⟨_, rfl, by go_grown⟩
theorem PrsB.cells {w : World} {b off : Nat} {zs : List (Int × Int)} (hr : PrsB w (some ⟨b, off, none⟩) zs) (j : Nat) (u : Value) (hu : (symCells zs)[j]? = some u) : w.cell? ⟨b, off + j, none⟩ = some u := by
  have hj : j < zs.length * 2 := by have := (List.getElem?_eq_some_iff.1 hu).1; rwa [symCells_len] at this
  obtain ⟨b', off', e, _, hc⟩ := hr (by intro h; subst h; simp at hj)
  simp at e
  obtain ⟨rfl, rfl⟩ := e
  obtain ⟨c1, c2⟩ := hc (j / 2) (by omega)
  obtain ⟨g1, g2⟩ := symCells_get zs (j / 2) (by omega)
  by_cases h : j % 2 = 0
  · have e : j / 2 * 2 = j := by omega
    rw [e] at c1 g1
    rw [c1, ← hu, g1]
  · have e : j / 2 * 2 + 1 = j := by omega
    rw [e] at g2
    rw [show off + j / 2 * 2 + 1 = off + j by omega] at c2
    rw [c2, ← hu, g2]
/-- A whole row of symbols behind an empty list. -/
theorem wpList_pr_copy {ops : Array Oper} {rest : List Oper} {o : Oper} {a : Act} {Q : Exit → Act → World → Prop} {w : World} (hgd : o.guard = none) (s x : Operand)
    (ho : o.op = .call { callee := .builtin .append, args := #[s, x], argTypes := #[22, 22] })
    (hs : a.eval s = .slice none 0 0) (b off c : Nat) (zs : List (Int × Int)) (hx : a.eval x = .slice (some ⟨b, off, none⟩) zs.length c) (hr : PrsB w (some ⟨b, off, none⟩) zs) (hlen : zs.length ≤ 8796093022208)
    (hK : ∀ a' n' c' w', YPr w' (.slice a' n' c') zs → Grew w w' (.slice none 0 0) (.slice a' n' c') → wpList Tryz.prog ops Q rest (a.put o.dst (.slice a' n' c')) w') : wpList Tryz.prog ops Q (o :: rest) a w := by
  obtain ⟨i0, hi, hz0, hz1, hz2⟩ := infoPrB_parts
  refine wpList_append_own_at w hgd s x 22 ho 0 82 i0 (.agg #[.int .i64 0, .int .i64 0]) 2 16 Tryz.underlying22 hi hz0 hz1 hz2 rfl (by decide) (.slice none 0 0) 0 [] hs (World.ownsRow_nil w 0 82 2) ⟨b, off, none⟩ zs.length c (symCells zs) hx (symCells_len zs) ?_ ?_ (by unfold maxLen; omega) (by omega) (Nat.zero_le _) ?_
  · intro j u hu
    rw [add_none]
    exact hr.cells j u hu
  · intro u hu
    simp only [symCells, List.mem_flatMap] at hu
    obtain ⟨y, _, hu⟩ := hu
    simp at hu
    rcases hu with rfl | rfl <;> rfl
  · intro v' w' h2 h3 _ h5
    have h6 : YPr w' v' zs := by unfold YPr; simpa using h2
    obtain ⟨a', c', rfl⟩ := yp_len h6
    exact hK _ _ _ w' h6 ⟨h3, h5.imp id fun e => ⟨_, e, Nat.le_refl _⟩⟩
set_option maxRecDepth 100000 in
set_option maxHeartbeats 1000000 in
theorem copypr_any (b off cap : Nat) (zs : List (Int × Int)) (w : World) (hl : zs.length ≤ 8796093022208) (hr : PrsB w (some ⟨b, off, none⟩) zs) :
    Calls Tryz.prog 30 #[.slice (some ⟨b, off, none⟩) zs.length cap] w fun e w' => ∃ a N c, e = .returned (.slice a N c) ∧ YPr w' (.slice a N c) zs ∧ (∀ k, (Value.slice a N c).ownBlock = some k → w.heap.size ≤ k) ∧ Below w.heap.size w w' := by
  go_enter Tryz.func30, Tryz.ntmps30
  go_wp2_with (at_builtin; refine wpList_pr_copy rfl _ _ rfl rfl b off cap zs rfl hr hl ?_; intro a2 n2 c2 w2 ho2 hg2)
  go_ret
  refine ⟨a2, n2, c2, rfl, ho2, fun k hk => ?_, ⟨hg2.grown.os, hg2.grown.tape, hg2.grown.output, hg2.grown.size, fun k hk => hg2.grown.block k hk (by simp [Value.ownBlock])⟩⟩
  rcases hg2.moved with e | ⟨j, e, hj⟩
  · rw [e] at hk; simp [Value.ownBlock] at hk
  · rw [e] at hk; simp at hk; omega
/-- Symbols that fill a block. -/
structure FullPr (w : World) (g : Nat) (zs : List (Int × Int)) : Prop where
  hg : w.heap[g]? = some (.cells (symCells zs).toArray 82 (0, 0))
theorem FullPr.cell {w : World} {g : Nat} {zs : List (Int × Int)} (h : FullPr w g zs) (j : Nat) (hj : j < zs.length) : w.cell? ⟨g, j * 2, none⟩ = some (.int .i64 (zs.getD j (0, 0)).1) ∧ w.cell? ⟨g, j * 2 + 1, none⟩ = some (.int .i64 (zs.getD j (0, 0)).2) := by
  obtain ⟨g1, g2⟩ := symCells_get zs j hj
  simp only [World.cell?, h.hg]
  exact ⟨by simpa using g1, by simpa using g2⟩
theorem FullPr.free {w : World} {g : Nat} {zs : List (Int × Int)} (h : FullPr w g zs) (j : Nat) : w.frozen? ⟨g, j, none⟩ = false := by
  simp [World.frozen?, h.hg]
theorem symCells_setP : ∀ (zs : List (Int × Int)) (j : Nat) (k n : Int), ((symCells zs).set (j * 2) (.int .i64 k)).set (j * 2 + 1) (.int .i64 n) = symCells (zs.set j (k, n))
  | [], j, k, n => by simp [symCells]
  | q :: r, 0, k, n => by simp [symCells]
  | q :: r, j + 1, k, n => by
    have e : ∀ q r, symCells (q :: r) = .int .i64 q.1 :: .int .i64 q.2 :: symCells r := fun _ _ => rfl
    rw [List.set_cons_succ, e, e, ← symCells_setP r j k n, show (j + 1) * 2 = j * 2 + 1 + 1 by omega]
    rfl
theorem FullPr.set {w : World} {g : Nat} {zs : List (Int × Int)} (h : FullPr w g zs) (j : Nat) (k n : Int) : FullPr ((w.setCell ⟨g, j * 2, none⟩ (.int .i64 k)).setCell ⟨g, j * 2 + 1, none⟩ (.int .i64 n)) g (zs.set j (k, n)) := by
  refine ⟨?_⟩
  rw [heap_set (heap_set h.hg _ _)]
  congr 2
  rw [← symCells_setP]
  simp
theorem FullPr.later {w w' : World} {g : Nat} {zs : List (Int × Int)} (h : FullPr w g zs) (hb : w'.heap[g]? = w.heap[g]?) : FullPr w' g zs := ⟨hb.trans h.hg⟩
theorem FullPr.row {w : World} {g : Nat} {zs : List (Int × Int)} (h : FullPr w g zs) : PrsB w (some ⟨g, 0, none⟩) zs :=
  fun _ => ⟨g, 0, rfl, lt_of_block h.hg, fun i hi => by rw [Nat.zero_add]; exact h.cell i hi⟩
theorem FullPr.rowTake {w : World} {g : Nat} {zs xs : List (Int × Int)} (h : FullPr w g zs) (hx : zs.take xs.length = xs) : PrsB w (some ⟨g, 0, none⟩) xs := by
  refine fun _ => ⟨g, 0, rfl, lt_of_block h.hg, fun i hi => ?_⟩
  have hz : i < zs.length := by have := congrArg List.length hx; simp at this; omega
  have : xs.getD i (0, 0) = zs.getD i (0, 0) := by rw [← hx]; simp [List.getD, hi]
  rw [Nat.zero_add, this]
  exact h.cell i hz
theorem fullP_of_made {w : World} {g n : Nat} {vs : List Value} (h : w.ownsRow 0 82 2 (.slice (some ⟨g, 0, none⟩) n n) n vs) (hv : vs = (madeCells (Value.agg #[.int .i64 0, .int .i64 0]).cells (n * 2)).toList) : ∃ zs : List (Int × Int), zs.length = n ∧ FullPr w g zs := by
  rcases h.2 with ⟨e, _⟩ | ⟨g', cap, cur, e, _, hg, _, _, hs, ht⟩
  · cases e
  · cases e
    refine ⟨List.replicate n (0, 0), by simp, ⟨?_⟩⟩
    rw [hg]
    have hc : cur.toList = vs := by rw [← ht, List.take_of_length_le (by simp; omega)]
    congr 2
    apply Array.toList_inj.1
    rw [hc, hv]
    apply List.ext_getElem
    · simp [madeCells, symCells_len]
    · intro k h1 h2
      have hk : k < n * 2 := by have := h2; rw [List.toList_toArray, symCells_len] at this; simpa using this
      obtain ⟨g1, g2⟩ := symCells_get (List.replicate n (0, 0)) (k / 2) (by simp; omega)
      have e0 : (List.replicate n ((0 : Int), (0 : Int))).getD (k / 2) (0, 0) = (0, 0) := by simp [List.getD, List.getElem?_replicate]; split <;> rfl
      rw [e0] at g1 g2
      have hr : (symCells (List.replicate n (0, 0)))[k]? = some (.int .i64 0) := by
        by_cases hm : k % 2 = 0
        · rwa [show k / 2 * 2 = k by omega] at g1
        · rwa [show k / 2 * 2 + 1 = k by omega] at g2
      have hr2 : (symCells (List.replicate n (0, 0))).toArray.toList[k] = .int .i64 0 := by
        have := List.getElem?_eq_getElem (l := symCells (List.replicate n ((0 : Int), (0 : Int)))) (i := k) (by rw [symCells_len]; simpa using hk)
        rw [hr] at this
        simpa using this.symm
      rw [hr2]
      rcases Nat.mod_two_eq_zero_or_one k with e | e <;> simp [madeCells, Value.cells, e]

theorem take_set_stepP {zs xs : List (Int × Int)} {j : Nat} (h : zs.take j = xs.take j) (hx : j < xs.length) (hz : j < zs.length) : (zs.set j (xs.getD j (0, 0))).take (j + 1) = xs.take (j + 1) := by
  rw [List.take_succ_eq_append_getElem hx, ← h, List.take_succ_eq_append_getElem (by simpa using hz), List.take_set_of_le (Nat.le_refl _)]
  simp [List.getD, hx]
theorem yp_cnt {w : World} {a : Option Addr} {n c : Nat} {l : List (Int × Int)} (h : YPr w (.slice a n c) l) : n = l.length := by
  obtain ⟨a', c', e⟩ := yp_len h
  simp at e
  exact e.2.1
theorem symCells_takeP : ∀ (zs : List (Int × Int)) (k : Nat), (symCells zs).take (k * 2) = symCells (zs.take k)
  | [], k => by simp [symCells]
  | q :: r, 0 => by simp [symCells]
  | q :: r, k + 1 => by
    have e : ∀ q r, symCells (q :: r) = .int .i64 q.1 :: .int .i64 q.2 :: symCells r := fun _ _ => rfl
    rw [List.take_succ_cons, e, e, ← symCells_takeP r k, show (k + 1) * 2 = k * 2 + 1 + 1 by omega]
    rfl
theorem enter_copyP (args : Array Value) (w : World) : (callFunc 30 args).run Tryz.prog w = .ok (.enter 30 args) w := by kernel_rfl
theorem step_copyP {ops : Array Oper} {o : Oper} {a : Act} {w : World} {K : Act → World → Prop} {Q : Exit → Act → World → Prop} {E : Prop}
    (hg : o.guard = none) (x : Operand) (hop : o.op = Op.call { callee := Callee.value (Operand.func 30), args := #[x], argTypes := #[22] })
    (b off N cap : Nat) (xs : List (Int × Int)) (hx : a.eval x = .slice (some ⟨b, off, none⟩) N cap) (hN : N = xs.length) (hl : xs.length ≤ 8796093022208) (hr : PrsB w (some ⟨b, off, none⟩) xs)
    (hK : ∀ a' N' c' w', YPr w' (.slice a' N' c') xs → Below w.heap.size w w' → K (a.put o.dst (.slice a' N' c')) w') :
    if Region.wanted o (yielded ops a.tmps) = true then Oper.wp Tryz.prog o a w K Q else E := by
  have hw : Region.wanted o (yielded ops a.tmps) = true := by simp [Region.wanted, hg]
  rw [if_pos hw]
  have hf : a.eval (Operand.func 30) = .func (.func 30) #[] #[] := rfl
  have hcf := enter_copyP #[.slice (some ⟨b, off, none⟩) N cap] w
  have e : (execOp a.eval o).run Tryz.prog w = .ok (.enter 30 #[.slice (some ⟨b, off, none⟩) N cap]) w := by
    simp [execOp, hop, resolve, invoke, hx, hf, Deferred.ofValue, hcf]
  show o.upon Tryz.prog a K Q ((execOp a.eval o).run Tryz.prog w)
  rw [e, Oper.upon_enter]
  subst hN
  refine (copypr_any b off cap xs w hl hr).mono ?_
  rintro e w' ⟨a', N', c', rfl, ho, _, hb⟩
  exact hK a' N' c' w' ho hb
theorem infoPP2 : SliceInfo 22 := sliceInfo_of (by kernel_rfl)
set_option maxRecDepth 100000 in
set_option maxHeartbeats 2000000 in
theorem hpairs (q : Nat) (V : Nat → Value) (ty : Nat → TypeId) (E : Nat → List HE) (ao : Option Addr) (N cap : Nat) (xs : List (Int × Int)) (w : World) (hN : N = xs.length) (hl : xs.length ≤ 8796093022000) (hr : PrsB w ao xs) (hG : HInv w q V ty E) (hes : (E 8).length ≤ 4900000000000) (t4 : ty 16 = 22) (t5 : ty 17 = 22) (ht : 82 ≠ 35 ∧ ∀ i, 82 ≠ ty i) :
    Calls Tryz.prog 6 #[.pointer (some ⟨q, 0, none⟩), .slice ao N cap] w fun e w' => e = .returned (.slice (some ⟨w.heap.size, 0, none⟩) xs.length (xs.length + 3)) ∧ ∃ V' x, HInv w' q V' ty (updE E 8 x) ∧ x.g = w.heap.size ∧ x.t = 82 ∧ x.sz = 2 ∧ (∃ zs : List (Int × Int), x.cs = symCells zs ∧ zs.take xs.length = xs) ∧ HF w w' q V V' := by
  subst hN
  obtain ⟨i0, hi, hz0, hz1, hz2⟩ := infoPrB_parts
  have HB2 : Hid (i0.bytes * (xs.length + 3) ≤ 281474976710656) := by show _ ≤ _; rw [hz2]; omega
  have HB3 : Hid (xs.length + 3 ≤ maxLen) := by show _ ≤ _; unfold maxLen; omega
  go_enter Tryz.func6, Tryz.ntmps6
  go_wp2_with (at_make; refine wpList_make_full _ rfl _ _ 22 rfl 0 82 i0 (.agg #[.int .i64 0, .int .i64 0]) 2 Tryz.underlying22 hi hz0 hz1 _ _ _ _ (xs.length + 3) rfl rfl (by omega) (by omega) HB2.out HB3.out (Nat.zero_le _) ?_; intro w0 hown0 hgrow0)
  have hb0 : Below w.heap.size w w0 := (Below.refl _ _).grown hgrow0 (Nat.le_refl _) (fun k h => by cases h)
  obtain ⟨zs0, hzl0, hF0⟩ := fullP_of_made hown0 rfl
  clear hown0 hgrow0
  go_loopw [6] (fun i wr => ∃ (j : Nat) (zs : List (Int × Int)), i = .int .i64 j ∧ j ≤ xs.length + 3 ∧ zs.length = xs.length + 3 ∧ FullPr wr w.heap.size zs ∧ Below w.heap.size w wr) (fun i _ => xs.length + 3 - (intOf i).toNat)
  case atStart => exact ⟨0, zs0, rfl, by omega, hzl0, hF0, hb0⟩
  case round =>
    obtain ⟨j, zs, rfl, hj, hzl, hF, hb⟩ := hrel
    clear hb0 hF0 hzl0
    by_cases hlt : j < xs.length + 3
    · obtain ⟨ck, ck'⟩ := hF.cell j (by omega)
      have fk := hF.free (j * 2)
      have fk' := hF.free (j * 2 + 1)
      go_wp2_with (go_at_call 29; refine (markpr_any j wr (by omega)).mono ?_; rintro e w4 ⟨m, rfl, hb4⟩; have hF4 := hF.later (hb4.block _ (lt_of_block hF.hg)); obtain ⟨ck4, ck5⟩ := hF4.cell j (by omega); have fk4 := hF4.free (j * 2); have fk5 := hF4.free (j * 2 + 1))
      go_roundw
      case rel => exact ⟨j + 1, zs.set j (m, 0), by go_num, by omega, by simp; omega, hF4.set j m 0, ((hb.trans (hb4.mono hb.size)).setCell (Nat.le_refl _) _).setCell (Nat.le_refl _) _⟩
      case measure => simp [intOf]; omega
    · go_wp2
      clear hlt hj
      go_loopw [7] (fun i wr => ∃ (j : Nat) (zs : List (Int × Int)), i = .int .i64 j ∧ j ≤ xs.length ∧ zs.length = xs.length + 3 ∧ zs.take j = xs.take j ∧ FullPr wr w.heap.size zs ∧ Below w.heap.size w wr) (fun i _ => xs.length - (intOf i).toNat)
      case atStart => exact ⟨0, zs, rfl, by omega, hzl, rfl, hF, hb⟩
      case round =>
        clear hF hzl hb
        obtain ⟨j, zs, rfl, hj, hzl, hzt, hF, hb⟩ := hrel
        by_cases hlt : j < xs.length
        · obtain ⟨b, off, rfl, hbl, hc⟩ := hr (fun e => by subst e; simp at hlt)
          have hcj := (hb.cell (p := ⟨b, off + j * 2, none⟩) hbl).trans (hc j hlt).1
          have hcj' := (hb.cell (p := ⟨b, off + j * 2 + 1, none⟩) hbl).trans (hc j hlt).2
          obtain ⟨ck, ck'⟩ := hF.cell j (by omega)
          have fk := hF.free (j * 2)
          have fk' := hF.free (j * 2 + 1)
          have FS : Hid _ := hF.set j
          have HT : Hid ((zs.set j (xs.getD j (0, 0))).take (j + 1) = xs.take (j + 1)) := take_set_stepP hzt hlt (by omega)
          clear hc hzt
          generalize hx : xs.getD j (0, 0) = x at *
          obtain ⟨x1, x2⟩ := x
          simp only at hcj hcj'
          clear hx
          go_wp2
          go_roundw
          case rel => exact ⟨j + 1, zs.set j (x1, x2), by go_num, by omega, by simp; omega, HT.out, FS.out x1 x2, (hb.setCell (Nat.le_refl _) _).setCell (Nat.le_refl _) _⟩
          case measure => simp [intOf]; omega
        · obtain rfl : j = xs.length := by omega
          rw [List.take_length] at hzt
          have HZT : Hid (zs.take xs.length = xs) := hzt
          clear hzt hj
          have hG2 := hG.later hb
          have hA := hG2.later (below_alloc wr (.cells #[Value.slice (some ⟨w.heap.size, 0, none⟩) (xs.length + 3) (xs.length + 3)] 22))
          have HLF : Hid (((E 8).map HE.fst).length ≤ 5864062014720) := by show _ ≤ _; simp; omega
          have HLN : Hid (((E 8).map HE.snd).length ≤ 5864062014720) := by show _ ≤ _; simp; omega
          have R4 : Hid (HL 22 (wr.alloc (.cells #[Value.slice (some ⟨w.heap.size, 0, none⟩) (xs.length + 3) (xs.length + 3)] 22)) (V 16) ((E 8).map HE.fst)) := by have := hA.row 16; rw [t4] at this; exact this
          have c0 := hG2.cell (i := 16) (by omega)
          have AF0 : Hid (∀ w5 L5, Grew (wr.alloc (.cells #[Value.slice (some ⟨w.heap.size, 0, none⟩) (xs.length + 3) (xs.length + 3)] 22)) w5 (V 16) L5 → w5.cell? ⟨q, 16, none⟩ = some (V 16) ∧ w5.frozen? ⟨q, 16, none⟩ = false) := fun w5 L5 hg => by
            have b := (hg.grown.block q (lt_of_block hA.hq) (hA.ne 16)).trans hA.hq
            exact ⟨by simp only [World.cell?, b]; exact hArr_get V (by omega), by simp [World.frozen?, b]⟩
          have HA : Hid _ := hA
          clear hA hG2
          generalize hV4 : V 16 = L at *
          go_wp2_with (at_builtin; refine wpList_hl_append Tryz.underlying31 infoPP2 rfl _ _ rfl L ((E 8).map HE.fst) rfl R4.out wr.heap.size 1 (.slice (some ⟨w.heap.size, 0, none⟩) (xs.length + 3) (xs.length + 3)) rfl (cell_newI wr _ _) rfl HLF.out ?_; intro L5 w5 hl5 hg5; obtain ⟨a5, N5, c5, rfl⟩ := hl5.slice3; obtain ⟨d1, d2⟩ := AF0.out w5 _ hg5)
          obtain ⟨hG6, hf6⟩ := HA.out.store (i := 16) (v' := .slice a5 N5 c5) (s' := (E 8).map HE.fst ++ [.slice (some ⟨w.heap.size, 0, none⟩) (xs.length + 3) (xs.length + 3)]) (by rw [hV4]; exact hg5) (by rw [t4]; exact hl5)
          have hF6 := (hF.later ((below_alloc wr (.cells #[Value.slice (some ⟨w.heap.size, 0, none⟩) (xs.length + 3) (xs.length + 3)] 22)).block _ (lt_of_block hF.hg)))
          have hF7 := hF6.later (HA.out.other hf6 hF6.hg ht)
          have HF6 : Hid _ := hf6
          clear hF6 d1 d2 hl5 hg5 c0 AF0 R4 hf6
          generalize (Value.slice a5 N5 c5) = L6 at *
          generalize w5.setCell ⟨q, 16, none⟩ L6 = w6 at *
          have hGd := hG6.later (Below.refl _ _).drew
          have e1 : w6.cell? ⟨q, 17, none⟩ = some (V 17) := hG6.cell (i := 17) (by omega)
          have hR6 := hF7.row
          have HZ : Hid (zs.length ≤ 8796093022208) := by show _ ≤ _; omega
          have AF : Hid (∀ w1 o, Below w6.drew.heap.size w6.drew w1 → w1.cell? ⟨q, 17, none⟩ = some (V 17) ∧ (w1.alloc o).cell? ⟨q, 17, none⟩ = some (V 17) ∧ HL 22 (w1.alloc o) (V 17) ((E 8).map HE.snd)) := fun w1 o hb => by
            have r1 := hGd.later hb
            have r2 := r1.later (below_alloc w1 o)
            refine ⟨r1.cell (i := 17) (by omega), r2.cell (i := 17) (by omega), ?_⟩
            have := r2.row 17
            rw [t5] at this
            exact this
          have AF2 : Hid (∀ w1 o w2 W2, Below w6.drew.heap.size w6.drew w1 → Grew (w1.alloc o) w2 (V 17) W2 → w2.cell? ⟨q, 17, none⟩ = some (V 17) ∧ w2.frozen? ⟨q, 17, none⟩ = false) := fun w1 o w2 W2 hb hg => by
            have h1 := (hGd.later hb).later (below_alloc _ o)
            have b := (hg.grown.block q (lt_of_block h1.hq) (h1.ne 17)).trans h1.hq
            exact ⟨by simp only [World.cell?, b]; exact hArr_get _ (by omega), by simp [World.frozen?, b]⟩
          have HGd : Hid _ := hGd
          have HG6 : Hid _ := hG6
          clear hGd hG6
          generalize hV5 : V 17 = W at *
          go_region_law (first
            | (refine step_copyP (by rfl) _ (by rfl) w.heap.size 0 (xs.length + 3) (xs.length + 3) zs (by rfl) hzl.symm HZ.out hR6 ?_; intro a8 N8 c8 w8 ho8 hb8; obtain ⟨f0, f1, f2⟩ := AF.out w8 (.cells #[.slice a8 N8 c8] 22) hb8)
            | (refine step_hl_append Tryz.underlying31 infoPP2 (by rfl) _ _ (by rfl) W ((E 8).map HE.snd) (by rfl) f2 w8.heap.size 1 (.slice a8 N8 c8) (by rfl) (cell_newI w8 _ _) (by rfl) HLN.out ?_; intro W9 w9 hl9 hg9; obtain ⟨a9, N9, c9, rfl⟩ := hl9.slice3; obtain ⟨m0, m1⟩ := AF2.out w8 _ w9 _ hb8 hg9))
          all_goals go_wp2
          all_goals go_ret
          all_goals
            have hN8 := yp_cnt ho8
            subst hN8
            have hI8 := (HGd.out.later hb8).later (below_alloc w8 (.cells #[.slice a8 zs.length c8] 22))
            obtain ⟨hG9, hf9⟩ := hI8.store (i := 17) (v' := .slice a9 N9 c9) (s' := (E 8).map HE.snd ++ [.slice a8 zs.length c8]) (by show Grew _ _ (V 17) _; rw [hV5]; exact hg9) (by rw [t5]; exact hl9)
            have hfa : HF w6 (w8.alloc (.cells #[.slice a8 zs.length c8] 22)) q (updV V 16 L6) (updV V 16 L6) := HF.ofBelow ((Below.refl _ _).drew.trans (hb8.trans ((below_alloc w8 _).mono hb8.size)))
            have hfx := hfa.trans hf9
            have hF9 := hF7.later (HG6.out.other hfx hF7.hg ht)
            have ho9 := row_kept (ho8.later (below_alloc _ _)) (w' := w9.setCell ⟨q, 17, none⟩ (.slice a9 N9 c9)) fun k C _ hk => hI8.other hf9 hk ht
            have hend := (HF.ofBelow hb).trans ((HF.ofBelow (below_alloc wr _)).trans (HF6.out.trans hfx))
            refine ⟨rfl, _, ⟨82, 2, w.heap.size, zs.length, a8, c8, symCells zs⟩, HI.add (κ := 8) (by rw [← hzl] at hG9; exact hG9) ⟨symCells_len zs, by show zs.length ≤ _; omega, hF9.hg, ho9⟩ ht, rfl, rfl, rfl, ⟨zs, rfl, HZT.out⟩, hend⟩
end Go.Proofs.YtcgghlaifmlpiaaGreatDoor
namespace Go.Proofs.YtcgghlaifmlpiaaGreatDoor
set_option linter.unusedVariables false
open Go.RowKit

/-- The types of a Given's lists, where only numbers and pairs are handed in. -/
def tyQ : Nat → TypeId := fun i => if i < 16 then 46 else 22
theorem tyQ_q : ∀ i, 35 ≠ tyQ i := fun i => by unfold tyQ; split <;> decide
def OkQ (t : TypeId) : Prop := t ≠ 35 ∧ t ≠ 46 ∧ t ≠ 22
theorem OkQ.ty {t : TypeId} (h : OkQ t) : t ≠ 35 ∧ ∀ i, t ≠ tyQ i := ⟨h.1, fun i => by
  unfold tyQ
  split
  · exact h.2.1
  · exact h.2.2⟩
theorem okQ_int : OkQ 3 := by unfold OkQ; decide
theorem okQ_pair : OkQ 82 := by unfold OkQ; decide
/-- What a handing in leaves: blocks of all other types. -/
structure Otq (w w' : World) : Prop where
  size : w.heap.size ≤ w'.heap.size
  blk : ∀ (b : Nat) (C : Array Value) (t : TypeId), w.heap[b]? = some (.cells C t (0, 0)) → OkQ t → w'.heap[b]? = w.heap[b]?
theorem Otq.refl (w : World) : Otq w w := ⟨Nat.le_refl _, fun _ _ _ _ _ => rfl⟩
theorem Otq.trans {w w1 w2 : World} (h : Otq w w1) (k : Otq w1 w2) : Otq w w2 := ⟨Nat.le_trans h.size k.size, fun b C t hb ht => (k.blk b C t ((h.blk b C t hb ht).trans hb) ht).trans (h.blk b C t hb ht)⟩
theorem Otq.ofBelow {w w' : World} (h : Below w.heap.size w w') : Otq w w' := ⟨h.size, fun b _ _ hb _ => h.block b (lt_of_block hb)⟩
/-- Numbers, pairs at the head of a block. -/
def NBq (w : World) (g : Nat) (xs : List Int) : Prop := ∃ zs : List Int, w.heap[g]? = some (.cells (zs.map (Value.int .i64 ·)).toArray 3 (0, 0)) ∧ zs.take xs.length = xs
def PBq (w : World) (g : Nat) (xs : List (Int × Int)) : Prop := ∃ zs : List (Int × Int), w.heap[g]? = some (.cells (symCells zs).toArray 82 (0, 0)) ∧ zs.take xs.length = xs
theorem NBq.oth {w w' : World} {g : Nat} {xs : List Int} (h : NBq w g xs) (ho : Otq w w') : NBq w' g xs := by obtain ⟨zs, h1, h2⟩ := h; exact ⟨zs, (ho.blk _ _ _ h1 okQ_int).trans h1, h2⟩
theorem PBq.oth {w w' : World} {g : Nat} {xs : List (Int × Int)} (h : PBq w g xs) (ho : Otq w w') : PBq w' g xs := by obtain ⟨zs, h1, h2⟩ := h; exact ⟨zs, (ho.blk _ _ _ h1 okQ_pair).trans h1, h2⟩
theorem take_getDq {α : Type} {zs xs : List α} {d : α} (h : zs.take xs.length = xs) {i : Nat} (hi : i < xs.length) : i < zs.length ∧ xs.getD i d = zs.getD i d := by
  have hz : i < zs.length := by have := congrArg List.length h; simp at this; omega
  refine ⟨hz, ?_⟩
  rw [← h]
  simp [List.getD, hi]
theorem NBq.row {w : World} {g : Nat} {xs : List Int} (h : NBq w g xs) : InRow w (some ⟨g, 0, none⟩) xs := by
  obtain ⟨zs, h1, h2⟩ := h
  refine fun _ => ⟨g, 0, rfl, lt_of_block h1, fun i hi => ?_⟩
  obtain ⟨hz, e⟩ := take_getDq (d := (0 : Int)) h2 hi
  rw [Nat.zero_add, cellq_any h1, e]
  simp [List.getD, hz]
theorem PBq.row {w : World} {g : Nat} {xs : List (Int × Int)} (h : PBq w g xs) : PrsB w (some ⟨g, 0, none⟩) xs := by
  obtain ⟨zs, h1, h2⟩ := h
  exact FullPr.rowTake ⟨h1⟩ h2
/-- Only numbers and pairs were handed in. -/
structure StQ (E : Nat → List HE) : Prop where
  int : ∀ e ∈ E 1, e.t = 3 ∧ e.sz = 1 ∧ ∃ zs : List Int, e.cs = zs.map (Value.int .i64 ·)
  pair : ∀ e ∈ E 8, e.t = 82 ∧ e.sz = 2 ∧ ∃ zs : List (Int × Int), e.cs = symCells zs
  no : ∀ κ, κ ≠ 1 → κ ≠ 8 → E κ = []
/-- So it stands, its blocks from B on. -/
structure HQ (B : Nat) (w0 w : World) (q : Nat) (V : Nat → Value) (E : Nat → List HE) (n1 n8 : Nat) : Prop where
  inv : HInv w q V tyQ E
  lo : ∀ i k, (V i).ownBlock = some k → B ≤ k
  q : B ≤ q
  bel : Below B w0 w
  sz : B ≤ w.heap.size
  st : StQ E
  l1 : (E 1).length = n1
  l8 : (E 8).length = n8
section
variable {B : Nat} {w0 w w' : World} {q : Nat} {V : Nat → Value} {E : Nat → List HE} {n1 n8 : Nat}
theorem HQ.later (h : HQ B w0 w q V E n1 n8) (hb : Below w.heap.size w w') : HQ B w0 w' q V E n1 n8 := ⟨h.inv.later hb, h.lo, h.q, h.bel.trans (hb.mono h.sz), Nat.le_trans h.sz hb.size, h.st, h.l1, h.l8⟩
theorem hq_oth {V' : Nat → Value} (h : HInv w q V tyQ E) (hf : HF w w' q V V') : Otq w w' := ⟨hf.size, fun b C t hb ht => h.other hf hb ht.ty⟩
theorem updq_same (E : Nat → List HE) (κ : Nat) (x : HE) : updE E κ x κ = E κ ++ [x] := by simp [updE]
theorem updq_other (E : Nat → List HE) {κ j : Nat} (x : HE) (h : j ≠ κ) : updE E κ x j = E j := by simp [updE, h]
theorem loq_then {V' : Nat → Value} (hf : HF w w' q V V') (hs : B ≤ w.heap.size) (hl : ∀ i k, (V i).ownBlock = some k → B ≤ k) : ∀ i k, (V' i).ownBlock = some k → B ≤ k := fun i k hk => by
  rcases hf.mv i k hk with r | r
  · exact hl i k r
  · omega
theorem hq_int (h : HQ B w0 w q V E n1 n8) (hE : n1 ≤ 5864062014700) (ao : Option Addr) (cap : Nat) (xs : List Int) (hl : xs.length ≤ 17592186044000) (hr : InRow w ao xs) :
    Calls Tryz.prog 54 #[.pointer (some ⟨q, 0, none⟩), .slice ao xs.length cap] w fun e w' => e = .returned (.slice (some ⟨w.heap.size, 0, none⟩) xs.length (xs.length + 3)) ∧ (∃ V' E', HQ B w0 w' q V' E' (n1 + 1) n8 ∧ HF w w' q V V') ∧ Otq w w' ∧ Below B w w' ∧ NBq w' w.heap.size xs := by
  refine (hints q V tyQ E ao _ cap xs w rfl (by omega) hr h.inv (by have := h.l1; omega) rfl rfl okQ_int.ty).mono ?_
  rintro e w' ⟨rfl, V', x, hI, hg, ht, hz, ⟨zs, hc, hk⟩, hf⟩
  have hb := hf.below h.sz h.q h.lo
  refine ⟨rfl, ⟨V', updE E 1 x, ⟨hI, loq_then hf h.sz h.lo, h.q, h.bel.trans hb, Nat.le_trans h.sz hf.size, ⟨fun e he => ?_, fun e he => ?_, fun κ k1 k8 => ?_⟩, by rw [updq_same]; simp [h.l1], by rw [updq_other _ _ (by decide)]; exact h.l8⟩, hf⟩, hq_oth h.inv hf, hb, ?_⟩
  · rw [updq_same] at he
    rcases List.mem_append.1 he with r | r
    · exact h.st.int e r
    · simp at r; subst r; exact ⟨ht, hz, zs, hc⟩
  · rw [updq_other _ _ (by decide)] at he; exact h.st.pair e he
  · rw [updq_other _ _ k1]; exact h.st.no κ k1 k8
  · have ha := (hI.at_ 1 x (by rw [updq_same]; simp)).hg
    rw [hc, ht, hg] at ha
    exact ⟨zs, ha, hk⟩
theorem hq_pair (h : HQ B w0 w q V E n1 n8) (hE : n8 ≤ 4900000000000) (ao : Option Addr) (cap : Nat) (xs : List (Int × Int)) (hl : xs.length ≤ 8796093022000) (hr : PrsB w ao xs) :
    Calls Tryz.prog 6 #[.pointer (some ⟨q, 0, none⟩), .slice ao xs.length cap] w fun e w' => e = .returned (.slice (some ⟨w.heap.size, 0, none⟩) xs.length (xs.length + 3)) ∧ (∃ V' E', HQ B w0 w' q V' E' n1 (n8 + 1) ∧ HF w w' q V V') ∧ Otq w w' ∧ Below B w w' ∧ PBq w' w.heap.size xs := by
  refine (hpairs q V tyQ E ao _ cap xs w rfl (by omega) hr h.inv (by have := h.l8; omega) rfl rfl okQ_pair.ty).mono ?_
  rintro e w' ⟨rfl, V', x, hI, hg, ht, hz, ⟨zs, hc, hk⟩, hf⟩
  have hb := hf.below h.sz h.q h.lo
  refine ⟨rfl, ⟨V', updE E 8 x, ⟨hI, loq_then hf h.sz h.lo, h.q, h.bel.trans hb, Nat.le_trans h.sz hf.size, ⟨fun e he => ?_, fun e he => ?_, fun κ k1 k8 => ?_⟩, by rw [updq_other _ _ (by decide)]; exact h.l1, by rw [updq_same]; simp [h.l8]⟩, hf⟩, hq_oth h.inv hf, hb, ?_⟩
  · rw [updq_other _ _ (by decide)] at he; exact h.st.int e he
  · rw [updq_same] at he
    rcases List.mem_append.1 he with r | r
    · exact h.st.pair e r
    · simp at r; subst r; exact ⟨ht, hz, zs, hc⟩
  · rw [updq_other _ _ k8]; exact h.st.no κ k1 k8
  · have ha := (hI.at_ 8 x (by rw [updq_same]; simp)).hg
    rw [hc, ht, hg] at ha
    exact ⟨zs, ha, hk⟩
/-- A new Given. -/
theorem hq_new (w : World) : HQ w.heap.size w (w.alloc (.cells #[hNil, hNil, hNil, hNil, hNil, hNil, hNil, hNil, hNil, hNil, hNil, hNil, hNil, hNil, hNil, hNil, hNil, hNil, hNil, hNil, hNil, hNil] 35)) w.heap.size (fun _ => hNil) (fun _ => []) 0 0 :=
  ⟨hnew w tyQ tyQ_q, (fun _ k hk => by simp [Value.ownBlock] at hk), Nat.le_refl _, below_alloc w _, (below_alloc w _).size, ⟨(fun e he => by cases he), (fun e he => by cases he), fun _ _ _ => rfl⟩, rfl, rfl⟩
/-- A list of lists beside the Given's own grows. -/
theorem HInv.grewq {v v' : Value} {ss : List Value} (h : HInv w q V tyQ E) (hv : HL 46 w v ss) (hap : ∀ i b, v.ownBlock = some b → (V i).ownBlock ≠ some b) (g : Grew w w' v v') : HInv w' q V tyQ E :=
  ⟨(g.grown.block q (lt_of_block h.hq) (hv.ne h.hq (by decide))).trans h.hq, fun i => (h.row i).kept fun k hk => g.grown.block k ((h.row i).lt k hk) (fun e => hap i k e.symm hk), h.apart, fun κ e he => (h.at_ κ e he).keptBy fun k C hk => g.grown.block k (lt_of_block hk) (hv.ne hk ((h.te κ e he).2 2)), h.tq, h.te⟩
theorem HQ.grew {v v' : Value} {ss : List Value} (h : HQ B w0 w q V E n1 n8) (hv : HL 46 w v ss) (hap : ∀ i b, v.ownBlock = some b → (V i).ownBlock ≠ some b) (hlo : ∀ b, v.ownBlock = some b → B ≤ b) (g : Grew w w' v v') : HQ B w0 w' q V E n1 n8 ∧ Below B w w' ∧ Otq w w' := by
  have hb : Below B w w' := (Below.refl _ _).grown g.grown h.sz hlo
  exact ⟨⟨h.inv.grewq hv hap g, h.lo, h.q, h.bel.trans hb, Nat.le_trans h.sz g.grown.size, h.st, h.l1, h.l8⟩, hb, ⟨g.grown.size, fun b C t hC ht => g.grown.block b (lt_of_block hC) (hv.ne hC ht.2.1)⟩⟩
end
theorem gnelq : 35 ≠ 46 := by decide
theorem infoLQ : SliceInfo 46 := sliceInfo_of (by kernel_rfl)
/-- What stands in the list of the lists that were handed in. -/
def entQ (L : List (List Int)) (gs : List Nat) : List Value := (List.range gs.length).map fun j => .slice (some ⟨gs.getD j 0, 0, none⟩) (L.getD j []).length ((L.getD j []).length + 3)
theorem entQ_snoc (L : List (List Int)) (gs : List Nat) (g : Nat) : entQ L (gs ++ [g]) = entQ L gs ++ [.slice (some ⟨g, 0, none⟩) (L.getD gs.length []).length ((L.getD gs.length []).length + 3)] := by
  unfold entQ
  rw [List.length_append, List.length_singleton, List.range_succ, List.map_append]
  congr 1
  · apply List.map_congr_left
    intro j hj
    have := List.mem_range.1 hj
    simp [List.getD, List.getElem?_append_left this]
  · simp [List.getD]
theorem entq_row {w : World} {a : Option Addr} {n c : Nat} {L : List (List Int)} {gs : List Nat} (h : HL 46 w (.slice a n c) (entQ L gs)) (hl : gs.length = L.length) (hn : ∀ j, j < gs.length → NBq w (gs.getD j 0) (L.getD j [])) : n = L.length ∧ LrwB w a L := by
  have hle : (entQ L gs).length = L.length := by simp [entQ, hl]
  refine ⟨?_, fun hne => ?_⟩
  · obtain ⟨a', c', e⟩ := h.slice
    simp only [Value.slice.injEq] at e
    rw [e.2.1, hle]
  · have h0 : 0 < L.length := List.length_pos_iff.2 hne
    have each : ∀ i, i < L.length → (entQ L gs)[i]? = some (.slice (some ⟨gs.getD i 0, 0, none⟩) (L.getD i []).length ((L.getD i []).length + 3)) := fun i hi => by
      simp [entQ, show i < gs.length by omega]
    obtain ⟨g, c', e, _⟩ := h.at 0 _ (each 0 h0)
    simp only [Value.slice.injEq] at e
    obtain ⟨rfl, _, _⟩ := e
    have hlt : g < w.heap.size := h.lt g rfl
    refine ⟨g, 0, rfl, hlt, fun i hi => ?_⟩
    obtain ⟨g', c'', e', hc⟩ := h.at i _ (each i hi)
    simp only [Value.slice.injEq, Option.some.injEq, Addr.mk.injEq, and_true] at e'
    obtain ⟨rfl, _, _⟩ := e'
    rw [Nat.zero_add]
    exact ⟨_, _, hc, (hn i (by omega)).row⟩
/-- Lists that were handed in, beside the Given's own. -/
def LsKq (w : World) (V : Nat → Value) (v : Value) (L : List (List Int)) : Prop := ∃ gs : List Nat, HL 46 w v (entQ L gs) ∧ gs.length = L.length ∧ (∀ j, j < gs.length → NBq w (gs.getD j 0) (L.getD j [])) ∧ (∀ i b, v.ownBlock = some b → (V i).ownBlock ≠ some b)
theorem LsKq.row {w : World} {V : Nat → Value} {a : Option Addr} {n c : Nat} {L : List (List Int)} (h : LsKq w V (.slice a n c) L) : LrwB w a L := by
  obtain ⟨gs, h1, h2, h3, _⟩ := h
  exact (entq_row h1 h2 h3).2
theorem LsKq.later {w w' : World} {V : Nat → Value} {v : Value} {L : List (List Int)} (h : LsKq w V v L) (hb : Below w.heap.size w w') : LsKq w' V v L := by
  obtain ⟨gs, h1, h2, h3, h4⟩ := h
  exact ⟨gs, h1.later hb, h2, fun j hj => (h3 j hj).oth (Otq.ofBelow hb), h4⟩
theorem LsKq.hf {w w' : World} {q : Nat} {V V' : Nat → Value} {E : Nat → List HE} {v : Value} {L : List (List Int)} (h : LsKq w V v L) (hi : HInv w q V tyQ E) (hf : HF w w' q V V') (ho : Otq w w') : LsKq w' V' v L := by
  obtain ⟨gs, h1, h2, h3, h4⟩ := h
  refine ⟨gs, h1.kept (fun k hk => hf.block k (h1.lt k hk) (fun e => h1.ne hi.hq gnelq (e ▸ hk.symm)) (fun i e => h4 i k hk e.symm)), h2, fun j hj => (h3 j hj).oth ho, fun i b hb hV => ?_⟩
  rcases hf.mv i b hV with r | r
  · exact h4 i b hb r
  · have := h1.lt b hb; omega
def LsPq (B : Nat) (w0 w : World) (q n1 n8 : Nat) (L : List (List Int)) (e : Ending) (w' : World) : Prop := ∃ a c V' E', e = .returned (.slice a L.length c) ∧ HQ B w0 w' q V' E' (n1 + L.length) n8 ∧ LsKq w' V' (.slice a L.length c) L ∧ Otq w w' ∧ Below B w w'
set_option maxRecDepth 100000 in
set_option maxHeartbeats 4000000 in
theorem hq_lists {B : Nat} {w0 w : World} {q : Nat} {V : Nat → Value} {E : Nat → List HE} {n1 n8 : Nat} (h : HQ B w0 w q V E n1 n8) (fa : Option Addr) (fc : Nat) (L : List (List Int)) (hE : n1 + L.length ≤ 5864062014700) (hL : ∀ wr, Below B w wr → LrwB wr fa L) (hll : ∀ l ∈ L, l.length ≤ 17592186044000) :
    Calls Tryz.prog 20 #[.pointer (some ⟨q, 0, none⟩), .slice fa L.length fc] w fun e w' => LsPq B w0 w q n1 n8 L e w' := by
  have HL0 : Hid (∀ wr, Below B w wr → LrwB wr fa L) := hL
  have HLL : Hid (∀ l ∈ L, l.length ≤ 17592186044000) := hll
  have H0 : Hid (HQ B w0 w q V E n1 n8) := h
  have HSZ : Hid (B ≤ w.heap.size) := h.sz
  clear hL hll h
  go_enter Tryz.func20, Tryz.ntmps20
  go_wp2
  go_loopw [5, 6] (fun v i wr => ∃ (gs : List Nat) (V' : Nat → Value) (E' : Nat → List HE), gs.length ≤ L.length ∧ i = .int .i64 gs.length ∧ HL 46 wr v (entQ L gs) ∧ (∀ j, j < gs.length → NBq wr (gs.getD j 0) (L.getD j [])) ∧ HQ B w0 wr q V' E' (n1 + gs.length) n8 ∧ (∀ i b, v.ownBlock = some b → (V' i).ownBlock ≠ some b) ∧ (∀ b, v.ownBlock = some b → B ≤ b) ∧ Below B w wr ∧ Otq w wr) (fun _ i _ => L.length - (intOf i).toNat)
  case atStart => exact ⟨[], V, E, Nat.zero_le _, rfl, HL.nil _ _, fun j hj => absurd hj (Nat.not_lt_zero j), H0.out, (fun i b hb => by cases hb), (fun b hb => by cases hb), Below.refl _ _, Otq.refl _⟩
  case round =>
    obtain ⟨gs, V1, E1, hk, rfl, hv, hn, hK, hap, hlo, hb, ho⟩ := hrel
    obtain ⟨va, vn, vc, rfl⟩ := hv.slice3
    have P : Hid (HL 46 wr (.slice va vn vc) (entQ L gs) ∧ (∀ j, j < gs.length → NBq wr (gs.getD j 0) (L.getD j [])) ∧ HQ B w0 wr q V1 E1 (n1 + gs.length) n8 ∧ (∀ i b, (Value.slice va vn vc).ownBlock = some b → (V1 i).ownBlock ≠ some b) ∧ (∀ b, (Value.slice va vn vc).ownBlock = some b → B ≤ b) ∧ Below B w wr ∧ Otq w wr) := ⟨hv, hn, hK, hap, hlo, hb, ho⟩
    clear hv hn hK hap hlo hb ho
    by_cases hlt : gs.length < L.length
    · obtain ⟨lb, lo, hfa, hlb, hlc⟩ := HL0.out wr P.out.2.2.2.2.2.1 (by intro e; rw [e] at hlt; simp at hlt)
      obtain ⟨la, lc, c0, hrow⟩ := hlc gs.length hlt
      have klt : (gs.length : Int) < (L.length : Int) := by omega
      have SN : Hid (∀ g, entQ L (gs ++ [g]) = entQ L gs ++ [.slice (some ⟨g, 0, none⟩) (L.getD gs.length []).length ((L.getD gs.length []).length + 3)]) := entQ_snoc L gs
      have NL : Hid (∀ (g : Nat) w', (∀ j, j < gs.length → NBq w' (gs.getD j 0) (L.getD j [])) → NBq w' g (L.getD gs.length []) → ∀ j, j < (gs ++ [g]).length → NBq w' ((gs ++ [g]).getD j 0) (L.getD j [])) := fun g w' h1 h2 j hj => by
        by_cases e : j = gs.length
        · subst e; simpa [List.getD] using h2
        · have hj' : j < gs.length := by simp at hj; omega
          have := h1 j hj'
          simpa [List.getD, List.getElem?_append_left hj'] using this
      have IC : Hid (Calls Tryz.prog 54 #[.pointer (some ⟨q, 0, none⟩), .slice la (L.getD gs.length []).length lc] wr fun e w' => e = .returned (.slice (some ⟨wr.heap.size, 0, none⟩) (L.getD gs.length []).length ((L.getD gs.length []).length + 3)) ∧ (∃ V' E', HQ B w0 w' q V' E' (n1 + gs.length + 1) n8 ∧ HF wr w' q V1 V') ∧ Otq wr w' ∧ Below B wr w' ∧ NBq w' wr.heap.size (L.getD gs.length [])) := hq_int P.out.2.2.1 (by omega) la lc (L.getD gs.length []) (HLL.out _ (by simp [List.getD, hlt])) hrow
      have LEN : Hid ((entQ L gs).length ≤ 5864062014720) := by show _ ≤ _; simp [entQ]; omega
      rw [hfa]
      clear hlc hrow hfa
      generalize L.getD gs.length [] = l at *
      go_wp2_with (first
        | (go_at_call 54; refine IC.out.mono ?_; rintro e w1 ⟨rfl, ⟨V2, E2, k2, f2⟩, o2, b2, nb2⟩; have Q : Hid (HL 46 w1 (.slice va vn vc) (entQ L gs) ∧ HQ B w0 w1 q V2 E2 (n1 + gs.length + 1) n8 ∧ (∀ i b, (Value.slice va vn vc).ownBlock = some b → (V2 i).ownBlock ≠ some b) ∧ Otq wr w1 ∧ Below B wr w1 ∧ NBq w1 wr.heap.size l) := ⟨P.out.1.kept (fun k hk => f2.block k (P.out.1.lt k hk) (fun e => P.out.1.ne P.out.2.2.1.inv.hq gnelq (e ▸ hk.symm)) (fun i e => P.out.2.2.2.1 i k hk e.symm)), k2, (fun i b hb hV => (f2.mv i b hV).elim (fun r => P.out.2.2.2.1 i b hb r) (fun r => absurd (P.out.1.lt b hb) (Nat.not_lt.2 r))), o2, b2, nb2⟩; clear k2 f2 o2 b2 nb2)
        | (at_builtin; refine wpList_hl_append Tryz.underlying24 infoLQ rfl _ _ rfl (.slice va vn vc) (entQ L gs) rfl (Q.out.1.later (below_alloc _ _)) w1.heap.size 1 (.slice (some ⟨wr.heap.size, 0, none⟩) l.length (l.length + 3)) rfl (cell_newI w1 _ _) rfl LEN.out ?_; intro v5 w5 hl5 hg5; obtain ⟨a5, m5, c5, rfl⟩ := hl5.slice3; have G5 : Hid (HL 46 w5 (.slice a5 m5 c5) (entQ L gs ++ [.slice (some ⟨wr.heap.size, 0, none⟩) l.length (l.length + 3)]) ∧ Grew (w1.alloc (.cells #[.slice (some ⟨wr.heap.size, 0, none⟩) l.length (l.length + 3)] 46)) w5 (.slice va vn vc) (.slice a5 m5 c5)) := ⟨hl5, hg5⟩; clear hl5 hg5))
      have hbA := below_alloc w1 (.cells #[.slice (some ⟨wr.heap.size, 0, none⟩) l.length (l.length + 3)] 46)
      have hKA := Q.out.2.1.later hbA
      obtain ⟨r1, r2, r3⟩ := hKA.grew (Q.out.1.later hbA) Q.out.2.2.1 P.out.2.2.2.2.1 G5.out.2
      have hoA : Otq wr w5 := Q.out.2.2.2.1.trans ((Otq.ofBelow hbA).trans r3)
      have hbW : Below B wr w5 := Q.out.2.2.2.2.1.trans ((hbA.mono Q.out.2.1.sz).trans r2)
      have R : Hid (HL 46 w5 (.slice a5 m5 c5) (entQ L (gs ++ [wr.heap.size])) ∧ (∀ j, j < (gs ++ [wr.heap.size]).length → NBq w5 ((gs ++ [wr.heap.size]).getD j 0) (L.getD j [])) ∧ HQ B w0 w5 q V2 E2 (n1 + (gs ++ [wr.heap.size]).length) n8 ∧ (∀ i b, (Value.slice a5 m5 c5).ownBlock = some b → (V2 i).ownBlock ≠ some b) ∧ (∀ b, (Value.slice a5 m5 c5).ownBlock = some b → B ≤ b) ∧ Below B w w5 ∧ Otq w w5) := by
        refine ⟨by rw [SN.out]; exact G5.out.1, NL.out _ _ (fun j hj => (P.out.2.1 j hj).oth hoA) (Q.out.2.2.2.2.2.oth ((Otq.ofBelow hbA).trans r3)), ?_, fun i b hb hV => ?_, fun b hb => ?_, P.out.2.2.2.2.2.1.trans hbW, P.out.2.2.2.2.2.2.trans hoA⟩
        · have : n1 + (gs ++ [wr.heap.size]).length = n1 + gs.length + 1 := by simp; omega
          rw [this]; exact r1
        · rcases G5.out.2.moved with r | ⟨k, r, hk⟩
          · exact Q.out.2.2.1 i b (r ▸ hb) hV
          · rw [hb] at r
            have := Option.some.inj r
            have := (hKA.inv.row i).lt b hV
            omega
        · rcases G5.out.2.moved with r | ⟨k, r, hk⟩
          · exact P.out.2.2.2.2.1 b (r ▸ hb)
          · rw [hb] at r
            have := Option.some.inj r
            have := hKA.sz
            omega
      clear hbA hKA r1 r2 r3 hoA hbW
      have GE : Hid ((gs ++ [wr.heap.size]).length = gs.length + 1) := by show _ = _; simp
      generalize gs ++ [wr.heap.size] = gs2 at *
      go_roundw
      case rel => exact ⟨gs2, V2, E2, by have := GE.out; omega, by rw [GE.out]; go_num, R.out⟩
      case measure => simp [intOf]; omega
    · have e : gs.length = L.length := by omega
      have q1 : vn = L.length := (entq_row P.out.1 e P.out.2.1).1
      have R : Hid (vn = L.length ∧ LsKq wr V1 (.slice va vn vc) L ∧ HQ B w0 wr q V1 E1 (n1 + L.length) n8) := ⟨q1, ⟨gs, P.out.1, e, P.out.2.1, P.out.2.2.2.1⟩, by rw [← e]; exact P.out.2.2.1⟩
      have klt : ¬ (gs.length : Int) < (L.length : Int) := by omega
      clear q1 e
      go_wp2
      go_ret
      exact ⟨va, vc, V1, E1, by rw [R.out.1]; rfl, R.out.2.2, by rw [← R.out.1]; exact R.out.2.1, P.out.2.2.2.2.2.2, P.out.2.2.2.2.2.1⟩
end Go.Proofs.YtcgghlaifmlpiaaGreatDoor
