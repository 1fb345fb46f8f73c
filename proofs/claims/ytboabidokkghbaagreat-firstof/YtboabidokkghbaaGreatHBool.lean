import Derived.Test.YtboabidokkghbaaGreatHListToHGiven
import Derived.Test.YtboabidokkghbaaGreatFBaseToFMem7
import Derived.Deep.RegionWith
namespace Go.Proofs.YtboabidokkghbaaGreat
set_option linter.unusedVariables false
open Go.RowKit

/-- A list of truths that is one's own. -/
def BL (w : World) (v : Value) (l : List Bool) : Prop := w.ownsRow 0 4 1 v l.length (l.map (.bool ·))
theorem bl_len {w : World} {v : Value} {l : List Bool} (h : BL w v l) : ∃ a c, v = .slice a l.length c := by
  rcases h.2 with ⟨rfl, h0⟩ | ⟨g, cap, cur, rfl, _⟩
  · exact ⟨none, 0, by rw [h0]⟩
  · exact ⟨_, _, rfl⟩
theorem BL.kept {w w' : World} {v : Value} {l : List Bool} (h : BL w v l) (hb : ∀ k, v.ownBlock = some k → w'.heap[k]? = w.heap[k]?) : BL w' v l := by
  refine ⟨h.1, ?_⟩
  rcases h.2 with q | ⟨g, cap, cur, rfl, h1, h2, h3⟩
  · exact .inl q
  · exact .inr ⟨g, cap, cur, rfl, h1, (hb g rfl).trans h2, h3⟩
theorem BL.lt {w : World} {v : Value} {l : List Bool} (h : BL w v l) : ∀ k, v.ownBlock = some k → k < w.heap.size := fun k hk => (World.ownsRow.lt h k hk).2
theorem BL.later {w w' : World} {v : Value} {l : List Bool} (h : BL w v l) (hb : Below w.heap.size w w') : BL w' v l := h.kept fun k hk => hb.block k (h.lt k hk)
theorem cell_newU (w : World) (x : Value) (t : TypeId) : (w.alloc (.cells #[x] t)).cell? ⟨w.heap.size, 0, none⟩ = some x := by
  have := heap_alloc_new w (.cells #[x] t)
  simp only [World.cell?, this]; rfl
set_option maxRecDepth 100000 in
set_option maxHeartbeats 1000000 in
theorem markbool_any (k : Nat) (w : World) (hk : k ≤ 140737488355400) :
    Calls Tryz.prog 57 #[.int .i64 987, .int .i64 k] w fun e w' => ∃ m : Bool, e = .returned (.bool m) ∧ Below w.heap.size w w' := by
  go_enter Tryz.func57, Tryz.ntmps57
  go_wp2
  go_ret
  exact ⟨_, rfl, by go_grown⟩
/-- A whole row of numbers behind an empty list. -/
theorem wpList_bl_copy {ops : Array Oper} {rest : List Oper} {o : Oper} {a : Act} {Q : Exit → Act → World → Prop} {w : World} (hgd : o.guard = none) (s x : Operand)
    (ho : o.op = .call { callee := .builtin .append, args := #[s, x], argTypes := #[41, 41] })
    (hs : a.eval s = .slice none 0 0) (b off c : Nat) (zs : List Bool) (hx : a.eval x = .slice (some ⟨b, off, none⟩) zs.length c) (hr : BRow w (some ⟨b, off, none⟩) zs) (hlen : zs.length ≤ 17592186044416)
    (hK : ∀ a' n' c' w', BL w' (.slice a' n' c') zs → Grew w w' (.slice none 0 0) (.slice a' n' c') → wpList Tryz.prog ops Q rest (a.put o.dst (.slice a' n' c')) w') : wpList Tryz.prog ops Q (o :: rest) a w := by
  obtain ⟨i0, hi, hz0, hz1, hz2⟩ := infoBool_parts
  refine wpList_append_own_at w hgd s x 41 ho 0 4 i0 (.bool false) 1 1 Tryz.underlying41 hi hz0 hz1 hz2 rfl (by decide) (.slice none 0 0) 0 [] hs (World.ownsRow_nil w 0 4 1) ⟨b, off, none⟩ zs.length c (zs.map (.bool ·)) hx (by simp) ?_ ?_ (by unfold maxLen; omega) (by omega) (Nat.zero_le _) ?_
  · intro j u hu
    have hj : j < zs.length := by have := (List.getElem?_eq_some_iff.1 hu).1; simpa using this
    obtain ⟨b', off', e, _, hc⟩ := hr (by intro h; subst h; simp at hj)
    simp at e
    obtain ⟨rfl, rfl⟩ := e
    rw [add_none, hc j hj, ← hu]
    simp [List.getD, hj]
  · intro u hu; obtain ⟨y, _, rfl⟩ := List.mem_map.1 hu; rfl
  · intro v' w' h2 h3 _ h5
    have h6 : BL w' v' zs := by unfold BL; simpa using h2
    obtain ⟨a', c', rfl⟩ := bl_len h6
    exact hK _ _ _ w' h6 ⟨h3, h5.imp id fun e => ⟨_, e, Nat.le_refl _⟩⟩
set_option maxRecDepth 100000 in
set_option maxHeartbeats 1000000 in
theorem copybool_any (b off cap : Nat) (zs : List Bool) (w : World) (hl : zs.length ≤ 17592186044416) (hr : BRow w (some ⟨b, off, none⟩) zs) :
    Calls Tryz.prog 58 #[.slice (some ⟨b, off, none⟩) zs.length cap] w fun e w' => ∃ a N c, e = .returned (.slice a N c) ∧ BL w' (.slice a N c) zs ∧ Below w.heap.size w w' := by
  go_enter Tryz.func58, Tryz.ntmps58
  go_wp2_with (at_builtin; refine wpList_bl_copy rfl _ _ rfl rfl b off cap zs rfl hr hl ?_; intro a2 n2 c2 w2 ho2 hg2)
  go_ret
  exact ⟨a2, n2, c2, rfl, ho2, ⟨hg2.grown.os, hg2.grown.tape, hg2.grown.output, hg2.grown.size, fun k hk => hg2.grown.block k hk (by simp [Value.ownBlock])⟩⟩
/-- Numbers that fill a block. -/
structure FullU (w : World) (g : Nat) (zs : List Bool) : Prop where
  hg : w.heap[g]? = some (.cells (zs.map (.bool ·)).toArray 4 (0, 0))
theorem FullU.cell {w : World} {g : Nat} {zs : List Bool} (h : FullU w g zs) (j : Nat) (hj : j < zs.length) : w.cell? ⟨g, j, none⟩ = some (.bool (zs.getD j false)) := by
  simp [World.cell?, h.hg, List.getD, hj]
theorem FullU.free {w : World} {g : Nat} {zs : List Bool} (h : FullU w g zs) (j : Nat) : w.frozen? ⟨g, j, none⟩ = false := by
  simp [World.frozen?, h.hg]
theorem FullU.set {w : World} {g : Nat} {zs : List Bool} (h : FullU w g zs) (j : Nat) (m : Bool) : FullU (w.setCell ⟨g, j, none⟩ (.bool m)) g (zs.set j m) := by
  refine ⟨?_⟩
  rw [heap_set h.hg]
  congr 2
  simp [List.map_set]
theorem FullU.later {w w' : World} {g : Nat} {zs : List Bool} (h : FullU w g zs) (hb : w'.heap[g]? = w.heap[g]?) : FullU w' g zs := ⟨hb.trans h.hg⟩
theorem FullU.row {w : World} {g : Nat} {zs : List Bool} (h : FullU w g zs) : BRow w (some ⟨g, 0, none⟩) zs :=
  fun _ => ⟨g, 0, rfl, lt_of_block h.hg, fun i hi => by rw [Nat.zero_add]; exact h.cell i hi⟩
theorem fullU_of_made {w : World} {g n : Nat} {vs : List Value} (h : w.ownsRow 0 4 1 (.slice (some ⟨g, 0, none⟩) n n) n vs) (hv : vs = (madeCells (Value.bool false).cells (n * 1)).toList) : ∃ zs : List Bool, zs.length = n ∧ FullU w g zs := by
  rcases h.2 with ⟨e, _⟩ | ⟨g', cap, cur, e, _, hg, _, _, hs, ht⟩
  · cases e
  · cases e
    refine ⟨List.replicate n false, by simp, ⟨?_⟩⟩
    rw [hg]
    have hc : cur.toList = vs := by rw [← ht, List.take_of_length_le (by simp; omega)]
    congr 2
    apply Array.toList_inj.1
    rw [hc, hv]
    apply List.ext_getElem
    · simp [madeCells]
    · intro k h1 h2
      simp [madeCells, Value.cells, Nat.mod_one]
theorem take_set_stepU {zs xs : List Bool} {j : Nat} (h : zs.take j = xs.take j) (hx : j < xs.length) (hz : j < zs.length) : (zs.set j (xs.getD j false)).take (j + 1) = xs.take (j + 1) := by
  rw [List.take_succ_eq_append_getElem hx, ← h, List.take_succ_eq_append_getElem (by simpa using hz), List.take_set_of_le (Nat.le_refl _)]
  simp [List.getD, hx]
theorem bl_cnt {w : World} {a : Option Addr} {n c : Nat} {l : List Bool} (h : BL w (.slice a n c) l) : n = l.length := by
  obtain ⟨a', c', e⟩ := bl_len h
  simp at e
  exact e.2.1
theorem enter_copyU (args : Array Value) (w : World) : (callFunc 58 args).run Tryz.prog w = .ok (.enter 58 args) w := by kernel_rfl
theorem step_copyU {ops : Array Oper} {o : Oper} {a : Act} {w : World} {K : Act → World → Prop} {Q : Exit → Act → World → Prop} {E : Prop}
    (hg : o.guard = none) (x : Operand) (hop : o.op = Op.call { callee := Callee.value (Operand.func 58), args := #[x], argTypes := #[41] })
    (b off N cap : Nat) (xs : List Bool) (hx : a.eval x = .slice (some ⟨b, off, none⟩) N cap) (hN : N = xs.length) (hl : xs.length ≤ 17592186044416) (hr : BRow w (some ⟨b, off, none⟩) xs)
    (hK : ∀ a' N' c' w', BL w' (.slice a' N' c') xs → Below w.heap.size w w' → K (a.put o.dst (.slice a' N' c')) w') :
    if Region.wanted o (yielded ops a.tmps) = true then Oper.wp Tryz.prog o a w K Q else E := by
  have hw : Region.wanted o (yielded ops a.tmps) = true := by simp [Region.wanted, hg]
  rw [if_pos hw]
  have hf : a.eval (Operand.func 58) = .func (.func 58) #[] #[] := rfl
  have hcf := enter_copyU #[.slice (some ⟨b, off, none⟩) N cap] w
  have e : (execOp a.eval o).run Tryz.prog w = .ok (.enter 58 #[.slice (some ⟨b, off, none⟩) N cap]) w := by
    simp [execOp, hop, resolve, invoke, hx, hf, Deferred.ofValue, hcf]
  show o.upon Tryz.prog a K Q ((execOp a.eval o).run Tryz.prog w)
  rw [e, Oper.upon_enter]
  subst hN
  refine (copybool_any b off cap xs w hl hr).mono ?_
  rintro e w' ⟨a', N', c', rfl, ho, hb⟩
  exact hK a' N' c' w' ho hb
theorem infoUU2 : SliceInfo 41 := sliceInfo_of (by kernel_rfl)
set_option maxRecDepth 100000 in
set_option maxHeartbeats 2000000 in
theorem hbools (q : Nat) (V : Nat → Value) (ty : Nat → TypeId) (E : Nat → List HE) (ao : Option Addr) (N cap : Nat) (xs : List Bool) (w : World) (hN : N = xs.length) (hl : xs.length ≤ 17592186044000) (hr : BRow w ao xs) (hG : HInv w q V ty E) (hes : (E 3).length ≤ 4900000000000) (t4 : ty 6 = 41) (t5 : ty 7 = 41) (ht : 4 ≠ 39 ∧ ∀ i, 4 ≠ ty i) :
    Calls Tryz.prog 22 #[.pointer (some ⟨q, 0, none⟩), .slice ao N cap] w fun e w' => e = .returned (.slice (some ⟨w.heap.size, 0, none⟩) xs.length (xs.length + 3)) ∧ ∃ V' x, HInv w' q V' ty (updE E 3 x) ∧ x.g = w.heap.size ∧ x.t = 4 ∧ x.sz = 1 ∧ (∃ zs : List Bool, x.cs = zs.map (.bool ·) ∧ zs.take xs.length = xs) ∧ HF w w' q V V' := by
  subst hN
  obtain ⟨i0, hi, hz0, hz1, hz2⟩ := infoBool_parts
  have HB2 : Hid (i0.bytes * (xs.length + 3) ≤ 281474976710656) := by show _ ≤ _; rw [hz2]; omega
  have HB3 : Hid (xs.length + 3 ≤ maxLen) := by show _ ≤ _; unfold maxLen; omega
  go_enter Tryz.func22, Tryz.ntmps22
  go_wp2_with (at_make; refine wpList_make_full _ rfl _ _ 41 rfl 0 4 i0 (.bool false) 1 Tryz.underlying41 hi hz0 hz1 _ _ _ _ (xs.length + 3) rfl rfl (by omega) (by omega) HB2.out HB3.out (Nat.zero_le _) ?_; intro w0 hown0 hgrow0)
  have hb0 : Below w.heap.size w w0 := (Below.refl _ _).grown hgrow0 (Nat.le_refl _) (fun k h => by cases h)
  obtain ⟨zs0, hzl0, hF0⟩ := fullU_of_made hown0 rfl
  clear hown0 hgrow0
  go_loopw [6] (fun i wr => ∃ (j : Nat) (zs : List Bool), i = .int .i64 j ∧ j ≤ xs.length + 3 ∧ zs.length = xs.length + 3 ∧ FullU wr w.heap.size zs ∧ Below w.heap.size w wr) (fun i _ => xs.length + 3 - (intOf i).toNat)
  case atStart => exact ⟨0, zs0, rfl, by omega, hzl0, hF0, hb0⟩
  case round =>
    obtain ⟨j, zs, rfl, hj, hzl, hF, hb⟩ := hrel
    clear hb0 hF0 hzl0
    by_cases hlt : j < xs.length + 3
    · have ck := hF.cell j (by omega)
      have fk := hF.free j
      go_wp2_with (go_at_call 57; refine (markbool_any j wr (by omega)).mono ?_; rintro e w4 ⟨m, rfl, hb4⟩; have hF4 := hF.later (hb4.block _ (lt_of_block hF.hg)); have ck4 := hF4.cell j (by omega); have fk4 := hF4.free j)
      go_roundw
      case rel => exact ⟨j + 1, zs.set j m, by go_num, by omega, by simp; omega, hF4.set j m, (hb.trans (hb4.mono hb.size)).setCell (Nat.le_refl _) _⟩
      case measure => simp [intOf]; omega
    · go_wp2
      clear hlt hj
      go_loopw [7] (fun i wr => ∃ (j : Nat) (zs : List Bool), i = .int .i64 j ∧ j ≤ xs.length ∧ zs.length = xs.length + 3 ∧ zs.take j = xs.take j ∧ FullU wr w.heap.size zs ∧ Below w.heap.size w wr) (fun i _ => xs.length - (intOf i).toNat)
      case atStart => exact ⟨0, zs, rfl, by omega, hzl, rfl, hF, hb⟩
      case round =>
        clear hF hzl hb
        obtain ⟨j, zs, rfl, hj, hzl, hzt, hF, hb⟩ := hrel
        by_cases hlt : j < xs.length
        · obtain ⟨b, off, rfl, hbl, hc⟩ := hr (fun e => by subst e; simp at hlt)
          have hcj := (hb.cell (p := ⟨b, off + j, none⟩) hbl).trans (hc j hlt)
          have ck := hF.cell j (by omega)
          have fk := hF.free j
          have FS : Hid _ := hF.set j
          have HT : Hid ((zs.set j (xs.getD j false)).take (j + 1) = xs.take (j + 1)) := take_set_stepU hzt hlt (by omega)
          clear hc hzt
          generalize hx : xs.getD j false = x at *
          clear hx
          go_wp2
          go_roundw
          case rel => exact ⟨j + 1, zs.set j x, by go_num, by omega, by simp; omega, HT.out, FS.out x, hb.setCell (Nat.le_refl _) _⟩
          case measure => simp [intOf]; omega
        · obtain rfl : j = xs.length := by omega
          rw [List.take_length] at hzt
          have HZT : Hid (zs.take xs.length = xs) := hzt
          clear hzt hj
          have hG2 := hG.later hb
          have hA := hG2.later (below_alloc wr (.cells #[Value.slice (some ⟨w.heap.size, 0, none⟩) (xs.length + 3) (xs.length + 3)] 41))
          have HLF : Hid (((E 3).map HE.fst).length ≤ 5000000000000) := by show _ ≤ _; simp; omega
          have HLN : Hid (((E 3).map HE.snd).length ≤ 5000000000000) := by show _ ≤ _; simp; omega
          have R4 : Hid (HL 41 (wr.alloc (.cells #[Value.slice (some ⟨w.heap.size, 0, none⟩) (xs.length + 3) (xs.length + 3)] 41)) (V 6) ((E 3).map HE.fst)) := by have := hA.row 6; rw [t4] at this; exact this
          have c0 := hG2.cell (i := 6) (by omega)
          have AF0 : Hid (∀ w5 L5, Grew (wr.alloc (.cells #[Value.slice (some ⟨w.heap.size, 0, none⟩) (xs.length + 3) (xs.length + 3)] 41)) w5 (V 6) L5 → w5.cell? ⟨q, 6, none⟩ = some (V 6) ∧ w5.frozen? ⟨q, 6, none⟩ = false) := fun w5 L5 hg => by
            have b := (hg.grown.block q (lt_of_block hA.hq) (hA.ne 6)).trans hA.hq
            exact ⟨by simp only [World.cell?, b]; exact hArr_get V (by omega), by simp [World.frozen?, b]⟩
          have HA : Hid _ := hA
          clear hA hG2
          generalize hV4 : V 6 = L at *
          go_wp2_with (at_builtin; refine wpList_hl_append Tryz.underlying30 infoUU2 rfl _ _ rfl L ((E 3).map HE.fst) rfl R4.out wr.heap.size 1 (.slice (some ⟨w.heap.size, 0, none⟩) (xs.length + 3) (xs.length + 3)) rfl (cell_newU wr _ _) rfl HLF.out ?_; intro L5 w5 hl5 hg5; obtain ⟨a5, N5, c5, rfl⟩ := hl5.slice3; obtain ⟨d1, d2⟩ := AF0.out w5 _ hg5)
          obtain ⟨hG6, hf6⟩ := HA.out.store (i := 6) (v' := .slice a5 N5 c5) (s' := (E 3).map HE.fst ++ [.slice (some ⟨w.heap.size, 0, none⟩) (xs.length + 3) (xs.length + 3)]) (by rw [hV4]; exact hg5) (by rw [t4]; exact hl5)
          have hF6 := (hF.later ((below_alloc wr (.cells #[Value.slice (some ⟨w.heap.size, 0, none⟩) (xs.length + 3) (xs.length + 3)] 41)).block _ (lt_of_block hF.hg)))
          have hF7 := hF6.later (HA.out.other hf6 hF6.hg ht)
          have HF6 : Hid _ := hf6
          clear hF6 d1 d2 hl5 hg5 c0 AF0 R4 hf6
          generalize (Value.slice a5 N5 c5) = L6 at *
          generalize w5.setCell ⟨q, 6, none⟩ L6 = w6 at *
          have hGd := hG6.later (Below.refl _ _).drew
          have e1 : w6.cell? ⟨q, 7, none⟩ = some (V 7) := hG6.cell (i := 7) (by omega)
          have hR6 := hF7.row
          have HZ : Hid (zs.length ≤ 17592186044416) := by show _ ≤ _; omega
          have AF : Hid (∀ w1 o, Below w6.drew.heap.size w6.drew w1 → w1.cell? ⟨q, 7, none⟩ = some (V 7) ∧ (w1.alloc o).cell? ⟨q, 7, none⟩ = some (V 7) ∧ HL 41 (w1.alloc o) (V 7) ((E 3).map HE.snd)) := fun w1 o hb => by
            have r1 := hGd.later hb
            have r2 := r1.later (below_alloc w1 o)
            refine ⟨r1.cell (i := 7) (by omega), r2.cell (i := 7) (by omega), ?_⟩
            have := r2.row 7
            rw [t5] at this
            exact this
          have AF2 : Hid (∀ w1 o w2 W2, Below w6.drew.heap.size w6.drew w1 → Grew (w1.alloc o) w2 (V 7) W2 → w2.cell? ⟨q, 7, none⟩ = some (V 7) ∧ w2.frozen? ⟨q, 7, none⟩ = false) := fun w1 o w2 W2 hb hg => by
            have h1 := (hGd.later hb).later (below_alloc _ o)
            have b := (hg.grown.block q (lt_of_block h1.hq) (h1.ne 7)).trans h1.hq
            exact ⟨by simp only [World.cell?, b]; exact hArr_get _ (by omega), by simp [World.frozen?, b]⟩
          have HGd : Hid _ := hGd
          have HG6 : Hid _ := hG6
          clear hGd hG6
          generalize hV5 : V 7 = W at *
          go_region_law (first
            | (refine step_copyU (by rfl) _ (by rfl) w.heap.size 0 (xs.length + 3) (xs.length + 3) zs (by rfl) hzl.symm HZ.out hR6 ?_; intro a8 N8 c8 w8 ho8 hb8; obtain ⟨f0, f1, f2⟩ := AF.out w8 (.cells #[.slice a8 N8 c8] 41) hb8)
            | (refine step_hl_append Tryz.underlying30 infoUU2 (by rfl) _ _ (by rfl) W ((E 3).map HE.snd) (by rfl) f2 w8.heap.size 1 (.slice a8 N8 c8) (by rfl) (cell_newU w8 _ _) (by rfl) HLN.out ?_; intro W9 w9 hl9 hg9; obtain ⟨a9, N9, c9, rfl⟩ := hl9.slice3; obtain ⟨m0, m1⟩ := AF2.out w8 _ w9 _ hb8 hg9))
          all_goals go_wp2
          all_goals go_ret
          all_goals
            have hN8 := bl_cnt ho8
            subst hN8
            have hI8 := (HGd.out.later hb8).later (below_alloc w8 (.cells #[.slice a8 zs.length c8] 41))
            obtain ⟨hG9, hf9⟩ := hI8.store (i := 7) (v' := .slice a9 N9 c9) (s' := (E 3).map HE.snd ++ [.slice a8 zs.length c8]) (by show Grew _ _ (V 7) _; rw [hV5]; exact hg9) (by rw [t5]; exact hl9)
            have hfa : HF w6 (w8.alloc (.cells #[.slice a8 zs.length c8] 41)) q (updV V 6 L6) (updV V 6 L6) := HF.ofBelow ((Below.refl _ _).drew.trans (hb8.trans ((below_alloc w8 _).mono hb8.size)))
            have hfx := hfa.trans hf9
            have hF9 := hF7.later (HG6.out.other hfx hF7.hg ht)
            have ho9 := row_kept (ho8.later (below_alloc _ _)) (w' := w9.setCell ⟨q, 7, none⟩ (.slice a9 N9 c9)) fun k C _ hk => hI8.other hf9 hk ht
            have hend := (HF.ofBelow hb).trans ((HF.ofBelow (below_alloc wr _)).trans (HF6.out.trans hfx))
            refine ⟨rfl, _, ⟨4, 1, w.heap.size, zs.length, a8, c8, zs.map (.bool ·)⟩, HI.add (κ := 3) (by rw [← hzl] at hG9; exact hG9) ⟨by simp, by show zs.length ≤ _; omega, hF9.hg, by show World.ownsRow _ _ _ _ _ _ _; simpa using ho9⟩ ht, rfl, rfl, rfl, ⟨zs, rfl, HZT.out⟩, hend⟩
end Go.Proofs.YtboabidokkghbaaGreat
