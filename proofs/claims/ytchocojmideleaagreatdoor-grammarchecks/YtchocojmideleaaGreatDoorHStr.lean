import Derived.Test.YtchocojmideleaaGreatDoorSGiven0ToSGiven
import Derived.Test.YtchocojmideleaaGreatDoorHListToHGiven
import Derived.Deep.RegionWith
namespace Go.Proofs.YtchocojmideleaaGreatDoor
set_option linter.unusedVariables false
open Go.RowKit

theorem take_set_step2 {zs xs : List ByteArray} {j : Nat} (h : zs.take j = xs.take j) (hx : j < xs.length) (hz : j < zs.length) : (zs.set j (xs.getD j ByteArray.empty)).take (j + 1) = xs.take (j + 1) := by
  rw [List.take_succ_eq_append_getElem hx, ← h, List.take_succ_eq_append_getElem (by simpa using hz), List.take_set_of_le (Nat.le_refl _)]
  simp [List.getD, hx]
theorem gs_cnt2 {w : World} {a : Option Addr} {n c : Nat} {ss : List ByteArray} (h : GS w (.slice a n c) ss) : n = ss.length := by
  obtain ⟨a', c', e⟩ := gs_len h
  simp at e
  exact e.2.1
theorem enter_copy (args : Array Value) (w : World) : (callFunc 98 args).run Tryz.prog w = .ok (.enter 98 args) w := by kernel_rfl
theorem step_copy {ops : Array Oper} {o : Oper} {a : Act} {w : World} {K : Act → World → Prop} {Q : Exit → Act → World → Prop} {E : Prop}
    (hg : o.guard = none) (x : Operand) (hop : o.op = Op.call { callee := Callee.value (Operand.func 98), args := #[x], argTypes := #[22] })
    (b off N cap : Nat) (xs : List ByteArray) (hx : a.eval x = .slice (some ⟨b, off, none⟩) N cap) (hN : N = xs.length) (hl : xs.length ≤ 8796093022208) (hr : StrRow w (some ⟨b, off, none⟩) xs)
    (hK : ∀ a' N' c' w', GS w' (.slice a' N' c') xs → Below w.heap.size w w' → K (a.put o.dst (.slice a' N' c')) w') :
    if Region.wanted o (yielded ops a.tmps) = true then Oper.wp Tryz.prog o a w K Q else E := by
  have hw : Region.wanted o (yielded ops a.tmps) = true := by simp [Region.wanted, hg]
  rw [if_pos hw]
  have hf : a.eval (Operand.func 98) = .func (.func 98) #[] #[] := rfl
  have hcf := enter_copy #[.slice (some ⟨b, off, none⟩) N cap] w
  have e : (execOp a.eval o).run Tryz.prog w = .ok (.enter 98 #[.slice (some ⟨b, off, none⟩) N cap]) w := by
    simp [execOp, hop, resolve, invoke, hx, hf, Deferred.ofValue, hcf]
  show o.upon Tryz.prog a K Q ((execOp a.eval o).run Tryz.prog w)
  rw [e, Oper.upon_enter]
  subst hN
  refine (copystr_any b off cap xs w hl hr).mono ?_
  rintro e w' ⟨a', N', c', rfl, ho, _, hb⟩
  exact hK a' N' c' w' ho hb
theorem infoSS2 : SliceInfo 22 := sliceInfo_of (by kernel_rfl)
set_option maxRecDepth 100000 in
set_option maxHeartbeats 2000000 in
theorem hstrings (q : Nat) (V : Nat → Value) (ty : Nat → TypeId) (E : Nat → List HE) (ao : Option Addr) (N cap : Nat) (xs : List ByteArray) (w : World) (hN : N = xs.length) (hl : xs.length ≤ 8796093022000) (hsz : ∀ s ∈ xs, s.size ≤ maxLen) (hr : StrRow w ao xs) (hG : HInv w q V ty E) (hes : (E 2).length ≤ 1900000) (t4 : ty 4 = 22) (t5 : ty 5 = 22) (ht : 9 ≠ 42 ∧ ∀ i, 9 ≠ ty i) :
    Calls Tryz.prog 40 #[.pointer (some ⟨q, 0, none⟩), .slice ao N cap] w fun e w' => e = .returned (.slice (some ⟨w.heap.size, 0, none⟩) xs.length (xs.length + 3)) ∧ ∃ V' x, HInv w' q V' ty (updE E 2 x) ∧ x.g = w.heap.size ∧ x.t = 9 ∧ x.sz = 1 ∧ (∃ zs : List ByteArray, x.cs = zs.map Value.string ∧ zs.take xs.length = xs) ∧ HF w w' q V V' := by
  subst hN
  obtain ⟨i0, hi, hz0, hz1, hz2⟩ := infoStr_parts
  have HB2 : Hid (i0.bytes * (xs.length + 3) ≤ 281474976710656) := by show _ ≤ _; rw [hz2]; omega
  have HB3 : Hid (xs.length + 3 ≤ maxLen) := by show _ ≤ _; unfold maxLen; omega
  go_enter Tryz.func40, Tryz.ntmps40
  go_wp2_with (at_make; refine wpList_make_full _ rfl _ _ 22 rfl 0 9 i0 (.string ⟨#[]⟩) 1 Tryz.underlying22 hi hz0 hz1 _ _ _ _ (xs.length + 3) rfl rfl (by omega) (by omega) HB2.out HB3.out (Nat.zero_le _) ?_; intro w0 hown0 hgrow0)
  have hb0 : Below w.heap.size w w0 := (Below.refl _ _).grown hgrow0 (Nat.le_refl _) (fun k h => by cases h)
  obtain ⟨zs0, hzl0, hF0⟩ := full_of_made hown0 rfl
  clear hown0 hgrow0
  go_loopw [6] (fun i wr => ∃ (j : Nat) (zs : List ByteArray), i = .int .i64 j ∧ j ≤ xs.length + 3 ∧ zs.length = xs.length + 3 ∧ Full wr w.heap.size zs ∧ Below w.heap.size w wr) (fun i _ => xs.length + 3 - (intOf i).toNat)
  case atStart => exact ⟨0, zs0, rfl, by omega, hzl0, hF0, hb0⟩
  case round =>
    obtain ⟨j, zs, rfl, hj, hzl, hF, hb⟩ := hrel
    clear hb0 hF0 hzl0
    by_cases hlt : j < xs.length + 3
    · have ck := hF.cell j (by omega)
      have fk := hF.free j
      go_wp2_with (go_at_call 97; refine (markstr_any j wr (by omega)).mono ?_; rintro e w4 ⟨m, rfl, hm, hb4⟩; have hF4 := hF.later (hb4.block _ (lt_of_block hF.hg)); have ck4 := hF4.cell j (by omega); have fk4 := hF4.free j)
      go_roundw
      case rel => exact ⟨j + 1, zs.set j m, by go_num, by omega, by simp; omega, hF4.set j m (by unfold maxLen; omega), (hb.trans (hb4.mono hb.size)).setCell (Nat.le_refl _) _⟩
      case measure => simp [intOf]; omega
    · go_wp2
      clear hlt hj
      go_loopw [7] (fun i wr => ∃ (j : Nat) (zs : List ByteArray), i = .int .i64 j ∧ j ≤ xs.length ∧ zs.length = xs.length + 3 ∧ zs.take j = xs.take j ∧ Full wr w.heap.size zs ∧ Below w.heap.size w wr) (fun i _ => xs.length - (intOf i).toNat)
      case atStart => exact ⟨0, zs, rfl, by omega, hzl, rfl, hF, hb⟩
      case round =>
        clear hF hzl hb
        obtain ⟨j, zs, rfl, hj, hzl, hzt, hF, hb⟩ := hrel
        by_cases hlt : j < xs.length
        · obtain ⟨b, off, rfl, hbl, hc⟩ := hr (fun e => by subst e; simp at hlt)
          have hcj := (hb.cell (p := ⟨b, off + j, none⟩) hbl).trans (hc j hlt)
          have hbj : (xs.getD j ByteArray.empty).size ≤ maxLen := hsz _ (by simp [List.getD, hlt])
          have ck := hF.cell j (by omega)
          have fk := hF.free j
          have FS : Hid _ := hF.set j
          have HT : Hid ((zs.set j (xs.getD j ByteArray.empty)).take (j + 1) = xs.take (j + 1)) := take_set_step2 hzt hlt (by omega)
          clear hc hzt
          generalize hx : xs.getD j ByteArray.empty = x at *
          clear hx
          go_wp2
          go_roundw
          case rel => exact ⟨j + 1, zs.set j x, by go_num, by omega, by simp; omega, HT.out, FS.out x hbj, hb.setCell (Nat.le_refl _) _⟩
          case measure => simp [intOf]; omega
        · obtain rfl : j = xs.length := by omega
          rw [List.take_length] at hzt
          have HZT : Hid (zs.take xs.length = xs) := hzt
          clear hzt hj
          have hG2 := hG.later hb
          have hA := hG2.later (below_alloc wr (.cells #[Value.slice (some ⟨w.heap.size, 0, none⟩) (xs.length + 3) (xs.length + 3)] 22))
          have HLF : Hid (((E 2).map HE.fst).length ≤ 2000000) := by show _ ≤ _; simp; omega
          have HLN : Hid (((E 2).map HE.snd).length ≤ 2000000) := by show _ ≤ _; simp; omega
          have R4 : Hid (HL 22 (wr.alloc (.cells #[Value.slice (some ⟨w.heap.size, 0, none⟩) (xs.length + 3) (xs.length + 3)] 22)) (V 4) ((E 2).map HE.fst)) := by have := hA.row 4; rw [t4] at this; exact this
          have c0 := hG2.cell (i := 4) (by omega)
          have AF0 : Hid (∀ w5 L5, Grew (wr.alloc (.cells #[Value.slice (some ⟨w.heap.size, 0, none⟩) (xs.length + 3) (xs.length + 3)] 22)) w5 (V 4) L5 → w5.cell? ⟨q, 4, none⟩ = some (V 4) ∧ w5.frozen? ⟨q, 4, none⟩ = false) := fun w5 L5 hg => by
            have b := (hg.grown.block q (lt_of_block hA.hq) (hA.ne 4)).trans hA.hq
            exact ⟨by simp only [World.cell?, b]; exact hArr_get V (by omega), by simp [World.frozen?, b]⟩
          have HA : Hid _ := hA
          clear hA hG2
          generalize hV4 : V 4 = L at *
          go_wp2_with (at_builtin; refine wpList_hl_append Tryz.underlying32 infoSS2 rfl _ _ rfl L ((E 2).map HE.fst) rfl R4.out wr.heap.size 1 (.slice (some ⟨w.heap.size, 0, none⟩) (xs.length + 3) (xs.length + 3)) rfl (cell_new wr _ _) rfl HLF.out ?_; intro L5 w5 hl5 hg5; obtain ⟨a5, N5, c5, rfl⟩ := hl5.slice3; obtain ⟨d1, d2⟩ := AF0.out w5 _ hg5)
          obtain ⟨hG6, hf6⟩ := HA.out.store (i := 4) (v' := .slice a5 N5 c5) (s' := (E 2).map HE.fst ++ [.slice (some ⟨w.heap.size, 0, none⟩) (xs.length + 3) (xs.length + 3)]) (by rw [hV4]; exact hg5) (by rw [t4]; exact hl5)
          have hF6 := (hF.later ((below_alloc wr (.cells #[Value.slice (some ⟨w.heap.size, 0, none⟩) (xs.length + 3) (xs.length + 3)] 22)).block _ (lt_of_block hF.hg)))
          have hF7 := hF6.later (HA.out.other hf6 hF6.hg ht)
          have HF6 : Hid _ := hf6
          clear hF6 d1 d2 hl5 hg5 c0 AF0 R4 hf6
          generalize (Value.slice a5 N5 c5) = L6 at *
          generalize w5.setCell ⟨q, 4, none⟩ L6 = w6 at *
          have hGd := hG6.later (Below.refl _ _).drew
          have e1 : w6.cell? ⟨q, 5, none⟩ = some (V 5) := hG6.cell (i := 5) (by omega)
          have hR6 := hF7.row
          have HZ : Hid (zs.length ≤ 8796093022208) := by show _ ≤ _; omega
          have AF : Hid (∀ w1 o, Below w6.drew.heap.size w6.drew w1 → w1.cell? ⟨q, 5, none⟩ = some (V 5) ∧ (w1.alloc o).cell? ⟨q, 5, none⟩ = some (V 5) ∧ HL 22 (w1.alloc o) (V 5) ((E 2).map HE.snd)) := fun w1 o hb => by
            have r1 := hGd.later hb
            have r2 := r1.later (below_alloc w1 o)
            refine ⟨r1.cell (i := 5) (by omega), r2.cell (i := 5) (by omega), ?_⟩
            have := r2.row 5
            rw [t5] at this
            exact this
          have AF2 : Hid (∀ w1 o w2 W2, Below w6.drew.heap.size w6.drew w1 → Grew (w1.alloc o) w2 (V 5) W2 → w2.cell? ⟨q, 5, none⟩ = some (V 5) ∧ w2.frozen? ⟨q, 5, none⟩ = false) := fun w1 o w2 W2 hb hg => by
            have h1 := (hGd.later hb).later (below_alloc _ o)
            have b := (hg.grown.block q (lt_of_block h1.hq) (h1.ne 5)).trans h1.hq
            exact ⟨by simp only [World.cell?, b]; exact hArr_get _ (by omega), by simp [World.frozen?, b]⟩
          have HGd : Hid _ := hGd
          have HG6 : Hid _ := hG6
          clear hGd hG6
          generalize hV5 : V 5 = W at *
          go_region_law (first
            | (refine step_copy (by rfl) _ (by rfl) w.heap.size 0 (xs.length + 3) (xs.length + 3) zs (by rfl) hzl.symm HZ.out hR6 ?_; intro a8 N8 c8 w8 ho8 hb8; obtain ⟨f0, f1, f2⟩ := AF.out w8 (.cells #[.slice a8 N8 c8] 22) hb8)
            | (refine step_hl_append Tryz.underlying32 infoSS2 (by rfl) _ _ (by rfl) W ((E 2).map HE.snd) (by rfl) f2 w8.heap.size 1 (.slice a8 N8 c8) (by rfl) (cell_new w8 _ _) (by rfl) HLN.out ?_; intro W9 w9 hl9 hg9; obtain ⟨a9, N9, c9, rfl⟩ := hl9.slice3; obtain ⟨m0, m1⟩ := AF2.out w8 _ w9 _ hb8 hg9))
          all_goals go_wp2
          all_goals go_ret
          all_goals
            have hN8 := gs_cnt2 ho8
            subst hN8
            have hI8 := (HGd.out.later hb8).later (below_alloc w8 (.cells #[.slice a8 zs.length c8] 22))
            obtain ⟨hG9, hf9⟩ := hI8.store (i := 5) (v' := .slice a9 N9 c9) (s' := (E 2).map HE.snd ++ [.slice a8 zs.length c8]) (by show Grew _ _ (V 5) _; rw [hV5]; exact hg9) (by rw [t5]; exact hl9)
            have hfa : HF w6 (w8.alloc (.cells #[.slice a8 zs.length c8] 22)) q (updV V 4 L6) (updV V 4 L6) := HF.ofBelow ((Below.refl _ _).drew.trans (hb8.trans ((below_alloc w8 _).mono hb8.size)))
            have hfx := hfa.trans hf9
            have hF9 := hF7.later (HG6.out.other hfx hF7.hg ht)
            have ho9 := row_kept (ho8.later (below_alloc _ _)) (w' := w9.setCell ⟨q, 5, none⟩ (.slice a9 N9 c9)) fun k C _ hk => hI8.other hf9 hk ht
            have hend := (HF.ofBelow hb).trans ((HF.ofBelow (below_alloc wr _)).trans (HF6.out.trans hfx))
            refine ⟨rfl, _, ⟨9, 1, w.heap.size, zs.length, a8, c8, zs.map Value.string⟩, HI.add (κ := 2) (by rw [← hzl] at hG9; exact hG9) ⟨by simp, by show zs.length ≤ _; omega, hF9.hg, by show World.ownsRow _ _ _ _ _ _ _; simpa using ho9⟩ ht, rfl, rfl, rfl, ⟨zs, rfl, HZT.out⟩, hend⟩
end Go.Proofs.YtchocojmideleaaGreatDoor
