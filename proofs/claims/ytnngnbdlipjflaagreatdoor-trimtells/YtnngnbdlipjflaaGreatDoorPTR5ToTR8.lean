import Derived.Test.YtnngnbdlipjflaaGreatDoorPTR3ToTR4
import Derived.Maps.AppendAt
namespace Go.Proofs.YtnngnbdlipjflaaGreatDoor
set_option linter.unusedVariables false
set_option maxRecDepth 100000
set_option maxHeartbeats 16000000
open Go.RowKit
theorem t7_R (n : Int) (w : World) : Calls Tryz.prog 37 #[.int .i64 n] w fun e w' => e = .returned (.agg #[.int .i64 1, .int .i64 n]) /\ Below w.heap.size w w' := by
 go_enter Tryz.func37, Tryz.ntmps37
 go_wp2
 refine bodyPost_ret (v := .agg #[.int .i64 1, .int .i64 n]) (by simp [results, Tryz.results37, go_sem]) rfl ?_
 exact ⟨rfl, below_alloc _ _⟩
theorem n7_R (n : Int) (w : World) : Calls Tryz.prog 28 #[.int .i64 n] w fun e w' => e = .returned (.agg #[.int .i64 2, .int .i64 n]) /\ Below w.heap.size w w' := by
 go_enter Tryz.func28, Tryz.ntmps28
 go_wp2
 refine bodyPost_ret (v := .agg #[.int .i64 2, .int .i64 n]) (by simp [results, Tryz.results28, go_sem]) rfl ?_
 exact ⟨rfl, below_alloc _ _⟩
def offY (d : Int) (M : List Bool) (k : Nat) : List (Int × Int) := (offU false M k).map fun i => (d, i)
theorem offY_succ (d : Int) (M : List Bool) (k : Nat) : offY d M (k + 1) = if M.getD k false = false then offY d M k ++ [(d, (k : Int))] else offY d M k := by
 unfold offY
 rw [offU_succ]
 split
 ·rw [List.map_append]; rfl
 ·rfl
theorem offY_len (d : Int) (M : List Bool) (k : Nat) : (offY d M k).length <= k := by
 unfold offY
 rw [List.length_map]
 exact offU_len _ _ _
def SymO (w : World) (P : List (Int × Int) -> Prop) (E : Int) (e : Ending) (w' : World) : Prop := ∃ a c l, e = .returned (.tuple #[.slice a l.length c, .int .i64 E]) /\ P l /\ SymRow w' a l /\ Below w.heap.size w w'
theorem unreached_R (g : GV) (w : World) (h : GAt 140737488355328 w g) (at_ : Int) (hE : checkG g (checkF g.ts g.ns) = (0, at_)) :
  Calls Tryz.prog 11 #[g.val] w fun e w' => SymO w (fun l => ∃ T N, RLst g T N /\ l = offY 1 T g.ts.length ++ offY 2 N g.ns.length) 0 e w' := by
 have ok : OkC g := OkC.of (by rw [hE])
 have X0 : Hid ((w.alloc (gBox g)).heap[w.heap.size]? = some (gBox g)) := heap_alloc_new _ _
 have MY : Hid (Calls Tryz.prog 26 #[g.val] (w.alloc (gBox g)) fun e w' => e = .returned (.int .i64 0) /\ Below (w.alloc (gBox g)).heap.size (w.alloc (gBox g)) w') := by
  have := refmay_G g _ (h.later (below_alloc w (gBox g)))
  rwa [hE] at this
 have HFG : Hid (∀ w', Below w.heap.size w w' -> FG w' g) := fun w' hb => ok.fg (h.later hb)
 have HST : Hid (0 <= g.start /\ g.start < g.ns.length) := ok.st
 obtain ⟨x0, x1, x2, x3, x4⟩ := gb_cells X0.out
 have hnl := ok.nl.2
 have htl := ok.tl.2
 have t1 : ((0 : Int) != 0) = false := by decide
 clear h hE ok
 go_enter Tryz.func11, Tryz.ntmps11
 go_wp2_with (first
  | (go_at_call 26; refine MY.out.mono ?_; rintro e w2 ⟨rfl, b2⟩; have B2 : Hid (Below w.heap.size w w2 /\ w2.heap[w.heap.size]? = some (gBox g)) := ⟨(below_alloc w _).trans (b2.mono (below_alloc w _).size), (b2.block _ (lt_of_block X0.out)).trans X0.out⟩; clear b2 x0 x1 x2 x3 x4; obtain ⟨x0, x1, x2, x3, x4⟩ := gb_cells B2.out.2)
  | (go_at_call 36; refine (reached_R g _ (HFG.out _ B2.out.1) HST.out).mono ?_; rintro e w3 ⟨tb, nb, T, N, rfl, m3, bt3, bn3, l3, l4, b3⟩; have B3 : Hid (RLst g T N /\ BB w3 tb T /\ BB w3 nb N /\ Below w.heap.size w w3) := ⟨m3, bt3, bn3, B2.out.1.trans (b3.mono B2.out.1.size)⟩; clear m3 bt3 bn3 l3 l4 b3 x0 x1 x2 x3 x4))
 go_loopw [7, 8] (fun v i wr => ∃ k : Nat, k <= g.ts.length /\ i = .int .i64 k /\ SY wr v (offY 1 T k) /\ (∀ j, v.ownBlock = some j -> w3.heap.size <= j) /\ Below w3.heap.size w3 wr) (fun _ i _ => g.ts.length - (intOf i).toNat)
 case atStart => exact ⟨0, Nat.zero_le _, rfl, SY.nil _, (fun j hj => by simp [Value.ownBlock] at hj), Below.refl _ _⟩
 case round =>
  obtain ⟨k, hk, rfl, hI, hv, hB⟩ := hrel
  obtain ⟨va, vc, rfl⟩ := sy_len hI
  have HB : Hid (Below w3.heap.size w3 wr) := hB
  by_cases hlt : k < g.ts.length
  ·have klt : (k : Int) < (g.ts.length : Int) := by omega
   have cm := (B3.out.2.1.later hB).cell (i := k) (by rw [B3.out.1.tl]; exact hlt)
   have hst : Hid _ := offY_succ 1 T k
   have hrl := offY_len 1 T k
   generalize hR : offY 1 T k = R at *
   obtain ⟨mv, hmv⟩ : ∃ mv, T.getD k false = mv := ⟨_, rfl⟩
   rw [hmv] at cm
   have HMV : Hid (T.getD k false = mv) := hmv
   clear hmv
   cases mv
   ·have HI : Hid (SY wr (.slice va R.length vc) R) := hI
    have HV : Hid (∀ j, (Value.slice va R.length vc).ownBlock = some j -> w3.heap.size <= j) := hv
    have HLT : Hid (R.length <= 2000000) := by show _ <= _; omega
    have E : Hid (offY 1 T (k + 1) = R ++ [(1, (k : Int))]) := by show _ = _; rw [hst.out, if_pos HMV.out]
    clear hst hI hv hB hrl
    go_wp2_with (first
     | (go_at_call 37; refine (t7_R _ _).mono ?_; rintro e wt ⟨rfl, bt⟩; have BT : Hid (Below wr.heap.size wr wt) := bt; clear bt cm)
     | (at_builtin; refine wpList_sy_append rfl _ _ rfl (.slice va R.length vc) R rfl ((HI.out.later BT.out).later (below_alloc _ _)) wt.heap.size 1 1 k rfl (by simp) (by simp) HLT.out ?_; intro a4 n4 c4 w4 ho4 hg4))
    obtain ⟨q1, q2⟩ := grew_belowI ((HB.out.trans (BT.out.mono HB.out.size)).alloc (HB.out.trans (BT.out.mono HB.out.size)).size _) HV.out hg4
    have R4 : Hid (SY w4 (.slice a4 n4 c4) (offY 1 T (k + 1)) /\ (∀ j, (Value.slice a4 n4 c4).ownBlock = some j -> w3.heap.size <= j) /\ Below w3.heap.size w3 w4) := ⟨by rw [E.out]; exact ho4, q2, q1⟩
    clear q1 q2 ho4 hg4
    go_roundw
    case rel => exact ⟨k + 1, by omega, by go_num, R4.out⟩
    case measure => simp [intOf]; omega
   ·have E : Hid (SY wr (.slice va R.length vc) (offY 1 T (k + 1)) /\ (∀ j, (Value.slice va R.length vc).ownBlock = some j -> w3.heap.size <= j) /\ Below w3.heap.size w3 wr) := ⟨by rw [hst.out, if_neg (by rw [HMV.out]; decide)]; exact hI, hv, hB⟩
    clear hst hI hv hB hrl
    go_wp2
    go_roundw
    case rel => exact ⟨k + 1, by omega, by go_num, E.out⟩
    case measure => simp [intOf]; omega
  ·obtain rfl : k = g.ts.length := by omega
   have R0 : Hid (SY wr (.slice va (offY 1 T g.ts.length).length vc) (offY 1 T g.ts.length) /\ (∀ j, (Value.slice va (offY 1 T g.ts.length).length vc).ownBlock = some j -> w3.heap.size <= j) /\ Below w3.heap.size w3 wr) := ⟨hI, hv, hB⟩
   have hyl := offY_len 1 T g.ts.length
   clear hI hv hB HB
   generalize hY : offY 1 T g.ts.length = Y at *
   have HY : Hid (offY 1 T g.ts.length = Y) := hY
   clear hY
   obtain ⟨wz, rfl⟩ : ∃ wz : World, wz = wr := ⟨_, rfl⟩
   go_wp2
   go_loopw [7, 9] (fun v i wr => ∃ k : Nat, k <= g.ns.length /\ i = .int .i64 k /\ SY wr v (Y ++ offY 2 N k) /\ (∀ j, v.ownBlock = some j -> w3.heap.size <= j) /\ Below w3.heap.size w3 wr) (fun _ i _ => g.ns.length - (intOf i).toNat)
   case atStart => exact ⟨0, Nat.zero_le _, rfl, by rw [show offY 2 N 0 = [] from rfl, List.append_nil]; exact R0.out.1, R0.out.2⟩
   case round =>
    clear R0
    obtain ⟨k, hk, rfl, hI, hv, hB⟩ := hrel
    obtain ⟨va, vc, rfl⟩ := sy_len hI
    have HB : Hid (Below w3.heap.size w3 wr) := hB
    by_cases hlt : k < g.ns.length
    ·have klt : (k : Int) < (g.ns.length : Int) := by omega
     have cm := (B3.out.2.2.1.later hB).cell (i := k) (by rw [B3.out.1.nl]; exact hlt)
     have hst : Hid _ := offY_succ 2 N k
     have hrl : (Y ++ offY 2 N k).length <= 128 := by
      have := offY_len 2 N k
      rw [List.length_append]; omega
     have hst2 : Hid (Y ++ offY 2 N (k + 1) = if N.getD k false = false then (Y ++ offY 2 N k) ++ [(2, (k : Int))] else Y ++ offY 2 N k) := by
      show _ = _
      rw [hst.out]
      split
      ·rw [List.append_assoc]
      ·rfl
     clear hst
     generalize Y ++ offY 2 N k = R at *
     obtain ⟨mv, hmv⟩ : ∃ mv, N.getD k false = mv := ⟨_, rfl⟩
     rw [hmv] at cm
     have HMV : Hid (N.getD k false = mv) := hmv
     clear hmv
     cases mv
     ·have HI : Hid (SY wr (.slice va R.length vc) R) := hI
      have HV : Hid (∀ j, (Value.slice va R.length vc).ownBlock = some j -> w3.heap.size <= j) := hv
      have HLT : Hid (R.length <= 2000000) := by show _ <= _; omega
      have E : Hid (Y ++ offY 2 N (k + 1) = R ++ [(2, (k : Int))]) := by show _ = _; rw [hst2.out, if_pos HMV.out]
      clear hst2 hI hv hB hrl
      go_wp2_with (first
       | (go_at_call 28; refine (n7_R _ _).mono ?_; rintro e wt ⟨rfl, bt⟩; have BT : Hid (Below wr.heap.size wr wt) := bt; clear bt cm)
       | (at_builtin; refine wpList_sy_append rfl _ _ rfl (.slice va R.length vc) R rfl ((HI.out.later BT.out).later (below_alloc _ _)) wt.heap.size 1 2 k rfl (by simp) (by simp) HLT.out ?_; intro a4 n4 c4 w4 ho4 hg4))
      obtain ⟨q1, q2⟩ := grew_belowI ((HB.out.trans (BT.out.mono HB.out.size)).alloc (HB.out.trans (BT.out.mono HB.out.size)).size _) HV.out hg4
      have R4 : Hid (SY w4 (.slice a4 n4 c4) (Y ++ offY 2 N (k + 1)) /\ (∀ j, (Value.slice a4 n4 c4).ownBlock = some j -> w3.heap.size <= j) /\ Below w3.heap.size w3 w4) := ⟨by rw [E.out]; exact ho4, q2, q1⟩
      clear q1 q2 ho4 hg4
      go_roundw
      case rel => exact ⟨k + 1, by omega, by go_num, R4.out⟩
      case measure => simp [intOf]; omega
     ·have E : Hid (SY wr (.slice va R.length vc) (Y ++ offY 2 N (k + 1)) /\ (∀ j, (Value.slice va R.length vc).ownBlock = some j -> w3.heap.size <= j) /\ Below w3.heap.size w3 wr) := ⟨by rw [hst2.out, if_neg (by rw [HMV.out]; decide)]; exact hI, hv, hB⟩
      clear hst2 hI hv hB hrl
      go_wp2
      go_roundw
      case rel => exact ⟨k + 1, by omega, by go_num, E.out⟩
      case measure => simp [intOf]; omega
    ·obtain rfl : k = g.ns.length := by omega
     have R : Hid (SymRow wr va (Y ++ offY 2 N g.ns.length) /\ Below w.heap.size w wr) := ⟨hI.row, B3.out.2.2.2.trans (hB.mono B3.out.2.2.2.size)⟩
     clear hI hv hB
     go_wp2
     refine bodyPost_ret (results_tmp2 rfl _ _ _) rfl ?_
     exact ⟨va, vc, _, rfl, ⟨T, N, B3.out.1, by rw [HY.out]⟩, R.out⟩
theorem SymRow.takeS {w : World} {la : Option Addr} {l : List (Int × Int)} (h : SymRow w la l) (i : Nat) : SymRow w la (l.take i) := fun hne => by
 have hl : l ≠ [] := fun e => hne (by rw [e]; simp)
 obtain ⟨b, o, e, hb, hc⟩ := h hl
 refine ⟨b, o, e, hb, fun j hj => ?_⟩
 have hj2 : j < l.length /\ j < i := by rw [List.length_take] at hj; omega
 have e2 : (l.take i).getD j (0, 0) = l.getD j (0, 0) := by simp [List.getD, hj2.2]
 rw [e2]
 exact hc j hj2.1
theorem SymRow.dropS {w : World} {b o : Nat} {l : List (Int × Int)} (h : SymRow w (some ⟨b, o, none⟩) l) (i : Nat) : SymRow w (some ⟨b, o + i * 2, none⟩) (l.drop i) := fun hne => by
 have hl : l ≠ [] := fun e => hne (by rw [e]; simp)
 obtain ⟨b', o', e, hb, hc⟩ := h hl
 simp at e
 obtain ⟨rfl, rfl⟩ := e
 refine ⟨b, _, rfl, hb, fun j hj => ?_⟩
 have hj2 : i + j < l.length := by rw [List.length_drop] at hj; omega
 have e2 : (l.drop i).getD j (0, 0) = l.getD (i + j) (0, 0) := by simp [List.getD, List.getElem?_drop]
 have := hc (i + j) hj2
 rw [e2]
 rw [show o + i * 2 + j * 2 = o + (i + j) * 2 by omega]
 exact this
theorem slice_toS (b o lc len i : Nat) (hi : i <= lc) (w : World) : (Instr.slice 47 (.slice (some ⟨b, o, none⟩) len lc) none (some (.int .i64 (i : Int))) none).run Tryz.prog w = .ok (.slice (some ⟨b, o, none⟩) i lc) w := by
 obtain ⟨i0, hinf, _, hz1, _⟩ := infoSym_parts
 have hu : Tryz.prog.underlying 47 = some (.slice (Tryz.prog.elem 47)) := by kernel_rfl
 have he : Tryz.prog.elem 47 = 54 := by kernel_rfl
 have := run_slice_h (P := Tryz.prog) (w := w) 47 (some ⟨b, o, none⟩) len lc hu .i64 (i : Int) (by omega) (by omega)
 rw [this, he]
 simp [sizeOf, typeInfo, hinf, hz1]
 unfold sliced
 split <;> simp [add_none]
theorem slice_froS (b o lc len i : Nat) (hi : i <= len) (hc : len <= lc) :
  ∃ o' c', (∀ w, (Instr.slice 47 (.slice (some ⟨b, o, none⟩) len lc) (some (.int .i64 (i : Int))) none none).run Tryz.prog w = .ok (.slice (some ⟨b, o', none⟩) (len - i) c') w) /\ ∀ w (l : List (Int × Int)), l.length = len -> SymRow w (some ⟨b, o, none⟩) l -> SymRow w (some ⟨b, o', none⟩) (l.drop i) := by
 obtain ⟨i0, hinf, _, hz1, _⟩ := infoSym_parts
 have hu : Tryz.prog.underlying 47 = some (.slice (Tryz.prog.elem 47)) := by kernel_rfl
 have he : Tryz.prog.elem 47 = 54 := by kernel_rfl
 have hrun : ∀ w : World, (Instr.slice 47 (.slice (some ⟨b, o, none⟩) len lc) (some (.int .i64 (i : Int))) none none).run Tryz.prog w = .ok (sliced (some ⟨b, o, none⟩) i len lc 2) w := by
  intro w
  have := run_slice_l (P := Tryz.prog) (w := w) 47 (some ⟨b, o, none⟩) len lc hu .i64 (i : Int) (by omega) (by omega)
  rw [this, he]
  simp [sizeOf, typeInfo, hinf, hz1]
 by_cases hcp : lc = i
 ·refine ⟨o, lc - i, fun w => by rw [hrun w]; simp [sliced, hcp], fun w l hl h => ?_⟩
  rw [List.drop_eq_nil_of_le (by omega)]
  exact fun h => absurd rfl h
 ·exact ⟨o + i * 2, lc - i, fun w => by rw [hrun w]; simp [sliced, hcp, add_none], fun w l _ h => h.dropS i⟩
theorem wpList_sy_cat {ops : Array Oper} {rest : List Oper} {o : Oper} {a : Act} {Q : Exit -> Act -> World -> Prop} {w : World} (hgd : o.guard = none) (s x : Operand)
  (ho : o.op = .call { callee := .builtin .append, args := #[s, x], argTypes := #[47, 47] })
  (v : Value) (l : List (Int × Int)) (hs : a.eval s = v) (h : SY w v l) (b off c : Nat) (n : Nat) (zs : List (Int × Int)) (hx : a.eval x = .slice (some ⟨b, off, none⟩) n c) (hn : zs.length = n) (hr : SymRow w (some ⟨b, off, none⟩) zs) (hlen : l.length + zs.length <= 100000000)
  (hK : ∀ a' n' c' w', SY w' (.slice a' n' c') (l ++ zs) -> Grew w w' v (.slice a' n' c') -> wpList Tryz.prog ops Q rest (a.put o.dst (.slice a' n' c')) w') : wpList Tryz.prog ops Q (o :: rest) a w := by
 obtain ⟨i0, hi, hz0, hz1, hz2⟩ := infoSym_parts
 subst hn
 refine wpList_append_own_at w hgd s x 47 ho 0 54 i0 (.agg #[.int .i64 0, .int .i64 0]) 2 16 Tryz.underlying47 hi hz0 hz1 hz2 rfl (by decide) v l.length (symCells l) hs h ⟨b, off, none⟩ zs.length c (symCells zs) hx (by rw [symCells_len]) ?_ ?_ (by unfold maxLen; omega) (by omega) (Nat.zero_le _) ?_
 ·intro j u hu
  have hj : j < zs.length * 2 := by have := (List.getElem?_eq_some_iff.1 hu).1; rwa [symCells_len] at this
  have hj2 : j / 2 < zs.length := by omega
  obtain ⟨b', off', e, _, hc⟩ := hr (by intro h; subst h; simp at hj)
  simp at e
  obtain ⟨rfl, rfl⟩ := e
  obtain ⟨c0, c1⟩ := hc (j / 2) hj2
  obtain ⟨g0, g1⟩ := symCells_get zs (j / 2) hj2
  rw [add_none]
  rcases (by omega : j = j / 2 * 2 ∨ j = j / 2 * 2 + 1) with q | q
  ·rw [q] at hu ⊢
   rw [g0] at hu
   rw [c0, <- hu]
  ·rw [q] at hu ⊢
   rw [g1] at hu
   rw [<- Nat.add_assoc, c1, <- hu]
 ·intro u hu
  simp [symCells] at hu
  obtain ⟨_, _, _, rfl | rfl⟩ := hu <;> rfl
 ·intro v' w' h2 h3 _ h5
  have h6 : SY w' v' (l ++ zs) := by
   unfold SY
   have e : symCells (l ++ zs) = symCells l ++ symCells zs := by simp [symCells]
   rw [e]
   simpa using h2
  obtain ⟨a', c', rfl⟩ := sy_len h6
  exact hK _ _ _ w' h6 ⟨h3, h5.imp id fun e => ⟨_, e, Nat.le_refl _⟩⟩
theorem infoBl_parts : ∃ i, Tryz.prog.info? 83 = some i /\ i.zero = some (.slice none 0 0) /\ i.size = 1 /\ i.bytes = 24 := by
 have h : (Tryz.prog.info? 83).map (fun i => (i.zero, i.size, i.bytes)) = some (some (.slice none 0 0), 1, 24) := by kernel_rfl
 cases e : Tryz.prog.info? 83 with
 | none => rw [e] at h; cases h
 | some i => rw [e] at h; simp at h; exact ⟨i, rfl, h⟩
theorem make_blF (n : Nat) (hn : n <= 1048576) (w : World) : (Instr.makeSlice 30 (.int .i64 (n : Int)) (.int .i64 (n : Int))).run Tryz.prog w = .ok (.slice (some ⟨w.heap.size, 0, none⟩) n n) (w.alloc (.cells (madeCells #[.slice none 0 0] n) 83)) := by
 obtain ⟨i0, hi, hz0, hz1, hz2⟩ := infoBl_parts
 have := run_makeSlice w 30 83 i0 (.slice none 0 0) Tryz.underlying30 hi hz0 .i64 .i64 (n : Int) (n : Int) (by omega) (by omega) (by rw [hz1]; simp; omega) (by rw [hz2]; omega) (by omega)
 rw [hz1] at this
 simpa [Value.cells] using this
def GM (w : World) (gb n k : Nat) : Prop := ∃ V : List Value, V.length = n /\ w.heap[gb]? = some (.cells V.toArray 83 (0, 0)) /\ ∀ i, i < k -> ∃ rb M, V[i]? = some (.slice (some ⟨rb, 0, none⟩) n n) /\ BB w rb M /\ M.length = n /\ gb < rb
theorem GM.lt {w : World} {gb n k : Nat} (h : GM w gb n k) : gb < w.heap.size := by
 obtain ⟨V, _, hh, _⟩ := h
 exact lt_of_block hh
theorem GM.made (w : World) (n : Nat) : GM (w.alloc (.cells (madeCells #[.slice none 0 0] n) 83)) w.heap.size n 0 :=
 ⟨List.replicate n (.slice none 0 0), by simp, by rw [heap_alloc_new, made_listF], fun i hi => absurd hi (Nat.not_lt_zero i)⟩
theorem GM.any {w w' : World} {gb n k : Nat} (h : GM w gb n k) (hb : Below w.heap.size w w') : GM w' gb n k := by
 obtain ⟨V, hl, hh, hr⟩ := h
 refine ⟨V, hl, (hb.block _ (lt_of_block hh)).trans hh, fun i hi => ?_⟩
 obtain ⟨rb, M, e, b, l, g⟩ := hr i hi
 exact ⟨rb, M, e, b.later hb, l, g⟩
theorem GM.cell {w : World} {gb n k : Nat} (h : GM w gb n k) {i : Nat} (hi : i < k) : ∃ rb M, w.cell? ⟨gb, i, none⟩ = some (.slice (some ⟨rb, 0, none⟩) n n) /\ BB w rb M /\ M.length = n /\ gb < rb := by
 obtain ⟨V, hl, hh, hr⟩ := h
 obtain ⟨rb, M, e, q⟩ := hr i hi
 exact ⟨rb, M, by rw [cellq_any hh]; simpa using e, q⟩
theorem GM.has {w : World} {gb n k : Nat} (h : GM w gb n k) {i : Nat} (hi : i < n) : ∃ v, w.cell? ⟨gb, i, none⟩ = some v := by
 obtain ⟨V, hl, hh, hr⟩ := h
 exact ⟨V[i]'(by omega), by rw [cellq_any hh]; simp [hl, hi]⟩
theorem GM.free {w : World} {gb n k : Nat} (h : GM w gb n k) (i : Nat) : w.frozen? ⟨gb, i, none⟩ = false := by
 obtain ⟨V, hl, hh, hr⟩ := h
 simp [World.frozen?, hh]
theorem GM.fill {w : World} {gb n k : Nat} (h : GM w gb n k) (hk : k < n) : GM ((w.alloc (.cells (madeCells #[.bool false] n) 4)).setCell ⟨gb, k, none⟩ (.slice (some ⟨w.heap.size, 0, none⟩) n n)) gb n (k + 1) := by
 have hlt := h.lt
 have bA := below_alloc w (.cells (madeCells #[.bool false] n) 4)
 have hM := BB.made w n
 obtain ⟨V, hl, hh, hr⟩ := h.any bA
 obtain ⟨_, _, _, hr0⟩ := h
 generalize w.alloc (.cells (madeCells #[.bool false] n) 4) = w1 at *
 refine ⟨V.set k _, by simpa using hl, by rw [heap_set hh k, List.setIfInBounds_toArray], fun i hi => ?_⟩
 by_cases e : i = k
 ·subst e
  exact ⟨w.heap.size, List.replicate n false, by simp [hl, hk], hM.kept (Below.heap_setCell _ _ _ _ (by show w.heap.size ≠ gb; omega)), by simp, hlt⟩
 ·obtain ⟨rb, M, e1, b1, l1, g1⟩ := hr i (by omega)
  exact ⟨rb, M, by rw [List.getElem?_set_ne (by omega)]; exact e1, b1.kept (Below.heap_setCell _ _ _ _ (by show rb ≠ gb; omega)), l1, g1⟩
theorem GM.set {w : World} {gb n k rb : Nat} {M : List Bool} (h : GM w gb n k) (hb : BB w rb M) (hM : M.length = n) (hg : gb < rb) (j : Nat) (v : Bool) : GM (w.setCell ⟨rb, j, none⟩ (.bool v)) gb n k := by
 obtain ⟨V, hl, hh, hr⟩ := h
 refine ⟨V, hl, (Below.heap_setCell _ _ _ _ (by show gb ≠ rb; omega)).trans hh, fun i hi => ?_⟩
 obtain ⟨rb', M', e1, b1, l1, g1⟩ := hr i hi
 by_cases e : rb' = rb
 ·subst e
  exact ⟨rb', M.set j v, e1, hb.set _ _, by simpa using hM, g1⟩
 ·exact ⟨rb', M', e1, b1.kept (Below.heap_setCell _ _ _ _ e), l1, g1⟩
structure CW (g : GV) (w : World) (mb gb k : Nat) (NU : List Bool) (wr : World) : Prop where
 gm : GM wr gb g.ns.length k
 nu : BB wr mb NU
 ord : w.heap.size < mb /\ mb < gb
 box : wr.heap[w.heap.size]? = some (gBox g)
 bel : Below w.heap.size w wr
theorem CW.any {g : GV} {w wr w' : World} {mb gb k : Nat} {NU : List Bool} (h : CW g w mb gb k NU wr) (hb : Below wr.heap.size wr w') : CW g w mb gb k NU w' :=
 ⟨h.gm.any hb, h.nu.later hb, h.ord, (hb.block _ (lt_of_block h.box)).trans h.box, h.bel.trans (hb.mono h.bel.size)⟩
theorem CW.fill {g : GV} {w wr : World} {mb gb k : Nat} {NU : List Bool} (h : CW g w mb gb k NU wr) (hk : k < g.ns.length) : CW g w mb gb (k + 1) NU ((wr.alloc (.cells (madeCells #[.bool false] g.ns.length) 4)).setCell ⟨gb, k, none⟩ (.slice (some ⟨wr.heap.size, 0, none⟩) g.ns.length g.ns.length)) := by
 have h1 := h.any (below_alloc wr (.cells (madeCells #[.bool false] g.ns.length) 4))
 have ho := h.ord
 exact ⟨h.gm.fill hk, h1.nu.kept (Below.heap_setCell _ _ _ _ (by show mb ≠ gb; omega)), h.ord, (Below.heap_setCell _ _ _ _ (by show w.heap.size ≠ gb; omega)).trans h1.box, h1.bel.setCell (p := ⟨gb, k, none⟩) (by show w.heap.size <= gb; omega) _⟩
theorem CW.set {g : GV} {w wr : World} {mb gb k rb : Nat} {NU M : List Bool} (h : CW g w mb gb k NU wr) (hb : BB wr rb M) (hM : M.length = g.ns.length) (hg : gb < rb) (j : Nat) (v : Bool) : CW g w mb gb k NU (wr.setCell ⟨rb, j, none⟩ (.bool v)) := by
 have ho := h.ord
 exact ⟨h.gm.set hb hM hg j v, h.nu.kept (Below.heap_setCell _ _ _ _ (by show mb ≠ rb; omega)), h.ord, (Below.heap_setCell _ _ _ _ (by show w.heap.size ≠ rb; omega)).trans h.box, h.bel.setCell (p := ⟨rb, j, none⟩) (by show w.heap.size <= rb; omega) _⟩
end Go.Proofs.YtnngnbdlipjflaaGreatDoor
namespace Go.Proofs.YtnngnbdlipjflaaGreatDoor
set_option linter.unusedVariables false
set_option maxRecDepth 100000
set_option maxHeartbeats 16000000
open Go.RowKit
theorem two_cells {w : World} {b : Nat} {v0 v1 : Value} {t : TypeId} (h : w.heap[b]? = some (.cells #[v0, v1] t (0, 0))) : w.cell? ⟨b, 0, none⟩ = some v0 /\ w.cell? ⟨b, 1, none⟩ = some v1 /\ w.frozen? ⟨b, 0, none⟩ = false /\ w.frozen? ⟨b, 1, none⟩ = false :=
 ⟨(cellq_any h).trans rfl, (cellq_any h).trans rfl, by simp [World.frozen?, h], by simp [World.frozen?, h]⟩
theorem below_set2 {B : Nat} {a w : World} (h : Below B a w) {b : Nat} (hb : B <= b) (i j : Nat) (u v : Value) : Below B a ((w.setCell ⟨b, i, none⟩ u).setCell ⟨b, j, none⟩ v) := (h.setCell (p := ⟨b, i, none⟩) hb u).setCell (p := ⟨b, j, none⟩) hb v
end Go.Proofs.YtnngnbdlipjflaaGreatDoor
