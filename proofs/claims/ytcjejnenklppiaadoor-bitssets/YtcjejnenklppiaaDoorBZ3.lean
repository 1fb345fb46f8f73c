import Derived.Test.YtcjejnenklppiaaDoorBZ2
import Derived.Shelf.Spec.SlicesGrow
import Derived.Laws.AppendOwnNone
import Derived.Maps.AppendAt
namespace Go.Proofs.YtcjejnenklppiaaDoor
set_option linter.unusedVariables false
open Go.RowKit Go.Shelf Go.Sort Go.Lib

def ShpB (ya : Option Addr) (c : Nat) : Prop := ya = none ∧ c = 0 ∨ ∃ b off, ya = some ⟨b, off, none⟩
/-- A row behind a list of one's own. -/
theorem wpList_cat {ops : Array Oper} {rest : List Oper} {o : Oper} {a : Act} {Q : Exit → Act → World → Prop} {w : World} (hgd : o.guard = none) (s x : Operand)
    (ho : o.op = .call { callee := .builtin .append, args := #[s, x], argTypes := #[42, 42] })
    (v : Value) (l : List Int) (hs : a.eval s = v) (h : IL w v l) (ya : Option Addr) (c : Nat) (n : Nat) (zs : List Int) (hx : a.eval x = .slice ya n c) (hn : zs.length = n) (hya : ShpB ya c) (hr : InRow w ya zs) (hlen : l.length + zs.length ≤ 100000000)
    (hK : ∀ a' n' c' w', IL w' (.slice a' n' c') (l ++ zs) → Grew w w' v (.slice a' n' c') → wpList Tryd.prog ops Q rest (a.put o.dst (.slice a' n' c')) w') : wpList Tryd.prog ops Q (o :: rest) a w := by
  obtain ⟨i0, hi, hz0, hz1, hz2⟩ := infoInt_parts
  subst hn
  rcases hya with ⟨rfl, rfl⟩ | ⟨b, off, rfl⟩
  · have hz : zs = [] := by
      by_cases q : zs = []
      · exact q
      · obtain ⟨_, _, e, _⟩ := hr q; cases e
    subst hz
    refine wpList_append_own_none hgd s x 42 ho 0 3 i0 1 Tryd.underlying42 hi v l.length (l.map (.int .i64 ·)) hs h hx ?_
    obtain ⟨a', c', rfl⟩ := il_len h
    exact hK _ _ _ w (by simpa using h) ⟨⟨rfl, rfl, rfl, Nat.le_refl _, fun _ _ _ => rfl⟩, .inl rfl⟩
  · refine wpList_append_own_at w hgd s x 42 ho 0 3 i0 (.int .i64 0) 1 8 Tryd.underlying42 hi hz0 hz1 hz2 rfl (by decide) v l.length (l.map (.int .i64 ·)) hs h ⟨b, off, none⟩ zs.length c (zs.map (.int .i64 ·)) hx (by simp) ?_ ?_ (by unfold maxLen; omega) (by omega) (Nat.zero_le _) ?_
    · intro j u hu
      have hj : j < zs.length := by have := (List.getElem?_eq_some_iff.1 hu).1; simpa using this
      obtain ⟨b', off', e, _, hc⟩ := hr (by intro h; subst h; simp at hj)
      simp at e
      obtain ⟨rfl, rfl⟩ := e
      rw [add_none, hc j hj, ← hu]
      simp [List.getD, hj]
    · intro u hu; simp at hu; obtain ⟨y, _, rfl⟩ := hu; rfl
    · intro v' w' h2 h3 _ h5
      have h6 : IL w' v' (l ++ zs) := by unfold IL; simpa using h2
      obtain ⟨a', c', rfl⟩ := il_len h6
      exact hK _ _ _ w' h6 ⟨h3, h5.imp id fun e => ⟨_, e, Nat.le_refl _⟩⟩
/-- A list of one's own as a row. -/

theorem il_shpB {w : World} {v : Value} {l : List Nat} (h : IL w v (nI l)) : ∃ a c, v = .slice a l.length c ∧ ShpB a c ∧ InRow w a (nI l) := by
  obtain ⟨a, c, rfl, hr⟩ := h.rowB
  refine ⟨a, c, rfl, ?_, hr⟩
  rcases h.2 with ⟨e, _⟩ | ⟨g, cap, cur, e, _⟩
  · simp only [Value.slice.injEq] at e
    exact .inl ⟨e.1, e.2.2⟩
  · simp only [Value.slice.injEq] at e
    exact .inr ⟨g, 0, e.1⟩
def grRenB : Ren := ⟨fun _ => 73, fun | 0 => 0 | 3 => 3 | 4 => 4 | 9 => 9 | 20 => 20 | 22 => 42 | 25 => 3 | n => n, fun n => n⟩
theorem gr_laysB : Lays8.n4 Tryd.prog grRenB := {
  mixed := by kernel_rfl
  f4 := ⟨Tryd.f73.name, by decide, by kernel_rfl⟩
  t0 := by kernel_rfl
  a0 := fun _ => by kernel_rfl
  z0 := fun _ => by kernel_rfl
  v0 := fun _ => by kernel_rfl
  t3 := by kernel_rfl
  a3 := fun _ => by kernel_rfl
  z3 := fun _ => by kernel_rfl
  v3 := fun _ => by kernel_rfl
  t4 := by kernel_rfl
  a4 := fun _ => by kernel_rfl
  z4 := fun _ => by kernel_rfl
  v4 := fun _ => by kernel_rfl
  t9 := by kernel_rfl
  a9 := fun _ => by kernel_rfl
  z9 := fun _ => by kernel_rfl
  v9 := fun _ => by kernel_rfl
  t20 := by kernel_rfl
  a20 := fun _ => by kernel_rfl
  z20 := fun _ => by kernel_rfl
  v20 := fun _ => by kernel_rfl
  t22 := by kernel_rfl
  a22 := fun _ => by kernel_rfl
  z22 := fun _ => by kernel_rfl
  v22 := fun _ => by kernel_rfl }
theorem grow_B (n : Nat) (hn : n ≤ 1048576) (w : World) : Calls Tryd.prog 73 #[.slice none 0 0, .int .i64 (n : Int)] w fun e w' => ∃ v, e = .returned v ∧ IL w' v [] ∧ (∀ j, v.ownBlock = some j → w.heap.size ≤ j) ∧ Below w.heap.size w w' := by
  obtain ⟨i0, hi, hz0, hz1, hz2⟩ := infoInt_parts
  by_cases h0 : n = 0
  · subst h0
    have hc := Any8.slices_Grow_room gr_laysB none 0 0 0 w (Nat.le_refl _) (by omega) (by omega) (by omega)
    change Calls Tryd.prog 73 _ _ _ at hc
    refine hc.mono ?_
    rintro e w' ⟨rfl, rfl⟩
    exact ⟨_, rfl, IL.nil w', fun j hj => by simp [Value.ownBlock] at hj, Below.refl _ _⟩
  · have hc := Any8.slices_Grow_grow gr_laysB i0 (.int .i64 0) hi hz0 (by rw [hz1]; decide) none 0 0 n [] w (Nat.le_refl _) (by omega) (by rw [hz2]; omega) (by omega) (by simp) (fun _ => rfl) (fun a ha => by cases ha)
    change Calls Tryd.prog 73 _ _ _ at hc
    refine hc.mono ?_
    rintro e w' ⟨rfl, rfl⟩
    have hge := grownCap_ge w (0 + n) 0 3
    have hcm : grownCap w (0 + n) 0 3 ≤ maxLen := grownCap_le_maxLen w (0 + n) 0 3 (by unfold maxLen; omega)
    refine ⟨_, rfl, ⟨by simp, .inr ⟨w.heap.size, _, _, rfl, Nat.zero_le _, heap_alloc_new w.drew _, Nat.zero_le _, hcm, ?_, by simp⟩⟩, fun j hj => ?_, ((Below.refl _ _).drew).trans ((below_alloc w.drew _).mono (Nat.le_refl _))⟩
    · simp only [Array.size_append, size_zeroCells, Value.cells]
      simp
      rw [Nat.zero_add] at hge
      change n + (grownCap w n 0 3 - n) = grownCap w n 0 3
      omega
    · simp [Value.ownBlock] at hj
      omega
set_option maxRecDepth 100000 in
set_option maxHeartbeats 4000000 in
theorem concat_B {w : World} {z vc : Nat} {va : Option Addr} {V : List SlV} {L : List (List Nat)} (hL : LsB z (.slice va L.length vc) V L w) (hl : L.flatten.length ≤ 1048576) (hll : L.length ≤ 1048576) :
    Calls Tryd.prog 65 #[.slice va L.length vc] w fun e w' => ∃ v, e = .returned v ∧ IL w' v (nI L.flatten) ∧ (∀ j, v.ownBlock = some j → w.heap.size ≤ j) ∧ Below w.heap.size w w' := by
  obtain ⟨a', c', he, hr0⟩ := hL.read
  simp only [Value.slice.injEq, true_and] at he
  obtain ⟨rfl, rfl⟩ := he
  have HR : Hid (LrB w va V L) := hr0
  have HIL : Hid (∀ (i : Nat), i < L.length → ∃ xa xc, V[i]? = some (xa, (L.getD i []).length, xc) ∧ ShpB xa xc ∧ InRow w xa (nI (L.getD i []))) := fun i hi => by
    have hv : i < V.length := by rw [hL.len]; exact hi
    obtain ⟨a, c, e, h1, h2⟩ := il_shpB (hL.il i V[i] (L.getD i []) (List.getElem?_eq_getElem hv) (getD_someL hi))
    simp only [slV, Value.slice.injEq] at e
    refine ⟨a, c, ?_, h1, h2⟩
    rw [List.getElem?_eq_getElem hv]
    congr 1
    exact Prod.ext e.1 (Prod.ext e.2.1 e.2.2)
  have HFL : Hid (∀ i, (L.take i).flatten.length ≤ 1048576) := fun i => by
    have h1 : (L.take i).flatten.length + (L.drop i).flatten.length = L.flatten.length := by
      rw [← List.length_append, ← List.flatten_append, List.take_append_drop]
    omega
  have HTK : Hid (∀ i, i < L.length → (L.take (i + 1)).flatten = (L.take i).flatten ++ L.getD i []) := fun i hi => by
    rw [List.take_add_one, getD_someL hi]
    simp
  have GR : Hid (∀ k : Nat, k ≤ 1048576 → Calls Tryd.prog 73 #[.slice none 0 0, .int .i64 (k : Int)] w fun e w' => ∃ v, e = .returned v ∧ IL w' v [] ∧ (∀ j, v.ownBlock = some j → w.heap.size ≤ j) ∧ Below w.heap.size w w') := fun k hk => grow_B k hk w
  clear hL hr0
  go_enter Tryd.func65, Tryd.ntmps65
  go_wp2
  go_loopw [3, 11] (fun s z wr => ∃ (i : Nat), i ≤ L.length ∧ z = .int .i64 (i : Int) ∧ s = .int .i64 (((L.take i).flatten.length : Nat) : Int) ∧ w = wr) (fun _ z _ => L.length - (intOf z).toNat)
  case atStart => exact ⟨0, Nat.zero_le _, rfl, rfl, rfl⟩
  case round =>
    obtain ⟨i, hi, rfl, rfl, rfl⟩ := hrel
    by_cases hlt : i < L.length
    · have ilt : (i : Int) < (L.length : Int) := by omega
      obtain ⟨xa, xc, hV, hsh, hrow⟩ := HIL.out i hlt
      obtain ⟨b, off, hva, hbl, hcell⟩ := HR.out.row (fun q => by rw [q] at hV; simp at hV)
      have ck := hcell i _ hV
      have e1 := HTK.out i hlt
      have e2 := HFL.out (i + 1)
      rw [e1, List.length_append] at e2
      have HE : Hid ((L.take (i + 1)).flatten.length = (L.take i).flatten.length + (L.getD i []).length) := by show _ = _; rw [e1, List.length_append]
      generalize (L.take i).flatten.length = A at *
      generalize (L.getD i []).length = B at *
      have nn : ¬ ((A : Int) + (B : Int) < 0) := by omega
      have wr1 : IntKind.i64.wrap ((A : Int) + (B : Int)) = (A : Int) + (B : Int) := by rw [IntKind.wrap_i64]; omega
      subst hva
      simp only [slV] at ck
      clear hcell hV hsh hrow e1
      go_wp2
      go_roundw
      case rel => exact ⟨i + 1, by omega, by go_num, by rw [HE.out]; simp⟩
      case measure => simp [intOf]; omega
    · obtain rfl : i = L.length := by omega
      have ilt : ¬ (L.length : Int) < (L.length : Int) := by omega
      rw [List.take_length]
      have hl2 := hl
      generalize hAe : L.flatten.length = A at hl2 ⊢
      have GR2 := GR.out A hl2
      have GR3 : Hid (Calls Tryd.prog 73 #[.slice none 0 0, .int .i64 (A : Int)] w fun e w' => ∃ v, e = .returned v ∧ IL w' v [] ∧ (∀ j, v.ownBlock = some j → w.heap.size ≤ j) ∧ Below w.heap.size w w') := GR2
      clear GR GR2 hAe hl2
      go_wp2_with (go_at_call 73; refine GR3.out.mono ?_; rintro e w1 ⟨v, rfl, i1, o1, b1⟩; have W1 : Hid (LBs w [] v w1) := ⟨i1, o1, b1⟩; clear i1 o1 b1)
      clear GR3
      go_loopw [6, 27] (fun v z wr => ∃ (i : Nat), i ≤ L.length ∧ z = .int .i64 (i : Int) ∧ LBs w (nI (L.take i).flatten) v wr) (fun _ z _ => L.length - (intOf z).toNat)
      case atStart => exact ⟨0, Nat.zero_le _, rfl, W1.out⟩
      case round =>
        clear W1
        obtain ⟨i, hi, rfl, hW⟩ := hrel
        by_cases hlt : i < L.length
        · have ilt : (i : Int) < (L.length : Int) := by omega
          obtain ⟨xa, xc, hV, hsh, hrow⟩ := HIL.out i hlt
          obtain ⟨b, off, hva, hbl, hcell⟩ := HR.out.row (fun q => by rw [q] at hV; simp at hV)
          have ck := cellL (hcell i _ hV) hW.bel
          have e1 := HTK.out i hlt
          have e2 := HFL.out (i + 1)
          rw [e1, List.length_append] at e2
          have HX : Hid (ShpB xa xc ∧ InRow wr xa (nI (L.getD i []))) := ⟨hsh, hrow.later hW.bel⟩
          have HE : Hid (nI (L.take (i + 1)).flatten = nI (L.take i).flatten ++ nI (L.getD i [])) := by show _ = _; rw [e1]; simp [nI]
          have HW : Hid (LBs w (nI (L.take i).flatten) u6 wr) := hW
          have HLN : Hid ((nI (L.take i).flatten).length + (nI (L.getD i [])).length ≤ 100000000) := by show _ ≤ _; rw [nI_len, nI_len]; omega
          have HNL : Hid ((nI (L.getD i [])).length = (L.getD i []).length) := nI_len _
          have HE2 : Hid (∀ (v : Value) (w' : World), LBs w (nI (L.take i).flatten ++ nI (L.getD i [])) v w' → LBs w (nI (L.take (i + 1)).flatten) v w') := fun v w' q => by rw [HE.out]; exact q
          clear HE
          generalize nI (L.take i).flatten = A at *
          generalize nI (L.getD i []) = B at *
          generalize (L.getD i []).length = bl at *
          subst hva
          simp only [slV] at ck
          clear hcell hV hsh hrow e1 hW
          go_wp2_with (at_builtin; refine wpList_cat rfl _ _ rfl u6 A rfl HW.out.il xa xc bl B rfl HNL.out HX.out.1 HX.out.2 HLN.out ?_; intro a4 n4 c4 w4 ho4 hg4; have W4 : Hid (LBs w (A ++ B) (.slice a4 n4 c4) w4) := HW.out.app (Below.refl _ _) hg4 ho4; clear ho4 hg4)
          go_roundw
          case rel => exact ⟨i + 1, by omega, by go_num, HE2.out _ _ W4.out⟩
          case measure => simp [intOf]; omega
        · obtain rfl : i = L.length := by omega
          have ilt : ¬ (L.length : Int) < (L.length : Int) := by omega
          rw [List.take_length] at hW
          have HW : Hid (LBs w (nI L.flatten) u6 wr) := hW
          clear hW
          go_wp2
          go_ret
          exact ⟨_, rfl, HW.out.il, HW.out.own, HW.out.bel⟩
end Go.Proofs.YtcjejnenklppiaaDoor
