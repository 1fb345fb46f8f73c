import Derived.Test.YtfckmbdcfeljiaaDoorCOwn
namespace Go.Proofs.YtfckmbdcfeljiaaDoor
set_option linter.unusedVariables false
open Go.RowKit Go.Maps

theorem conv_nil (w : World) : (convert 22 9 (.slice none 0 0)).run Tryd.prog w = .ok (.string (toStr [])) w := by
  kernel_rfl
theorem conv_any (w : World) (ao : Option Addr) (c : Nat) (zs : List Int) (hr : RowAt w ao zs) (hn : ao = none → c = 0) : (convert 22 9 (.slice ao zs.length c)).run Tryd.prog w = .ok (.string (toStr zs)) w := by
  match ao with
  | none =>
    obtain rfl := hn rfl
    have hz : zs = [] := by
      by_cases hz : zs = []
      · exact hz
      · obtain ⟨b, off, he, _⟩ := hr.2 hz; cases he
    subst hz
    exact conv_nil w
  | some ad => exact conv_str w ad c zs hr
theorem toStr_size (zs : List Int) : (toStr zs).size = zs.length := by simp [toStr, ByteArray.size]
set_option maxRecDepth 100000 in
set_option maxHeartbeats 2000000 in
theorem copyb_any (ao : Option Addr) (N cap : Nat) (xs : List Int) (w : World) (hN : N = xs.length) (hl : xs.length ≤ 140737488355328) (hr : RowAt w ao xs) (hc : ao = none → cap = 0) :
    Calls Tryd.prog 12 #[.slice ao N cap] w fun e w' => ∃ a N c, e = .returned (.slice a N c) ∧ Own w' (.slice a N c) xs ∧ (∀ k, (Value.slice a N c).ownBlock = some k → w.heap.size ≤ k) ∧ Below w.heap.size w w' := by
  subst hN
  go_enter Tryd.func12, Tryd.ntmps12
  go_wp2_with (at_builtin; refine wpList_own_append rfl (.tmp 4) (.tmp 5) rfl _ [] rfl (Own.nil w) ao cap xs rfl hr hc (by simp; omega) ?_; intro v2 w2 ho2 hg2 hn2)
  change Own w2 v2 xs at ho2
  obtain ⟨hB2, hv2⟩ := grew_new (Below.refl _ _) (nil_own _) hg2
  obtain ⟨a2, N2, c2, rfl⟩ := own_slice ho2
  go_ret
  exact ⟨a2, N2, c2, rfl, ho2, hv2, hB2⟩
theorem frame_len (k : Int) (xs : List Int) : (frame k xs).length ≤ xs.length + 100 := by
  have := enc_len 10 (xs.length : Int)
  simp [frame, lead, headBytes, sumBytes]
  omega
/-- All that was laid lies below s. -/
structure Fz (B s : Nat) (v : Value) (E : List K.LE) : Prop where
  lo : B ≤ s
  e : ∀ x ∈ E, x.g < s
  v : ∀ k, v.ownBlock = some k → k < s
theorem Fz.hf {B s : Nat} {v u : Value} {E : List K.LE} (h : Fz B s v E) (hu : ∀ k, u.ownBlock = some k → s ≤ k) : ∀ k, u.ownBlock = some k → B ≤ k ∧ (∀ x ∈ E, x.g ≠ k) ∧ v.ownBlock ≠ some k := fun k hk => by
  have h1 := hu k hk
  have h2 := h.lo
  exact ⟨by omega, fun x hx e => (by have := h.e x hx; omega), fun e => (by have := h.v k e; omega)⟩
theorem Fz.add {B s s' : Nat} {v u : Value} {E E' : List K.LE} (h : Fz B s v E) (hs : s ≤ s') (hu : ∀ k, u.ownBlock = some k → k < s') (hsub : ∀ x ∈ E', x ∈ E ∨ u.ownBlock = some x.g) : Fz B s' v E' := by
  refine ⟨Nat.le_trans h.lo hs, fun x hx => ?_, fun k hk => Nat.lt_of_lt_of_le (h.v k hk) hs⟩
  rcases hsub x hx with y | y
  · exact Nat.lt_of_lt_of_le (h.e x y) hs
  · exact hu _ y
theorem CR.fz {B m : Nat} {w0 wr : World} {V : Nat → Value} {E : Nat → List K.LE} {p q : Nat} {v : Value} {xs : List Int} (h : CR B w0 m wr V E p q v xs) : Fz B wr.heap.size v (E 0) := ⟨h.k.size, h.k.lt 0, h.w.own.lt⟩
/-- The block of a slice, if it has one. -/
def lc (u : Value) : List K.LE := match u.ownBlock with | some k => [⟨k, 0, 0⟩] | none => []
theorem lc_mem {u : Value} {e : K.LE} (h : e ∈ lc u) : u.ownBlock = some e.g := by
  unfold lc at h
  split at h
  · rename_i k hk; simp at h; subst h; exact hk
  · cases h
theorem lc_has {u : Value} {k : Nat} (h : u.ownBlock = some k) : ∃ e ∈ lc u, e.g = k := ⟨⟨k, 0, 0⟩, by unfold lc; rw [h]; simp, rfl⟩
theorem ki_after {B m : Nat} {w0 wr wR wL : World} {V : Nat → Value} {E : Nat → List K.LE} {p q : Nat} {v u : Value} {xs : List Int} (hC : CR B w0 m wr V E p q v xs) (hb : Below wr.heap.size wr wR) (hu : ∀ k, u.ownBlock = some k → wr.heap.size ≤ k) (hf : K.KFr (lc u) wR wL) : K.KI kb B wL B V E ∧ Below B w0 wL := by
  have keep : ∀ k, k < wr.heap.size → wL.heap[k]? = wR.heap[k]? := fun k hk => hf.block k (Nat.lt_of_lt_of_le hk hb.size) fun e he e2 => by
    have := hu _ (lc_mem he); omega
  have h2 := hC.later hb
  refine ⟨h2.k.keptAll (keep B (lt_of_block hC.k.hq)) (fun i k hk => keep k ((hC.k.row i).lt k hk)) (fun i e he => keep _ (hC.k.lt i e he)) hf.size, h2.b.trans ⟨hf.os, hf.tape, hf.output, hf.size, fun k hk => keep k (Nat.lt_of_lt_of_le hk hC.k.size)⟩⟩
theorem rinv_after {wR wL : World} {L : List K.LE} {r : Nat} {ro : Option Addr} {N c : Nat} {xs : List Int} {pos : Nat} {err : Int} (h : RInv wR r ro N c xs pos err) (hf : K.KFr L wR wL) (hr : ∀ e ∈ L, e.g ≠ r) (hg : ∀ g, ro = some ⟨g, 0, none⟩ → g < wR.heap.size ∧ ∀ e ∈ L, e.g ≠ g) : RInv wL r ro N c xs pos err :=
  h.kept2 (hf.block r h.lt hr) fun g e => hf.block g (hg g e).1 (hg g e).2
theorem crnew2 (w1 w2 : World) (e2 : w2 = ((w1.alloc (.cells #[K.kNil, K.kNil, K.kNil, K.kNil, K.kNil, K.kNil, K.kNil, K.kNil, K.kNil, K.kNil, K.kNil, K.kNil, K.kNil, K.kNil, K.kNil, K.kNil] 41)).alloc (.cells #[.slice none 0 0, .int .i64 0] 77)).alloc (.cells #[.pointer (some ⟨(w1.alloc (.cells #[K.kNil, K.kNil, K.kNil, K.kNil, K.kNil, K.kNil, K.kNil, K.kNil, K.kNil, K.kNil, K.kNil, K.kNil, K.kNil, K.kNil, K.kNil, K.kNil] 41)).heap.size, 0, none⟩)] 65)) : CR w1.heap.size w1 (3 * 0) w2 (fun _ => K.kNil) (fun _ => []) (w1.heap.size + 1 + 1) (w1.heap.size + 1) (.slice none 0 0) [] := by
  have h := cr_new w1 (below_two (w1.alloc (.cells #[K.kNil, K.kNil, K.kNil, K.kNil, K.kNil, K.kNil, K.kNil, K.kNil, K.kNil, K.kNil, K.kNil, K.kNil, K.kNil, K.kNil, K.kNil, K.kNil] 41)) (.cells #[.slice none 0 0, .int .i64 0] 77) (.cells #[.pointer (some ⟨(w1.alloc (.cells #[K.kNil, K.kNil, K.kNil, K.kNil, K.kNil, K.kNil, K.kNil, K.kNil, K.kNil, K.kNil, K.kNil, K.kNil, K.kNil, K.kNil, K.kNil, K.kNil] 41)).heap.size, 0, none⟩)] 65)) (winv_new _) (below_alloc w1 _).size (fun k hk => by simp [Value.ownBlock] at hk)
  have e : (w1.alloc (.cells #[K.kNil, K.kNil, K.kNil, K.kNil, K.kNil, K.kNil, K.kNil, K.kNil, K.kNil, K.kNil, K.kNil, K.kNil, K.kNil, K.kNil, K.kNil, K.kNil] 41)).heap.size = w1.heap.size + 1 := by simp
  rw [← e2, e] at h
  exact h
set_option maxRecDepth 100000 in
set_option maxHeartbeats 4000000 in
theorem codecown_walk (ao : Option Addr) (cap : Nat) (za : List Int) (n : Int) (w : World) (hm' : Magic w) (hl : za.length ≤ 1048576) (hr' : RowAt w ao za) (hnil : ao = none → cap = 0) (n0 : -9223372036854775808 ≤ n) (n1 : n ≤ 9223372036854775807) :
    Calls Tryd.prog 3 #[.slice ao za.length cap, .int .i64 n] w fun e w' => e = .returned (.bool true) ∧ Below w.heap.size w w' := by
  have hm : Hid (∀ w', Below w.heap.size w w' → Magic w') := fun w' hb => hm'.later hb (World.block_lt_of_cell? w _ hm'.1)
  have hr : Hid (∀ w', Below w.heap.size w w' → RowAt w' ao za) := fun w' hb => hr'.later hb
  have hm0 : Hid (Magic w) := hm'
  have HNI : Hid (ao = none → cap = 0) := hnil
  have HFL : Hid (∀ k, (frame k za).length ≤ 2000000) := fun k => by have := frame_len k za; omega
  have HOF : Hid (openS 2 (frame 2 za) = (za, 0, 0)) := open_frame 2 za (by omega)
  clear hm' hr' hnil
  go_enter Tryd.func3, Tryd.ntmps3
  go_wp2_with (first
    | (go_at_call 4; refine (alive_any w hm0.out).mono ?_; rintro e w1 ⟨rfl, hb1'⟩; have hb1 : Hid (Below w.heap.size w w1) := hb1'; clear hb1')
    | (go_at_call 5; refine (newwriter_any _).mono ?_; rintro e w2 ⟨rfl, e2⟩; have C2 : Hid (CR w1.heap.size w1 (3 * 0) w2 (fun _ => K.kNil) (fun _ => []) (w1.heap.size + 1 + 1) (w1.heap.size + 1) (.slice none 0 0) []) := crnew2 w1 w2 e2; clear e2))
  generalize w1.heap.size + 1 = q at *
  generalize q + 1 = p at *
  go_loopw [7] (fun i wr => ∃ (j : Nat) (V : Nat → Value) (E : Nat → List K.LE) (v : Value) (xs : List Int), i = .int .i64 j ∧ j ≤ 3 ∧ xs.length ≤ j * 2000000 ∧ CR w1.heap.size w1 (3 * j) wr V E p q v xs) (fun i _ => 3 - (intOf i).toNat)
  case atStart => exact ⟨0, _, _, _, _, rfl, by omega, by simp, C2.out⟩
  case round =>
    clear C2
    obtain ⟨j, V, E, v, xs, rfl, hj, hxl, hC'⟩ := hrel
    have hC : Hid (CR w1.heap.size w1 (3 * j) wr V E p q v xs) := hC'
    have HBW : Hid (∀ w', Below w1.heap.size w1 w' → Below w.heap.size w w') := fun w' hb => hb1.out.trans (hb.mono hb1.out.size)
    clear hC'
    by_cases hlt : j < 3
    · have hcv : (convert 22 9 (.slice ao za.length cap)).run Tryd.prog wr = .ok (.string (toStr za)) wr := conv_any wr ao cap za (hr.out wr (HBW.out wr hC.out.b)) HNI.out
      have HXL : Hid (xs.length + (toStr za).size ≤ 140737488355300) := by show _ ≤ _; rw [toStr_size]; omega
      have HXL2 : Hid ((xs ++ enc 10 (toStr za).size ++ strBytes (toStr za)).length ≤ (j + 1) * 2000000) := by
        show _ ≤ _
        have := enc_len 10 ((toStr za).size : Int)
        have e2 : (strBytes (toStr za)).length = za.length := by simp [strBytes, toStr]
        rw [List.length_append, List.length_append, e2]
        omega
      have GD1 : Hid True := trivial
      have GD2 : Hid True := trivial
      obtain ⟨xs', HX⟩ : ∃ xs', Hid (xs' = xs ++ enc 10 (toStr za).size ++ strBytes (toStr za)) := ⟨_, rfl⟩
      rw [← HX.out] at HXL2
      go_wp2_with (first
        | (go_at_call 6; refine (wtext (toStr za) hC.out.w HXL.out xs' (HX.out.trans (if_pos rfl).symm)).mono ?_; rintro e w3 ⟨rfl, v3, hw3, hg3⟩; have hC3 : Hid (CR w1.heap.size w1 (3 * j) w3 V E p q v3 xs') := hC.out.text hw3 hg3; clear hw3 hg3)
        | (go_at_call 7; refine (wbytes_any hC3.out.w (by have := HXL2.out; omega)).mono ?_; rintro e w4 ⟨ba, bc, rfl, hob', hfb', hb4⟩; have hC4 : Hid (CR w1.heap.size w1 (3 * j) w4 V E p q v3 xs') := hC3.out.later hb4; have hob : Hid (Own w4 (.slice ba xs'.length bc) xs') := hob'; have hfb : Hid (∀ k, (Value.slice ba xs'.length bc).ownBlock = some k → w3.heap.size ≤ k) := hfb'; have hs4 : Hid (w3.heap.size ≤ w4.heap.size) := hb4.size; clear hob' hfb' hb4)
        | (go_at_call 8; refine (seal_at 1 ao za.length cap za w4 rfl (by omega) (by omega) (by omega) (hm.out w4 (HBW.out w4 hC4.out.b)) (hr.out w4 (HBW.out w4 hC4.out.b)) HNI.out).mono ?_; rintro e w5 ⟨g5, N5, c5, rfl, hof', hg5', hb5⟩; have hC5 : Hid (CR w1.heap.size w1 (3 * j) w5 V E p q v3 xs') := hC4.out.later hb5; have hof : Hid (Own w5 (.slice (some ⟨g5, 0, none⟩) N5 c5) (frame 1 za)) := hof'; have hob5 : Hid (Own w5 (.slice ba xs'.length bc) xs') := hob.out.later hb5; have hg5 : Hid (w4.heap.size ≤ g5) := hg5'; have hs5 : Hid (w4.heap.size ≤ w5.heap.size) := hb5.size; clear hof' hg5' hb5)
        | (go_at_call 9; refine (refseal_any 2 ao za.length cap za w5 rfl (by omega) (by omega) (by omega) (hr.out w5 (HBW.out w5 hC5.out.b)) HNI.out).mono ?_; rintro e w6 ⟨g6, N6, c6, rfl, hos', hg6', hb6⟩; have hC6 : Hid (CR w1.heap.size w1 (3 * j) w6 V E p q v3 xs') := hC5.out.later hb6; have hos : Hid (Own w6 (.slice (some ⟨g6, 0, none⟩) N6 c6) (frame 2 za)) := hos'; have hob6 : Hid (Own w6 (.slice ba xs'.length bc) xs') := hob5.out.later hb6; have hof6 : Hid (Own w6 (.slice (some ⟨g5, 0, none⟩) N5 c5) (frame 1 za)) := hof.out.later hb6; have hs6 : Hid (w5.heap.size ≤ w6.heap.size) := hb6.size; clear hos' hg6' hb6)
        | (go_at_call 10; refine (open_eq 2 (some ⟨g6, 0, none⟩) N6 c6 (frame 2 za) w6 za 0 0 HOF.out (own_len hos.out).1 (by omega) (by omega) (by have := HFL.out 2; omega) (own_cap hos.out) (hm.out w6 (HBW.out w6 hC6.out.b)) (own_len hos.out).2.1).mono ?_; rintro e w7 ⟨oa, oN, oc, rfl, hoo', hfo', hb7⟩; have hC7 : Hid (CR w1.heap.size w1 (3 * j) w7 V E p q v3 xs') := hC6.out.later hb7; have hoo : Hid (Own w7 (.slice oa oN oc) za) := hoo'; have hfo : Hid (∀ k, (Value.slice oa oN oc).ownBlock = some k → w6.heap.size ≤ k) := hfo'; have hob7 : Hid (Own w7 (.slice ba xs'.length bc) xs') := hob6.out.later hb7; have hof7 : Hid (Own w7 (.slice (some ⟨g5, 0, none⟩) N5 c5) (frame 1 za)) := hof6.out.later hb7; clear hoo' hfo' hb7)
        | (go_at_call 11; guard_hyp GD1 : Hid True; clear GD1; refine (cr_add hC7.out (by omega) hob7.out (hC3.out.fz.hf hfb.out) (by have := HXL2.out; omega)).mono ?_; rintro e w8 ⟨rfl, V8, E8, hC8', hsub8, hown8⟩; have hC8 : Hid (CR w1.heap.size w1 (3 * j + 1) w8 V8 E8 p q v3 xs') := hC8'; have Z8 : Hid (Fz w1.heap.size w4.heap.size v3 (E8 0)) := hC3.out.fz.add hs4.out hob.out.lt hsub8; have hof8 : Hid (Own w8 (.slice (some ⟨g5, 0, none⟩) N5 c5) (frame 1 za)) := hown8 _ _ hof7.out; have hoo8 : Hid (Own w8 (.slice oa oN oc) za) := hown8 _ _ hoo.out; clear hC8' hsub8 hown8)
        | (go_at_call 11; guard_hyp GD2 : Hid True; clear GD2; refine (cr_add hC8.out (by omega) hof8.out (Z8.out.hf (fun k hk => by simp [Value.ownBlock] at hk; subst hk; exact hg5.out)) (by have := HFL.out 1; omega)).mono ?_; rintro e w9 ⟨rfl, V9, E9, hC9', hsub9, hown9⟩; have hC9 : Hid (CR w1.heap.size w1 (3 * j + 1 + 1) w9 V9 E9 p q v3 xs') := hC9'; have Z9 : Hid (Fz w1.heap.size w5.heap.size v3 (E9 0)) := Z8.out.add hs5.out hof.out.lt hsub9; have hoo9 : Hid (Own w9 (.slice oa oN oc) za) := hown9 _ _ hoo8.out; clear hC9' hsub9 hown9)
        | (go_at_call 11; refine (cr_add hC9.out (by omega) hoo9.out (Z9.out.hf (fun k hk => Nat.le_trans hs6.out (hfo.out k hk))) (by omega)).mono ?_; rintro e w10 ⟨rfl, V10, E10, hC10', _, _⟩; have hC10 : Hid (CR w1.heap.size w1 (3 * j + 1 + 1 + 1) w10 V10 E10 p q v3 xs') := hC10'; clear hC10'))
      go_roundw
      case rel => exact ⟨j + 1, V10, E10, v3, xs', by go_num, by omega, HXL2.out, hC10.out⟩
      case measure => simp [intOf]; omega
    · obtain rfl : j = 3 := by omega
      go_wp2_with (first
        | (go_at_call 12; refine (copyb_any ao za.length cap za wr rfl (by omega) (hr.out wr (HBW.out wr hC.out.b)) HNI.out).mono ?_; rintro e wc ⟨ca, cN, cc, rfl, hoc', hfc', hbc'⟩; obtain ⟨hcN, hcr', hcn'⟩ := own_len hoc'; subst hcN; have hoc : Hid (Own wc (.slice ca za.length cc) za) := hoc'; have hcr : Hid (RowAt wc ca za ∧ (ca = none → cc = 0)) := ⟨hcr', hcn'⟩; have hfc : Hid (∀ k, (Value.slice ca za.length cc).ownBlock = some k → wr.heap.size ≤ k) := hfc'; have hbc : Hid (Below wr.heap.size wr wc) := hbc'; clear hoc' hfc' hbc' hcr' hcn')
        | (go_at_call 13; refine (newreader_own ca za.length cc za wc rfl (by omega) hcr.out.1 hcr.out.2).mono ?_; rintro e wR ⟨r, ro, rN, rc, rfl, hR', hrr', hro', hbR'⟩; have hR : Hid (RInv wR r ro rN rc za 0 0) := hR'; have hrr : Hid (wc.heap.size ≤ r) := hrr'; have hro : Hid (∀ g, ro = some ⟨g, 0, none⟩ → wc.heap.size ≤ g ∧ g < wR.heap.size) := hro'; have hbR : Hid (Below wr.heap.size wr wR) := K.below_step hbc.out hbR'; have hoR : Hid (Own wR (.slice ca za.length cc) za) := hoc.out.later hbR'; clear hR' hrr' hro' hbR'))
      have hclt : Hid (∀ k, (Value.slice ca za.length cc).ownBlock = some k → k < wc.heap.size) := hoc.out.lt
      obtain ⟨wo, rfl⟩ : ∃ wo : World, wo = wr := ⟨_, rfl⟩
      go_loopw [19] (fun i wr => ∃ (j : Nat) (zs : List Int), i = .int .i64 j ∧ j ≤ za.length ∧ zs.length = za.length ∧ wr.ownsRow 0 5 1 (.slice ca za.length cc) za.length (zs.map (Value.int .u8)) ∧ K.KFr (lc (.slice ca za.length cc)) wR wr) (fun i _ => za.length - (intOf i).toNat)
      case atStart => exact ⟨0, za, rfl, Nat.zero_le _, rfl, hoR.out.2, K.KFr.refl _ _⟩
      case round =>
        obtain ⟨j, zs, rfl, hj, hzl', hro2', hf'⟩ := hrel
        have hzl : Hid (zs.length = za.length) := hzl'
        have hro2 : Hid (wr.ownsRow 0 5 1 (.slice ca za.length cc) za.length (zs.map (Value.int .u8))) := hro2'
        have hf : Hid (K.KFr (lc (.slice ca za.length cc)) wR wr) := hf'
        clear hf' hro2' hzl'
        by_cases hlj : j < za.length
        · obtain ⟨cg, rfl⟩ : ∃ cg, ca = some ⟨cg, 0, none⟩ := by
            rcases hro2.out.2 with ⟨e, h0⟩ | ⟨g, cap2, cur, e, _⟩
            · omega
            · simp only [Value.slice.injEq] at e
              exact ⟨g, e.1⟩
          obtain ⟨cur, hbk, _⟩ := K.row_block (e := ⟨cg, za.length, cc⟩) hro2.out
          have ck : wr.cell? ⟨cg, j, none⟩ = some (.int .u8 (zs.getD j 0)) := by
            have := World.ownsRow.cells hro2.out (g := cg) rfl j (.int .u8 (zs.getD j 0)) (by have := hzl.out; simp [List.getD, show j < zs.length by omega])
            rwa [K.add_none, Nat.zero_add] at this
          have fk : wr.frozen? ⟨cg, j, none⟩ = false := by simp [World.frozen?, hbk]
          have HS : Hid (∀ x, (wr.setCell ⟨cg, j, none⟩ (.int .u8 x)).ownsRow 0 5 1 (.slice (some ⟨cg, 0, none⟩) za.length cc) za.length ((zs.set j x).map (Value.int .u8))) := fun x => by
            have := K.row_set (e := ⟨cg, za.length, cc⟩) hro2.out j (.int .u8 x)
            rw [← List.map_set] at this
            exact this
          have HF : Hid (∀ x, K.KFr (lc (.slice (some ⟨cg, 0, none⟩) za.length cc)) wR (wr.setCell ⟨cg, j, none⟩ x)) := fun x => hf.out.trans ⟨rfl, rfl, rfl, by simp [World.setCell], fun z _ hn => Below.heap_setCell _ _ _ _ (fun e => by
            obtain ⟨y, hy, ey⟩ := lc_has (u := .slice (some ⟨cg, 0, none⟩) za.length cc) (k := cg) rfl
            exact hn y hy (by rw [ey, e]))⟩
          clear hbk
          generalize zs.getD j 0 = x at *
          go_wp2
          go_roundw
          case rel => exact ⟨j + 1, _, by go_num, by omega, by rw [List.length_set]; exact hzl.out, HS.out _, HF.out _⟩
          case measure => simp [intOf]; omega
        · obtain rfl : j = za.length := by omega
          obtain ⟨kiL, bL⟩ := ki_after hC.out hbR.out hfc.out hf.out
          have hRL := rinv_after hR.out hf.out (fun e he e2 => by have := hclt.out _ (lc_mem he); have := hrr.out; omega) (fun g eg => ⟨(hro.out g eg).2, fun e he e2 => by have := hclt.out _ (lc_mem he); have := (hro.out g eg).1; omega⟩)
          obtain ⟨nn, pp, ee, HTK⟩ : ∃ nn pp ee, Hid (takeS za 0 0 18446744073709551615 = (nn, pp, ee)) := ⟨_, _, _, rfl⟩
          have bd : Below wr.heap.size wr (wr.alloc (.cells #[.slice ao za.length cap, .int .i64 0, .int .i64 0, .int .i64 0] 59)).drew := (below_alloc wr _).drew
          have KQ : Hid (K.KI kb w1.heap.size (wr.alloc (.cells #[.slice ao za.length cap, .int .i64 0, .int .i64 0, .int .i64 0] 59)).drew w1.heap.size V E) := kiL.later bd
          have RQ : Hid (RInv (wr.alloc (.cells #[.slice ao za.length cap, .int .i64 0, .int .i64 0, .int .i64 0] 59)).drew r ro rN rc za 0 0) := hRL.later bd
          have s1 : wo.heap.size ≤ wc.heap.size := hbc.out.size
          have s2 : wR.heap.size ≤ wr.heap.size := hf.out.size
          have s3 : r < wR.heap.size := hR.out.lt
          have s4 : wr.heap.size ≤ (wr.alloc (.cells #[.slice ao za.length cap, .int .i64 0, .int .i64 0, .int .i64 0] 59)).drew.heap.size := bd.size
          have s5 : wo.heap.size ≤ wR.heap.size := hbR.out.size
          have s6 : w.heap.size ≤ w1.heap.size := hb1.out.size
          have s7 : w1.heap.size ≤ wo.heap.size := hC.out.k.size
          have HX : Hid (wc.heap.size ≤ r ∧ wo.heap.size ≤ wc.heap.size ∧ wR.heap.size ≤ wr.heap.size ∧ r < wR.heap.size ∧ wr.heap.size ≤ (wr.alloc (.cells #[.slice ao za.length cap, .int .i64 0, .int .i64 0, .int .i64 0] 59)).drew.heap.size ∧ wo.heap.size ≤ wR.heap.size ∧ w.heap.size ≤ w1.heap.size ∧ w1.heap.size ≤ wo.heap.size) := ⟨hrr.out, s1, s2, s3, s4, s5, s6, s7⟩
          have BA : Hid (∀ wA, K.KFr (E 0) (wr.alloc (.cells #[.slice ao za.length cap, .int .i64 0, .int .i64 0, .int .i64 0] 59)).drew wA → Below w.heap.size w wA) := fun wA fA => HBW.out wA ((bL.trans (bd.mono (by omega))).trans (KQ.out.fr kb_ok fA))
          have AFR : Hid (∀ wA, K.KFr (E 0) (wr.alloc (.cells #[.slice ao za.length cap, .int .i64 0, .int .i64 0, .int .i64 0] 59)).drew wA → RInv wA r ro rN rc za 0 0) := fun wA fA => rinv_after RQ.out fA (fun e he e2 => by have := hC.out.k.lt 0 e he; have := HX.out; omega) (fun g eg => ⟨by have := (hro.out g eg).2; omega, fun e he e2 => by have := hC.out.k.lt 0 e he; have := (hro.out g eg).1; omega⟩)
          have FAR : Hid (∀ b off, ao = some ⟨b, off, none⟩ → za ≠ [] → b ≠ wr.heap.size) := fun b off e hz e2 => by
            obtain ⟨b', off', e', hc⟩ := (hr.out w (Below.refl _ _)).2 hz
            rw [e] at e'
            simp at e'
            obtain ⟨rfl, rfl⟩ := e'
            have := World.block_lt_of_cell? w _ (hc 0 (by cases za with | nil => exact absurd rfl hz | cons => simp))
            simp at this
            omega
          have AFQ : Hid (∀ wA, K.KFr (E 0) (wr.alloc (.cells #[.slice ao za.length cap, .int .i64 0, .int .i64 0, .int .i64 0] 59)).drew wA → QInv wA wr.heap.size ao cap za 0 0) := fun wA fA => ⟨(fA.block wr.heap.size (lt_of_block (heap_alloc_new wr _)) (fun e he e2 => by have := hC.out.k.lt 0 e he; omega)).trans (heap_alloc_new wr _), hr.out wA (BA.out wA fA), Nat.zero_le _, by omega, FAR.out⟩
          have AFN : Hid (∀ wA wN, QInv wA wr.heap.size ao cap za 0 0 → Below w.heap.size w wA → ROnly wA wN r → QInv wN wr.heap.size ao cap za 0 0 ∧ Below w.heap.size w wN) := fun wA wN hQ hb ho => by
            have hb2 := hb.trans (ho.below (by have := HX.out; omega) hb.size)
            exact ⟨⟨(ho.block _ (lt_of_block hQ.hq) (by have := HX.out; omega)).trans hQ.hq, hr.out wN hb2, Nat.zero_le _, hQ.lim, FAR.out⟩, hb2⟩
          have AFM : Hid (∀ wN wM, RInv wN r ro rN rc za pp ee → Below w.heap.size w wN → ROnly wN wM wr.heap.size → (∀ g, ro = some ⟨g, 0, none⟩ → g < wN.heap.size) → RInv wM r ro rN rc za pp ee ∧ Below w.heap.size w wM) := fun wN wM hR hb ho hg => by
            have hb2 := hb.trans (ho.below (by have := HX.out; omega) hb.size)
            exact ⟨hR.kept2 (ho.block r hR.lt (by have := HX.out; omega)) fun g eg => ho.block g (hg g eg) (by have := (hro.out g eg).2; omega), hb2⟩
          have HG : Hid (∀ wN : World, wR.heap.size ≤ wN.heap.size → ∀ g, ro = some ⟨g, 0, none⟩ → g < wN.heap.size) := fun wN hs g eg => by have := (hro.out g eg).2; omega
          have NO : Hid ((∀ i, i ≠ 0 → E i = []) ∧ (E 0).length ≤ 1000 ∧ ∀ e ∈ E 0, e.n ≤ 100000000) := ⟨hC.out.no, by have := hC.out.l; omega, hC.out.n⟩
          clear kiL bL hRL bd s1 s2 s3 s4 s5 s6 s7
          have hnn : (nn != nn) = false := by simp
          have hpp : ((pp : Int) != (pp : Int)) = false := by simp
          go_wp2
          go_region_with (first
            | (go_at_call 14; refine (K.book_apartB kb kb_ok w1.heap.size w1.heap.size V E _ KQ.out ⟨rfl, rfl, rfl⟩ NO.out.1 NO.out.2.1 NO.out.2.2).mono ?_; rintro e wA ⟨rfl, fA'⟩; have RA : Hid (RInv wA r ro rN rc za 0 0) := AFR.out wA fA'; have QA : Hid (QInv wA wr.heap.size ao cap za 0 0) := AFQ.out wA fA'; have bA : Hid (Below w.heap.size w wA) := BA.out wA fA'; have sA : Hid (wR.heap.size ≤ wA.heap.size) := (by have := HX.out; have := fA'.size; show _ ≤ _; omega); clear fA')
            | (go_at_call 15; refine (rnumber_any RA.out nn pp ee HTK.out).mono ?_; rintro e wN ⟨rfl, RN', oN'⟩; have RN : Hid (RInv wN r ro rN rc za pp ee) := RN'; have QN : Hid (QInv wN wr.heap.size ao cap za 0 0 ∧ Below w.heap.size w wN) := AFN.out wA wN QA.out bA.out oN'; have sN : Hid (wR.heap.size ≤ wN.heap.size) := Nat.le_trans sA.out oN'.size; clear RN' oN')
            | (go_at_call 16; refine (qnumber QN.out.1 nn pp ee HTK.out).mono ?_; rintro e wM ⟨rfl, QM', oM'⟩; have k1 := QM'.c1; have RM : Hid (RInv wM r ro rN rc za pp ee ∧ Below w.heap.size w wM) := AFM.out wN wM RN.out QN.out.2 oM' (HG.out wN sN.out); clear QM' oM')
            | (go_at_call 17; refine (rat_any RM.out.1).mono ?_; rintro e w' ⟨rfl, rfl⟩))
          all_goals
            have GW : Hid True := trivial
            have GR : Hid True := trivial
            have ZW : Hid (NoWr ((wM.alloc (.cells #[.pointer none] 65)).alloc (.cells #[.bool false, .slice none 0 0, .int .i64 0, .int .i64 0] 67)) (.pointer (some ⟨wM.heap.size, 0, none⟩))) := .inr ⟨_, rfl, ((below_alloc _ _).block _ (lt_of_block (heap_alloc_new wM _))).trans (heap_alloc_new wM _)⟩
            have ZR : Hid (NoRd ((wM.alloc (.cells #[.pointer none] 65)).alloc (.cells #[.bool false, .slice none 0 0, .int .i64 0, .int .i64 0] 67)) (.pointer (some ⟨wM.heap.size + 1, 0, none⟩))) := .inr ⟨_, rfl, by have e : (wM.alloc (.cells #[.pointer none] 65)).heap.size = wM.heap.size + 1 := (by simp); rw [← e]; exact heap_alloc_new _ _⟩
            have BZ : Hid (Below w.heap.size w ((wM.alloc (.cells #[.pointer none] 65)).alloc (.cells #[.bool false, .slice none 0 0, .int .i64 0, .int .i64 0] 67))) := (RM.out.2.alloc RM.out.2.size _).alloc (Nat.le_trans RM.out.2.size (below_alloc wM _).size) _
            go_wp2_with (first
              | (go_at_call 18; guard_hyp GW : Hid True; clear GW; refine (nowriter_any (.inl rfl) n n0 n1).mono ?_; rintro e w' ⟨rfl, rfl⟩)
              | (go_at_call 18; refine (nowriter_any ZW.out n n0 n1).mono ?_; rintro e w' ⟨rfl, rfl⟩)
              | (go_at_call 19; guard_hyp GR : Hid True; clear GR; refine (noreader_any (w := ((wM.alloc (.cells #[.pointer none] 65)).alloc (.cells #[.bool false, .slice none 0 0, .int .i64 0, .int .i64 0] 67))) (.inl rfl) n n0 n1).mono ?_; rintro e u1 ⟨rfl, y1⟩; have ZR1 : Hid (NoRd u1 (.pointer (some ⟨wM.heap.size + 1, 0, none⟩))) := ZR.out.later y1; have B1 : Hid (Below w.heap.size w u1) := BZ.out.trans (y1.mono BZ.out.size); clear y1)
              | (go_at_call 19; refine (noreader_any ZR1.out n n0 n1).mono ?_; rintro e u2 ⟨rfl, y2⟩; have B2 : Hid (Below w.heap.size w u2) := B1.out.trans (y2.mono B1.out.size); clear y2))
            go_ret
            exact ⟨rfl, B2.out⟩
end Go.Proofs.YtfckmbdcfeljiaaDoor
