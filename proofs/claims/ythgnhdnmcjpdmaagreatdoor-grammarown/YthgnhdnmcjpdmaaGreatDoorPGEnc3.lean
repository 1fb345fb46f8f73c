import Derived.Test.YthgnhdnmcjpdmaaGreatDoorPGEncToGEnc2
import Derived.Test.YthgnhdnmcjpdmaaGreatDoorPGCheckCToGCheckD
namespace Go.Proofs.YthgnhdnmcjpdmaaGreatDoor
set_option linter.unusedVariables false
set_option maxRecDepth 100000
set_option maxHeartbeats 16000000
open Go.RowKit
def encV (l : LV) : List Int := C.enc 10 l.assoc ++ encL encI l.terms
structure OkV (P : LV) : Prop where
 l : P.terms.length <= 1048576
 h0 : 0 <= P.assoc /\ P.assoc <= 1048576
 z : ∀ s ∈ P.terms, 0 <= s /\ s <= 9223372036854775807
theorem elevel {w0 wr : World} {p q : Nat} {v : Value} {xs : List Int} (h : EW w0 p q v xs wr) (P : LV) (hr : InRow w0 P.ta P.terms) (ok : OkV P) (hn : xs.length + (encV P).length <= 1000000000) :
  Calls Tryz.prog 33 #[.pointer (some ⟨p, 0, none⟩), .agg #[.int .i64 P.assoc, .slice P.ta P.terms.length P.tc]] wr (EE w0 wr p q (xs ++ encV P)) := by
 obtain ⟨assoc, ta, tc, terms⟩ := P
 obtain ⟨hl1, h0, hz⟩ := ok
 simp only at hr hl1 h0 hz
 have H : Hid (EW w0 p q v xs (wr.alloc (.cells #[.int .i64 assoc, .slice ta terms.length tc] 92))) := h.later (below_alloc wr _)
 have E1 : Hid ((wr.alloc (.cells #[.int .i64 assoc, .slice ta terms.length tc] 92)).heap[wr.heap.size]? = some (.cells #[.int .i64 assoc, .slice ta terms.length tc] 92)) := heap_alloc_new wr _
 have CX : Hid (∀ w', EF (wr.alloc (.cells #[.int .i64 assoc, .slice ta terms.length tc] 92)) w' -> w'.cell? ⟨wr.heap.size, 1, none⟩ = some (.slice ta terms.length tc)) := fun w' hf => by
  have e := (hf _ _ _ E1.out (by decide) (by decide)).trans E1.out
  rw [cellq_any e]; rfl
 have HN : Hid (xs.length <= 1000000000 /\ (xs ++ C.enc 10 assoc).length + (encL encI terms).length <= 1000000000) := by
  unfold encV at hn
  simp only [List.length_append] at hn
  exact ⟨by omega, by rw [List.length_append]; omega⟩
 have HR : Hid (InRow w0 ta terms /\ (∀ s ∈ terms, 0 <= s /\ s <= 9223372036854775807) /\ 0 <= assoc /\ assoc <= 1048576) := ⟨hr, hz, h0.1, h0.2⟩
 clear h hr hz hn h0
 go_enter Tryz.func33, Tryz.ntmps33
 go_wp2_with (first
  | (go_at_call 29; refine (eint H.out assoc HR.out.2.2.1 (by have := HR.out.2.2.2; omega) HN.out.1).mono ?_; rintro e w1 ⟨rfl, v1, h1', f1'⟩; have h1 : Hid (EW w0 p q v1 (xs ++ C.enc 10 assoc) w1) := h1'; have f1 : Hid (EF (wr.alloc (.cells #[.int .i64 assoc, .slice ta terms.length tc] 92)) w1) := f1'; have k1 := CX.out w1 f1'; clear h1' f1')
  | (go_at_call 87; refine (wl_int ta tc terms h1.out HR.out.1 hl1 HR.out.2.1 HN.out.2).mono ?_; rintro e w2 ⟨rfl, v2, h2, f2⟩))
 go_end0
 exact ⟨rfl, v2, by unfold encV; rw [<- List.append_assoc]; exact h2, (EF.ofBelow (below_alloc wr _)).trans (f1.out.trans f2)⟩
theorem wl_level {w0 wr : World} {p q : Nat} {v : Value} {xs : List Int} (ao : Option Addr) (cap : Nat) (l : List LV) (h : EW w0 p q v xs wr) (hr : LvRow w0 ao l) (hl : l.length <= 1048576) (hz : ∀ s ∈ l, OkV s) (hn : xs.length + (encL encV l).length <= 1000000000) :
  Calls Tryz.prog 32 #[.pointer (some ⟨p, 0, none⟩), .slice ao l.length cap, .func (.func 33) #[] #[]] wr (EE w0 wr p q (xs ++ encL encV l)) := by
 have HI : Hid (EW w0 p q v xs wr) := h
 have HR : Hid (LvRow w0 ao l) := hr
 have HN : Hid (xs.length + (encL encV l).length <= 1000000000) := hn
 have HN0 : Hid (xs.length <= 1000000000) := by show _ <= _; omega
 have HX : Hid (∀ k, (xs ++ C.enc 10 l.length ++ (l.take k).flatMap encV).length <= 1000000000) := fun k => by
  have h1 := flat_le encV l k
  unfold encL at hn
  rw [List.length_append] at hn
  rw [List.length_append, List.length_append]
  omega
 have HZ : Hid (∀ s ∈ l, OkV s) := hz
 clear hz
 clear h hr hn
 go_enter Tryz.func32, Tryz.ntmps32
 go_wp2_with (go_at_call 29; refine (eint HI.out (l.length : Int) (by omega) (by omega) HN0.out).mono ?_; rintro e w1 ⟨rfl, v1, h1', f1'⟩; have h1 : Hid (EW w0 p q v1 (xs ++ C.enc 10 l.length) w1) := h1'; have f1 : Hid (EF wr w1) := f1'; clear h1' f1')
 obtain ⟨ws, HWS⟩ : ∃ ws : World, Hid (ws = wr) := ⟨_, rfl⟩
 have f2 : Hid (EF ws w1) := by rw [HWS.out]; exact f1.out
 go_loopw [14] (fun z wr => ∃ (k : Nat) (v : Value), k <= l.length /\ z = .int .i64 k /\ EW w0 p q v (xs ++ C.enc 10 l.length ++ (l.take k).flatMap encV) wr /\ EF ws wr) (fun z _ => l.length - (intOf z).toNat)
 case atStart => exact ⟨0, v1, Nat.zero_le _, rfl, by simpa using h1.out, f2.out⟩
 case round =>
  clear h1 f1 f2
  obtain ⟨k, v2, hk, rfl, h2', g2'⟩ := hrel
  have h2 : Hid (EW w0 p q v2 (xs ++ C.enc 10 l.length ++ (l.take k).flatMap encV) wr) := h2'
  have g2 : Hid (EF ws wr) := g2'
  clear h2' g2'
  by_cases hlt : k < l.length
  ·have klt : (k : Int) < (l.length : Int) := by omega
   have HS : Hid (xs ++ C.enc 10 l.length ++ (l.take (k + 1)).flatMap encV = xs ++ C.enc 10 l.length ++ (l.take k).flatMap encV ++ encV (l.getD k .none)) := by show _ = _; rw [flat_succ encV l k .none hlt, <- List.append_assoc]
   have HK : Hid _ := HX.out k
   have hmem : l.getD k .none ∈ l := by simp [List.getD, hlt]
   obtain ⟨b, off, rfl, _, hc⟩ := (HR.out.later h2.out.bel).cells (by intro e; subst e; simp at hlt)
   obtain ⟨c0, c1⟩ := hc k hlt
   have HZk : Hid _ := HZ.out _ hmem
   have HRk : Hid _ := HR.out.rows _ hmem
   have HLk : Hid ((xs ++ C.enc 10 l.length ++ (l.take k).flatMap encV).length + (encV (l.getD k .none)).length <= 1000000000) := by
    have e1 := HX.out (k + 1)
    have e2 := HS.out
    rw [e2, List.length_append] at e1
    exact e1
   clear hc hmem
   generalize l.getD k .none = s at *
   obtain ⟨s1, s2, s3, s4⟩ := s
   simp only at c0 c1
   go_wp2_with (go_at_call 33; refine (elevel (h2.out.later (below_alloc wr _)) ⟨s1, s2, s3, s4⟩ HRk.out HZk.out HLk.out).mono ?_; rintro e w3 ⟨rfl, v3, h3, f3⟩)
   go_roundw
   case rel => exact ⟨k + 1, v3, by omega, by go_num, by rw [HS.out]; exact h3, g2.out.trans ((EF.ofBelow (below_alloc wr _)).trans f3)⟩
   case measure => simp [intOf]; omega
  ·obtain rfl : k = l.length := by omega
   go_wp2
   go_end0
   exact ⟨rfl, v2, by have := h2.out; rw [List.take_length, List.append_assoc] at this; exact this, by have := g2.out; rw [HWS.out] at this; exact this⟩
def encG (g : GV) : List Int := encL encS g.ts ++ (encL encS g.ns ++ (C.enc 10 g.start ++ (encL encP g.ps ++ encL encV g.ls)))
structure OkG (g : GV) : Prop where
 ts : ∀ s ∈ g.ts, s.size <= 1000000000
 ns : ∀ s ∈ g.ns, s.size <= 1000000000
 st : 0 <= g.start /\ g.start <= 1048576
 ps : ∀ s ∈ g.ps, OkP s
 ls : ∀ s ∈ g.ls, OkV s
 len : (encG g).length <= 16777216
theorem encode_no (g : GV) (w : World) (h : GAt 140737488355328 w g) (hpc : g.ps.length <= g.pc) (er at_ : Int) (hE : checkG g (checkF g.ts g.ns) = (er, at_)) (hne : er ≠ 0) :
  Calls Tryz.prog 8 #[g.val] w fun e w' => e = .returned (.tuple #[.slice none 0 0, .int .i64 er]) /\ Below w.heap.size w w' := by
 have hbx := BoxG.new (g := g) (w := w) (t := 26)
 have c0 := hbx.g0
 have c1 := hbx.g1
 have c2 := hbx.g2
 have c3 := hbx.g3
 have c4 := hbx.g4
 have CK : Hid (Calls Tryz.prog 17 #[g.val] (w.alloc (.cells (gA g) 26)) fun e w' => e = .returned (.tuple #[.int .i64 er, .int .i64 at_]) /\ Below (w.alloc (.cells (gA g) 26)).heap.size (w.alloc (.cells (gA g) 26)) w') := check_G g _ (h.later (below_alloc w _)) hpc er at_ hE
 have t1 : (er != 0) = true := by simpa using hne
 clear hbx h hpc hE hne
 go_enter Tryz.func8, Tryz.ntmps8
 go_wp2_with (go_at_call 17; refine CK.out.mono ?_; rintro e w1 ⟨rfl, hb1⟩)
 go_returns
 exact ⟨rfl, (below_alloc w _).trans (hb1.mono (below_alloc w _).size)⟩
theorem encode_ok (g : GV) (w : World) (h : GAt 1048576 w g) (hpc : g.ps.length <= g.pc) (at_ : Int) (hE : checkG g (checkF g.ts g.ns) = (0, at_)) (ok : OkG g) (hm : C.Magic w) :
  Calls Tryz.prog 8 #[g.val] w fun e w' => ∃ gg N c, e = .returned (.tuple #[.slice (some ⟨gg, 0, none⟩) N c, .int .i64 0]) /\ C.Own w' (.slice (some ⟨gg, 0, none⟩) N c) (C.frame 1 (encG g)) /\ w.heap.size <= gg /\ Below w.heap.size w w' := by
 have CK : Hid (Calls Tryz.prog 17 #[g.val] (w.alloc (.cells (gA g) 26)) fun e w' => e = .returned (.tuple #[.int .i64 0, .int .i64 at_]) /\ Below (w.alloc (.cells (gA g) 26)).heap.size (w.alloc (.cells (gA g) 26)) w') := check_G g _ ((h.later (below_alloc w _)).mono (by omega)) hpc 0 at_ hE
 have HB0 : Hid (Below w.heap.size w (w.alloc (.cells (gA g) 26))) := below_alloc w _
 have HBX : Hid (BoxG g w.heap.size (w.alloc (.cells (gA g) 26))) := BoxG.new
 have c0 := HBX.out.g0
 have c1 := HBX.out.g1
 have c2 := HBX.out.g2
 have c3 := HBX.out.g3
 have c4 := HBX.out.g4
 have HH : Hid (GAt 1048576 w g /\ OkG g /\ C.Magic w) := ⟨h, ok, hm⟩
 have hl := ok.len
 have HL : Hid ((encG g).length <= 16777216) := ok.len
 unfold encG at hl
 simp only [List.length_append] at hl
 have HA : Hid (([] : List Int).length + (encL encS g.ts).length <= 1000000000 /\ ([] ++ encL encS g.ts : List Int).length + (encL encS g.ns).length <= 1000000000 /\ ([] ++ encL encS g.ts ++ encL encS g.ns : List Int).length <= 1000000000 /\ ([] ++ encL encS g.ts ++ encL encS g.ns ++ C.enc 10 g.start : List Int).length + (encL encP g.ps).length <= 1000000000 /\ ([] ++ encL encS g.ts ++ encL encS g.ns ++ C.enc 10 g.start ++ encL encP g.ps : List Int).length + (encL encV g.ls).length <= 1000000000) := by
  simp only [List.length_append, List.length_nil]
  exact ⟨by omega, by omega, by omega, by omega, by omega⟩
 have HEQ : Hid ([] ++ encL encS g.ts ++ encL encS g.ns ++ C.enc 10 g.start ++ encL encP g.ps ++ encL encV g.ls = encG g) := by show _ = _; unfold encG; simp [List.append_assoc]
 have htl := h.tl
 have hnl := h.nl
 have hpl := h.pl
 have hll := h.ll
 have GD : Hid True := trivial
 clear h hpc hE ok hm hl
 go_enter Tryz.func8, Tryz.ntmps8
 go_wp2_with (first
  | (go_at_call 17; refine CK.out.mono ?_; rintro e w1 ⟨rfl, hb1'⟩; have hb1 : Hid (Below w.heap.size w w1) := HB0.out.trans (hb1'.mono HB0.out.size); have X1 : Hid (BoxG g w.heap.size w1) := HBX.out.later hb1'; have G1 : Hid (GAt 1048576 w1 g) := HH.out.1.later hb1.out; clear hb1')
  | (go_at_call 26; refine (C.newwriter_any w1).mono ?_; rintro e w2 ⟨rfl, e2⟩; have W2 : Hid (EW w1 (w1.heap.size + 1) w1.heap.size (.slice none 0 0) [] w2) := (by subst e2; exact ⟨C.winv_new w1, C.below_two w1 _ _, Nat.le_refl _, fun k hk => by simp [Value.ownBlock] at hk⟩); have X2 : Hid (∀ z, Below w1.heap.size w1 z -> BoxG g w.heap.size z) := (fun z hz => X1.out.later hz); have k0 := (X2.out w2 W2.out.bel).g0; have k1 := (X2.out w2 W2.out.bel).g1; clear e2)
  | (go_at_call 27; guard_hyp GD : Hid True; clear GD; refine (wl_str g.ta g.tc g.ts W2.out G1.out.t htl HH.out.2.1.ts HA.out.1).mono ?_; rintro e w3 ⟨rfl, v3, h3', f3⟩; have W3 : Hid (EW w1 (w1.heap.size + 1) w1.heap.size v3 ([] ++ encL encS g.ts) w3) := h3'; have k2 := (X2.out w3 W3.out.bel).g1; clear h3' f3)
  | (go_at_call 27; refine (wl_str g.na g.nc g.ns W3.out G1.out.n_ hnl HH.out.2.1.ns HA.out.2.1).mono ?_; rintro e w4 ⟨rfl, v4, h4', f4⟩; have W4 : Hid (EW w1 (w1.heap.size + 1) w1.heap.size v4 ([] ++ encL encS g.ts ++ encL encS g.ns) w4) := h4'; have k3 := (X2.out w4 W4.out.bel).g2; clear h4' f4)
  | (go_at_call 29; refine (eint W4.out g.start HH.out.2.1.st.1 (by have := HH.out.2.1.st.2; omega) HA.out.2.2.1).mono ?_; rintro e w5 ⟨rfl, v5, h5', f5⟩; have W5 : Hid (EW w1 (w1.heap.size + 1) w1.heap.size v5 ([] ++ encL encS g.ts ++ encL encS g.ns ++ C.enc 10 g.start) w5) := h5'; have k4 := (X2.out w5 W5.out.bel).g3; clear h5' f5)
  | (go_at_call 30; refine (wl_prod g.pa g.pc g.ps W5.out G1.out.p hpl HH.out.2.1.ps HA.out.2.2.2.1).mono ?_; rintro e w6 ⟨rfl, v6, h6', f6⟩; have W6 : Hid (EW w1 (w1.heap.size + 1) w1.heap.size v6 ([] ++ encL encS g.ts ++ encL encS g.ns ++ C.enc 10 g.start ++ encL encP g.ps) w6) := h6'; have k5 := (X2.out w6 W6.out.bel).g4; clear h6' f6)
  | (go_at_call 32; refine (wl_level g.la g.lc g.ls W6.out G1.out.l hll HH.out.2.1.ls HA.out.2.2.2.2).mono ?_; rintro e w7 ⟨rfl, v7, h7', f7⟩; have W7 : Hid (EW w1 (w1.heap.size + 1) w1.heap.size v7 (encG g) w7) := (by rw [<- HEQ.out]; exact h7'); clear h7' f7)
  | (go_at_call 34; refine (C.wbytes_any W7.out.inv (by have := HL.out; omega)).mono ?_; rintro e w8 ⟨ba, bc, rfl, ho8', _, hb8'⟩; have ho8 : Hid (C.Own w8 (.slice ba (encG g).length bc) (encG g)) := ho8'; have B8 : Hid (Below w.heap.size w w8) := (hb1.out.trans (W7.out.bel.mono hb1.out.size)).trans (hb8'.mono (Nat.le_trans hb1.out.size W7.out.bel.size)); clear ho8' hb8')
  | (go_at_call 35; refine (C.seal_at 1 ba (encG g).length bc (encG g) w8 rfl (by omega) (by omega) HL.out (HH.out.2.2.later B8.out (World.block_lt_of_cell? w _ HH.out.2.2.1)) (C.own_len ho8.out).2.1 (C.own_len ho8.out).2.2).mono ?_; rintro e w9 ⟨gg, N9, c9, rfl, ho9', hg9', hb9'⟩; have ho9 : Hid (C.Own w9 (.slice (some ⟨gg, 0, none⟩) N9 c9) (C.frame 1 (encG g))) := ho9'; have hg9 : Hid (w8.heap.size <= gg) := hg9'; have B9 : Hid (Below w.heap.size w w9) := B8.out.trans (hb9'.mono B8.out.size); clear ho9' hg9' hb9'))
 go_returns
 exact ⟨gg, N9, c9, rfl, ho9.out, Nat.le_trans B8.out.size hg9.out, B9.out⟩
end Go.Proofs.YthgnhdnmcjpdmaaGreatDoor
