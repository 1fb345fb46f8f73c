import Derived.Test.YtboabidokkghbaaGreatGIntactLToGL1
namespace Go.Proofs.YtboabidokkghbaaGreat
set_option linter.unusedVariables false
open Go.RowKit

/-- Lists that were handed in, beside the Given's own. -/
def LsK (w : World) (V : Nat → Value) (v : Value) (L : List (List Int)) : Prop := ∃ gs : List Nat, HL 47 w v (entL L gs) ∧ gs.length = L.length ∧ (∀ j, j < gs.length → NB w (gs.getD j 0) (L.getD j [])) ∧ (∀ i b, v.ownBlock = some b → (V i).ownBlock ≠ some b)
theorem LsK.row {w : World} {V : Nat → Value} {a : Option Addr} {n c : Nat} {L : List (List Int)} (h : LsK w V (.slice a n c) L) : LsRow w a L := by
  obtain ⟨gs, h1, h2, h3, _⟩ := h
  exact (ent_row h1 h2 h3).2
theorem LsK.later {w w' : World} {V : Nat → Value} {v : Value} {L : List (List Int)} (h : LsK w V v L) (hb : Below w.heap.size w w') : LsK w' V v L := by
  obtain ⟨gs, h1, h2, h3, h4⟩ := h
  exact ⟨gs, h1.later hb, h2, fun j hj => (h3 j hj).oth (Oth.ofBelow hb), h4⟩
theorem LsK.hf {w w' : World} {q : Nat} {V V' : Nat → Value} {E : Nat → List HE} {v : Value} {L : List (List Int)} (h : LsK w V v L) (hi : HInv w q V tyG E) (hf : HF w w' q V V') (ho : Oth w w') : LsK w' V' v L := by
  obtain ⟨gs, h1, h2, h3, h4⟩ := h
  refine ⟨gs, h1.kept (fun k hk => hf.block k (h1.lt k hk) (fun e => h1.ne hi.hq gnell (e ▸ hk.symm)) (fun i e => h4 i k hk e.symm)), h2, fun j hj => (h3 j hj).oth ho, fun i b hb hV => ?_⟩
  rcases hf.mv i b hV with r | r
  · exact h4 i b hb r
  · have := h1.lt b hb; omega
def LsP (B : Nat) (w0 w : World) (q n1 n2 n3 n4 : Nat) (L : List (List Int)) (e : Ending) (w' : World) : Prop := ∃ a c V' E', e = .returned (.slice a L.length c) ∧ HK B w0 w' q V' E' (n1 + L.length) n2 n3 n4 ∧ LsK w' V' (.slice a L.length c) L ∧ Oth w w' ∧ Below B w w'
theorem hk_symF {B : Nat} {w0 w : World} {q : Nat} {V : Nat → Value} {E : Nat → List HE} {n1 n2 n3 n4 : Nat} (h : HK B w0 w q V E n1 n2 n3 n4) (hE : n4 ≤ 4900000000000) (ao : Option Addr) (cap : Nat) (xs : List (Int × Int)) (hl : xs.length ≤ 8796093022000) (hr : SymRow w ao xs) :
    Calls Tryz.prog 24 #[.pointer (some ⟨q, 0, none⟩), .slice ao xs.length cap] w fun e w' => e = .returned (.slice (some ⟨w.heap.size, 0, none⟩) xs.length (xs.length + 3)) ∧ (∃ V' E', HK B w0 w' q V' E' n1 n2 n3 (n4 + 1) ∧ HF w w' q V V') ∧ Oth w w' ∧ Below B w w' ∧ YB w' w.heap.size xs := by
  refine (hsyms q V tyG E ao _ cap xs w rfl (by omega) hr h.inv (by have := h.l4; omega) rfl rfl okT_sym.ty).mono ?_
  rintro e w' ⟨rfl, V', x, hI, hg, ht, hz, ⟨zs, hc, hk⟩, hf⟩
  have hb := hf.below h.sz h.q h.lo
  refine ⟨rfl, ⟨V', updE E 4 x, ⟨hI, lo_then hf h.sz h.lo, h.q, h.bel.trans hb, Nat.le_trans h.sz hf.size, ⟨fun e he => ?_, fun e he => ?_, fun e he => ?_, fun e he => ?_, fun κ k1 k2 k3 k4 => ?_⟩, by rw [upd_other _ _ (by decide)]; exact h.l1, by rw [upd_other _ _ (by decide)]; exact h.l2, by rw [upd_other _ _ (by decide)]; exact h.l3, by rw [upd_same]; simp [h.l4]⟩, hf⟩, hg_oth h.inv hf, hb, ?_⟩
  · rw [upd_other _ _ (by decide)] at he; exact h.st.int e he
  · rw [upd_other _ _ (by decide)] at he; exact h.st.str e he
  · rw [upd_other _ _ (by decide)] at he; exact h.st.bool e he
  · rw [upd_same] at he
    rcases List.mem_append.1 he with r | r
    · exact h.st.sym e r
    · simp at r; subst r; exact ⟨ht, hz, zs, hc⟩
  · rw [upd_other _ _ k4]; exact h.st.no κ k1 k2 k3 k4
  · have ha := (hI.at_ 4 x (by rw [upd_same]; simp)).hg
    rw [hc, ht, hg] at ha
    exact ⟨zs, ha, hk⟩
set_option maxRecDepth 100000 in
set_option maxHeartbeats 4000000 in
theorem hk_lists2 {B : Nat} {w0 w : World} {q : Nat} {V : Nat → Value} {E : Nat → List HE} {n1 n2 n3 n4 : Nat} (h : HK B w0 w q V E n1 n2 n3 n4) (fa : Option Addr) (fc : Nat) (L : List (List Int)) (hE : n1 + L.length ≤ 4900000000000) (hL : ∀ wr, Below B w wr → LsRow wr fa L) (hll : ∀ l ∈ L, l.length ≤ 17592186044000) :
    Calls Tryz.prog 23 #[.pointer (some ⟨q, 0, none⟩), .slice fa L.length fc] w fun e w' => LsP B w0 w q n1 n2 n3 n4 L e w' := by
  have HL0 : Hid (∀ wr, Below B w wr → LsRow wr fa L) := hL
  have HLL : Hid (∀ l ∈ L, l.length ≤ 17592186044000) := hll
  have H0 : Hid (HK B w0 w q V E n1 n2 n3 n4) := h
  have HSZ : Hid (B ≤ w.heap.size) := h.sz
  clear hL hll h
  go_enter Tryz.func23, Tryz.ntmps23
  go_wp2
  go_loopw [5, 6] (fun v i wr => ∃ (gs : List Nat) (V' : Nat → Value) (E' : Nat → List HE), gs.length ≤ L.length ∧ i = .int .i64 gs.length ∧ HL 47 wr v (entL L gs) ∧ (∀ j, j < gs.length → NB wr (gs.getD j 0) (L.getD j [])) ∧ HK B w0 wr q V' E' (n1 + gs.length) n2 n3 n4 ∧ (∀ i b, v.ownBlock = some b → (V' i).ownBlock ≠ some b) ∧ (∀ b, v.ownBlock = some b → B ≤ b) ∧ Below B w wr ∧ Oth w wr) (fun _ i _ => L.length - (intOf i).toNat)
  case atStart => exact ⟨[], V, E, Nat.zero_le _, rfl, HL.nil _ _, fun j hj => absurd hj (Nat.not_lt_zero j), H0.out, (fun i b hb => by cases hb), (fun b hb => by cases hb), Below.refl _ _, Oth.refl _⟩
  case round =>
    obtain ⟨gs, V1, E1, hk, rfl, hv, hn, hK, hap, hlo, hb, ho⟩ := hrel
    obtain ⟨va, vn, vc, rfl⟩ := hv.slice3
    have P : Hid (HL 47 wr (.slice va vn vc) (entL L gs) ∧ (∀ j, j < gs.length → NB wr (gs.getD j 0) (L.getD j [])) ∧ HK B w0 wr q V1 E1 (n1 + gs.length) n2 n3 n4 ∧ (∀ i b, (Value.slice va vn vc).ownBlock = some b → (V1 i).ownBlock ≠ some b) ∧ (∀ b, (Value.slice va vn vc).ownBlock = some b → B ≤ b) ∧ Below B w wr ∧ Oth w wr) := ⟨hv, hn, hK, hap, hlo, hb, ho⟩
    clear hv hn hK hap hlo hb ho
    by_cases hlt : gs.length < L.length
    · obtain ⟨lb, lo, hfa, hlb, hlc⟩ := HL0.out wr P.out.2.2.2.2.2.1 (by intro e; rw [e] at hlt; simp at hlt)
      obtain ⟨la, lc, c0, hrow⟩ := hlc gs.length hlt
      have klt : (gs.length : Int) < (L.length : Int) := by omega
      have SN : Hid (∀ g, entL L (gs ++ [g]) = entL L gs ++ [.slice (some ⟨g, 0, none⟩) (L.getD gs.length []).length ((L.getD gs.length []).length + 3)]) := entL_snoc L gs
      have NL : Hid (∀ (g : Nat) w', (∀ j, j < gs.length → NB w' (gs.getD j 0) (L.getD j [])) → NB w' g (L.getD gs.length []) → ∀ j, j < (gs ++ [g]).length → NB w' ((gs ++ [g]).getD j 0) (L.getD j [])) := fun g w' h1 h2 j hj => by
        by_cases e : j = gs.length
        · subst e; simpa [List.getD] using h2
        · have hj' : j < gs.length := by simp at hj; omega
          have := h1 j hj'
          simpa [List.getD, List.getElem?_append_left hj'] using this
      have IC : Hid (Calls Tryz.prog 25 #[.pointer (some ⟨q, 0, none⟩), .slice la (L.getD gs.length []).length lc] wr fun e w' => e = .returned (.slice (some ⟨wr.heap.size, 0, none⟩) (L.getD gs.length []).length ((L.getD gs.length []).length + 3)) ∧ (∃ V' E', HK B w0 w' q V' E' (n1 + gs.length + 1) n2 n3 n4 ∧ HF wr w' q V1 V') ∧ Oth wr w' ∧ Below B wr w' ∧ NB w' wr.heap.size (L.getD gs.length [])) := hk_intF P.out.2.2.1 (by omega) la lc (L.getD gs.length []) (HLL.out _ (by simp [List.getD, hlt])) hrow
      have LEN : Hid ((entL L gs).length ≤ 5000000000000) := by show _ ≤ _; simp [entL]; omega
      rw [hfa]
      clear hlc hrow hfa
      generalize L.getD gs.length [] = l at *
      go_wp2_with (first
        | (go_at_call 25; refine IC.out.mono ?_; rintro e w1 ⟨rfl, ⟨V2, E2, k2, f2⟩, o2, b2, nb2⟩; have Q : Hid (HL 47 w1 (.slice va vn vc) (entL L gs) ∧ HK B w0 w1 q V2 E2 (n1 + gs.length + 1) n2 n3 n4 ∧ (∀ i b, (Value.slice va vn vc).ownBlock = some b → (V2 i).ownBlock ≠ some b) ∧ Oth wr w1 ∧ Below B wr w1 ∧ NB w1 wr.heap.size l) := ⟨P.out.1.kept (fun k hk => f2.block k (P.out.1.lt k hk) (fun e => P.out.1.ne P.out.2.2.1.inv.hq gnell (e ▸ hk.symm)) (fun i e => P.out.2.2.2.1 i k hk e.symm)), k2, (fun i b hb hV => (f2.mv i b hV).elim (fun r => P.out.2.2.2.1 i b hb r) (fun r => absurd (P.out.1.lt b hb) (Nat.not_lt.2 r))), o2, b2, nb2⟩; clear k2 f2 o2 b2 nb2)
        | (at_builtin; refine wpList_hl_append Tryz.underlying28 infoLL rfl _ _ rfl (.slice va vn vc) (entL L gs) rfl (Q.out.1.later (below_alloc _ _)) w1.heap.size 1 (.slice (some ⟨wr.heap.size, 0, none⟩) l.length (l.length + 3)) rfl (cell_newI w1 _ _) rfl LEN.out ?_; intro v5 w5 hl5 hg5; obtain ⟨a5, m5, c5, rfl⟩ := hl5.slice3; have G5 : Hid (HL 47 w5 (.slice a5 m5 c5) (entL L gs ++ [.slice (some ⟨wr.heap.size, 0, none⟩) l.length (l.length + 3)]) ∧ Grew (w1.alloc (.cells #[.slice (some ⟨wr.heap.size, 0, none⟩) l.length (l.length + 3)] 47)) w5 (.slice va vn vc) (.slice a5 m5 c5)) := ⟨hl5, hg5⟩; clear hl5 hg5))
      have hbA := below_alloc w1 (.cells #[.slice (some ⟨wr.heap.size, 0, none⟩) l.length (l.length + 3)] 47)
      have hKA := Q.out.2.1.later hbA
      obtain ⟨r1, r2, r3⟩ := hKA.grew (Q.out.1.later hbA) Q.out.2.2.1 P.out.2.2.2.2.1 G5.out.2
      have hoA : Oth wr w5 := Q.out.2.2.2.1.trans ((Oth.ofBelow hbA).trans r3)
      have hbW : Below B wr w5 := Q.out.2.2.2.2.1.trans ((hbA.mono Q.out.2.1.sz).trans r2)
      have R : Hid (HL 47 w5 (.slice a5 m5 c5) (entL L (gs ++ [wr.heap.size])) ∧ (∀ j, j < (gs ++ [wr.heap.size]).length → NB w5 ((gs ++ [wr.heap.size]).getD j 0) (L.getD j [])) ∧ HK B w0 w5 q V2 E2 (n1 + (gs ++ [wr.heap.size]).length) n2 n3 n4 ∧ (∀ i b, (Value.slice a5 m5 c5).ownBlock = some b → (V2 i).ownBlock ≠ some b) ∧ (∀ b, (Value.slice a5 m5 c5).ownBlock = some b → B ≤ b) ∧ Below B w w5 ∧ Oth w w5) := by
        refine ⟨by rw [SN.out]; exact G5.out.1, NL.out _ _ (fun j hj => (P.out.2.1 j hj).oth hoA) (Q.out.2.2.2.2.2.oth ((Oth.ofBelow hbA).trans r3)), ?_, fun i b hb hV => ?_, fun b hb => ?_, P.out.2.2.2.2.2.1.trans hbW, P.out.2.2.2.2.2.2.trans hoA⟩
        · have : n1 + (gs ++ [wr.heap.size]).length = n1 + gs.length + 1 := by simp; omega
          rw [this]; exact r1
        · rcases G5.out.2.moved with r | ⟨k, r, hk⟩
          · exact Q.out.2.2.1 i b (r ▸ hb) hV
          · rw [hb] at r
            have := Option.some.inj r
            have := (hKA.inv.row i).lt b hV
            omega
        · rcases G5.out.2.moved with r | ⟨k, r, hk⟩
          · exact P.out.2.2.2.2.1 b (r ▸ hb)
          · rw [hb] at r
            have := Option.some.inj r
            have := hKA.sz
            omega
      clear hbA hKA r1 r2 r3 hoA hbW
      have GE : Hid ((gs ++ [wr.heap.size]).length = gs.length + 1) := by show _ = _; simp
      generalize gs ++ [wr.heap.size] = gs2 at *
      go_roundw
      case rel => exact ⟨gs2, V2, E2, by have := GE.out; omega, by rw [GE.out]; go_num, R.out⟩
      case measure => simp [intOf]; omega
    · have e : gs.length = L.length := by omega
      have q1 : vn = L.length := (ent_row P.out.1 e P.out.2.1).1
      have R : Hid (vn = L.length ∧ LsK wr V1 (.slice va vn vc) L ∧ HK B w0 wr q V1 E1 (n1 + L.length) n2 n3 n4) := ⟨q1, ⟨gs, P.out.1, e, P.out.2.1, P.out.2.2.2.1⟩, by rw [← e]; exact P.out.2.2.1⟩
      have klt : ¬ (gs.length : Int) < (L.length : Int) := by omega
      clear q1 e
      go_wp2
      go_ret
      exact ⟨va, vc, V1, E1, by rw [R.out.1]; rfl, R.out.2.2, by rw [← R.out.1]; exact R.out.2.1, P.out.2.2.2.2.2.2, P.out.2.2.2.2.2.1⟩
end Go.Proofs.YtboabidokkghbaaGreat
