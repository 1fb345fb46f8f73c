import Derived.Test.YtcgghlaifmlpiaaGreatDoorBT11
namespace Go.Proofs.YtcgghlaifmlpiaaGreatDoor
set_option linter.unusedVariables false
open Go.RowKit Go.Shelf

theorem LvB.len {w wr : World} {rb n kS : Nat} {ks Ns : List Nat} {s : SrB} {vl vp : Value} (h : LvB w rb n ks Ns kS s vl vp wr) : ∃ a c a' c', vl = .slice a s.left.length c ∧ vp = .slice a' s.path.length c' := by
  obtain ⟨a, c, e⟩ : ∃ a c, vl = .slice a (nI s.left).length c := by
    rcases h.l.2 with ⟨rfl, h0⟩ | ⟨g, cap, cur, rfl, _⟩
    · exact ⟨none, 0, by rw [h0]⟩
    · exact ⟨_, _, rfl⟩
  obtain ⟨a', c', e'⟩ : ∃ a c, vp = .slice a (stB s.path).length c := by
    rcases h.p.2 with ⟨rfl, h0⟩ | ⟨g, cap, cur, rfl, _⟩
    · exact ⟨none, 0, by rw [h0]⟩
    · exact ⟨_, _, rfl⟩
  exact ⟨a, c, a', c', by rw [e, nI_len], by rw [e', stB_len]⟩
theorem LvB.pKeep {w wr w' : World} {rb n kS : Nat} {ks Ns : List Nat} {s : SrB} {vl vp : Value} (h : LvB w rb n ks Ns kS s vl vp wr) (hf : FrB (· = kS) wr w') : IL w' vp (stB s.path) :=
  h.p.kept (fun j hj => hf.block j (World.ownsRow.lt h.p j hj).2 (fun e => by have e2 : j = kS := e; have := h.po j hj; have := h.kl; omega))
theorem IL.oneB (w : World) (x : Int) : IL (w.alloc (.cells #[.int .i64 x] 3)) (.slice (some ⟨w.heap.size, 0, none⟩) 1 1) [x] :=
  ⟨by simp, .inr ⟨w.heap.size, 1, #[.int .i64 x], rfl, Nat.zero_le _, heap_alloc_new w _, Nat.le_refl _, by unfold maxLen; omega, rfl, rfl⟩⟩
set_option maxRecDepth 100000 in
set_option maxHeartbeats 4000000 in
theorem leave_SB {w : World} {rb n kS S root : Nat} {ks Ns : List Nat} (hR : RwB w rb n ks Ns) (hn : Ns.length = n) (hS : SB w kS n S) (hroot : root < n) (hT : TabB w) (hnk : ∀ k ∈ ks, k ≠ kS) (hkin : ∀ k ∈ ks, k + 1 < w.heap.size) (hg : tzRen.g 1 ≠ kS ∧ tzRen.g 1 < w.heap.size) (c : Nat) :
    Calls Tryz.prog 128 #[.int .i64 (root : Int), .slice (some ⟨rb, 0, none⟩) n c, .pointer (some ⟨kS + 1, 0, none⟩)] w fun e w' => ∃ v, e = .returned v ∧ IL w' v (nI (lvU Ns n ⟨[root], [], S⟩).left) ∧ (∀ j, v.ownBlock = some j → w.heap.size ≤ j) ∧ SB w' kS n (lvU Ns n ⟨[root], [], S⟩).seen ∧ FrB (· = kS) w w' := by
  have hml := hS.ml
  have L0 : Hid (LvB w rb n ks Ns kS ⟨[root], [], S⟩ (.slice none 0 0) (.slice (some ⟨w.heap.size, 0, none⟩) 1 1) (w.alloc (.cells #[.int .i64 (root : Int)] 3))) :=
    ⟨IL.nil _, IL.oneB w _, fun j hj => by simp [Value.ownBlock] at hj, fun j hj => by simp [Value.ownBlock] at hj; omega, fun j hj => by simp [Value.ownBlock] at hj, hR.later (below_alloc w _), hS.later (below_alloc w _), hS.size, lt_of_block hR.row, hnk, Below.frB (below_alloc w _), hT.later (below_alloc w _), fun x hx => by rw [List.mem_singleton.1 hx]; exact hroot, hkin, hg⟩
  obtain ⟨R, hRe⟩ : ∃ R, lvU Ns n ⟨[root], [], S⟩ = R := ⟨_, rfl⟩
  have HR0 : Hid (lvU Ns n ⟨[root], [], S⟩ = R) := hRe
  rw [hRe]
  have HNL : Hid (Ns.length = n) := hn
  clear hR hS hT hnk hkin hg hRe hn hroot
  go_enter Tryz.func128, Tryz.ntmps128
  go_wp2
  go_loopg [7, 8] (mesV n ⟨[root], [], S⟩) (fun gk vl vp wr => ∃ s, LvB w rb n ks Ns kS s vl vp wr ∧ lvU Ns n s = R ∧ mesV n s ≤ gk ∧ s.path.length + s.left.length + gk ≤ 2 * n + 10)
  case atStart => exact ⟨_, L0.out, HR0.out, Nat.le_refl _, by unfold mesV; simp; omega⟩
  case round =>
    clear L0 HR0
    obtain ⟨⟨pth, lf, sn⟩, hL, hU, hgk, hbd⟩ := hrel
    obtain ⟨la, lc, pa, pc, rfl, rfl⟩ := hL.len
    cases pth with
    | nil =>
      rw [lvU_end rfl] at hU
      have HL : Hid (LvB w rb n ks Ns kS ⟨[], lf, sn⟩ (.slice la lf.length lc) (.slice pa 0 pc) wr ∧ (⟨[], lf, sn⟩ : SrB) = R) := ⟨hL, hU⟩
      clear hL hU hgk hbd
      simp only [List.length_nil]
      go_wp2
      go_ret
      obtain ⟨hl, rfl⟩ := HL.out
      exact ⟨_, rfl, hl.l, hl.lo, hl.sb, hl.fr⟩
    | cons x p =>
      have hxn := hL.pin x (List.mem_cons_self ..)
      have hpl := hL.p
      change IL wr _ (stB (x :: p)) at hpl
      rw [stB_cons] at hpl
      obtain ⟨pb, pc', he, hcap, cx, hp'⟩ := IL.popB hpl
      rw [stB_len] at he hcap cx hp'
      simp only [List.length_cons, Value.slice.injEq, true_and] at he
      obtain ⟨rfl, rfl⟩ := he
      obtain ⟨k, hk, hsk⟩ := hL.rw.at (show x < Ns.length by rw [HNL.out]; exact hxn)
      have ck := hL.rw.cell hk
      obtain ⟨D, hD⟩ : ∃ D, minusB (Ns.getD x 0) sn = D := ⟨_, rfl⟩
      have LK : Hid (Calls Tryz.prog 88 #[.pointer (some ⟨k + 1, 0, none⟩), .int .i64 0, .pointer (some ⟨kS + 1, 0, none⟩)] wr fun e w' => e = .returned (.int .i64 (lkB D n : Int)) ∧ Below wr.heap.size wr w') := (lacked_SB hsk hL.sb hL.tab 0 (by omega)).mono fun e w' ⟨r, q1, q2, q3⟩ => by
        rw [hD] at q2
        rw [← LackR.uniq q2 (lkB_is D n)]
        exact ⟨q1, q3⟩
      have hst := lvN_cons Ns n x p lf sn
      rw [hD] at hst
      have hls := lvN_less (Ns := Ns) (n := n) (s := ⟨x :: p, lf, sn⟩) (by simp)
      have hus := lvU_step (Ns := Ns) (n := n) (s := ⟨x :: p, lf, sn⟩) (by simp)
      rw [hU] at hus
      have hlk := (lkB_is D n).le
      have HL : Hid (LvB w rb n ks Ns kS ⟨x :: p, lf, sn⟩ (.slice la lf.length lc) (.slice (some ⟨pb, 0, none⟩) (p.length + 1) pc) wr) := hL
      have HLL : Hid (p.length ≤ 100000 ∧ lf.length ≤ 100000 ∧ p.length + 1 + lf.length + gk ≤ 2 * n + 10) := by
        simp only [List.length_cons] at hbd
        exact ⟨by omega, by omega, hbd⟩
      generalize lkB D n = r at *
      have xlt : (x : Int) < (n : Int) := by omega
      have plt : (p.length : Int) < (p.length : Int) + 1 := by omega
      have hpl5 := HLL.out.1
      simp only [List.length_cons]
      by_cases hr : r < n
      · rw [if_pos hr] at hst
        rw [hst] at hls hus
        have HM : Hid (mesV n ⟨r :: x :: p, lf, addN sn r⟩ < gk) := Nat.lt_of_lt_of_le hls hgk
        have HU : Hid (lvU Ns n ⟨r :: x :: p, lf, addN sn r⟩ = R) := hus.symm
        have rlt : (r : Int) < (n : Int) := by omega
        have AD : Hid (∀ w', Below wr.heap.size wr w' → Calls Tryz.prog 50 #[.pointer (some ⟨kS + 1, 0, none⟩), .int .i64 (r : Int)] w' fun e w'' => ∃ bv, e = .returned (.bool bv) ∧ SB w'' kS n (addN sn r) ∧ FrB (· = kS) w' w'') := fun w' hb => (add_SB (hL.any hb).sb (r : Int)).mono fun e w'' ⟨q1, q2, q3⟩ => ⟨_, q1, by
          have e2 : addX sn n (r : Int) = addN sn r := by unfold addX; rw [if_pos ⟨by omega, by omega⟩]; rfl
          rw [← e2]
          exact q2, q3⟩
        clear hL hpl hp' hsk hD hst hls hus hU hgk hk hlk hbd
        go_wp2_with (first
          | (go_at_call 88; refine LK.out.mono ?_; rintro e w1 ⟨rfl, b1⟩; have B1 : Hid (Below wr.heap.size wr w1) := b1; clear b1 ck cx)
          | (go_at_call 50; refine (AD.out _ B1.out).mono ?_; rintro e w2 ⟨bv, rfl, s2, f2⟩; have S2 : Hid (SB w2 kS n (addN sn r) ∧ FrB (· = kS) w1 w2) := ⟨s2, f2⟩; clear s2 f2)
          | (at_builtin; refine wpList_il_append_w rfl _ _ rfl (.slice (some ⟨pb, 0, none⟩) (p.length + 1) pc) (stB (x :: p)) rfl (((HL.out.any B1.out).pKeep S2.out.2).later (below_alloc _ _)) w2.heap.size 1 (r : Int) rfl (by simp) (by rw [stB_len, List.length_cons]; have := HLL.out; omega) ?_; intro a4 n4 c4 w4 ho4 hg4; have W4 : Hid (LvB w rb n ks Ns kS ⟨r :: x :: p, lf, addN sn r⟩ (.slice la lf.length lc) (.slice a4 n4 c4) w4) := (HL.out.any B1.out).push hr S2.out.1 S2.out.2 (below_alloc _ _) hg4 ho4; clear ho4 hg4))
        go_roundg (gk - 1)
        case measure => have := HM.out; omega
        case rel => exact ⟨_, W4.out, HU.out, by have := HM.out; omega, by simp only [List.length_cons]; have := HLL.out.2.2; have := HM.out; omega⟩
      · rw [if_neg hr] at hst
        rw [hst] at hls hus
        have HM : Hid (mesV n ⟨p, lf ++ [x], sn⟩ < gk) := Nat.lt_of_lt_of_le hls hgk
        have HU : Hid (lvU Ns n ⟨p, lf ++ [x], sn⟩ = R) := hus.symm
        have rlt : ¬ (r : Int) < (n : Int) := by omega
        have HPP : Hid (IL wr (.slice (some ⟨pb, 0, none⟩) p.length pc) (stB p)) := hp'
        have hs1 := slice_toB pb pc (p.length + 1) p.length (by omega)
        have CX : Hid (∀ w', Below wr.heap.size wr w' → w'.cell? ⟨pb, p.length, none⟩ = some (.int .i64 (x : Int))) := fun w' hb => (hb.cell (p := ⟨pb, p.length, none⟩) (World.block_lt_of_cell? wr _ cx)).trans cx
        clear hL hpl hp' hsk hD hst hls hus hU hgk hk hlk hbd
        go_wp2_with (first
          | (go_at_call 88; refine LK.out.mono ?_; rintro e w1 ⟨rfl, b1⟩; have B1 : Hid (Below wr.heap.size wr w1) := b1; clear b1 ck cx; have cx := CX.out w1 B1.out)
          | (at_builtin; refine wpList_il_append_w rfl _ _ rfl (.slice la lf.length lc) (nI lf) rfl ((HL.out.any B1.out).l.later (below_alloc _ _)) w1.heap.size 1 (x : Int) rfl (by simp) (by rw [nI_len]; have := HLL.out; omega) ?_; intro a4 n4 c4 w4 ho4 hg4; have W4 : Hid (LvB w rb n ks Ns kS ⟨p, lf ++ [x], sn⟩ (.slice a4 n4 c4) (.slice (some ⟨pb, 0, none⟩) p.length pc) w4) := (HL.out.any B1.out).leave (below_alloc _ _) hg4 ho4 (HPP.out.later B1.out) rfl; clear ho4 hg4 cx))
        go_roundg (gk - 1)
        case measure => have := HM.out; omega
        case rel => exact ⟨_, W4.out, HU.out, by have := HM.out; omega, by simp only [List.length_append, List.length_cons, List.length_nil]; have := HLL.out.2.2; have := HM.out; omega⟩
end Go.Proofs.YtcgghlaifmlpiaaGreatDoor
