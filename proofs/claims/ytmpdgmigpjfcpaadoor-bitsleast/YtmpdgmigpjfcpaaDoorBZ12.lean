import Derived.Test.YtmpdgmigpjfcpaaDoorBZ11
namespace Go.Proofs.YtmpdgmigpjfcpaaDoor
set_option linter.unusedVariables false
open Go.RowKit Go.Shelf

/-- A search by steps in memory. -/
structure BqB (w : World) (n kS : Nat) (q st : List Nat) (seen b : Nat) (v : Value) (wr : World) : Prop where
  kb : KbB wr w.heap.size st
  kl : st.length = n
  qu : QuB wr b v q
  qb : w.heap.size < b
  sb : SB wr kS n seen
  fr : FrB (· = kS) w wr
  kw : kS + 1 < w.heap.size
theorem BqB.any {w wr w' : World} {n kS seen b : Nat} {q st : List Nat} {v : Value} (h : BqB w n kS q st seen b v wr) (hb : Below wr.heap.size wr w') : BqB w n kS q st seen b v w' := ⟨h.kb.later hb, h.kl, h.qu.later hb, h.qb, h.sb.later hb, h.fr.trans (Below.frB hb), h.kw⟩
theorem BqB.see {w wr w' : World} {n kS seen seen' b : Nat} {q st : List Nat} {v : Value} (h : BqB w n kS q st seen b v wr) (hs : SB w' kS n seen') (hf : FrB (· = kS) wr w') : BqB w n kS q st seen' b v w' := by
  have hk := h.kw
  have hq := h.qb
  exact ⟨h.kb.frB hf (by omega), h.kl, h.qu.frB hf (by omega), h.qb, hs, h.fr.trans hf, h.kw⟩
theorem BqB.put {w wr : World} {n kS seen b : Nat} {q st : List Nat} {v : Value} (h : BqB w n kS q st seen b v wr) (z far : Nat) : BqB w n kS q (st.set z far) seen b v (wr.setCell ⟨w.heap.size, z, none⟩ (.int .i64 (far : Int))) := by
  have hk := h.kw
  have hq := h.qb
  have hf := frB_setCell wr w.heap.size z (.int .i64 (far : Int))
  refine ⟨h.kb.set z far, by rw [List.length_set]; exact h.kl, h.qu.frB hf (by omega), h.qb, h.sb.frB hf (by omega) (by omega), ?_, h.kw⟩
  have f1 := h.fr
  exact ⟨hf.os.trans f1.os, hf.tape.trans f1.tape, hf.output.trans f1.output, Nat.le_trans f1.size hf.size, fun j hj hx => (hf.block j (Nat.lt_of_lt_of_le hj f1.size) (by omega)).trans (f1.block j hj hx)⟩
theorem BqB.push {w wr w2 w' : World} {n kS seen b b' z : Nat} {q st : List Nat} {v v' : Value} (h : BqB w n kS q st seen b v wr) (hb : Below wr.heap.size wr w2) (hq : QuB w' b' v' (q ++ [z])) (hbb : b' = b ∨ w2.heap.size ≤ b') (hf : FrB (· = b) w2 w') : BqB w n kS (q ++ [z]) st seen b' v' w' := by
  have h2 := h.any hb
  have hk := h.kw
  have hqb := h.qb
  have hz := h2.fr.size
  have hz2 := h2.kb.lt
  refine ⟨h2.kb.frB hf (by omega), h.kl, hq, ?_, h2.sb.frB hf (by omega) (by omega), ?_, h.kw⟩
  · rcases hbb with e | e
    · omega
    · omega
  · have f1 := h2.fr
    exact ⟨hf.os.trans f1.os, hf.tape.trans f1.tape, hf.output.trans f1.output, Nat.le_trans f1.size hf.size, fun j hj hx => (hf.block j (Nat.lt_of_lt_of_le hj f1.size) (by omega)).trans (f1.block j hj hx)⟩
/-- What lasts while steps are told. -/
structure BqP (n x : Nat) (q st : List Nat) (seen : Nat) : Prop where
  qn : ∀ y ∈ q, y < n ∧ (y = x ∨ seen.testBit y = true)
  bd : ∀ z, st.getD z 0 ≤ popB seen n
theorem BqP.push {n x y z seen : Nat} {r st : List Nat} (h : BqP n x (y :: r) st seen) (hz : z < n) (hs : seen.testBit z = false) : BqP n x (y :: (r ++ [z])) (st.set z (st.getD y 0 + 1)) (addN seen z) := by
  have hp := popB_addN hz hs
  refine ⟨fun u hu => ?_, fun u => ?_⟩
  · simp only [List.mem_cons, List.mem_append, List.not_mem_nil, or_false] at hu
    have old : u ∈ y :: r → u < n ∧ (u = x ∨ (addN seen z).testBit u = true) := fun q => by
      obtain ⟨h1, h2⟩ := h.qn u q
      exact ⟨h1, h2.imp id (fun q => by rw [addN_bit, q]; rfl)⟩
    rcases hu with rfl | hu | rfl
    · exact old List.mem_cons_self
    · exact old (List.mem_cons_of_mem _ hu)
    · exact ⟨hz, .inr (by rw [addN_bit]; simp)⟩
  · rw [getD_setV, hp]
    by_cases e : z = u ∧ u < st.length
    · rw [if_pos e]
      have := h.bd y
      omega
    · rw [if_neg e]
      have := h.bd u
      omega
set_option maxRecDepth 100000 in
set_option maxHeartbeats 16000000 in
theorem stepsTo_SB {w : World} {ib n kS S0 x most : Nat} {ki Ms : List Nat} (hR : RwB w ib n ki Ms) (hn : Ms.length = n) (hm : n ≤ 4096) (hT : TabB w) (hS : SB w kS n S0) (hx : x < n) (hnk : ∀ k ∈ ki, k ≠ kS) (hg : tzRen.g 1 ≠ kS) (hmost : most ≤ 100000) (c : Nat) :
    Calls Tryd.prog 65 #[.int .i64 (x : Int), .int .i64 (most : Int), .slice (some ⟨ib, 0, none⟩) n c, .pointer (some ⟨kS + 1, 0, none⟩)] w fun e w' => e = .returned (.slice (some ⟨w.heap.size, 0, none⟩) n n) ∧ KbB w' w.heap.size (bfU Ms n x most ⟨[x], S0, List.replicate n 0⟩) ∧ FrB (· = kS) w w' := by
  have hbR : ib ≠ kS := fun e => by
    have a := hR.row
    rw [e, hS.wd] at a
    simp only [Option.some.injEq, Obj.cells.injEq] at a
    exact absurd a.2.1 (by decide)
  have HRR : Hid (∀ wr, FrB (· = kS) w wr → RwB wr ib n ki Ms ∧ TabB wr) := fun wr f => ⟨hR.frB f hbR (fun k hk => ⟨hnk k hk, by
    obtain ⟨i, hi⟩ := List.getElem?_of_mem hk
    have hil : i < Ms.length := by rw [← hR.len]; exact (List.getElem?_eq_some_iff.1 hi).1
    obtain ⟨k', hk', hs'⟩ := hR.at hil
    rw [hi] at hk'
    cases hk'
    exact hS.apart hs'⟩), hT.frB f (fun j q => by have q2 : j = kS := q; omega)⟩
  have HNL : Hid (Ms.length = n) := hn
  have hmk := make_iB n (by omega)
  have hsz0 : (w.alloc (.cells (madeCells #[.int .i64 0] n) 3)).heap.size = w.heap.size + 1 := by simp
  have B0 : Hid (BqB w n kS [x] (List.replicate n 0) S0 (w.heap.size + 1) (.slice (some ⟨w.heap.size + 1, 0, none⟩) 1 1) ((w.alloc (.cells (madeCells #[.int .i64 0] n) 3)).alloc (.cells #[.int .i64 (x : Int)] 3))) := by
    have b1 := below_alloc w (.cells (madeCells #[.int .i64 0] n) 3)
    have b2 := below_alloc (w.alloc (.cells (madeCells #[.int .i64 0] n) 3)) (.cells #[.int .i64 (x : Int)] 3)
    have q1 := QuB.one (w.alloc (.cells (madeCells #[.int .i64 0] n) 3)) x
    rw [hsz0] at q1
    exact ⟨(KbB.made w n).later b2, by simp, q1, by omega, (hS.later b1).later b2, (Below.frB b1).trans (Below.frB b2), hS.size⟩
  have P0 : Hid (BqP n x [x] (List.replicate n 0) S0) := ⟨fun y hy => by rw [List.mem_singleton.1 hy]; exact ⟨hx, .inl rfl⟩, fun z => by rw [repl_get]; exact Nat.zero_le _⟩
  obtain ⟨R, hRe⟩ : ∃ R, bfU Ms n x most ⟨[x], S0, List.replicate n 0⟩ = R := ⟨_, rfl⟩
  have HRE : Hid (bfU Ms n x most ⟨[x], S0, List.replicate n 0⟩ = R) := hRe
  rw [hRe]
  clear hR hT hS hn hnk hg hbR hRe
  go_enter Tryd.func65, Tryd.ntmps65
  go_wp2
  clear hmk hsz0
  go_loopg [10] (mesQ n ⟨[x], S0, List.replicate n 0⟩) (fun gk vq wr => ∃ (q st : List Nat) (seen b : Nat), BqB w n kS q st seen b vq wr ∧ BqP n x q st seen ∧ bfU Ms n x most ⟨q, seen, st⟩ = R ∧ mesQ n ⟨q, seen, st⟩ ≤ gk ∧ gk ≤ 10000)
  case atStart => exact ⟨_, _, _, _, B0.out, P0.out, HRE.out, Nat.le_refl _, by unfold mesQ; simp; omega⟩
  case round =>
    clear B0 P0 HRE
    obtain ⟨q, st, seen, b, hB, hP, hU, hM, hgk⟩ := hrel
    cases q with
    | nil =>
      obtain ⟨qa, qc, rfl⟩ := hB.qu.len
      rw [bfU_nil] at hU
      subst hU
      have HB : Hid (KbB wr w.heap.size st ∧ FrB (· = kS) w wr) := ⟨hB.kb, hB.fr⟩
      clear hB hP hM
      simp only [List.length_nil]
      go_wp2
      go_ret
      exact ⟨rfl, HB.out.1, HB.out.2⟩
    | cons y r =>
      obtain ⟨hyn, hyx⟩ := hP.qn y List.mem_cons_self
      obtain ⟨off, qc, v', rfl, ch, hsl, hq'⟩ := hB.qu.head
      have ylt : (y : Int) < (n : Int) := by omega
      have cy := hB.kb.cell (i := y) (by rw [hB.kl]; exact hyn)
      have hsy := hP.bd y
      have hpn := popB_le seen n
      obtain ⟨sy, hsye⟩ : ∃ sy, st.getD y 0 = sy := ⟨_, rfl⟩
      rw [hsye] at cy hsy
      have w1 : IntKind.i64.wrap ((sy : Int) + 1) = (sy : Int) + 1 := by rw [IntKind.wrap_i64]; omega
      have HQ : Hid (BqB w n kS r st seen b v' wr) := ⟨hB.kb, hB.kl, hq' wr rfl, hB.qb, hB.sb, hB.fr, hB.kw⟩
      have hrl : r.length ≤ 10000 := by
        unfold mesQ at hM
        simp only [List.length_cons] at hM
        omega
      have rl0 : (0 : Int) < (r.length : Int) + 1 := by omega
      by_cases hfm : sy + 1 = most
      · rw [bfU_cons, hsye, if_pos hfm] at hU
        subst hU
        have fme : ((sy : Int) + 1 == (most : Int)) = true := by rw [← hfm]; simp
        have HB : Hid (KbB wr w.heap.size st ∧ FrB (· = kS) w wr) := ⟨hB.kb, hB.fr⟩
        clear hB hP hM hyx hsye hq' hfm
        go_wp2
        go_ret
        exact ⟨rfl, HB.out.1, HB.out.2⟩
      · have fme : ((sy : Int) + 1 == (most : Int)) = false := by rw [beq_eq_false_iff_ne]; omega
        obtain ⟨hRw, hTw⟩ := HRR.out wr hB.fr
        obtain ⟨k, hk, hsk⟩ := hRw.at (show y < Ms.length by rw [HNL.out]; exact hyn)
        have ck := hRw.cell hk
        obtain ⟨N, hN⟩ : ∃ N, Ms.getD y 0 = N := ⟨_, rfl⟩
        have LK : Hid (∀ w1, Below wr.heap.size wr w1 → Calls Tryd.prog 63 #[.pointer (some ⟨k + 1, 0, none⟩), .int .i64 0, .pointer (some ⟨kS + 1, 0, none⟩)] w1 fun e w' => e = .returned (.int .i64 (lkB (minusB N seen) n : Int)) ∧ Below w1.heap.size w1 w') := fun w1 b1 => (lacked_SB (hsk.later b1) (hB.sb.later b1) (hTw.later b1) 0 (by omega)).mono fun e w' ⟨r', q1, q2, q3⟩ => by
          rw [hN] at q2
          rw [← LackR.uniq q2 (lkB_is (minusB N seen) n)]
          exact ⟨q1, q3⟩
        have CKK : Hid (∀ wr, FrB (· = kS) w wr → wr.cell? ⟨ib, y, none⟩ = some (.pointer (some ⟨k + 1, 0, none⟩)) ∧ SB wr k n N ∧ TabB wr) := fun wr f => by
          obtain ⟨h1, h2⟩ := HRR.out wr f
          obtain ⟨k', hk', hs'⟩ := h1.at (show y < Ms.length by rw [HNL.out]; exact hyn)
          rw [hk] at hk'
          cases hk'
          rw [hN] at hs'
          exact ⟨h1.cell hk, hs', h2⟩
        have HP : Hid (BqP n x (y :: r) st seen ∧ bfU Ms n x most ⟨y :: r, seen, st⟩ = R ∧ mesQ n ⟨y :: r, seen, st⟩ ≤ gk) := ⟨hP, hU, hM⟩
        have HSY : Hid (st.getD y 0 = sy) := hsye
        have HN : Hid (Ms.getD y 0 = N) := hN
        have HYX : Hid (y = x ∨ seen.testBit y = true) := hyx
        have HFM : Hid (¬ sy + 1 = most) := hfm
        clear hB hP hU hM hyx hsye hq' hRw hTw hk hsk hN hfm
        obtain ⟨wz, rfl⟩ : ∃ wz : World, wz = wr := ⟨_, rfl⟩
        obtain ⟨go, rfl⟩ : ∃ go : Nat, go = gk := ⟨_, rfl⟩
        go_wp2_with (go_at_call 63; refine (LK.out _ (Below.refl _ _)).mono ?_; rintro e w3 ⟨rfl, b3⟩; have W3 : Hid (BqB w n kS r st seen b v' w3) := HQ.out.any b3; clear b3 ck cy ch)
        clear LK HQ hsl
        go_loopg [10, 13] go (fun gk vq z wr => ∃ (r st : List Nat) (seen b : Nat), BqB w n kS r st seen b vq wr ∧ BqP n x (y :: r) st seen ∧ bfU Ms n x most ⟨y :: r, seen, st⟩ = R ∧ mesQ n ⟨y :: r, seen, st⟩ ≤ gk ∧ gk ≤ go ∧ st.getD y 0 = sy ∧ (y = x ∨ seen.testBit y = true) ∧ z = .int .i64 (lkB (minusB N seen) n : Int))
        case atStart => exact ⟨r, st, seen, b, W3.out, HP.out.1, HP.out.2.1, HP.out.2.2, Nat.le_refl _, HSY.out, HYX.out, rfl⟩
        case round =>
          clear W3 HP HSY HYX
          obtain ⟨r2, st2, seen2, b2, hB, hP, hU, hM, hgj, hsy2, hyx2, rfl⟩ := hrel
          have hle := (lkB_is (minusB N seen2) n).le
          have hrl2 : r2.length ≤ 10000 := by
            unfold mesQ at hM
            simp only [List.length_cons] at hM
            omega
          rw [bfU_cons, hsy2, if_neg HFM.out, HN.out] at hU
          by_cases hz : lkB (minusB N seen2) n < n
          · rw [if_pos hz] at hU
            obtain ⟨hz1, hz2⟩ := lk_new hz
            have hall : ∀ j, j < lkB (minusB N seen2) n → N.testBit j = true → seen2.testBit j = true := fun j hj hNj => lk_all (n := n) j hj hNj
            generalize lkB (minusB N seen2) n = z at *
            have zlt : (z : Int) < (n : Int) := by omega
            have AD : Hid (Calls Tryd.prog 9 #[.pointer (some ⟨kS + 1, 0, none⟩), .int .i64 (z : Int)] wr fun e w'' => ∃ bv, e = .returned (.bool bv) ∧ BqB w n kS r2 st2 (addN seen2 z) b2 u10 w'') := (add_SB hB.sb (z : Int)).mono fun e w'' ⟨q1, q2, q3⟩ => by
              have e2 : addX seen2 n (z : Int) = addN seen2 z := by unfold addX; rw [if_pos ⟨by omega, by omega⟩]; rfl
              rw [e2] at q2
              exact ⟨_, q1, hB.see q2 q3⟩
            have CZ : Hid (∀ w'', BqB w n kS r2 st2 (addN seen2 z) b2 u10 w'' → (∃ sz, w''.cell? ⟨w.heap.size, z, none⟩ = some (.int .i64 sz)) ∧ w''.frozen? ⟨w.heap.size, z, none⟩ = false) := fun w'' h'' => ⟨⟨_, h''.kb.cell (i := z) (by rw [h''.kl]; exact hz)⟩, h''.kb.free z⟩
            obtain ⟨qa, qc2, rfl⟩ := hB.qu.len
            by_cases hzx : z = x
            · rw [if_pos hzx] at hU
              have zxe : ((z : Int) == (x : Int)) = true := by rw [hzx]; simp
              have HF : Hid (∀ w'', BqB w n kS r2 st2 (addN seen2 z) b2 (.slice qa r2.length qc2) w'' → KbB (w''.setCell ⟨w.heap.size, z, none⟩ (.int .i64 ((sy : Int) + 1))) w.heap.size R ∧ FrB (· = kS) w (w''.setCell ⟨w.heap.size, z, none⟩ (.int .i64 ((sy : Int) + 1)))) := fun w'' h'' => by
                have := h''.put z (sy + 1)
                rw [← hU, ← hzx]
                exact ⟨this.kb, this.fr⟩
              clear hB hP hU hM hsy2 hyx2 hz1 hz2 hall hzx
              go_wp2_with (go_at_call 9; refine AD.out.mono ?_; rintro e w4 ⟨bv, rfl, h4⟩; have H4 : Hid (BqB w n kS r2 st2 (addN seen2 z) b2 (.slice qa r2.length qc2) w4) := h4; obtain ⟨⟨sz, cz⟩, fz⟩ := CZ.out w4 h4; clear h4)
              go_ret
              exact ⟨rfl, (HF.out w4 H4.out).1, (HF.out w4 H4.out).2⟩
            · rw [if_neg hzx] at hU
              have zxe : ((z : Int) == (x : Int)) = false := by rw [beq_eq_false_iff_ne]; omega
              have hyz : z ≠ y := fun e => by
                subst e
                rcases hyx2 with e | e
                · exact hzx e
                · rw [hz2] at e; cases e
              have hM2 := mesQ_push (y := y) (r := r2) (st := st2) (st' := st2.set z (sy + 1)) hz hz2
              have hP2 := hP.push hz hz2
              rw [hsy2] at hP2
              have HNX : Hid (BqP n x (y :: (r2 ++ [z])) (st2.set z (sy + 1)) (addN seen2 z) ∧ bfU Ms n x most ⟨y :: (r2 ++ [z]), addN seen2 z, st2.set z (sy + 1)⟩ = R ∧ mesQ n ⟨y :: (r2 ++ [z]), addN seen2 z, st2.set z (sy + 1)⟩ + 1 ≤ gk ∧ (st2.set z (sy + 1)).getD y 0 = sy ∧ (y = x ∨ (addN seen2 z).testBit y = true)) := ⟨hP2, hU, by omega, by rw [getD_setV, if_neg (fun q => hyz q.1)]; exact hsy2, hyx2.imp id (fun q => by rw [addN_bit, q]; rfl)⟩
              have LK : Hid (∀ wr (b' : Nat) (v' : Value), BqB w n kS (r2 ++ [z]) (st2.set z (sy + 1)) (addN seen2 z) b' v' wr → wr.cell? ⟨ib, y, none⟩ = some (.pointer (some ⟨k + 1, 0, none⟩)) ∧ Calls Tryd.prog 63 #[.pointer (some ⟨k + 1, 0, none⟩), .int .i64 ((z : Int) + 1), .pointer (some ⟨kS + 1, 0, none⟩)] wr fun e w' => e = .returned (.int .i64 (lkB (minusB N (addN seen2 z)) n : Int)) ∧ Below wr.heap.size wr w') := fun wr b' v' h' => by
                obtain ⟨c1, s1, t1⟩ := CKK.out wr h'.fr
                refine ⟨c1, ?_⟩
                have := lacked_SB s1 h'.sb t1 (z + 1) (by omega)
                refine this.mono fun e w' ⟨r', q1, q2, q3⟩ => ?_
                have e1 := lack_from q2 (fun j hj hNj => by
                  rw [addN_bit]
                  by_cases e : z = j
                  · subst e; simp
                  · rw [hall j (by omega) hNj]; rfl)
                rw [← e1]
                exact ⟨q1, q3⟩
              have HC4 : Hid (∀ w4 : World, ((w4.setCell ⟨w.heap.size, z, none⟩ (.int .i64 ((sy : Int) + 1))).alloc (.cells #[.int .i64 (z : Int)] 3)).cell? ⟨w4.heap.size, 0, none⟩ = some (.int .i64 (z : Int))) := fun w4 => by
                have := cellq_any (i := 0) (heap_alloc_new (w4.setCell ⟨w.heap.size, z, none⟩ (.int .i64 ((sy : Int) + 1))) (.cells #[.int .i64 (z : Int)] 3))
                rw [show (w4.setCell ⟨w.heap.size, z, none⟩ (.int .i64 ((sy : Int) + 1))).heap.size = w4.heap.size by simp] at this
                exact this
              have HPT : Hid (∀ w'', BqB w n kS r2 st2 (addN seen2 z) b2 (.slice qa r2.length qc2) w'' → BqB w n kS r2 (st2.set z (sy + 1)) (addN seen2 z) b2 (.slice qa r2.length qc2) (w''.setCell ⟨w.heap.size, z, none⟩ (.int .i64 ((sy : Int) + 1)))) := fun w'' h'' => h''.put z (sy + 1)
              have HRL : Hid (r2.length ≤ 1000000) := by show _ ≤ _; omega
              have w2 : IntKind.i64.wrap ((z : Int) + 1) = (z : Int) + 1 := by rw [IntKind.wrap_i64]; omega
              clear hB hP hU hM hsy2 hyx2 hz1 hz2 hall hzx hyz hM2 hP2
              go_wp2_with (first
                | (go_at_call 9; refine AD.out.mono ?_; rintro e w4 ⟨bv, rfl, h4⟩; have H4 : Hid (BqB w n kS r2 (st2.set z (sy + 1)) (addN seen2 z) b2 (.slice qa r2.length qc2) (w4.setCell ⟨w.heap.size, z, none⟩ (.int .i64 ((sy : Int) + 1)))) := HPT.out w4 h4; have H5 : Hid (((w4.setCell ⟨w.heap.size, z, none⟩ (.int .i64 ((sy : Int) + 1))).alloc (.cells #[.int .i64 (z : Int)] 3)).cell? ⟨w4.heap.size, 0, none⟩ = some (.int .i64 (z : Int))) := HC4.out w4; obtain ⟨⟨sz, cz⟩, fz⟩ := CZ.out w4 h4; clear h4)
                | (at_builtin; refine wpList_q_append rfl _ _ rfl rfl (H4.out.qu.later (below_alloc _ _)) w4.heap.size 1 z rfl H5.out HRL.out ?_))
              intro a5 n5 c5 b5 w5 hq5 hb5 hf5
              have H6 : Hid (BqB w n kS (r2 ++ [z]) (st2.set z (sy + 1)) (addN seen2 z) b5 (.slice a5 n5 c5) w5) := H4.out.push (below_alloc _ _) hq5 (hb5.imp id (fun q => by simpa using q)) hf5
              obtain ⟨ck5, LK5⟩ := LK.out w5 b5 _ H6.out
              have LK6 : Hid (Calls Tryd.prog 63 #[.pointer (some ⟨k + 1, 0, none⟩), .int .i64 ((z : Int) + 1), .pointer (some ⟨kS + 1, 0, none⟩)] w5 fun e w' => e = .returned (.int .i64 (lkB (minusB N (addN seen2 z)) n : Int)) ∧ Below w5.heap.size w5 w') := LK5
              clear hq5 hb5 hf5 LK LK5
              go_wp2_with (go_at_call 63; refine LK6.out.mono ?_; rintro e w6 ⟨rfl, b6⟩; have H7 : Hid (BqB w n kS (r2 ++ [z]) (st2.set z (sy + 1)) (addN seen2 z) b5 (.slice a5 n5 c5) w6) := H6.out.any b6; clear b6 ck5)
              go_roundg (gk - 1)
              case measure => have := HNX.out.2.2.1; omega
              case rel => exact ⟨_, _, _, b5, H7.out, HNX.out.1, HNX.out.2.1, by have := HNX.out.2.2.1; omega, by omega, HNX.out.2.2.2.1, HNX.out.2.2.2.2, rfl⟩
          · rw [if_neg hz] at hU
            have zlt : ¬ (lkB (minusB N seen2) n : Int) < (n : Int) := by omega
            obtain ⟨qa, qc2, rfl⟩ := hB.qu.len
            have HN2 : Hid (BqB w n kS r2 st2 seen2 b2 (.slice qa r2.length qc2) wr ∧ BqP n x r2 st2 seen2 ∧ bfU Ms n x most ⟨r2, seen2, st2⟩ = R ∧ mesQ n ⟨r2, seen2, st2⟩ + 1 ≤ go) := ⟨hB, ⟨fun u hu => hP.qn u (List.mem_cons_of_mem _ hu), hP.bd⟩, hU, by unfold mesQ at hM ⊢; simp only [List.length_cons] at hM ⊢; omega⟩
            generalize lkB (minusB N seen2) n = z at *
            clear hB hP hU hM hsy2 hyx2 hz
            go_wp2
            go_roundg (go - 1)
            case measure => have := HN2.out.2.2.2; omega
            case rel => exact ⟨r2, st2, seen2, b2, HN2.out.1, HN2.out.2.1, HN2.out.2.2.1, by have := HN2.out.2.2.2; omega, by omega⟩
end Go.Proofs.YtmpdgmigpjfcpaaDoor
