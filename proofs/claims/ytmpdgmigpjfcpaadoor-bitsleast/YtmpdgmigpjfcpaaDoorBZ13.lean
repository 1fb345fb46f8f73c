import Derived.Test.YtmpdgmigpjfcpaaDoorBZ12
namespace Go.Proofs.YtmpdgmigpjfcpaaDoor
set_option linter.unusedVariables false
open Go.RowKit Go.Shelf

theorem bfU_le {Ms : List Nat} {n x most : Nat} : ∀ (k : Nat) (s : BfS), mesQ n s ≤ k → (∀ z, s.st.getD z 0 ≤ popB s.seen n) → ∀ z, (bfU Ms n x most s).getD z 0 ≤ n + 1
  | k, ⟨[], S, st⟩, _, h, z => by
    rw [bfU_nil]
    have := h z
    have := popB_le S n
    simp only at *
    omega
  | 0, ⟨y :: r, S, st⟩, hk, _, _ => by
    unfold mesQ at hk
    simp only [List.length_cons] at hk
    omega
  | k + 1, ⟨y :: r, S, st⟩, hk, h, z => by
    have hp := popB_le S n
    have hy := h y
    have hz := h z
    simp only at hy hz
    rw [bfU_cons]
    by_cases h1 : st.getD y 0 + 1 = most
    · rw [if_pos h1]
      omega
    · rw [if_neg h1]
      by_cases h2 : lkB (minusB (Ms.getD y 0) S) n < n
      · rw [if_pos h2]
        by_cases h3 : lkB (minusB (Ms.getD y 0) S) n = x
        · rw [if_pos h3, getD_setV]
          by_cases e : x = z ∧ z < st.length
          · rw [if_pos e]; omega
          · rw [if_neg e]; omega
        · rw [if_neg h3]
          have hm := mesQ_push (y := y) (r := r) (st := st) (st' := st.set (lkB (minusB (Ms.getD y 0) S) n) (st.getD y 0 + 1)) h2 (lk_new h2).2
          refine bfU_le k _ (by omega) (fun u => ?_) z
          have hpa := popB_addN h2 (lk_new h2).2
          simp only
          rw [getD_setV, hpa]
          have := h u
          simp only at this
          by_cases e : lkB (minusB (Ms.getD y 0) S) n = u ∧ u < st.length
          · rw [if_pos e]; omega
          · rw [if_neg e]; omega
      · rw [if_neg h2]
        refine bfU_le k ⟨r, S, st⟩ ?_ h z
        unfold mesQ at hk ⊢
        simp only [List.length_cons] at hk ⊢
        omega
theorem find_at {p : Nat → Bool} : ∀ {l : List Nat} {q : Nat}, q < l.length → (∀ y ∈ l.take q, p y = false) → p (l.getD q 0) = true → l.find? p = some (l.getD q 0)
  | [], q, h, _, _ => by simp at h
  | a :: l, 0, _, _, h => by
    have h' : p a = true := h
    rw [List.find?_cons, h']
    rfl
  | a :: l, q + 1, hq, hn, h => by
    have ha : p a = false := hn a (by simp)
    rw [List.find?_cons, ha]
    have := find_at (p := p) (l := l) (q := q) (by simpa using hq) (fun y hy => hn y (by simp [hy])) (by simpa using h)
    simpa using this
/-- Steps in memory. -/
def StM (wr : World) (n : Nat) (v : Value) (st : List Nat) : Prop := (v = .slice none 0 0 ∧ st = []) ∨ ∃ sb, v = .slice (some ⟨sb, 0, none⟩) n n ∧ KbB wr sb st ∧ st.length = n
theorem KbB.ne {w : World} {b k m N : Nat} {K : List Nat} (h : KbB w b K) (hs : SB w k m N) : b ≠ k := fun e => by
  have a := h
  unfold KbB at a
  rw [e, hs.wd] at a
  simp only [Option.some.injEq, Obj.cells.injEq] at a
  exact absurd a.2.1 (by decide)
set_option maxRecDepth 100000 in
set_option maxHeartbeats 8000000 in
theorem around_SB {w : World} {rb sb n start : Nat} {ks Ns St : List Nat} (hR : RwB w rb n ks Ns) (hn : Ns.length = n) (hm : n ≤ 4096) (hT : TabB w) (hK : KbB w sb St) (hKl : St.length = n) (hst : start < n) (h1 : 1 ≤ St.getD start 0) (h2 : St.getD start 0 ≤ 100000) (c1 c2 : Nat) :
    Calls Tryd.prog 66 #[.int .i64 (start : Int), .slice (some ⟨rb, 0, none⟩) n c1, .slice (some ⟨sb, 0, none⟩) n c2] w fun e w' => ∃ v, e = .returned v ∧ LBs w (nI (arU Ns St n start)) v w' := by
  have HR : Hid (RwB w rb n ks Ns) := hR
  have HT : Hid (TabB w) := hT
  have HNL : Hid (Ns.length = n) := hn
  have HK : Hid (KbB w sb St ∧ St.length = n) := ⟨hK, hKl⟩
  have slt : (start : Int) < (n : Int) := by omega
  have cs0 := hK.cell (i := start) (by rw [hKl]; exact hst)
  have CS : Hid (∀ wr, Below w.heap.size w wr → ∀ y, y < n → wr.cell? ⟨sb, y, none⟩ = some (.int .i64 (St.getD y 0 : Int))) := fun wr b y hy => cellL (hK.cell (i := y) (by rw [hKl]; exact hy)) b
  have B1 : Hid (LBs w (nI [start]) (.slice (some ⟨w.heap.size, 0, none⟩) 1 1) (w.alloc (.cells #[.int .i64 (start : Int)] 3))) := ⟨IL.oneB w _, fun j hj => by simp [Value.ownBlock] at hj; omega, below_alloc w _⟩
  have cs1 := cellL cs0 (below_alloc w (.cells #[.int .i64 (start : Int)] 3))
  obtain ⟨f0, hf0⟩ : ∃ f0, St.getD start 0 = f0 + 1 := ⟨St.getD start 0 - 1, by omega⟩
  obtain ⟨R, hRe⟩ : ∃ R, arU Ns St n start = R := ⟨_, rfl⟩
  have HRE : Hid (arF Ns St n f0 [start] = R) := by
    rw [← hRe]
    show _ = arF Ns St n (St.getD start 0 - 1) [start]
    rw [hf0]
    rfl
  rw [hRe]
  rw [hf0] at cs1
  have e1 : (((f0 + 1 : Nat) : Int)) - 1 = (f0 : Int) := by omega
  have hf0l : f0 ≤ 100000 := by omega
  clear hR hT hn hK hKl cs0 hf0 h1 h2 hRe
  go_enter Tryd.func66, Tryd.ntmps66
  go_wp2
  clear cs1
  go_loopw [7, 8] (fun v z wr => ∃ (f : Nat) (l : List Nat), z = .int .i64 (f : Int) ∧ LBs w (nI l) v wr ∧ l ≠ [] ∧ (∀ y ∈ l, y < n) ∧ l.length + f ≤ 200000 ∧ arF Ns St n f l = R) (fun _ z _ => (intOf z).toNat)
  case atStart => exact ⟨f0, [start], rfl, B1.out, by simp, fun y hy => by rw [List.mem_singleton.1 hy]; exact hst, by simp; omega, HRE.out⟩
  case round =>
    clear B1 HRE
    obtain ⟨f, l, rfl, hL, hl0, hln, hlf, hF⟩ := hrel
    obtain ⟨la, lc, rfl⟩ := il_lenB hL.il
    cases f with
    | zero =>
      have hF' : l = R := hF
      subst hF'
      have HL : Hid (LBs w (nI l) (.slice la l.length lc) wr) := hL
      clear hL hF
      go_wp2
      go_ret
      exact ⟨_, rfl, HL.out⟩
    | succ f =>
      have fpos : ((f + 1 : Nat) : Int) > 0 := by omega
      have hlp : 0 < l.length := List.length_pos_iff.2 hl0
      have e3 : ((l.length : Nat) : Int) - 1 = ((l.length - 1 : Nat) : Int) := by omega
      have hfl : f ≤ 200000 := by omega
      have wl : wrap64 ((l.length - 1 : Nat) : Int) = ((l.length - 1 : Nat) : Int) := by unfold wrap64; omega
      obtain ⟨lb, lc', he, cl⟩ := IL.atB hL.il (i := l.length - 1) (by omega)
      simp only [Value.slice.injEq, true_and] at he
      obtain ⟨rfl, rfl⟩ := he
      have hlast := last_get hl0
      have hym := hln _ (getD_memN (show l.length - 1 < l.length by omega))
      obtain ⟨y, hy⟩ : ∃ y, l.getD (l.length - 1) 0 = y := ⟨_, rfl⟩
      rw [hy] at cl hlast hym
      have ylt : (y : Int) < (n : Int) := by omega
      obtain ⟨k, hk, hsk⟩ := (HR.out.later hL.bel).at (show y < Ns.length by rw [HNL.out]; exact hym)
      have ck := (HR.out.later hL.bel).cell hk
      have LI : Hid (Calls Tryd.prog 27 #[.pointer (some ⟨k + 1, 0, none⟩)] wr fun e w' => ∃ v, e = .returned v ∧ LBs wr (bitsL (Ns.getD y 0) n) v w') := list_SB hsk (HT.out.later hL.bel)
      obtain ⟨l2, hl2⟩ : ∃ l2, bitsU (Ns.getD y 0) n = l2 := ⟨_, rfl⟩
      rw [bitsL_nI, hl2] at LI
      have HLM : Hid (∀ z ∈ l2, z < n) := fun z hz => by rw [← hl2] at hz; exact (bitsU_mem.1 hz).1
      have hLL : l2.length ≤ 4096 := by
        rw [← hl2, bitsU_len]
        exact Nat.le_trans (popB_le _ _) hm
      have HF : Hid (arF Ns St n f (arS Ns St n (f + 1) l) = R) := hF
      have HAS : Hid ((∀ z, l2.find? (fun z => decide (St.getD z 0 = f + 1)) = some z → arS Ns St n (f + 1) l = l ++ [z]) ∧ (l2.find? (fun z => decide (St.getD z 0 = f + 1)) = none → arS Ns St n (f + 1) l = l)) := by
        refine ⟨fun z hz => ?_, fun hz => ?_⟩
        · unfold arS
          rw [hlast, hl2, hz]
        · unfold arS
          rw [hlast, hl2, hz]
      have HL : Hid (LBs w (nI l) (.slice (some ⟨lb, 0, none⟩) l.length lc) wr) := hL
      have HLO : Hid (l ≠ [] ∧ (∀ y ∈ l, y < n) ∧ l.length + (f + 1) ≤ 200000) := ⟨hl0, hln, hlf⟩
      have HLB : Hid (lb < wr.heap.size) := (World.ownsRow.lt hL.il lb rfl).2
      clear hL hF hk hsk hl2 hlast hy hl0 hln hlf
      have lpl : ((l.length - 1 : Nat) : Int) < (l.length : Int) := by omega
      obtain ⟨wz, rfl⟩ : ∃ wz : World, wz = wr := ⟨_, rfl⟩
      go_wp2_with (go_at_call 27; refine LI.out.mono ?_; rintro e w3 ⟨v, rfl, l3⟩; obtain ⟨xa, xc, rfl⟩ := il_lenB l3.il; have W3 : Hid (LBs w (nI l) (.slice (some ⟨lb, 0, none⟩) l.length lc) w3 ∧ IL w3 (.slice xa l2.length xc) (nI l2)) := ⟨HL.out.any l3.bel, l3.il⟩; clear l3 ck cl)
      clear LI HL
      go_loopw [7, 33] (fun v z wr => ∃ (q : Nat), q ≤ l2.length ∧ z = .int .i64 (q : Int) ∧ v = .slice (some ⟨lb, 0, none⟩) l.length lc ∧ LBs w (nI l) (.slice (some ⟨lb, 0, none⟩) l.length lc) wr ∧ IL wr (.slice xa l2.length xc) (nI l2) ∧ ∀ u ∈ l2.take q, St.getD u 0 ≠ f + 1) (fun _ z _ => l2.length - (intOf z).toNat)
      case atStart => exact ⟨0, Nat.zero_le _, rfl, rfl, W3.out.1, W3.out.2, fun u hu => by simp at hu⟩
      case round =>
        clear W3
        obtain ⟨q, hq, rfl, rfl, hL, hil, hno⟩ := hrel
        by_cases hql : q < l2.length
        · have qlt : (q : Int) < (l2.length : Int) := by omega
          obtain ⟨xb, xc', he, cq⟩ := IL.atB hil hql
          simp only [Value.slice.injEq, true_and] at he
          obtain ⟨rfl, rfl⟩ := he
          have hzm := HLM.out _ (getD_memN hql)
          have hfa := find_at (p := fun z => decide (St.getD z 0 = f + 1)) hql (fun u hu => decide_eq_false (hno u hu))
          have htk : ∀ u, u ∈ l2.take (q + 1) → u ∈ l2.take q ∨ u = l2.getD q 0 := fun u hu => (take_memB hql).1 hu
          obtain ⟨z, hz⟩ : ∃ z, l2.getD q 0 = z := ⟨_, rfl⟩
          rw [hz] at cq hzm hfa htk
          have zlt : (z : Int) < (n : Int) := by omega
          have cz := CS.out wr hL.bel z hzm
          by_cases hsz : St.getD z 0 = f + 1
          · rw [hsz] at cz
            have hfa2 := hfa (decide_eq_true hsz)
            have hasE := HAS.out.1 z hfa2
            have HN : Hid (arF Ns St n f (l ++ [z]) = R) := by
              have := HF.out
              rw [hasE] at this
              exact this
            have HL : Hid (LBs w (nI l) (.slice (some ⟨lb, 0, none⟩) l.length lc) wr) := hL
            have HLN : Hid ((nI l).length ≤ 100000000) := by show _ ≤ _; rw [nI_len]; have := HLO.out.2.2; omega
            have HL2 : Hid (l ++ [z] ≠ [] ∧ (∀ y ∈ l ++ [z], y < n) ∧ (l ++ [z]).length + f ≤ 200000) := ⟨by simp, fun u hu => by
              rcases List.mem_append.1 hu with u1 | u1
              · exact HLO.out.2.1 u u1
              · rw [List.mem_singleton.1 u1]; exact hzm, by have := HLO.out.2.2; simp; omega⟩
            clear hL hil hno hfa hfa2 hasE htk hsz hz
            go_wp2_with (at_builtin; refine wpList_il_append_w rfl _ _ rfl (.slice (some ⟨lb, 0, none⟩) l.length lc) (nI l) rfl (HL.out.il.later (below_alloc _ _)) wr.heap.size 1 (z : Int) rfl (by simp) HLN.out ?_)
            intro a4 n4 c4 w4 ho4 hg4
            have W4 : Hid (LBs w (nI (l ++ [z])) (.slice a4 n4 c4) w4) := by
              rw [nI_snoc]
              exact HL.out.app (below_alloc _ _) hg4 ho4
            clear ho4 hg4
            go_wp2
            go_roundw
            case rel => exact ⟨f, l ++ [z], by go_num, W4.out, HL2.out.1, HL2.out.2.1, HL2.out.2.2, HN.out⟩
            case measure => simp [intOf]
          · have hne : ((St.getD z 0 : Int) == ((f + 1 : Nat) : Int)) = false := by rw [beq_eq_false_iff_ne]; omega
            have HN : Hid (LBs w (nI l) (.slice (some ⟨lb, 0, none⟩) l.length lc) wr ∧ IL wr (.slice (some ⟨xb, 0, none⟩) l2.length xc) (nI l2) ∧ ∀ u ∈ l2.take (q + 1), St.getD u 0 ≠ f + 1) := ⟨hL, hil, fun u hu => by
              rcases htk u hu with u1 | u1
              · exact hno u u1
              · rw [u1]; exact hsz⟩
            generalize St.getD z 0 = sz at *
            clear hL hil hno hfa htk hz hsz
            go_wp2
            go_roundw
            case rel => exact ⟨q + 1, by omega, by go_num, rfl, HN.out.1, HN.out.2.1, HN.out.2.2⟩
            case measure => simp [intOf]; omega
        · obtain rfl : q = l2.length := by omega
          have qlt : ¬ (l2.length : Int) < (l2.length : Int) := by omega
          rw [List.take_length] at hno
          have HN : Hid (LBs w (nI l) (.slice (some ⟨lb, 0, none⟩) l.length lc) wr ∧ arF Ns St n f l = R) := by
            refine ⟨hL, ?_⟩
            have hnone : l2.find? (fun z => decide (St.getD z 0 = f + 1)) = none := List.find?_eq_none.2 (fun u hu q => hno u hu (of_decide_eq_true q))
            have h1 := HAS.out.2 hnone
            have h2 := HF.out
            rw [h1] at h2
            exact h2
          clear hL hil hno
          go_wp2
          go_roundw
          case rel => exact ⟨f, l, by go_num, HN.out.1, HLO.out.1, HLO.out.2.1, by have := HLO.out.2.2; omega, HN.out.2⟩
          case measure => simp [intOf]
end Go.Proofs.YtmpdgmigpjfcpaaDoor
