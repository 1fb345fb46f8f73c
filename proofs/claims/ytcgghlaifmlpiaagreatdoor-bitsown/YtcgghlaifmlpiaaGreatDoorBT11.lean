import Derived.Test.YtcgghlaifmlpiaaGreatDoorBT10
namespace Go.Proofs.YtcgghlaifmlpiaaGreatDoor
set_option linter.unusedVariables false
open Go.RowKit Go.Shelf

/-- The first number of D below n, or n. -/
def lkB (D n : Nat) : Nat := ((List.range n).find? fun j => D.testBit j).getD n
theorem lkB_is (D n : Nat) : LackR D n 0 (lkB D n) := by
  unfold lkB
  cases h : (List.range n).find? fun j => D.testBit j with
  | none =>
    refine ⟨Nat.le_refl _, fun q => absurd q (Nat.lt_irrefl _), fun j _ hj => ?_⟩
    have := List.find?_eq_none.1 h j (List.mem_range.2 hj)
    simpa using this
  | some r =>
    have h1 : D.testBit r = true := by simpa using List.find?_some h
    have h2 : r < n := List.mem_range.1 (List.mem_of_find?_eq_some h)
    refine ⟨Nat.le_of_lt h2, fun _ => ⟨Nat.zero_le _, h1⟩, fun j _ hj => ?_⟩
    have hjr : j < r := hj
    obtain ⟨_, A0, B0, e, hno⟩ := List.find?_eq_some_iff_append.1 h
    have hj2 : j ∈ A0 := by
      have hlen : A0.length = r := by
        have hr : (List.range n)[A0.length]? = some r := by rw [e, List.getElem?_append_right (Nat.le_refl _), Nat.sub_self]; rfl
        have hl : A0.length < n := by
          have := (List.getElem?_eq_some_iff.1 hr).1
          simpa using this
        rw [List.getElem?_range hl] at hr
        exact Option.some.inj hr
      have hg : (List.range n)[j]? = some j := List.getElem?_range (by omega)
      rw [e, List.getElem?_append_left (by omega)] at hg
      exact List.mem_of_getElem? hg
    simpa using hno j hj2
/-- A search: its path, the last on top; what it left; what is seen. -/
structure SrB where
  path : List Nat
  left : List Nat
  seen : Nat
def lvN (Ns : List Nat) (n : Nat) (s : SrB) : SrB :=
  match s.path with
  | [] => s
  | x :: p => if lkB (minusB (Ns.getD x 0) s.seen) n < n then ⟨lkB (minusB (Ns.getD x 0) s.seen) n :: x :: p, s.left, addN s.seen (lkB (minusB (Ns.getD x 0) s.seen) n)⟩ else ⟨p, s.left ++ [x], s.seen⟩
def lvF (Ns : List Nat) (n : Nat) : Nat → SrB → SrB
  | 0, s => s
  | f + 1, s => if s.path = [] then s else lvF Ns n f (lvN Ns n s)
def mesV (n : Nat) (s : SrB) : Nat := 2 * (n - popB s.seen n) + s.path.length
theorem popB_addN {N x n : Nat} (hx : x < n) (h : N.testBit x = false) : popB (addN N x) n = popB N n + 1 := by
  have key : ∀ k, popB (addN N x) k = popB N k + (if x < k then 1 else 0) := by
    intro k
    induction k with
    | zero => rfl
    | succ k ih =>
      show popB (addN N x) k + ((addN N x).testBit k).toNat = popB N k + (N.testBit k).toNat + _
      rw [ih, addN_bit]
      by_cases e : x = k
      · subst e
        rw [h, if_neg (Nat.lt_irrefl _), if_pos (Nat.lt_succ_self _)]
        simp
      · rw [decide_eq_false e, Bool.or_false]
        by_cases q : x < k
        · rw [if_pos q, if_pos (by omega)]; omega
        · rw [if_neg q, if_neg (by omega)]; omega
  rw [key n, if_pos hx]
theorem lvN_less {Ns : List Nat} {n : Nat} {s : SrB} (h : s.path ≠ []) : mesV n (lvN Ns n s) < mesV n s := by
  obtain ⟨p, l, S⟩ := s
  cases p with
  | nil => exact absurd rfl h
  | cons x p =>
    unfold lvN mesV
    have hk := lkB_is (minusB (Ns.getD x 0) S) n
    simp only
    by_cases q : lkB (minusB (Ns.getD x 0) S) n < n
    · rw [if_pos q]
      have hb := (hk.is q).2
      rw [minusB_bit] at hb
      have hf : S.testBit (lkB (minusB (Ns.getD x 0) S) n) = false := by
        cases e : S.testBit (lkB (minusB (Ns.getD x 0) S) n) with
        | false => rfl
        | true => rw [e] at hb; simp at hb
      have hp := popB_addN q hf
      have hle := popB_le (addN S (lkB (minusB (Ns.getD x 0) S) n)) n
      simp only [List.length_cons]
      omega
    · rw [if_neg q]
      simp only [List.length_cons]
      omega
theorem lvF_any {Ns : List Nat} {n : Nat} : ∀ (f g : Nat) (s : SrB), mesV n s ≤ f → mesV n s ≤ g → lvF Ns n f s = lvF Ns n g s
  | 0, 0, _, _, _ => rfl
  | 0, g + 1, s, h, _ => by
    have e : s.path = [] := List.eq_nil_of_length_eq_zero (by unfold mesV at h; omega)
    rw [lvF, lvF, if_pos e]
  | f + 1, 0, s, _, h => by
    have e : s.path = [] := List.eq_nil_of_length_eq_zero (by unfold mesV at h; omega)
    rw [lvF, lvF, if_pos e]
  | f + 1, g + 1, s, h, h' => by
    rw [lvF, lvF]
    by_cases e : s.path = []
    · rw [if_pos e, if_pos e]
    · rw [if_neg e, if_neg e]
      have := lvN_less (Ns := Ns) (n := n) e
      exact lvF_any f g _ (by omega) (by omega)
/-- What the search leaves. -/
def lvU (Ns : List Nat) (n : Nat) (s : SrB) : SrB := lvF Ns n (mesV n s) s
theorem lvU_step {Ns : List Nat} {n : Nat} {s : SrB} (h : s.path ≠ []) : lvU Ns n s = lvU Ns n (lvN Ns n s) := by
  unfold lvU
  have := lvN_less (Ns := Ns) (n := n) h
  obtain ⟨f, hf⟩ : ∃ f, mesV n s = f + 1 := ⟨mesV n s - 1, by omega⟩
  rw [hf, lvF, if_neg h]
  exact lvF_any _ _ _ (by omega) (Nat.le_refl _)
theorem lvU_end {Ns : List Nat} {n : Nat} {s : SrB} (h : s.path = []) : lvU Ns n s = s := by
  unfold lvU
  cases mesV n s with
  | zero => rfl
  | succ f => rw [lvF, if_pos h]
def nI (l : List Nat) : List Int := l.map fun (x : Nat) => (x : Int)
def stB (p : List Nat) : List Int := nI p.reverse
theorem stB_cons (x : Nat) (p : List Nat) : stB (x :: p) = stB p ++ [(x : Int)] := by simp [stB, nI]
theorem stB_len (p : List Nat) : (stB p).length = p.length := by simp [stB, nI]
theorem nI_snoc (l : List Nat) (x : Nat) : nI (l ++ [x]) = nI l ++ [(x : Int)] := by simp [nI]
theorem nI_len (l : List Nat) : (nI l).length = l.length := by simp [nI]
theorem IL.popB {wr : World} {v : Value} {D : List Int} {x : Int} (h : IL wr v (D ++ [x])) : ∃ b c, v = .slice (some ⟨b, 0, none⟩) (D.length + 1) c ∧ D.length + 1 ≤ c ∧ wr.cell? ⟨b, D.length, none⟩ = some (.int .i64 x) ∧ IL wr (.slice (some ⟨b, 0, none⟩) D.length c) D := by
  unfold IL at h
  rw [show (D ++ [x]).length = D.length + 1 by simp] at h
  rcases h.2 with ⟨_, h0⟩ | ⟨b, cap, cur, rfl, h1, h2, h3, h4, h5, h6⟩
  · omega
  · refine ⟨b, cap, rfl, h3, ?_, ⟨by simp, .inr ⟨b, cap, cur, rfl, h1, h2, by omega, h4, h5, ?_⟩⟩⟩
    · rw [World.ownsRow.cellAt h D.length (by omega)]
      simp
    · have e : cur.toList.take (D.length * 1) = (cur.toList.take ((D.length + 1) * 1)).take D.length := by rw [List.take_take]; congr 1; omega
      rw [e, h6]
      simp
theorem slice_toB (b lc len i : Nat) (hi : i ≤ lc) (w : World) : (Instr.slice 46 (.slice (some ⟨b, 0, none⟩) len lc) none (some (.int .i64 (i : Int))) none).run Tryz.prog w = .ok (.slice (some ⟨b, 0, none⟩) i lc) w := by
  obtain ⟨i0, hinf, _, hz1, _⟩ := infoInt_parts
  have hu : Tryz.prog.underlying 46 = some (.slice (Tryz.prog.elem 46)) := by kernel_rfl
  have he : Tryz.prog.elem 46 = 3 := by kernel_rfl
  have := run_slice_h (P := Tryz.prog) (w := w) 46 (some ⟨b, 0, none⟩) len lc hu .i64 (i : Int) (by omega) (by omega)
  rw [this, he]
  simp [sizeOf, typeInfo, hinf, hz1]
  unfold sliced
  split <;> simp [add_none]
/-- A search in memory. -/
structure LvB (w : World) (rb n : Nat) (ks Ns : List Nat) (kS : Nat) (s : SrB) (vl vp : Value) (wr : World) : Prop where
  l : IL wr vl (nI s.left)
  p : IL wr vp (stB s.path)
  lo : ∀ j, vl.ownBlock = some j → w.heap.size ≤ j
  po : ∀ j, vp.ownBlock = some j → w.heap.size ≤ j
  ne : ∀ j, vl.ownBlock = some j → vp.ownBlock ≠ some j
  rw : RwB wr rb n ks Ns
  sb : SB wr kS n s.seen
  kl : kS + 1 < w.heap.size
  rl : rb < w.heap.size
  nk : ∀ k ∈ ks, k ≠ kS
  fr : FrB (· = kS) w wr
  tab : TabB wr
  pin : ∀ x ∈ s.path, x < n
  kIn : ∀ k ∈ ks, k + 1 < w.heap.size
  gNe : tzRen.g 1 ≠ kS ∧ tzRen.g 1 < w.heap.size
theorem LvB.any {w wr w' : World} {rb n kS : Nat} {ks Ns : List Nat} {s : SrB} {vl vp : Value} (h : LvB w rb n ks Ns kS s vl vp wr) (hb : Below wr.heap.size wr w') : LvB w rb n ks Ns kS s vl vp w' :=
  ⟨h.l.later hb, h.p.later hb, h.lo, h.po, h.ne, h.rw.later hb, h.sb.later hb, h.kl, h.rl, h.nk, h.fr.trans (Below.frB hb), h.tab.later hb, h.pin, h.kIn, h.gNe⟩
/-- One more seen, and on the path. -/
theorem LvB.push {w wr w1 w2 w4 : World} {rb n kS r : Nat} {ks Ns : List Nat} {s : SrB} {vl vp v' : Value} (h : LvB w rb n ks Ns kS s vl vp wr) (hr : r < n) (hs : SB w1 kS n (addN s.seen r)) (hf : FrB (· = kS) wr w1) (hb : Below w1.heap.size w1 w2) (hg : Grew w2 w4 vp v') (hi : IL w4 v' (stB s.path ++ [(r : Int)])) : LvB w rb n ks Ns kS ⟨r :: s.path, s.left, addN s.seen r⟩ vl v' w4 := by
  have hws := h.fr.size
  have hkl := h.kl
  have hrl := h.rl
  have hz1 := hf.size
  have hz2 := hb.size
  have f1 : FrB (fun j => j = kS ∨ vp.ownBlock = some j) wr w4 := by
    refine ⟨hg.grown.os.trans (hb.os.trans hf.os), hg.grown.tape.trans (hb.tape.trans hf.tape), hg.grown.output.trans (hb.output.trans hf.output), by have := hg.grown.size; omega, fun j hj hx => ?_⟩
    rw [hg.grown.block j (by omega) (fun e => hx (.inr e.symm)), hb.block j (by omega), hf.block j hj (fun e => hx (.inl e))]
  have keep : ∀ j, j < w.heap.size → j ≠ kS → ¬ (j = kS ∨ vp.ownBlock = some j) := fun j hj hk q => by
    rcases q with q | q
    · exact hk q
    · have := h.po j q; omega
  refine ⟨?_, by rw [stB_cons]; exact hi, h.lo, ?_, ?_, ?_, ?_, hkl, hrl, h.nk, ?_, ?_, ?_, h.kIn, h.gNe⟩
  · have hl := h.l
    rcases hl.2 with ⟨q1, q2⟩ | ⟨g, cap, cur, rfl, h1, h2, h3⟩
    · exact ⟨hl.1, .inl ⟨q1, q2⟩⟩
    · have hge := h.lo g rfl
      refine ⟨hl.1, .inr ⟨g, cap, cur, rfl, h1, ?_, h3⟩⟩
      rw [f1.block g (lt_of_block h2) (fun q => by
        rcases q with q | q
        · omega
        · exact h.ne g rfl q)]
      exact h2
  · intro j hj
    rcases hg.moved with e | ⟨i, e, hi2⟩
    · exact h.po j (by rw [← e]; exact hj)
    · rw [e] at hj
      simp at hj
      omega
  · intro j hj hj2
    rcases hg.moved with e | ⟨i, e, hi2⟩
    · exact h.ne j hj (by rw [← e]; exact hj2)
    · rw [e] at hj2
      have hlt := (World.ownsRow.lt h.l j hj).2
      simp at hj2
      omega
  · refine h.rw.frB f1 (keep rb hrl ?_) (fun k hk => ⟨?_, ?_⟩)
    · intro e
      have a := h.rw.row
      rw [e, h.sb.wd] at a
      simp only [Option.some.injEq, Obj.cells.injEq] at a
      exact absurd a.2.1 (by decide)
    · obtain ⟨i, hi3⟩ := List.getElem?_of_mem hk
      have hi4 : i < Ns.length := by rw [← h.rw.len]; exact (List.getElem?_eq_some_iff.1 hi3).1
      have hsb := h.rw.sb i k _ hi3 (List.getElem?_eq_getElem hi4)
      exact fun q => by
        rcases q with q | q
        · exact h.nk k hk q
        · exact absurd (h.kIn k hk) (by have := h.po k q; omega)
    · obtain ⟨i, hi3⟩ := List.getElem?_of_mem hk
      have hi4 : i < Ns.length := by rw [← h.rw.len]; exact (List.getElem?_eq_some_iff.1 hi3).1
      have hsb := h.rw.sb i k _ hi3 (List.getElem?_eq_getElem hi4)
      exact fun q => by
        rcases q with q | q
        · exact (h.sb.apart hsb) q
        · exact absurd (h.kIn k hk) (by have := h.po (k + 1) q; omega)
  · have s2 := hs.later hb
    refine ⟨?_, ?_, s2.lt, s2.ml⟩
    · rw [hg.grown.block (kS + 1) (by omega) (fun e => by have := h.po (kS + 1) e.symm; omega)]
      exact s2.hd
    · rw [hg.grown.block kS (by omega) (fun e => by have := h.po kS e.symm; omega)]
      exact s2.wd
  · exact ⟨f1.os.trans h.fr.os, f1.tape.trans h.fr.tape, f1.output.trans h.fr.output, Nat.le_trans h.fr.size f1.size, fun j hj hx => (f1.block j (Nat.lt_of_lt_of_le hj h.fr.size) (keep j hj hx)).trans (h.fr.block j hj hx)⟩
  · exact h.tab.frB (X := fun j => j = kS ∨ vp.ownBlock = some j) f1 (fun j q e => by
      subst e
      exact keep _ h.gNe.2 h.gNe.1 q)
  · intro x hx
    rcases List.mem_cons.1 hx with rfl | hx
    · exact hr
    · exact h.pin x hx
/-- The last of the path is left. -/
theorem LvB.leave {w wr w2 w4 : World} {rb n kS x : Nat} {p : List Nat} {ks Ns : List Nat} {l : List Nat} {S : Nat} {vl vp v' vp' : Value} (h : LvB w rb n ks Ns kS ⟨x :: p, l, S⟩ vl vp wr) (hb : Below wr.heap.size wr w2) (hg : Grew w2 w4 vl v') (hi : IL w4 v' (nI l ++ [(x : Int)])) (hp : IL wr vp' (stB p)) (ho : vp'.ownBlock = vp.ownBlock) : LvB w rb n ks Ns kS ⟨p, l ++ [x], S⟩ v' vp' w4 := by
  have hws := h.fr.size
  have hkl := h.kl
  have hrl := h.rl
  have hz2 := hb.size
  have f1 : FrB (fun j => vl.ownBlock = some j) wr w4 := by
    refine ⟨hg.grown.os.trans hb.os, hg.grown.tape.trans hb.tape, hg.grown.output.trans hb.output, by have := hg.grown.size; omega, fun j hj hx => ?_⟩
    rw [hg.grown.block j (by omega) (fun e => hx e.symm), hb.block j (by omega)]
  have keep : ∀ j, j < w.heap.size → ¬ vl.ownBlock = some j := fun j hj q => by have := h.lo j q; omega
  refine ⟨by rw [nI_snoc]; exact hi, ?_, ?_, fun j hj => h.po j (by rw [← ho]; exact hj), ?_, ?_, ?_, hkl, hrl, h.nk, ?_, ?_, fun y hy => h.pin y (List.mem_cons_of_mem _ hy), h.kIn, h.gNe⟩
  · exact hp.kept (fun j hj => f1.block j (World.ownsRow.lt hp j hj).2 (fun q => h.ne j q (by rw [← ho]; exact hj)))
  · intro j hj
    rcases hg.moved with e | ⟨i, e, hi2⟩
    · exact h.lo j (by rw [← e]; exact hj)
    · rw [e] at hj
      simp at hj
      omega
  · intro j hj hj2
    rcases hg.moved with e | ⟨i, e, hi2⟩
    · exact h.ne j (by rw [← e]; exact hj) (by rw [← ho]; exact hj2)
    · rw [e] at hj
      have hlt := (World.ownsRow.lt hp j hj2).2
      simp at hj
      omega
  · exact h.rw.frB f1 (keep rb hrl) (fun k hk => ⟨keep k (by have := h.kIn k hk; omega), keep (k + 1) (h.kIn k hk)⟩)
  · exact h.sb.frB f1 (keep kS (by omega)) (keep (kS + 1) hkl)
  · exact ⟨f1.os.trans h.fr.os, f1.tape.trans h.fr.tape, f1.output.trans h.fr.output, Nat.le_trans h.fr.size f1.size, fun j hj hx => (f1.block j (Nat.lt_of_lt_of_le hj h.fr.size) (keep j hj)).trans (h.fr.block j hj hx)⟩
  · exact h.tab.frB (X := fun j => vl.ownBlock = some j) f1 (fun j q e => by
      subst e
      exact keep _ h.gNe.2 q)
theorem lvN_cons (Ns : List Nat) (n x : Nat) (p l : List Nat) (S : Nat) : lvN Ns n ⟨x :: p, l, S⟩ = if lkB (minusB (Ns.getD x 0) S) n < n then ⟨lkB (minusB (Ns.getD x 0) S) n :: x :: p, l, addN S (lkB (minusB (Ns.getD x 0) S) n)⟩ else ⟨p, l ++ [x], S⟩ := rfl
end Go.Proofs.YtcgghlaifmlpiaaGreatDoor
