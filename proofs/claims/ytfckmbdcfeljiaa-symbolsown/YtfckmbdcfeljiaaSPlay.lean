import Derived.Test.YtfckmbdcfeljiaaSFine
import Derived.Test.YtfckmbdcfeljiaaOpArg
namespace Go.Proofs.Ytfckmbdcfeljiaa
set_option linter.unusedVariables false
open Go.RowKit Go.Maps

/-- One call of a script, as a plain function of the names. -/
def stepF (q : List ByteArray × List ByteArray) (o : OpV) : List ByteArray × List ByteArray :=
  if o.kd = 0 then ((termF q.1 q.2 o.s).2.2, q.2) else if o.kd = 1 then (q.1, (nonF q.1 q.2 o.s).2.2)
  else if o.kd = 4 ∧ 0 ≤ o.x ∧ o.x ≤ q.1.length ∧ 0 ≤ o.y ∧ o.y ≤ q.2.length then (q.1.take o.x.toNat, q.2.take o.y.toNat) else q
def playF (q : List ByteArray × List ByteArray) (l : List OpV) : List ByteArray × List ByteArray := l.foldl stepF q
theorem playF_snoc (q : List ByteArray × List ByteArray) (l : List OpV) (k : Nat) (h : k < l.length) : playF q (l.take (k + 1)) = stepF (playF q (l.take k)) (l.getD k .none) := by
  unfold playF
  rw [List.take_succ_eq_append_getElem h, List.foldl_append]
  simp only [List.foldl_cons, List.foldl_nil, List.getD, List.getElem?_eq_getElem h, Option.getD_some]
/-- A block that a book does not touch. -/
def Apart (w : World) (g b : Nat) (T N : Value) (k : Nat) : Prop := k < w.heap.size ∧ k ≠ g ∧ k ≠ b ∧ some k ≠ T.ownBlock ∧ some k ≠ N.ownBlock
section
variable {w w' : World} {p g b : Nat} {T N T' N' : Value} {D D' : DataW Unit} {ts ns ts' ns' : List ByteArray}
theorem Apart.step {k : Nat} (h : Apart w g b T N k) (f : BFr w w' g b T N T' N') : Apart w' g b T' N' k ∧ w'.heap[k]? = w.heap[k]? := by
  obtain ⟨h1, h2, h3, h4, h5⟩ := h
  refine ⟨⟨Nat.lt_of_lt_of_le h1 f.size, h2, h3, fun e => ?_, fun e => ?_⟩, f.block k h1 h2 h3 h4 h5⟩
  · rcases f.movT k e.symm with r | r
    · exact h4 r.symm
    · omega
  · rcases f.movN k e.symm with r | r
    · exact h5 r.symm
    · omega
theorem Apart.later {k : Nat} (h : Apart w g b T N k) (f : Below w.heap.size w w') : Apart w' g b T N k := (h.step (BFr.ofBelow f g b T N)).1
/-- What is laid behind a book's blocks is apart from it. -/
theorem BInv.fresh {k : Nat} (h : BInv w p g b T N D ts ns) (hb : Below w.heap.size w w') (h1 : w.heap.size ≤ k) (h2 : k < w'.heap.size) : Apart w' g b T N k := by
  refine ⟨h2, ?_, ?_, fun e => ?_, fun e => ?_⟩
  · have := lt_of_block h.hg; omega
  · obtain ⟨es, c, q⟩ := h.bmap; have := lt_of_block q; omega
  · have := h.tn.lt k e.symm; omega
  · have := h.nn.lt k e.symm; omega
/-- Its block, if it has one, is apart. -/
def OpsAp (w : World) (g b : Nat) (T N : Value) (ao : Option Addr) (l : List OpV) : Prop := OpsAt w ao l ∧ ∀ bb off, ao = some ⟨bb, off, none⟩ → l ≠ [] → Apart w g b T N bb
theorem OpsAp.step {ao : Option Addr} {l : List OpV} (h : OpsAp w g b T N ao l) (f : BFr w w' g b T N T' N') : OpsAp w' g b T' N' ao l := by
  refine ⟨⟨h.1.1, fun hne => ?_⟩, fun bb off e hne => ((h.2 bb off e hne).step f).1⟩
  obtain ⟨bb, off, rfl, hbl, hc⟩ := h.1.2 hne
  obtain ⟨k1, k2⟩ := (h.2 bb off rfl hne).step f
  have e : ∀ i, w'.cell? ⟨bb, i, none⟩ = w.cell? ⟨bb, i, none⟩ := fun i => by simp [World.cell?, k2]
  refine ⟨bb, off, rfl, k1.1, fun i hi => ?_⟩
  rw [e, e, e, e, e, e]
  exact hc i hi
end
theorem stepF_fine {q : List ByteArray × List ByteArray} {o : OpV} (h : Fine q.1 q.2) : Fine (stepF q o).1 (stepF q o).2 := by
  unfold stepF
  split
  · exact termF_fine h rfl
  · split
    · exact nonF_fine h rfl
    · split
      · exact h.take _ _
      · exact h
theorem playF_fine {q : List ByteArray × List ByteArray} (h : Fine q.1 q.2) : ∀ l : List OpV, Fine (playF q l).1 (playF q l).2
  | [] => h
  | o :: l => by
    show Fine (playF (stepF q o) l).1 (playF (stepF q o) l).2
    exact playF_fine (q := stepF q o) (stepF_fine h) l
/-- What a script has come to. -/
def PSt (w : World) (p g b : Nat) (T N : Value) (wr : World) (q : List ByteArray × List ByteArray) : Prop := ∃ T' N' D', BInv wr p g b T' N' D' q.1 q.2 ∧ BFr w wr g b T N T' N'
theorem PSt.step {w wr w2 : World} {p g b : Nat} {T N T1 N1 T2 N2 : Value} {D2 : DataW Unit} {q : List ByteArray × List ByteArray} (f1 : BFr w wr g b T N T1 N1) (h2 : BInv w2 p g b T2 N2 D2 q.1 q.2) (f2 : BFr wr w2 g b T1 N1 T2 N2) : PSt w p g b T N w2 q := ⟨T2, N2, D2, h2, f1.trans f2⟩
set_option maxRecDepth 100000 in
set_option maxHeartbeats 4000000 in
theorem play_any {w : World} {p g b : Nat} {T N : Value} {D : DataW Unit} {ts ns : List ByteArray} (h : BInv w p g b T N D ts ns) (hF : Fine ts ns) (ao : Option Addr) (M cap : Nat) (l : List OpV) (hM : M = l.length) (hl : l.length ≤ 140737488355328) (ho : OpsAp w g b T N ao l) :
    Calls Try.prog 6 #[.pointer (some ⟨p, 0, none⟩), .slice ao M cap] w fun e w' => e = .returned (.tuple #[]) ∧ PSt w p g b T N w' (playF (ts, ns) l) := by
  subst hM
  have HP : Hid (∀ k, Fine (playF (ts, ns) (l.take k)).1 (playF (ts, ns) (l.take k)).2) := fun k => playF_fine (q := (ts, ns)) hF _
  have HA : Hid (∀ wr T1 N1, BFr w wr g b T N T1 N1 → OpsAp wr g b T1 N1 ao l) := fun wr T1 N1 f => ho.step f
  have H0 : Hid (PSt w p g b T N w (playF (ts, ns) (l.take 0))) := ⟨T, N, D, h, BFr.refl w g b T N⟩
  clear h hF ho
  go_enter Try.func6, Try.ntmps6
  go_wp2
  go_loopw [4] (fun i wr => ∃ k : Nat, k ≤ l.length ∧ i = .int .i64 k ∧ PSt w p g b T N wr (playF (ts, ns) (l.take k))) (fun i _ => l.length - (intOf i).toNat)
  case atStart => exact ⟨0, Nat.zero_le _, rfl, H0.out⟩
  case round =>
    clear H0
    obtain ⟨k, hk, rfl, T1, N1, D1, h1, f1'⟩ := hrel
    have f1 : Hid _ := f1'
    clear f1'
    by_cases hlt : k < l.length
    · obtain ⟨hz, hr⟩ := (HA.out wr T1 N1 f1.out).1
      obtain ⟨bb, off, rfl, hbl, hc⟩ := hr (by intro e; subst e; simp at hlt)
      obtain ⟨c0, c1, c2, c3, c4, c5⟩ := hc k hlt
      have hsz := hz (l.getD k .none) (by simp [List.getD, hlt])
      have HN : Hid _ := playF_snoc (ts, ns) l k hlt
      have hF1 : Hid _ := HP.out k
      clear hc hr hz HA HP
      generalize playF (ts, ns) (l.take k) = q at *
      obtain ⟨t1, n1⟩ := q
      generalize l.getD k .none = o at *
      obtain ⟨kd, s, ok, on, ox, oy⟩ := o
      simp only at c0 c1 c2 c3 c4 c5 hsz h1
      have hs' : s.size ≤ 9223372036854775807 := by unfold maxLen at hsz; omega
      have m1 : (((k + 1 : Nat) : Int)) = (k : Int) + 1 := by omega
      by_cases k0 : kd = 0
      · subst k0
        obtain ⟨r, er, ts', HT⟩ : ∃ r er ts', Hid (termF t1 n1 s = (r, er, ts')) := ⟨_, _, _, rfl⟩
        go_wp2_with (first
          | (go_at_call 16; refine (term_at h1 s hs' HT.out).mono ?_; rintro e w2 ⟨rfl, T2, D2, h2, f2'⟩; have f2 : Hid _ := f2'; clear f2'))
        go_roundw
        case rel =>
          refine ⟨k + 1, by omega, by go_num, ?_⟩
          rw [HN.out]
          have e : stepF (t1, n1) ⟨0, s, ok, on, ox, oy⟩ = (ts', n1) := by simp [stepF, HT.out]
          rw [e]
          exact PSt.step f1.out h2 f2.out
        case measure => simp [intOf]; omega
      by_cases k1 : kd = 1
      · subst k1
        obtain ⟨r, er, ns', HT⟩ : ∃ r er ns', Hid (nonF t1 n1 s = (r, er, ns')) := ⟨_, _, _, rfl⟩
        go_wp2_with (first
          | (go_at_call 17; refine (non_at h1 s hs' HT.out).mono ?_; rintro e w2 ⟨rfl, N2, D2, h2, f2'⟩; have f2 : Hid _ := f2'; clear f2'))
        go_roundw
        case rel =>
          refine ⟨k + 1, by omega, by go_num, ?_⟩
          rw [HN.out]
          have e : stepF (t1, n1) ⟨1, s, ok, on, ox, oy⟩ = (t1, ns') := by simp [stepF, HT.out]
          rw [e]
          exact PSt.step f1.out h2 f2.out
        case measure => simp [intOf]; omega
      have q0 : (kd == 0) = false := by simp [k0]
      have q1 : (kd == 1) = false := by simp [k1]
      by_cases k4 : kd = 4
      · subst k4
        by_cases hb : 0 ≤ ox ∧ ox ≤ t1.length ∧ 0 ≤ oy ∧ oy ≤ n1.length
        · obtain ⟨x', rfl⟩ : ∃ m : Nat, ox = m := ⟨ox.toNat, by omega⟩
          obtain ⟨y', rfl⟩ : ∃ m : Nat, oy = m := ⟨oy.toNat, by omega⟩
          have hx' : Hid (x' ≤ t1.length) := by show _ ≤ _; omega
          have hy' : Hid (y' ≤ n1.length) := by show _ ≤ _; omega
          go_wp2_with (first
            | (go_at_call 19; refine (undo_ok h1 hF1.out x' y' hx'.out hy'.out).mono ?_; rintro e w2 ⟨rfl, T2, N2, D2, h2, f2'⟩; have f2 : Hid _ := f2'; clear f2'))
          go_roundw
          case rel =>
            refine ⟨k + 1, by omega, by go_num, ?_⟩
            rw [HN.out]
            have e : stepF (t1, n1) ⟨4, s, ok, on, x', y'⟩ = (t1.take x', n1.take y') := by simp [stepF, hx'.out, hy'.out]
            rw [e]
            exact PSt.step f1.out h2 f2.out
          case measure => simp [intOf]; omega
        · have hb' : Hid (¬ (0 ≤ ox ∧ ox ≤ t1.length ∧ 0 ≤ oy ∧ oy ≤ n1.length)) := hb
          clear hb
          go_wp2_with (first
            | (go_at_call 19; refine (undo_no h1 ox oy hb'.out).mono ?_; rintro e w2 ⟨rfl, b2'⟩; have b2 : Hid _ := b2'; clear b2'))
          go_roundw
          case rel =>
            refine ⟨k + 1, by omega, by go_num, ?_⟩
            rw [HN.out]
            have e : stepF (t1, n1) ⟨4, s, ok, on, ox, oy⟩ = (t1, n1) := by
              unfold stepF
              rw [if_neg (by show ¬ (4 : Int) = 0; decide), if_neg (by show ¬ (4 : Int) = 1; decide), if_neg (fun h => hb'.out h.2)]
            rw [e]
            exact PSt.step f1.out (h1.later b2.out) (BFr.ofBelow b2.out g b T1 N1)
          case measure => simp [intOf]; omega
      · have q4 : (kd == 4) = false := by simp [k4]
        go_wp2
        go_roundw
        case rel =>
          refine ⟨k + 1, by omega, by go_num, ?_⟩
          rw [HN.out]
          have e : stepF (t1, n1) ⟨kd, s, ok, on, ox, oy⟩ = (t1, n1) := by
            unfold stepF
            rw [if_neg k0, if_neg k1, if_neg (fun h => k4 h.1)]
          rw [e]
          exact ⟨T1, N1, D1, h1, f1.out⟩
        case measure => simp [intOf]; omega
    · obtain rfl : k = l.length := by omega
      have h1' := h1
      clear HA HP
      go_wp2
      go_returns
      refine ⟨rfl, ?_⟩
      rw [List.take_length] at h1'
      exact ⟨T1, N1, D1, h1', f1.out⟩
end Go.Proofs.Ytfckmbdcfeljiaa
