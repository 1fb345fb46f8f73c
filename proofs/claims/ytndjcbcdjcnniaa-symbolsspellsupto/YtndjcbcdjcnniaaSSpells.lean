import Derived.Test.YtndjcbcdjcnniaaSSpells0
namespace Go.Proofs.Ytndjcbcdjcnniaa
set_option linter.unusedVariables false
open Go.RowKit

theorem rd_len (f : ByteArray → Option (Int × Int)) (T : List UInt8) (pos : Nat) (acc : List (Int × Int)) : (rd f T pos acc).1.length ≤ acc.length + T.length := by
  match T with
  | [] => rw [rd_nil]; simp
  | c :: r =>
    by_cases h : c = 32
    · subst h
      rw [rd_blank]
      have := rd_len f r (pos + 1) acc
      simp only [List.length_cons]
      omega
    · cases hf : f ⟨(wordU (c :: r)).toArray⟩ with
      | none => rw [rd_none pos acc h hf]; simp
      | some q =>
        rw [rd_some pos acc h hf]
        have := rd_len f ((c :: r).drop ((wordU (c :: r)).length + 1)) (pos + (wordU (c :: r)).length + 1) (acc ++ [q])
        simp only [List.length_append, List.length_cons, List.length_nil, List.length_drop] at this ⊢
        omega
termination_by T.length
decreasing_by
  · simp
  · simp; omega
theorem mem1 (E : Nat → List HE) (κ : Nat) (x : HE) : x ∈ updE E κ x κ := by rw [updE_same]; simp
theorem mem2 {E : Nat → List HE} {κ j : Nat} {x y : HE} (h : x ∈ E j) : x ∈ updE E κ y j := by
  unfold updE
  split
  · simp [h]
  · exact h
set_option maxRecDepth 100000 in
set_option maxHeartbeats 8000000 in
theorem spells_walk (a0 a1 a2 : Option Addr) (c0 c1 c2 N1 N2 N3 : Nat) (ts ns : List ByteArray) (l : List (Int × Int)) (s : ByteArray) (w : World) (n1 : N1 = ts.length) (n2 : N2 = ns.length) (n3 : N3 = l.length) (h' : SIn4 a0 a1 a2 ts ns l w) (hs' : s.size ≤ 1048576) :
    Calls Try.prog 4 #[.slice a0 N1 c0, .slice a1 N2 c1, .slice a2 N3 c2, .string s] w fun e w' => e = .returned (.bool true) ∧ Below w.heap.size w w' := by
  subst n1 n2 n3
  have h : Hid (SIn4 a0 a1 a2 ts ns l w) := h'
  have hs : Hid (s.size ≤ 1048576) := hs'
  obtain ⟨S, ev, HS'⟩ := sps_ex ts ns l
  have HS : Hid (SpS ts ns l S ev) := HS'
  obtain ⟨L, er, at_, HR'⟩ : ∃ L er at_, rd (known ts ns) s.data.toList 0 [] = (L, er, at_) := ⟨_, _, _, rfl⟩
  have HR : Hid (rd (known ts ns) s.data.toList 0 [] = (L, er, at_)) := HR'
  have HLL : Hid (L.length ≤ 140737488355328) := by
    have := rd_len (known ts ns) s.data.toList 0 []
    rw [HR', size_list] at this
    show L.length ≤ _
    simp only [List.length_nil] at this
    omega
  have HZ : Hid (∀ q ∈ l, (nameF ts ns q.1 q.2).1.size ≤ 1048576) := fun q _ => name_le h'.z1 h'.z2 q.1 q.2
  clear h' hs' HS' HR'
  have e1 : (S.toList == S.toList) = true := by simp
  have e2 : (ev == ev) = true := by simp
  have e3 : (er == er) = true := by simp
  have e4 : (at_ == at_) = true := by simp
  have H0 : Hid (HB w.heap.size w (w.alloc hNew) w.heap.size (fun _ => hNil) (fun _ => [])) := hb_new w
  have M0 : Hid (SIn4 a0 a1 a2 ts ns l (w.alloc hNew)) := h.out.later (below_alloc w _)
  go_enter Try.func4, Try.ntmps4
  go_wp2_with (first
    | (go_at_call 9; (with_reducible refine (hb_str H0.out (by decide) a0 c0 ts M0.out.l1 M0.out.len.1 M0.out.r1).mono ?_); rintro e w1 ⟨g1, rfl, V1, x1, zs1, H1', rfl, q1', k1'⟩; have H1 : Hid _ := H1'; have q1 : Hid _ := q1'; have k1 : Hid _ := k1'; have M1 : Hid (SIn4 a0 a1 a2 ts ns l w1) := h.out.later H1'.bel; clear H1' q1' k1')
    | (go_at_call 9; (with_reducible refine (hb_str H1.out (by rw [updE_same]; simp) a1 c1 ns M1.out.l2 M1.out.len.2 M1.out.r2).mono ?_); rintro e w2 ⟨g2, rfl, V2, x2, zs2, H2', rfl, q2', k2'⟩; have H2 : Hid _ := H2'; have q2 : Hid _ := q2'; have k2 : Hid _ := k2'; have M2 : Hid (SIn4 a0 a1 a2 ts ns l w2) := h.out.later H2'.bel; clear H2' q2' k2')
    | (go_at_call 15; (with_reducible refine (hb_sym H2.out (by rw [updE_other _ _ (by decide), updE_other _ _ (by decide)]; decide) a2 c2 l M2.out.l3 M2.out.r3).mono ?_); rintro e w3 ⟨g3, rfl, V3, x3, zs3, H3', rfl, q3', k3'⟩; have H3 : Hid _ := H3'; have q3 : Hid _ := q3'; have k3 : Hid _ := k3'; clear H3' q3' k3')
    | (go_at_call 14; refine (spellG_any (some ⟨x1.g, 0, none⟩) (some ⟨x2.g, 0, none⟩) (some ⟨x3.g, 0, none⟩) (ts.length + 3) (ns.length + 3) (l.length + 3) ts ns l _ M2.out.l1 M2.out.l2 (H3.out.strRow (mem2 (mem2 (mem1 _ _ _))) q1.out k1.out) (H3.out.strRow (mem2 (mem1 _ _ _)) q2.out k2.out) (H3.out.symRow (mem1 _ _ _) q3.out k3.out) HZ.out M2.out.l3).mono ?_; rintro e w4 ⟨he4, b4⟩; obtain rfl := sps_of HS.out he4; have H4 : Hid _ := H3.out.later b4; have M4 : Hid (SIn4 a0 a1 a2 ts ns l w4) := h.out.later H4.out.bel; clear he4 b4)
    | (go_at_call 16; refine (spellR_any a0 a1 a2 c0 c1 c2 ts ns l _ M4.out.l1 M4.out.l2 M4.out.r1 M4.out.r2 M4.out.r3 HZ.out M4.out.l3).mono ?_; rintro e w5 ⟨he5, b5⟩; obtain rfl := sps_of HS.out he5; have H5 : Hid _ := H4.out.later b5; clear he5 b5)
    | (go_at_call 17; refine (readG_any (some ⟨x1.g, 0, none⟩) (some ⟨x2.g, 0, none⟩) (ts.length + 3) (ns.length + 3) ts ns s _ M4.out.l1 M4.out.l2 M4.out.len.1 M4.out.len.2 (H5.out.strRow (mem2 (mem2 (mem1 _ _ _))) q1.out k1.out) (H5.out.strRow (mem2 (mem1 _ _ _)) q2.out k2.out) hs.out L er at_ HR.out).mono ?_; rintro e w6 ⟨xa, xc, rfl, Y6', b6⟩; have Y6 : Hid (SY w6 (.slice xa L.length xc) L) := Y6'; have H6 : Hid _ := H5.out.later b6; have M6 : Hid (SIn4 a0 a1 a2 ts ns l w6) := h.out.later H6.out.bel; clear b6 Y6')
    | (go_at_call 18; refine (readR_any a0 a1 c0 c1 ts ns s _ M6.out.l1 M6.out.l2 M6.out.r1 M6.out.r2 hs.out L er at_ HR.out).mono ?_; rintro e w7 ⟨ya, yc, rfl, Z7', b7⟩; have Z7 : Hid (SY w7 (.slice ya L.length yc) L) := Z7'; have Y7 : Hid (SY w7 (.slice xa L.length xc) L) := SY.later Y6.out b7; have H7 : Hid _ := H6.out.later b7; clear b7 Z7')
    | (go_at_call 11; refine (num_any _ _).mono ?_; rintro e w' ⟨rfl, rfl⟩)
    | (go_at_call 19; refine (samesyms_eq xa ya xc yc L _ HLL.out (SY.row Y7.out) (SY.row Z7.out)).mono ?_; rintro e w8 ⟨rfl, b8⟩; have H8 : Hid _ := H7.out.later b8; clear b8)
    | (go_at_call 12; refine (hintact _ _ _ _ _ H8.out.inv H8.out.st (Nat.le_trans H8.out.n2 (by decide)) (Nat.le_trans H8.out.n4 (by decide))).mono ?_; rintro e w9 ⟨rfl, b9⟩; have B9 : Hid (Below w.heap.size w w9) := H8.out.bel.trans (b9.mono H8.out.sz); clear b9)
    | (go_at_call 13; refine (works_any _).mono ?_; rintro e w10 ⟨rfl, b10⟩; have B10 := B9.out.trans (b10.mono B9.out.size)))
  go_ret
  exact ⟨rfl, B10⟩
end Go.Proofs.Ytndjcbcdjcnniaa
