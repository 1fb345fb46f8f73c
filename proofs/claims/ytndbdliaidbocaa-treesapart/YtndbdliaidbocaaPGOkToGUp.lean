import Derived.Test.YtndbdliaidbocaaPGCheckCToGCheckD
namespace Go.Proofs.Ytndbdliaidbocaa
set_option linter.unusedVariables false
open Go.RowKit
theorem mem_getD {α : Type} {l : List α} {d : α} {j : Nat} (h : j < l.length) : l.getD j d ∈ l := by
 have e : l.getD j d = l[j] := by simp [List.getD, h]
 rw [e]; exact List.getElem_mem h
theorem firstU_all {f : Nat -> Int} : ∀ (c i : Nat), (firstU f c i).1 = 0 -> ∀ j, j < c -> f (i + j) = 0
 | 0, _, _, j, hj => absurd hj (by omega)
 | c + 1, i, h, j, hj => by
  unfold firstU at h
  by_cases hz : f i = 0
  ·rw [if_neg (by simpa using hz)] at h
   match j with
   | 0 => exact hz
   | j + 1 =>
    have := firstU_all c (i + 1) h j (by omega)
    rw [show i + (j + 1) = i + 1 + j by omega]
    exact this
  ·rw [if_pos hz] at h
   exact absurd h hz
theorem wordS_size {s : ByteArray} (h : wordS s = true) : s.size <= 32 := by
 simp only [wordS, Bool.and_eq_true, decide_eq_true_eq] at h
 exact h.1.1.2
theorem quotedS_size {s : ByteArray} (h : quotedS s = true) : s.size <= 32 := by
 simp only [quotedS, Bool.and_eq_true, decide_eq_true_eq] at h
 exact h.1.1.1.2
theorem termS_size {s : ByteArray} (h : termS s = true) : s.size <= 32 := by
 simp only [termS, Bool.or_eq_true] at h
 exact h.elim wordS_size quotedS_size
theorem formsF_each {form : ByteArray -> Bool} : ∀ (ss seen : List ByteArray), (formsF form ss seen).1 = 0 -> ∀ s ∈ ss, form s = true
 | [], _, _, s, hs => by cases hs
 | a :: r, seen, h, s, hs => by
  unfold formsF at h
  by_cases h1 : form a = false
  ·rw [if_pos h1] at h; exact absurd h (by simp)
  ·rw [if_neg h1] at h
   by_cases h2 : inB seen a = true
   ·rw [if_pos h2] at h; exact absurd h (by simp)
   ·rw [if_neg h2] at h
    rcases List.mem_cons.1 hs with rfl | hs
    ·simpa using h1
    ·exact formsF_each r _ h s hs
theorem checkF_each {ts ns : List ByteArray} (h : (checkF ts ns).1 = 0) : (∀ s ∈ ts, s.size <= 32) /\ ∀ s ∈ ns, s.size <= 32 := by
 unfold checkF at h
 split at h
 ·exact absurd h (by simp)
 ·split at h
  ·exact absurd h (by simp)
  ·by_cases h1 : (formsF termS ts []).1 = 0
   ·rw [if_neg (by simpa using h1)] at h
    by_cases h2 : (formsF wordS ns (formsF termS ts []).2.2).1 = 0
    ·exact ⟨fun s hs => termS_size (formsF_each _ _ h1 s hs), fun s hs => wordS_size (formsF_each _ _ h2 s hs)⟩
    ·rw [if_pos h2] at h; exact absurd h h2
   ·rw [if_pos h1] at h; exact absurd h h1
structure OkC (g : GV) : Prop where
 tl : 1 <= g.ts.length /\ g.ts.length <= 64
 nl : 1 <= g.ns.length /\ g.ns.length <= 64
 ts : ∀ s ∈ g.ts, s.size <= 32
 ns : ∀ s ∈ g.ns, s.size <= 32
 st : 0 <= g.start /\ g.start < g.ns.length
 pl : 1 <= g.ps.length /\ g.ps.length <= 256
 ps : ∀ i, i < g.ps.length -> prodU g i = 0
 ll : g.ls.length <= 32
 ls : ∀ i, i < g.ls.length -> levelU g i = 0
theorem OkC.of {g : GV} (h : (checkG g (checkF g.ts g.ns)).1 = 0) : OkC g := by
 unfold checkG at h
 by_cases h1 : g.ts.length = 0 ∨ 64 < g.ts.length
 ·rw [if_pos h1] at h; exact absurd h (by simp)
 rw [if_neg h1] at h
 by_cases h2 : g.ns.length = 0 ∨ 64 < g.ns.length
 ·rw [if_pos h2] at h; exact absurd h (by simp)
 rw [if_neg h2] at h
 by_cases h3 : (checkF g.ts g.ns).1 = 0
 case neg => rw [if_pos h3] at h; exact absurd h h3
 rw [if_neg (by simpa using h3)] at h
 by_cases h4 : inN g g.start = false
 ·rw [if_pos h4] at h; exact absurd h (by simp)
 rw [if_neg h4] at h
 by_cases h5 : g.ps.length = 0 ∨ 256 < g.ps.length
 ·rw [if_pos h5] at h; exact absurd h (by simp)
 rw [if_neg h5] at h
 by_cases h6 : (firstU (prodU g) g.ps.length 0).1 = 0
 case neg => rw [if_pos h6] at h; exact absurd h h6
 rw [if_neg (by simpa using h6)] at h
 by_cases h7 : 32 < g.ls.length
 ·rw [if_pos h7] at h; exact absurd h (by simp)
 rw [if_neg h7] at h
 have hn := checkF_each h3
 refine ⟨by omega, by omega, hn.1, hn.2, ?_, by omega, fun i hi => ?_, by omega, fun i hi => ?_⟩
 ·simpa [inN] using h4
 ·simpa using firstU_all _ _ h6 i hi
 ·simpa using firstU_all _ _ h i hi
theorem OkC.left {g : GV} (h : OkC g) (i : Nat) (hi : i < g.ps.length) : 0 <= (g.ps.getD i .none).left /\ (g.ps.getD i .none).left < g.ns.length := by
 have := h.ps i hi
 unfold prodU at this
 by_cases h1 : inN g (g.ps.getD i .none).left = false
 ·rw [if_pos h1] at this; exact absurd this (by omega)
 ·simpa [inN] using h1
theorem OkC.right {g : GV} (h : OkC g) (i : Nat) (hi : i < g.ps.length) : (g.ps.getD i .none).right.length <= 16 := by
 have := h.ps i hi
 unfold prodU at this
 by_cases h1 : inN g (g.ps.getD i .none).left = false
 ·rw [if_pos h1] at this; exact absurd this (by omega)
 rw [if_neg h1] at this
 by_cases h2 : 16 < (g.ps.getD i .none).right.length
 ·rw [if_pos h2] at this; exact absurd this (by omega)
 ·omega
theorem OkC.inG {g : GV} (h : OkC g) (i : Nat) (hi : i < g.ps.length) : ∀ s ∈ (g.ps.getD i .none).right, inG g s.1 s.2 = true := by
 have := h.ps i hi
 unfold prodU at this
 by_cases h1 : inN g (g.ps.getD i .none).left = false
 ·rw [if_pos h1] at this; exact absurd this (by omega)
 rw [if_neg h1] at this
 by_cases h2 : 16 < (g.ps.getD i .none).right.length
 ·rw [if_pos h2] at this; exact absurd this (by omega)
 rw [if_neg h2] at this
 by_cases h3 : ((g.ps.getD i .none).right.any fun s => !Go.Proofs.Ytndbdliaidbocaa.inG g s.1 s.2) = true
 ·rw [if_pos h3] at this; exact absurd this (by omega)
 ·intro s hs
  have h4 := Bool.not_eq_true _ ▸ h3
  rw [List.any_eq_false] at h4
  simpa using h4 s hs
theorem OkC.prec {g : GV} (h : OkC g) (i : Nat) (hi : i < g.ps.length) : -1 <= (g.ps.getD i .none).prec /\ (g.ps.getD i .none).prec < g.ts.length := by
 have := h.ps i hi
 unfold prodU at this
 split at this
 ·exact absurd this (by omega)
 split at this
 ·exact absurd this (by omega)
 split at this
 ·exact absurd this (by omega)
 split at this
 ·exact absurd this (by omega)
 by_cases h5 : (g.ps.getD i .none).prec = -1
 ·rw [h5]; omega
 ·by_cases h6 : inT g (g.ps.getD i .none).prec = false
  ·rw [if_pos ⟨h5, h6⟩] at this; exact absurd this (by omega)
  ·have : 0 <= (g.ps.getD i .none).prec /\ (g.ps.getD i .none).prec < g.ts.length := by simpa [inT] using h6
   omega
theorem OkC.level {g : GV} (h : OkC g) (i : Nat) (hi : i < g.ls.length) : (1 <= (g.ls.getD i .none).assoc /\ (g.ls.getD i .none).assoc <= 3) /\ (∀ n ∈ (g.ls.getD i .none).terms, 0 <= n /\ n < g.ts.length) /\ risesU (g.ls.getD i .none).terms = true := by
 have := h.ls i hi
 unfold levelU at this
 by_cases h1 : (g.ls.getD i .none).assoc < 1 ∨ 3 < (g.ls.getD i .none).assoc ∨ (g.ls.getD i .none).terms.length = 0
 ·rw [if_pos h1] at this; exact absurd this (by omega)
 rw [if_neg h1] at this
 by_cases h2 : ((g.ls.getD i .none).terms.any fun n => !inT g n) = true
 ·rw [if_pos h2] at this; exact absurd this (by omega)
 rw [if_neg h2] at this
 by_cases h3 : risesU (g.ls.getD i .none).terms = false
 ·rw [if_pos h3] at this; exact absurd this (by omega)
 refine ⟨by omega, fun n hn => ?_, by simpa using h3⟩
 have h4 := Bool.not_eq_true _ ▸ h2
 rw [List.any_eq_false] at h4
 simpa [inT] using h4 n hn
theorem rises_le {l : List Int} (h : risesU l = true) : ∀ j, j < l.length -> l.getD 0 0 + j <= l.getD j 0
 | 0, _ => by simp
 | j + 1, hj => by
  have ih := rises_le h j (by omega)
  unfold risesU at h
  rw [List.all_eq_true] at h
  have := h j (by simp; omega)
  simp only [decide_eq_true_eq] at this
  omega
theorem rises_len {l : List Int} {n : Nat} (h : risesU l = true) (hb : ∀ x ∈ l, 0 <= x /\ x < n) : l.length <= n := by
 rcases Nat.eq_zero_or_pos l.length with e | e
 ·omega
 ·have h1 := rises_le h (l.length - 1) (by omega)
  have m0 : l.getD 0 0 ∈ l := mem_getD e
  have m1 : l.getD (l.length - 1) 0 ∈ l := mem_getD (by omega)
  have := hb _ m0
  have := hb _ m1
  omega
theorem OkC.terms {g : GV} (h : OkC g) (i : Nat) (hi : i < g.ls.length) : (g.ls.getD i .none).terms.length <= 64 := by
 obtain ⟨_, h1, h2⟩ := h.level i hi
 exact Nat.le_trans (rises_len h2 h1) h.tl.2
theorem getD_mem {α : Type} {l : List α} {d x : α} (h : x ∈ l) : ∃ i, i < l.length /\ x = l.getD i d := by
 obtain ⟨i, hi, rfl⟩ := List.getElem_of_mem h
 exact ⟨i, hi, by simp [List.getD, hi]⟩
theorem GAt.ok {n : Nat} {w : World} {g : GV} (h : GAt n w g) (ok : OkC g) : GAt 1048576 w g := by
 have h1 := ok.tl
 have h2 := ok.nl
 have h3 := ok.pl
 have h4 := ok.ll
 refine ⟨h.t, h.n_, h.p, h.l, h.tz, h.nz, by omega, by omega, by omega, by omega, fun p hp => ?_, fun p hp => ?_⟩
 ·obtain ⟨i, hi, rfl⟩ := getD_mem (d := PV.none) hp
  have := ok.right i hi
  omega
 ·obtain ⟨i, hi, rfl⟩ := getD_mem (d := LV.none) hp
  have := ok.terms i hi
  omega
theorem formsF_to {form : ByteArray -> Bool} : ∀ (ss seen : List ByteArray), (formsF form ss seen).1 = 0 -> (∀ s ∈ ss, form s = true) /\ (∀ s ∈ ss, s ∉ seen) /\ ss.Nodup /\ (formsF form ss seen).2.2 = seen ++ ss
 | [], seen, _ => by simp [formsF]
 | a :: r, seen, h => by
  unfold formsF at h ⊢
  by_cases h1 : form a = false
  ·rw [if_pos h1] at h; exact absurd h (by simp)
  rw [if_neg h1] at h ⊢
  by_cases h2 : inB seen a = true
  ·rw [if_pos h2] at h; exact absurd h (by simp)
  rw [if_neg h2] at h ⊢
  obtain ⟨q1, q2, q3, q4⟩ := formsF_to r (seen ++ [a]) h
  have hn : a ∉ seen := fun e => h2 (by simp [inB, e])
  refine ⟨fun s hs => ?_, fun s hs => ?_, List.nodup_cons.2 ⟨fun e => q2 a e (by simp), q3⟩, by rw [q4]; simp⟩
  ·rcases List.mem_cons.1 hs with rfl | hs
   ·simpa using h1
   ·exact q1 s hs
  ·rcases List.mem_cons.1 hs with rfl | hs
   ·exact hn
   ·exact fun e => q2 s hs (by simp [e])
theorem checkF_to {ts ns : List ByteArray} (h : (checkF ts ns).1 = 0) : (∀ s ∈ ts, termS s = true) /\ (∀ s ∈ ns, wordS s = true) /\ ts.Nodup /\ ns.Nodup /\ ∀ s ∈ ns, s ∉ ts := by
 unfold checkF at h
 by_cases h1 : 64 < ts.length
 ·rw [if_pos h1] at h; exact absurd h (by simp)
 rw [if_neg h1] at h
 by_cases h2 : 64 < ns.length
 ·rw [if_pos h2] at h; exact absurd h (by simp)
 rw [if_neg h2] at h
 by_cases h3 : (formsF termS ts []).1 = 0
 case neg => rw [if_pos h3] at h; exact absurd h h3
 rw [if_neg (by simpa using h3)] at h
 by_cases h4 : (formsF wordS ns (formsF termS ts []).2.2).1 = 0
 case neg => rw [if_pos h4] at h; exact absurd h h4
 obtain ⟨a1, _, a3, a4⟩ := formsF_to _ _ h3
 obtain ⟨b1, b2, b3, _⟩ := formsF_to _ _ h4
 rw [a4] at b2
 exact ⟨a1, b1, a3, b3, fun s hs => by simpa using b2 s hs⟩
theorem checkF_ok {g : GV} {at_ : Int} (h : checkG g (checkF g.ts g.ns) = (0, at_)) : (checkF g.ts g.ns).1 = 0 := by
 unfold checkG at h
 by_cases h1 : g.ts.length = 0 ∨ 64 < g.ts.length
 ·rw [if_pos h1] at h; exact absurd (congrArg (·.1) h) (by simp)
 rw [if_neg h1] at h
 by_cases h2 : g.ns.length = 0 ∨ 64 < g.ns.length
 ·rw [if_pos h2] at h; exact absurd (congrArg (·.1) h) (by simp)
 rw [if_neg h2] at h
 by_cases h3 : (checkF g.ts g.ns).1 = 0
 ·exact h3
 ·rw [if_pos h3] at h; exact congrArg (·.1) h
theorem prod_twice {g : GV} (h : OkC g) (i : Nat) (hi : i < g.ps.length) : ((g.ps.take i).any fun q => q.left == (g.ps.getD i .none).left && q.right == (g.ps.getD i .none).right) = false := by
 have := h.ps i hi
 unfold prodU at this
 cases e : ((g.ps.take i).any fun q => q.left == (g.ps.getD i .none).left && q.right == (g.ps.getD i .none).right) with
 | false => rfl
 | true =>
  rw [e] at this
  split at this
  ·cases this
  ·split at this
   ·cases this
   ·split at this
    ·cases this
    ·rw [if_pos rfl] at this; cases this
end Go.Proofs.Ytndbdliaidbocaa
