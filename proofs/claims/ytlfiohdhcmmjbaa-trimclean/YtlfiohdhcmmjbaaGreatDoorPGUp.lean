import Derived.Test.YtlfiohdhcmmjbaaGreatDoorPGOkToSCheckR
namespace Go.Proofs.YtlfiohdhcmmjbaaGreatDoor
set_option linter.unusedVariables false
set_option maxRecDepth 100000
set_option maxHeartbeats 16000000
open Go.RowKit
theorem checkG_of {g : GV} {nm : Int × Int} (tl : 1 <= g.ts.length /\ g.ts.length <= 64) (nl : 1 <= g.ns.length /\ g.ns.length <= 64) (hn : nm.1 = 0) (st : inN g g.start = true) (pl : 1 <= g.ps.length /\ g.ps.length <= 256) (ps : ∀ i, i < g.ps.length -> prodU g i = 0) (ll : g.ls.length <= 32) (ls : ∀ i, i < g.ls.length -> levelU g i = 0) : checkG g nm = (0, 0) := by
 have hp := firstU_none ps
 have hl := firstU_none ls
 unfold checkG
 rw [if_neg (by omega), if_neg (by omega), if_neg (by simpa using hn), if_neg (by simp [st]), if_neg (by omega), if_neg (by rw [hp]; simp), if_neg (by omega), hl]
theorem formsF_of {form : ByteArray -> Bool} : ∀ (ss seen : List ByteArray), (∀ s ∈ ss, form s = true) -> (∀ s ∈ ss, s ∉ seen) -> ss.Nodup -> (formsF form ss seen).1 = 0 /\ (formsF form ss seen).2.2 = seen ++ ss
 | [], seen, _, _, _ => by simp [formsF]
 | a :: r, seen, h1, h2, h3 => by
  obtain ⟨h3a, h3b⟩ := List.nodup_cons.1 h3
  have hi : inB seen a = false := by
   rw [Bool.eq_false_iff]
   intro e
   simp [inB] at e
   exact h2 a (by simp) e
  unfold formsF
  rw [if_neg (by simp [h1 a (by simp)]), if_neg (by simp [hi])]
  have := formsF_of r (seen ++ [a]) (fun s hs => h1 s (by simp [hs])) (fun s hs hm => by
   rcases List.mem_append.1 hm with hm | hm
   ·exact h2 s (by simp [hs]) hm
   ·rw [List.mem_singleton.1 hm] at hs; exact h3a hs) h3b
  simpa using this
theorem formsF_to {form : ByteArray -> Bool} : ∀ (ss seen : List ByteArray), (formsF form ss seen).1 = 0 -> (∀ s ∈ ss, form s = true) /\ (∀ s ∈ ss, s ∉ seen) /\ ss.Nodup /\ (formsF form ss seen).2.2 = seen ++ ss
 | [], seen, _ => by simp [formsF]
 | a :: r, seen, h => by
  unfold formsF at h ⊢
  by_cases h1 : form a = false
  ·rw [if_pos h1] at h; exact absurd h (by simp)
  rw [if_neg h1] at h ⊢
  by_cases h2 : inB seen a = true
  ·rw [if_pos h2] at h; exact absurd h (by simp)
  rw [if_neg h2] at h ⊢
  obtain ⟨q1, q2, q3, q4⟩ := formsF_to r (seen ++ [a]) h
  have hn : a ∉ seen := fun e => h2 (by simp [inB, e])
  refine ⟨fun s hs => ?_, fun s hs => ?_, List.nodup_cons.2 ⟨fun e => q2 a e (by simp), q3⟩, by rw [q4]; simp⟩
  ·rcases List.mem_cons.1 hs with rfl | hs
   ·simpa using h1
   ·exact q1 s hs
  ·rcases List.mem_cons.1 hs with rfl | hs
   ·exact hn
   ·exact fun e => q2 s hs (by simp [e])
theorem checkF_to {ts ns : List ByteArray} (h : (checkF ts ns).1 = 0) : (∀ s ∈ ts, termS s = true) /\ (∀ s ∈ ns, wordS s = true) /\ ts.Nodup /\ ns.Nodup /\ ∀ s ∈ ns, s ∉ ts := by
 unfold checkF at h
 by_cases h1 : 64 < ts.length
 ·rw [if_pos h1] at h; exact absurd h (by simp)
 rw [if_neg h1] at h
 by_cases h2 : 64 < ns.length
 ·rw [if_pos h2] at h; exact absurd h (by simp)
 rw [if_neg h2] at h
 by_cases h3 : (formsF termS ts []).1 = 0
 case neg => rw [if_pos h3] at h; exact absurd h h3
 rw [if_neg (by simpa using h3)] at h
 by_cases h4 : (formsF wordS ns (formsF termS ts []).2.2).1 = 0
 case neg => rw [if_pos h4] at h; exact absurd h h4
 obtain ⟨a1, _, a3, a4⟩ := formsF_to _ _ h3
 obtain ⟨b1, b2, b3, _⟩ := formsF_to _ _ h4
 rw [a4] at b2
 exact ⟨a1, b1, a3, b3, fun s hs => by simpa using b2 s hs⟩
theorem checkF_of {ts ns : List ByteArray} (l1 : ts.length <= 64) (l2 : ns.length <= 64) (h1 : ∀ s ∈ ts, termS s = true) (h2 : ∀ s ∈ ns, wordS s = true) (h3 : ts.Nodup) (h4 : ns.Nodup) (h5 : ∀ s ∈ ns, s ∉ ts) : (checkF ts ns).1 = 0 := by
 have q1 := formsF_of ts [] h1 (fun _ _ => by simp) h3
 have q2 := formsF_of ns (formsF termS ts []).2.2 h2 (fun s hs => by rw [q1.2]; simpa using h5 s hs) h4
 unfold checkF
 rw [if_neg (by omega), if_neg (by omega), if_neg (by simpa using q1.1), if_neg (by simpa using q2.1)]
theorem checkF_ok {g : GV} {at_ : Int} (h : checkG g (checkF g.ts g.ns) = (0, at_)) : (checkF g.ts g.ns).1 = 0 := by
 unfold checkG at h
 by_cases h1 : g.ts.length = 0 ∨ 64 < g.ts.length
 ·rw [if_pos h1] at h; exact absurd (congrArg (·.1) h) (by simp)
 rw [if_neg h1] at h
 by_cases h2 : g.ns.length = 0 ∨ 64 < g.ns.length
 ·rw [if_pos h2] at h; exact absurd (congrArg (·.1) h) (by simp)
 rw [if_neg h2] at h
 by_cases h3 : (checkF g.ts g.ns).1 = 0
 ·exact h3
 ·rw [if_pos h3] at h; exact congrArg (·.1) h
theorem prod_twice {g : GV} (h : OkC g) (i : Nat) (hi : i < g.ps.length) : ((g.ps.take i).any fun q => q.left == (g.ps.getD i .none).left && q.right == (g.ps.getD i .none).right) = false := by
 have := h.ps i hi
 unfold prodU at this
 cases e : ((g.ps.take i).any fun q => q.left == (g.ps.getD i .none).left && q.right == (g.ps.getD i .none).right) with
 | false => rfl
 | true =>
  rw [e] at this
  split at this
  ·cases this
  ·split at this
   ·cases this
   ·split at this
    ·cases this
    ·rw [if_pos rfl] at this; cases this
theorem level_named {g : GV} (h : OkC g) (i : Nat) (hi : i < g.ls.length) : ∀ n ∈ (g.ls.getD i .none).terms, n ∉ namedU g.ls i := by
 have := h.ls i hi
 unfold levelU at this
 intro n hn hm
 have e : ((g.ls.getD i .none).terms.any fun n => (namedU g.ls i).contains n) = true := by
  rw [List.any_eq_true]
  exact ⟨n, hn, by simpa using hm⟩
 rw [e] at this
 split at this
 ·cases this
 ·split at this
  ·cases this
  ·split at this
   ·cases this
   ·rw [if_pos rfl] at this; cases this
end Go.Proofs.YtlfiohdhcmmjbaaGreatDoor
