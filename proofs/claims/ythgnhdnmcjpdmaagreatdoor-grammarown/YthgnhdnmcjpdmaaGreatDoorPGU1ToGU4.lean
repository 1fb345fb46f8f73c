import Derived.Test.YthgnhdnmcjpdmaaGreatDoorPGT14ToGT18
import Derived.Test.YthgnhdnmcjpdmaaGreatDoorPGBGToGB1
import Derived.Test.YthgnhdnmcjpdmaaGreatDoorPGSame3ToGSame6
import Derived.Test.YthgnhdnmcjpdmaaGreatDoorPGSmallToGAlive2
namespace Go.Proofs.YthgnhdnmcjpdmaaGreatDoor
set_option linter.unusedVariables false
set_option maxRecDepth 100000
set_option maxHeartbeats 16000000
open Go.RowKit
theorem checkG_of {g : GV} {nm : Int × Int} (tl : 1 <= g.ts.length /\ g.ts.length <= 64) (nl : 1 <= g.ns.length /\ g.ns.length <= 64) (hn : nm.1 = 0) (st : inN g g.start = true) (pl : 1 <= g.ps.length /\ g.ps.length <= 256) (ps : ∀ i, i < g.ps.length -> prodU g i = 0) (ll : g.ls.length <= 32) (ls : ∀ i, i < g.ls.length -> levelU g i = 0) : checkG g nm = (0, 0) := by
 have hp := firstU_none ps
 have hl := firstU_none ls
 unfold checkG
 rw [if_neg (by omega), if_neg (by omega), if_neg (by simpa using hn), if_neg (by simp [st]), if_neg (by omega), if_neg (by rw [hp]; simp), if_neg (by omega), hl]
theorem check_rev (g : GV) (nm : Int × Int) : checkG g.rev nm = checkG g nm := by
 have hg : ∀ i, g.rev.ps.getD i .none = (g.ps.getD i .none).rev := fun i => by
  simp only [GV.rev, List.getD, List.getElem?_map]
  cases g.ps[i]? <;> rfl
 have e1 : prodU g.rev = prodU g := by
  funext i
  have ha : ((g.rev.ps.take i).any fun q => q.left == (g.ps.getD i .none).rev.left && q.right == (g.ps.getD i .none).rev.right) = ((g.ps.take i).any fun q => q.left == (g.ps.getD i .none).left && q.right == (g.ps.getD i .none).right) := by
   show (((g.ps.map PV.rev).take i).any _) = _
   rw [<- List.map_take, List.any_map]
   congr 1
   funext q
   simp only [Function.comp, PV.rev]
   congr 1
   rw [Bool.eq_iff_iff]
   simp
  have hb : ((g.ps.getD i .none).rev.right.any fun s => !inG g.rev s.1 s.2) = ((g.ps.getD i .none).right.any fun s => !inG g s.1 s.2) := by
   show ((g.ps.getD i .none).right.reverse.any fun s => !inG g.rev s.1 s.2) = _
   rw [List.any_reverse]; rfl
  have hc : (g.ps.getD i .none).rev.right.length = (g.ps.getD i .none).right.length := List.length_reverse
  unfold prodU
  rw [hg, ha, hb, hc]
  rfl
 unfold checkG
 rw [e1]
 simp only [GV.rev, List.length_map]
 rfl
theorem formsF_of {form : ByteArray -> Bool} : ∀ (ss seen : List ByteArray), (∀ s ∈ ss, form s = true) -> (∀ s ∈ ss, s ∉ seen) -> ss.Nodup -> (formsF form ss seen).1 = 0 /\ (formsF form ss seen).2.2 = seen ++ ss
 | [], seen, _, _, _ => by simp [formsF]
 | a :: r, seen, h1, h2, h3 => by
  obtain ⟨h3a, h3b⟩ := List.nodup_cons.1 h3
  have hi : inB seen a = false := by
   rw [Bool.eq_false_iff]
   intro e
   simp [inB] at e
   exact h2 a (by simp) e
  unfold formsF
  rw [if_neg (by simp [h1 a (by simp)]), if_neg (by simp [hi])]
  have := formsF_of r (seen ++ [a]) (fun s hs => h1 s (by simp [hs])) (fun s hs hm => by
   rcases List.mem_append.1 hm with hm | hm
   ·exact h2 s (by simp [hs]) hm
   ·rw [List.mem_singleton.1 hm] at hs; exact h3a hs) h3b
  simpa using this
theorem formsF_to {form : ByteArray -> Bool} : ∀ (ss seen : List ByteArray), (formsF form ss seen).1 = 0 -> (∀ s ∈ ss, form s = true) /\ (∀ s ∈ ss, s ∉ seen) /\ ss.Nodup /\ (formsF form ss seen).2.2 = seen ++ ss
 | [], seen, _ => by simp [formsF]
 | a :: r, seen, h => by
  unfold formsF at h ⊢
  by_cases h1 : form a = false
  ·rw [if_pos h1] at h; exact absurd h (by simp)
  rw [if_neg h1] at h ⊢
  by_cases h2 : inB seen a = true
  ·rw [if_pos h2] at h; exact absurd h (by simp)
  rw [if_neg h2] at h ⊢
  obtain ⟨q1, q2, q3, q4⟩ := formsF_to r (seen ++ [a]) h
  have hn : a ∉ seen := fun e => h2 (by simp [inB, e])
  refine ⟨fun s hs => ?_, fun s hs => ?_, List.nodup_cons.2 ⟨fun e => q2 a e (by simp), q3⟩, by rw [q4]; simp⟩
  ·rcases List.mem_cons.1 hs with rfl | hs
   ·simpa using h1
   ·exact q1 s hs
  ·rcases List.mem_cons.1 hs with rfl | hs
   ·exact hn
   ·exact fun e => q2 s hs (by simp [e])
theorem checkF_to {ts ns : List ByteArray} (h : (checkF ts ns).1 = 0) : (∀ s ∈ ts, termS s = true) /\ (∀ s ∈ ns, wordS s = true) /\ ts.Nodup /\ ns.Nodup /\ ∀ s ∈ ns, s ∉ ts := by
 unfold checkF at h
 by_cases h1 : 64 < ts.length
 ·rw [if_pos h1] at h; exact absurd h (by simp)
 rw [if_neg h1] at h
 by_cases h2 : 64 < ns.length
 ·rw [if_pos h2] at h; exact absurd h (by simp)
 rw [if_neg h2] at h
 by_cases h3 : (formsF termS ts []).1 = 0
 case neg => rw [if_pos h3] at h; exact absurd h h3
 rw [if_neg (by simpa using h3)] at h
 by_cases h4 : (formsF wordS ns (formsF termS ts []).2.2).1 = 0
 case neg => rw [if_pos h4] at h; exact absurd h h4
 obtain ⟨a1, _, a3, a4⟩ := formsF_to _ _ h3
 obtain ⟨b1, b2, b3, _⟩ := formsF_to _ _ h4
 rw [a4] at b2
 exact ⟨a1, b1, a3, b3, fun s hs => by simpa using b2 s hs⟩
theorem checkF_of {ts ns : List ByteArray} (l1 : ts.length <= 64) (l2 : ns.length <= 64) (h1 : ∀ s ∈ ts, termS s = true) (h2 : ∀ s ∈ ns, wordS s = true) (h3 : ts.Nodup) (h4 : ns.Nodup) (h5 : ∀ s ∈ ns, s ∉ ts) : (checkF ts ns).1 = 0 := by
 have q1 := formsF_of ts [] h1 (fun _ _ => by simp) h3
 have q2 := formsF_of ns (formsF termS ts []).2.2 h2 (fun s hs => by rw [q1.2]; simpa using h5 s hs) h4
 unfold checkF
 rw [if_neg (by omega), if_neg (by omega), if_neg (by simpa using q1.1), if_neg (by simpa using q2.1)]
theorem IsPerm.rng {l : List Int} (h : IsPerm l) {a : Int} (h0 : 0 <= a) (h1 : a < l.length) : 0 <= l.getD a.toNat 0 /\ l.getD a.toNat 0 < l.length := h.lo a.toNat (by omega)
theorem IsPerm.inj {l : List Int} (h : IsPerm l) {a b : Int} (h0 : 0 <= a) (h1 : a < l.length) (h2 : 0 <= b) (h3 : b < l.length) (e : l.getD a.toNat 0 = l.getD b.toNat 0) : a = b := by
 by_cases q : a.toNat = b.toNat
 ·omega
 ·rcases Nat.lt_or_gt_of_ne q with q | q
  ·exact absurd e (h.one b.toNat a.toNat (by omega) q)
  ·exact absurd e.symm (h.one a.toNat b.toNat (by omega) q)
theorem moveU_mem {names : List ByteArray} {nums : List Int} (h : IsPerm nums) (hl : names.length = nums.length) (s : ByteArray) (hs : s ∈ moveU names names nums nums.length) : s ∈ names := by
 obtain ⟨k, hk, rfl⟩ := List.getElem_of_mem hs
 rw [moveU_len] at hk
 obtain ⟨i, hi, e⟩ := h.all k (by omega)
 have := moveU_get (names := names) h names hl nums.length i (Nat.le_refl _) hi
 rw [e] at this
 have e2 := (List.getElem?_eq_some_iff.1 this).2
 rw [e2]
 simp [List.getD, show i < names.length by omega]
theorem moveU_nodup {names : List ByteArray} {nums : List Int} (h : IsPerm nums) (hl : names.length = nums.length) (hn : names.Nodup) : (moveU names names nums nums.length).Nodup := by
 rw [List.nodup_iff_pairwise_ne, List.pairwise_iff_getElem] at hn ⊢
 intro p q hp hq hpq e
 rw [moveU_len] at hp hq
 obtain ⟨i, hi, ei⟩ := h.all p (by omega)
 obtain ⟨j, hj, ej⟩ := h.all q (by omega)
 have a1 := moveU_get (names := names) h names hl nums.length i (Nat.le_refl _) hi
 have a2 := moveU_get (names := names) h names hl nums.length j (Nat.le_refl _) hj
 rw [ei] at a1
 rw [ej] at a2
 have b1 := (List.getElem?_eq_some_iff.1 a1).2
 have b2 := (List.getElem?_eq_some_iff.1 a2).2
 rw [b1, b2] at e
 have hij : i ≠ j := fun e => by subst e; omega
 simp [List.getD, show i < names.length by omega, show j < names.length by omega] at e
 rcases Nat.lt_or_gt_of_ne hij with c | c
 ·exact hn i j (by omega) (by omega) c e
 ·exact hn j i (by omega) (by omega) c e.symm
theorem checkF_ok {g : GV} {at_ : Int} (h : checkG g (checkF g.ts g.ns) = (0, at_)) : (checkF g.ts g.ns).1 = 0 := by
 unfold checkG at h
 by_cases h1 : g.ts.length = 0 ∨ 64 < g.ts.length
 ·rw [if_pos h1] at h; exact absurd (congrArg (·.1) h) (by simp)
 rw [if_neg h1] at h
 by_cases h2 : g.ns.length = 0 ∨ 64 < g.ns.length
 ·rw [if_pos h2] at h; exact absurd (congrArg (·.1) h) (by simp)
 rw [if_neg h2] at h
 by_cases h3 : (checkF g.ts g.ns).1 = 0
 ·exact h3
 ·rw [if_pos h3] at h; exact congrArg (·.1) h
theorem ren_p (g : GV) (ts ns : List Int) (i : Nat) (hi : i < g.ps.length) : (g.ren ts ns).ps.getD i .none = (g.ps.getD i .none).ren ts ns := by simp [GV.ren, List.getD, hi]
theorem ren_l (g : GV) (ts ns : List Int) (i : Nat) (hi : i < g.ls.length) : (g.ren ts ns).ls.getD i .none = (g.ls.getD i .none).ren ts := by simp [GV.ren, List.getD, hi]
theorem prod_twice {g : GV} (h : OkC g) (i : Nat) (hi : i < g.ps.length) : ((g.ps.take i).any fun q => q.left == (g.ps.getD i .none).left && q.right == (g.ps.getD i .none).right) = false := by
 have := h.ps i hi
 unfold prodU at this
 cases e : ((g.ps.take i).any fun q => q.left == (g.ps.getD i .none).left && q.right == (g.ps.getD i .none).right) with
 | false => rfl
 | true =>
  rw [e] at this
  split at this
  ·cases this
  ·split at this
   ·cases this
   ·split at this
    ·cases this
    ·rw [if_pos rfl] at this; cases this
theorem level_named {g : GV} (h : OkC g) (i : Nat) (hi : i < g.ls.length) : ∀ n ∈ (g.ls.getD i .none).terms, n ∉ namedU g.ls i := by
 have := h.ls i hi
 unfold levelU at this
 intro n hn hm
 have e : ((g.ls.getD i .none).terms.any fun n => (namedU g.ls i).contains n) = true := by
  rw [List.any_eq_true]
  exact ⟨n, hn, by simpa using hm⟩
 rw [e] at this
 split at this
 ·cases this
 ·split at this
  ·cases this
  ·split at this
   ·cases this
   ·rw [if_pos rfl] at this; cases this
theorem renS_inj {ts ns : List Int} (ht : IsPerm ts) (hn : IsPerm ns) {s u : Int × Int} (h1 : 0 <= s.2 /\ (s.1 = 1 -> s.2 < ts.length) /\ (s.1 ≠ 1 -> s.2 < ns.length)) (h2 : 0 <= u.2 /\ (u.1 = 1 -> u.2 < ts.length) /\ (u.1 ≠ 1 -> u.2 < ns.length)) (e : renS ts ns s = renS ts ns u) : s = u := by
 unfold renS at e
 by_cases a : s.1 = 1
 ·rw [if_pos a] at e
  by_cases b : u.1 = 1
  ·rw [if_pos b] at e
   have e2 := congrArg (·.2) e
   exact Prod.ext (by omega) (ht.inj h1.1 (h1.2.1 a) h2.1 (h2.2.1 b) e2)
  ·rw [if_neg b] at e
   have := congrArg (·.1) e
   simp at this
   omega
 ·rw [if_neg a] at e
  by_cases b : u.1 = 1
  ·rw [if_pos b] at e
   have := congrArg (·.1) e
   simp at this
   omega
  ·rw [if_neg b] at e
   have e1 := congrArg (·.1) e
   have e2 := congrArg (·.2) e
   exact Prod.ext e1 (hn.inj h1.1 (h1.2.2 a) h2.1 (h2.2.2 b) e2)
theorem map_inj {α β : Type} {f : α -> β} {P : α -> Prop} (hf : ∀ x y, P x -> P y -> f x = f y -> x = y) : ∀ (l m : List α), (∀ x ∈ l, P x) -> (∀ x ∈ m, P x) -> l.map f = m.map f -> l = m
 | [], [], _, _, _ => rfl
 | [], _ :: _, _, _, h => by simp at h
 | _ :: _, [], _, _, h => by simp at h
 | a :: l, b :: m, h1, h2, h => by
  simp only [List.map_cons, List.cons.injEq] at h
  rw [hf a b (h1 a (by simp)) (h2 b (by simp)) h.1, map_inj hf l m (fun x hx => h1 x (by simp [hx])) (fun x hx => h2 x (by simp [hx])) h.2]
theorem nodup_ren {l tl : List Int} (h : IsPerm l) (hr : risesU tl = true) (hb : ∀ x ∈ tl, 0 <= x /\ x < l.length) : (tl.map fun x => l.getD x.toNat 0).Nodup := by
 rw [List.nodup_iff_pairwise_ne, List.pairwise_map, List.pairwise_iff_getElem]
 intro a b ha hb' hab e
 have h1 := hb _ (List.getElem_mem ha)
 have h2 := hb _ (List.getElem_mem hb')
 have := h.inj h1.1 h1.2 h2.1 h2.2 e
 have q := rises_pair hr b a hab hb'
 simp [List.getD, ha, hb'] at q
 omega
theorem check_ren {g : GV} {ts ns : List Int} (ok : OkC g) (hc : (checkF g.ts g.ns).1 = 0) (hn : NumOk g ts ns) : checkG (g.ren ts ns) (checkF (g.ren ts ns).ts (g.ren ts ns).ns) = (0, 0) := by
 have et : (g.ren ts ns).ts = moveU g.ts g.ts ts ts.length := by show moveU g.ts g.ts ts g.ts.length = _; rw [hn.tl]
 have en : (g.ren ts ns).ns = moveU g.ns g.ns ns ns.length := by show moveU g.ns g.ns ns g.ns.length = _; rw [hn.nl]
 have ltl : (g.ren ts ns).ts.length = g.ts.length := by rw [et, moveU_len]
 have lnl : (g.ren ts ns).ns.length = g.ns.length := by rw [en, moveU_len]
 have lpl : (g.ren ts ns).ps.length = g.ps.length := by simp [GV.ren]
 have lll : (g.ren ts ns).ls.length = g.ls.length := by simp [GV.ren]
 obtain ⟨k1, k2, k3, k4, k5⟩ := checkF_to hc
 have T : ∀ a : Int, 0 <= a -> a < g.ts.length -> 0 <= ts.getD a.toNat 0 /\ ts.getD a.toNat 0 < g.ts.length := fun a h0 h1 => by have := hn.tp.rng h0 (by rw [hn.tl]; exact h1); rw [hn.tl] at this; exact this
 have N : ∀ a : Int, 0 <= a -> a < g.ns.length -> 0 <= ns.getD a.toNat 0 /\ ns.getD a.toNat 0 < g.ns.length := fun a h0 h1 => by have := hn.np.rng h0 (by rw [hn.nl]; exact h1); rw [hn.nl] at this; exact this
 have IT : ∀ x : Int, 0 <= x /\ x < g.ts.length -> inT (g.ren ts ns) x = true := fun x h => by unfold inT; rw [ltl]; exact decide_eq_true h
 have IN : ∀ x : Int, 0 <= x /\ x < g.ns.length -> inN (g.ren ts ns) x = true := fun x h => by unfold inN; rw [lnl]; exact decide_eq_true h
 refine checkG_of (by rw [ltl]; exact ok.tl) (by rw [lnl]; exact ok.nl) ?_ ?_ (by rw [lpl]; exact ok.pl) (fun i hi => ?_) (by rw [lll]; exact ok.ll) (fun i hi => ?_)
 ·refine checkF_of (by rw [ltl]; exact ok.tl.2) (by rw [lnl]; exact ok.nl.2) ?_ ?_ ?_ ?_ ?_
  ·rw [et]; exact fun s hs => k1 s (moveU_mem hn.tp hn.tl.symm s hs)
  ·rw [en]; exact fun s hs => k2 s (moveU_mem hn.np hn.nl.symm s hs)
  ·rw [et]; exact moveU_nodup hn.tp hn.tl.symm k3
  ·rw [en]; exact moveU_nodup hn.np hn.nl.symm k4
  ·rw [et, en]; exact fun s hs hm => k5 s (moveU_mem hn.np hn.nl.symm s hs) (moveU_mem hn.tp hn.tl.symm s hm)
 ·have := N g.start ok.st.1 ok.st.2
  show inN (g.ren ts ns) (ns.getD g.start.toNat 0) = true
  exact IN _ this
 ·rw [lpl] at hi
  obtain ⟨o1, o2, o3, o4⟩ := prodOk_of ok i hi
  have hl := N _ o1.1 o1.2
  have o3' : ∀ s ∈ (g.ps.getD i .none).right, 0 <= s.2 /\ (s.1 = 1 -> s.2 < ts.length) /\ (s.1 ≠ 1 -> s.2 < ns.length) := by rw [hn.tl, hn.nl]; exact o3
  unfold prodU
  rw [ren_p g ts ns i hi]
  rw [if_neg (by show ¬ inN (g.ren ts ns) (ns.getD (g.ps.getD i .none).left.toNat 0) = false; rw [IN _ hl]; simp)]
  rw [if_neg (by show ¬ 16 < ((g.ps.getD i .none).right.map (renS ts ns)).length; rw [List.length_map]; omega)]
  rw [if_neg (by
   show ¬ (((g.ps.getD i .none).right.map (renS ts ns)).any fun s => !inG (g.ren ts ns) s.1 s.2) = true
   rw [List.any_eq_true]
   rintro ⟨s, hs, e⟩
   obtain ⟨u, hu, rfl⟩ := List.mem_map.1 hs
   have q := ok.inG i hi u hu
   have q3 := o3 u hu
   unfold renS at e
   by_cases a : u.1 = 1
   ·rw [if_pos a] at e
    have := T u.2 q3.1 (q3.2.1 a)
    have q5 : inG (g.ren ts ns) u.1 (ts.getD u.2.toNat 0) = true := by unfold inG; rw [if_pos a]; exact IT _ this
    dsimp only at e
    rw [q5] at e
    cases e
   ·rw [if_neg a] at e
    have h2 : u.1 = 2 := by
     unfold inG at q
     by_cases c : u.1 = 2
     ·exact c
     ·simp [a, c] at q
    have := N u.2 q3.1 (q3.2.2 a)
    have q5 : inG (g.ren ts ns) u.1 (ns.getD u.2.toNat 0) = true := by unfold inG; rw [if_neg a, if_pos h2]; exact IN _ this
    dsimp only at e
    rw [q5] at e
    cases e)]
  rw [if_neg (by
   have q := prod_twice ok i hi
   rw [List.any_eq_false] at q
   rw [List.any_eq_true]
   rintro ⟨y, hy, e⟩
   have hy' : y ∈ (g.ps.take i).map (PV.ren ts ns) := by rw [List.map_take]; exact hy
   obtain ⟨p, hp, rfl⟩ := List.mem_map.1 hy'
   refine q p hp ?_
   obtain ⟨j, hj, rfl⟩ := List.getElem_of_mem hp
   simp only [List.length_take] at hj
   have hj2 : j < g.ps.length := by omega
   have ej : (g.ps.take i)[j] = g.ps.getD j .none := by simp [List.getD, hj2]
   rw [ej] at e ⊢
   obtain ⟨p1, _, p3, _⟩ := prodOk_of ok j hj2
   have p3' : ∀ s ∈ (g.ps.getD j .none).right, 0 <= s.2 /\ (s.1 = 1 -> s.2 < ts.length) /\ (s.1 ≠ 1 -> s.2 < ns.length) := by rw [hn.tl, hn.nl]; exact p3
   simp only [Bool.and_eq_true, beq_iff_eq] at e ⊢
   refine ⟨hn.np.inj p1.1 (by rw [hn.nl]; exact p1.2) o1.1 (by rw [hn.nl]; exact o1.2) e.1, ?_⟩
   exact map_inj (fun x y hx hy he => renS_inj hn.tp hn.np hx hy he) _ _ p3' o3' e.2)]
  rw [if_neg (by
   show ¬ ((if (g.ps.getD i .none).prec = -1 then -1 else ts.getD (g.ps.getD i .none).prec.toNat 0) ≠ -1 /\ inT (g.ren ts ns) (if (g.ps.getD i .none).prec = -1 then -1 else ts.getD (g.ps.getD i .none).prec.toNat 0) = false)
   by_cases a : (g.ps.getD i .none).prec = -1
   ·rw [if_pos a]; simp
   ·rw [if_neg a]
    have := T _ (o4 a).1 (o4 a).2
    rw [IT _ this]; simp)]
 ·rw [lll] at hi
  obtain ⟨o1, o2, o3⟩ := levOk_of ok i hi
  obtain ⟨v1, v2, v3⟩ := ok.level i hi
  have hne : (g.ls.getD i .none).terms.length ≠ 0 := fun e => o1 (List.eq_nil_of_length_eq_zero e)
  have hmem : ∀ (l : List Int) (n : Int), n ∈ sortU (l.map fun x => ts.getD x.toNat 0) ↔ ∃ x ∈ l, ts.getD x.toNat 0 = n := fun l n => by
   rw [(sortU_perm _).mem_iff, List.mem_map]
  unfold levelU
  rw [ren_l g ts ns i hi]
  rw [if_neg (by
   show ¬ ((g.ls.getD i .none).assoc < 1 ∨ 3 < (g.ls.getD i .none).assoc ∨ (sortU ((g.ls.getD i .none).terms.map fun x => ts.getD x.toNat 0)).length = 0)
   rw [(sortU_perm _).length_eq, List.length_map]
   omega)]
  rw [if_neg (by
   show ¬ ((sortU ((g.ls.getD i .none).terms.map fun x => ts.getD x.toNat 0)).any fun n => !inT (g.ren ts ns) n) = true
   rw [List.any_eq_true]
   rintro ⟨n, hnn, e⟩
   obtain ⟨x, hx, rfl⟩ := (hmem _ _).1 hnn
   have := T x (o3 x hx).1 (o3 x hx).2
   rw [IT _ this] at e
   cases e)]
  rw [if_neg (by
   show ¬ risesU (sortU ((g.ls.getD i .none).terms.map fun x => ts.getD x.toNat 0)) = false
   rw [rises_sort]
   have hnd := nodup_ren hn.tp v3 (by rw [hn.tl]; exact o3)
   rw [decide_eq_true hnd]
   simp)]
  rw [if_neg (by
   show ¬ ((sortU ((g.ls.getD i .none).terms.map fun x => ts.getD x.toNat 0)).any fun n => (namedU (g.ls.map (LV.ren ts)) i).contains n) = true
   rw [List.any_eq_true]
   rintro ⟨n, hnn, e⟩
   obtain ⟨x, hx, rfl⟩ := (hmem _ _).1 hnn
   rw [List.contains_iff_mem] at e
   unfold namedU at e
   rw [<- List.map_take, List.mem_flatMap] at e
   obtain ⟨y, hy, hm⟩ := e
   obtain ⟨q, hq, rfl⟩ := List.mem_map.1 hy
   obtain ⟨z, hz, ez⟩ := (hmem q.terms _).1 hm
   refine level_named ok i hi x hx ?_
   unfold namedU
   rw [List.mem_flatMap]
   refine ⟨q, hq, ?_⟩
   obtain ⟨j, hj, rfl⟩ := List.getElem_of_mem hq
   simp only [List.length_take] at hj
   have hj2 : j < g.ls.length := by omega
   have ej : (g.ls.take i)[j] = g.ls.getD j .none := by simp [List.getD, hj2]
   rw [ej] at hz ⊢
   have h1 := (levOk_of ok j hj2).2.2 z hz
   have h2 := o3 x hx
   rw [<- hn.tp.inj h1.1 (by rw [hn.tl]; exact h1.2) h2.1 (by rw [hn.tl]; exact h2.2) ez]
   exact hz)]
end Go.Proofs.YthgnhdnmcjpdmaaGreatDoor
namespace Go.Proofs.YthgnhdnmcjpdmaaGreatDoor
set_option linter.unusedVariables false
set_option maxRecDepth 100000
set_option maxHeartbeats 16000000
open Go.RowKit
end Go.Proofs.YthgnhdnmcjpdmaaGreatDoor
