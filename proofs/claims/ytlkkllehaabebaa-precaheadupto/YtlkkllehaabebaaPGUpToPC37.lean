import Derived.Test.YtlkkllehaabebaaPGOkToSCheckR
import Derived.Test.YtlkkllehaabebaaPPC0ToPC3
import Derived.Test.YtlkkllehaabebaaPOT0ToGV5
import Derived.Test.YtlkkllehaabebaaPPC25ToPC27
namespace Go.Proofs.Ytlkkllehaabebaa
set_option linter.unusedVariables false
set_option maxRecDepth 100000
set_option maxHeartbeats 16000000
open Go.RowKit
theorem checkG_of {g : GV} {nm : Int × Int} (tl : 1 <= g.ts.length /\ g.ts.length <= 64) (nl : 1 <= g.ns.length /\ g.ns.length <= 64) (hn : nm.1 = 0) (st : inN g g.start = true) (pl : 1 <= g.ps.length /\ g.ps.length <= 256) (ps : ∀ i, i < g.ps.length -> prodU g i = 0) (ll : g.ls.length <= 32) (ls : ∀ i, i < g.ls.length -> levelU g i = 0) : checkG g nm = (0, 0) := by
 have hp := firstU_none ps
 have hl := firstU_none ls
 unfold checkG
 rw [if_neg (by omega), if_neg (by omega), if_neg (by simpa using hn), if_neg (by simp [st]), if_neg (by omega), if_neg (by rw [hp]; simp), if_neg (by omega), hl]
theorem formsF_of {form : ByteArray -> Bool} : ∀ (ss seen : List ByteArray), (∀ s ∈ ss, form s = true) -> (∀ s ∈ ss, s ∉ seen) -> ss.Nodup -> (formsF form ss seen).1 = 0 /\ (formsF form ss seen).2.2 = seen ++ ss
 | [], seen, _, _, _ => by simp [formsF]
 | a :: r, seen, h1, h2, h3 => by
  obtain ⟨h3a, h3b⟩ := List.nodup_cons.1 h3
  have hi : inB seen a = false := by
   rw [Bool.eq_false_iff]
   intro e
   simp [inB] at e
   exact h2 a (by simp) e
  unfold formsF
  rw [if_neg (by simp [h1 a (by simp)]), if_neg (by simp [hi])]
  have := formsF_of r (seen ++ [a]) (fun s hs => h1 s (by simp [hs])) (fun s hs hm => by
   rcases List.mem_append.1 hm with hm | hm
   ·exact h2 s (by simp [hs]) hm
   ·rw [List.mem_singleton.1 hm] at hs; exact h3a hs) h3b
  simpa using this
theorem formsF_to {form : ByteArray -> Bool} : ∀ (ss seen : List ByteArray), (formsF form ss seen).1 = 0 -> (∀ s ∈ ss, form s = true) /\ (∀ s ∈ ss, s ∉ seen) /\ ss.Nodup /\ (formsF form ss seen).2.2 = seen ++ ss
 | [], seen, _ => by simp [formsF]
 | a :: r, seen, h => by
  unfold formsF at h ⊢
  by_cases h1 : form a = false
  ·rw [if_pos h1] at h; exact absurd h (by simp)
  rw [if_neg h1] at h ⊢
  by_cases h2 : inB seen a = true
  ·rw [if_pos h2] at h; exact absurd h (by simp)
  rw [if_neg h2] at h ⊢
  obtain ⟨q1, q2, q3, q4⟩ := formsF_to r (seen ++ [a]) h
  have hn : a ∉ seen := fun e => h2 (by simp [inB, e])
  refine ⟨fun s hs => ?_, fun s hs => ?_, List.nodup_cons.2 ⟨fun e => q2 a e (by simp), q3⟩, by rw [q4]; simp⟩
  ·rcases List.mem_cons.1 hs with rfl | hs
   ·simpa using h1
   ·exact q1 s hs
  ·rcases List.mem_cons.1 hs with rfl | hs
   ·exact hn
   ·exact fun e => q2 s hs (by simp [e])
theorem checkF_to {ts ns : List ByteArray} (h : (checkF ts ns).1 = 0) : (∀ s ∈ ts, termS s = true) /\ (∀ s ∈ ns, wordS s = true) /\ ts.Nodup /\ ns.Nodup /\ ∀ s ∈ ns, s ∉ ts := by
 unfold checkF at h
 by_cases h1 : 64 < ts.length
 ·rw [if_pos h1] at h; exact absurd h (by simp)
 rw [if_neg h1] at h
 by_cases h2 : 64 < ns.length
 ·rw [if_pos h2] at h; exact absurd h (by simp)
 rw [if_neg h2] at h
 by_cases h3 : (formsF termS ts []).1 = 0
 case neg => rw [if_pos h3] at h; exact absurd h h3
 rw [if_neg (by simpa using h3)] at h
 by_cases h4 : (formsF wordS ns (formsF termS ts []).2.2).1 = 0
 case neg => rw [if_pos h4] at h; exact absurd h h4
 obtain ⟨a1, _, a3, a4⟩ := formsF_to _ _ h3
 obtain ⟨b1, b2, b3, _⟩ := formsF_to _ _ h4
 rw [a4] at b2
 exact ⟨a1, b1, a3, b3, fun s hs => by simpa using b2 s hs⟩
theorem checkF_of {ts ns : List ByteArray} (l1 : ts.length <= 64) (l2 : ns.length <= 64) (h1 : ∀ s ∈ ts, termS s = true) (h2 : ∀ s ∈ ns, wordS s = true) (h3 : ts.Nodup) (h4 : ns.Nodup) (h5 : ∀ s ∈ ns, s ∉ ts) : (checkF ts ns).1 = 0 := by
 have q1 := formsF_of ts [] h1 (fun _ _ => by simp) h3
 have q2 := formsF_of ns (formsF termS ts []).2.2 h2 (fun s hs => by rw [q1.2]; simpa using h5 s hs) h4
 unfold checkF
 rw [if_neg (by omega), if_neg (by omega), if_neg (by simpa using q1.1), if_neg (by simpa using q2.1)]
theorem checkF_ok {g : GV} {at_ : Int} (h : checkG g (checkF g.ts g.ns) = (0, at_)) : (checkF g.ts g.ns).1 = 0 := by
 unfold checkG at h
 by_cases h1 : g.ts.length = 0 ∨ 64 < g.ts.length
 ·rw [if_pos h1] at h; exact absurd (congrArg (·.1) h) (by simp)
 rw [if_neg h1] at h
 by_cases h2 : g.ns.length = 0 ∨ 64 < g.ns.length
 ·rw [if_pos h2] at h; exact absurd (congrArg (·.1) h) (by simp)
 rw [if_neg h2] at h
 by_cases h3 : (checkF g.ts g.ns).1 = 0
 ·exact h3
 ·rw [if_pos h3] at h; exact congrArg (·.1) h
theorem prod_twice {g : GV} (h : OkC g) (i : Nat) (hi : i < g.ps.length) : ((g.ps.take i).any fun q => q.left == (g.ps.getD i .none).left && q.right == (g.ps.getD i .none).right) = false := by
 have := h.ps i hi
 unfold prodU at this
 cases e : ((g.ps.take i).any fun q => q.left == (g.ps.getD i .none).left && q.right == (g.ps.getD i .none).right) with
 | false => rfl
 | true =>
  rw [e] at this
  split at this
  ·cases this
  ·split at this
   ·cases this
   ·split at this
    ·cases this
    ·rw [if_pos rfl] at this; cases this
theorem level_named {g : GV} (h : OkC g) (i : Nat) (hi : i < g.ls.length) : ∀ n ∈ (g.ls.getD i .none).terms, n ∉ namedU g.ls i := by
 have := h.ls i hi
 unfold levelU at this
 intro n hn hm
 have e : ((g.ls.getD i .none).terms.any fun n => (namedU g.ls i).contains n) = true := by
  rw [List.any_eq_true]
  exact ⟨n, hn, by simpa using hm⟩
 rw [e] at this
 split at this
 ·cases this
 ·split at this
  ·cases this
  ·split at this
   ·cases this
   ·rw [if_pos rfl] at this; cases this
abbrev zzzB : ByteArray := ⟨#[122, 122, 122]⟩
structure Up (g h : GV) : Prop where
 ts : h.ts = g.ts ++ [zzzB]
 ns : h.ns = g.ns
 start : h.start = g.start
 pl : h.ps.length = g.ps.length
 ps : ∀ i, i < g.ps.length -> (h.ps.getD i .none).left = (g.ps.getD i .none).left /\ (h.ps.getD i .none).right = (g.ps.getD i .none).right /\ (h.ps.getD i .none).prec = (g.ps.getD i .none).prec
 ll : h.ls.length = g.ls.length + 1
 l0 : (h.ls.getD 0 .none).assoc = 1 /\ (h.ls.getD 0 .none).terms = [(g.ts.length : Int)]
 ls : ∀ i, i < g.ls.length -> (h.ls.getD (i + 1) .none).assoc = (g.ls.getD i .none).assoc /\ (h.ls.getD (i + 1) .none).terms = (g.ls.getD i .none).terms
def upI (x : Int) : Int := if x = -1 then -1 else x + 1
def upD (d : DV) : DV := { d with lev := upI d.lev }
theorem lev_up {g h : GV} (u : Up g h) {t : Int} (ht : t ≠ g.ts.length) : levU h.ls t = upI (levU g.ls t) := by
 have c0 : (h.ls.getD 0 .none).terms.contains t = false := by
  rw [u.l0.2]
  simpa using ht
 rcases lev_cases g.ls t with ⟨h0, hn⟩ | ⟨k, hk, h0, hb, h1⟩
 ·rw [h0, lev_none]
  ·rfl
  ·intro j hj
   cases j with
   | zero => exact c0
   | succ j => rw [(u.ls j (by rw [u.ll] at hj; omega)).2]; exact hn j (by rw [u.ll] at hj; omega)
 ·rw [h0, lev_at (k := k + 1) (by rw [u.ll]; omega)]
  ·unfold upI
   rw [if_neg (by omega)]
   push_cast
   rfl
  ·intro j hj
   cases j with
   | zero => exact c0
   | succ j => rw [(u.ls j (by omega)).2]; exact hb j (by omega)
  ·rw [(u.ls k hk).2]
   exact h1
theorem last_mem (l : List (Int × Int)) : lastT l = -1 ∨ ∃ s ∈ l, s.1 = 1 /\ lastT l = s.2 := by
 unfold lastT
 cases h : l.reverse.find? fun s => s.1 == 1 with
 | none => exact .inl rfl
 | some s => exact .inr ⟨s, by simpa using List.mem_of_find?_eq_some h, by simpa using List.find?_some h, rfl⟩
theorem own_lt {g : GV} (ok : OkC g) {i : Nat} (hi : i < g.ps.length) : ownU (g.ps.getD i .none) < g.ts.length := by
 unfold ownU
 have hp := ok.prec i hi
 have hl := ok.tl
 split
 ·exact hp.2
 ·rcases last_mem (g.ps.getD i .none).right with e | ⟨s, hs, e1, e⟩
  ·rw [e]; omega
  ·rw [e]
   rcases inG_is (ok.inG i hi s hs) with ⟨_, _, h⟩ | ⟨h, _⟩
   ·exact h
   ·rw [e1] at h; exact absurd h (by decide)
theorem plv_up {g h : GV} (u : Up g h) (ok : OkC g) {i : Nat} (hi : i < g.ps.length) : plvU h i = upI (plvU g i) := by
 unfold plvU
 have e : ownU (h.ps.getD i .none) = ownU (g.ps.getD i .none) := by
  obtain ⟨_, e2, e3⟩ := u.ps i hi
  unfold ownU
  rw [e2, e3]
 rw [e]
 exact lev_up u (by have := own_lt ok hi; omega)
theorem dec_up {g h : GV} (u : Up g h) (ok : OkC g) {i : Nat} (hi : i < g.ps.length) {t : Int} (ht : t ≠ g.ts.length) : decU h i t = upD (decU g i t) := by
 unfold decU
 rw [plv_up u ok hi, lev_up u ht]
 have hP := lev_ge g.ls (ownU (g.ps.getD i .none))
 have hT := lev_ge g.ls t
 unfold plvU
 generalize levU g.ls (ownU (g.ps.getD i .none)) = P at *
 generalize levU g.ls t = T at *
 unfold duelD
 by_cases h1 : P = -1 ∨ T = -1
 ·rw [if_pos h1, if_pos (by unfold upI; rcases h1 with h1 | h1 <;> simp [h1])]
  rfl
 ·have eP : upI P = P + 1 := if_neg (by omega)
  have eT : upI T = T + 1 := if_neg (by omega)
  rw [if_neg h1, eP, eT, if_neg (by omega)]
  by_cases h2 : T < P
  ·rw [if_pos h2, if_pos (by omega)]
   simp [upD, redD, eP]
  ·rw [if_neg h2, if_neg (by omega)]
   by_cases h3 : P < T
   ·rw [if_pos h3, if_pos (by omega)]
    simp [upD, shiD, eT]
   ·rw [if_neg h3, if_neg (by omega), show (P + 1).toNat = P.toNat + 1 by omega, (u.ls P.toNat (by omega)).1]
    unfold eqD
    repeat' split
    all_goals simp [upD, redD, shiD, errD, eP]
theorem kind_up (k : Int) (ds : List DV) : kindD k (ds.map upD) = (kindD k ds).map upD := by
 unfold kindD
 rw [List.filter_map]
 rfl
theorem pick_up (look : Int) (red : List Int) (ds : List DV) : pickD look red (ds.map upD) = upD (pickD look red ds) := by
 unfold pickD
 rw [kind_up, kind_up, kind_up, kind_up]
 by_cases h : kindD 0 ds ≠ [] ∨ 1 < (kindD 2 ds).length
 ·rw [if_pos h, if_pos (by simpa using h)]
  rfl
 ·rw [if_neg h, if_neg (by simpa using h)]
  cases kindD 2 ds with
  | cons d r => rfl
  | nil => cases kindD 3 ds with
   | cons d r => rfl
   | nil => cases kindD 1 ds with
    | cons d r => rfl
    | nil => rfl
theorem res_up {g h : GV} (u : Up g h) (ok : OkC g) {look shift : Int} {red : List Int} (hl : look < g.ts.length) (hr : red.any (oddU g) = false) : resU h look shift red = upD (resU g look shift red) := by
 unfold resU
 by_cases h1 : shift = -1 ∨ (-1) ∈ red
 ·rw [if_pos h1, if_pos h1]
  rfl
 ·rw [if_neg h1, if_neg h1, <- pick_up, List.map_map]
  congr 1
  refine List.map_congr_left fun p hp => ?_
  rw [List.any_eq_false] at hr
  have := hr p hp
  have hm : p ≠ -1 := fun e => h1 (.inr (e ▸ hp))
  have hb : 0 <= p /\ p < g.ps.length := by
   by_cases c : 0 <= p /\ p < g.ps.length
   ·exact c
   ·exact absurd (decide_eq_true ⟨hm, c⟩) this
  exact dec_up u ok (by omega) (by omega)
theorem check_up {g h : GV} (u : Up g h) (ok : OkC g) (hc : (checkF g.ts g.ns).1 = 0) (h1 : zzzB ∉ g.ts) (h2 : zzzB ∉ g.ns) (h3 : g.ts.length < 64) (h4 : g.ls.length < 32) : checkG h (checkF h.ts h.ns) = (0, 0) := by
 obtain ⟨k1, k2, k3, k4, k5⟩ := checkF_to hc
 have o1 := ok.tl
 have o2 := ok.nl
 have el : h.ts.length = g.ts.length + 1 := by rw [u.ts]; simp
 have iT : ∀ n, inT g n = true -> inT h n = true := fun n hn => by
  have : 0 <= n /\ n < g.ts.length := by simpa [inT] using hn
  unfold inT
  exact decide_eq_true ⟨this.1, by rw [el]; omega⟩
 have iN : ∀ n, inN h n = inN g n := fun n => by unfold inN; rw [u.ns]
 have iG : ∀ a b, inG g a b = true -> inG h a b = true := fun a b hb => by
  unfold inG at hb ⊢
  by_cases c : a = 1
  ·rw [if_pos c] at hb ⊢; exact iT b hb
  ·rw [if_neg c] at hb ⊢
   rw [iN]
   exact hb
 refine checkG_of (by omega) (by rw [u.ns]; exact o2) ?_ ?_ (by rw [u.pl]; exact ok.pl) (fun i hi => ?_) (by rw [u.ll]; omega) (fun i hi => ?_)
 ·refine checkF_of (by omega) (by rw [u.ns]; exact o2.2) ?_ (by rw [u.ns]; exact k2) ?_ (by rw [u.ns]; exact k4) ?_
  ·intro s hs
   rw [u.ts, List.mem_append, List.mem_singleton] at hs
   rcases hs with hs | rfl
   ·exact k1 s hs
   ·decide +kernel
  ·rw [u.ts, List.nodup_append]
   exact ⟨k3, by simp, fun a ha b hb => by rw [List.mem_singleton] at hb; rw [hb]; exact fun e => h1 (e ▸ ha)⟩
  ·intro s hs hm
   rw [u.ns] at hs
   rw [u.ts, List.mem_append, List.mem_singleton] at hm
   rcases hm with hm | rfl
   ·exact k5 s hs hm
   ·exact h2 hs
 ·rw [iN, u.start]
  exact decide_eq_true ok.st
 ·rw [u.pl] at hi
  have hp := ok.ps i hi
  obtain ⟨e1, e2, e3⟩ := u.ps i hi
  have et : ((h.ps.take i).any fun q => q.left == (g.ps.getD i .none).left && q.right == (g.ps.getD i .none).right) = false := by
   have tw := prod_twice ok i hi
   rw [List.any_eq_false] at tw ⊢
   intro q hq
   obtain ⟨j, hj, rfl⟩ := List.getElem_of_mem hq
   rw [List.length_take, u.pl] at hj
   have hj1 : j < g.ps.length := by omega
   have := tw (g.ps.getD j .none) (by
    have e : (g.ps.take i).getD j .none = g.ps.getD j .none := by simp [List.getD, show j < i by omega]
    rw [<- e]
    exact mem_getD (by rw [List.length_take]; omega))
   obtain ⟨f1, f2, _⟩ := u.ps j hj1
   have e : (h.ps.take i)[j] = h.ps.getD j .none := by simp [List.getD, show j < h.ps.length by rw [u.pl]; exact hj1]
   rw [e, f1, f2]
   exact this
  unfold prodU at hp ⊢
  rw [e1, e2, e3, et, iN]
  rw [prod_twice ok i hi] at hp
  by_cases c1 : inN g (g.ps.getD i .none).left = false
  ·rw [if_pos c1] at hp; exact absurd hp (by decide)
  rw [if_neg c1] at hp ⊢
  by_cases c2 : 16 < (g.ps.getD i .none).right.length
  ·rw [if_pos c2] at hp; exact absurd hp (by decide)
  rw [if_neg c2] at hp ⊢
  rw [if_neg (by
   rw [List.any_eq_true]
   rintro ⟨s, hs, e⟩
   rw [iG _ _ (ok.inG i hi s hs)] at e
   cases e), if_neg (by decide), if_neg (by
   rintro ⟨a, b⟩
   have := ok.prec i hi
   have : inT h (g.ps.getD i .none).prec = true := iT _ (decide_eq_true (by omega))
   rw [this] at b
   cases b)]
 ·rw [u.ll] at hi
  cases i with
  | zero =>
   unfold levelU
   rw [u.l0.1, u.l0.2]
   have e0 : inT h (g.ts.length : Int) = true := decide_eq_true ⟨by omega, by rw [el]; omega⟩
   rw [if_neg (by simp), if_neg (by simp [e0]), if_neg (by simp [risesU]), if_neg (by simp [namedU])]
  | succ i =>
   have hi : i < g.ls.length := by omega
   have hl := ok.level i hi
   have hn := level_named ok i hi
   have h0 := ok.ls i hi
   obtain ⟨e1, e2⟩ := u.ls i hi
   have hz : (g.ls.getD i .none).terms.length ≠ 0 := fun c => by
    unfold levelU at h0
    rw [if_pos (.inr (.inr c))] at h0
    cases h0
   unfold levelU
   rw [e1, e2, if_neg (by omega), if_neg (by
    rw [List.any_eq_true]
    rintro ⟨s, hs, e⟩
    have : inT h s = true := iT _ (decide_eq_true (hl.2.1 s hs))
    rw [this] at e
    cases e), if_neg (by rw [hl.2.2]; decide), if_neg (by
    rw [List.any_eq_true]
    rintro ⟨s, hs, e⟩
    have e : s ∈ namedU h.ls (i + 1) := by simpa using e
    unfold namedU at e
    obtain ⟨l, hm, hsl⟩ := List.mem_flatMap.1 e
    obtain ⟨j, hj, rfl⟩ := List.getElem_of_mem hm
    rw [List.length_take, u.ll] at hj
    have ej : (h.ls.take (i + 1))[j] = h.ls.getD j .none := by simp [List.getD, show j < h.ls.length by rw [u.ll]; omega]
    rw [ej] at hsl
    have hb := hl.2.1 s hs
    cases j with
    | zero => rw [u.l0.2, List.mem_singleton] at hsl; omega
    | succ j =>
     rw [(u.ls j (by omega)).2] at hsl
     refine hn s hs ?_
     unfold namedU
     refine List.mem_flatMap.2 ⟨g.ls.getD j .none, ?_, hsl⟩
     have e : (g.ls.take i).getD j .none = g.ls.getD j .none := by simp [List.getD, show j < i by omega]
     rw [<- e]
     exact mem_getD (by rw [List.length_take]; omega))]
structure TO (w : World) (v : Value) (ss : List ByteArray) (lo hi : Nat) : Prop where
 row : GS w v ss
 at_ : ∀ k, v.ownBlock = some k -> lo <= k /\ k < hi
theorem TO.later {w w' : World} {v : Value} {ss : List ByteArray} {lo hi : Nat} (h : TO w v ss lo hi) (hb : Below w.heap.size w w') : TO w' v ss lo hi := ⟨h.row.later hb, h.at_⟩
theorem TO.kept {w w' : World} {v : Value} {ss : List ByteArray} {lo hi : Nat} (h : TO w v ss lo hi) (hb : ∀ k, lo <= k -> w'.heap[k]? = w.heap[k]?) : TO w' v ss lo hi := ⟨h.row.kept fun k hk => hb k (h.at_ k hk).1, h.at_⟩
theorem TO.of {w : World} {v : Value} {ss : List ByteArray} {lo : Nat} (h : w.ownsRow lo 9 1 v ss.length (ss.map .string)) : TO w v ss lo w.heap.size := by
 refine ⟨⟨h.1, ?_⟩, fun k hk => World.ownsRow.lt h k hk⟩
 rcases h.2 with q | ⟨g, cap, cur, e, _, h2⟩
 ·exact .inl q
 ·exact .inr ⟨g, cap, cur, e, Nat.zero_le _, h2⟩
structure CG (N : Nat) (w : World) (g : GV) (M A H E : Nat) : Prop where
 le : N <= M /\ M <= A /\ A <= H /\ H <= E /\ E <= w.heap.size
 t : TO w (.slice g.ta g.ts.length g.tc) g.ts N M
 n : TO w (.slice g.na g.ns.length g.nc) g.ns M A
 p : g.ps ≠ [] -> ∃ b, g.pa = some ⟨b, 0, none⟩ /\ g.ps.length <= g.pc /\ PM A H w b g.ps.length g.ps
 l : g.ls ≠ [] -> ∃ b, g.la = some ⟨b, 0, none⟩ /\ LMt H E w b g.ls.length g.ls
theorem copy_strG (ao : Option Addr) (n c : Nat) (news : List Value) (w : World) (hl : news.length = n * 1) (hn : n <= 1048576) (hc : news ≠ [] -> ∃ b off, ao = some ⟨b, off, none⟩ /\ b < w.heap.size /\ ∀ j u, news[j]? = some u -> w.cell? ⟨b, off + j, none⟩ = some u) (h1 : ∀ u ∈ news, u.oneCell' = true) :
  Calls Try.prog 56 #[.slice ao n c] w fun e w' => ∃ a' c', e = .returned (.slice a' n c') /\ w'.ownsRow w.heap.size 9 1 (.slice a' n c') n news /\ Below w.heap.size w w' := by
 have HH : Hid (∀ u ∈ news, u.oneCell' = true) := h1
 obtain ⟨i0, hi, hz0, hz1, hz2⟩ := infoStr_parts
 cases ao with
 | none =>
  have h0 : n = 0 := by
   by_cases e : news = []
   ·subst e; simp at hl; omega
   ·obtain ⟨b, off, e', _⟩ := hc e
    cases e'
  subst h0
  clear hc h1
  have hap : ∀ (ty : TypeId) (wx : World), (Builtin.append_ #[22, 22] ty #[.slice none 0 0, .slice none 0 c]).run Try.prog wx = .ok (.slice none 0 0) wx := fun ty wx => by simp [Builtin.append_, run_underlying Try.underlying22, sizeOf, typeInfo, zeroValue, hi, hz0, Builtin.lenOf, Builtin.firstCells]
  go_enter Try.func56, Try.ntmps56
  go_wp2
  go_ret
  have : news = [] := List.eq_nil_of_length_eq_zero (by omega)
  subst this
  exact ⟨none, 0, rfl, World.ownsRow_nil w _ _ _, Below.refl _ _⟩
 | some ad =>
  have hcc : Hid (∀ j u, news[j]? = some u -> w.cell? (ad.add j) = some u) := fun j u hu => by
   obtain ⟨b, off, e, hb, hcell⟩ := hc (fun e => by subst e; simp at hu)
   cases e
   rw [add_none]
   exact hcell j u hu
  clear hc h1
  go_enter Try.func56, Try.ntmps56
  go_wp2_with (at_builtin; refine wpList_append_own_at _ rfl _ _ 22 rfl w.heap.size 9 i0 _ 1 16 Try.underlying22 hi hz0 hz1 hz2 rfl (by decide) (.slice none 0 0) 0 [] rfl (World.ownsRow_nil w _ _ _) ad n c news rfl hl hcc.out HH.out (by unfold maxLen; omega) (by omega) (Nat.le_refl _) ?_)
  intro v' w1 hown hgrow hnil _
  have hB : Below w.heap.size w w1 := (Below.refl _ w).grown hgrow (Nat.le_refl _) (fun k e => by simp [Value.ownBlock] at e)
  have hown' : w1.ownsRow w.heap.size 9 1 v' n news := by simpa using hown
  obtain ⟨av, cv, rfl⟩ : ∃ av cv, v' = .slice av n cv := by
   rcases hown'.2 with ⟨e, h0⟩ | ⟨g, cap, cur, e, _⟩
   ·exact ⟨none, 0, by rw [e, h0]⟩
   ·exact ⟨_, cap, e⟩
  have HO : Hid (w1.ownsRow w.heap.size 9 1 (.slice av n cv) n news) := hown'
  clear hown hown' hgrow hnil
  go_wp2
  go_ret
  exact ⟨av, cv, rfl, HO.out, hB⟩
set_option linter.unusedSimpArgs false in
theorem copy_any (g : GV) (w : World) (h : GAt 1048576 w g) :
  Calls Try.prog 29 #[g.val] w fun e w' => ∃ g' M A H E, e = .returned g'.val /\ SameG g g' /\ CG (w.heap.size + 2) w' g' M A H E /\ Below w.heap.size w w' := by
 have CB0 : Hid (CBx w.heap.size w (gA g) ((w.alloc (.cells (gA g) 26)).alloc (.cells #[.slice none 0 0, .slice none 0 0, .int .i64 0, .slice none 0 0, .slice none 0 0] 26)).drew) := (cb_start g w).later ((Below.refl _ _).drew)
 have HGA : Hid (∀ w', Below w.heap.size w w' -> GAt 1048576 w' g) := fun w' hb => h.later hb
 have HL : Hid (g.ts.length <= 1048576 /\ g.ns.length <= 1048576 /\ g.ps.length <= 1048576 /\ g.ls.length <= 1048576) := ⟨h.tl, h.nl, h.pl, h.ll⟩
 clear h
 go_enter Try.func29, Try.ntmps29
 go_wp2
 refine wp_region_x (S := fun _ => (fun w' => w'.cell? ⟨w.heap.size, 0, none⟩ = some (.slice g.ta g.ts.length g.tc) /\ w'.cell? ⟨w.heap.size, 1, none⟩ = some (.slice g.na g.ns.length g.nc) /\ w'.cell? ⟨w.heap.size, 2, none⟩ = some (.int .i64 g.start) /\ w'.cell? ⟨w.heap.size, 3, none⟩ = some (.slice g.pa g.ps.length g.pc) /\ w'.cell? ⟨w.heap.size, 4, none⟩ = some (.slice g.la g.ls.length g.lc))) (by kernel_rfl) ?_
 refine wtC (i := 0) (v := ?_) rfl (Or.inl ⟨by rfl, ?_⟩) (cbS CB0.out) ?_
 rotate_left
 ·(intro w hSw; (try dsimp only at hSw); go_simp; try (with_reducible rfl))
 (try simp only [Act.put, lsA, lsZ, lsN])
 refine wtC (i := 1) (v := ?_) rfl (Or.inl ⟨by rfl, ?_⟩) (cbS CB0.out) ?_
 rotate_left
 ·(intro w hSw; (try dsimp only at hSw); go_simp; try (with_reducible rfl))
 (try simp only [Act.put, lsA, lsZ, lsN])
 refine wtC (i := 3) (v := ?_) rfl (Or.inl ⟨by rfl, ?_⟩) (cbS CB0.out) ?_
 rotate_left
 ·(intro w hSw; (try dsimp only at hSw); go_simp; try (with_reducible rfl))
 (try simp only [Act.put, lsA, lsZ, lsN])
 refine wtC (i := 4) (v := ?_) rfl (Or.inl ⟨by rfl, ?_⟩) (cbS CB0.out) ?_
 rotate_left
 ·(intro w hSw; (try dsimp only at hSw); go_simp; try (with_reducible rfl))
 (try simp only [Act.put, lsA, lsZ, lsN])
 refine wtC (i := 6) (v := ?_) rfl (Or.inl ⟨by rfl, ?_⟩) (cbS CB0.out) ?_
 rotate_left
 ·(intro w hSw; (try dsimp only at hSw); go_simp; try (with_reducible rfl))
 (try simp only [Act.put, lsA, lsZ, lsN])
 refine wtC (i := 7) (v := ?_) rfl (Or.inl ⟨by rfl, ?_⟩) (cbS CB0.out) ?_
 rotate_left
 ·(intro w hSw; (try dsimp only at hSw); go_simp; try (with_reducible rfl))
 (try simp only [Act.put, lsA, lsZ, lsN])
 refine wtC (i := 8) (v := ?_) rfl (Or.inl ⟨by rfl, ?_⟩) (cbS CB0.out) ?_
 rotate_left
 ·(intro w hSw; (try dsimp only at hSw); go_simp; try (with_reducible rfl))
 (try simp only [Act.put, lsA, lsZ, lsN])
 refine wtC (i := 9) (v := ?_) rfl (Or.inl ⟨by rfl, ?_⟩) (cbS CB0.out) ?_
 rotate_left
 ·(intro w hSw; (try dsimp only at hSw); go_simp; try (with_reducible rfl))
 (try simp only [Act.put, lsA, lsZ, lsN])
 refine wtC (i := 11) (v := ?_) rfl (Or.inl ⟨by rfl, ?_⟩) (cbS CB0.out) ?_
 rotate_left
 ·(intro w hSw; (try dsimp only at hSw); go_simp; try (with_reducible rfl))
 (try simp only [Act.put, lsA, lsZ, lsN])
 refine wtC (i := 12) (v := ?_) rfl (Or.inl ⟨by rfl, ?_⟩) (cbS CB0.out) ?_
 rotate_left
 ·(intro w hSw; (try dsimp only at hSw); go_simp; try (with_reducible rfl))
 (try simp only [Act.put, lsA, lsZ, lsN])
 refine wpAnyX_one (j := 2) (by decide +kernel) rfl (fun K' hK => ?_)
 refine step_callX rfl 56 #[.slice g.ta g.ts.length g.tc] _ (run_cpstr (v0 := .slice g.ta g.ts.length g.tc) (by rfl) (by rfl) _) (copy_strG g.ta g.ts.length g.tc (g.ts.map .string) _ (by simp) HL.out.1 (strCells (HGA.out _ CB0.out.bel).t) (str_one _)) ?_
 rintro e w2 ⟨aT, c2, rfl, k2, b2⟩
 have C2 : Hid (CBx w.heap.size w (gA g) w2) := CB0.out.later b2
 have T2 : Hid (TO w2 (.slice aT g.ts.length c2) g.ts (w.heap.size + 2) w2.heap.size /\ w.heap.size + 2 <= w2.heap.size) := by
  have q := TO.of (ss := g.ts) k2
  exact ⟨⟨q.row, fun k hk => ⟨Nat.le_trans (lt_of_block CB0.out.out) (q.at_ k hk).1, (q.at_ k hk).2⟩⟩, lt_of_block C2.out.out⟩
 refine ⟨_, rfl, hK.out _ _ (cbS C2.out) ?_⟩
 clear k2 b2
 clear hK K'
 refine wpAnyX_one (j := 5) (by decide +kernel) rfl (fun K' hK => ?_)
 refine step_callX rfl 56 #[.slice g.na g.ns.length g.nc] _ (run_cpstr (v0 := .slice g.na g.ns.length g.nc) (by rfl) (by rfl) _) (copy_strG g.na g.ns.length g.nc (g.ns.map .string) _ (by simp) HL.out.2.1 (strCells (HGA.out _ C2.out.bel).n_) (str_one _)) ?_
 rintro e w3 ⟨aN, c3, rfl, k3, b3⟩
 have C3 : Hid (CBx w.heap.size w (gA g) w3) := C2.out.later b3
 have T3 : Hid ((TO w3 (.slice aT g.ts.length c2) g.ts (w.heap.size + 2) w2.heap.size) /\ (TO w3 (.slice aN g.ns.length c3) g.ns w2.heap.size w3.heap.size) /\ w2.heap.size <= w3.heap.size) := ⟨T2.out.1.later b3, TO.of (ss := g.ns) k3, b3.size⟩
 refine ⟨_, rfl, hK.out _ _ (cbS C3.out) ?_⟩
 clear k3 b3
 clear hK K'
 refine wpAnyX_one (j := 10) (by decide +kernel) rfl (fun K' hK => ?_)
 refine step_callX rfl 57 #[.slice g.pa g.ps.length g.pc] _ (run_cpprods (v0 := .slice g.pa g.ps.length g.pc) (by rfl) (by rfl) _) (copyprods_G g.pa g.pc g.ps _ HL.out.2.2.1 (HGA.out _ C3.out.bel).p (HGA.out _ C3.out.bel).rl) ?_
 rintro e w4 ⟨v4, L, rfl, hc4, hp4, b4⟩
 obtain ⟨a4, c4, rfl⟩ := hp4.row.len
 have C4 : Hid (CBx w.heap.size w (gA g) w4) := C3.out.later b4
 have P4 : Hid (L.map PV.core = g.ps.map PV.core /\ w3.heap.size <= w4.heap.size /\ (L ≠ [] -> ∃ pb, a4 = some ⟨pb, 0, none⟩ /\ L.length <= c4 /\ PM w3.heap.size w4.heap.size w4 pb L.length L)) := ⟨hc4, b4.size, fun hne => by obtain ⟨pb, c, e1, e2, h3⟩ := hp4.pm hne; cases e1; exact ⟨pb, rfl, e2, h3⟩⟩
 have T4 : Hid ((TO w4 (.slice aT g.ts.length c2) g.ts (w.heap.size + 2) w2.heap.size) /\ TO w4 (.slice aN g.ns.length c3) g.ns w2.heap.size w3.heap.size) := ⟨T3.out.1.later b4, T3.out.2.1.later b4⟩
 refine ⟨_, rfl, hK.out _ _ (cbS C4.out) ?_⟩
 clear hc4 hp4 b4
 clear hK K'
 refine wpAnyX_one (j := 13) (by decide +kernel) rfl (fun K' hK => ?_)
 refine step_callX rfl 58 #[.slice g.la g.ls.length g.lc] _ (run_cplevs (v0 := .slice g.la g.ls.length g.lc) (by rfl) (by rfl) _) (copylevels_G g.la g.lc g.ls _ HL.out.2.2.2 (HGA.out _ C4.out.bel).l (HGA.out _ C4.out.bel).vl) ?_
 rintro e w5 ⟨v5, M, rfl, hc5, hp5, b5⟩
 obtain ⟨a5, c5, rfl⟩ := hp5.row.len
 have C5 : Hid (CBx w.heap.size w (gA g) w5) := C4.out.later b5
 have P5 : Hid (L ≠ [] -> ∃ pb, a4 = some ⟨pb, 0, none⟩ /\ L.length <= c4 /\ PM w3.heap.size w4.heap.size w5 pb L.length L) := fun hne => by obtain ⟨pb, e1, e2, e3⟩ := P4.out.2.2 hne; exact ⟨pb, e1, e2, e3.later (Nat.le_refl _) b5⟩
 have L5 : Hid (M.map LV.core = g.ls.map LV.core /\ w4.heap.size <= w5.heap.size /\ (M ≠ [] -> ∃ lb, a5 = some ⟨lb, 0, none⟩ /\ LMt w4.heap.size w5.heap.size w5 lb M.length M)) := ⟨hc5, b5.size, fun hne => by obtain ⟨lb, c, e1, _, h3⟩ := hp5.pm hne; cases e1; exact ⟨lb, rfl, h3⟩⟩
 have T5 : Hid ((TO w5 (.slice aT g.ts.length c2) g.ts (w.heap.size + 2) w2.heap.size) /\ TO w5 (.slice aN g.ns.length c3) g.ns w2.heap.size w3.heap.size) := ⟨T4.out.1.later b5, T4.out.2.later b5⟩
 refine ⟨_, rfl, hK.out _ _ (cbS C5.out) ?_⟩
 clear hc5 hp5 b5
 clear hK K'
 refine wtC (i := 14) (v := ?_) rfl (Or.inl ⟨by rfl, ?_⟩) (cbS C5.out) ?_
 rotate_left
 ·(intro w hSw; (try dsimp only at hSw); go_simp; try (with_reducible rfl))
 (try simp only [Act.put, lsA, lsZ, lsN])
 have z0 : w5.cell? ⟨w.heap.size + 1, 0, none⟩ = some (.slice none 0 0) := (cellq_any C5.out.out).trans rfl
 have y0 : w5.frozen? ⟨w.heap.size + 1, 0, none⟩ = false := by unfold World.frozen?; rw [C5.out.out]; rfl
 have z1 : w5.cell? ⟨w.heap.size + 1, 1, none⟩ = some (.slice none 0 0) := (cellq_any C5.out.out).trans rfl
 have y1 : w5.frozen? ⟨w.heap.size + 1, 1, none⟩ = false := by unfold World.frozen?; rw [C5.out.out]; rfl
 have z2 : w5.cell? ⟨w.heap.size + 1, 2, none⟩ = some (.int .i64 0) := (cellq_any C5.out.out).trans rfl
 have y2 : w5.frozen? ⟨w.heap.size + 1, 2, none⟩ = false := by unfold World.frozen?; rw [C5.out.out]; rfl
 have z3 : w5.cell? ⟨w.heap.size + 1, 3, none⟩ = some (.slice none 0 0) := (cellq_any C5.out.out).trans rfl
 have y3 : w5.frozen? ⟨w.heap.size + 1, 3, none⟩ = false := by unfold World.frozen?; rw [C5.out.out]; rfl
 have z4 : w5.cell? ⟨w.heap.size + 1, 4, none⟩ = some (.slice none 0 0) := (cellq_any C5.out.out).trans rfl
 have y4 : w5.frozen? ⟨w.heap.size + 1, 4, none⟩ = false := by unfold World.frozen?; rw [C5.out.out]; rfl
 have hz : w.heap.size + 1 < w5.heap.size := lt_of_block C5.out.out
 have h5 := C5.out.five (.slice aT g.ts.length c2) (.slice aN g.ns.length c3) (.int .i64 g.start) (.slice a4 L.length c4) (.slice a5 M.length c5)
 have H5 : Hid _ := h5
 clear h5
 refine wpAnyX_one (j := 15) (by decide +kernel) rfl (fun K' hK => ?_)
 go_simp
 refine hK.out _ _ (by
  have hc := C5.out.box
  have hk := H5.out.2 w.heap.size (by omega)
  have hb := hk.trans hc
  exact ⟨(cellq_any hb).trans rfl, (cellq_any hb).trans rfl, (cellq_any hb).trans rfl, (cellq_any hb).trans rfl, (cellq_any hb).trans rfl⟩) ?_
 clear hK K'
 refine wpAnyX_done (by decide +kernel) ?_
 go_wp2
 refine bodyPost_ret (v := .agg #[.slice aT g.ts.length c2, .slice aN g.ns.length c3, .int .i64 g.start, .slice a4 L.length c4, .slice a5 M.length c5]) (by simp [results, Try.results29, go_sem, z0, z1, z2, z3, z4, hz]) rfl ?_
 have hl5 := L5.out.2.1
 have hl4 := P4.out.2.1
 have hl3 := T3.out.2.2
 have hl2 := T2.out.2
 refine ⟨⟨aT, c2, g.ts, aN, c3, g.ns, g.start, a4, c4, L, a5, c5, M⟩, w2.heap.size, w3.heap.size, w4.heap.size, w5.heap.size, rfl, ⟨rfl, rfl, rfl, P4.out.1, L5.out.1⟩, ⟨⟨hl2, hl3, hl4, hl5, by simp⟩, T5.out.1.kept (fun k hk => H5.out.2 k (by omega)), T5.out.2.kept (fun k hk => H5.out.2 k (by omega)), fun hl => ?_, fun hl => ?_⟩, H5.out.1⟩
 ·obtain ⟨b, e1, e2, e3⟩ := P5.out hl
  exact ⟨b, e1, e2, e3.kept (fun j hj _ => H5.out.2 j (by omega))⟩
 ·obtain ⟨lb, e1, e2⟩ := L5.out.2.2 hl
  exact ⟨lb, e1, e2.kept (fun j hj _ => H5.out.2 j (by omega))⟩
end Go.Proofs.Ytlkkllehaabebaa
namespace Go.Proofs.Ytlkkllehaabebaa
set_option linter.unusedVariables false
set_option maxRecDepth 100000
set_option maxHeartbeats 16000000
open Go.RowKit Go.Maps
structure AH (W : World) (bh : Nat) (h : GV) (wr : World) : Prop where
 bel : Below W.heap.size W wr
 lo : W.heap.size <= bh
 hb : wr.heap[bh]? = some (gBox h)
 ga : ∀ w', wr.heap.size <= w'.heap.size -> (∀ j, j < wr.heap.size -> j ≠ bh -> w'.heap[j]? = wr.heap[j]?) -> GAt 1048577 w' h
 pc : h.ps.length <= h.pc ∨ h.ps = []
theorem AH.at {W : World} {bh : Nat} {h : GV} {wr : World} (a : AH W bh h wr) : GAt 1048577 wr h := a.ga wr (Nat.le_refl _) fun _ _ _ => rfl
theorem AH.later {W : World} {bh : Nat} {h : GV} {wr w' : World} (a : AH W bh h wr) (hb : Below wr.heap.size wr w') : AH W bh h w' :=
 ⟨a.bel.trans (hb.mono a.bel.size), a.lo, blk_later a.hb hb, fun w2 hs hk => a.ga w2 (Nat.le_trans hb.size hs) fun j hj hne => (hk j (Nat.lt_of_lt_of_le hj hb.size) hne).trans (hb.block j hj), a.pc⟩
theorem core_len {g h : GV} (s : SameG g h) : h.ps.length = g.ps.length /\ h.ls.length = g.ls.length :=
 ⟨by simpa using congrArg List.length s.ps, by simpa using congrArg List.length s.ls⟩
theorem same_p {g h : GV} (s : SameG g h) (i : Nat) : (h.ps.getD i .none).left = (g.ps.getD i .none).left /\ (h.ps.getD i .none).right = (g.ps.getD i .none).right /\ (h.ps.getD i .none).prec = (g.ps.getD i .none).prec := by
 have e := core_p s i
 simpa [PV.core] using e
theorem same_l {g h : GV} (s : SameG g h) (i : Nat) : (h.ls.getD i .none).assoc = (g.ls.getD i .none).assoc /\ (h.ls.getD i .none).terms = (g.ls.getD i .none).terms := by
 have e := core_l s i
 simpa [LV.core] using e
theorem same_rl {g h : GV} {n : Nat} (s : SameG g h) (hr : ∀ p ∈ g.ps, p.right.length <= n) : ∀ p ∈ h.ps, p.right.length <= n := fun p hp => by
 obtain ⟨i, hi, rfl⟩ := getD_mem (d := .none) hp
 rw [(same_p s i).2.1]
 exact hr _ (mem_getD (by rw [<- (core_len s).1]; exact hi))
theorem same_vl {g h : GV} {n : Nat} (s : SameG g h) (hr : ∀ p ∈ g.ls, p.terms.length <= n) : ∀ p ∈ h.ls, p.terms.length <= n := fun p hp => by
 obtain ⟨i, hi, rfl⟩ := getD_mem (d := .none) hp
 rw [(same_l s i).2]
 exact hr _ (mem_getD (by rw [<- (core_len s).2]; exact hi))
theorem AH.app {g h : GV} {W w0 w4 w6 : World} {M A H E : Nat} {a6 : Option Addr} {n6 c6 : Nat} (hg : GAt 1048576 w0 g) (sg : SameG g h) (cg : CG (W.heap.size + 2) w4 h M A H E) (b4 : Below W.heap.size W w4)
  (gs : GS w6 (.slice a6 n6 c6) (h.ts ++ [zzzB])) (gr : Grew ((w4.alloc (gBox h)).alloc (.cells #[.string zzzB] 9)) w6 (.slice h.ta h.ts.length h.tc) (.slice a6 n6 c6)) :
  w6.heap[w4.heap.size]? = some (gBox h) /\ n6 = h.ts.length + 1 /\ AH W w4.heap.size { h with ta := a6, tc := c6, ts := h.ts ++ [zzzB] } (w6.setCell ⟨w4.heap.size, 0, none⟩ (.slice a6 n6 c6)) := by
 obtain ⟨l1, l2, l3, l4, l5⟩ := cg.le
 have bb : Below w4.heap.size w4 ((w4.alloc (gBox h)).alloc (.cells #[.string zzzB] 9)) := (below_alloc w4 _).trans ((below_alloc _ _).mono (below_alloc w4 _).size)
 have hnb : ((w4.alloc (gBox h)).alloc (.cells #[.string zzzB] 9)).heap[w4.heap.size]? = some (gBox h) := blk_later (heap_alloc_new _ _) (below_alloc _ _)
 have hz : w4.heap.size < ((w4.alloc (gBox h)).alloc (.cells #[.string zzzB] 9)).heap.size := lt_of_block hnb
 have K6 : ∀ j, j < ((w4.alloc (gBox h)).alloc (.cells #[.string zzzB] 9)).heap.size -> M <= j -> w6.heap[j]? = ((w4.alloc (gBox h)).alloc (.cells #[.string zzzB] 9)).heap[j]? := fun j hj hm => gr.grown.block j hj (fun e => by have := (cg.t.at_ j e.symm).2; omega)
 have KJ : ∀ j, M <= j -> j < w4.heap.size -> (w6.setCell ⟨w4.heap.size, 0, none⟩ (.slice a6 n6 c6)).heap[j]? = w4.heap[j]? := fun j hm hj => by
  rw [Below.heap_setCell _ _ _ _ (show j ≠ w4.heap.size by omega), K6 j (by omega) hm]
  exact bb.block j hj
 have hsz : w6.heap.size <= (w6.setCell ⟨w4.heap.size, 0, none⟩ (.slice a6 n6 c6)).heap.size := by simp
 obtain ⟨a, c, e, hr, _, hc⟩ := gs.row
 simp only [Value.slice.injEq] at e
 obtain ⟨rfl, rfl, rfl⟩ := e
 have hln : (h.ts ++ [zzzB]).length = h.ts.length + 1 := by simp
 refine ⟨(K6 _ hz (by omega)).trans hnb, hln, ?_⟩
 have B6 : Below W.heap.size W w6 := (b4.trans (bb.mono b4.size)).grown gr.grown (Nat.le_trans b4.size bb.size) (fun k e => by have := (cg.t.at_ k e).1; omega)
 have hc2 := core_len sg
 have hpp : h.ps.length <= h.pc ∨ h.ps = [] := by
  by_cases e : h.ps = []
  ·exact .inr e
  ·obtain ⟨_, _, q, _⟩ := cg.p e
   exact .inl q
 refine ⟨B6.setCell (p := ⟨w4.heap.size, 0, none⟩) b4.size _, b4.size, ?_, fun w' hs hw => ?_, hpp⟩
 ·have q := heap_set ((K6 _ hz (by omega)).trans hnb) 0 (.slice a6 (h.ts ++ [zzzB]).length c6)
  exact q
 have z7 : (w6.setCell ⟨w4.heap.size, 0, none⟩ (.slice a6 (h.ts ++ [zzzB]).length c6)).heap.size = w6.heap.size := by simp
 have l6 : w4.heap.size < w6.heap.size := Nat.lt_of_lt_of_le hz gr.grown.size
 have KW : ∀ j, M <= j -> j < w4.heap.size -> w'.heap[j]? = w4.heap[j]? := fun j hm hj => (hw j (by rw [z7]; omega) (by omega)).trans (KJ j hm hj)
 refine ⟨?_, ?_, ?_, ?_, ?_, ?_, ?_, ?_, ?_, ?_, ?_, ?_⟩
 ·have q : GS w' (.slice a6 (h.ts ++ [zzzB]).length c6) (h.ts ++ [zzzB]) := gs.kept fun k hk => by
   have hne : k ≠ w4.heap.size := fun e => gs.ne ((K6 _ hz (by omega)).trans hnb) (by decide) (by rw [hk]; exact congrArg some e.symm)
   rw [hw k (by rw [z7]; exact gs.lt k hk) hne]
   exact Below.heap_setCell _ _ _ _ hne
  obtain ⟨a', c', e', hr', _⟩ := q.row
  simp only [Value.slice.injEq] at e'
  rw [<- e'.1] at hr'
  exact hr'
 ·obtain ⟨a', c', e', hr', _⟩ := (cg.n.row.kept (w' := w') fun k hk => KW k (cg.n.at_ k hk).1 (by have := (cg.n.at_ k hk).2; omega)).row
  simp only [Value.slice.injEq] at e'
  show StrRow _ h.na h.ns
  rw [e'.1]
  exact hr'
 ·show PrRow _ h.pa h.ps
  by_cases hl : h.ps = []
  ·rw [hl]; exact ⟨fun e => absurd rfl e, fun p hp => by cases hp⟩
  ·obtain ⟨b, e1, _, e3⟩ := cg.p hl
   rw [e1]
   exact (e3.kept fun j hj hj2 => KW j (by omega) (by omega)).at
 ·show LvRow _ h.la h.ls
  by_cases hl : h.ls = []
  ·rw [hl]; exact ⟨fun e => absurd rfl e, fun p hp => by cases hp⟩
  ·obtain ⟨b, e1, e3⟩ := cg.l hl
   rw [e1]
   exact (e3.kept fun j hj hj2 => KW j (by omega) (by omega)).at
 ·intro s hs
  rw [List.mem_append, List.mem_singleton, sg.ts] at hs
  rcases hs with hs | rfl
  ·exact hg.tz s hs
  ·decide
 ·show ∀ s ∈ h.ns, _
  rw [sg.ns]
  exact hg.nz
 ·rw [hln, sg.ts]
  exact Nat.succ_le_succ hg.tl
 ·show h.ns.length <= _
  rw [sg.ns]
  exact Nat.le_succ_of_le hg.nl
 ·show h.ps.length <= _
  rw [hc2.1]
  exact Nat.le_succ_of_le hg.pl
 ·show h.ls.length <= _
  rw [hc2.2]
  exact Nat.le_succ_of_le hg.ll
 ·exact fun p hp => Nat.le_succ_of_le (same_rl sg hg.rl p hp)
 ·exact fun p hp => Nat.le_succ_of_le (same_vl sg hg.vl p hp)
theorem AH.same {W : World} {bh : Nat} {h k : GV} {wr : World} (a : AH W bh h wr) (e : h = k) : AH W bh k wr := e ▸ a
theorem LY.row {w : World} {a : Option Addr} {n c : Nat} {l : List LV} (h : LY w (.slice a n c) l) (hr : ∀ p ∈ l, InRow w p.ta p.terms) : n = l.length /\ LvRow w a l := by
 have hl : n = l.length := by
  rcases h.2 with ⟨e, h0⟩ | ⟨g, cap, cur, e, _⟩
  ·simp only [Value.slice.injEq] at e; omega
  ·simp only [Value.slice.injEq] at e; exact e.2.1
 refine ⟨hl, ⟨fun hne => ?_, hr⟩⟩
 have h2 := h.lt
 rcases h.2 with ⟨e, h0⟩ | ⟨g, cap, cur, e, _⟩
 ·exact absurd (List.eq_nil_of_length_eq_zero h0) hne
 ·simp only [Value.slice.injEq] at e
  obtain ⟨rfl, _, _⟩ := e
  refine ⟨g, 0, rfl, h2 g rfl, fun i hi => ?_⟩
  obtain ⟨q1, q2⟩ := levCells_get l i hi
  have c1 := World.ownsRow.cells h (g := g) rfl _ _ q1
  have c2 := World.ownsRow.cells h (g := g) rfl _ _ q2
  rw [add_none] at c1 c2
  exact ⟨c1, by rw [Nat.add_assoc]; exact c2⟩
abbrev lev0 (b : Nat) (n : Int) : LV := ⟨1, some ⟨b, 0, none⟩, 1, [n]⟩
structure AI (W : World) (h : GV) (wr : World) : Prop where
 bel : Below W.heap.size W wr
 ga : GAt 1048578 wr h
 pc : h.ps.length <= h.pc ∨ h.ps = []
theorem AH.lev {W wr w9 : World} {bh : Nat} {k : GV} (a : AH W bh k wr) (n : Int) {a9 : Option Addr} {n9 c9 : Nat} (ly : LY w9 (.slice a9 n9 c9) (lev0 wr.heap.size n :: k.ls))
  (gr : Grew ((wr.alloc (.cells #[.int .i64 n] 3)).alloc (.cells #[.int .i64 1, .slice (some ⟨wr.heap.size, 0, none⟩) 1 1] 76)) w9 (.slice (some ⟨wr.heap.size + 1, 0, none⟩) 1 1) (.slice a9 n9 c9)) :
  w9.heap[bh]? = some (gBox k) /\ n9 = k.ls.length + 1 /\ AI W { k with la := a9, lc := c9, ls := lev0 wr.heap.size n :: k.ls } (w9.setCell ⟨bh, 4, none⟩ (.slice a9 n9 c9)) /\ (w9.setCell ⟨bh, 4, none⟩ (.slice a9 n9 c9)).heap[bh]? = some (gBox { k with la := a9, lc := c9, ls := lev0 wr.heap.size n :: k.ls }) := by
 have bb : Below wr.heap.size wr ((wr.alloc (.cells #[.int .i64 n] 3)).alloc (.cells #[.int .i64 1, .slice (some ⟨wr.heap.size, 0, none⟩) 1 1] 76)) := (below_alloc wr _).trans ((below_alloc _ _).mono (below_alloc wr _).size)
 have hi0 : ((wr.alloc (.cells #[.int .i64 n] 3)).alloc (.cells #[.int .i64 1, .slice (some ⟨wr.heap.size, 0, none⟩) 1 1] 76)).heap[wr.heap.size]? = some (.cells #[.int .i64 n] 3 (0, 0)) := blk_later (heap_alloc_new _ _) (below_alloc _ _)
 have hz : wr.heap.size + 1 < ((wr.alloc (.cells #[.int .i64 n] 3)).alloc (.cells #[.int .i64 1, .slice (some ⟨wr.heap.size, 0, none⟩) 1 1] 76)).heap.size := by
  have := heap_alloc_new (wr.alloc (.cells #[.int .i64 n] 3)) (.cells #[.int .i64 1, .slice (some ⟨wr.heap.size, 0, none⟩) 1 1] 76)
  rw [alZ] at this
  exact lt_of_block this
 have hlt : bh < wr.heap.size := lt_of_block a.hb
 have K9 : ∀ j, j <= wr.heap.size -> w9.heap[j]? = ((wr.alloc (.cells #[.int .i64 n] 3)).alloc (.cells #[.int .i64 1, .slice (some ⟨wr.heap.size, 0, none⟩) 1 1] 76)).heap[j]? := fun j hj => gr.grown.block j (by omega) (fun e => by simp [Value.ownBlock] at e; omega)
 have B9 : Below wr.heap.size wr w9 := bb.grown gr.grown bb.size (fun k e => by simp [Value.ownBlock] at e; omega)
 have hb9 : w9.heap[bh]? = some (gBox k) := blk_later a.hb B9
 have z10 : (w9.setCell ⟨bh, 4, none⟩ (.slice a9 n9 c9)).heap.size = w9.heap.size := by simp
 have K10 : ∀ j, j ≠ bh -> (w9.setCell ⟨bh, 4, none⟩ (.slice a9 n9 c9)).heap[j]? = w9.heap[j]? := fun j hj => Below.heap_setCell _ _ _ _ hj
 have G10 := a.ga (w9.setCell ⟨bh, 4, none⟩ (.slice a9 n9 c9)) (by rw [z10]; exact B9.size) (fun j hj hne => (K10 j hne).trans (B9.block j hj))
 have ow : ∀ j, (Value.slice a9 n9 c9).ownBlock = some j -> wr.heap.size < j := fun j hj => by
  rcases gr.moved with e | ⟨m, e, hm⟩
  ·rw [e] at hj; simp [Value.ownBlock] at hj; omega
  ·rw [e] at hj; cases hj; omega
 have ly2 : LY (w9.setCell ⟨bh, 4, none⟩ (.slice a9 n9 c9)) (.slice a9 n9 c9) (lev0 wr.heap.size n :: k.ls) := ly.kept fun j hj => K10 j (by have := ow j hj; omega)
 have cell0 : (w9.setCell ⟨bh, 4, none⟩ (.slice a9 n9 c9)).heap[wr.heap.size]? = some (.cells #[.int .i64 n] 3 (0, 0)) := (K10 _ (by omega)).trans ((K9 _ (Nat.le_refl _)).trans hi0)
 obtain ⟨e9, row9⟩ := ly2.row (fun p hp => by
  rcases List.mem_cons.1 hp with rfl | hp
  ·intro _
   refine ⟨wr.heap.size, 0, rfl, lt_of_block cell0, fun i hi => ?_⟩
   have : i = 0 := by simpa using hi
   subst this
   exact (cellq_any cell0).trans rfl
  ·exact G10.l.rows p hp)
 refine ⟨hb9, by rw [e9]; rfl, ⟨(a.bel.trans (B9.mono a.bel.size)).setCell (p := ⟨bh, 4, none⟩) a.lo _, ⟨G10.t, G10.n_, G10.p, row9, G10.tz, G10.nz, Nat.le_succ_of_le G10.tl, Nat.le_succ_of_le G10.nl, Nat.le_succ_of_le G10.pl, Nat.succ_le_succ G10.ll, fun p hp => Nat.le_succ_of_le (G10.rl p hp), fun p hp => ?_⟩, a.pc⟩, ?_⟩
 ·rcases List.mem_cons.1 hp with rfl | hp
  ·show 1 <= 1048578
   decide
  ·exact Nat.le_succ_of_le (G10.vl p hp)
 ·have q := heap_set hb9 4 (.slice a9 n9 c9)
  rw [e9] at q ⊢
  exact q
theorem zz_list : ([122, 122, 122] : List UInt8) = zzzB.toList := by decide +kernel
theorem zz_yes {x : ByteArray} (h : x = zzzB) : (x.toList == ([122, 122, 122] : List UInt8)) = true := by
 rw [zz_list, h]
 simp
theorem zz_no {x : ByteArray} (h : x ≠ zzzB) : (x.toList == ([122, 122, 122] : List UInt8)) = false := by
 rw [zz_list]
 simp only [ByteArray.toList_eq, beq_eq_false_iff_ne, ne_eq]
 intro q
 exact h (ByteArray.ext (Array.toList_inj.1 q))
theorem LY.one (w : World) (q : LV) (a t : Value) (ha : a = .int .i64 q.assoc) (ht : t = .slice q.ta q.terms.length q.tc) (b : Nat) (hb : w.heap[b]? = some (.cells #[a, t] 76 (0, 0))) : LY w (.slice (some ⟨b, 0, none⟩) 1 1) [q] := by
 subst ha
 subst ht
 refine ⟨by simp [levCells], .inr ⟨b, 1, #[.int .i64 q.assoc, .slice q.ta q.terms.length q.tc], rfl, Nat.zero_le _, hb, Nat.le_refl _, by decide, rfl, by simp [levCells]⟩⟩
theorem wpList_ly_cat {ops : Array Oper} {rest : List Oper} {o : Oper} {a : Act} {Q : Exit -> Act -> World -> Prop} {w : World} (hgd : o.guard = none) (s x : Operand)
  (ho : o.op = .call { callee := .builtin .append, args := #[s, x], argTypes := #[24, 24] })
  (v : Value) (l m : List LV) (hs : a.eval s = v) (h : LY w v l) (ad : Addr) (c : Nat) (hx : a.eval x = .slice (some ad) m.length c) (hm : LvRow w (some ad) m) (hlen : l.length + m.length <= 100000000)
  (hK : ∀ a' n' c' w', LY w' (.slice a' n' c') (l ++ m) -> Grew w w' v (.slice a' n' c') -> wpList Try.prog ops Q rest (a.put o.dst (.slice a' n' c')) w') : wpList Try.prog ops Q (o :: rest) a w := by
 obtain ⟨i0, hi, hz0, hz1, hz2⟩ := infoLev_parts
 refine wpList_append_own_at w hgd s x 24 ho 0 76 i0 (.agg #[.int .i64 0, .slice none 0 0]) 2 32 Try.underlying24 hi hz0 hz1 hz2 rfl (by decide) v l.length (levCells l) hs h ad m.length c (levCells m) hx (levCells_len m) ?_ (levCells_one m) (by unfold maxLen; omega) (by omega) (Nat.zero_le _) ?_
 ·intro j u hu
  obtain ⟨b, off, e, hb, hcell⟩ := levRow_cells hm (fun e => by rw [e] at hu; simp at hu)
  cases e
  rw [add_none]
  exact hcell j u hu
 ·intro v' w' h2 h3 _ h5
  have h6 : LY w' v' (l ++ m) := by
   unfold LY
   have e : levCells (l ++ m) = levCells l ++ levCells m := by simp [levCells]
   rw [e]
   simpa using h2
  obtain ⟨a', c', rfl⟩ := LY.len h6
  exact hK _ _ _ w' h6 ⟨h3, h5.imp id fun e => ⟨_, e, Nat.le_refl _⟩⟩
theorem wpList_ly_catO {ops : Array Oper} {rest : List Oper} {o : Oper} {a : Act} {Q : Exit -> Act -> World -> Prop} {w : World} (hgd : o.guard = none) (s x : Operand)
  (ho : o.op = .call { callee := .builtin .append, args := #[s, x], argTypes := #[24, 24] })
  (b : Nat) (q : LV) (m : List LV) (hs : a.eval s = .slice (some ⟨b, 0, none⟩) 1 1) (h : LY w (.slice (some ⟨b, 0, none⟩) 1 1) [q]) (ao : Option Addr) (c : Nat) (hx : a.eval x = .slice ao m.length c) (hm : LvRow w ao m) (hlen : m.length <= 2000000)
  (hK : ∀ a' n' c' w', LY w' (.slice a' n' c') (q :: m) -> Grew w w' (.slice (some ⟨b, 0, none⟩) 1 1) (.slice a' n' c') -> wpList Try.prog ops Q rest (a.put o.dst (.slice a' n' c')) w') : wpList Try.prog ops Q (o :: rest) a w := by
 cases ao with
 | some ad => exact wpList_ly_cat hgd s x ho _ [q] m hs h ad c hx hm (by simp; omega) hK
 | none =>
  have hz : m = [] := Classical.byContradiction fun e => by
   obtain ⟨b, off, e1, _⟩ := hm.cells e
   cases e1
  subst hz
  obtain ⟨i0, hi, hz0, hz1, hz2⟩ := infoLev_parts
  refine wpList_plain hgd fun K hK' => ?_
  have hr : (Builtin.append_ #[24, 24] o.type #[.slice (some ⟨b, 0, none⟩) 1 1, .slice none 0 c]).run Try.prog w = .ok (.slice (some ⟨b, 0, none⟩) 1 1) w := by simp [Builtin.append_, run_underlying Try.underlying24, sizeOf, typeInfo, zeroValue, hi, hz0, Builtin.lenOf, Builtin.firstCells, storeCells]
  unfold Oper.wp execOp
  simp only [ho, resolve, invoke, builtin, Sem.run_bind, Sem.run_pure, Result.andThen_ok, List.map_toArray, List.map_cons, List.map_nil, hs, hx, List.length_nil, hr]
  exact hK' _ _ (hK _ _ _ _ h ⟨⟨rfl, rfl, rfl, Nat.le_refl _, fun _ _ _ => rfl⟩, .inl rfl⟩)
theorem up_of {g h : GV} (sg : SameG g h) (a6 a9 : Option Addr) (c6 c9 b : Nat) : Up g { h with ta := a6, tc := c6, ts := h.ts ++ [zzzB], la := a9, lc := c9, ls := lev0 b (g.ts.length : Int) :: h.ls } := by
 refine ⟨?_, sg.ns, sg.start, (core_len sg).1, fun i _ => same_p sg i, ?_, ⟨rfl, rfl⟩, fun i _ => ?_⟩
 ·show h.ts ++ [zzzB] = _
  rw [sg.ts]
 ·show (lev0 b (g.ts.length : Int) :: h.ls).length = _
  rw [List.length_cons, (core_len sg).2]
 ·have := same_l sg i
  exact this
theorem cfe_up {g h : GV} {q : CV} (u : Up g h) (ok : OkC g) (hl : q.look < (g.ts.length : Int)) (hc : cfE g q = 0) : cfE h q = 0 := by
 have el : (h.ts.length : Int) = g.ts.length + 1 := by rw [u.ts]; simp
 obtain ⟨c1, c2, c3, c4, _, c6, c7⟩ := cf_ok hc ok
 have ho : q.red.any (oddU h) = false := by
  rw [List.any_eq_false]
  intro p hp
  have := c2 p hp
  unfold oddU
  rw [u.pl]
  simp
  omega
 have r : rngU h q = true := by
  unfold rngU
  rw [ho, el]
  simp
  omega
 have k : cflU h q = true := by
  unfold cflU
  rw [el]
  split
  ·rename_i e
   have := c6 e
   simp
   omega
  ·rename_i e
   have := c7 e
   simp
   omega
 unfold cfE
 rw [r, k, c3]
 rfl
theorem dec_lev (g : GV) (p : Nat) (t : Int) : -1 <= (decU g p t).lev /\ (decU g p t).lev <= g.ls.length := by
 have hP := lev_ge g.ls (ownU (g.ps.getD p .none))
 have hT := lev_ge g.ls t
 unfold decU duelD plvU eqD
 repeat' split
 all_goals simp only [noneD, redD, shiD, errD]
 all_goals omega
theorem res_lev (g : GV) (look shift : Int) (red : List Int) : -1 <= (resU g look shift red).lev /\ (resU g look shift red).lev <= g.ls.length := by
 have hk : ∀ k (ds : List DV), (∀ d ∈ ds, -1 <= d.lev /\ d.lev <= g.ls.length) -> ∀ d ∈ kindD k ds, -1 <= d.lev /\ d.lev <= g.ls.length := fun k ds h d hd => h d (List.mem_filter.1 hd).1
 have hn : -1 <= (noneD look).lev /\ (noneD look).lev <= g.ls.length := by simp only [noneD]; omega
 unfold resU
 split
 ·exact hn
 ·have hd : ∀ d ∈ red.map fun p => decU g p.toNat look, -1 <= d.lev /\ d.lev <= g.ls.length := fun d hd => by
   obtain ⟨p, _, rfl⟩ := List.mem_map.1 hd
   exact dec_lev g p.toNat look
  generalize (red.map fun p => decU g p.toNat look) = ds at *
  unfold pickD
  split
  ·exact hn
  ·split
   ·rename_i d r e
    exact hk 2 ds hd d (by rw [e]; simp)
   ·split
    ·rename_i d r e
     exact hk 3 ds hd d (by rw [e]; simp)
    ·split
     ·rename_i d r e
      exact hk 1 ds hd d (by rw [e]; simp)
     ·exact hn
theorem rs_up {g h : GV} {q : CV} (u : Up g h) (ok : OkC g) (hl : q.look < (g.ts.length : Int)) (hc : cfE g q = 0) : rsF h 0 q = (upD (resU g q.look q.shift q.red), 0) := by
 obtain ⟨_, c2, _⟩ := cf_ok hc ok
 unfold rsF
 rw [if_neg (by simp), if_neg (by rw [cfe_up u ok hl hc]; simp), res_up u ok hl]
 rw [List.any_eq_false]
 intro p hp
 have := c2 p hp
 unfold oddU
 simp
 omega
theorem D2.set {n m i : Nat} {w : World} {o : Obj} {u : Value} {d : DV} {ao : Option Addr} {c : Nat} (h : D2 n w d ao c) (hm : m < n) : D2 n ((w.alloc o).setCell ⟨m, i, none⟩ u) d ao c := by
 rcases h with h | ⟨b, cur, h1, h2, h3, h4⟩
 ·exact .inl h
 ·exact .inr ⟨b, cur, h1, h2, (Below.heap_setCell _ _ _ _ (show b ≠ m by omega)).trans (blk_later h3 (below_alloc _ _)), h4⟩
theorem zz_mem {l : List ByteArray} (h : ∀ j, j < l.length -> l.getD j ByteArray.empty ≠ zzzB) : zzzB ∉ l := fun hm => by
 obtain ⟨i, hi, e⟩ := getD_mem (d := ByteArray.empty) hm
 exact h i hi e.symm
end Go.Proofs.Ytlkkllehaabebaa
namespace Go.Proofs.Ytlkkllehaabebaa
set_option linter.unusedVariables false
set_option maxRecDepth 100000
set_option maxHeartbeats 16000000
open Go.RowKit Go.Maps
set_option linter.unusedSimpArgs false in
theorem ahead_walk (g : GV) (q : CV) (tm : Int) (w : World) (h : GAt 1048576 w g) (hpc : g.ps.length <= g.pc) (hl : q.red.length <= 1048576) (hr : InRow w q.ra q.red) (er at_ : Int) (hE : checkG g (checkF g.ts g.ns) = (er, at_)) :
  Calls Try.prog 7 #[g.val, q.val, .int .i64 tm] w fun e w' => e = .returned (.bool true) /\ Below w.heap.size w w' := by
 have N0 : Hid (GC g q w ((w.alloc (gBox g)).alloc (.cells #[.int .i64 q.st, .int .i64 q.look, .int .i64 q.shift, .slice q.ra q.red.length q.rc] 70))) := GC.new g q w
 obtain ⟨y0, y1, y2, y3⟩ := cb_cells (q := q) N0.out.cb
 obtain ⟨x0, x1, x2, x3, x4⟩ := gb_cells N0.out.gb
 have HG1 : Hid (∀ w', Below w.heap.size w w' -> GAt 1048576 w' g) := fun w' hb => h.later hb
 have HRW : Hid (∀ w', Below w.heap.size w w' -> InRow w' q.ra q.red) := fun w' hb => hr.later hb
 have RS1 : Hid (∀ w', Below w.heap.size w w' -> Calls Try.prog 27 #[g.val, q.val] w' (DqO w' (rsF g er q))) := fun w' hb => Resolve_P g q w' ((h.later hb).mono (by decide)) hpc er at_ hE (by omega) (hr.later hb)
 have HR0 : Hid (∃ r, r = rsF g er q) := ⟨_, rfl⟩
 have HRS : Hid (∀ r, rsF g er q = r -> r.2 = 0 -> er = 0 /\ cfE g q = 0 /\ r.1 = resU g q.look q.shift q.red) := fun r e e2 => by
  subst e
  unfold rsF at e2 ⊢
  by_cases a : er = 0
  ·rw [if_neg (by simpa using a)] at e2 ⊢
   by_cases b : cfE g q = 0
   ·rw [if_neg (by simpa using b)]
    exact ⟨a, b, rfl⟩
   ·rw [if_pos b] at e2
    exact absurd e2 b
  ·rw [if_pos a] at e2
   exact absurd e2 a
 have htl : g.ts.length <= 1048576 := h.tl
 have hnl : g.ns.length <= 1048576 := h.nl
 clear HR0 h hr
 generalize hrq : rsF g er q = r at *
 obtain ⟨d, e2⟩ := r
 go_enter Try.func7, Try.ntmps7
 go_wp2_with (first
  | (go_at_call 15; refine (works_P _).mono ?_; rintro e w1 ⟨rfl, b1⟩; have N1 : Hid (GC g q w w1) := N0.out.later b1; clear b1 x0 x1 x2 x3 x4 y0 y1 y2 y3; obtain ⟨x0, x1, x2, x3, x4⟩ := gb_cells N1.out.gb; obtain ⟨y0, y1, y2, y3⟩ := cb_cells (q := q) N1.out.cb)
  | (go_at_call 27; refine (RS1.out _ N1.out.bel).mono ?_; rintro e w2 ⟨ao, c, rfl, d2, b2⟩; have N2 : Hid (GC g q w (w2.alloc (.cells #[.int .i64 d.look, .int .i64 d.kind, .int .i64 d.prod, .slice ao d.drop.length c, .bool d.sd, .int .i64 d.lev] 47)) /\ (w2.alloc (.cells #[.int .i64 d.look, .int .i64 d.kind, .int .i64 d.prod, .slice ao d.drop.length c, .bool d.sd, .int .i64 d.lev] 47)).heap[w2.heap.size]? = some (.cells #[.int .i64 d.look, .int .i64 d.kind, .int .i64 d.prod, .slice ao d.drop.length c, .bool d.sd, .int .i64 d.lev] 47 (0, 0)) /\ InRow (w2.alloc (.cells #[.int .i64 d.look, .int .i64 d.kind, .int .i64 d.prod, .slice ao d.drop.length c, .bool d.sd, .int .i64 d.lev] 47)) ao d.drop /\ InRow w2 ao d.drop) := ⟨(N1.out.later b2).later (below_alloc _ _), heap_alloc_new _ _, d2.row.later (below_alloc _ _), d2.row⟩; clear d2 b2 x0 x1 x2 x3 x4 y0 y1 y2 y3; obtain ⟨x0, x1, x2, x3, x4⟩ := gb_cells N2.out.1.gb)
  | (go_at_call 29; refine (copy_any g _ (HG1.out _ N2.out.1.bel)).mono ?_; rintro e w4 ⟨h, M, A, H, E, rfl, sg, cg, b4⟩; have N4 : Hid (GC g q w (w4.alloc (gBox h)) /\ (w4.alloc (gBox h)).heap[w2.heap.size]? = some (.cells #[.int .i64 d.look, .int .i64 d.kind, .int .i64 d.prod, .slice ao d.drop.length c, .bool d.sd, .int .i64 d.lev] 47 (0, 0)) /\ InRow (w4.alloc (gBox h)) ao d.drop /\ (w4.alloc (gBox h)).heap[w4.heap.size]? = some (gBox h) /\ SameG g h /\ CG ((w2.alloc (.cells #[.int .i64 d.look, .int .i64 d.kind, .int .i64 d.prod, .slice ao d.drop.length c, .bool d.sd, .int .i64 d.lev] 47)).heap.size + 2) w4 h M A H E /\ Below (w2.alloc (.cells #[.int .i64 d.look, .int .i64 d.kind, .int .i64 d.prod, .slice ao d.drop.length c, .bool d.sd, .int .i64 d.lev] 47)).heap.size (w2.alloc (.cells #[.int .i64 d.look, .int .i64 d.kind, .int .i64 d.prod, .slice ao d.drop.length c, .bool d.sd, .int .i64 d.lev] 47)) w4) := ⟨(N2.out.1.later b4).later (below_alloc _ _), blk_later (blk_later N2.out.2.1 b4) (below_alloc _ _), (N2.out.2.2.1.later b4).later (below_alloc _ _), heap_alloc_new _ _, sg, cg, b4⟩; clear sg cg b4 x0 x1 x2 x3 x4; obtain ⟨v0, v1, v2, v3, v4⟩ := gb_cells N4.out.2.2.2.1)
  | (at_builtin; refine wpList_gs_append_w rfl _ _ rfl (.slice h.ta h.ts.length h.tc) h.ts rfl (N4.out.2.2.2.2.2.1.t.row.later ((below_alloc w4 _).trans ((below_alloc _ _).mono (below_alloc w4 _).size))) (w4.heap.size + 1) 1 zzzB rfl ((cellq_any (by have := heap_alloc_new (w4.alloc (gBox h)) (.cells #[.string zzzB] 9); rwa [alZ] at this)).trans rfl) (by have := (HG1.out _ N2.out.1.bel).tl; rw [N4.out.2.2.2.2.1.ts]; omega) ?_; intro a6 n6 c6 w6 gs gr; have A6 : Hid _ := AH.app (HG1.out _ N2.out.1.bel) N4.out.2.2.2.2.1 N4.out.2.2.2.2.2.1 N4.out.2.2.2.2.2.2 gs gr; clear gs gr v0 v1 v2 v3 v4; obtain ⟨v0, v1, v2, v3, v4⟩ := gb_cells A6.out.1; have fz : w6.frozen? ⟨w4.heap.size, 0, none⟩ = false := by unfold World.frozen?; rw [A6.out.1]; rfl))
 obtain ⟨_, rfl, A7⟩ := A6.out
 have A8 : Hid (AH (w2.alloc (.cells #[.int .i64 d.look, .int .i64 d.kind, .int .i64 d.prod, .slice ao d.drop.length c, .bool d.sd, .int .i64 d.lev] 47)) w4.heap.size { h with ta := a6, tc := c6, ts := h.ts ++ [zzzB] } (w6.setCell ⟨w4.heap.size, 0, none⟩ (.slice a6 (h.ts.length + 1) c6))) := A7
 have SG : Hid (SameG g h) := N4.out.2.2.2.2.1
 clear A6 A7 N4 v0 v1 v2 v3 v4 fz
 generalize hk7 : { h with ta := a6, tc := c6, ts := h.ts ++ [zzzB] } = k7 at A8
 have K7 : Hid (k7 = { h with ta := a6, tc := c6, ts := h.ts ++ [zzzB] }) := hk7.symm
 clear hk7
 generalize (w6.setCell ⟨w4.heap.size, 0, none⟩ (.slice a6 (h.ts.length + 1) c6)) = w7 at *
 generalize w4.heap.size = bh at *
 go_loopw [10] (fun z wr => ∃ i : Nat, i <= g.ts.length /\ z = .int .i64 i /\ (∀ j, j < i -> g.ts.getD j ByteArray.empty ≠ zzzB) /\ AH (w2.alloc (.cells #[.int .i64 d.look, .int .i64 d.kind, .int .i64 d.prod, .slice ao d.drop.length c, .bool d.sd, .int .i64 d.lev] 47)) bh k7 wr) (fun z _ => g.ts.length - (intOf z).toNat)
 case atStart => exact ⟨0, Nat.zero_le _, rfl, fun j hj => absurd hj (Nat.not_lt_zero _), A8.out⟩
 case round =>
  clear A8
  obtain ⟨i, hi, rfl, hno, ha⟩ := hrel
  have Ha : Hid (AH (w2.alloc (.cells #[.int .i64 d.look, .int .i64 d.kind, .int .i64 d.prod, .slice ao d.drop.length c, .bool d.sd, .int .i64 d.lev] 47)) bh k7 wr) := ha
  have Hno : Hid (∀ j, j < i -> g.ts.getD j ByteArray.empty ≠ zzzB) := hno
  have GCr : Hid (GC g q w wr) := N2.out.1.later ha.bel
  clear ha hno
  obtain ⟨x0, x1, x2, x3, x4⟩ := gb_cells GCr.out.gb
  by_cases hlt : i < g.ts.length
  ·obtain ⟨rb, ro, hta, hrb, hrc⟩ := (HG1.out wr GCr.out.bel).t (by intro e; rw [e] at hlt; simp at hlt)
   have cx := hrc i hlt
   have ilt : (i : Int) < (g.ts.length : Int) := by omega
   clear hrc
   rw [hta] at x0
   have HF : Hid (g.ts.getD i ByteArray.empty ≠ zzzB -> ∀ j, j < i + 1 -> g.ts.getD j ByteArray.empty ≠ zzzB) := fun e j hj => by
    rcases Nat.lt_succ_iff_lt_or_eq.1 hj with q | rfl
    ·exact Hno.out j q
    ·exact e
   generalize g.ts.getD i ByteArray.empty = x at *
   by_cases hz : x = zzzB
   ·have tz := zz_yes hz
    clear hz
    go_wp2
    go_ret
    exact ⟨rfl, GCr.out.bel⟩
   ·have tz := zz_no hz
    have HZ : Hid (x ≠ zzzB) := hz
    clear hz
    go_wp2
    go_roundw
    case rel => exact ⟨i + 1, by omega, by go_num, HF.out HZ.out, Ha.out⟩
    case measure => simp [intOf]; omega
  ·have ilt : ¬ (i : Int) < (g.ts.length : Int) := by omega
   have hie : i = g.ts.length := by omega
   subst hie
   have HT : Hid (zzzB ∉ g.ts) := zz_mem Hno.out
   clear Hno
   go_wp2
   go_loopw [11] (fun z wr => ∃ i : Nat, i <= g.ns.length /\ z = .int .i64 i /\ (∀ j, j < i -> g.ns.getD j ByteArray.empty ≠ zzzB) /\ AH (w2.alloc (.cells #[.int .i64 d.look, .int .i64 d.kind, .int .i64 d.prod, .slice ao d.drop.length c, .bool d.sd, .int .i64 d.lev] 47)) bh k7 wr) (fun z _ => g.ns.length - (intOf z).toNat)
   case atStart => exact ⟨0, Nat.zero_le _, rfl, fun j hj => absurd hj (Nat.not_lt_zero _), Ha.out⟩
   case round =>
    clear Ha GCr x0 x1 x2 x3 x4
    obtain ⟨i, hi, rfl, hno, ha⟩ := hrel
    have Ha : Hid (AH (w2.alloc (.cells #[.int .i64 d.look, .int .i64 d.kind, .int .i64 d.prod, .slice ao d.drop.length c, .bool d.sd, .int .i64 d.lev] 47)) bh k7 wr) := ha
    have Hno : Hid (∀ j, j < i -> g.ns.getD j ByteArray.empty ≠ zzzB) := hno
    have GCr : Hid (GC g q w wr) := N2.out.1.later ha.bel
    clear ha hno
    obtain ⟨x0, x1, x2, x3, x4⟩ := gb_cells GCr.out.gb
    by_cases hlt : i < g.ns.length
    ·obtain ⟨rb, ro, hta, hrb, hrc⟩ := (HG1.out wr GCr.out.bel).n_ (by intro e; rw [e] at hlt; simp at hlt)
     have cx := hrc i hlt
     have ilt : (i : Int) < (g.ns.length : Int) := by omega
     clear hrc
     rw [hta] at x1
     have HF : Hid (g.ns.getD i ByteArray.empty ≠ zzzB -> ∀ j, j < i + 1 -> g.ns.getD j ByteArray.empty ≠ zzzB) := fun e j hj => by
      rcases Nat.lt_succ_iff_lt_or_eq.1 hj with q | rfl
      ·exact Hno.out j q
      ·exact e
     generalize g.ns.getD i ByteArray.empty = x at *
     by_cases hz : x = zzzB
     ·have tz := zz_yes hz
      clear hz
      go_wp2
      go_ret
      exact ⟨rfl, GCr.out.bel⟩
     ·have tz := zz_no hz
      have HZ : Hid (x ≠ zzzB) := hz
      clear hz
      go_wp2
      go_roundw
      case rel => exact ⟨i + 1, by omega, by go_num, HF.out HZ.out, Ha.out⟩
      case measure => simp [intOf]; omega
    ·have ilt : ¬ (i : Int) < (g.ns.length : Int) := by omega
     have hie : i = g.ns.length := by omega
     subst hie
     have HT2 : Hid (zzzB ∉ g.ns) := zz_mem Hno.out
     clear Hno
     have B9 : Hid (Below wr.heap.size wr ((wr.alloc (.cells #[.int .i64 (g.ts.length : Int)] 3)).alloc (.cells #[.int .i64 1, .slice (some ⟨wr.heap.size, 0, none⟩) 1 1] 76))) := (below_alloc wr _).trans ((below_alloc _ _).mono (below_alloc wr _).size)
     obtain ⟨u0, u1, u2, u3, u4⟩ := gb_cells (blk_later Ha.out.hb B9.out)
     have L1 : Hid (LY ((wr.alloc (.cells #[.int .i64 (g.ts.length : Int)] 3)).alloc (.cells #[.int .i64 1, .slice (some ⟨wr.heap.size, 0, none⟩) 1 1] 76)) (.slice (some ⟨wr.heap.size + 1, 0, none⟩) 1 1) [lev0 wr.heap.size (g.ts.length : Int)]) := LY.one _ _ _ _ rfl rfl _ (by have := heap_alloc_new (wr.alloc (.cells #[.int .i64 (g.ts.length : Int)] 3)) (.cells #[.int .i64 1, .slice (some ⟨wr.heap.size, 0, none⟩) 1 1] 76); rwa [alZ] at this)
     have KL : Hid (k7.ls.length <= 1048577) := Ha.out.at.ll
     have LQ : Hid (LvRow ((wr.alloc (.cells #[.int .i64 (g.ts.length : Int)] 3)).alloc (.cells #[.int .i64 1, .slice (some ⟨wr.heap.size, 0, none⟩) 1 1] 76)) k7.la k7.ls) := Ha.out.at.l.later B9.out
     by_cases te : e2 = 0
     ·by_cases hq : q.look < (g.ts.length : Int)
      ·by_cases h64 : g.ts.length < 64
       ·by_cases h32 : g.ls.length < 32
        ·obtain ⟨he0, hcf, hd⟩ := HRS.out (d, e2) rfl te
         simp only at hd
         subst he0
         subst te
         have ok : OkC g := OkC.of (by rw [hE])
         have hcF := checkF_ok hE
         have hlv := res_lev g q.look q.shift q.red
         have hdl := res_len ok hcf
         rw [<- hd] at hlv hdl
         have U9 : Hid (∀ a9 c9, Up g { k7 with la := a9, lc := c9, ls := lev0 wr.heap.size (g.ts.length : Int) :: k7.ls }) := fun a9 c9 => by rw [K7.out]; exact up_of SG.out a6 a9 c6 c9 _
         have RS2 : Hid (∀ a9 c9 w', AI (w2.alloc (.cells #[.int .i64 d.look, .int .i64 d.kind, .int .i64 d.prod, .slice ao d.drop.length c, .bool d.sd, .int .i64 d.lev] 47)) { k7 with la := a9, lc := c9, ls := lev0 wr.heap.size (g.ts.length : Int) :: k7.ls } w' -> Below w.heap.size w w' -> Calls Try.prog 27 #[GV.val { k7 with la := a9, lc := c9, ls := lev0 wr.heap.size (g.ts.length : Int) :: k7.ls }, q.val] w' (DqO w' (upD d, 0))) := fun a9 c9 w' ai bl => by
          have u := U9.out a9 c9
          have hE9 := check_up u ok hcF HT.out HT2.out h64 h32
          have := Resolve_P _ q w' (ai.ga.mono (by decide)) (by rcases ai.pc with e | e; exact e; rw [e]; exact Nat.zero_le _) 0 0 hE9 (by omega) (HRW.out _ bl)
          rw [rs_up u ok hq hcf, <- hd] at this
          exact this
         have t1 : ((0 : Int) != 0) = false := by decide
         have t2 : ¬ (g.ts.length : Int) <= q.look := by omega
         have t3 : ¬ (64 : Int) <= g.ts.length := by omega
         have t4 : ¬ (32 : Int) <= g.ls.length := by omega
         have HD : Hid (d.drop.length <= 257) := hdl
         clear hd ok hcF hdl
         by_cases hv : 0 <= d.lev
         ·have e9 : upD d = ⟨d.look, d.kind, d.prod, d.drop, d.sd, d.lev + 1⟩ := by simp only [upD, upI]; rw [if_neg (by omega)]
          rw [e9] at RS2
          have hv1 : d.lev <= 32 := by omega
          go_wp2_with (first
           | (at_builtin; refine wpList_ly_catO rfl _ _ rfl (wr.heap.size + 1) (lev0 wr.heap.size (g.ts.length : Int)) k7.ls rfl L1.out k7.la k7.lc rfl LQ.out (Nat.le_trans KL.out (by decide)) ?_; intro a9 n9 c9 w9 ly gr; obtain ⟨hb9, rfl, ai, hb10⟩ := Ha.out.lev (g.ts.length : Int) ly gr; have AI9 : Hid (AI (w2.alloc (.cells #[.int .i64 d.look, .int .i64 d.kind, .int .i64 d.prod, .slice ao d.drop.length c, .bool d.sd, .int .i64 d.lev] 47)) { k7 with la := a9, lc := c9, ls := lev0 wr.heap.size (g.ts.length : Int) :: k7.ls } (w9.setCell ⟨bh, 4, none⟩ (.slice a9 (k7.ls.length + 1) c9)) /\ (w9.setCell ⟨bh, 4, none⟩ (.slice a9 (k7.ls.length + 1) c9)).heap[bh]? = some (gBox { k7 with la := a9, lc := c9, ls := lev0 wr.heap.size (g.ts.length : Int) :: k7.ls })) := ⟨ai, hb10⟩; have GX : Hid (GC g q w (w9.setCell ⟨bh, 4, none⟩ (.slice a9 (k7.ls.length + 1) c9)) /\ (w9.setCell ⟨bh, 4, none⟩ (.slice a9 (k7.ls.length + 1) c9)).heap[w2.heap.size]? = some (.cells #[.int .i64 d.look, .int .i64 d.kind, .int .i64 d.prod, .slice ao d.drop.length c, .bool d.sd, .int .i64 d.lev] 47 (0, 0)) /\ InRow (w9.setCell ⟨bh, 4, none⟩ (.slice a9 (k7.ls.length + 1) c9)) ao d.drop) := ⟨N2.out.1.later ai.bel, blk_later N2.out.2.1 ai.bel, N2.out.2.2.1.later ai.bel⟩; clear ly gr u0 u1 u2 u3 u4 x0 x1 x2 x3 x4 ai hb10; obtain ⟨v0, v1, v2, v3, v4⟩ := gb_cells hb9; have fz : w9.frozen? ⟨bh, 4, none⟩ = false := (by unfold World.frozen?; rw [hb9]; rfl); clear hb9; obtain ⟨x0, x1, x2, x3, x4⟩ := gb_cells GX.out.1.gb; obtain ⟨y0, y1, y2, y3⟩ := cb_cells (q := q) GX.out.1.cb; obtain ⟨p0, p1, p2, p3, p4⟩ := gb_cells AI9.out.2)
           | (go_at_call 27; refine (RS2.out a9 c9 _ AI9.out.1 GX.out.1.bel).mono ?_; rintro e w11 ⟨ao2, c2, rfl, d2, b11⟩; have S11 : Hid ((w11.alloc (.cells #[.int .i64 d.look, .int .i64 d.kind, .int .i64 d.prod, .slice ao2 d.drop.length c2, .bool d.sd, .int .i64 (d.lev + 1)] 47)).heap[w2.heap.size]? = some (.cells #[.int .i64 d.look, .int .i64 d.kind, .int .i64 d.prod, .slice ao d.drop.length c, .bool d.sd, .int .i64 d.lev] 47 (0, 0)) /\ (w11.alloc (.cells #[.int .i64 d.look, .int .i64 d.kind, .int .i64 d.prod, .slice ao2 d.drop.length c2, .bool d.sd, .int .i64 (d.lev + 1)] 47)).heap[w11.heap.size]? = some (.cells #[.int .i64 d.look, .int .i64 d.kind, .int .i64 d.prod, .slice ao2 d.drop.length c2, .bool d.sd, .int .i64 (d.lev + 1)] 47 (0, 0)) /\ w2.heap.size < (w9.setCell ⟨bh, 4, none⟩ (.slice a9 (k7.ls.length + 1) c9)).heap.size /\ Below (w9.setCell ⟨bh, 4, none⟩ (.slice a9 (k7.ls.length + 1) c9)).heap.size (w9.setCell ⟨bh, 4, none⟩ (.slice a9 (k7.ls.length + 1) c9)) (w11.alloc (.cells #[.int .i64 d.look, .int .i64 d.kind, .int .i64 d.prod, .slice ao2 d.drop.length c2, .bool d.sd, .int .i64 (d.lev + 1)] 47)) /\ w2.heap.size < w11.heap.size) := ⟨blk_later (blk_later GX.out.2.1 b11) (below_alloc _ _), heap_alloc_new _ _, lt_of_block GX.out.2.1, b11.trans ((below_alloc _ _).mono b11.size), lt_of_block (blk_later GX.out.2.1 b11)⟩; have R13 : Hid (InRow ((w11.alloc (.cells #[.int .i64 d.look, .int .i64 d.kind, .int .i64 d.prod, .slice ao2 d.drop.length c2, .bool d.sd, .int .i64 (d.lev + 1)] 47)).setCell ⟨w2.heap.size, 5, none⟩ (.int .i64 (d.lev + 1))) ao d.drop /\ InRow ((w11.alloc (.cells #[.int .i64 d.look, .int .i64 d.kind, .int .i64 d.prod, .slice ao2 d.drop.length c2, .bool d.sd, .int .i64 (d.lev + 1)] 47)).setCell ⟨w2.heap.size, 5, none⟩ (.int .i64 (d.lev + 1))) ao2 d.drop /\ Below w.heap.size w ((w11.alloc (.cells #[.int .i64 d.look, .int .i64 d.kind, .int .i64 d.prod, .slice ao2 d.drop.length c2, .bool d.sd, .int .i64 (d.lev + 1)] 47)).setCell ⟨w2.heap.size, 5, none⟩ (.int .i64 (d.lev + 1)))) := ⟨N2.out.2.2.2.later ((((below_alloc w2 _).trans (AI9.out.1.bel.mono (below_alloc w2 _).size)).trans (S11.out.2.2.2.1.mono (Nat.le_of_lt S11.out.2.2.1))).setCell (p := ⟨w2.heap.size, 5, none⟩) (Nat.le_refl _) _), (d2.set S11.out.2.2.1).row, (GX.out.1.bel.trans (S11.out.2.2.2.1.mono GX.out.1.bel.size)).setCell (p := ⟨w2.heap.size, 5, none⟩) (by have := lt_of_block N2.out.1.cb; rw [alZ] at this; show w.heap.size <= w2.heap.size; omega) _⟩; clear d2 b11; have o5 : (w11.alloc (.cells #[.int .i64 d.look, .int .i64 d.kind, .int .i64 d.prod, .slice ao2 d.drop.length c2, .bool d.sd, .int .i64 (d.lev + 1)] 47)).cell? ⟨w2.heap.size, 5, none⟩ = some (.int .i64 d.lev) := (cellq_any S11.out.1).trans rfl; have fz5 : (w11.alloc (.cells #[.int .i64 d.look, .int .i64 d.kind, .int .i64 d.prod, .slice ao2 d.drop.length c2, .bool d.sd, .int .i64 (d.lev + 1)] 47)).frozen? ⟨w2.heap.size, 5, none⟩ = false := (by unfold World.frozen?; rw [S11.out.1]; rfl); have H13 : Hid (((w11.alloc (.cells #[.int .i64 d.look, .int .i64 d.kind, .int .i64 d.prod, .slice ao2 d.drop.length c2, .bool d.sd, .int .i64 (d.lev + 1)] 47)).setCell ⟨w2.heap.size, 5, none⟩ (.int .i64 (d.lev + 1))).heap[w2.heap.size]? = some (.cells #[.int .i64 d.look, .int .i64 d.kind, .int .i64 d.prod, .slice ao d.drop.length c, .bool d.sd, .int .i64 (d.lev + 1)] 47 (0, 0)) /\ ((w11.alloc (.cells #[.int .i64 d.look, .int .i64 d.kind, .int .i64 d.prod, .slice ao2 d.drop.length c2, .bool d.sd, .int .i64 (d.lev + 1)] 47)).setCell ⟨w2.heap.size, 5, none⟩ (.int .i64 (d.lev + 1))).heap[w11.heap.size]? = some (.cells #[.int .i64 d.look, .int .i64 d.kind, .int .i64 d.prod, .slice ao2 d.drop.length c2, .bool d.sd, .int .i64 (d.lev + 1)] 47 (0, 0))) := ⟨heap_set S11.out.1 5 _, (Below.heap_setCell _ _ _ _ (show w11.heap.size ≠ w2.heap.size from Nat.ne_of_gt S11.out.2.2.2.2)).trans S11.out.2.1⟩; have m0 : ((w11.alloc (.cells #[.int .i64 d.look, .int .i64 d.kind, .int .i64 d.prod, .slice ao2 d.drop.length c2, .bool d.sd, .int .i64 (d.lev + 1)] 47)).setCell ⟨w2.heap.size, 5, none⟩ (.int .i64 (d.lev + 1))).cell? ⟨w2.heap.size, 0, none⟩ = some (.int .i64 d.look) := (cellq_any H13.out.1).trans rfl; have n0 : ((w11.alloc (.cells #[.int .i64 d.look, .int .i64 d.kind, .int .i64 d.prod, .slice ao2 d.drop.length c2, .bool d.sd, .int .i64 (d.lev + 1)] 47)).setCell ⟨w2.heap.size, 5, none⟩ (.int .i64 (d.lev + 1))).cell? ⟨w11.heap.size, 0, none⟩ = some (.int .i64 d.look) := (cellq_any H13.out.2).trans rfl; have m1 : ((w11.alloc (.cells #[.int .i64 d.look, .int .i64 d.kind, .int .i64 d.prod, .slice ao2 d.drop.length c2, .bool d.sd, .int .i64 (d.lev + 1)] 47)).setCell ⟨w2.heap.size, 5, none⟩ (.int .i64 (d.lev + 1))).cell? ⟨w2.heap.size, 1, none⟩ = some (.int .i64 d.kind) := (cellq_any H13.out.1).trans rfl; have n1 : ((w11.alloc (.cells #[.int .i64 d.look, .int .i64 d.kind, .int .i64 d.prod, .slice ao2 d.drop.length c2, .bool d.sd, .int .i64 (d.lev + 1)] 47)).setCell ⟨w2.heap.size, 5, none⟩ (.int .i64 (d.lev + 1))).cell? ⟨w11.heap.size, 1, none⟩ = some (.int .i64 d.kind) := (cellq_any H13.out.2).trans rfl; have m2 : ((w11.alloc (.cells #[.int .i64 d.look, .int .i64 d.kind, .int .i64 d.prod, .slice ao2 d.drop.length c2, .bool d.sd, .int .i64 (d.lev + 1)] 47)).setCell ⟨w2.heap.size, 5, none⟩ (.int .i64 (d.lev + 1))).cell? ⟨w2.heap.size, 2, none⟩ = some (.int .i64 d.prod) := (cellq_any H13.out.1).trans rfl; have n2 : ((w11.alloc (.cells #[.int .i64 d.look, .int .i64 d.kind, .int .i64 d.prod, .slice ao2 d.drop.length c2, .bool d.sd, .int .i64 (d.lev + 1)] 47)).setCell ⟨w2.heap.size, 5, none⟩ (.int .i64 (d.lev + 1))).cell? ⟨w11.heap.size, 2, none⟩ = some (.int .i64 d.prod) := (cellq_any H13.out.2).trans rfl; have m3 : ((w11.alloc (.cells #[.int .i64 d.look, .int .i64 d.kind, .int .i64 d.prod, .slice ao2 d.drop.length c2, .bool d.sd, .int .i64 (d.lev + 1)] 47)).setCell ⟨w2.heap.size, 5, none⟩ (.int .i64 (d.lev + 1))).cell? ⟨w2.heap.size, 3, none⟩ = some (.slice ao d.drop.length c) := (cellq_any H13.out.1).trans rfl; have n3 : ((w11.alloc (.cells #[.int .i64 d.look, .int .i64 d.kind, .int .i64 d.prod, .slice ao2 d.drop.length c2, .bool d.sd, .int .i64 (d.lev + 1)] 47)).setCell ⟨w2.heap.size, 5, none⟩ (.int .i64 (d.lev + 1))).cell? ⟨w11.heap.size, 3, none⟩ = some (.slice ao2 d.drop.length c2) := (cellq_any H13.out.2).trans rfl; have m4 : ((w11.alloc (.cells #[.int .i64 d.look, .int .i64 d.kind, .int .i64 d.prod, .slice ao2 d.drop.length c2, .bool d.sd, .int .i64 (d.lev + 1)] 47)).setCell ⟨w2.heap.size, 5, none⟩ (.int .i64 (d.lev + 1))).cell? ⟨w2.heap.size, 4, none⟩ = some (.bool d.sd) := (cellq_any H13.out.1).trans rfl; have n4 : ((w11.alloc (.cells #[.int .i64 d.look, .int .i64 d.kind, .int .i64 d.prod, .slice ao2 d.drop.length c2, .bool d.sd, .int .i64 (d.lev + 1)] 47)).setCell ⟨w2.heap.size, 5, none⟩ (.int .i64 (d.lev + 1))).cell? ⟨w11.heap.size, 4, none⟩ = some (.bool d.sd) := (cellq_any H13.out.2).trans rfl; have m5 : ((w11.alloc (.cells #[.int .i64 d.look, .int .i64 d.kind, .int .i64 d.prod, .slice ao2 d.drop.length c2, .bool d.sd, .int .i64 (d.lev + 1)] 47)).setCell ⟨w2.heap.size, 5, none⟩ (.int .i64 (d.lev + 1))).cell? ⟨w2.heap.size, 5, none⟩ = some (.int .i64 (d.lev + 1)) := (cellq_any H13.out.1).trans rfl; have n5 : ((w11.alloc (.cells #[.int .i64 d.look, .int .i64 d.kind, .int .i64 d.prod, .slice ao2 d.drop.length c2, .bool d.sd, .int .i64 (d.lev + 1)] 47)).setCell ⟨w2.heap.size, 5, none⟩ (.int .i64 (d.lev + 1))).cell? ⟨w11.heap.size, 5, none⟩ = some (.int .i64 (d.lev + 1)) := (cellq_any H13.out.2).trans rfl)
           | (go_at_call 17; refine (same_P ⟨d.look, d.kind, d.prod, d.drop, d.sd, d.lev + 1⟩ ao ao2 c c2 _ (by have := HD.out; show d.drop.length <= _; omega) R13.out.1 R13.out.2.1).mono ?_; rintro e w14 ⟨rfl, b14⟩; have E14 : Hid (Below w.heap.size w w14) := R13.out.2.2.trans (b14.mono R13.out.2.2.size); clear b14))
          go_ret
          exact ⟨rfl, E14.out⟩
         ·have e9 : upD d = d := by simp only [upD, upI]; rw [if_pos (show d.lev = -1 by omega)]; (have : d.lev = -1 := by omega); rw [<- this]
          rw [e9] at RS2
          go_wp2_with (first
           | (at_builtin; refine wpList_ly_catO rfl _ _ rfl (wr.heap.size + 1) (lev0 wr.heap.size (g.ts.length : Int)) k7.ls rfl L1.out k7.la k7.lc rfl LQ.out (Nat.le_trans KL.out (by decide)) ?_; intro a9 n9 c9 w9 ly gr; obtain ⟨hb9, rfl, ai, hb10⟩ := Ha.out.lev (g.ts.length : Int) ly gr; have AI9 : Hid (AI (w2.alloc (.cells #[.int .i64 d.look, .int .i64 d.kind, .int .i64 d.prod, .slice ao d.drop.length c, .bool d.sd, .int .i64 d.lev] 47)) { k7 with la := a9, lc := c9, ls := lev0 wr.heap.size (g.ts.length : Int) :: k7.ls } (w9.setCell ⟨bh, 4, none⟩ (.slice a9 (k7.ls.length + 1) c9)) /\ (w9.setCell ⟨bh, 4, none⟩ (.slice a9 (k7.ls.length + 1) c9)).heap[bh]? = some (gBox { k7 with la := a9, lc := c9, ls := lev0 wr.heap.size (g.ts.length : Int) :: k7.ls })) := ⟨ai, hb10⟩; have GX : Hid (GC g q w (w9.setCell ⟨bh, 4, none⟩ (.slice a9 (k7.ls.length + 1) c9)) /\ (w9.setCell ⟨bh, 4, none⟩ (.slice a9 (k7.ls.length + 1) c9)).heap[w2.heap.size]? = some (.cells #[.int .i64 d.look, .int .i64 d.kind, .int .i64 d.prod, .slice ao d.drop.length c, .bool d.sd, .int .i64 d.lev] 47 (0, 0)) /\ InRow (w9.setCell ⟨bh, 4, none⟩ (.slice a9 (k7.ls.length + 1) c9)) ao d.drop) := ⟨N2.out.1.later ai.bel, blk_later N2.out.2.1 ai.bel, N2.out.2.2.1.later ai.bel⟩; clear ly gr u0 u1 u2 u3 u4 x0 x1 x2 x3 x4 ai hb10; obtain ⟨v0, v1, v2, v3, v4⟩ := gb_cells hb9; have fz : w9.frozen? ⟨bh, 4, none⟩ = false := (by unfold World.frozen?; rw [hb9]; rfl); clear hb9; obtain ⟨x0, x1, x2, x3, x4⟩ := gb_cells GX.out.1.gb; obtain ⟨y0, y1, y2, y3⟩ := cb_cells (q := q) GX.out.1.cb; obtain ⟨p0, p1, p2, p3, p4⟩ := gb_cells AI9.out.2)
           | (go_at_call 27; refine (RS2.out a9 c9 _ AI9.out.1 GX.out.1.bel).mono ?_; rintro e w11 ⟨ao2, c2, rfl, d2, b11⟩; have S11 : Hid ((w11.alloc (.cells #[.int .i64 d.look, .int .i64 d.kind, .int .i64 d.prod, .slice ao2 d.drop.length c2, .bool d.sd, .int .i64 d.lev] 47)).heap[w2.heap.size]? = some (.cells #[.int .i64 d.look, .int .i64 d.kind, .int .i64 d.prod, .slice ao d.drop.length c, .bool d.sd, .int .i64 d.lev] 47 (0, 0)) /\ (w11.alloc (.cells #[.int .i64 d.look, .int .i64 d.kind, .int .i64 d.prod, .slice ao2 d.drop.length c2, .bool d.sd, .int .i64 d.lev] 47)).heap[w11.heap.size]? = some (.cells #[.int .i64 d.look, .int .i64 d.kind, .int .i64 d.prod, .slice ao2 d.drop.length c2, .bool d.sd, .int .i64 d.lev] 47 (0, 0)) /\ w2.heap.size < (w9.setCell ⟨bh, 4, none⟩ (.slice a9 (k7.ls.length + 1) c9)).heap.size /\ Below (w9.setCell ⟨bh, 4, none⟩ (.slice a9 (k7.ls.length + 1) c9)).heap.size (w9.setCell ⟨bh, 4, none⟩ (.slice a9 (k7.ls.length + 1) c9)) (w11.alloc (.cells #[.int .i64 d.look, .int .i64 d.kind, .int .i64 d.prod, .slice ao2 d.drop.length c2, .bool d.sd, .int .i64 d.lev] 47)) /\ w2.heap.size < w11.heap.size) := ⟨blk_later (blk_later GX.out.2.1 b11) (below_alloc _ _), heap_alloc_new _ _, lt_of_block GX.out.2.1, b11.trans ((below_alloc _ _).mono b11.size), lt_of_block (blk_later GX.out.2.1 b11)⟩; have R13 : Hid (InRow (w11.alloc (.cells #[.int .i64 d.look, .int .i64 d.kind, .int .i64 d.prod, .slice ao2 d.drop.length c2, .bool d.sd, .int .i64 d.lev] 47)) ao d.drop /\ InRow (w11.alloc (.cells #[.int .i64 d.look, .int .i64 d.kind, .int .i64 d.prod, .slice ao2 d.drop.length c2, .bool d.sd, .int .i64 d.lev] 47)) ao2 d.drop /\ Below w.heap.size w (w11.alloc (.cells #[.int .i64 d.look, .int .i64 d.kind, .int .i64 d.prod, .slice ao2 d.drop.length c2, .bool d.sd, .int .i64 d.lev] 47))) := ⟨GX.out.2.2.later S11.out.2.2.2.1, d2.row.later (below_alloc _ _), GX.out.1.bel.trans (S11.out.2.2.2.1.mono GX.out.1.bel.size)⟩; clear d2 b11; have m0 : (w11.alloc (.cells #[.int .i64 d.look, .int .i64 d.kind, .int .i64 d.prod, .slice ao2 d.drop.length c2, .bool d.sd, .int .i64 d.lev] 47)).cell? ⟨w2.heap.size, 0, none⟩ = some (.int .i64 d.look) := (cellq_any S11.out.1).trans rfl; have n0 : (w11.alloc (.cells #[.int .i64 d.look, .int .i64 d.kind, .int .i64 d.prod, .slice ao2 d.drop.length c2, .bool d.sd, .int .i64 d.lev] 47)).cell? ⟨w11.heap.size, 0, none⟩ = some (.int .i64 d.look) := (cellq_any S11.out.2.1).trans rfl; have m1 : (w11.alloc (.cells #[.int .i64 d.look, .int .i64 d.kind, .int .i64 d.prod, .slice ao2 d.drop.length c2, .bool d.sd, .int .i64 d.lev] 47)).cell? ⟨w2.heap.size, 1, none⟩ = some (.int .i64 d.kind) := (cellq_any S11.out.1).trans rfl; have n1 : (w11.alloc (.cells #[.int .i64 d.look, .int .i64 d.kind, .int .i64 d.prod, .slice ao2 d.drop.length c2, .bool d.sd, .int .i64 d.lev] 47)).cell? ⟨w11.heap.size, 1, none⟩ = some (.int .i64 d.kind) := (cellq_any S11.out.2.1).trans rfl; have m2 : (w11.alloc (.cells #[.int .i64 d.look, .int .i64 d.kind, .int .i64 d.prod, .slice ao2 d.drop.length c2, .bool d.sd, .int .i64 d.lev] 47)).cell? ⟨w2.heap.size, 2, none⟩ = some (.int .i64 d.prod) := (cellq_any S11.out.1).trans rfl; have n2 : (w11.alloc (.cells #[.int .i64 d.look, .int .i64 d.kind, .int .i64 d.prod, .slice ao2 d.drop.length c2, .bool d.sd, .int .i64 d.lev] 47)).cell? ⟨w11.heap.size, 2, none⟩ = some (.int .i64 d.prod) := (cellq_any S11.out.2.1).trans rfl; have m3 : (w11.alloc (.cells #[.int .i64 d.look, .int .i64 d.kind, .int .i64 d.prod, .slice ao2 d.drop.length c2, .bool d.sd, .int .i64 d.lev] 47)).cell? ⟨w2.heap.size, 3, none⟩ = some (.slice ao d.drop.length c) := (cellq_any S11.out.1).trans rfl; have n3 : (w11.alloc (.cells #[.int .i64 d.look, .int .i64 d.kind, .int .i64 d.prod, .slice ao2 d.drop.length c2, .bool d.sd, .int .i64 d.lev] 47)).cell? ⟨w11.heap.size, 3, none⟩ = some (.slice ao2 d.drop.length c2) := (cellq_any S11.out.2.1).trans rfl; have m4 : (w11.alloc (.cells #[.int .i64 d.look, .int .i64 d.kind, .int .i64 d.prod, .slice ao2 d.drop.length c2, .bool d.sd, .int .i64 d.lev] 47)).cell? ⟨w2.heap.size, 4, none⟩ = some (.bool d.sd) := (cellq_any S11.out.1).trans rfl; have n4 : (w11.alloc (.cells #[.int .i64 d.look, .int .i64 d.kind, .int .i64 d.prod, .slice ao2 d.drop.length c2, .bool d.sd, .int .i64 d.lev] 47)).cell? ⟨w11.heap.size, 4, none⟩ = some (.bool d.sd) := (cellq_any S11.out.2.1).trans rfl; have m5 : (w11.alloc (.cells #[.int .i64 d.look, .int .i64 d.kind, .int .i64 d.prod, .slice ao2 d.drop.length c2, .bool d.sd, .int .i64 d.lev] 47)).cell? ⟨w2.heap.size, 5, none⟩ = some (.int .i64 d.lev) := (cellq_any S11.out.1).trans rfl; have n5 : (w11.alloc (.cells #[.int .i64 d.look, .int .i64 d.kind, .int .i64 d.prod, .slice ao2 d.drop.length c2, .bool d.sd, .int .i64 d.lev] 47)).cell? ⟨w11.heap.size, 5, none⟩ = some (.int .i64 d.lev) := (cellq_any S11.out.2.1).trans rfl)
           | (go_at_call 17; refine (same_P d ao ao2 c c2 _ (by have := HD.out; omega) R13.out.1 R13.out.2.1).mono ?_; rintro e w14 ⟨rfl, b14⟩; have E14 : Hid (Below w.heap.size w w14) := R13.out.2.2.trans (b14.mono R13.out.2.2.size); clear b14))
          go_ret
          exact ⟨rfl, E14.out⟩
        ·have t1 : (e2 != 0) = false := by simpa using te
         have t2 : ¬ (g.ts.length : Int) <= q.look := by omega
         have t3 : ¬ (64 : Int) <= g.ts.length := by omega
         have t4 : (32 : Int) <= g.ls.length := by omega
         go_wp2_with (at_builtin; refine wpList_ly_catO rfl _ _ rfl (wr.heap.size + 1) (lev0 wr.heap.size (g.ts.length : Int)) k7.ls rfl L1.out k7.la k7.lc rfl LQ.out (Nat.le_trans KL.out (by decide)) ?_; intro a9 n9 c9 w9 ly gr; obtain ⟨hb9, rfl, ai, hb10⟩ := Ha.out.lev (g.ts.length : Int) ly gr; have AI9 : Hid (AI (w2.alloc (.cells #[.int .i64 d.look, .int .i64 d.kind, .int .i64 d.prod, .slice ao d.drop.length c, .bool d.sd, .int .i64 d.lev] 47)) { k7 with la := a9, lc := c9, ls := lev0 wr.heap.size (g.ts.length : Int) :: k7.ls } (w9.setCell ⟨bh, 4, none⟩ (.slice a9 (k7.ls.length + 1) c9)) /\ (w9.setCell ⟨bh, 4, none⟩ (.slice a9 (k7.ls.length + 1) c9)).heap[bh]? = some (gBox { k7 with la := a9, lc := c9, ls := lev0 wr.heap.size (g.ts.length : Int) :: k7.ls })) := ⟨ai, hb10⟩; have GX : Hid (GC g q w (w9.setCell ⟨bh, 4, none⟩ (.slice a9 (k7.ls.length + 1) c9)) /\ (w9.setCell ⟨bh, 4, none⟩ (.slice a9 (k7.ls.length + 1) c9)).heap[w2.heap.size]? = some (.cells #[.int .i64 d.look, .int .i64 d.kind, .int .i64 d.prod, .slice ao d.drop.length c, .bool d.sd, .int .i64 d.lev] 47 (0, 0)) /\ InRow (w9.setCell ⟨bh, 4, none⟩ (.slice a9 (k7.ls.length + 1) c9)) ao d.drop) := ⟨N2.out.1.later ai.bel, blk_later N2.out.2.1 ai.bel, N2.out.2.2.1.later ai.bel⟩; clear ly gr u0 u1 u2 u3 u4 x0 x1 x2 x3 x4 ai hb10; obtain ⟨v0, v1, v2, v3, v4⟩ := gb_cells hb9; have fz : w9.frozen? ⟨bh, 4, none⟩ = false := (by unfold World.frozen?; rw [hb9]; rfl); clear hb9; obtain ⟨x0, x1, x2, x3, x4⟩ := gb_cells GX.out.1.gb; obtain ⟨y0, y1, y2, y3⟩ := cb_cells (q := q) GX.out.1.cb)
         go_ret
         exact ⟨rfl, GX.out.1.bel⟩
       ·have t1 : (e2 != 0) = false := by simpa using te
        have t2 : ¬ (g.ts.length : Int) <= q.look := by omega
        have t3 : (64 : Int) <= g.ts.length := by omega
        go_wp2_with (at_builtin; refine wpList_ly_catO rfl _ _ rfl (wr.heap.size + 1) (lev0 wr.heap.size (g.ts.length : Int)) k7.ls rfl L1.out k7.la k7.lc rfl LQ.out (Nat.le_trans KL.out (by decide)) ?_; intro a9 n9 c9 w9 ly gr; obtain ⟨hb9, rfl, ai, hb10⟩ := Ha.out.lev (g.ts.length : Int) ly gr; have AI9 : Hid (AI (w2.alloc (.cells #[.int .i64 d.look, .int .i64 d.kind, .int .i64 d.prod, .slice ao d.drop.length c, .bool d.sd, .int .i64 d.lev] 47)) { k7 with la := a9, lc := c9, ls := lev0 wr.heap.size (g.ts.length : Int) :: k7.ls } (w9.setCell ⟨bh, 4, none⟩ (.slice a9 (k7.ls.length + 1) c9)) /\ (w9.setCell ⟨bh, 4, none⟩ (.slice a9 (k7.ls.length + 1) c9)).heap[bh]? = some (gBox { k7 with la := a9, lc := c9, ls := lev0 wr.heap.size (g.ts.length : Int) :: k7.ls })) := ⟨ai, hb10⟩; have GX : Hid (GC g q w (w9.setCell ⟨bh, 4, none⟩ (.slice a9 (k7.ls.length + 1) c9)) /\ (w9.setCell ⟨bh, 4, none⟩ (.slice a9 (k7.ls.length + 1) c9)).heap[w2.heap.size]? = some (.cells #[.int .i64 d.look, .int .i64 d.kind, .int .i64 d.prod, .slice ao d.drop.length c, .bool d.sd, .int .i64 d.lev] 47 (0, 0)) /\ InRow (w9.setCell ⟨bh, 4, none⟩ (.slice a9 (k7.ls.length + 1) c9)) ao d.drop) := ⟨N2.out.1.later ai.bel, blk_later N2.out.2.1 ai.bel, N2.out.2.2.1.later ai.bel⟩; clear ly gr u0 u1 u2 u3 u4 x0 x1 x2 x3 x4 ai hb10; obtain ⟨v0, v1, v2, v3, v4⟩ := gb_cells hb9; have fz : w9.frozen? ⟨bh, 4, none⟩ = false := (by unfold World.frozen?; rw [hb9]; rfl); clear hb9; obtain ⟨x0, x1, x2, x3, x4⟩ := gb_cells GX.out.1.gb; obtain ⟨y0, y1, y2, y3⟩ := cb_cells (q := q) GX.out.1.cb)
        go_ret
        exact ⟨rfl, GX.out.1.bel⟩
      ·have t1 : (e2 != 0) = false := by simpa using te
       have t2 : (g.ts.length : Int) <= q.look := by omega
       go_wp2_with (at_builtin; refine wpList_ly_catO rfl _ _ rfl (wr.heap.size + 1) (lev0 wr.heap.size (g.ts.length : Int)) k7.ls rfl L1.out k7.la k7.lc rfl LQ.out (Nat.le_trans KL.out (by decide)) ?_; intro a9 n9 c9 w9 ly gr; obtain ⟨hb9, rfl, ai, hb10⟩ := Ha.out.lev (g.ts.length : Int) ly gr; have AI9 : Hid (AI (w2.alloc (.cells #[.int .i64 d.look, .int .i64 d.kind, .int .i64 d.prod, .slice ao d.drop.length c, .bool d.sd, .int .i64 d.lev] 47)) { k7 with la := a9, lc := c9, ls := lev0 wr.heap.size (g.ts.length : Int) :: k7.ls } (w9.setCell ⟨bh, 4, none⟩ (.slice a9 (k7.ls.length + 1) c9)) /\ (w9.setCell ⟨bh, 4, none⟩ (.slice a9 (k7.ls.length + 1) c9)).heap[bh]? = some (gBox { k7 with la := a9, lc := c9, ls := lev0 wr.heap.size (g.ts.length : Int) :: k7.ls })) := ⟨ai, hb10⟩; have GX : Hid (GC g q w (w9.setCell ⟨bh, 4, none⟩ (.slice a9 (k7.ls.length + 1) c9)) /\ (w9.setCell ⟨bh, 4, none⟩ (.slice a9 (k7.ls.length + 1) c9)).heap[w2.heap.size]? = some (.cells #[.int .i64 d.look, .int .i64 d.kind, .int .i64 d.prod, .slice ao d.drop.length c, .bool d.sd, .int .i64 d.lev] 47 (0, 0)) /\ InRow (w9.setCell ⟨bh, 4, none⟩ (.slice a9 (k7.ls.length + 1) c9)) ao d.drop) := ⟨N2.out.1.later ai.bel, blk_later N2.out.2.1 ai.bel, N2.out.2.2.1.later ai.bel⟩; clear ly gr u0 u1 u2 u3 u4 x0 x1 x2 x3 x4 ai hb10; obtain ⟨v0, v1, v2, v3, v4⟩ := gb_cells hb9; have fz : w9.frozen? ⟨bh, 4, none⟩ = false := (by unfold World.frozen?; rw [hb9]; rfl); clear hb9; obtain ⟨x0, x1, x2, x3, x4⟩ := gb_cells GX.out.1.gb; obtain ⟨y0, y1, y2, y3⟩ := cb_cells (q := q) GX.out.1.cb)
       go_ret
       exact ⟨rfl, GX.out.1.bel⟩
     ·have t1 : (e2 != 0) = true := by simpa using te
      go_wp2_with (at_builtin; refine wpList_ly_catO rfl _ _ rfl (wr.heap.size + 1) (lev0 wr.heap.size (g.ts.length : Int)) k7.ls rfl L1.out k7.la k7.lc rfl LQ.out (Nat.le_trans KL.out (by decide)) ?_; intro a9 n9 c9 w9 ly gr; obtain ⟨hb9, rfl, ai, hb10⟩ := Ha.out.lev (g.ts.length : Int) ly gr; have AI9 : Hid (AI (w2.alloc (.cells #[.int .i64 d.look, .int .i64 d.kind, .int .i64 d.prod, .slice ao d.drop.length c, .bool d.sd, .int .i64 d.lev] 47)) { k7 with la := a9, lc := c9, ls := lev0 wr.heap.size (g.ts.length : Int) :: k7.ls } (w9.setCell ⟨bh, 4, none⟩ (.slice a9 (k7.ls.length + 1) c9)) /\ (w9.setCell ⟨bh, 4, none⟩ (.slice a9 (k7.ls.length + 1) c9)).heap[bh]? = some (gBox { k7 with la := a9, lc := c9, ls := lev0 wr.heap.size (g.ts.length : Int) :: k7.ls })) := ⟨ai, hb10⟩; have GX : Hid (GC g q w (w9.setCell ⟨bh, 4, none⟩ (.slice a9 (k7.ls.length + 1) c9)) /\ (w9.setCell ⟨bh, 4, none⟩ (.slice a9 (k7.ls.length + 1) c9)).heap[w2.heap.size]? = some (.cells #[.int .i64 d.look, .int .i64 d.kind, .int .i64 d.prod, .slice ao d.drop.length c, .bool d.sd, .int .i64 d.lev] 47 (0, 0)) /\ InRow (w9.setCell ⟨bh, 4, none⟩ (.slice a9 (k7.ls.length + 1) c9)) ao d.drop) := ⟨N2.out.1.later ai.bel, blk_later N2.out.2.1 ai.bel, N2.out.2.2.1.later ai.bel⟩; clear ly gr u0 u1 u2 u3 u4 x0 x1 x2 x3 x4 ai hb10; obtain ⟨v0, v1, v2, v3, v4⟩ := gb_cells hb9; have fz : w9.frozen? ⟨bh, 4, none⟩ = false := (by unfold World.frozen?; rw [hb9]; rfl); clear hb9; obtain ⟨x0, x1, x2, x3, x4⟩ := gb_cells GX.out.1.gb; obtain ⟨y0, y1, y2, y3⟩ := cb_cells (q := q) GX.out.1.cb)
      go_ret
      exact ⟨rfl, GX.out.1.bel⟩
end Go.Proofs.Ytlkkllehaabebaa
