import Derived.Test.YtndbdliaidbocaaGreatPGCheckCToGCheckD
import Derived.Test.YtndbdliaidbocaaGreatPSWordToSCheck
namespace Go.Proofs.YtndbdliaidbocaaGreat
set_option linter.unusedVariables false
open Go.RowKit
theorem mem_getD {α : Type} {l : List α} {d : α} {j : Nat} (h : j < l.length) : l.getD j d ∈ l := by
 have e : l.getD j d = l[j] := by simp [List.getD, h]
 rw [e]; exact List.getElem_mem h
theorem firstU_all {f : Nat -> Int} : ∀ (c i : Nat), (firstU f c i).1 = 0 -> ∀ j, j < c -> f (i + j) = 0
 | 0, _, _, j, hj => absurd hj (by omega)
 | c + 1, i, h, j, hj => by
  unfold firstU at h
  by_cases hz : f i = 0
  ·rw [if_neg (by simpa using hz)] at h
   match j with
   | 0 => exact hz
   | j + 1 =>
    have := firstU_all c (i + 1) h j (by omega)
    rw [show i + (j + 1) = i + 1 + j by omega]
    exact this
  ·rw [if_pos hz] at h
   exact absurd h hz
theorem wordS_size {s : ByteArray} (h : wordS s = true) : s.size <= 32 := by
 simp only [wordS, Bool.and_eq_true, decide_eq_true_eq] at h
 exact h.1.1.2
theorem quotedS_size {s : ByteArray} (h : quotedS s = true) : s.size <= 32 := by
 simp only [quotedS, Bool.and_eq_true, decide_eq_true_eq] at h
 exact h.1.1.1.2
theorem termS_size {s : ByteArray} (h : termS s = true) : s.size <= 32 := by
 simp only [termS, Bool.or_eq_true] at h
 exact h.elim wordS_size quotedS_size
theorem formsF_each {form : ByteArray -> Bool} : ∀ (ss seen : List ByteArray), (formsF form ss seen).1 = 0 -> ∀ s ∈ ss, form s = true
 | [], _, _, s, hs => by cases hs
 | a :: r, seen, h, s, hs => by
  unfold formsF at h
  by_cases h1 : form a = false
  ·rw [if_pos h1] at h; exact absurd h (by simp)
  ·rw [if_neg h1] at h
   by_cases h2 : inB seen a = true
   ·rw [if_pos h2] at h; exact absurd h (by simp)
   ·rw [if_neg h2] at h
    rcases List.mem_cons.1 hs with rfl | hs
    ·simpa using h1
    ·exact formsF_each r _ h s hs
theorem checkF_each {ts ns : List ByteArray} (h : (checkF ts ns).1 = 0) : (∀ s ∈ ts, s.size <= 32) /\ ∀ s ∈ ns, s.size <= 32 := by
 unfold checkF at h
 split at h
 ·exact absurd h (by simp)
 ·split at h
  ·exact absurd h (by simp)
  ·by_cases h1 : (formsF termS ts []).1 = 0
   ·rw [if_neg (by simpa using h1)] at h
    by_cases h2 : (formsF wordS ns (formsF termS ts []).2.2).1 = 0
    ·exact ⟨fun s hs => termS_size (formsF_each _ _ h1 s hs), fun s hs => wordS_size (formsF_each _ _ h2 s hs)⟩
    ·rw [if_pos h2] at h; exact absurd h h2
   ·rw [if_pos h1] at h; exact absurd h h1
structure OkC (g : GV) : Prop where
 tl : 1 <= g.ts.length /\ g.ts.length <= 64
 nl : 1 <= g.ns.length /\ g.ns.length <= 64
 ts : ∀ s ∈ g.ts, s.size <= 32
 ns : ∀ s ∈ g.ns, s.size <= 32
 st : 0 <= g.start /\ g.start < g.ns.length
 pl : 1 <= g.ps.length /\ g.ps.length <= 256
 ps : ∀ i, i < g.ps.length -> prodU g i = 0
 ll : g.ls.length <= 32
 ls : ∀ i, i < g.ls.length -> levelU g i = 0
theorem OkC.of {g : GV} (h : (checkG g (checkF g.ts g.ns)).1 = 0) : OkC g := by
 unfold checkG at h
 by_cases h1 : g.ts.length = 0 ∨ 64 < g.ts.length
 ·rw [if_pos h1] at h; exact absurd h (by simp)
 rw [if_neg h1] at h
 by_cases h2 : g.ns.length = 0 ∨ 64 < g.ns.length
 ·rw [if_pos h2] at h; exact absurd h (by simp)
 rw [if_neg h2] at h
 by_cases h3 : (checkF g.ts g.ns).1 = 0
 case neg => rw [if_pos h3] at h; exact absurd h h3
 rw [if_neg (by simpa using h3)] at h
 by_cases h4 : inN g g.start = false
 ·rw [if_pos h4] at h; exact absurd h (by simp)
 rw [if_neg h4] at h
 by_cases h5 : g.ps.length = 0 ∨ 256 < g.ps.length
 ·rw [if_pos h5] at h; exact absurd h (by simp)
 rw [if_neg h5] at h
 by_cases h6 : (firstU (prodU g) g.ps.length 0).1 = 0
 case neg => rw [if_pos h6] at h; exact absurd h h6
 rw [if_neg (by simpa using h6)] at h
 by_cases h7 : 32 < g.ls.length
 ·rw [if_pos h7] at h; exact absurd h (by simp)
 rw [if_neg h7] at h
 have hn := checkF_each h3
 refine ⟨by omega, by omega, hn.1, hn.2, ?_, by omega, fun i hi => ?_, by omega, fun i hi => ?_⟩
 ·simpa [inN] using h4
 ·simpa using firstU_all _ _ h6 i hi
 ·simpa using firstU_all _ _ h i hi
theorem OkC.left {g : GV} (h : OkC g) (i : Nat) (hi : i < g.ps.length) : 0 <= (g.ps.getD i .none).left /\ (g.ps.getD i .none).left < g.ns.length := by
 have := h.ps i hi
 unfold prodU at this
 by_cases h1 : inN g (g.ps.getD i .none).left = false
 ·rw [if_pos h1] at this; exact absurd this (by omega)
 ·simpa [inN] using h1
theorem OkC.right {g : GV} (h : OkC g) (i : Nat) (hi : i < g.ps.length) : (g.ps.getD i .none).right.length <= 16 := by
 have := h.ps i hi
 unfold prodU at this
 by_cases h1 : inN g (g.ps.getD i .none).left = false
 ·rw [if_pos h1] at this; exact absurd this (by omega)
 rw [if_neg h1] at this
 by_cases h2 : 16 < (g.ps.getD i .none).right.length
 ·rw [if_pos h2] at this; exact absurd this (by omega)
 ·omega
theorem OkC.inG {g : GV} (h : OkC g) (i : Nat) (hi : i < g.ps.length) : ∀ s ∈ (g.ps.getD i .none).right, inG g s.1 s.2 = true := by
 have := h.ps i hi
 unfold prodU at this
 by_cases h1 : inN g (g.ps.getD i .none).left = false
 ·rw [if_pos h1] at this; exact absurd this (by omega)
 rw [if_neg h1] at this
 by_cases h2 : 16 < (g.ps.getD i .none).right.length
 ·rw [if_pos h2] at this; exact absurd this (by omega)
 rw [if_neg h2] at this
 by_cases h3 : ((g.ps.getD i .none).right.any fun s => !Go.Proofs.YtndbdliaidbocaaGreat.inG g s.1 s.2) = true
 ·rw [if_pos h3] at this; exact absurd this (by omega)
 ·intro s hs
  have h4 := Bool.not_eq_true _ ▸ h3
  rw [List.any_eq_false] at h4
  simpa using h4 s hs
theorem OkC.prec {g : GV} (h : OkC g) (i : Nat) (hi : i < g.ps.length) : -1 <= (g.ps.getD i .none).prec /\ (g.ps.getD i .none).prec < g.ts.length := by
 have := h.ps i hi
 unfold prodU at this
 split at this
 ·exact absurd this (by omega)
 split at this
 ·exact absurd this (by omega)
 split at this
 ·exact absurd this (by omega)
 split at this
 ·exact absurd this (by omega)
 by_cases h5 : (g.ps.getD i .none).prec = -1
 ·rw [h5]; omega
 ·by_cases h6 : inT g (g.ps.getD i .none).prec = false
  ·rw [if_pos ⟨h5, h6⟩] at this; exact absurd this (by omega)
  ·have : 0 <= (g.ps.getD i .none).prec /\ (g.ps.getD i .none).prec < g.ts.length := by simpa [inT] using h6
   omega
theorem inG_is {g : GV} {a b : Int} (h : inG g a b = true) : (a = 1 /\ 0 <= b /\ b < g.ts.length) ∨ (a = 2 /\ 0 <= b /\ b < g.ns.length) := by
 unfold inG at h
 by_cases h1 : a = 1
 ·rw [if_pos h1] at h
  exact .inl ⟨h1, by simpa [inT] using h⟩
 ·rw [if_neg h1] at h
  by_cases h2 : a = 2
  ·rw [if_pos h2] at h
   exact .inr ⟨h2, by simpa [inN] using h⟩
  ·rw [if_neg h2] at h; cases h
theorem OkC.sym {g : GV} (h : OkC g) (i : Nat) (hi : i < g.ps.length) (j : Nat) (hj : j < (g.ps.getD i .none).right.length) :
  (((g.ps.getD i .none).right.getD j (0, 0)).1 = 1 /\ 0 <= ((g.ps.getD i .none).right.getD j (0, 0)).2 /\ ((g.ps.getD i .none).right.getD j (0, 0)).2 < g.ts.length) ∨ (((g.ps.getD i .none).right.getD j (0, 0)).1 = 2 /\ 0 <= ((g.ps.getD i .none).right.getD j (0, 0)).2 /\ ((g.ps.getD i .none).right.getD j (0, 0)).2 < g.ns.length) :=
 inG_is (h.inG i hi _ (mem_getD hj))
theorem OkC.level {g : GV} (h : OkC g) (i : Nat) (hi : i < g.ls.length) : (1 <= (g.ls.getD i .none).assoc /\ (g.ls.getD i .none).assoc <= 3) /\ (∀ n ∈ (g.ls.getD i .none).terms, 0 <= n /\ n < g.ts.length) /\ risesU (g.ls.getD i .none).terms = true := by
 have := h.ls i hi
 unfold levelU at this
 by_cases h1 : (g.ls.getD i .none).assoc < 1 ∨ 3 < (g.ls.getD i .none).assoc ∨ (g.ls.getD i .none).terms.length = 0
 ·rw [if_pos h1] at this; exact absurd this (by omega)
 rw [if_neg h1] at this
 by_cases h2 : ((g.ls.getD i .none).terms.any fun n => !inT g n) = true
 ·rw [if_pos h2] at this; exact absurd this (by omega)
 rw [if_neg h2] at this
 by_cases h3 : risesU (g.ls.getD i .none).terms = false
 ·rw [if_pos h3] at this; exact absurd this (by omega)
 refine ⟨by omega, fun n hn => ?_, by simpa using h3⟩
 have h4 := Bool.not_eq_true _ ▸ h2
 rw [List.any_eq_false] at h4
 simpa [inT] using h4 n hn
theorem rises_le {l : List Int} (h : risesU l = true) : ∀ j, j < l.length -> l.getD 0 0 + j <= l.getD j 0
 | 0, _ => by simp
 | j + 1, hj => by
  have ih := rises_le h j (by omega)
  unfold risesU at h
  rw [List.all_eq_true] at h
  have := h j (by simp; omega)
  simp only [decide_eq_true_eq] at this
  omega
theorem rises_len {l : List Int} {n : Nat} (h : risesU l = true) (hb : ∀ x ∈ l, 0 <= x /\ x < n) : l.length <= n := by
 rcases Nat.eq_zero_or_pos l.length with e | e
 ·omega
 ·have h1 := rises_le h (l.length - 1) (by omega)
  have m0 : l.getD 0 0 ∈ l := mem_getD e
  have m1 : l.getD (l.length - 1) 0 ∈ l := mem_getD (by omega)
  have := hb _ m0
  have := hb _ m1
  omega
theorem OkC.terms {g : GV} (h : OkC g) (i : Nat) (hi : i < g.ls.length) : (g.ls.getD i .none).terms.length <= 64 := by
 obtain ⟨_, h1, h2⟩ := h.level i hi
 exact Nat.le_trans (rises_len h2 h1) h.tl.2
theorem getD_mem {α : Type} {l : List α} {d x : α} (h : x ∈ l) : ∃ i, i < l.length /\ x = l.getD i d := by
 obtain ⟨i, hi, rfl⟩ := List.getElem_of_mem h
 exact ⟨i, hi, by simp [List.getD, hi]⟩
theorem GAt.ok {n : Nat} {w : World} {g : GV} (h : GAt n w g) (ok : OkC g) : GAt 1048576 w g := by
 have h1 := ok.tl
 have h2 := ok.nl
 have h3 := ok.pl
 have h4 := ok.ll
 refine ⟨h.t, h.n_, h.p, h.l, h.tz, h.nz, by omega, by omega, by omega, by omega, fun p hp => ?_, fun p hp => ?_⟩
 ·obtain ⟨i, hi, rfl⟩ := getD_mem (d := PV.none) hp
  have := ok.right i hi
  omega
 ·obtain ⟨i, hi, rfl⟩ := getD_mem (d := LV.none) hp
  have := ok.terms i hi
  omega
open Go.RowKit Go.Maps
theorem in_gs {w : World} {v : Value} {ss : List ByteArray} (h : GS w v ss) (s : ByteArray) (hl : ss.length <= 140737488355328) : Calls Tryz.prog 66 #[v, .string s] w fun e w' => e = .returned (.int .i64 (inS ss s)) /\ w = w' := by
 obtain ⟨a, c, rfl, hr, _, _⟩ := h.row
 exact in_any a _ c ss s w rfl hl hr
theorem gs_cnt {w : World} {a : Option Addr} {n c : Nat} {ss : List ByteArray} {y : ByteArray} (h : GS w (.slice a n c) (ss ++ [y])) : n = ss.length + 1 := by
 obtain ⟨a', c', e⟩ := gs_len h
 simp at e
 exact e.2.1
def okS (t : Bool) (s : ByteArray) : Bool := bif t then termS s else wordS s
def chk : List (Bool × ByteArray) -> List ByteArray -> Int × Int
 | [], all => (0, all.length)
 | (t, s) :: r, all => if okS t s = false then (21, all.length) else if inB all s = true then (6, all.length) else chk r (all ++ [s])
def kinds (ts ns : List ByteArray) : List (Bool × ByteArray) := ts.map (fun s => (true, s)) ++ ns.map (fun s => (false, s))
theorem chk_nons : ∀ (ns all : List ByteArray), chk (ns.map (fun s => (false, s))) all = if (formsF wordS ns all).1 ≠ 0 then ((formsF wordS ns all).1, (formsF wordS ns all).2.1) else (0, (formsF wordS ns all).2.2.length)
 | [], all => by simp [chk, formsF]
 | s :: r, all => by
  by_cases h : wordS s = false
  ·simp [chk, formsF, okS, h]
  ·by_cases h2 : inB all s = true
   ·simp [chk, formsF, okS, h, h2]
   ·simp only [List.map_cons, chk, formsF, okS, cond_false, if_neg h, if_neg h2]
    exact chk_nons r _
theorem chk_terms (R : List (Bool × ByteArray)) : ∀ (ts all : List ByteArray), chk (ts.map (fun s => (true, s)) ++ R) all = if (formsF termS ts all).1 ≠ 0 then ((formsF termS ts all).1, (formsF termS ts all).2.1) else chk R (formsF termS ts all).2.2
 | [], all => by simp [formsF]
 | s :: r, all => by
  by_cases h : termS s = false
  ·simp [chk, formsF, okS, h]
  ·by_cases h2 : inB all s = true
   ·simp [chk, formsF, okS, h, h2]
   ·simp only [List.map_cons, List.cons_append, chk, formsF, okS, cond_true, if_neg h, if_neg h2]
    exact chk_terms R r _
theorem chk_is {ts ns : List ByteArray} (h1 : ¬ 64 < ts.length) (h2 : ¬ 64 < ns.length) : chk (kinds ts ns) [] = checkF ts ns := by
 unfold kinds checkF
 rw [chk_terms, if_neg h1, if_neg h2]
 split
 ·rfl
 ·exact chk_nons ns _
theorem inB_place (ss : List ByteArray) (s : ByteArray) : inB ss s = (placeS ss s).isSome := by
 unfold inB placeS
 exact List.findIdx?_isSome.symm
theorem inS_in {ss : List ByteArray} {s : ByteArray} (h : inB ss s = true) : inS ss s ≥ 0 := by
 rw [inB_place] at h
 unfold inS
 cases e : placeS ss s with
 | none => rw [e] at h; cases h
 | some i => simp
theorem inS_out {ss : List ByteArray} {s : ByteArray} (h : inB ss s = false) : inS ss s = -1 := by
 rw [inB_place] at h
 unfold inS
 cases e : placeS ss s with
 | none => rfl
 | some i => rw [e] at h; cases h
theorem kinds_term {ts ns : List ByteArray} {k : Nat} (h : k < ts.length) : (kinds ts ns).drop k = (true, ts.getD k ByteArray.empty) :: (kinds ts ns).drop (k + 1) := by
 have hk : k < (kinds ts ns).length := by simp [kinds]; omega
 rw [List.drop_eq_getElem_cons hk]
 congr 1
 simp [kinds, List.getElem_append_left, h, List.getD]
theorem kinds_non {ts ns : List ByteArray} {k : Nat} (h : ts.length <= k) (h2 : k < ts.length + ns.length) : (kinds ts ns).drop k = (false, ns.getD (k - ts.length) ByteArray.empty) :: (kinds ts ns).drop (k + 1) := by
 have hk : k < (kinds ts ns).length := by simp [kinds]; omega
 rw [List.drop_eq_getElem_cons hk]
 congr 1
 have h3 : k - ts.length < ns.length := by omega
 simp [kinds, List.getElem_append_right, h, h3, List.getD]
theorem grew_below {w w1 w4 : World} {v v' : Value} (hb : Below w.heap.size w w1) (hv : ∀ k, v.ownBlock = some k -> w.heap.size <= k) (g : Grew w1 w4 v v') : Below w.heap.size w w4 /\ ∀ k, v'.ownBlock = some k -> w.heap.size <= k := by
 refine ⟨⟨g.grown.os.trans hb.os, g.grown.tape.trans hb.tape, g.grown.output.trans hb.output, Nat.le_trans hb.size g.grown.size, fun k hk => (g.grown.block k (Nat.lt_of_lt_of_le hk hb.size) fun e => ?_).trans (hb.block k hk)⟩, fun k hk => ?_⟩
 ·have := hv k e.symm; omega
 ·rcases g.moved with e | ⟨j, e, hj⟩
  ·exact hv k (by rw [<- e]; exact hk)
  ·rw [e] at hk; simp at hk; have := hb.size; omega
set_option maxRecDepth 100000 in
set_option maxHeartbeats 8000000 in
theorem refcheck_in (a1 a2 : Option Addr) (c1 c2 : Nat) (ts ns : List ByteArray) (w : World) (k1 : ¬ 64 < ts.length) (k2 : ¬ 64 < ns.length) (hz1 : ∀ s ∈ ts, s.size <= maxLen) (hz2 : ∀ s ∈ ns, s.size <= maxLen) (hr1 : StrRow w a1 ts) (hr2 : StrRow w a2 ns) :
  Calls Tryz.prog 49 #[.slice a1 ts.length c1, .slice a2 ns.length c2] w fun e w' => ∃ er at_, e = .returned (.tuple #[.int .i64 er, .int .i64 at_]) /\ er = (chk (kinds ts ns) []).1 /\ at_ = (chk (kinds ts ns) []).2 /\ Below w.heap.size w w' := by
 have k1' : ¬ (ts.length : Int) > 64 := by omega
 have k2' : ¬ (ns.length : Int) > 64 := by omega
 go_enter Tryz.func49, Tryz.ntmps49
 go_wp2
 go_loopw [6, 7] (fun al i wr => ∃ (k : Nat) (sn : List ByteArray), k <= ts.length + ns.length /\ i = .int .i64 k /\ GS wr al sn /\ (∀ j, al.ownBlock = some j -> w.heap.size <= j) /\ Below w.heap.size w wr /\ Hid (chk ((kinds ts ns).drop k) sn = chk (kinds ts ns) []) /\ Hid (sn.length = k)) (fun _ i _ => ts.length + ns.length - (intOf i).toNat)
 case atStart => exact ⟨0, [], Nat.zero_le _, rfl, GS.nil _, fun j hj => by simp [Value.ownBlock] at hj, Below.refl _ _, rfl, rfl⟩
 case round =>
  obtain ⟨k, sn, hk, rfl, hgs, hfresh, hb, HF, HN⟩ := hrel
  obtain ⟨a6, c6, rfl⟩ := gs_len hgs
  have hml : sn.length <= 140737488355328 := by have := HN.out; omega
  have hle : sn.length <= 1000000 := by have := HN.out; omega
  by_cases hlt2 : k < ts.length + ns.length
  ·have hki : (k : Int) < (ts.length : Int) + (ns.length : Int) := by omega
   by_cases hlt : k < ts.length
   ·have HD : Hid ((kinds ts ns).drop k = (true, ts.getD k ByteArray.empty) :: (kinds ts ns).drop (k + 1)) := kinds_term hlt
    have hkt : (k : Int) < (ts.length : Int) := by omega
    obtain ⟨q, off, rfl, hq, hc⟩ := hr1 (by intro h; subst h; simp at hlt hlt2; try omega)
    have h1 : wr.cell? ⟨q, off + k, none⟩ = some (.string (ts.getD k ByteArray.empty)) := (hb.cell (p := ⟨q, off + k, none⟩) hq).trans (hc k (by omega))
    have hs1 : (ts.getD k ByteArray.empty).size <= maxLen := hz1 _ (by simp [List.getD, show k < ts.length by omega])
    clear hc hr1 hr2 hz1 hz2
    generalize ts.getD k ByteArray.empty = s at *
    have hs2 : s.size <= 9223372036854775807 := by unfold maxLen at hs1; omega
    by_cases hw : wordS s = true
    ·have HK : Hid (okS true s = true) := by unfold Hid okS termS; simp [hw]
     by_cases hin : inB sn s = true
     ·have HE : Hid (chk (kinds ts ns) [] = ((6 : Int), (sn.length : Int))) := by
       unfold Hid
       rw [<- HF.out, HD.out]
       simp [chk, HK.out, hin]
      have hge : inS sn s ≥ 0 := inS_in hin
      go_wp2_with (first | (go_at_call 64; refine (refword_any s _ hs2).mono ?_; rintro e w' ⟨rfl, rfl⟩) | (go_at_call 65; refine (refquoted_any s _ hs2).mono ?_; rintro e w' ⟨rfl, rfl⟩) | (go_at_call 66; refine (in_gs hgs s hml).mono ?_; rintro e w' ⟨rfl, rfl⟩))
      go_returns
      exact ⟨_, _, rfl, by rw [HE.out], by rw [HE.out, HN.out], hb⟩
     ·have hnin : inB sn s = false := by simpa using hin
      have HE : Hid (chk ((kinds ts ns).drop (k + 1)) (sn ++ [s]) = chk (kinds ts ns) []) := by
       unfold Hid
       rw [<- HF.out, HD.out]
       simp [chk, HK.out, hnin]
      have hno : inS sn s = -1 := inS_out hnin
      have hnA : GS (wr.alloc (.cells #[.string s] 9)) (.slice a6 sn.length c6) sn := hgs.later (below_alloc wr _)
      have hy : (wr.alloc (.cells #[.string s] 9)).cell? ⟨wr.heap.size, 0, none⟩ = some (.string s) := by simp
      go_wp2_with (first | (go_at_call 64; refine (refword_any s _ hs2).mono ?_; rintro e w' ⟨rfl, rfl⟩) | (go_at_call 65; refine (refquoted_any s _ hs2).mono ?_; rintro e w' ⟨rfl, rfl⟩) | (go_at_call 66; refine (in_gs hgs s hml).mono ?_; rintro e w' ⟨rfl, rfl⟩) | (at_builtin; refine wpList_gs_append rfl _ _ rfl (.slice a6 sn.length c6) sn rfl hnA _ _ s rfl hy hle ?_; intro a4 n4 c4 w4 ho4 hg4; obtain rfl := gs_cnt ho4))
      obtain ⟨r1, r2⟩ := grew_below (hb.alloc hb.size _) hfresh hg4
      go_roundw
      case rel => exact ⟨k + 1, sn ++ [s], by omega, by go_num, ho4, r2, r1, HE, by unfold Hid; rw [List.length_append, HN.out]; rfl⟩
      case measure => simp [intOf]; omega
    have hw0 : wordS s = false := by simpa using hw
    by_cases hq1 : quotedS s = true
    ·have HK : Hid (okS true s = true) := by unfold Hid okS termS; simp [hq1]
     by_cases hin : inB sn s = true
     ·have HE : Hid (chk (kinds ts ns) [] = ((6 : Int), (sn.length : Int))) := by
       unfold Hid
       rw [<- HF.out, HD.out]
       simp [chk, HK.out, hin]
      have hge : inS sn s ≥ 0 := inS_in hin
      go_wp2_with (first | (go_at_call 64; refine (refword_any s _ hs2).mono ?_; rintro e w' ⟨rfl, rfl⟩) | (go_at_call 65; refine (refquoted_any s _ hs2).mono ?_; rintro e w' ⟨rfl, rfl⟩) | (go_at_call 66; refine (in_gs hgs s hml).mono ?_; rintro e w' ⟨rfl, rfl⟩))
      go_returns
      exact ⟨_, _, rfl, by rw [HE.out], by rw [HE.out, HN.out], hb⟩
     ·have hnin : inB sn s = false := by simpa using hin
      have HE : Hid (chk ((kinds ts ns).drop (k + 1)) (sn ++ [s]) = chk (kinds ts ns) []) := by
       unfold Hid
       rw [<- HF.out, HD.out]
       simp [chk, HK.out, hnin]
      have hno : inS sn s = -1 := inS_out hnin
      have hnA : GS (wr.alloc (.cells #[.string s] 9)) (.slice a6 sn.length c6) sn := hgs.later (below_alloc wr _)
      have hy : (wr.alloc (.cells #[.string s] 9)).cell? ⟨wr.heap.size, 0, none⟩ = some (.string s) := by simp
      go_wp2_with (first | (go_at_call 64; refine (refword_any s _ hs2).mono ?_; rintro e w' ⟨rfl, rfl⟩) | (go_at_call 65; refine (refquoted_any s _ hs2).mono ?_; rintro e w' ⟨rfl, rfl⟩) | (go_at_call 66; refine (in_gs hgs s hml).mono ?_; rintro e w' ⟨rfl, rfl⟩) | (at_builtin; refine wpList_gs_append rfl _ _ rfl (.slice a6 sn.length c6) sn rfl hnA _ _ s rfl hy hle ?_; intro a4 n4 c4 w4 ho4 hg4; obtain rfl := gs_cnt ho4))
      obtain ⟨r1, r2⟩ := grew_below (hb.alloc hb.size _) hfresh hg4
      go_roundw
      case rel => exact ⟨k + 1, sn ++ [s], by omega, by go_num, ho4, r2, r1, HE, by unfold Hid; rw [List.length_append, HN.out]; rfl⟩
      case measure => simp [intOf]; omega
    have hq0 : quotedS s = false := by simpa using hq1
    have HK : Hid (okS true s = false) := by unfold Hid okS termS; simp [hw0, hq0]
    have HE : Hid (chk (kinds ts ns) [] = ((21 : Int), (sn.length : Int))) := by
     unfold Hid
     rw [<- HF.out, HD.out]
     simp [chk, HK.out]
    go_wp2_with (first | (go_at_call 64; refine (refword_any s _ hs2).mono ?_; rintro e w' ⟨rfl, rfl⟩) | (go_at_call 65; refine (refquoted_any s _ hs2).mono ?_; rintro e w' ⟨rfl, rfl⟩))
    go_returns
    exact ⟨_, _, rfl, by rw [HE.out], by rw [HE.out, HN.out], hb⟩
   ·have HD : Hid ((kinds ts ns).drop k = (false, ns.getD (k - ts.length) ByteArray.empty) :: (kinds ts ns).drop (k + 1)) := kinds_non (by omega) hlt2
    have hkt : ¬ (k : Int) < (ts.length : Int) := by omega
    have hsub : (k : Int) - (ts.length : Int) = ((k - ts.length : Nat) : Int) := by omega
    have hkn : ((k - ts.length : Nat) : Int) < (ns.length : Int) := by omega
    obtain ⟨q, off, rfl, hq, hc⟩ := hr2 (by intro h; subst h; simp at hlt hlt2; try omega)
    have h1 : wr.cell? ⟨q, off + (k - ts.length), none⟩ = some (.string (ns.getD (k - ts.length) ByteArray.empty)) := (hb.cell (p := ⟨q, off + (k - ts.length), none⟩) hq).trans (hc (k - ts.length) (by omega))
    have hs1 : (ns.getD (k - ts.length) ByteArray.empty).size <= maxLen := hz2 _ (by simp [List.getD, show (k - ts.length) < ns.length by omega])
    clear hc hr1 hr2 hz1 hz2
    generalize ns.getD (k - ts.length) ByteArray.empty = s at *
    have hs2 : s.size <= 9223372036854775807 := by unfold maxLen at hs1; omega
    by_cases hw : wordS s = true
    ·have HK : Hid (okS false s = true) := by unfold Hid okS; simp [hw]
     by_cases hin : inB sn s = true
     ·have HE : Hid (chk (kinds ts ns) [] = ((6 : Int), (sn.length : Int))) := by
       unfold Hid
       rw [<- HF.out, HD.out]
       simp [chk, HK.out, hin]
      have hge : inS sn s ≥ 0 := inS_in hin
      go_wp2_with (first | (go_at_call 64; refine (refword_any s _ hs2).mono ?_; rintro e w' ⟨rfl, rfl⟩) | (go_at_call 65; refine (refquoted_any s _ hs2).mono ?_; rintro e w' ⟨rfl, rfl⟩) | (go_at_call 66; refine (in_gs hgs s hml).mono ?_; rintro e w' ⟨rfl, rfl⟩))
      go_returns
      exact ⟨_, _, rfl, by rw [HE.out], by rw [HE.out, HN.out], hb⟩
     ·have hnin : inB sn s = false := by simpa using hin
      have HE : Hid (chk ((kinds ts ns).drop (k + 1)) (sn ++ [s]) = chk (kinds ts ns) []) := by
       unfold Hid
       rw [<- HF.out, HD.out]
       simp [chk, HK.out, hnin]
      have hno : inS sn s = -1 := inS_out hnin
      have hnA : GS (wr.alloc (.cells #[.string s] 9)) (.slice a6 sn.length c6) sn := hgs.later (below_alloc wr _)
      have hy : (wr.alloc (.cells #[.string s] 9)).cell? ⟨wr.heap.size, 0, none⟩ = some (.string s) := by simp
      go_wp2_with (first | (go_at_call 64; refine (refword_any s _ hs2).mono ?_; rintro e w' ⟨rfl, rfl⟩) | (go_at_call 65; refine (refquoted_any s _ hs2).mono ?_; rintro e w' ⟨rfl, rfl⟩) | (go_at_call 66; refine (in_gs hgs s hml).mono ?_; rintro e w' ⟨rfl, rfl⟩) | (at_builtin; refine wpList_gs_append rfl _ _ rfl (.slice a6 sn.length c6) sn rfl hnA _ _ s rfl hy hle ?_; intro a4 n4 c4 w4 ho4 hg4; obtain rfl := gs_cnt ho4))
      obtain ⟨r1, r2⟩ := grew_below (hb.alloc hb.size _) hfresh hg4
      go_roundw
      case rel => exact ⟨k + 1, sn ++ [s], by omega, by go_num, ho4, r2, r1, HE, by unfold Hid; rw [List.length_append, HN.out]; rfl⟩
      case measure => simp [intOf]; omega
    have hw0 : wordS s = false := by simpa using hw
    have HK : Hid (okS false s = false) := by unfold Hid okS; simp [hw0]
    have HE : Hid (chk (kinds ts ns) [] = ((21 : Int), (sn.length : Int))) := by
     unfold Hid
     rw [<- HF.out, HD.out]
     simp [chk, HK.out]
    go_wp2_with (first | (go_at_call 64; refine (refword_any s _ hs2).mono ?_; rintro e w' ⟨rfl, rfl⟩) | (go_at_call 65; refine (refquoted_any s _ hs2).mono ?_; rintro e w' ⟨rfl, rfl⟩))
    go_returns
    exact ⟨_, _, rfl, by rw [HE.out], by rw [HE.out, HN.out], hb⟩
  ·have HE : Hid (chk (kinds ts ns) [] = ((0 : Int), (sn.length : Int))) := by
    unfold Hid
    rw [<- HF.out, List.drop_eq_nil_of_le (by simp [kinds]; omega)]
    rfl
   have hki : ¬ (k : Int) < (ts.length : Int) + (ns.length : Int) := by omega
   go_wp2
   go_returns
   exact ⟨_, _, rfl, by rw [HE.out], by rw [HE.out], hb⟩
theorem refcheck_any (a1 a2 : Option Addr) (c1 c2 N1 N2 : Nat) (ts ns : List ByteArray) (w : World) (e1 : N1 = ts.length) (e2 : N2 = ns.length) (hz1 : ∀ s ∈ ts, s.size <= maxLen) (hz2 : ∀ s ∈ ns, s.size <= maxLen) (hr1 : StrRow w a1 ts) (hr2 : StrRow w a2 ns) :
  Calls Tryz.prog 49 #[.slice a1 N1 c1, .slice a2 N2 c2] w fun e w' => ∃ er at_, e = .returned (.tuple #[.int .i64 er, .int .i64 at_]) /\ er = (checkF ts ns).1 /\ at_ = (checkF ts ns).2 /\ Below w.heap.size w w' := by
 subst e1 e2
 by_cases k1 : 64 < ts.length
 ·have HE : Hid (checkF ts ns = (31, 0)) := by unfold Hid checkF; rw [if_pos k1]
  have k1' : (ts.length : Int) > 64 := by omega
  go_enter Tryz.func49, Tryz.ntmps49
  go_wp2
  go_returns
  exact ⟨_, _, rfl, by rw [HE.out], by rw [HE.out], Below.refl _ _⟩
 by_cases k2 : 64 < ns.length
 ·have HE : Hid (checkF ts ns = (32, 0)) := by unfold Hid checkF; rw [if_neg k1, if_pos k2]
  have k1' : ¬ (ts.length : Int) > 64 := by omega
  have k2' : (ns.length : Int) > 64 := by omega
  go_enter Tryz.func49, Tryz.ntmps49
  go_wp2
  go_returns
  exact ⟨_, _, rfl, by rw [HE.out], by rw [HE.out], Below.refl _ _⟩
 have := refcheck_in a1 a2 c1 c2 ts ns w k1 k2 hz1 hz2 hr1 hr2
 rw [chk_is k1 k2] at this
 exact this
end Go.Proofs.YtndbdliaidbocaaGreat
