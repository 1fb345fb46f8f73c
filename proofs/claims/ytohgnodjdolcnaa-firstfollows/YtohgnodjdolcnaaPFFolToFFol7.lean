import Derived.Test.YtohgnodjdolcnaaPFThyToFSame
import Derived.Test.YtohgnodjdolcnaaPFThreeToFChk8
import Derived.Test.YtohgnodjdolcnaaPRegXIn
namespace Go.Proofs.Ytohgnodjdolcnaa
set_option linter.unusedVariables false
set_option maxRecDepth 100000
set_option maxHeartbeats 16000000
open Go.RowKit
def foStep (N : List Bool) (F : List BS) (x : List BS × BS) (s : Int × Int) : List BS × BS :=
 (if s.1 = 2 then x.1.set s.2.toNat (withS (x.1.getD s.2.toNat (0, 0)) x.2) else x.1, aheadS N F s x.2)
def fStep (N : List Bool) (F : List BS) (E : List BS) (p : PV) : List BS := (p.right.reverse.foldl (foStep N F) (E, E.getD p.left.toNat (0, 0))).1
def fRound (N : List Bool) (F : List BS) (ps : List PV) (E : List BS) : List BS := ps.foldl (fStep N F) E
def iterW (N : List Bool) (F : List BS) (ps : List PV) (E : List BS) : Nat -> List BS
 | 0 => E
 | k + 1 => fRound N F ps (iterW N F ps E k)
theorem foStep_le (N : List Bool) (F : List BS) (x : List BS × BS) (s : Int × Int) : LeF x.1 (foStep N F x s).1 := by
 unfold foStep
 split
 ·refine ⟨by simp, fun i => ?_⟩
  show _ <= ((x.1.set _ _).getD i (0, 0)).1 /\ _ <= ((x.1.set _ _).getD i (0, 0)).2
  rw [getD_setS]
  split
  ·rename_i h
   rw [<- h.1]
   exact ⟨Nat.left_le_or, Nat.left_le_or⟩
  ·exact ⟨Nat.le_refl _, Nat.le_refl _⟩
 ·exact LeF.refl _
theorem foFold_le (N : List Bool) (F : List BS) : ∀ (l : List (Int × Int)) (x : List BS × BS), LeF x.1 (l.foldl (foStep N F) x).1
 | [], x => LeF.refl _
 | s :: l, x => (foStep_le N F x s).trans (foFold_le N F l _)
theorem fStep_le (N : List Bool) (F : List BS) (E : List BS) (p : PV) : LeF E (fStep N F E p) := foFold_le N F _ (E, _)
theorem fFold_le (N : List Bool) (F : List BS) : ∀ (ps : List PV) (E : List BS), LeF E (ps.foldl (fStep N F) E)
 | [], E => LeF.refl E
 | p :: ps, E => (fStep_le N F E p).trans (fFold_le N F ps _)
theorem foStep_ok {N : List Bool} {F : List BS} {x : List BS × BS} {s : Int × Int} (hF : ∀ i, OkS (F.getD i (0, 0))) (hE : ∀ i, OkS (x.1.getD i (0, 0))) (hb : OkS x.2) (hs : SymIn N.length s) : (∀ i, OkS ((foStep N F x s).1.getD i (0, 0))) /\ OkS (foStep N F x s).2 := by
 refine ⟨fun i => ?_, ahead_ok hF hs hb⟩
 unfold foStep
 by_cases h : s.1 = 2
 ·simp only [h, if_true]
  rw [getD_setS]
  split
  ·exact (hE _).with hb
  ·exact hE i
 ·simp only [h, if_false]
  exact hE i
def ClosW (N : List Bool) (F : List BS) (ps : List PV) (E : List BS) : Prop := ∀ p ∈ ps, ∀ r1 s r2, p.right = r1 ++ s :: r2 -> s.1 = 2 -> LeS (ofS N F r2 (E.getD p.left.toNat (0, 0))) (E.getD s.2.toNat (0, 0))
theorem foFold_fix {N : List Bool} {F : List BS} {E : List BS} : ∀ (l : List (Int × Int)) (b : BS), (l.foldl (foStep N F) (E, b)).1 = E -> ∀ l1 s l2, l = l1 ++ s :: l2 -> s.1 = 2 -> s.2.toNat < E.length -> LeS (l1.foldl (fun a x => aheadS N F x a) b) (E.getD s.2.toNat (0, 0))
 | [], b, _, l1, s, l2, e, _, _ => by cases l1 <;> cases e
 | t :: l, b, h, l1, s, l2, e, hs, hl => by
  rw [List.foldl_cons] at h
  have h1 : (foStep N F (E, b) t).1 = E := LeF.antisymm (by have := foFold_le N F l (foStep N F (E, b) t); rwa [h] at this) (foStep_le N F (E, b) t)
  have h2 : foStep N F (E, b) t = (E, aheadS N F t b) := Prod.ext h1 rfl
  rw [h2] at h
  rcases l1 with _ | ⟨t', l1⟩
  ·simp only [List.nil_append, List.cons.injEq] at e
   obtain ⟨rfl, rfl⟩ := e
   have h3 : (foStep N F (E, b) t).1.getD t.2.toNat (0, 0) = E.getD t.2.toNat (0, 0) := by rw [h1]
   unfold foStep at h3
   simp only [hs, if_true] at h3
   rw [getD_setS, if_pos ⟨rfl, hl⟩] at h3
   have := leS_right (E.getD t.2.toNat (0, 0)) b
   rwa [h3] at this
  ·simp only [List.cons_append, List.cons.injEq] at e
   obtain ⟨rfl, rfl⟩ := e
   exact foFold_fix _ _ h l1 s l2 rfl hs hl
theorem fFold_fix (N : List Bool) (F : List BS) : ∀ (ps : List PV) (E : List BS), ps.foldl (fStep N F) E = E -> ∀ p ∈ ps, fStep N F E p = E
 | [], _, _, p, hp => absurd hp (List.not_mem_nil)
 | q :: ps, E, h, p, hp => by
  rw [List.foldl_cons] at h
  have e : fStep N F E q = E := LeF.antisymm (by have := fFold_le N F ps (fStep N F E q); rwa [h] at this) (fStep_le N F E q)
  rw [e] at h
  rcases List.mem_cons.1 hp with rfl | hp
  ·exact e
  ·exact fFold_fix N F ps E h p hp
theorem ofS_rev (N : List Bool) (F : List BS) (r : List (Int × Int)) (b : BS) : r.reverse.foldl (fun a x => aheadS N F x a) b = ofS N F r b := by
 rw [List.foldl_reverse]
 rfl
theorem fRound_closed {N : List Bool} {F : List BS} {ps : List PV} {E : List BS} (h : fRound N F ps E = E) (hl : ∀ p ∈ ps, ∀ s ∈ p.right, s.1 = 2 -> s.2.toNat < E.length) : ClosW N F ps E := fun p hp r1 s r2 e hs => by
 have h1 := fFold_fix N F ps E h p hp
 unfold fStep at h1
 have h2 := foFold_fix p.right.reverse _ h1 r2.reverse s r1.reverse (by rw [e]; simp) hs (hl p hp s (by rw [e]; simp) hs)
 rwa [ofS_rev] at h2
theorem foFold_in {N : List Bool} {F : List BS} {E' : List BS} {p : PV} (hc : ∀ r1 s r2, p.right = r1 ++ s :: r2 -> s.1 = 2 -> LeS (ofS N F r2 (E'.getD p.left.toNat (0, 0))) (E'.getD s.2.toNat (0, 0))) : ∀ (l : List (Int × Int)) (r2 : List (Int × Int)) (x : List BS × BS), p.right = l.reverse ++ r2 -> (∀ i, LeS (x.1.getD i (0, 0)) (E'.getD i (0, 0))) -> LeS x.2 (ofS N F r2 (E'.getD p.left.toNat (0, 0))) -> ∀ i, LeS ((l.foldl (foStep N F) x).1.getD i (0, 0)) (E'.getD i (0, 0))
 | [], _, _, _, h, _ => h
 | s :: l, r2, x, e, h, hb => by
  rw [List.foldl_cons]
  have e2 : p.right = l.reverse ++ (s :: r2) := by rw [e]; simp
  refine foFold_in hc l (s :: r2) _ e2 (fun i => ?_) (ahead_mono (fun _ q => q) (fun i => LeS.refl _) s hb)
  unfold foStep
  by_cases hs : s.1 = 2
  ·simp only [hs, if_true]
   rw [getD_setS]
   split
   ·rename_i q
    rw [<- q.1]
    exact leS_with (h _) (hb.trans (hc _ s r2 e2 hs))
   ·exact h i
  ·simp only [hs, if_false]
   exact h i
theorem fStep_in {N : List Bool} {F : List BS} {E E' : List BS} {p : PV} (hc : ∀ r1 s r2, p.right = r1 ++ s :: r2 -> s.1 = 2 -> LeS (ofS N F r2 (E'.getD p.left.toNat (0, 0))) (E'.getD s.2.toNat (0, 0))) (h : ∀ i, LeS (E.getD i (0, 0)) (E'.getD i (0, 0))) : ∀ i, LeS ((fStep N F E p).getD i (0, 0)) (E'.getD i (0, 0)) :=
 foFold_in hc p.right.reverse [] _ (by simp) h (h _)
theorem fFold_in {N : List Bool} {F : List BS} {E' : List BS} : ∀ (ps : List PV) (E : List BS), ClosW N F ps E' -> (∀ i, LeS (E.getD i (0, 0)) (E'.getD i (0, 0))) -> ∀ i, LeS ((ps.foldl (fStep N F) E).getD i (0, 0)) (E'.getD i (0, 0))
 | [], _, _, h => h
 | p :: ps, E, hc, h => fFold_in ps _ (fun q hq => hc q (List.mem_cons_of_mem _ hq)) (fStep_in (hc p (List.mem_cons_self ..)) h)
theorem iterW_in {N : List Bool} {F : List BS} {ps : List PV} {E E' : List BS} (hc : ClosW N F ps E') (h : ∀ i, LeS (E.getD i (0, 0)) (E'.getD i (0, 0))) : ∀ k i, LeS ((iterW N F ps E k).getD i (0, 0)) (E'.getD i (0, 0))
 | 0 => h
 | k + 1 => fFold_in ps _ hc (iterW_in hc h k)
theorem foFold_leS (N : List Bool) (F : List BS) : ∀ (l : List (Int × Int)) (x : List BS × BS) (i : Nat), LeS (x.1.getD i (0, 0)) ((l.foldl (foStep N F) x).1.getD i (0, 0))
 | [], _, _ => LeS.refl _
 | s :: l, x, i => by
  refine LeS.trans ?_ (foFold_leS N F l (foStep N F x s) i)
  unfold foStep
  by_cases hs : s.1 = 2
  ·simp only [hs, if_true]
   rw [getD_setS]
   split
   ·rename_i q
    rw [<- q.1]
    exact leS_left _ _
   ·exact LeS.refl _
  ·simp only [hs, if_false]
   exact LeS.refl _
theorem fFold_leS (N : List Bool) (F : List BS) : ∀ (ps : List PV) (E : List BS) (i : Nat), LeS (E.getD i (0, 0)) ((ps.foldl (fStep N F) E).getD i (0, 0))
 | [], _, _ => LeS.refl _
 | p :: ps, E, i => (foFold_leS N F p.right.reverse (E, E.getD p.left.toNat (0, 0)) i).trans (fFold_leS N F ps _ i)
theorem iterW_leS (N : List Bool) (F : List BS) (ps : List PV) (E : List BS) : ∀ k i, LeS (E.getD i (0, 0)) ((iterW N F ps E k).getD i (0, 0))
 | 0, _ => LeS.refl _
 | k + 1, i => (iterW_leS N F ps E k i).trans (fFold_leS N F ps _ i)
def startW (n : Nat) (st : Nat) (t : Nat) : List BS := (List.replicate n (0, 0)).set st (addS (0, 0) t)
structure LstW (g : GV) (F : List BS) (E : List BS) : Prop where
 len : E.length = g.ns.length
 ok : ∀ i, OkS (E.getD i (0, 0))
 st : hasS (E.getD g.start.toNat (0, 0)) g.ts.length = true
 cl : ClosW (nullU g.ps g.ns.length) F g.ps E
 lst : ∀ E', hasS (E'.getD g.start.toNat (0, 0)) g.ts.length = true -> ClosW (nullU g.ps g.ns.length) F g.ps E' -> ∀ i, LeS (E.getD i (0, 0)) (E'.getD i (0, 0))
theorem LstW.of {g : GV} {F E : List BS} (hg : GP g) (hst : g.start.toNat < g.ns.length) (k : Nat) (hE : E = iterW (nullU g.ps g.ns.length) F g.ps (startW g.ns.length g.start.toNat g.ts.length) k) (hfix : fRound (nullU g.ps g.ns.length) F g.ps E = E) (hlen : E.length = g.ns.length) (hok : ∀ i, OkS (E.getD i (0, 0))) : LstW g F E := by
 have htl := hg.tl
 have h0 : ∀ i, (startW g.ns.length g.start.toNat g.ts.length).getD i (0, 0) = if g.start.toNat = i then addS (0, 0) g.ts.length else (0, 0) := fun i => by
  unfold startW
  rw [getD_setS]
  by_cases q : g.start.toNat = i
  ·rw [if_pos ⟨q, by simp; omega⟩, if_pos q]
  ·rw [if_neg (fun h => q h.1), if_neg q, rep_zero]
 refine ⟨hlen, hok, ?_, fRound_closed hfix (fun p hp s hs e => ?_), fun E' h1 h2 => ?_⟩
 ·have hin : ∀ i, LeS ((startW g.ns.length g.start.toNat g.ts.length).getD i (0, 0)) (E.getD i (0, 0)) := fun i => by
   rw [hE]
   exact iterW_leS _ _ _ _ k i
  refine hin _ _ (by omega) ?_
  rw [h0, if_pos rfl, hasS_add _ _ _ (by omega) (by omega)]
  simp
 ·rw [hlen]
  rcases hg.sym p hp s hs with q | q <;> omega
 ·rw [hE]
  refine iterW_in h2 (fun i n hn q => ?_) k
  rw [h0] at q
  split at q
  ·rename_i e
   subst e
   rw [hasS_add _ _ _ (by omega) hn, hasS_zero, Bool.false_or, decide_eq_true_eq] at q
   rw [<- q]
   exact h1
  ·rw [hasS_zero] at q
   cases q
end Go.Proofs.Ytohgnodjdolcnaa
namespace Go.Proofs.Ytohgnodjdolcnaa
set_option linter.unusedVariables false
set_option maxRecDepth 100000
set_option maxHeartbeats 16000000
open Go.RowKit Go.Shelf
def markD (D : Nat) : Deferred := { target := .collected D, args := #[] }
structure ButD (Ds : List Nat) (W W' : World) : Prop where
 os : W'.os = W.os
 tape : W'.tape = W.tape
 output : W'.output = W.output
 size : W'.heap.size = W.heap.size
 block : ∀ j, j ∉ Ds -> W'.heap[j]? = W.heap[j]?
theorem leaves_marks {F : Fence} {n : Nat} {P : Program} {fn : Func} {tmps : Array Value} {R : Ending -> World -> Prop} : ∀ (Ds : List Nat) (W : World), Ds.Nodup -> (∀ D ∈ Ds, W.heap[D]? = some (.deferred (some []))) -> (∀ W', ButD Ds W W' -> LeavesInM F n P fn tmps R [] .returning W') -> LeavesInM F n P fn tmps R (Ds.map markD) .returning W
 | [], W, _, _, h => h W ⟨rfl, rfl, rfl, rfl, fun _ _ => rfl⟩
 | D :: Ds, W, hn, hd, h => by
  have hD := hd D (List.mem_cons_self ..)
  obtain ⟨hn1, hn2⟩ := List.nodup_cons.1 hn
  refine ⟨by simp, .inl ⟨D, _, rfl, run_takeDeferred hD, ?_⟩⟩
  refine leaves_marks Ds _ hn2 (fun D' h' => ?_) (fun W' hb => h W' ?_)
  ·rw [World.putObj_heap_other (show D' ≠ D by intro e; subst e; exact hn1 h')]
   exact hd D' (List.mem_cons_of_mem _ h')
  ·refine ⟨hb.os, hb.tape, hb.output, hb.size.trans ?_, fun j hj => ?_⟩
   ·simp [World.putObj]
   ·rw [hb.block j (fun h' => hj (List.mem_cons_of_mem _ h')), World.putObj_heap_other (fun e => hj (by rw [e]; exact List.mem_cons_self ..))]
structure FWs (g : GV) (gb vb cb nb fb eb : Nat) (N : List Bool) (F E : List BS) (n₀ : Nat) (w0 w : World) : Prop where
 gbx : w.heap[gb]? = some (gBox g)
 vbx : CellsAt w vb #[.slice (some ⟨eb, 0, none⟩) N.length N.length] 70
 cbx : CellsAt w cb #[.slice (some ⟨nb, 0, none⟩) N.length N.length, .slice (some ⟨fb, 0, none⟩) N.length N.length] 72
 n : BB w nb N
 f : SBk w fb F
 e : SBk w eb E
 okf : ∀ i, OkS (F.getD i (0, 0))
 oke : ∀ i, OkS (E.getD i (0, 0))
 len : F.length = N.length /\ E.length = N.length /\ N.length = g.ns.length
 bel : Below n₀ w0 w
structure KeptE (eb : Nat) (w w' : World) : Prop where
 os : w'.os = w.os
 tape : w'.tape = w.tape
 output : w'.output = w.output
 size : w.heap.size <= w'.heap.size
 block : ∀ j, j < w.heap.size -> j ≠ eb -> w'.heap[j]? = w.heap[j]?
theorem KeptE.refl (eb : Nat) (w : World) : KeptE eb w w := ⟨rfl, rfl, rfl, Nat.le_refl _, fun _ _ _ => rfl⟩
theorem KeptE.trans {eb : Nat} {a b c : World} (h : KeptE eb a b) (k : KeptE eb b c) : KeptE eb a c := ⟨k.os.trans h.os, k.tape.trans h.tape, k.output.trans h.output, Nat.le_trans h.size k.size, fun j hj hn => (k.block j (Nat.lt_of_lt_of_le hj h.size) hn).trans (h.block j hj hn)⟩
theorem KeptE.of {eb : Nat} {w w' : World} (h : Below w.heap.size w w') : KeptE eb w w' := ⟨h.os, h.tape, h.output, h.size, fun j hj _ => h.block j hj⟩
theorem KeptE.set {eb : Nat} {w w' : World} (h : KeptE eb w w') (i : Nat) (v : Value) : KeptE eb w (w'.setCell ⟨eb, i, none⟩ v) := by
 have hb : Below eb w' (w'.setCell ⟨eb, i, none⟩ v) := (Below.refl _ _).setCell (p := ⟨eb, i, none⟩) (Nat.le_refl _) v
 exact ⟨hb.os.trans h.os, hb.tape.trans h.tape, hb.output.trans h.output, Nat.le_trans h.size hb.size, fun j hj hn => (Below.heap_setCell _ _ _ _ hn).trans (h.block j hj hn)⟩
theorem KeptE.below {eb n₀ : Nat} {w0 w w' : World} (h : KeptE eb w w') (hb : Below n₀ w0 w) (hn : n₀ <= eb) (hz : n₀ <= w.heap.size) : Below n₀ w0 w' :=
 hb.trans ⟨h.os, h.tape, h.output, h.size, fun k hk => h.block k (by omega) (by omega)⟩
theorem keptE_own {β : Type} {eb B : Nat} {w : World} (hB : w.heap.size <= B) : OwnFrom B (fun (_ : β) W => KeptE eb w W) := fun _ X Y row hs hg hr =>
 ⟨hg.os.trans hs.os, hg.tape.trans hs.tape, hg.output.trans hs.output, Nat.le_trans hs.size hg.size, fun j hj hn => (hg.block j (Nat.lt_of_lt_of_le hj hs.size) (fun e => by have := (hr j e.symm).1; omega)).trans (hs.block j hj hn)⟩
theorem FWs.kept {g : GV} {gb vb cb nb fb eb : Nat} {N : List Bool} {F E E' : List BS} {n₀ : Nat} {w0 w w' : World} (h : FWs g gb vb cb nb fb eb N F E n₀ w0 w) (hk : KeptE eb w w') (he : SBk w' eb E') (hd : gb ≠ eb /\ vb ≠ eb /\ cb ≠ eb /\ nb ≠ eb /\ fb ≠ eb /\ n₀ <= eb) (hok : ∀ i, OkS (E'.getD i (0, 0))) (hl : E'.length = N.length) (hz : n₀ <= w.heap.size) : FWs g gb vb cb nb fb eb N F E' n₀ w0 w' :=
 ⟨(hk.block _ (lt_of_block h.gbx) hd.1).trans h.gbx, (hk.block _ h.vbx.lt hd.2.1).trans h.vbx, (hk.block _ h.cbx.lt hd.2.2.1).trans h.cbx, h.n.kept (hk.block _ h.n.lt hd.2.2.2.1), h.f.kept (hk.block _ h.f.lt hd.2.2.2.2.1), he, h.okf, hok, ⟨h.len.1, hl, h.len.2.2⟩, hk.below h.bel hd.2.2.2.2.2 hz⟩
end Go.Proofs.Ytohgnodjdolcnaa
namespace Go.Proofs.Ytohgnodjdolcnaa
set_option linter.unusedVariables false
set_option maxRecDepth 100000
set_option maxHeartbeats 16000000
open Go.RowKit Go.Shelf
def xOf (N : List Bool) (F : List BS) (x0 : List BS × BS) {m : Nat} (pre : List (BkA m)) : List BS × BS := pre.foldl (fun y x => foStep N F y x.1.2) x0
theorem xOf_succ (N : List Bool) (F : List BS) (x0 : List BS × BS) {m : Nat} (pre : List (BkA m)) (x : BkA m) : xOf N F x0 (pre ++ [x]) = foStep N F (xOf N F x0 pre) x.1.2 := by simp [xOf]
theorem xOf_all (N : List Bool) (F : List BS) (x0 : List BS × BS) (l : List (Int × Int)) {m : Nat} (zs : List (BkA m)) (h : zs.map Subtype.val = bkL l) : xOf N F x0 zs = l.reverse.foldl (foStep N F) x0 := by
 rw [<- bkL_rev, <- h]
 simp only [xOf, List.foldl_map]
theorem xOf_len (N : List Bool) (F : List BS) (x0 : List BS × BS) {m : Nat} : ∀ pre : List (BkA m), (xOf N F x0 pre).1.length = x0.1.length := by
 intro pre
 unfold xOf
 induction pre generalizing x0 with
 | nil => rfl
 | cons x r ih => rw [List.foldl_cons, ih]; exact (foStep_le N F x0 x.1.2).1
theorem xOf_ok {N : List Bool} {F : List BS} {x0 : List BS × BS} (hF : ∀ i, OkS (F.getD i (0, 0))) (hE : ∀ i, OkS (x0.1.getD i (0, 0))) (hb : OkS x0.2) : ∀ pre : List (BkA N.length), (∀ i, OkS ((xOf N F x0 pre).1.getD i (0, 0))) /\ OkS (xOf N F x0 pre).2 := by
 intro pre
 unfold xOf
 induction pre generalizing x0 with
 | nil => exact ⟨hE, hb⟩
 | cons x r ih =>
  have := foStep_ok (x := x0) (s := x.1.2) hF hE hb x.2
  exact ih this.1 this.2
def BT (n₀ : Nat) (X X' : World) : Prop := KeepsOthers X X' /\ Below n₀ X X'
theorem BT.trans {n₀ : Nat} {A B C : World} (h : BT n₀ A B) (k : BT n₀ B C) : BT n₀ A C := ⟨h.1.trans k.1, h.2.trans k.2⟩
theorem BT.later {n₀ : Nat} {X X' : World} (h : Below X.heap.size X X') (hn : n₀ <= X.heap.size) : BT n₀ X X' := ⟨keeps_below h, h.mono hn⟩
theorem BT.set {n₀ : Nat} (X : World) (b i : Nat) (v : Value) (hn : n₀ <= b) : BT n₀ X (X.setCell ⟨b, i, none⟩ v) := ⟨KeepsOthers.setCell _ _ _, (Below.refl _ _).setCell (p := ⟨b, i, none⟩) hn v⟩
structure BW (eb Bx : Nat) (C : Array Value) (s : Int × Int) (Y : List BS) (p : BS) (W X : World) : Prop where
 c1 : CellsAt X (W.heap.size + 1) #[.int .u64 (p.1 : Int), .int .u64 (p.2 : Int)] 91
 c2 : CellsAt X (W.heap.size + 1 + 1) C 44
 c3 : SBk X eb Y
 bx : CellsAt X Bx #[.int .i64 s.1, .int .i64 s.2] 77
 ke : KeptE eb W X
 lt : eb < W.heap.size /\ W.heap.size + 1 + 1 < Bx
theorem BW.later {eb Bx : Nat} {C : Array Value} {s : Int × Int} {Y : List BS} {p : BS} {W X X' : World} (h : BW eb Bx C s Y p W X) (hb : Below X.heap.size X X') : BW eb Bx C s Y p W X' :=
 ⟨(hb.block _ h.c1.lt).trans h.c1, (hb.block _ h.c2.lt).trans h.c2, h.c3.later hb, (hb.block _ h.bx.lt).trans h.bx, h.ke.trans (KeptE.of hb), h.lt⟩
theorem BW.setE {eb Bx : Nat} {C : Array Value} {s : Int × Int} {Y : List BS} {p : BS} {W X : World} (h : BW eb Bx C s Y p W X) {i : Nat} (hi : i < Y.length) (v : BS) : BW eb Bx C s (Y.set i v) p W ((X.setCell ⟨eb, i * 2, none⟩ (.int .u64 (v.1 : Int))).setCell ⟨eb, i * 2 + 1, none⟩ (.int .u64 (v.2 : Int))) := by
 have hl := h.lt
 have off : ∀ j, j ≠ eb -> ((X.setCell ⟨eb, i * 2, none⟩ (.int .u64 (v.1 : Int))).setCell ⟨eb, i * 2 + 1, none⟩ (.int .u64 (v.2 : Int))).heap[j]? = X.heap[j]? := fun j hj => by rw [Below.heap_setCell _ _ _ _ hj, Below.heap_setCell _ _ _ _ hj]
 exact ⟨(off _ (by omega)).trans h.c1, (off _ (by omega)).trans h.c2, h.c3.set hi v, (off _ (by omega)).trans h.bx, (h.ke.set _ _).set _ _, hl⟩
theorem BW.setB {eb Bx : Nat} {C : Array Value} {s : Int × Int} {Y : List BS} {p : BS} {W X : World} (h : BW eb Bx C s Y p W X) (v : BS) : BW eb Bx C s Y v W ((X.setCell ⟨W.heap.size + 1, 0, none⟩ (.int .u64 (v.1 : Int))).setCell ⟨W.heap.size + 1, 1, none⟩ (.int .u64 (v.2 : Int))) := by
 have hl := h.lt
 have off : ∀ j, j ≠ W.heap.size + 1 -> ((X.setCell ⟨W.heap.size + 1, 0, none⟩ (.int .u64 (v.1 : Int))).setCell ⟨W.heap.size + 1, 1, none⟩ (.int .u64 (v.2 : Int))).heap[j]? = X.heap[j]? := fun j hj => by rw [Below.heap_setCell _ _ _ _ hj, Below.heap_setCell _ _ _ _ hj]
 have hb : Below (W.heap.size + 1) X ((X.setCell ⟨W.heap.size + 1, 0, none⟩ (.int .u64 (v.1 : Int))).setCell ⟨W.heap.size + 1, 1, none⟩ (.int .u64 (v.2 : Int))) := ((Below.refl _ _).setCell (p := ⟨W.heap.size + 1, 0, none⟩) (Nat.le_refl _) _).setCell (p := ⟨W.heap.size + 1, 1, none⟩) (Nat.le_refl _) _
 exact ⟨(heap_set (heap_set h.c1 0 _) 1 _).trans rfl, (off _ (by omega)).trans h.c2, h.c3.kept (off _ (by omega)), (off _ (by omega)).trans h.bx, ⟨hb.os.trans h.ke.os, hb.tape.trans h.ke.tape, hb.output.trans h.ke.output, Nat.le_trans h.ke.size hb.size, fun j hj hn => (off j (by omega)).trans (h.ke.block j hj hn)⟩, hl⟩
def FInv (g : GV) (gb vb cb nb fb eb : Nat) (N : List Bool) (F E : List BS) (n₀ : Nat) (w0 w : World) (a : Act) (W : World) : Prop :=
 ∃ (j : Nat) (Ds : List Nat) (u4 u5 u12 u13 u14 u15 u16 u17 u18 u19 u20 u21 u22 u43 : Value), j <= g.ps.length /\ FWs g gb vb cb nb fb eb N F ((g.ps.take j).foldl (fStep N F) E) n₀ w0 W /\ KeptE eb w W /\ Ds.Nodup /\ (∀ D ∈ Ds, w.heap.size <= D /\ W.heap[D]? = some (.deferred (some []))) /\ a = { tmps := #[.pointer (some ⟨gb, 0, none⟩), .pointer (some ⟨vb, 0, none⟩), .pointer (some ⟨cb, 0, none⟩), undef, u4, u5, undef, undef, .pointer (some ⟨gb, 3, none⟩), .slice g.pa g.ps.length g.pc, .int .i64 (g.ps.length : Int), .int .i64 (j : Int), u12, u13, u14, u15, u16, u17, u18, u19, u20, u21, u22, undef, undef, undef, undef, undef, undef, undef, undef, undef, undef, undef, undef, undef, undef, undef, undef, undef, undef, undef, undef, u43], defers := Ds.map markD }
theorem finv_mk {g : GV} {gb vb cb nb fb eb : Nat} {N : List Bool} {F E : List BS} {n₀ : Nat} {w0 w W : World} {j : Nat} {Ds : List Nat} {pa : Option Addr} {u4 u5 u12 u13 u14 u15 u16 u17 u18 u19 u20 u21 u22 u43 : Value} (hpa : g.pa = pa) (h1 : j <= g.ps.length) (h2 : FWs g gb vb cb nb fb eb N F ((g.ps.take j).foldl (fStep N F) E) n₀ w0 W) (h3 : KeptE eb w W) (h4 : Ds.Nodup) (h5 : ∀ D ∈ Ds, w.heap.size <= D /\ W.heap[D]? = some (.deferred (some []))) : FInv g gb vb cb nb fb eb N F E n₀ w0 w { tmps := #[.pointer (some ⟨gb, 0, none⟩), .pointer (some ⟨vb, 0, none⟩), .pointer (some ⟨cb, 0, none⟩), undef, u4, u5, undef, undef, .pointer (some ⟨gb, 3, none⟩), .slice pa g.ps.length g.pc, .int .i64 (g.ps.length : Int), .int .i64 (j : Int), u12, u13, u14, u15, u16, u17, u18, u19, u20, u21, u22, undef, undef, undef, undef, undef, undef, undef, undef, undef, undef, undef, undef, undef, undef, undef, undef, undef, undef, undef, undef, u43], defers := Ds.map markD } W := by
 subst hpa
 exact ⟨j, Ds, u4, u5, u12, u13, u14, u15, u16, u17, u18, u19, u20, u21, u22, u43, h1, h2, h3, h4, h5, rfl⟩
def FMu (g : GV) (a : Act) (_ : World) : Nat := g.ps.length - (intOf (a.tmps.getD 11 undef)).toNat
set_option linter.unusedSimpArgs false in
theorem frnd_S (g : GV) (gb vb cb nb fb eb : Nat) (N : List Bool) (F E : List BS) (n₀ : Nat) (w0 w : World) (hfg : FG w0 g) (hw0 : w0.heap.size = n₀) (h : FWs g gb vb cb nb fb eb N F E n₀ w0 w) (hd : gb ≠ eb /\ vb ≠ eb /\ cb ≠ eb /\ nb ≠ eb /\ fb ≠ eb /\ n₀ <= eb) :
  Calls Try.prog 58 #[.pointer (some ⟨gb, 0, none⟩), .pointer (some ⟨vb, 0, none⟩), .pointer (some ⟨cb, 0, none⟩)] w fun e w' => e = .returned (.tuple #[]) /\ FWs g gb vb cb nb fb eb N F (fRound N F g.ps E) n₀ w0 w' /\ w.heap.size <= w'.heap.size /\ ∀ j, j < w.heap.size -> j ≠ eb -> w'.heap[j]? = w.heap[j]? := by
 have HG : Hid (∀ w', Below n₀ w0 w' -> FG w' g) := fun w' hb => hfg.later (by rw [hw0]; exact hb)
 have HFG0 : Hid (FG w0 g) := hfg
 have H0 : Hid (FWs g gb vb cb nb fb eb N F E n₀ w0 w) := h
 have HD : Hid (gb ≠ eb /\ vb ≠ eb /\ cb ≠ eb /\ nb ≠ eb /\ fb ≠ eb /\ n₀ <= eb) := hd
 have hpl := hfg.pl
 have HZ : Hid (∀ w', Below n₀ w0 w' -> n₀ <= w'.heap.size) := fun w' hb => by rw [<- hw0]; have := hb.size; omega
 have HSY : Hid (∀ p ∈ g.ps, ∀ s ∈ p.right, SymIn g.ns.length s) := fun p hp s hs => by
  rcases hfg.sym p hp s hs with q | q
  ·exact .inl ⟨q.1, q.2.1, by have := hfg.tl; omega⟩
  ·exact .inr q
 obtain ⟨x0, x1, x2, x3, x4⟩ := gb_cells h.gbx
 clear h hd hfg
 refine (callsIn_wide (n := 6)).1 ?_
 refine callsIn_of_wp_marks Try.func58 rfl trivial ?_ rfl
 simp only [Try.ntmps58, List.size_toArray, List.length_cons, List.length_nil, Nat.reduceAdd, Nat.reduceSub, Array.replicate_succ, Array.replicate_zero, List.push_toArray, List.append_toArray, List.nil_append, List.cons_append]
 gi_wp2
 clear x0 x1 x2 x3 x4
 refine wpIn_loop (FInv g gb vb cb nb fb eb N F E n₀ w0 w) (FMu g) ⟨0, [], undef, undef, undef, undef, undef, undef, undef, undef, undef, undef, undef, undef, undef, undef, Nat.zero_le _, H0.out, KeptE.refl _ _, List.nodup_nil, (fun D hD => absurd hD (List.not_mem_nil)), rfl⟩ (fun a W hI => ?_)
 obtain ⟨j, Ds, hI⟩ := hI
 obtain ⟨u4, hI⟩ := hI
 obtain ⟨u5, hI⟩ := hI
 obtain ⟨u12, hI⟩ := hI
 obtain ⟨u13, hI⟩ := hI
 obtain ⟨u14, hI⟩ := hI
 obtain ⟨u15, hI⟩ := hI
 obtain ⟨u16, hI⟩ := hI
 obtain ⟨u17, hI⟩ := hI
 obtain ⟨u18, hI⟩ := hI
 obtain ⟨u19, hI⟩ := hI
 obtain ⟨u20, hI⟩ := hI
 obtain ⟨u21, hI⟩ := hI
 obtain ⟨u22, hI⟩ := hI
 obtain ⟨u43, hI⟩ := hI
 obtain ⟨hj, hL, hKE, hnd, hds, rfl⟩ := hI
 by_cases hjt : j < g.ps.length
 ·have jlt : (j : Int) < (g.ps.length : Int) := by omega
  have hfg := HG.out _ hL.bel
  obtain ⟨b, o, hpa, hbl, hc⟩ := hfg.p.cells (by intro e; rw [e] at hjt; simp at hjt)
  obtain ⟨c0, c1, c2⟩ := hc j hjt
  have hmem : g.ps.getD j .none ∈ g.ps := by simp [List.getD, hjt]
  obtain ⟨l0, l1⟩ := hfg.left _ hmem
  have hrow0 := HFG0.out.p.rows _ hmem
  have hrl := hfg.rl _ hmem
  have hsy := HSY.out _ hmem
  have hstep := foldl_take_succ (fStep N F) g.ps j E .none hjt
  generalize hFF : (g.ps.take j).foldl (fStep N F) E = G at *
  generalize hp : g.ps.getD j .none = p at *
  obtain ⟨pl, pra, prc, pr, pp⟩ := p
  simp only at c0 c1 c2 l0 l1 hrow0 hrl hsy
  obtain ⟨m, rfl⟩ : ∃ m : Nat, pl = (m : Int) := ⟨pl.toNat, by omega⟩
  have hmN : m < N.length := by rw [hL.len.2.2]; omega
  have hmG : m < G.length := by rw [hL.len.2.1]; exact hmN
  have mlt : (m : Int) < (N.length : Int) := by omega
  have hv0 : W.cell? ⟨vb, 0, none⟩ = some (.slice (some ⟨eb, 0, none⟩) N.length N.length) := (cellq_any hL.vbx).trans rfl
  obtain ⟨y0, y1⟩ := hL.e.cell hmG
  have hOG := hL.oke m
  have HST : Hid ((g.ps.take (j + 1)).foldl (fStep N F) E = (pr.reverse.foldl (foStep N F) (G, G.getD m (0, 0))).1) := by
   show _ = _
   rw [hstep]
   simp [fStep]
  generalize hGm : G.getD m (0, 0) = q at *
  obtain ⟨q1, q2⟩ := q
  have a1 : ∀ (o1 : Obj) (i k : Nat), i < W.heap.size -> (W.alloc o1).cell? ⟨i, k, none⟩ = W.cell? ⟨i, k, none⟩ := fun o1 i k hi => (below_alloc W o1).cell (p := ⟨i, k, none⟩) hi
  have hv1 : (W.alloc (.cells #[.int .i64 (m : Int), .slice pra pr.length prc, .int .i64 pp] 46)).cell? ⟨vb, 0, none⟩ = some (.slice (some ⟨eb, 0, none⟩) N.length N.length) := (a1 _ _ _ hL.vbx.lt).trans hv0
  have z0 : (W.alloc (.cells #[.int .i64 (m : Int), .slice pra pr.length prc, .int .i64 pp] 46)).cell? ⟨eb, m * 2, none⟩ = some (.int .u64 (q1 : Int)) := (a1 _ _ _ hL.e.lt).trans y0
  have z1 : (W.alloc (.cells #[.int .i64 (m : Int), .slice pra pr.length prc, .int .i64 pp] 46)).cell? ⟨eb, m * 2 + 1, none⟩ = some (.int .u64 (q2 : Int)) := (a1 _ _ _ hL.e.lt).trans y1
  have HL : Hid (FWs g gb vb cb nb fb eb N F G n₀ w0 W) := hL
  have HKE : Hid (KeptE eb w W /\ Ds.Nodup /\ ∀ D ∈ Ds, w.heap.size <= D /\ W.heap[D]? = some (.deferred (some []))) := ⟨hKE, hnd, hds⟩
  have HRW : Hid (SymRow w0 pra pr) := hrow0
  have HS2 : Hid (∀ s ∈ pr, SymIn N.length s) := by rw [hL.len.2.2]; exact hsy
  have HOQ : Hid (OkS (q1, q2)) := hOG
  have HGM : Hid (G.getD m (0, 0) = (q1, q2)) := hGm
  obtain ⟨t0, t1, t2, t3⟩ := three_box W (.cells #[.int .i64 (m : Int), .slice pra pr.length prc, .int .i64 pp] 46) (.cells #[.int .u64 (q1 : Int), .int .u64 (q2 : Int)] 91) (.cells #[.slice pra pr.length prc] 44)
  have HPA : Hid (g.pa = some ⟨b, o, none⟩) := hpa
  rw [hpa]
  clear hL hKE hnd hds hc hmem hstep hFF hp hrow0 hsy hpa hfg hGm hOG a1 y0 y1 hv0
  gi_wp2_with (refine ⟨trivial, ?_⟩; gi_at_call 54; refine (callsIn_wide.2 (backward_S pra pr.length prc _)).mono ?_; rintro e w' ⟨rfl, rfl⟩)
  obtain ⟨W3, hW3⟩ : ∃ W3, (((W.alloc (.cells #[.int .i64 (m : Int), .slice pra pr.length prc, .int .i64 pp] 46)).alloc (.cells #[.int .u64 (q1 : Int), .int .u64 (q2 : Int)] 91)).alloc (.cells #[.slice pra pr.length prc] 44)) = W3 := ⟨_, rfl⟩
  have hsz : W3.heap.size = W.heap.size + 1 + 1 + 1 := by rw [<- hW3, alZ, alZ, alZ]
  rw [hW3] at t0 t1 t2 t3 ⊢
  clear hW3 hv1 z0 z1 c0 c1 c2 hbl
  obtain ⟨zs, hzs⟩ := sub_list (fun x : Int × (Int × Int) => SymIn N.length x.2) (bkL pr) (fun x hx => by
   have : x.2 ∈ (bkL pr).map (·.2) := List.mem_map_of_mem hx
   rw [bkL_rev] at this
   exact HS2.out _ (List.mem_reverse.1 this))
  have hebW : eb < W.heap.size := HL.out.e.lt
  have hn0W : n₀ <= W.heap.size := HZ.out _ HL.out.bel
  have hbw3 : Below n₀ w0 W3 := HL.out.bel.trans (t0.mono hn0W)
  have HE3 : Hid (SBk W3 eb G) := HL.out.e.later t0
  have HXO : Hid (∀ pre : List (BkA N.length), (∀ i, OkS ((xOf N F (G, (q1, q2)) pre).1.getD i (0, 0))) /\ OkS (xOf N F (G, (q1, q2)) pre).2) := fun pre => xOf_ok HL.out.okf HL.out.oke HOQ.out pre
  have HXL : Hid (∀ pre : List (BkA N.length), (xOf N F (G, (q1, q2)) pre).1.length = N.length) := fun pre => (xOf_len N F (G, (q1, q2)) pre).trans HL.out.len.2.1
  refine wpIn_rangeFunc_ownH rfl (by omega) (gf := 72) (lb := #[.pointer (some ⟨W.heap.size + 1 + 1, 0, none⟩)]) rfl trivial (enters_of Try.func72 (by kernel_rfl) rfl)
   (back_seq Fence.wide _ trivial rfl (by omega) (W.heap.size + 1 + 1) n₀ pra prc N.length pr (by omega) zs hzs W3 (by omega) t3 w0 hw0 hbw3 HRW.out) KpB.t (KpB.b (by omega) (by omega)) (Below.refl _ _) (fun _ => rfl)
   (fun pre X => ((CellsAt X (W.heap.size + 1) #[.int .u64 ((xOf N F (G, (q1, q2)) pre).2.1 : Int), .int .u64 ((xOf N F (G, (q1, q2)) pre).2.2 : Int)] 91 /\ CellsAt X (W.heap.size + 1 + 1) #[.slice pra pr.length prc] 44) /\ CellsAt X eb (setCells (xOf N F (G, (q1, q2)) pre).1).toArray 91) /\ KeptE eb W X)
   (fun _ _ _ => False)
   (OwnFrom.and (OwnFrom.and (OwnFrom.and (Own.from (cellsAt_own _ _ _) _) (Own.from (cellsAt_own _ _ _) _)) (Own.from (cellsAt_own _ _ _) _)) (keptE_own (by omega)))
   (fun _ _ _ _ _ hs _ _ => hs)
   ⟨⟨⟨t2, t3⟩, HE3.out⟩, KeptE.of t0⟩
   (fun x a' X => ∃ Bx, W.heap.size + 1 + 1 < Bx /\ CellsAt X Bx #[.int .i64 x.1.2.1, .int .i64 x.1.2.2] 77 /\ a' = { tmps := #[.pointer (some ⟨gb, 0, none⟩), .pointer (some ⟨vb, 0, none⟩), .pointer (some ⟨cb, 0, none⟩), undef, .pointer (some ⟨W.heap.size, 0, none⟩), .pointer (some ⟨W.heap.size + 1, 0, none⟩), undef, .pointer (some ⟨Bx, 0, none⟩), .pointer (some ⟨gb, 3, none⟩), .slice (some ⟨b, o, none⟩) g.ps.length g.pc, .int .i64 (g.ps.length : Int), .int .i64 (j : Int), .bool true, .pointer (some ⟨b, o + j * 3, none⟩), .agg #[.int .i64 (m : Int), .slice pra pr.length prc, .int .i64 pp], .slice (some ⟨eb, 0, none⟩) N.length N.length, .pointer (some ⟨W.heap.size, 0, none⟩), .int .i64 (m : Int), .pointer (some ⟨eb, m * 2, none⟩), .agg #[.int .u64 (q1 : Int), .int .u64 (q2 : Int)], .pointer (some ⟨W.heap.size, 1, none⟩), .slice pra pr.length prc, .func (.func 72) #[] #[.pointer (some ⟨W.heap.size + 1 + 1, 0, none⟩)], .int .i64 x.1.1, .agg #[.int .i64 x.1.2.1, .int .i64 x.1.2.2], undef, undef, undef, undef, undef, undef, undef, undef, undef, undef, undef, undef, undef, undef, undef, undef, undef, undef, u43], defers := [] })
   (fun x a' _ X Y row hs hg hr => by obtain ⟨Bx, h1, h2, h3⟩ := hs; exact ⟨Bx, h1, cellsAt_own Bx 77 (fun (_ : Unit) => #[.int .i64 x.1.2.1, .int .i64 x.1.2.2]) () X Y row h2 hg (fun r e => (hr r e).2), h3⟩)
   ?assign ?body ?done ?stop
  case assign =>
   rintro l' pre x X K ⟨⟨⟨c1, c2⟩, c3⟩, hB1⟩ hK
   have hsa := @Oper.semAt_some
   gi_wp2
   exact hK _ _ ((KeepsOthers.alloc _ _).from _) ⟨(Below.refl _ X).alloc (by have := hB1.size; omega) _, (below_alloc _ _).block _ c2.lt⟩ ⟨⟨⟨c1.alloc _, c2.alloc _⟩, c3.alloc _⟩, hB1.trans (KeptE.of (below_alloc _ _))⟩ ⟨X.heap.size, c2.lt, heap_alloc_new _ _, rfl⟩
  case body =>
   rintro l' pre x a' X hl' ⟨r, hr⟩ ⟨⟨⟨c1, c2⟩, c3⟩, hB1⟩ ⟨Bx, hBx, bX, rfl⟩ hlt
   have hsa := @Oper.semAt_some
   have hok := HXO.out pre
   have hsucc := xOf_succ N F (G, (q1, q2)) pre x
   have hlen := HXL.out pre
   generalize xOf N F (G, (q1, q2)) pre = y at *
   obtain ⟨Y, p1, p2⟩ := y
   obtain ⟨⟨xi, s1, s2⟩, hsx⟩ := x
   simp only at hsx hsucc hok hlen c1 c3 bX
   have BW0 : Hid (BW eb Bx #[.slice pra pr.length prc] (s1, s2) Y (p1, p2) W X) := ⟨c1, c2, c3, bX, hB1, hebW, hBx⟩
   have HOK : Hid ((∀ i, OkS (Y.getD i (0, 0))) /\ OkS (p1, p2)) := hok
   have HSU : Hid (xOf N F (G, (q1, q2)) (pre ++ [⟨(xi, s1, s2), hsx⟩]) = foStep N F (Y, (p1, p2)) (s1, s2)) := hsucc
   have HFB : Hid (∀ X' : World, KeptE eb W X' -> X'.cell? ⟨vb, 0, none⟩ = some (.slice (some ⟨eb, 0, none⟩) N.length N.length) /\ X'.cell? ⟨cb, 0, none⟩ = some (.slice (some ⟨nb, 0, none⟩) N.length N.length) /\ X'.cell? ⟨cb, 1, none⟩ = some (.slice (some ⟨fb, 0, none⟩) N.length N.length)) := fun X' hk => by
    have hd := HD.out
    have k1 := (hk.block _ HL.out.vbx.lt hd.2.1).trans HL.out.vbx
    have k2 := (hk.block _ HL.out.cbx.lt hd.2.2.1).trans HL.out.cbx
    exact ⟨(cellq_any k1).trans rfl, (cellq_any k2).trans rfl, (cellq_any k2).trans rfl⟩
   have AH : Hid (∀ X' : World, KeptE eb W X' -> Calls Try.prog 55 #[.agg #[.slice (some ⟨nb, 0, none⟩) N.length N.length, .slice (some ⟨fb, 0, none⟩) N.length N.length], .agg #[.int .i64 s1, .int .i64 s2], sv (p1, p2)] X' fun e w' => e = .returned (sv (aheadS N F (s1, s2) (p1, p2))) /\ Below X'.heap.size X' w') := fun X' hk => by
    have hd := HD.out
    exact ahead_S (some ⟨nb, 0, none⟩) N N.length fb N.length F (s1, s2) (p1, p2) X' ⟨(HL.out.n.kept (hk.block _ HL.out.n.lt hd.2.2.2.1)).row, HL.out.f.kept (hk.block _ HL.out.f.lt hd.2.2.2.2.1), ⟨HL.out.len.1, by rw [HL.out.len.2.2]; exact HFG0.out.nl.2⟩, HL.out.okf⟩ hsx HOK.out.2
   have NZ : Hid (∀ X' : World, KeptE eb W X' -> n₀ <= X'.heap.size) := fun X' hk => Nat.le_trans hn0W hk.size
   obtain ⟨v0, v1, v2⟩ := HFB.out _ hB1
   have z0 : X.cell? ⟨Bx, 0, none⟩ = some (.int .i64 s1) := (cellq_any bX).trans rfl
   have z1 : X.cell? ⟨Bx, 1, none⟩ = some (.int .i64 s2) := (cellq_any bX).trans rfl
   have y0 : X.cell? ⟨W.heap.size + 1, 0, none⟩ = some (.int .u64 (p1 : Int)) := (cellq_any c1).trans rfl
   have y1 : X.cell? ⟨W.heap.size + 1, 1, none⟩ = some (.int .u64 (p2 : Int)) := (cellq_any c1).trans rfl
   clear hok hsucc c1 c2 c3 bX hB1
   obtain ⟨q', hq'⟩ : ∃ q', aheadS N F (s1, s2) (p1, p2) = q' := ⟨_, rfl⟩
   rw [hq'] at AH
   have HQ' : Hid (aheadS N F (s1, s2) (p1, p2) = q') := hq'
   clear hq'
   obtain ⟨h1, h2⟩ := q'
   have hsy2 : (s1 = 1 /\ 0 <= s2 /\ s2 < 64) ∨ (s1 = 2 /\ 0 <= s2 /\ s2 < (N.length : Int)) := hsx
   rcases hsy2 with ⟨hs1, i0, i1⟩ | ⟨hs1, i0, i1⟩
   ·have t27 : (s1 == 2) = false := by rw [hs1]; decide
    have HF1 : Hid (foStep N F (Y, (p1, p2)) (s1, s2) = (Y, (h1, h2))) := by
     show _ = _
     unfold foStep
     rw [if_neg (by show ¬ s1 = 2; omega), HQ'.out]
    clear hs1
    gi_wp2_with (refine ⟨trivial, ?_⟩; gi_at_call 55; refine (CallsIn.inRound l' (callsIn_wide.2 (AH.out _ BW0.out.ke))).mono ?_; rintro e2 w2 ⟨rfl, b2⟩; have B2 : Hid (BW eb Bx #[.slice pra pr.length prc] (s1, s2) Y (p1, p2) W w2) := BW0.out.later b2; have T2 : Hid (BT n₀ X w2) := (BT.later (Below.refl _ _) (NZ.out _ BW0.out.ke)).trans (BT.later b2 (NZ.out _ BW0.out.ke)); have e0 : w2.cell? ⟨W.heap.size + 1, 0, none⟩ = some (.int .u64 (p1 : Int)) := (cellq_any B2.out.c1).trans rfl; have e1 : w2.cell? ⟨W.heap.size + 1, 1, none⟩ = some (.int .u64 (p2 : Int)) := (cellq_any B2.out.c1).trans rfl; have g0 := frostS B2.out.c1 0; have g1 := frostS B2.out.c1 1; have hz2 := B2.out.c1.lt; clear b2)
    have B3 := B2.out.setB (h1, h2)
    have T3 := T2.out.trans ((BT.set w2 (W.heap.size + 1) 0 (.int .u64 (h1 : Int)) (by omega)).trans (BT.set _ (W.heap.size + 1) 1 (.int .u64 (h2 : Int)) (by omega)))
    refine ⟨T3.1.from _, ⟨T3.2, B3.c2.trans BW0.out.c2.symm⟩, ⟨⟨?_, B3.c2⟩, ?_⟩, B3.ke⟩
    ·rw [HSU.out, HF1.out]; exact B3.c1
    ·rw [HSU.out, HF1.out]; exact B3.c3
   ·obtain ⟨e, rfl⟩ : ∃ e : Nat, s2 = (e : Int) := ⟨s2.toNat, by omega⟩
    have t27 : (s1 == 2) = true := by simpa using hs1
    have heY : e < Y.length := by rw [hlen]; omega
    have elt : (e : Int) < (N.length : Int) := by omega
    obtain ⟨rr, hrr⟩ : ∃ rr, Y.getD e (0, 0) = rr := ⟨_, rfl⟩
    have HRR : Hid (Y.getD e (0, 0) = rr) := hrr
    clear hrr
    obtain ⟨r1, r2⟩ := rr
    obtain ⟨vv, hvv⟩ : ∃ vv, withS (r1, r2) (p1, p2) = vv := ⟨_, rfl⟩
    have WC : Hid (∀ w', Calls Try.prog 49 #[sv (r1, r2), sv (p1, p2)] w' fun e w2 => e = .returned (sv (withS (r1, r2) (p1, p2))) /\ Below w'.heap.size w' w2) := fun w' => with_S _ _ w' (by rw [<- HRR.out]; exact HOK.out.1 e) HOK.out.2
    rw [hvv] at WC
    have HF1 : Hid (foStep N F (Y, (p1, p2)) (s1, (e : Int)) = (Y.set e vv, (h1, h2))) := by
     show _ = _
     unfold foStep
     rw [if_pos (by show s1 = 2; exact hs1), HQ'.out, <- hvv, <- HRR.out]
     rfl
    clear hvv hs1
    obtain ⟨m1, m2⟩ := vv
    have KS0 : Hid (∀ X', BW eb Bx #[.slice pra pr.length prc] (s1, (e : Int)) Y (p1, p2) W X' -> (fun w' : World => w'.cell? ⟨vb, 0, none⟩ = some (.slice (some ⟨eb, 0, none⟩) N.length N.length) /\ w'.cell? ⟨Bx, 1, none⟩ = some (.int .i64 (e : Int)) /\ w'.cell? ⟨W.heap.size + 1, 0, none⟩ = some (.int .u64 (p1 : Int)) /\ w'.cell? ⟨W.heap.size + 1, 1, none⟩ = some (.int .u64 (p2 : Int))) X' /\ (fun w' : World => w'.cell? ⟨eb, e * 2, none⟩ = some (.int .u64 (r1 : Int)) /\ w'.cell? ⟨eb, e * 2 + 1, none⟩ = some (.int .u64 (r2 : Int))) X') := fun X' hb => by
     obtain ⟨a0, a1⟩ := hb.c3.cell heY
     rw [HRR.out] at a0 a1
     exact ⟨⟨(HFB.out _ hb.ke).1, (cellq_any hb.bx).trans rfl, (cellq_any hb.c1).trans rfl, (cellq_any hb.c1).trans rfl⟩, a0, a1⟩
    have BD : Hid (BW eb Bx #[.slice pra pr.length prc] (s1, (e : Int)) Y (p1, p2) W X.drew /\ BT n₀ X X.drew) := ⟨BW0.out.later (Below.refl _ _).drew, BT.later (Below.refl _ _).drew (NZ.out _ BW0.out.ke)⟩
    have hs : Hid ((fun w' : World => w'.cell? ⟨vb, 0, none⟩ = some (.slice (some ⟨eb, 0, none⟩) N.length N.length) /\ w'.cell? ⟨Bx, 1, none⟩ = some (.int .i64 (e : Int)) /\ w'.cell? ⟨W.heap.size + 1, 0, none⟩ = some (.int .u64 (p1 : Int)) /\ w'.cell? ⟨W.heap.size + 1, 1, none⟩ = some (.int .u64 (p2 : Int))) X.drew /\ (fun w' : World => w'.cell? ⟨eb, e * 2, none⟩ = some (.int .u64 (r1 : Int)) /\ w'.cell? ⟨eb, e * 2 + 1, none⟩ = some (.int .u64 (r2 : Int))) X.drew) := KS0.out _ BD.out.1
    gi_wp2
    refine wpIn_region_x (S := SX 11 (fun w' : World => w'.cell? ⟨vb, 0, none⟩ = some (.slice (some ⟨eb, 0, none⟩) N.length N.length) /\ w'.cell? ⟨Bx, 1, none⟩ = some (.int .i64 (e : Int)) /\ w'.cell? ⟨W.heap.size + 1, 0, none⟩ = some (.int .u64 (p1 : Int)) /\ w'.cell? ⟨W.heap.size + 1, 1, none⟩ = some (.int .u64 (p2 : Int))) (fun w' : World => w'.cell? ⟨eb, e * 2, none⟩ = some (.int .u64 (r1 : Int)) /\ w'.cell? ⟨eb, e * 2 + 1, none⟩ = some (.int .u64 (r2 : Int)))) (by kernel_rfl) ?_
    refine wpAnyXIn_take (m := 11) (i := 0) (v := ?_) (by kernel_rfl) rfl (by kernel_rfl) (by kernel_rfl) (by decide) (by decide +kernel) (by decide +kernel) (fun _ _ _ h => h) (by kernel_rfl) (fun _ => rfl) (Or.inl ⟨by rfl, ?_⟩) (SX.both hs.out.1 hs.out.2) ?_
    rotate_left
    ·(intro w hSw; (try dsimp only at hSw); go_simp; try (with_reducible rfl))
    (try simp only [Act.put, lsA, lsZ, lsN])
    refine wpAnyXIn_take (m := 11) (i := 1) (v := ?_) (by kernel_rfl) rfl (by kernel_rfl) (by kernel_rfl) (by decide) (by decide +kernel) (by decide +kernel) (fun _ _ _ h => h) (by kernel_rfl) (fun _ => rfl) (Or.inl ⟨by rfl, ?_⟩) (SX.both hs.out.1 hs.out.2) ?_
    rotate_left
    ·(intro w hSw; (try dsimp only at hSw); go_simp; try (with_reducible rfl))
    (try simp only [Act.put, lsA, lsZ, lsN])
    refine wpAnyXIn_take (m := 11) (i := 2) (v := ?_) (by kernel_rfl) rfl (by kernel_rfl) (by kernel_rfl) (by decide) (by decide +kernel) (by decide +kernel) (fun _ _ _ h => h) (by kernel_rfl) (fun _ => rfl) (Or.inl ⟨by rfl, ?_⟩) (SX.both hs.out.1 hs.out.2) ?_
    rotate_left
    ·(intro w hSw; (try dsimp only at hSw); go_simp; try (with_reducible rfl))
    (try simp only [Act.put, lsA, lsZ, lsN])
    refine wpAnyXIn_take (m := 11) (i := 3) (v := ?_) (by kernel_rfl) rfl (by kernel_rfl) (by kernel_rfl) (by decide) (by decide +kernel) (by decide +kernel) (fun _ _ _ h => h) (by kernel_rfl) (fun _ => rfl) (Or.inl ⟨by rfl, ?_⟩) (SX.both hs.out.1 hs.out.2) ?_
    rotate_left
    ·(intro w hSw; (try dsimp only at hSw); go_simp; try (with_reducible rfl))
    (try simp only [Act.put, lsA, lsZ, lsN])
    refine wpAnyXIn_take (m := 11) (i := 4) (v := ?_) (by kernel_rfl) rfl (by kernel_rfl) (by kernel_rfl) (by decide) (by decide +kernel) (by decide +kernel) (fun _ _ _ h => h) (by kernel_rfl) (fun _ => rfl) (Or.inl ⟨by rfl, ?_⟩) (SX.both hs.out.1 hs.out.2) ?_
    rotate_left
    ·(intro w hSw; (try dsimp only at hSw); go_simp; try (with_reducible rfl))
    (try simp only [Act.put, lsA, lsZ, lsN])
    refine wpAnyXIn_take (m := 11) (i := 5) (v := ?_) (by kernel_rfl) rfl (by kernel_rfl) (by kernel_rfl) (by decide) (by decide +kernel) (by decide +kernel) (fun _ _ _ h => h) (by kernel_rfl) (fun _ => rfl) (Or.inl ⟨by rfl, ?_⟩) (SX.both hs.out.1 hs.out.2) ?_
    rotate_left
    ·(intro w hSw; (try dsimp only at hSw); go_simp; try (with_reducible rfl))
    (try simp only [Act.put, lsA, lsZ, lsN])
    refine wpAnyXIn_take (m := 11) (i := 6) (v := ?_) (by kernel_rfl) rfl (by kernel_rfl) (by kernel_rfl) (by decide) (by decide +kernel) (by decide +kernel) (fun _ _ _ h => h) (by kernel_rfl) (fun _ => rfl) (Or.inl ⟨by rfl, ?_⟩) (SX.both hs.out.1 hs.out.2) ?_
    rotate_left
    ·(intro w hSw; (try dsimp only at hSw); go_simp; try (with_reducible rfl))
    (try simp only [Act.put, lsA, lsZ, lsN])
    refine wpAnyXIn_take (m := 11) (i := 7) (v := ?_) (by kernel_rfl) rfl (by kernel_rfl) (by kernel_rfl) (by decide) (by decide +kernel) (by decide +kernel) (fun _ _ _ h => h) (by kernel_rfl) (fun _ => rfl) (Or.inl ⟨by rfl, ?_⟩) (SX.both hs.out.1 hs.out.2) ?_
    rotate_left
    ·(intro w hSw; (try dsimp only at hSw); go_simp; try (with_reducible rfl))
    (try simp only [Act.put, lsA, lsZ, lsN])
    refine wpAnyXIn_take (m := 11) (i := 8) (v := ?_) (by kernel_rfl) rfl (by kernel_rfl) (by kernel_rfl) (by decide) (by decide +kernel) (by decide +kernel) (fun _ _ _ h => h) (by kernel_rfl) (fun _ => rfl) (Or.inl ⟨by rfl, ?_⟩) (SX.both hs.out.1 hs.out.2) ?_
    rotate_left
    ·(intro w hSw; (try dsimp only at hSw); go_simp; try (with_reducible rfl))
    (try simp only [Act.put, lsA, lsZ, lsN])
    refine wpAnyXIn_one (j := 9) (by decide +kernel) rfl (fun K' hK => ?_)
    refine step_callXIn (by rfl) (fun c h => by cases h) 49 #[sv (r1, r2), sv (p1, p2)] _ (run_with2 (v0 := sv (r1, r2)) (v1 := sv (p1, p2)) (by rfl) (by rfl) (by rfl) _) (fun _ _ => trivial) (fun h => by cases h) (CallsIn.inRound l' (callsIn_wide.2 (WC.out _))) ?_
    rintro e9 w3 ⟨rfl, b3⟩
    have B3 : Hid (BW eb Bx #[.slice pra pr.length prc] (s1, (e : Int)) Y (p1, p2) W w3) := BD.out.1.later b3
    have T3 : Hid (BT n₀ X w3) := BD.out.2.trans (BT.later b3 (NZ.out _ BD.out.1.ke))
    clear b3 hs
    have hs : Hid ((fun w' : World => w'.cell? ⟨vb, 0, none⟩ = some (.slice (some ⟨eb, 0, none⟩) N.length N.length) /\ w'.cell? ⟨Bx, 1, none⟩ = some (.int .i64 (e : Int)) /\ w'.cell? ⟨W.heap.size + 1, 0, none⟩ = some (.int .u64 (p1 : Int)) /\ w'.cell? ⟨W.heap.size + 1, 1, none⟩ = some (.int .u64 (p2 : Int))) w3 /\ (fun w' : World => w'.cell? ⟨eb, e * 2, none⟩ = some (.int .u64 (r1 : Int)) /\ w'.cell? ⟨eb, e * 2 + 1, none⟩ = some (.int .u64 (r2 : Int))) w3) := KS0.out _ B3.out
    refine ⟨_, rfl, hK.out _ _ (SX.both hs.out.1 hs.out.2) ?_⟩
    clear hK K'
    (try simp only [Act.put, lsA, lsZ, lsN])
    refine wpAnyXIn_take (m := 11) (i := 10) (v := ?_) (by kernel_rfl) rfl (by kernel_rfl) (by kernel_rfl) (by decide) (by decide +kernel) (by decide +kernel) (fun _ _ _ h => h) (by kernel_rfl) (fun _ => rfl) (Or.inl ⟨by rfl, ?_⟩) (SX.both hs.out.1 hs.out.2) ?_
    rotate_left
    ·(intro w hSw; (try dsimp only at hSw); go_simp; try (with_reducible rfl))
    (try simp only [Act.put, lsA, lsZ, lsN])
    obtain ⟨k0, k1⟩ := hs.out.2
    have f0 := B3.out.c3.free (e * 2)
    have f1 := B3.out.c3.free (e * 2 + 1)
    refine wpAnyXIn_one (j := 11) (by decide +kernel) rfl (fun K' hK => ?_)
    go_simp
    have B4 : Hid (BW eb Bx #[.slice pra pr.length prc] (s1, (e : Int)) (Y.set e (m1, m2)) (p1, p2) W ((w3.setCell ⟨eb, e * 2, none⟩ (.int .u64 (m1 : Int))).setCell ⟨eb, e * 2 + 1, none⟩ (.int .u64 (m2 : Int)))) := B3.out.setE heY (m1, m2)
    have T4 : Hid (BT n₀ X ((w3.setCell ⟨eb, e * 2, none⟩ (.int .u64 (m1 : Int))).setCell ⟨eb, e * 2 + 1, none⟩ (.int .u64 (m2 : Int)))) := T3.out.trans ((BT.set w3 eb (e * 2) (.int .u64 (m1 : Int)) HD.out.2.2.2.2.2).trans (BT.set _ eb (e * 2 + 1) (.int .u64 (m2 : Int)) HD.out.2.2.2.2.2))
    refine hK.out _ _ (SX.one ⟨(HFB.out _ B4.out.ke).1, (cellq_any B4.out.bx).trans rfl, (cellq_any B4.out.c1).trans rfl, (cellq_any B4.out.c1).trans rfl⟩ (by decide +kernel)) ?_
    clear hK K'
    (try simp only [Act.put, lsA, lsZ, lsN])
    refine wpAnyXIn_done (by decide +kernel) ?_
    generalize ((w3.setCell ⟨eb, e * 2, none⟩ (.int .u64 (m1 : Int))).setCell ⟨eb, e * 2 + 1, none⟩ (.int .u64 (m2 : Int))) = w6 at *
    have B6 : Hid (BW eb Bx #[.slice pra pr.length prc] (s1, (e : Int)) (Y.set e (m1, m2)) (p1, p2) W w6) := B4
    have T6 : Hid (BT n₀ X w6) := T4
    clear hs KS0 k0 k1 f0 f1 B3 T3 B4 T4 BD v0 v1 v2 z0 z1 y0 y1 WC
    obtain ⟨v0, v1, v2⟩ := HFB.out _ B6.out.ke
    have z0 : w6.cell? ⟨Bx, 0, none⟩ = some (.int .i64 s1) := (cellq_any B6.out.bx).trans rfl
    have z1 : w6.cell? ⟨Bx, 1, none⟩ = some (.int .i64 (e : Int)) := (cellq_any B6.out.bx).trans rfl
    have y0 : w6.cell? ⟨W.heap.size + 1, 0, none⟩ = some (.int .u64 (p1 : Int)) := (cellq_any B6.out.c1).trans rfl
    have y1 : w6.cell? ⟨W.heap.size + 1, 1, none⟩ = some (.int .u64 (p2 : Int)) := (cellq_any B6.out.c1).trans rfl
    gi_wp2_with (refine ⟨trivial, ?_⟩; gi_at_call 55; refine (CallsIn.inRound l' (callsIn_wide.2 (AH.out _ B6.out.ke))).mono ?_; rintro e2 w2 ⟨rfl, b2⟩; have B2 : Hid (BW eb Bx #[.slice pra pr.length prc] (s1, (e : Int)) (Y.set e (m1, m2)) (p1, p2) W w2) := B6.out.later b2; have T2 : Hid (BT n₀ X w2) := T6.out.trans (BT.later b2 (NZ.out _ B6.out.ke)); have e0 : w2.cell? ⟨W.heap.size + 1, 0, none⟩ = some (.int .u64 (p1 : Int)) := (cellq_any B2.out.c1).trans rfl; have e1 : w2.cell? ⟨W.heap.size + 1, 1, none⟩ = some (.int .u64 (p2 : Int)) := (cellq_any B2.out.c1).trans rfl; have g0 := frostS B2.out.c1 0; have g1 := frostS B2.out.c1 1; have hz2 := B2.out.c1.lt; clear b2)
    have B7 := B2.out.setB (h1, h2)
    have T7 := T2.out.trans ((BT.set w2 (W.heap.size + 1) 0 (.int .u64 (h1 : Int)) (by omega)).trans (BT.set _ (W.heap.size + 1) 1 (.int .u64 (h2 : Int)) (by omega)))
    refine ⟨T7.1.from _, ⟨T7.2, B7.c2.trans BW0.out.c2.symm⟩, ⟨⟨?_, B7.c2⟩, ?_⟩, B7.ke⟩
    ·rw [HSU.out, HF1.out]; exact B7.c1
    ·rw [HSU.out, HF1.out]; exact B7.c3
  case done =>
   rintro D ys X hD rfl ⟨⟨⟨c1, c2⟩, c3⟩, hB1⟩ hK
   have HXX : Hid ((xOf N F (G, (q1, q2)) ys).1 = (pr.reverse.foldl (foStep N F) (G, (q1, q2))).1) := by
    show _ = _
    rw [xOf_all N F (G, (q1, q2)) pr ys hzs]
   have HC3 : Hid (SBk X eb ((g.ps.take (j + 1)).foldl (fStep N F) E)) := by
    rw [HST.out, <- HXX.out]
    exact c3
   have HF3 : Hid (FWs g gb vb cb nb fb eb N F ((g.ps.take (j + 1)).foldl (fStep N F) E) n₀ w0 X) := by
    refine HL.out.kept hB1 HC3.out HD.out ?_ ?_ hn0W
    ·rw [HST.out, <- HXX.out]; exact (HXO.out ys).1
    ·rw [HST.out, <- HXX.out]; exact HXL.out ys
   have HFI : Hid (KeptE eb w X /\ (D :: Ds).Nodup /\ ∀ D' ∈ D :: Ds, w.heap.size <= D' /\ X.heap[D']? = some (.deferred (some []))) := by
    obtain ⟨k1, k2, k3⟩ := HKE.out
    have hDs : ∀ D' ∈ Ds, D' < W.heap.size /\ D' ≠ eb := fun D' h' => by
     have := (k3 D' h').2
     exact ⟨lt_of_block this, fun e => by
      subst e
      have q := HL.out.e
      unfold SBk at q
      rw [this] at q
      cases q⟩
    refine ⟨k1.trans hB1, List.nodup_cons.2 ⟨fun h' => by have := (hDs D h').1; omega, k2⟩, fun D' h' => ?_⟩
    rcases List.mem_cons.1 h' with rfl | h'
    ·exact ⟨by have := k1.size; omega, hK⟩
    ·exact ⟨(k3 D' h').1, (hB1.block _ (hDs D' h').1 (hDs D' h').2).trans (k3 D' h').2⟩
   clear c1 c2 c3 hB1 hK
   gi_wp2
   refine ⟨finv_mk (j := j + 1) (Ds := D :: Ds) HPA.out (by omega) HF3.out HFI.out.1 HFI.out.2.1 HFI.out.2.2, ?_⟩
   ·simp [FMu, intOf]
    omega
  case stop =>
   rintro D c pre X _ _ h _
   exact h.elim
 ·obtain rfl : j = g.ps.length := by omega
  rw [List.take_length] at hL
  have jlt : ¬ (g.ps.length : Int) < (g.ps.length : Int) := by omega
  have HL : Hid (FWs g gb vb cb nb fb eb N F (fRound N F g.ps E) n₀ w0 W) := hL
  have HKE : Hid (KeptE eb w W /\ Ds.Nodup /\ ∀ D ∈ Ds, w.heap.size <= D /\ W.heap[D]? = some (.deferred (some []))) := ⟨hKE, hnd, hds⟩
  clear hL hKE hnd hds
  gi_wp2
  obtain ⟨k1, k2, k3⟩ := HKE.out
  refine leaves_marks Ds W k2 (fun D h => (k3 D h).2) (fun W' hb => ?_)
  have hN : ∀ {C : Array Value} {t : TypeId} {i : Nat}, W.heap[i]? = some (.cells C t (0, 0)) -> W'.heap[i]? = some (.cells C t (0, 0)) := fun {C t i} h => (hb.block i (fun h' => by have := (k3 i h').2; rw [h] at this; cases this)).trans h
  have L := HL.out
  have hB : Below n₀ w0 W' := L.bel.trans ⟨hb.os, hb.tape, hb.output, by rw [hb.size]; exact Nat.le_refl _, fun k hk => hb.block k (fun h' => by have := (k3 k h').1; have := HZ.out _ H0.out.bel; omega)⟩
  refine ⟨.tuple #[], results_none rfl _ _ _, rfl, ⟨hN L.gbx, hN L.vbx, hN L.cbx, hN L.n, hN L.f, hN L.e, L.okf, L.oke, L.len, hB⟩, by rw [hb.size]; exact k1.size, fun i hi hne => (hb.block i (fun h' => by have := (k3 i h').1; omega)).trans (k1.block i hi hne)⟩
end Go.Proofs.Ytohgnodjdolcnaa
namespace Go.Proofs.Ytohgnodjdolcnaa
set_option linter.unusedVariables false
set_option maxRecDepth 100000
set_option maxHeartbeats 16000000
open Go.RowKit Go.Shelf
theorem FWs.later {g : GV} {gb vb cb nb fb eb : Nat} {N : List Bool} {F E : List BS} {n₀ : Nat} {w0 w w' : World} (h : FWs g gb vb cb nb fb eb N F E n₀ w0 w) (hb : Below w.heap.size w w') (hz : n₀ <= w.heap.size) (hd : gb ≠ eb /\ vb ≠ eb /\ cb ≠ eb /\ nb ≠ eb /\ fb ≠ eb /\ n₀ <= eb) : FWs g gb vb cb nb fb eb N F E n₀ w0 w' :=
 h.kept (KeptE.of hb) (h.e.later hb) hd h.oke h.len.2.1 hz
theorem fsettle_S (g : GV) (gb vb cb nb fb eb : Nat) (N : List Bool) (F E : List BS) (n₀ : Nat) (w0 w : World) (hfg : FG w0 g) (hw0 : w0.heap.size = n₀) (h : FWs g gb vb cb nb fb eb N F E n₀ w0 w) (hd : gb ≠ eb /\ vb ≠ eb /\ cb ≠ eb /\ nb ≠ eb /\ fb ≠ eb /\ n₀ <= eb) :
  Calls Try.prog 47 #[.slice (some ⟨eb, 0, none⟩) N.length N.length, .func (.func 58) #[] #[.pointer (some ⟨gb, 0, none⟩), .pointer (some ⟨vb, 0, none⟩), .pointer (some ⟨cb, 0, none⟩)]] w fun e w' => e = .returned (.tuple #[]) /\ ∃ k, FWs g gb vb cb nb fb eb N F (iterW N F g.ps E k) n₀ w0 w' /\ fRound N F g.ps (iterW N F g.ps E k) = iterW N F g.ps E k := by
 have H0 : Hid (FWs g gb vb cb nb fb eb N F E n₀ w0 w) := h
 have HRC : Hid (∀ G wr, FWs g gb vb cb nb fb eb N F G n₀ w0 wr -> Calls Try.prog 58 #[.pointer (some ⟨gb, 0, none⟩), .pointer (some ⟨vb, 0, none⟩), .pointer (some ⟨cb, 0, none⟩)] wr fun e w' => e = .returned (.tuple #[]) /\ FWs g gb vb cb nb fb eb N F (fRound N F g.ps G) n₀ w0 w' /\ wr.heap.size <= w'.heap.size /\ ∀ j, j < wr.heap.size -> j ≠ eb -> w'.heap[j]? = wr.heap[j]?) := fun G wr hL => frnd_S g gb vb cb nb fb eb N F G n₀ w0 wr hfg hw0 hL hd
 have HNL : Hid (1 <= N.length /\ N.length <= 64) := by rw [h.len.2.2]; exact hfg.nl
 have HSZ : Hid (∀ wr, Below n₀ w0 wr -> n₀ <= wr.heap.size) := fun wr hb => by rw [<- hw0]; have := hb.size; omega
 have HDN : Hid (gb ≠ eb /\ vb ≠ eb /\ cb ≠ eb /\ nb ≠ eb /\ fb ≠ eb /\ n₀ <= eb) := hd
 clear h hfg hd
 go_enter Try.func47, Try.ntmps47
 go_wp2
 go_loopw [4] (fun _ wr => ∃ k : Nat, FWs g gb vb cb nb fb eb N F (iterW N F g.ps E k) n₀ w0 wr) (fun _ wr => mesW eb wr)
 case atStart => exact ⟨0, H0.out⟩
 case round =>
  obtain ⟨k, hL⟩ := hrel
  have HK : Hid (fRound N F g.ps (iterW N F g.ps E k) = iterW N F g.ps E (k + 1)) := rfl
  have HM : Hid (mesW eb wr = mesF (iterW N F g.ps E k)) := mesW_of hL.e
  generalize hG : iterW N F g.ps E k = G at *
  have HL : Hid (FWs g gb vb cb nb fb eb N F G n₀ w0 wr) := hL
  have CC : Hid (Calls Try.prog 64 #[.slice (some ⟨eb, 0, none⟩) N.length N.length] wr fun e w' => ∃ b' c', e = .returned (.slice (some ⟨b', 0, none⟩) N.length c') /\ SRd w' b' G /\ wr.heap.size <= b' /\ Below wr.heap.size wr w') := by
   have := clone_set eb N.length G wr hL.e.rd (by rw [hL.len.2.1]; have := HNL.out; omega) (fun e => by have := hL.len.2.1; rw [e] at this; have := HNL.out; simp at *; omega)
   rw [hL.len.2.1] at this
   exact this
  have HGL : Hid (G.length = N.length) := hL.len.2.1
  have HFL : Hid (eb < wr.heap.size) := hL.e.lt
  clear hL
  obtain ⟨X, hX⟩ : ∃ X, decide (G = fRound N F g.ps G) = X := ⟨_, rfl⟩
  have HX : Hid (decide (G = fRound N F g.ps G) = X) := hX
  cases X
  all_goals
   go_wp2_with (first
    | (go_at_call 64; refine CC.out.mono ?_; rintro e w2 ⟨ob, oc, rfl, o2, l2, b2⟩; have L2 : Hid (FWs g gb vb cb nb fb eb N F G n₀ w0 w2) := HL.out.later b2 (HSZ.out _ HL.out.bel) HDN.out; have O2 : Hid (SRd w2 ob G /\ wr.heap.size <= ob) := ⟨o2, l2⟩; clear o2 l2 b2)
    | (go_at_call 58; refine (HRC.out G w2 L2.out).mono ?_; rintro e w3 ⟨rfl, L3', z3, k3⟩; have L3 : Hid (FWs g gb vb cb nb fb eb N F (fRound N F g.ps G) n₀ w0 w3) := L3'; have O3 : Hid (SRd w3 ob G) := O2.out.1.kept (k3 _ O2.out.1.1 (by have := HFL.out; have := O2.out.2; omega)) z3; have EC : Hid (Calls Try.prog 65 #[.slice (some ⟨ob, 0, none⟩) N.length oc, .slice (some ⟨eb, 0, none⟩) N.length N.length] w3 fun e w' => e = .returned (.bool (decide (G = fRound N F g.ps G))) /\ Below w3.heap.size w3 w') := (by have q := equal_S ob eb oc N.length G (fRound N F g.ps G) w3 O3.out L3.out.e.rd (by rw [L3.out.len.2.1, HGL.out]) (by rw [HGL.out]; have := HNL.out; omega); rw [L3.out.len.2.1, HGL.out] at q; exact q); clear L3' z3 k3)
    | (go_at_call 65; refine EC.out.mono ?_; rintro e w4 ⟨rfl, b4⟩; rw [HX.out]; have L4 : Hid (FWs g gb vb cb nb fb eb N F (fRound N F g.ps G) n₀ w0 w4) := L3.out.later b4 (HSZ.out _ L3.out.bel) HDN.out; clear b4))
  ·go_roundw
   case rel => exact ⟨k + 1, by rw [<- HK.out]; exact L4.out⟩
   case measure =>
    rw [HM.out, mesW_of L4.out.e]
    exact mesF_lt G _ (fFold_le N F g.ps G) L4.out.oke (fun e => by have := HX.out; simp [<- e] at this)
  ·have hE : G = fRound N F g.ps G := of_decide_eq_true HX.out
   have L5 : Hid (FWs g gb vb cb nb fb eb N F G n₀ w0 w4) := by have := L4.out; rw [<- hE] at this; exact this
   have HE : Hid (fRound N F g.ps G = G) := hE.symm
   clear hE
   refine bodyPost_ret (results_none rfl _ _ _) rfl ?_
   exact ⟨rfl, k, by rw [hG]; exact L5.out, by rw [hG]; exact HE.out⟩
end Go.Proofs.Ytohgnodjdolcnaa
namespace Go.Proofs.Ytohgnodjdolcnaa
set_option linter.unusedVariables false
set_option maxRecDepth 100000
set_option maxHeartbeats 16000000
open Go.RowKit Go.Shelf
theorem set_same {α : Type} (l : List α) (b : Nat) (x : α) (h : l[b]? = some x) : l.set b x = l := by
 apply List.ext_getElem?
 intro i
 rw [List.getElem?_set]
 split
 ·rename_i e
  subst e
  split
  ·exact h.symm
  ·rename_i q
   rw [List.getElem?_eq_none (by omega)] at h
   cases h
 ·rfl
theorem SBk.set0 {w : World} {b : Nat} {F : List BS} (h : SBk w b F) {i : Nat} (hi : i < F.length) (v : Nat) : SBk (w.setCell ⟨b, i * 2, none⟩ (.int .u64 (v : Int))) b (F.set i (v, (F.getD i (0, 0)).2)) := by
 unfold SBk
 obtain ⟨_, h2⟩ := setCells_get F i hi
 rw [heap_set h (i * 2) _, List.setIfInBounds_toArray, setCells_set hi, set_same _ (i * 2 + 1) _ (by rw [List.getElem?_set_ne (by omega)]; exact h2)]
theorem SBk.set1 {w : World} {b : Nat} {F : List BS} (h : SBk w b F) {i : Nat} (hi : i < F.length) (v : Nat) : SBk (w.setCell ⟨b, i * 2 + 1, none⟩ (.int .u64 (v : Int))) b (F.set i ((F.getD i (0, 0)).1, v)) := by
 unfold SBk
 obtain ⟨h1, _⟩ := setCells_get F i hi
 rw [heap_set h (i * 2 + 1) _, List.setIfInBounds_toArray, setCells_set hi, set_same _ (i * 2) _ h1]
theorem addAt_S (F : List BS) (i n b : Nat) (hi : i < F.length) (hn : n < 128) (hs : OkS (F.getD i (0, 0))) (w : World) (hb : SBk w b F) :
  Calls Try.prog 57 #[.pointer (some ⟨b, i * 2, none⟩), .int .i64 n] w fun e w' => e = .returned (.tuple #[]) /\ SBk w' b (F.set i (addS (F.getD i (0, 0)) n)) /\ KeptE b w w' := by
 have hz := hb.lt
 have HB : Hid (SBk w b F) := hb
 obtain ⟨y0, y1⟩ := hb.cell hi
 have P0 : Hid (∀ v : Nat, SBk (w.setCell ⟨b, i * 2, none⟩ (.int .u64 (v : Int))) b (F.set i (v, (F.getD i (0, 0)).2))) := fun v => hb.set0 hi v
 have P1 : Hid (∀ v : Nat, SBk (w.setCell ⟨b, i * 2 + 1, none⟩ (.int .u64 (v : Int))) b (F.set i ((F.getD i (0, 0)).1, v))) := fun v => hb.set1 hi v
 have f0 := hb.free (i * 2)
 have f1 := hb.free (i * 2 + 1)
 generalize F.getD i (0, 0) = s at *
 obtain ⟨s1, s2⟩ := s
 simp only at y0 y1 P0 P1
 by_cases h : n < 64
 ·have q1 : (n : Int).tdiv 64 = 0 := by rw [quo64]; omega
  have q2 : (n : Int).tmod 64 = n := by rw [rem64]; omega
  have V : Hid (addS (s1, s2) n = (s1 ||| 2 ^ n, s2) /\ bits .or .u64 (s1 : Int) (IntKind.u64.wrap (2 ^ n)) = ((s1 ||| 2 ^ n : Nat) : Int)) := ⟨by simp [addS, h], by rw [shl_S n h]; exact or_S s1 _ hs.1 (pow64 h)⟩
  clear hb y1 f1
  go_enter Try.func57, Try.ntmps57
  go_wp2
  go_region
  go_end0
  rw [V.out.1, V.out.2]
  exact ⟨rfl, P0.out _, ((KeptE.refl b w).set (i * 2) (.int .u64 ((s1 ||| 2 ^ n : Nat) : Int))).trans (KeptE.of (Below.refl _ _).drew)⟩
 ·have q1 : (n : Int).tdiv 64 = 1 := by rw [quo64]; omega
  have q2 : (n : Int).tmod 64 = ((n - 64 : Nat) : Int) := by rw [rem64]; omega
  have V : Hid (addS (s1, s2) n = (s1, s2 ||| 2 ^ (n - 64)) /\ bits .or .u64 (s2 : Int) (IntKind.u64.wrap (2 ^ (n - 64))) = ((s2 ||| 2 ^ (n - 64) : Nat) : Int)) := ⟨by simp [addS, h], by rw [shl_S _ (by omega)]; exact or_S s2 _ hs.2 (pow64 (by omega))⟩
  have hm64 : n - 64 < 64 := by omega
  generalize n - 64 = m at *
  clear hb y0 f0
  go_enter Try.func57, Try.ntmps57
  go_wp2
  go_region
  go_end0
  rw [V.out.1, V.out.2]
  exact ⟨rfl, P1.out _, ((KeptE.refl b w).set (i * 2 + 1) (.int .u64 ((s2 ||| 2 ^ m : Nat) : Int))).trans (KeptE.of (Below.refl _ _).drew)⟩
end Go.Proofs.Ytohgnodjdolcnaa
namespace Go.Proofs.Ytohgnodjdolcnaa
set_option linter.unusedVariables false
set_option maxRecDepth 100000
set_option maxHeartbeats 16000000
open Go.RowKit Go.Shelf
theorem run_add2 {o : Oper} {a : Act} {t0 t1 : TypeId} {v0 v1 : Value} {x0 x1 : Operand} (hop : o.op = Op.call { callee := Callee.value (Operand.func 57), args := #[x0, x1], argTypes := #[t0, t1] }) (h0 : a.eval x0 = v0) (h1 : a.eval x1 = v1) (w : World) : (execOp a.eval o).run Try.prog w = .ok (.enter 57 #[v0, v1]) w := by
 have hf : a.eval (Operand.func 57) = .func (.func 57) #[] #[] := rfl
 simp [execOp, hop, resolve, invoke, h0, h1, hf, Deferred.ofValue]
set_option linter.unusedSimpArgs false in
theorem follows_S (g : GV) (w : World) (h : FG w g) (hst : 0 <= g.start /\ g.start < g.ns.length) :
  Calls Try.prog 39 #[g.val] w fun e w' => ∃ eb F E, LeastF g F /\ LstW g F E /\ e = .returned (.slice (some ⟨eb, 0, none⟩) g.ns.length g.ns.length) /\ SBk w' eb E /\ Below w.heap.size w w' := by
 have HG : Hid (∀ w', Below w.heap.size w w' -> FG w' g) := fun w' hb => h.later hb
 have HFG : Hid (FG w g) := h
 have HMK := make_setF g.ns.length (by have := h.nl; omega)
 have HN : Hid ((nullU g.ps g.ns.length).length = g.ns.length) := nullU_len _ _
 have X0 : Hid ((w.alloc (gBox g)).heap[w.heap.size]? = some (gBox g)) := heap_alloc_new _ _
 obtain ⟨x0, x1, x2, x3, x4⟩ := gb_cells X0.out
 have hnl := h.nl
 have htl := h.tl
 obtain ⟨st, hst2⟩ : ∃ st : Nat, g.start = (st : Int) := ⟨g.start.toNat, by omega⟩
 have HST : Hid (g.start.toNat = st) := by show _ = _; omega
 have slt : (st : Int) < (g.ns.length : Int) := by omega
 have HS2 : Hid (g.start = (st : Int)) := hst2
 clear h hst hst2
 go_enter Try.func39, Try.ntmps39
 go_wp2_with (go_at_call 25; refine (least_S g _ (HG.out _ (below_alloc w (gBox g)))).mono ?_)
 rintro e w2 ⟨nb, fb, k, rfl, q2, q3, q4, q5, q6, q7, q8, q9⟩
 have B2 : Hid (BB w2 nb (nullU g.ps g.ns.length) /\ SBk w2 fb (iterS (nullU g.ps g.ns.length) g.ps (List.replicate g.ns.length (0, 0)) k) /\ Below w.heap.size w w2 /\ w2.heap[w.heap.size]? = some (gBox g)) := ⟨q2, q3, (below_alloc w _).trans (q9.mono (below_alloc w _).size), (q9.block _ (lt_of_block X0.out)).trans X0.out⟩
 have HLF : Hid (LeastF g (iterS (nullU g.ps g.ns.length) g.ps (List.replicate g.ns.length (0, 0)) k)) := ⟨k, rfl, q4, q5, q6⟩
 have HOF : Hid (∀ i, OkS ((iterS (nullU g.ps g.ns.length) g.ps (List.replicate g.ns.length (0, 0)) k).getD i (0, 0))) := q5
 have HLN : Hid ((iterS (nullU g.ps g.ns.length) g.ps (List.replicate g.ns.length (0, 0)) k).length = g.ns.length) := q6
 clear q2 q3 q4 q5 q6 q7 q8 q9 x0 x1 x2 x3 x4
 have p1 : (w2.alloc (.cells #[.slice (some ⟨nb, 0, none⟩) g.ns.length g.ns.length, .slice (some ⟨fb, 0, none⟩) g.ns.length g.ns.length] 72)).cell? ⟨w.heap.size, 1, none⟩ = some (.slice g.na g.ns.length g.nc) := (gb_cells (((below_alloc w2 _).block _ (lt_of_block B2.out.2.2.2)).trans B2.out.2.2.2)).2.1
 go_wp2
 obtain ⟨t0, t1, t2, t3⟩ := three_box w2 (.cells #[.slice (some ⟨nb, 0, none⟩) g.ns.length g.ns.length, .slice (some ⟨fb, 0, none⟩) g.ns.length g.ns.length] 72) (.cells (madeCells #[.int .u64 0, .int .u64 0] (g.ns.length * 2)) 91) (.cells #[.slice (some ⟨w2.heap.size + 1, 0, none⟩) g.ns.length g.ns.length] 70)
 obtain ⟨W3, hW3⟩ : ∃ W3, (((w2.alloc (.cells #[.slice (some ⟨nb, 0, none⟩) g.ns.length g.ns.length, .slice (some ⟨fb, 0, none⟩) g.ns.length g.ns.length] 72)).alloc (.cells (madeCells #[.int .u64 0, .int .u64 0] (g.ns.length * 2)) 91)).alloc (.cells #[.slice (some ⟨w2.heap.size + 1, 0, none⟩) g.ns.length g.ns.length] 70)) = W3 := ⟨_, rfl⟩
 have hsz : W3.heap.size = w2.heap.size + 1 + 1 + 1 := by rw [<- hW3, alZ, alZ, alZ]
 rw [hW3] at t0 t1 t2 t3 ⊢
 have X3 : Hid (W3.heap[w.heap.size]? = some (gBox g)) := (t0.block _ (lt_of_block B2.out.2.2.2)).trans B2.out.2.2.2
 have HB3 : Hid (Below w.heap.size w W3) := B2.out.2.2.1.trans (t0.mono B2.out.2.2.1.size)
 have HE3 : Hid (SBk W3 (w2.heap.size + 1) (List.replicate g.ns.length (0, 0))) := by
  show _ = _
  rw [t2, made_sets]
 have HLT : Hid (w.heap.size < w2.heap.size /\ nb < w2.heap.size /\ fb < w2.heap.size) := ⟨lt_of_block B2.out.2.2.2, B2.out.1.lt, B2.out.2.1.lt⟩
 have HC : Hid (BB W3 nb (nullU g.ps g.ns.length) /\ SBk W3 fb (iterS (nullU g.ps g.ns.length) g.ps (List.replicate g.ns.length (0, 0)) k) /\ CellsAt W3 w2.heap.size #[.slice (some ⟨nb, 0, none⟩) g.ns.length g.ns.length, .slice (some ⟨fb, 0, none⟩) g.ns.length g.ns.length] 72 /\ CellsAt W3 (w2.heap.size + 1 + 1) #[.slice (some ⟨w2.heap.size + 1, 0, none⟩) g.ns.length g.ns.length] 70) := ⟨B2.out.1.later t0, B2.out.2.1.later t0, t1, t3⟩
 clear hW3 p1 t0 t1 t2 t3
 generalize hcb : w2.heap.size = cb at *
 obtain ⟨eb, heb⟩ : ∃ eb, cb + 1 = eb := ⟨_, rfl⟩
 obtain ⟨vb, hvb⟩ : ∃ vb, cb + 1 + 1 = vb := ⟨_, rfl⟩
 rw [hvb, heb] at HC
 rw [heb] at HE3
 rw [hvb, heb]
 have HNUM : Hid (cb + 1 = eb /\ cb + 1 + 1 = vb) := ⟨heb, hvb⟩
 clear heb hvb hcb B2
 have KS1 : Hid ((fun w' : World => w'.cell? ⟨vb, 0, none⟩ = some (.slice (some ⟨eb, 0, none⟩) g.ns.length g.ns.length) /\ w'.cell? ⟨w.heap.size, 0, none⟩ = some (.slice g.ta g.ts.length g.tc) /\ w'.cell? ⟨w.heap.size, 2, none⟩ = some (.int .i64 (st : Int))) W3) := ⟨(cellq_any HC.out.2.2.2).trans rfl, (gb_cells X3.out).1, by rw [<- HS2.out]; exact (gb_cells X3.out).2.2.1⟩
 have hs : Hid ((fun w' : World => w'.cell? ⟨vb, 0, none⟩ = some (.slice (some ⟨eb, 0, none⟩) g.ns.length g.ns.length) /\ w'.cell? ⟨w.heap.size, 0, none⟩ = some (.slice g.ta g.ts.length g.tc) /\ w'.cell? ⟨w.heap.size, 2, none⟩ = some (.int .i64 (st : Int))) W3.drew) := KS1.out
 refine wp_region_x (S := fun _ => (fun w' : World => w'.cell? ⟨vb, 0, none⟩ = some (.slice (some ⟨eb, 0, none⟩) g.ns.length g.ns.length) /\ w'.cell? ⟨w.heap.size, 0, none⟩ = some (.slice g.ta g.ts.length g.tc) /\ w'.cell? ⟨w.heap.size, 2, none⟩ = some (.int .i64 (st : Int)))) (by kernel_rfl) ?_
 refine takeF (i := 0) (v := ?_) rfl (by kernel_rfl) (by decide +kernel) (by decide +kernel) (fun _ _ _ h => h) (Or.inl ⟨by rfl, ?_⟩) hs.out ?_
 rotate_left
 ·(intro w hSw; (try dsimp only at hSw); go_simp; try (with_reducible rfl))
 (try simp only [Act.put, lsA, lsZ, lsN])
 refine takeF (i := 1) (v := ?_) rfl (by kernel_rfl) (by decide +kernel) (by decide +kernel) (fun _ _ _ h => h) (Or.inl ⟨by rfl, ?_⟩) hs.out ?_
 rotate_left
 ·(intro w hSw; (try dsimp only at hSw); go_simp; try (with_reducible rfl))
 (try simp only [Act.put, lsA, lsZ, lsN])
 refine takeF (i := 2) (v := ?_) rfl (by kernel_rfl) (by decide +kernel) (by decide +kernel) (fun _ _ _ h => h) (Or.inl ⟨by rfl, ?_⟩) hs.out ?_
 rotate_left
 ·(intro w hSw; (try dsimp only at hSw); go_simp; try (with_reducible rfl))
 (try simp only [Act.put, lsA, lsZ, lsN])
 refine takeF (i := 3) (v := ?_) rfl (by kernel_rfl) (by decide +kernel) (by decide +kernel) (fun _ _ _ h => h) (Or.inl ⟨by rfl, ?_⟩) hs.out ?_
 rotate_left
 ·(intro w hSw; (try dsimp only at hSw); go_simp; try (with_reducible rfl))
 (try simp only [Act.put, lsA, lsZ, lsN])
 refine takeF (i := 4) (v := ?_) rfl (by kernel_rfl) (by decide +kernel) (by decide +kernel) (fun _ _ _ h => h) (Or.inl ⟨by rfl, ?_⟩) hs.out ?_
 rotate_left
 ·(intro w hSw; (try dsimp only at hSw); go_simp; try (with_reducible rfl))
 (try simp only [Act.put, lsA, lsZ, lsN])
 refine takeF (i := 5) (v := ?_) rfl (by kernel_rfl) (by decide +kernel) (by decide +kernel) (fun _ _ _ h => h) (Or.inl ⟨by rfl, ?_⟩) hs.out ?_
 rotate_left
 ·(intro w hSw; (try dsimp only at hSw); go_simp; try (with_reducible rfl))
 (try simp only [Act.put, lsA, lsZ, lsN])
 refine takeF (i := 6) (v := ?_) rfl (by kernel_rfl) (by decide +kernel) (by decide +kernel) (fun _ _ _ h => h) (Or.inl ⟨by rfl, ?_⟩) hs.out ?_
 rotate_left
 ·(intro w hSw; (try dsimp only at hSw); go_simp; try (with_reducible rfl))
 (try simp only [Act.put, lsA, lsZ, lsN])
 refine wpAnyX_one (j := 7) (by decide +kernel) rfl (fun K' hK => ?_)
 refine step_callX rfl 57 #[.pointer (some ⟨eb, st * 2, none⟩), .int .i64 (g.ts.length : Int)] _ (run_add2 (v0 := .pointer (some ⟨eb, st * 2, none⟩)) (v1 := .int .i64 (g.ts.length : Int)) (by rfl) (by rfl) (by rfl) _) (addAt_S (List.replicate g.ns.length (0, 0)) st g.ts.length eb (by simp; omega) (by omega) (by rw [rep_zero]; exact OkS.zero) W3.drew HE3.out) ?_
 rintro e w4 ⟨rfl, e4, k4⟩
 have HE4 : Hid (SBk w4 eb (startW g.ns.length g.start.toNat g.ts.length)) := by
  rw [rep_zero] at e4
  unfold startW
  rw [HST.out]
  exact e4
 have HK4 : Hid (KeptE eb W3 w4) := (KeptE.of (Below.refl _ _).drew).trans k4
 have hs4 : Hid ((fun w' : World => w'.cell? ⟨vb, 0, none⟩ = some (.slice (some ⟨eb, 0, none⟩) g.ns.length g.ns.length) /\ w'.cell? ⟨w.heap.size, 0, none⟩ = some (.slice g.ta g.ts.length g.tc) /\ w'.cell? ⟨w.heap.size, 2, none⟩ = some (.int .i64 (st : Int))) w4) := by
  have hk := HK4.out
  have hn := HNUM.out
  have hl := HLT.out
  have c4 := HC.out.2.2.2
  have q1 : CellsAt w4 vb #[.slice (some ⟨eb, 0, none⟩) g.ns.length g.ns.length] 70 := (hk.block _ c4.lt (by omega)).trans c4
  have q2 := gb_cells ((hk.block _ (lt_of_block X3.out) (by omega)).trans X3.out)
  exact ⟨(cellq_any q1).trans rfl, q2.1, by rw [<- HS2.out]; exact q2.2.2.1⟩
 clear e4 k4 hs
 refine ⟨_, rfl, hK.out _ _ hs4.out ?_⟩
 clear hK K'
 (try simp only [Act.put, lsA, lsZ, lsN])
 refine wpAnyX_done (by decide +kernel) ?_
 have HDD : Hid (w.heap.size ≠ eb /\ vb ≠ eb /\ cb ≠ eb /\ nb ≠ eb /\ fb ≠ eb /\ w.heap.size <= eb) := by
  have := HNUM.out
  have := HLT.out
  exact ⟨by omega, by omega, by omega, by omega, by omega, by omega⟩
 have F4 : Hid (FWs g w.heap.size vb cb nb fb eb (nullU g.ps g.ns.length) (iterS (nullU g.ps g.ns.length) g.ps (List.replicate g.ns.length (0, 0)) k) (startW g.ns.length g.start.toNat g.ts.length) w.heap.size w w4) := by
  have hk := HK4.out
  have hd := HDD.out
  obtain ⟨c1, c2, c3, c4⟩ := HC.out
  refine ⟨(hk.block _ (lt_of_block X3.out) hd.1).trans X3.out, ?_, ?_, c1.kept (hk.block _ c1.lt hd.2.2.2.1), c2.kept (hk.block _ c2.lt hd.2.2.2.2.1), HE4.out, HOF.out, fun i => ?_, ⟨?_, ?_, HN.out⟩, hk.below HB3.out hd.2.2.2.2.2 HB3.out.size⟩
  ·rw [HN.out]; exact (hk.block _ c4.lt hd.2.1).trans c4
  ·rw [HN.out]; exact (hk.block _ c3.lt hd.2.2.1).trans c3
  ·unfold startW
   rw [getD_setS]
   split
   ·exact OkS.zero.add (by omega)
   ·rw [rep_zero]; exact OkS.zero
  ·rw [HN.out, HLN.out]
  ·rw [HN.out]; simp [startW]
 have v4 : w4.cell? ⟨vb, 0, none⟩ = some (.slice (some ⟨eb, 0, none⟩) g.ns.length g.ns.length) := by
  have := (cellq_any F4.out.vbx (i := 0)).trans rfl
  rw [HN.out] at this
  exact this
 have SC : Hid (Calls Try.prog 47 #[.slice (some ⟨eb, 0, none⟩) g.ns.length g.ns.length, .func (.func 58) #[] #[.pointer (some ⟨w.heap.size, 0, none⟩), .pointer (some ⟨vb, 0, none⟩), .pointer (some ⟨cb, 0, none⟩)]] w4 fun e w' => e = .returned (.tuple #[]) /\ ∃ k2, FWs g w.heap.size vb cb nb fb eb (nullU g.ps g.ns.length) (iterS (nullU g.ps g.ns.length) g.ps (List.replicate g.ns.length (0, 0)) k) (iterW (nullU g.ps g.ns.length) (iterS (nullU g.ps g.ns.length) g.ps (List.replicate g.ns.length (0, 0)) k) g.ps (startW g.ns.length g.start.toNat g.ts.length) k2) w.heap.size w w' /\ fRound (nullU g.ps g.ns.length) (iterS (nullU g.ps g.ns.length) g.ps (List.replicate g.ns.length (0, 0)) k) g.ps (iterW (nullU g.ps g.ns.length) (iterS (nullU g.ps g.ns.length) g.ps (List.replicate g.ns.length (0, 0)) k) g.ps (startW g.ns.length g.start.toNat g.ts.length) k2) = iterW (nullU g.ps g.ns.length) (iterS (nullU g.ps g.ns.length) g.ps (List.replicate g.ns.length (0, 0)) k) g.ps (startW g.ns.length g.start.toNat g.ts.length) k2) := by
  have := fsettle_S g w.heap.size vb cb nb fb eb (nullU g.ps g.ns.length) (iterS (nullU g.ps g.ns.length) g.ps (List.replicate g.ns.length (0, 0)) k) (startW g.ns.length g.start.toNat g.ts.length) w.heap.size w w4 HFG.out rfl F4.out HDD.out
  rwa [HN.out] at this
 generalize iterS (nullU g.ps g.ns.length) g.ps (List.replicate g.ns.length (0, 0)) k = F at *
 go_wp2_with (go_at_call 47; refine SC.out.mono ?_; rintro e w5 ⟨rfl, k2, l5, r5⟩; have L5 : Hid (FWs g w.heap.size vb cb nb fb eb (nullU g.ps g.ns.length) F (iterW (nullU g.ps g.ns.length) F g.ps (startW g.ns.length g.start.toNat g.ts.length) k2) w.heap.size w w5 /\ fRound (nullU g.ps g.ns.length) F g.ps (iterW (nullU g.ps g.ns.length) F g.ps (startW g.ns.length g.start.toNat g.ts.length) k2) = iterW (nullU g.ps g.ns.length) F g.ps (startW g.ns.length g.start.toNat g.ts.length) k2) := ⟨l5, r5⟩; have v5 : w5.cell? ⟨vb, 0, none⟩ = some (.slice (some ⟨eb, 0, none⟩) g.ns.length g.ns.length) := (by have := (cellq_any l5.vbx (i := 0)).trans rfl; rw [HN.out] at this; exact this); clear l5 r5 v4)
 go_ret
 obtain ⟨l5, r5⟩ := L5.out
 exact ⟨eb, F, _, HLF.out, LstW.of HFG.out.gp (by rw [HST.out]; omega) k2 rfl r5 (l5.len.2.1.trans HN.out) l5.oke, rfl, l5.e, l5.bel⟩
theorem follow_no (g : GV) (w : World) (h : GAt 140737488355328 w g) (hpc : g.ps.length <= g.pc) (er at_ : Int) (hE : checkG g (checkF g.ts g.ns) = (er, at_)) (h0 : er ≠ 0) :
  Calls Try.prog 17 #[g.val] w fun e w' => e = .returned (.tuple #[.slice none 0 0, .int .i64 er]) /\ Below w.heap.size w w' := by
 have X0 : Hid ((w.alloc (gBox g)).heap[w.heap.size]? = some (gBox g)) := heap_alloc_new _ _
 have CK : Hid (Calls Try.prog 22 #[g.val] (w.alloc (gBox g)) fun e w' => e = .returned (.tuple #[.int .i64 er, .int .i64 at_]) /\ Below (w.alloc (gBox g)).heap.size (w.alloc (gBox g)) w') := check_G g _ (h.later (below_alloc _ _)) hpc er at_ hE
 obtain ⟨x0, x1, x2, x3, x4⟩ := gb_cells X0.out
 have t1 : (er != 0) = true := by simpa using h0
 clear h hE
 go_enter Try.func17, Try.ntmps17
 go_wp2_with (go_at_call 22; refine CK.out.mono ?_; rintro e w2 ⟨rfl, b2⟩; have B2 : Hid (Below w.heap.size w w2) := (below_alloc w _).trans (b2.mono (below_alloc w _).size); clear b2)
 refine bodyPost_ret (results_tmp2 rfl _ _ _) rfl ?_
 exact ⟨rfl, B2.out⟩
theorem follow_ok (g : GV) (w : World) (h : GAt 140737488355328 w g) (hpc : g.ps.length <= g.pc) (at_ : Int) (hE : checkG g (checkF g.ts g.ns) = (0, at_)) :
  Calls Try.prog 17 #[g.val] w fun e w' => ∃ b F E, LeastF g F /\ LstW g F E /\ e = .returned (.tuple #[.slice (some ⟨b, 0, none⟩) g.ns.length g.ns.length, .int .i64 0]) /\ LLk w' b (listsU E) g.ns.length /\ w.heap.size <= b /\ Below w.heap.size w w' := by
 have ok : OkC g := OkC.of (by rw [hE])
 have X0 : Hid ((w.alloc (gBox g)).heap[w.heap.size]? = some (gBox g)) := heap_alloc_new _ _
 have CK : Hid (Calls Try.prog 22 #[g.val] (w.alloc (gBox g)) fun e w' => e = .returned (.tuple #[.int .i64 0, .int .i64 at_]) /\ Below (w.alloc (gBox g)).heap.size (w.alloc (gBox g)) w') := check_G g _ (h.later (below_alloc _ _)) hpc 0 at_ hE
 have HFG : Hid (∀ w', Below w.heap.size w w' -> FG w' g) := fun w' hb => ok.fg (h.later hb)
 have HN64 : Hid (g.ns.length <= 64) := ok.nl.2
 have LC : Hid (∀ w', FG w' g -> Calls Try.prog 39 #[g.val] w' fun e w'' => ∃ eb F E, LeastF g F /\ LstW g F E /\ e = .returned (.slice (some ⟨eb, 0, none⟩) g.ns.length g.ns.length) /\ SBk w'' eb E /\ Below w'.heap.size w' w'') := fun w' hf => follows_S g w' hf ok.st
 have LS : Hid (∀ w' fb F E, LstW g F E -> SBk w' fb E -> Calls Try.prog 24 #[.slice (some ⟨fb, 0, none⟩) g.ns.length g.ns.length] w' fun e w'' => ∃ b, e = .returned (.slice (some ⟨b, 0, none⟩) g.ns.length g.ns.length) /\ LLk w'' b (listsU E) g.ns.length /\ w'.heap.size <= b /\ Below w'.heap.size w' w'') := fun w' fb F E hE hS => by
  have := listsOf_S fb g.ns.length E w' hS (by rw [hE.len]; have := HN64.out; omega) hE.ok
  rwa [hE.len] at this
 obtain ⟨x0, x1, x2, x3, x4⟩ := gb_cells X0.out
 have t1 : ((0 : Int) != 0) = false := by decide
 clear h hE ok
 go_enter Try.func17, Try.ntmps17
 go_wp2_with (first
  | (go_at_call 22; refine CK.out.mono ?_; rintro e w2 ⟨rfl, b2⟩; have B2 : Hid (Below w.heap.size w w2 /\ w2.heap[w.heap.size]? = some (gBox g)) := ⟨(below_alloc w _).trans (b2.mono (below_alloc w _).size), (b2.block _ (lt_of_block X0.out)).trans X0.out⟩; clear b2 x0 x1 x2 x3 x4; obtain ⟨x0, x1, x2, x3, x4⟩ := gb_cells B2.out.2)
  | (go_at_call 39; refine (LC.out _ (HFG.out _ B2.out.1)).mono ?_; rintro e w3 ⟨fb, F, E, hF, hE, rfl, n3, b3⟩; have B3 : Hid (LstW g F E /\ SBk w3 fb E /\ Below w.heap.size w w3) := ⟨hE, n3, B2.out.1.trans (b3.mono B2.out.1.size)⟩; have HLF : Hid (LeastF g F) := hF; clear n3 b3 hF hE)
  | (go_at_call 24; refine (LS.out w3 fb F E B3.out.1 B3.out.2.1).mono ?_; rintro e w4 ⟨b, rfl, n4, l4, b4⟩; have B4 : Hid (LLk w4 b (listsU E) g.ns.length /\ w.heap.size <= b /\ Below w.heap.size w w4) := ⟨n4, Nat.le_trans B3.out.2.2.size l4, B3.out.2.2.trans (b4.mono B3.out.2.2.size)⟩; clear n4 l4 b4))
 refine bodyPost_ret (results_tmp2 rfl _ _ _) rfl ?_
 exact ⟨b, F, E, HLF.out, B3.out.1, rfl, B4.out⟩
end Go.Proofs.Ytohgnodjdolcnaa
