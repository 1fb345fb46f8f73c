import Derived.Test.YtfgdpmcpjpceoaaPFThyToFSame
import Derived.Test.YtfgdpmcpjpceoaaPFThreeToFChk8
import Derived.Test.YtfgdpmcpjpceoaaPRegXIn
namespace Go.Proofs.Ytfgdpmcpjpceoaa
set_option linter.unusedVariables false
set_option maxRecDepth 100000
set_option maxHeartbeats 16000000
open Go.RowKit
def foStep (N : List Bool) (F : List BS) (x : List BS × BS) (s : Int × Int) : List BS × BS :=
 (if s.1 = 2 then x.1.set s.2.toNat (withS (x.1.getD s.2.toNat (0, 0)) x.2) else x.1, aheadS N F s x.2)
def fStep (N : List Bool) (F : List BS) (E : List BS) (p : PV) : List BS := (p.right.reverse.foldl (foStep N F) (E, E.getD p.left.toNat (0, 0))).1
def fRound (N : List Bool) (F : List BS) (ps : List PV) (E : List BS) : List BS := ps.foldl (fStep N F) E
def iterW (N : List Bool) (F : List BS) (ps : List PV) (E : List BS) : Nat -> List BS
 | 0 => E
 | k + 1 => fRound N F ps (iterW N F ps E k)
theorem foStep_le (N : List Bool) (F : List BS) (x : List BS × BS) (s : Int × Int) : LeF x.1 (foStep N F x s).1 := by
 unfold foStep
 split
 ·refine ⟨by simp, fun i => ?_⟩
  show _ <= ((x.1.set _ _).getD i (0, 0)).1 /\ _ <= ((x.1.set _ _).getD i (0, 0)).2
  rw [getD_setS]
  split
  ·rename_i h
   rw [<- h.1]
   exact ⟨Nat.left_le_or, Nat.left_le_or⟩
  ·exact ⟨Nat.le_refl _, Nat.le_refl _⟩
 ·exact LeF.refl _
theorem foFold_le (N : List Bool) (F : List BS) : ∀ (l : List (Int × Int)) (x : List BS × BS), LeF x.1 (l.foldl (foStep N F) x).1
 | [], x => LeF.refl _
 | s :: l, x => (foStep_le N F x s).trans (foFold_le N F l _)
theorem fStep_le (N : List Bool) (F : List BS) (E : List BS) (p : PV) : LeF E (fStep N F E p) := foFold_le N F _ (E, _)
theorem fFold_le (N : List Bool) (F : List BS) : ∀ (ps : List PV) (E : List BS), LeF E (ps.foldl (fStep N F) E)
 | [], E => LeF.refl E
 | p :: ps, E => (fStep_le N F E p).trans (fFold_le N F ps _)
def ClosW (N : List Bool) (F : List BS) (ps : List PV) (E : List BS) : Prop := ∀ p ∈ ps, ∀ r1 s r2, p.right = r1 ++ s :: r2 -> s.1 = 2 -> LeS (ofS N F r2 (E.getD p.left.toNat (0, 0))) (E.getD s.2.toNat (0, 0))
theorem foFold_fix {N : List Bool} {F : List BS} {E : List BS} : ∀ (l : List (Int × Int)) (b : BS), (l.foldl (foStep N F) (E, b)).1 = E -> ∀ l1 s l2, l = l1 ++ s :: l2 -> s.1 = 2 -> s.2.toNat < E.length -> LeS (l1.foldl (fun a x => aheadS N F x a) b) (E.getD s.2.toNat (0, 0))
 | [], b, _, l1, s, l2, e, _, _ => by cases l1 <;> cases e
 | t :: l, b, h, l1, s, l2, e, hs, hl => by
  rw [List.foldl_cons] at h
  have h1 : (foStep N F (E, b) t).1 = E := LeF.antisymm (by have := foFold_le N F l (foStep N F (E, b) t); rwa [h] at this) (foStep_le N F (E, b) t)
  have h2 : foStep N F (E, b) t = (E, aheadS N F t b) := Prod.ext h1 rfl
  rw [h2] at h
  rcases l1 with _ | ⟨t', l1⟩
  ·simp only [List.nil_append, List.cons.injEq] at e
   obtain ⟨rfl, rfl⟩ := e
   have h3 : (foStep N F (E, b) t).1.getD t.2.toNat (0, 0) = E.getD t.2.toNat (0, 0) := by rw [h1]
   unfold foStep at h3
   simp only [hs, if_true] at h3
   rw [getD_setS, if_pos ⟨rfl, hl⟩] at h3
   have := leS_right (E.getD t.2.toNat (0, 0)) b
   rwa [h3] at this
  ·simp only [List.cons_append, List.cons.injEq] at e
   obtain ⟨rfl, rfl⟩ := e
   exact foFold_fix _ _ h l1 s l2 rfl hs hl
theorem fFold_fix (N : List Bool) (F : List BS) : ∀ (ps : List PV) (E : List BS), ps.foldl (fStep N F) E = E -> ∀ p ∈ ps, fStep N F E p = E
 | [], _, _, p, hp => absurd hp (List.not_mem_nil)
 | q :: ps, E, h, p, hp => by
  rw [List.foldl_cons] at h
  have e : fStep N F E q = E := LeF.antisymm (by have := fFold_le N F ps (fStep N F E q); rwa [h] at this) (fStep_le N F E q)
  rw [e] at h
  rcases List.mem_cons.1 hp with rfl | hp
  ·exact e
  ·exact fFold_fix N F ps E h p hp
theorem ofS_rev (N : List Bool) (F : List BS) (r : List (Int × Int)) (b : BS) : r.reverse.foldl (fun a x => aheadS N F x a) b = ofS N F r b := by
 rw [List.foldl_reverse]
 rfl
theorem fRound_closed {N : List Bool} {F : List BS} {ps : List PV} {E : List BS} (h : fRound N F ps E = E) (hl : ∀ p ∈ ps, ∀ s ∈ p.right, s.1 = 2 -> s.2.toNat < E.length) : ClosW N F ps E := fun p hp r1 s r2 e hs => by
 have h1 := fFold_fix N F ps E h p hp
 unfold fStep at h1
 have h2 := foFold_fix p.right.reverse _ h1 r2.reverse s r1.reverse (by rw [e]; simp) hs (hl p hp s (by rw [e]; simp) hs)
 rwa [ofS_rev] at h2
theorem foFold_in {N : List Bool} {F : List BS} {E' : List BS} {p : PV} (hc : ∀ r1 s r2, p.right = r1 ++ s :: r2 -> s.1 = 2 -> LeS (ofS N F r2 (E'.getD p.left.toNat (0, 0))) (E'.getD s.2.toNat (0, 0))) : ∀ (l : List (Int × Int)) (r2 : List (Int × Int)) (x : List BS × BS), p.right = l.reverse ++ r2 -> (∀ i, LeS (x.1.getD i (0, 0)) (E'.getD i (0, 0))) -> LeS x.2 (ofS N F r2 (E'.getD p.left.toNat (0, 0))) -> ∀ i, LeS ((l.foldl (foStep N F) x).1.getD i (0, 0)) (E'.getD i (0, 0))
 | [], _, _, _, h, _ => h
 | s :: l, r2, x, e, h, hb => by
  rw [List.foldl_cons]
  have e2 : p.right = l.reverse ++ (s :: r2) := by rw [e]; simp
  refine foFold_in hc l (s :: r2) _ e2 (fun i => ?_) (ahead_mono (fun _ q => q) (fun i => LeS.refl _) s hb)
  unfold foStep
  by_cases hs : s.1 = 2
  ·simp only [hs, if_true]
   rw [getD_setS]
   split
   ·rename_i q
    rw [<- q.1]
    exact leS_with (h _) (hb.trans (hc _ s r2 e2 hs))
   ·exact h i
  ·simp only [hs, if_false]
   exact h i
theorem fStep_in {N : List Bool} {F : List BS} {E E' : List BS} {p : PV} (hc : ∀ r1 s r2, p.right = r1 ++ s :: r2 -> s.1 = 2 -> LeS (ofS N F r2 (E'.getD p.left.toNat (0, 0))) (E'.getD s.2.toNat (0, 0))) (h : ∀ i, LeS (E.getD i (0, 0)) (E'.getD i (0, 0))) : ∀ i, LeS ((fStep N F E p).getD i (0, 0)) (E'.getD i (0, 0)) :=
 foFold_in hc p.right.reverse [] _ (by simp) h (h _)
theorem fFold_in {N : List Bool} {F : List BS} {E' : List BS} : ∀ (ps : List PV) (E : List BS), ClosW N F ps E' -> (∀ i, LeS (E.getD i (0, 0)) (E'.getD i (0, 0))) -> ∀ i, LeS ((ps.foldl (fStep N F) E).getD i (0, 0)) (E'.getD i (0, 0))
 | [], _, _, h => h
 | p :: ps, E, hc, h => fFold_in ps _ (fun q hq => hc q (List.mem_cons_of_mem _ hq)) (fStep_in (hc p (List.mem_cons_self ..)) h)
theorem iterW_in {N : List Bool} {F : List BS} {ps : List PV} {E E' : List BS} (hc : ClosW N F ps E') (h : ∀ i, LeS (E.getD i (0, 0)) (E'.getD i (0, 0))) : ∀ k i, LeS ((iterW N F ps E k).getD i (0, 0)) (E'.getD i (0, 0))
 | 0 => h
 | k + 1 => fFold_in ps _ hc (iterW_in hc h k)
theorem foFold_leS (N : List Bool) (F : List BS) : ∀ (l : List (Int × Int)) (x : List BS × BS) (i : Nat), LeS (x.1.getD i (0, 0)) ((l.foldl (foStep N F) x).1.getD i (0, 0))
 | [], _, _ => LeS.refl _
 | s :: l, x, i => by
  refine LeS.trans ?_ (foFold_leS N F l (foStep N F x s) i)
  unfold foStep
  by_cases hs : s.1 = 2
  ·simp only [hs, if_true]
   rw [getD_setS]
   split
   ·rename_i q
    rw [<- q.1]
    exact leS_left _ _
   ·exact LeS.refl _
  ·simp only [hs, if_false]
   exact LeS.refl _
theorem fFold_leS (N : List Bool) (F : List BS) : ∀ (ps : List PV) (E : List BS) (i : Nat), LeS (E.getD i (0, 0)) ((ps.foldl (fStep N F) E).getD i (0, 0))
 | [], _, _ => LeS.refl _
 | p :: ps, E, i => (foFold_leS N F p.right.reverse (E, E.getD p.left.toNat (0, 0)) i).trans (fFold_leS N F ps _ i)
theorem iterW_leS (N : List Bool) (F : List BS) (ps : List PV) (E : List BS) : ∀ k i, LeS (E.getD i (0, 0)) ((iterW N F ps E k).getD i (0, 0))
 | 0, _ => LeS.refl _
 | k + 1, i => (iterW_leS N F ps E k i).trans (fFold_leS N F ps _ i)
def startW (n : Nat) (st : Nat) (t : Nat) : List BS := (List.replicate n (0, 0)).set st (addS (0, 0) t)
structure LstW (g : GV) (F : List BS) (E : List BS) : Prop where
 len : E.length = g.ns.length
 ok : ∀ i, OkS (E.getD i (0, 0))
 st : hasS (E.getD g.start.toNat (0, 0)) g.ts.length = true
 cl : ClosW (nullU g.ps g.ns.length) F g.ps E
 lst : ∀ E', hasS (E'.getD g.start.toNat (0, 0)) g.ts.length = true -> ClosW (nullU g.ps g.ns.length) F g.ps E' -> ∀ i, LeS (E.getD i (0, 0)) (E'.getD i (0, 0))
theorem LstW.of {g : GV} {F E : List BS} (hg : GP g) (hst : g.start.toNat < g.ns.length) (k : Nat) (hE : E = iterW (nullU g.ps g.ns.length) F g.ps (startW g.ns.length g.start.toNat g.ts.length) k) (hfix : fRound (nullU g.ps g.ns.length) F g.ps E = E) (hlen : E.length = g.ns.length) (hok : ∀ i, OkS (E.getD i (0, 0))) : LstW g F E := by
 have htl := hg.tl
 have h0 : ∀ i, (startW g.ns.length g.start.toNat g.ts.length).getD i (0, 0) = if g.start.toNat = i then addS (0, 0) g.ts.length else (0, 0) := fun i => by
  unfold startW
  rw [getD_setS]
  by_cases q : g.start.toNat = i
  ·rw [if_pos ⟨q, by simp; omega⟩, if_pos q]
  ·rw [if_neg (fun h => q h.1), if_neg q, rep_zero]
 refine ⟨hlen, hok, ?_, fRound_closed hfix (fun p hp s hs e => ?_), fun E' h1 h2 => ?_⟩
 ·have hin : ∀ i, LeS ((startW g.ns.length g.start.toNat g.ts.length).getD i (0, 0)) (E.getD i (0, 0)) := fun i => by
   rw [hE]
   exact iterW_leS _ _ _ _ k i
  refine hin _ _ (by omega) ?_
  rw [h0, if_pos rfl, hasS_add _ _ _ (by omega) (by omega)]
  simp
 ·rw [hlen]
  rcases hg.sym p hp s hs with q | q <;> omega
 ·rw [hE]
  refine iterW_in h2 (fun i n hn q => ?_) k
  rw [h0] at q
  split at q
  ·rename_i e
   subst e
   rw [hasS_add _ _ _ (by omega) hn, hasS_zero, Bool.false_or, decide_eq_true_eq] at q
   rw [<- q]
   exact h1
  ·rw [hasS_zero] at q
   cases q
end Go.Proofs.Ytfgdpmcpjpceoaa
namespace Go.Proofs.Ytfgdpmcpjpceoaa
set_option linter.unusedVariables false
set_option maxRecDepth 100000
set_option maxHeartbeats 16000000
open Go.RowKit Go.Shelf
structure FWs (g : GV) (gb vb cb nb fb eb : Nat) (N : List Bool) (F E : List BS) (n₀ : Nat) (w0 w : World) : Prop where
 gbx : w.heap[gb]? = some (gBox g)
 vbx : CellsAt w vb #[.slice (some ⟨eb, 0, none⟩) N.length N.length] 65
 cbx : CellsAt w cb #[.slice (some ⟨nb, 0, none⟩) N.length N.length, .slice (some ⟨fb, 0, none⟩) N.length N.length] 67
 n : BB w nb N
 f : SBk w fb F
 e : SBk w eb E
 okf : ∀ i, OkS (F.getD i (0, 0))
 oke : ∀ i, OkS (E.getD i (0, 0))
 len : F.length = N.length /\ E.length = N.length /\ N.length = g.ns.length
 bel : Below n₀ w0 w
structure KeptE (eb : Nat) (w w' : World) : Prop where
 os : w'.os = w.os
 tape : w'.tape = w.tape
 output : w'.output = w.output
 size : w.heap.size <= w'.heap.size
 block : ∀ j, j < w.heap.size -> j ≠ eb -> w'.heap[j]? = w.heap[j]?
theorem KeptE.refl (eb : Nat) (w : World) : KeptE eb w w := ⟨rfl, rfl, rfl, Nat.le_refl _, fun _ _ _ => rfl⟩
theorem KeptE.trans {eb : Nat} {a b c : World} (h : KeptE eb a b) (k : KeptE eb b c) : KeptE eb a c := ⟨k.os.trans h.os, k.tape.trans h.tape, k.output.trans h.output, Nat.le_trans h.size k.size, fun j hj hn => (k.block j (Nat.lt_of_lt_of_le hj h.size) hn).trans (h.block j hj hn)⟩
theorem KeptE.of {eb : Nat} {w w' : World} (h : Below w.heap.size w w') : KeptE eb w w' := ⟨h.os, h.tape, h.output, h.size, fun j hj _ => h.block j hj⟩
theorem KeptE.set {eb : Nat} {w w' : World} (h : KeptE eb w w') (i : Nat) (v : Value) : KeptE eb w (w'.setCell ⟨eb, i, none⟩ v) := by
 have hb : Below eb w' (w'.setCell ⟨eb, i, none⟩ v) := (Below.refl _ _).setCell (p := ⟨eb, i, none⟩) (Nat.le_refl _) v
 exact ⟨hb.os.trans h.os, hb.tape.trans h.tape, hb.output.trans h.output, Nat.le_trans h.size hb.size, fun j hj hn => (Below.heap_setCell _ _ _ _ hn).trans (h.block j hj hn)⟩
theorem KeptE.below {eb n₀ : Nat} {w0 w w' : World} (h : KeptE eb w w') (hb : Below n₀ w0 w) (hn : n₀ <= eb) (hz : n₀ <= w.heap.size) : Below n₀ w0 w' :=
 hb.trans ⟨h.os, h.tape, h.output, h.size, fun k hk => h.block k (by omega) (by omega)⟩
theorem FWs.kept {g : GV} {gb vb cb nb fb eb : Nat} {N : List Bool} {F E E' : List BS} {n₀ : Nat} {w0 w w' : World} (h : FWs g gb vb cb nb fb eb N F E n₀ w0 w) (hk : KeptE eb w w') (he : SBk w' eb E') (hd : gb ≠ eb /\ vb ≠ eb /\ cb ≠ eb /\ nb ≠ eb /\ fb ≠ eb /\ n₀ <= eb) (hok : ∀ i, OkS (E'.getD i (0, 0))) (hl : E'.length = N.length) (hz : n₀ <= w.heap.size) : FWs g gb vb cb nb fb eb N F E' n₀ w0 w' :=
 ⟨(hk.block _ (lt_of_block h.gbx) hd.1).trans h.gbx, (hk.block _ h.vbx.lt hd.2.1).trans h.vbx, (hk.block _ h.cbx.lt hd.2.2.1).trans h.cbx, h.n.kept (hk.block _ h.n.lt hd.2.2.2.1), h.f.kept (hk.block _ h.f.lt hd.2.2.2.2.1), he, h.okf, hok, ⟨h.len.1, hl, h.len.2.2⟩, hk.below h.bel hd.2.2.2.2.2 hz⟩
end Go.Proofs.Ytfgdpmcpjpceoaa
namespace Go.Proofs.Ytfgdpmcpjpceoaa
set_option linter.unusedVariables false
set_option maxRecDepth 100000
set_option maxHeartbeats 16000000
open Go.RowKit Go.Shelf
def BT (n₀ : Nat) (X X' : World) : Prop := KeepsOthers X X' /\ Below n₀ X X'
theorem BT.trans {n₀ : Nat} {A B C : World} (h : BT n₀ A B) (k : BT n₀ B C) : BT n₀ A C := ⟨h.1.trans k.1, h.2.trans k.2⟩
theorem BT.later {n₀ : Nat} {X X' : World} (h : Below X.heap.size X X') (hn : n₀ <= X.heap.size) : BT n₀ X X' := ⟨keeps_below h, h.mono hn⟩
theorem BT.set {n₀ : Nat} (X : World) (b i : Nat) (v : Value) (hn : n₀ <= b) : BT n₀ X (X.setCell ⟨b, i, none⟩ v) := ⟨KeepsOthers.setCell _ _ _, (Below.refl _ _).setCell (p := ⟨b, i, none⟩) hn v⟩
structure BW (eb Bx : Nat) (C : Array Value) (s : Int × Int) (Y : List BS) (p : BS) (W X : World) : Prop where
 c1 : CellsAt X (W.heap.size + 1) #[.int .u64 (p.1 : Int), .int .u64 (p.2 : Int)] 86
 c2 : CellsAt X (W.heap.size + 1 + 1) C 44
 c3 : SBk X eb Y
 bx : CellsAt X Bx #[.int .i64 s.1, .int .i64 s.2] 72
 ke : KeptE eb W X
 lt : eb < W.heap.size /\ W.heap.size + 1 + 1 < Bx
theorem BW.later {eb Bx : Nat} {C : Array Value} {s : Int × Int} {Y : List BS} {p : BS} {W X X' : World} (h : BW eb Bx C s Y p W X) (hb : Below X.heap.size X X') : BW eb Bx C s Y p W X' :=
 ⟨(hb.block _ h.c1.lt).trans h.c1, (hb.block _ h.c2.lt).trans h.c2, h.c3.later hb, (hb.block _ h.bx.lt).trans h.bx, h.ke.trans (KeptE.of hb), h.lt⟩
end Go.Proofs.Ytfgdpmcpjpceoaa
namespace Go.Proofs.Ytfgdpmcpjpceoaa
set_option linter.unusedVariables false
set_option maxRecDepth 100000
set_option maxHeartbeats 16000000
open Go.RowKit Go.Shelf
theorem FWs.later {g : GV} {gb vb cb nb fb eb : Nat} {N : List Bool} {F E : List BS} {n₀ : Nat} {w0 w w' : World} (h : FWs g gb vb cb nb fb eb N F E n₀ w0 w) (hb : Below w.heap.size w w') (hz : n₀ <= w.heap.size) (hd : gb ≠ eb /\ vb ≠ eb /\ cb ≠ eb /\ nb ≠ eb /\ fb ≠ eb /\ n₀ <= eb) : FWs g gb vb cb nb fb eb N F E n₀ w0 w' :=
 h.kept (KeptE.of hb) (h.e.later hb) hd h.oke h.len.2.1 hz
end Go.Proofs.Ytfgdpmcpjpceoaa
namespace Go.Proofs.Ytfgdpmcpjpceoaa
set_option linter.unusedVariables false
set_option maxRecDepth 100000
set_option maxHeartbeats 16000000
open Go.RowKit Go.Shelf
end Go.Proofs.Ytfgdpmcpjpceoaa
namespace Go.Proofs.Ytfgdpmcpjpceoaa
set_option linter.unusedVariables false
set_option maxRecDepth 100000
set_option maxHeartbeats 16000000
open Go.RowKit Go.Shelf
end Go.Proofs.Ytfgdpmcpjpceoaa
