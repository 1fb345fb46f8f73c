import Derived.Test.YtndbdliaidbocaaGreatPZTK
import Derived.Test.YtndbdliaidbocaaGreatPTDgToTDe
namespace Go.Proofs.YtndbdliaidbocaaGreat
set_option linter.unusedVariables false
open Go.RowKit
theorem core_at {g x : GV} (h : SameG g x) (n : Nat) : (x.ps.getD n .none).left = (g.ps.getD n .none).left /\ (x.ps.getD n .none).right = (g.ps.getD n .none).right := by
 have e : (x.ps.getD n .none).core = (g.ps.getD n .none).core := by
  have e1 : (x.ps.map PV.core)[n]? = (g.ps.map PV.core)[n]? := by rw [h.ps]
  rw [List.getElem?_map, List.getElem?_map] at e1
  simp only [List.getD]
  cases e2 : x.ps[n]? with
  | none =>
   rw [e2] at e1
   cases e3 : g.ps[n]? with
   | none => rfl
   | some y => rw [e3] at e1; cases e1
  | some z =>
   rw [e2] at e1
   cases e3 : g.ps[n]? with
   | none => rw [e3] at e1; cases e1
   | some y =>
    rw [e3] at e1
    simpa using e1
 unfold PV.core at e
 simp only [Prod.mk.injEq] at e
 exact ⟨e.1, e.2.1⟩
theorem plen_same {g x : GV} (h : SameG g x) : x.ps.length = g.ps.length := by
 have := congrArg List.length h.ps
 simpa using this
theorem right_same {g x : GV} (h : SameG g x) {t U : TV} (hp : U.prod = t.prod) : rightU x U = rightU g t := by
 unfold rightU
 rw [hp]
 exact (core_at h _).2
theorem al_same {g x : GV} (h : SameG g x) {t U : TV} (hs : sgV t = sgV U) : alTU x U = alTU g t := by
 unfold sgV at hs
 simp only [Prod.mk.injEq] at hs
 obtain ⟨h1, h2, h3, h4⟩ := hs
 unfold alTU
 rw [right_same h h1.symm, <- h1, <- h2, <- h3, <- h4, h.ts, plen_same h]
theorem root_same {g x : GV} (h : SameG g x) {t U : TV} (hs : sgV t = sgV U) : rootU x U = rootU g t := by
 unfold sgV at hs
 simp only [Prod.mk.injEq] at hs
 obtain ⟨h1, h2, h3, h4⟩ := hs
 unfold rootU
 rw [<- h1, <- h2, h.ts, plen_same h, (core_at h _).1]
theorem er_same {g x : GV} (h : SameG g x) {t U : TV} (hs : sgV t = sgV U) (d : Int) (s : Int × Int) (u : Bool) : erU x ⟨U, d, s, u⟩ = erU g ⟨t, d, s, u⟩ := by
 unfold erU
 dsimp only
 rw [al_same h hs, root_same h hs]
 unfold sgV at hs
 simp only [Prod.mk.injEq] at hs
 rw [hs.1]
def runE : List Int -> Nat -> Int × Nat
 | [], n => (0, n)
 | e :: l, n => if e ≠ 0 then (e, n) else runE l (n + 1)
theorem run_E (g : GV) : ∀ (l : List SP) (n : Nat), runU g l n = runE (l.map (erU g)) n
 | [], _ => rfl
 | x :: l, n => by rw [runU, List.map_cons, runE, run_E g l]
theorem ckL_same {g x : GV} : ∀ (r : List (Int × Int)) (l m : List TV), l.length = m.length -> (∀ i (h : i < l.length) (h' : i < m.length), ∀ s u, (ckT x s u m[i]).map (erU x) = (ckT g s u l[i]).map (erU g)) -> (ckL x r m).map (erU x) = (ckL g r l).map (erU g)
 | _, [], [], _, _ => rfl
 | _, [], _ :: _, h, _ => by simp at h
 | _, _ :: _, [], h, _ => by simp at h
 | r, a :: l, b :: m, h, hs => by
  rw [ckL_cons, ckL_cons, List.map_append, List.map_append, ckL_same r.tail l m (by simpa using h) (fun i h1 h2 => hs (i + 1) (by simpa using h1) (by simpa using h2))]
  have := hs 0 (by simp) (by simp) (r.headD (0, 0)) true
  simp only [List.getElem_cons_zero] at this
  rw [this]
theorem ck_same {g x : GV} (h : SameG g x) (t : TV) : ∀ U, samV t U -> ∀ s u, (ckT x s u U).map (erU x) = (ckT g s u t).map (erU g) := by
 induction t using TV.ind with
 | _ t ih =>
  intro U hU s u
  obtain ⟨h1, h2⟩ := (samV_iff t U).1 hU
  have hp : U.prod = t.prod := by
   have := congrArg Prod.fst h1
   exact this.symm
  rw [ckT_eq, ckT_eq, List.map_cons, List.map_cons, er_same h h1, right_same h hp, ckL_same _ t.kids U.kids (sgV_len h1) fun i hi hi' s u => ih _ (List.getElem_mem hi) _ (h2 i hi hi') s u]
theorem run_same {g x : GV} (h : SameG g x) {t U : TV} (hs : samV t U) : runU x (ckT x (0, 0) false U) 0 = runU g (ckT g (0, 0) false t) 0 := by
 rw [run_E, run_E, ck_same h t U hs]
structure RtB (n : Nat) (w0 : World) (g : GV) (t : TV) (w : World) : Prop where
 bel : Below n w0 w
 g : w.heap[n]? = some (gBox g)
 t : w.heap[n + 1]? = some (tBox t)
 y : w.heap[n + 1 + 1]? = some (yBoxC 0 0)
theorem RtB.later {n : Nat} {w0 : World} {g : GV} {t : TV} {w w' : World} (h : RtB n w0 g t w) (hn : n <= w.heap.size) (hb : Below w.heap.size w w') : RtB n w0 g t w' :=
 ⟨h.bel.trans (hb.mono hn), (hb.block _ (lt_of_block h.g)).trans h.g, (hb.block _ (lt_of_block h.t)).trans h.t, (hb.block _ (lt_of_block h.y)).trans h.y⟩
theorem RtB.sz {n : Nat} {w0 : World} {g : GV} {t : TV} {w : World} (h : RtB n w0 g t w) : n <= w.heap.size := Nat.le_of_lt (lt_of_block h.g)
end Go.Proofs.YtndbdliaidbocaaGreat
