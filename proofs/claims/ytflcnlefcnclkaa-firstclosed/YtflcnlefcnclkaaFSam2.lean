import Derived.Test.YtflcnlefcnclkaaFSam
namespace Go.Proofs.Ytflcnlefcnclkaa
set_option linter.unusedVariables false
open Go.RowKit

/-- The sample: what is said of it. -/
structure Sam (g : GV) : Prop where
  ts : g.ts = [⟨#[97]⟩, ⟨#[98]⟩]
  ns : g.ns = [⟨#[83]⟩, ⟨#[65]⟩]
  start : g.start = 0
  ps : g.ps.map (fun p => (p.left, p.right, p.prec)) = [(0, [(2, 1), (1, 1)], -1), (1, [(1, 0)], -1), (1, [], -1)]
  ls : g.ls = []
theorem Sam.prods {g : GV} (h : Sam g) : ∃ a0 c0 a1 c1 a2 c2, g.ps = [⟨0, a0, c0, [(2, 1), (1, 1)], -1⟩, ⟨1, a1, c1, [(1, 0)], -1⟩, ⟨1, a2, c2, [], -1⟩] := by
  have e := h.ps
  match hp : g.ps with
  | [] => rw [hp] at e; simp at e
  | [_] => rw [hp] at e; simp at e
  | [_, _] => rw [hp] at e; simp at e
  | [⟨l0, a0, c0, r0, p0⟩, ⟨l1, a1, c1, r1, p1⟩, ⟨l2, a2, c2, r2, p2⟩] =>
    rw [hp] at e
    simp only [List.map_cons, List.map_nil, List.cons.injEq, Prod.mk.injEq, and_true] at e
    obtain ⟨⟨rfl, rfl, rfl⟩, ⟨rfl, rfl, rfl⟩, ⟨rfl, rfl, rfl⟩⟩ := e
    exact ⟨a0, c0, a1, c1, a2, c2, rfl⟩
  | _ :: _ :: _ :: _ :: _ => rw [hp] at e; simp at e
theorem Sam.null {g : GV} (h : Sam g) : nullU g.ps g.ns.length = [false, true] := by
  obtain ⟨a0, c0, a1, c1, a2, c2, e⟩ := h.prods
  rw [e, h.ns]
  rfl
theorem Sam.bad {g : GV} (h : Sam g) : chkN [false, false] g.ps = (61, 2) := by
  obtain ⟨a0, c0, a1, c1, a2, c2, e⟩ := h.prods
  rw [e]
  rfl
theorem Sam.least {g : GV} (h : Sam g) {F : List BS} (hF : LeastF g F) : F = [(3, 0), (1, 0)] := by
  obtain ⟨k, e1, e2, _⟩ := hF
  rw [h.null] at e1 e2
  obtain ⟨a0, c0, a1, c1, a2, c2, e⟩ := h.prods
  rw [e] at e1 e2
  rw [h.ns] at e1
  have r0 : roundS [false, true] [⟨0, a0, c0, [(2, 1), (1, 1)], -1⟩, ⟨1, a1, c1, [(1, 0)], -1⟩, ⟨1, a2, c2, [], -1⟩] [(0, 0), (0, 0)] = [(2, 0), (1, 0)] := by kernel_rfl
  have r1 : roundS [false, true] [⟨0, a0, c0, [(2, 1), (1, 1)], -1⟩, ⟨1, a1, c1, [(1, 0)], -1⟩, ⟨1, a2, c2, [], -1⟩] [(2, 0), (1, 0)] = [(3, 0), (1, 0)] := by kernel_rfl
  have r2 : roundS [false, true] [⟨0, a0, c0, [(2, 1), (1, 1)], -1⟩, ⟨1, a1, c1, [(1, 0)], -1⟩, ⟨1, a2, c2, [], -1⟩] [(3, 0), (1, 0)] = [(3, 0), (1, 0)] := by kernel_rfl
  have key : ∀ k, iterS [false, true] [⟨0, a0, c0, [(2, 1), (1, 1)], -1⟩, ⟨1, a1, c1, [(1, 0)], -1⟩, ⟨1, a2, c2, [], -1⟩] [(0, 0), (0, 0)] (k + 2) = [(3, 0), (1, 0)] := fun k => by
    induction k with
    | zero => rw [iterS, iterS, iterS, r0, r1]
    | succ k ih => rw [iterS, ih, r2]
  match k with
  | 0 =>
    rw [show F = [(0, 0), (0, 0)] from e1, r0] at e2
    exact absurd e2 (by decide)
  | 1 =>
    have e3 : F = [(2, 0), (1, 0)] := by rw [e1]; exact r0
    rw [e3, r1] at e2
    exact absurd e2 (by decide)
  | k + 2 => rw [e1]; exact key k
theorem Sam.lists {g : GV} (h : Sam g) {F : List BS} (hF : LeastF g F) : listsU F = [[0, 1], [0]] := by
  rw [h.least hF]
  decide +kernel
theorem Sam.check {g : GV} (h : Sam g) : checkG g (checkF g.ts g.ns) = (0, 0) := by
  obtain ⟨a0, c0, a1, c1, a2, c2, e⟩ := h.prods
  obtain ⟨ta, tc, ts, na, nc, ns, st, pa, pc, ps, la, lc, ls⟩ := g
  obtain ⟨rfl, rfl, rfl, _, rfl⟩ := h
  simp only at e
  subst e
  rfl
end Go.Proofs.Ytflcnlefcnclkaa
