import Derived.Test.YtfckmbdcfeljiaaDoorWriter
import Derived.Test.YtfckmbdcfeljiaaDoorSeal
import Derived.Test.YtfckmbdcfeljiaaDoorOpen
import Derived.Test.YtfckmbdcfeljiaaDoorSame
import Derived.Lib.SlBytesConst
namespace Go.Proofs.YtfckmbdcfeljiaaDoor
set_option linter.unusedVariables false
open Go.RowKit

theorem Own.later {w w' : World} {v : Value} {xs : List Int} (h : Own w v xs) (hb : Below w.heap.size w w') : Own w' v xs := h.kept fun k hk => hb.block k (h.lt k hk)
theorem wgrew_below {w w' : World} {q B : Nat} {v v' : Value} (h : WGrew w w' q v v') (hB : B ≤ w.heap.size) (hq : B ≤ q) (hv : ∀ k, v.ownBlock = some k → B ≤ k) : Below B w w' :=
  ⟨h.os, h.tape, h.output, h.size, fun k hk => h.block k (by omega) (by omega) (fun e => by have := hv k e.symm; omega)⟩

/-- Open, of whatever slice. -/
theorem open_any (k : Int) (ao : Option Addr) (N cap : Nat) (xs : List Int) (w : World) (hN : N = xs.length) (hk0 : 0 ≤ k) (hk1 : k ≤ 255) (hl : xs.length ≤ 140737488355328) (hcap : xs.length ≤ cap) (hm : Magic w) (hr : RowAt w ao xs) :
    Calls Tryd.prog 10 #[.int .u8 k, .slice ao N cap] w (OpenEnds k xs w) := by
  subst hN
  by_cases h : (checkHead k xs).1 = 0
  · have hne : xs ≠ [] := by intro e; subst e; simp [checkHead, headBytes, chk] at h
    obtain ⟨b, off, rfl, _⟩ := hr.2 hne
    by_cases hc : 4 < cap
    · exact open_rest k b off cap xs w hk0 hk1 hl hcap hc hm hr h
    · obtain ⟨rest, hx, _⟩ := chk_none k xs h
      have h4 : 4 ≤ xs.length := by rw [hx]; simp [headBytes]
      have e4 : xs.length = 4 := by omega
      have ec : cap = 4 := by omega
      subst ec
      have := open_four k b off xs w hk0 hk1 e4 hm hr h
      rw [e4]
      exact this
  · exact open_head k ao cap xs w hk0 hk1 hl hm hr h

theorem open_eq (k : Int) (ao : Option Addr) (N cap : Nat) (xs : List Int) (w : World) (body : List Int) (er at' : Int) (ho : openS k xs = (body, er, at')) (hN : N = xs.length) (hk0 : 0 ≤ k) (hk1 : k ≤ 255) (hl : xs.length ≤ 140737488355328) (hcap : xs.length ≤ cap) (hm : Magic w) (hr : RowAt w ao xs) :
    Calls Tryd.prog 10 #[.int .u8 k, .slice ao N cap] w fun e w' => ∃ a N c, e = .returned (.tuple #[.slice a N c, .int .i64 er, .int .i64 at']) ∧ Own w' (.slice a N c) body ∧ (∀ b, (Value.slice a N c).ownBlock = some b → w.heap.size ≤ b) ∧ Below w.heap.size w w' := by
  refine (open_any k ao N cap xs w hN hk0 hk1 hl hcap hm hr).mono fun e w' ⟨v, he, hv, hk, hb⟩ => ?_
  rw [ho] at he hv
  obtain ⟨a, c, rfl, _, _⟩ := hv.row
  exact ⟨a, _, c, he, hv, hk, hb⟩
theorem num_any (x : Int) (w : World) : Calls Tryd.prog 21 #[.int .i64 x] w fun e w' => e = .returned (.int .i64 x) ∧ w = w' := by
  go_enter Tryd.func21, Tryd.ntmps21
  go_wp2
  go_ret
  exact ⟨rfl, rfl⟩

theorem same_at (ao bo : Option Addr) (n m ca cb : Nat) (xs ys : List Int) (w : World) (hn : n = xs.length) (hm : m = ys.length) (hl : xs.length ≤ 140737488355328) (hl2 : ys.length ≤ 140737488355328) (hr : RowAt w ao xs) (hs : RowAt w bo ys) :
    Calls Tryd.prog 22 #[.slice ao n ca, .slice bo m cb] w fun e w' => e = .returned (.bool (decide (xs = ys))) ∧ Still w w' := by
  subst hn; subst hm
  exact same_any ao bo ca cb xs ys w hl hl2 hr hs
theorem same_true (ao bo : Option Addr) (n m ca cb : Nat) (xs : List Int) (w : World) (hn : n = xs.length) (hm : m = xs.length) (hl : xs.length ≤ 140737488355328) (hr : RowAt w ao xs) (hs : RowAt w bo xs) :
    Calls Tryd.prog 22 #[.slice ao n ca, .slice bo m cb] w fun e w' => e = .returned (.bool true) ∧ Still w w' := by
  have h := same_at ao bo n m ca cb xs xs w hn hm hl hl hr hs
  simpa using h

theorem wbytes_at {w : World} {p q : Nat} {v : Value} {xs : List Int} (h : WInv w p q v xs 0) (hl : xs.length ≤ 140737488355328) :
    Calls Tryd.prog 7 #[.pointer (some ⟨p, 0, none⟩)] w fun e w' => ∃ ao N c, e = .returned (.tuple #[.slice ao N c, .int .i64 0]) ∧ Own w' (.slice ao N c) xs ∧ (∀ k, (Value.slice ao N c).ownBlock = some k → w.heap.size ≤ k) ∧ Below w.heap.size w w' :=
  (wbytes_any h hl).mono fun e w' ⟨ao, c, h⟩ => ⟨ao, _, c, h⟩
theorem seal_at (k : Int) (ao : Option Addr) (N cap : Nat) (xs : List Int) (w : World) (hN : N = xs.length) (hk0 : 0 ≤ k) (hk1 : k ≤ 255) (hl : xs.length ≤ 16777216) (hm : Magic w) (hr : RowAt w ao xs) (hn : ao = none → cap = 0) :
    Calls Tryd.prog 8 #[.int .u8 k, .slice ao N cap] w fun e w' => ∃ g N c, e = .returned (.tuple #[.slice (some ⟨g, 0, none⟩) N c, .int .i64 0]) ∧ Own w' (.slice (some ⟨g, 0, none⟩) N c) (frame k xs) ∧ w.heap.size ≤ g ∧ Below w.heap.size w w' := by
  subst hN; exact seal_any k ao cap xs w hk0 hk1 hl hm hr hn

theorem enc300 : enc 10 300 = [172, 2] := by decide +kernel
theorem openFrame : openS 1 (frame 1 [97]) = ([97], 0, 0) := by decide +kernel
theorem wiki : adler [87, 105, 107, 105, 112, 101, 100, 105, 97] = 300286872 := by decide +kernel
theorem sum_wiki (a : Addr) (c : Nat) (w : World) (hr : RowAt w (some a) [87, 105, 107, 105, 112, 101, 100, 105, 97]) : Calls Tryd.prog 23 #[.slice (some a) 9 c] w fun e w' => e = .returned (.int .u32 300286872) ∧ w = w' := by
  have h := sum_at (some a) 9 c _ w rfl (by decide) hr
  rw [wiki] at h
  exact h
theorem frameLen : (frame 1 [97]).length = 10 := by decide +kernel

theorem own_cap {w : World} {a : Option Addr} {N c : Nat} {xs : List Int} (h : Own w (.slice a N c) xs) : xs.length ≤ c := by
  rcases h.2.2 with ⟨e, hn⟩ | ⟨g, cap, cur, e, _, _, hnc, _⟩
  · simp only [Value.slice.injEq] at e
    obtain ⟨rfl, rfl, rfl⟩ := e
    have := h.1
    omega
  · simp only [Value.slice.injEq] at e
    obtain ⟨rfl, rfl, rfl⟩ := e
    exact hnc
end Go.Proofs.YtfckmbdcfeljiaaDoor
