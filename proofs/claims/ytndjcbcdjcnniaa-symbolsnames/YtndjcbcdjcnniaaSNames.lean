import Derived.Test.YtndjcbcdjcnniaaSIntact
import Derived.Test.YtndjcbcdjcnniaaSCheckN
import Derived.Test.YtndjcbcdjcnniaaSCheckR
namespace Go.Proofs.Ytndjcbcdjcnniaa
set_option linter.unusedVariables false
open Go.RowKit

abbrev gNew : Obj := .cells #[gNil, gNil, gNil, gNil, gNil, gNil, gNil, gNil, gNil, gNil, gNil, gNil, gNil, gNil, gNil, gNil, gNil, gNil, gNil, gNil, gNil, gNil] 35
theorem ginv_new (w : World) : GInv (w.alloc gNew) w.heap.size gNil gNil [] :=
  ⟨heap_alloc_new w _, GL.nil _, GL.nil _, fun k hk => by simp [Value.ownBlock] at hk, fun e he => by cases he⟩
theorem gnil_own (B : Nat) : ∀ k, gNil.ownBlock = some k → B ≤ k := fun k hk => by simp [Value.ownBlock] at hk
/-- A row that was handed in, by its record. -/
theorem GI.row {w : World} {q : Nat} {L W : Value} {ss tt : List Value} {es : List GE} {x : GE} {xs : List ByteArray} (h : GI w q L W ss tt es) (hx : x ∈ es) (ht : x.zs.take xs.length = xs) : StrRow w (some ⟨x.g, 0, none⟩) xs := (h.at_ x hx).full.rowTake ht
theorem gstrings_at (B q : Nat) (L W : Value) (es : List GE) (ao : Option Addr) (N cap : Nat) (xs : List ByteArray) (w : World) (hN : N = xs.length) (hl : xs.length ≤ 8796093022000) (hsz : ∀ s ∈ xs, s.size ≤ maxLen) (hr : StrRow w ao xs) (hG : GInv w q L W es) (hes : es.length ≤ 1000) (hB : B ≤ w.heap.size) (hq : B ≤ q) (hL : ∀ k, L.ownBlock = some k → B ≤ k) (hW : ∀ k, W.ownBlock = some k → B ≤ k) :
    Calls Try.prog 9 #[.pointer (some ⟨q, 0, none⟩), .slice ao N cap] w fun e w' => ∃ L' W' x, e = .returned (.slice (some ⟨x.g, 0, none⟩) xs.length (xs.length + 3)) ∧ GInv w' q L' W' (es ++ [x]) ∧ x.zs.take xs.length = xs ∧ (∀ k, L'.ownBlock = some k → B ≤ k) ∧ (∀ k, W'.ownBlock = some k → B ≤ k) ∧ Below B w w' := by
  refine (gstrings q L W es ao N cap xs w hN hl hsz hr hG hes).mono ?_
  rintro e w' ⟨rfl, L', W', x, hG', hx, ht, hf⟩
  refine ⟨L', W', x, by rw [hx], hG', ht, fun k hk => ?_, fun k hk => ?_, hf.below hB hq hL hW⟩
  · rcases hf.ml with e | ⟨m, e, hm⟩
    · exact hL k (e ▸ hk)
    · rw [hk] at e; have := Option.some.inj e; omega
  · rcases hf.mw with e | ⟨m, e, hm⟩
    · exact hW k (e ▸ hk)
    · rw [hk] at e; have := Option.some.inj e; omega
theorem cn_at (a1 a2 : Option Addr) (c1 c2 N1 N2 : Nat) (ts ns : List ByteArray) (w : World) (er at_ : Int) (hc : checkF ts ns = (er, at_)) (e1 : N1 = ts.length) (e2 : N2 = ns.length) (hz1 : ∀ s ∈ ts, s.size ≤ maxLen) (hz2 : ∀ s ∈ ns, s.size ≤ maxLen) (hr1 : StrRow w a1 ts) (hr2 : StrRow w a2 ns) :
    Calls Try.prog 8 #[.slice a1 N1 c1, .slice a2 N2 c2] w fun e w' => e = .returned (.tuple #[.int .i64 er, .int .i64 at_]) ∧ Below w.heap.size w w' :=
  (checknames_any a1 a2 c1 c2 N1 N2 ts ns w e1 e2 hz1 hz2 hr1 hr2).mono fun e w' ⟨_, _, he, h1, h2, hb⟩ => ⟨by rw [he, h1, h2, hc], hb⟩
theorem cr_at (a1 a2 : Option Addr) (c1 c2 N1 N2 : Nat) (ts ns : List ByteArray) (w : World) (er at_ : Int) (hc : checkF ts ns = (er, at_)) (e1 : N1 = ts.length) (e2 : N2 = ns.length) (hz1 : ∀ s ∈ ts, s.size ≤ maxLen) (hz2 : ∀ s ∈ ns, s.size ≤ maxLen) (hr1 : StrRow w a1 ts) (hr2 : StrRow w a2 ns) :
    Calls Try.prog 10 #[.slice a1 N1 c1, .slice a2 N2 c2] w fun e w' => e = .returned (.tuple #[.int .i64 er, .int .i64 at_]) ∧ Below w.heap.size w w' :=
  (refcheck_any a1 a2 c1 c2 N1 N2 ts ns w e1 e2 hz1 hz2 hr1 hr2).mono fun e w' ⟨_, _, he, h1, h2, hb⟩ => ⟨by rw [he, h1, h2, hc], hb⟩
set_option maxRecDepth 100000 in
set_option maxHeartbeats 4000000 in
theorem names_walk (ao bo : Option Addr) (ca cb N1 N2 : Nat) (xs ys : List ByteArray) (w : World) (hx : xs.length ≤ 8796093022000) (hy : ys.length ≤ 8796093022000) (h1 : N1 = xs.length ∧ (∀ s ∈ xs, s.size ≤ maxLen) ∧ StrRow w ao xs) (h2 : N2 = ys.length ∧ (∀ s ∈ ys, s.size ≤ maxLen) ∧ StrRow w bo ys) :
    Calls Try.prog 3 #[.slice ao N1 ca, .slice bo N2 cb] w fun e w' => e = .returned (.bool true) ∧ Below w.heap.size w w' := by
  obtain ⟨rfl, hzx', hr⟩ := h1
  obtain ⟨rfl, hzy', hs⟩ := h2
  obtain ⟨er, at_, ho⟩ : ∃ er at_, checkF xs ys = (er, at_) := ⟨_, _, rfl⟩
  have HO : Hid (checkF xs ys = (er, at_)) := ho
  have hzx : Hid (∀ s ∈ xs, s.size ≤ maxLen) := hzx'
  have hzy : Hid (∀ s ∈ ys, s.size ≤ maxLen) := hzy'
  clear ho hzx' hzy'
  have HX : Hid (xs.length ≤ 8796093022000) := hx
  have HY : Hid (ys.length ≤ 8796093022000) := hy
  have HRA : Hid (StrRow (w.alloc gNew) ao xs) := hr.later (below_alloc w _)
  have HB0 : Hid (w.heap.size ≤ (w.alloc gNew).heap.size) := (below_alloc w gNew).size
  have HE0 : Hid (([] : List GE).length ≤ 1000) := by show _ ≤ _; simp
  have HE1 : Hid (∀ x1 : GE, ([] ++ [x1]).length ≤ 1000) := fun x1 => by simp
  have HE2 : Hid (∀ x1 x4 : GE, ([] ++ [x1] ++ [x4]).length ≤ 1000) := fun x1 x4 => by simp
  have HM1 : Hid (∀ x1 x4 : GE, x1 ∈ ([] ++ [x1] ++ [x4])) := fun x1 x4 => by simp
  have HM2 : Hid (∀ x1 x4 : GE, x4 ∈ ([] ++ [x1] ++ [x4])) := fun x1 x4 => by simp
  have e1 : (er == er) = true := by simp
  have e2 : (at_ == at_) = true := by simp
  go_enter Try.func3, Try.ntmps3
  go_wp2_with (first
    | (go_at_call 9; (with_reducible refine (gstrings_at w.heap.size w.heap.size gNil gNil [] ao xs.length ca xs (w.alloc gNew) rfl HX.out hzx.out HRA.out (ginv_new w) HE0.out HB0.out (Nat.le_refl _) (gnil_own _) (gnil_own _)).mono ?_); rintro e w1 ⟨L1, W1, x1, rfl, hG1, ht1', hL1, hW1, hb1'⟩; have ht1 : Hid _ := ht1'; have hb1 := (below_alloc w gNew).trans hb1'; have hs1 := hs.later hb1; clear hb1' ht1')
    | (go_at_call 9; (with_reducible refine (gstrings_at w.heap.size w.heap.size L1 W1 ([] ++ [x1]) bo ys.length cb ys w1 rfl HY.out hzy.out hs1 hG1 (HE1.out x1) hb1.size (Nat.le_refl _) hL1 hW1).mono ?_); rintro e w2 ⟨L2, W2, x2, rfl, hG2, ht2', hL2, hW2, hb2'⟩; have ht2 : Hid _ := ht2'; have hb2 := hb1.trans hb2'; clear hb2' ht2' hb1 hG1 hs1)
    | (go_at_call 8; (with_reducible refine (cn_at (some ⟨x1.g, 0, none⟩) (some ⟨x2.g, 0, none⟩) (xs.length + 3) (ys.length + 3) xs.length ys.length xs ys w2 er at_ HO.out rfl rfl hzx.out hzy.out (hG2.row (HM1.out x1 x2) ht1.out) (hG2.row (HM2.out x1 x2) ht2.out)).mono ?_); rintro e w3 ⟨rfl, hb3'⟩; have hG3 := hG2.later hb3'; have hb3 := hb2.trans (hb3'.mono hb2.size); have hr3 := hr.later hb3; have hs3 := hs.later hb3; clear hb3' hb2 hG2)
    | (go_at_call 10; (with_reducible refine (cr_at ao bo ca cb xs.length ys.length xs ys w3 er at_ HO.out rfl rfl hzx.out hzy.out hr3 hs3).mono ?_); rintro e w4 ⟨rfl, hb4'⟩; have hG4 := hG3.later hb4'; have hb4 := hb3.trans (hb4'.mono hb3.size); clear hb4' hb3 hG3 hr3 hs3)
    | (go_at_call 11; refine (num_any _ _).mono ?_; rintro e w' ⟨rfl, rfl⟩)
    | (go_at_call 12; (with_reducible refine (intact_any w.heap.size L2 W2 ([] ++ [x1] ++ [x2]) w4 hG4 (HE2.out x1 x2)).mono ?_); rintro e w5 ⟨rfl, hb5'⟩; have hb5 := hb4.trans (hb5'.mono hb4.size))
    | (go_at_call 13; refine (works_any _).mono ?_; rintro e w6 ⟨rfl, hb6'⟩; have hb6 := hb5.trans (hb6'.mono hb5.size)))
  go_ret
  exact ⟨rfl, hb6⟩
end Go.Proofs.Ytndjcbcdjcnniaa
