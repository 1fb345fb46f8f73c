import Derived.Test.YtfckmbdcfeljiaaDoorCount
namespace Go.Proofs.YtfckmbdcfeljiaaDoor
set_option linter.unusedVariables false
open Go.RowKit

set_option maxRecDepth 100000 in
set_option maxHeartbeats 800000 in
theorem take_ok {w : World} {r : Nat} {ao : Option Addr} {N cap : Nat} {xs : List Int} {pos : Nat} (most : Int) (h : RInv w r ao N cap xs pos 0) (n : Int) (s : Nat) (hp : peekS xs pos most = (n, (s : Int), 0)) :
    Calls Tryd.prog 51 #[.pointer (some ⟨r, 0, none⟩), .int .u64 most] w fun x w' => x = .returned (.int .u64 n) ∧ RInv w' r ao N cap xs (pos + s) 0 ∧ ROnly w w' r := by
  obtain ⟨_, f2⟩ := peekS_facts xs h.row.1 pos h.pos most n s 0 hp
  obtain ⟨g1, g2, g3, g4, g5, g6, _⟩ := f2 rfl
  have HC : Hid _ := hp
  have hs0 : 0 < s := by omega
  have hs1 : s ≤ 140737488355328 := by omega
  have hq : pos + s ≤ xs.length := by omega
  have hps := h.pos
  have hlm := h.lim
  clear hp f2 g1 g2 g3 g5 g6
  go_enter Tryd.func51, Tryd.ntmps51
  go_wp2_with (first
    | (go_at_call 74; refine (peek_eq most h n s 0 HC.out).mono ?_; rintro e w2 ⟨rfl, hR2, hO2⟩; have hR3 := hR2.later (below_alloc w2 (.cells #[.int .u64 n, .int .i64 s] 152)); have hr2 := hR2.lt)
    | (go_at_call 75; refine (rmove_some s hR3 hs0 hs1).mono ?_; rintro e w' ⟨rfl, rfl⟩))
  go_ret
  have hx := hR2.setPos (pos + s) hq
  rw [Int.natCast_add] at hx
  exact ⟨rfl, hx.later (below_alloc _ _), (hO2.trans (ROnly.set _ _ _ _)).trans (ROnly.ofBelow (below_alloc _ _))⟩

set_option maxRecDepth 100000 in
set_option maxHeartbeats 800000 in
theorem take_err {w : World} {r : Nat} {ao : Option Addr} {N cap : Nat} {xs : List Int} {pos : Nat} (most : Int) (h : RInv w r ao N cap xs pos 0) (e : Int) (hp : peekS xs pos most = (0, 0, e)) :
    Calls Tryd.prog 51 #[.pointer (some ⟨r, 0, none⟩), .int .u64 most] w fun x w' => x = .returned (.int .u64 0) ∧ RInv w' r ao N cap xs pos e ∧ ROnly w w' r := by
  have HC : Hid _ := hp
  clear hp
  go_enter Tryd.func51, Tryd.ntmps51
  go_wp2_with (first
    | (go_at_call 74; refine (peek_eq most h 0 0 e HC.out).mono ?_; rintro e2 w2 ⟨rfl, hR2, hO2⟩)
    | (go_at_call 75; refine (rmove_none).mono ?_; rintro e w' ⟨rfl, rfl⟩))
  go_ret
  exact ⟨rfl, hR2.later (below_alloc _ _), hO2.trans (ROnly.ofBelow (below_alloc w2 _))⟩

set_option maxRecDepth 100000 in
set_option maxHeartbeats 800000 in
theorem take_none {w : World} {r : Nat} {ao : Option Addr} {N cap : Nat} {xs : List Int} {pos : Nat} {err : Int} (most : Int) (h : RInv w r ao N cap xs pos err) (hne : (err == 0) = false) :
    Calls Tryd.prog 51 #[.pointer (some ⟨r, 0, none⟩), .int .u64 most] w fun x w' => x = .returned (.int .u64 0) ∧ RInv w' r ao N cap xs pos err ∧ ROnly w w' r := by
  go_enter Tryd.func51, Tryd.ntmps51
  go_wp2_with (first
    | (go_at_call 74; refine (peek_none most h hne).mono ?_; rintro e2 w2 ⟨rfl, hR2, hO2⟩)
    | (go_at_call 75; refine (rmove_none).mono ?_; rintro e w' ⟨rfl, rfl⟩))
  go_ret
  exact ⟨rfl, hR2.later (below_alloc _ _), hO2.trans (ROnly.ofBelow (below_alloc w2 _))⟩

/-- What a reading leaves: value, place, error. -/
def takeS (xs : List Int) (pos : Nat) (err most : Int) : Int × Nat × Int :=
  if err ≠ 0 then (0, pos, err)
  else if (peekS xs pos most).2.2 ≠ 0 then (0, pos, (peekS xs pos most).2.2)
  else ((peekS xs pos most).1, pos + (peekS xs pos most).2.1.toNat, 0)
theorem take_any {w : World} {r : Nat} {ao : Option Addr} {N cap : Nat} {xs : List Int} {pos : Nat} {err : Int} (most : Int) (h : RInv w r ao N cap xs pos err) (n : Int) (p : Nat) (e : Int) (ht : takeS xs pos err most = (n, p, e)) :
    Calls Tryd.prog 51 #[.pointer (some ⟨r, 0, none⟩), .int .u64 most] w fun x w' => x = .returned (.int .u64 n) ∧ RInv w' r ao N cap xs p e ∧ ROnly w w' r := by
  rw [takeS] at ht
  by_cases he : err = 0
  · subst he
    rw [if_neg (by simp)] at ht
    obtain ⟨n', s', e', hp⟩ : ∃ n s e, peekS xs pos most = (n, s, e) := ⟨_, _, _, rfl⟩
    obtain ⟨f1, f2⟩ := peekS_facts xs h.row.1 pos h.pos most n' s' e' hp
    rw [hp] at ht
    by_cases he' : e' = 0
    · subst he'
      rw [if_neg (by simp)] at ht
      simp only [Prod.mk.injEq] at ht
      obtain ⟨rfl, rfl, rfl⟩ := ht
      have := f2 rfl
      obtain ⟨s, rfl⟩ := Int.eq_ofNat_of_zero_le (show 0 ≤ s' by omega)
      exact take_ok most h n' s hp
    · obtain ⟨rfl, rfl⟩ := f1 he'
      rw [if_pos he'] at ht
      simp only [Prod.mk.injEq] at ht
      obtain ⟨rfl, rfl, rfl⟩ := ht
      exact take_err most h e' hp
  · rw [if_pos he] at ht
    simp only [Prod.mk.injEq] at ht
    obtain ⟨rfl, rfl, rfl⟩ := ht
    exact take_none most h (by simpa using he)

/-- Number, of a reader in whatever state. -/
theorem rnumber_any {w : World} {r : Nat} {ao : Option Addr} {N cap : Nat} {xs : List Int} {pos : Nat} {err : Int} (h : RInv w r ao N cap xs pos err) (n : Int) (p : Nat) (e : Int) (ht : takeS xs pos err 18446744073709551615 = (n, p, e)) :
    Calls Tryd.prog 15 #[.pointer (some ⟨r, 0, none⟩)] w fun x w' => x = .returned (.int .u64 n) ∧ RInv w' r ao N cap xs p e ∧ ROnly w w' r := by
  have HT : Hid _ := ht
  clear ht
  go_enter Tryd.func15, Tryd.ntmps15
  go_wp2_with (go_at_call 51; refine (take_any 18446744073709551615 h n p e HT.out).mono ?_; rintro e2 w2 ⟨rfl, hR2, hO2⟩)
  go_ret
  exact ⟨rfl, hR2, hO2⟩

/-- A reader's block and a writer's are not one. -/
theorem rw_apart {w : World} {r : Nat} {ao : Option Addr} {N cap : Nat} {xs : List Int} {pos : Nat} {err : Int} (h : RInv w r ao N cap xs pos err) {p q : Nat} {v : Value} {zs : List Int} {e : Int} (hW : WInv w p q v zs e) : p ≠ r ∧ q ≠ r ∧ some r ≠ v.ownBlock := by
  refine ⟨?_, ?_, own_ne hW.own h.hr (by decide)⟩
  · intro q'; subst q'; have := hW.hp; rw [h.hr] at this; simp at this
  · intro q'; subst q'; have := hW.hq; rw [h.hr] at this; simp at this
theorem WInv.only {w w' : World} {r : Nat} {p q : Nat} {v : Value} {zs : List Int} {e : Int} (hW : WInv w p q v zs e) (ho : ROnly w w' r) (ha : p ≠ r ∧ q ≠ r ∧ some r ≠ v.ownBlock) : WInv w' p q v zs e :=
  ⟨(ho.block p (lt_of_block hW.hp) ha.1).trans hW.hp, (ho.block q (lt_of_block hW.hq) ha.2.1).trans hW.hq, hW.own.kept fun k hk => ho.block k (hW.own.lt k hk) (fun e => ha.2.2 (by rw [hk, e]))⟩
theorem RInv.wgrew {w w' : World} {r : Nat} {ao : Option Addr} {N cap : Nat} {xs : List Int} {pos : Nat} {err : Int} (h : RInv w r ao N cap xs pos err) {p q : Nat} {v v' : Value} {zs : List Int} {e : Int} (hW : WInv w p q v zs e) (hg : WGrew w w' q v v')
    (hne : xs ≠ []) (hap : ∀ b o, ao = some ⟨b, o, none⟩ → some b ≠ v.ownBlock) : RInv w' r ao N cap xs pos err ∧ ∀ b o, ao = some ⟨b, o, none⟩ → some b ≠ v'.ownBlock := by
  obtain ⟨b, off, hb, hc⟩ := h.row.2 hne
  have hblt : b < w.heap.size := World.block_lt_of_cell? w _ (hc 0 (List.length_pos_iff.2 hne))
  obtain ⟨_, a2, a3⟩ := rw_apart h hW
  have hbq : b ≠ q := by
    intro e'
    subst e'
    have h0 := hc 0 (List.length_pos_iff.2 hne)
    simp only [World.cell?, hW.hq, Nat.add_zero] at h0
    obtain ⟨a, N', c', e1⟩ := own_slice hW.own
    match off, h0 with
    | 0, h0 => rw [e1] at h0; simp at h0
    | 1, h0 => simp at h0
    | n + 2, h0 => simp at h0
  refine ⟨⟨(hg.block r h.lt (fun e => a2 e.symm) a3).trans h.hr, h.len, ⟨h.row.1, fun _ => ⟨b, off, hb, fun i hi => ?_⟩⟩, h.nil, h.cap, h.pos, h.lim, h.shape⟩, fun b' o' he => ?_⟩
  · exact (World.cell?_of_block (a := ⟨b, off + i, none⟩) (hg.block b hblt hbq (hap b off hb))).trans (hc i hi)
  · rw [hb] at he
    simp only [Option.some.injEq, Addr.mk.injEq, and_true] at he
    obtain ⟨rfl, rfl⟩ := he
    rcases hg.moved with e1 | ⟨k, e1, hk⟩
    · rw [e1]; exact hap b off hb
    · rw [e1]; intro e2; have := Option.some.inj e2; omega
end Go.Proofs.YtfckmbdcfeljiaaDoor
