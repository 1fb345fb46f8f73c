import Derived.Test.YtmkakdfdfdcncaaGreatDoorGE9
import Derived.Test.YtmkakdfdfdcncaaGreatDoorGOk2
namespace Go.Proofs.YtmkakdfdfdcncaaGreatDoor
set_option linter.unusedVariables false
open Go.RowKit

theorem endS_bd {zs : List Int} {P : Nat} {E ee ea : Int} (hP : P ≤ zs.length) (h : C.endS zs P E = (ee, ea)) : 0 ≤ ea ∧ ea ≤ zs.length ∧ (ee = 0 → E = 0 ∧ P = zs.length ∧ ea = 0) := by
  unfold C.endS at h
  by_cases h1 : E ≠ 0
  · rw [if_pos h1] at h
    simp only [Prod.mk.injEq] at h
    obtain ⟨rfl, rfl⟩ := h
    exact ⟨by omega, by omega, fun e => absurd e h1⟩
  rw [if_neg h1] at h
  by_cases h2 : P < zs.length
  · rw [if_pos h2] at h
    simp only [Prod.mk.injEq] at h
    obtain ⟨rfl, rfl⟩ := h
    exact ⟨by omega, by omega, fun e => by simp at e⟩
  rw [if_neg h2] at h
  simp only [Prod.mk.injEq] at h
  obtain ⟨rfl, rfl⟩ := h
  exact ⟨by omega, by omega, fun _ => ⟨by simpa using h1, by omega, rfl⟩⟩
theorem dec_any (w : World) (ao : Option Addr) (N cap : Nat) (xs : List Int) (hN : N = xs.length) (hl : xs.length ≤ 140737488355328) (hcap : xs.length ≤ cap) (hr : C.RowAt w ao xs) (hm : C.Magic w) :
    Calls Tryz.prog 21 #[.slice ao N cap] w fun e w' => ∃ y : GV, e = .returned (.tuple #[y.val, .int .i64 (decE xs).1, .int .i64 (decE xs).2]) ∧ Below w.heap.size w w' ∧ ((decE xs).1 ≠ 0 → y = gVoid) ∧ ((decE xs).1 = 0 → y.core = (decG xs).1 ∧ DG w.heap.size w' y) := by
  obtain ⟨zs, oe, oa, hF⟩ : ∃ zs oe oa, C.openS 1 xs = (zs, oe, oa) := ⟨_, _, _, rfl⟩
  by_cases h0 : oe = 0
  · subst h0
    obtain ⟨_, hzl, hbz, _⟩ := C.frame_open 1 xs hr.1 zs oa hF
    obtain ⟨gc, P, E, hG⟩ : ∃ gc P E, grS zs 0 0 = (gc, P, E) := ⟨_, _, _, rfl⟩
    obtain ⟨ee, ea, hEn⟩ : ∃ ee ea, C.endS zs P E = (ee, ea) := ⟨_, _, rfl⟩
    have hP : P ≤ zs.length := by have := ((rd_gr hbz).mono 0 0 (Nat.zero_le _)).2; rw [hG] at this; exact this
    obtain ⟨b1, b2, _⟩ := endS_bd hP hEn
    have dG : decG xs = (gc, P, E) := by rw [decG, hF]; exact hG
    have dN : decN xs = (ee, ea) := by rw [decN, hF, dG]; exact hEn
    have dB : decB xs = (N : Int) - 4 - (zs.length : Int) := by rw [decB, hF, hN]
    by_cases h1 : ee = 0
    · subst h1
      obtain ⟨ck, at_, hC⟩ : ∃ ck at_, checkG (coreV gc) (checkF (coreV gc).ts (coreV gc).ns) = (ck, at_) := ⟨_, _, rfl⟩
      have dC : ckC gc = ck := by rw [ckC, hC]
      by_cases h2 : ck = 0
      · subst h2
        have dE : decE xs = (0, 0) := by rw [decE, hF, dN, dG, dC]; simp
        rw [dE, dG]
        refine (dec_fin w ao N cap xs hN hl hcap hr hm zs oa hF gc P E hG ea hEn at_ hC).mono ?_
        rintro e w' ⟨y, rfl, hc, hd, hb⟩
        exact ⟨y, rfl, hb, fun h => absurd rfl h, fun _ => ⟨hc, hd⟩⟩
      · have dE : decE xs = (ck, (N : Int) - 4 - (zs.length : Int)) := by rw [decE, hF, dN, dG, dC, dB]; simp [h2]
        rw [dE]
        refine (dec_chk w ao N cap xs hN hl hcap hr hm zs oa hF gc P E hG ea hEn ck at_ hC h2).mono ?_
        rintro e w' ⟨rfl, hb⟩
        exact ⟨gVoid, rfl, hb, fun _ => rfl, fun h => absurd h h2⟩
    · have dE : decE xs = (ee, (N : Int) - 4 - (zs.length : Int) + ea) := by rw [decE, hF, dN, dB]; simp [h1]
      rw [dE]
      refine (dec_end w ao N cap xs hN hl hcap hr hm zs oa hF gc P E hG ee ea hEn h1 ⟨b1, by omega⟩).mono ?_
      rintro e w' ⟨rfl, hb⟩
      exact ⟨gVoid, rfl, hb, fun _ => rfl, fun h => absurd h h1⟩
  · have dE : decE xs = (oe, oa) := by rw [decE, hF]; simp [h0]
    rw [dE]
    refine (dec_open w ao N cap xs hN hl hcap hr hm zs oe oa hF h0).mono ?_
    rintro e w' ⟨rfl, hb⟩
    exact ⟨gVoid, rfl, hb, fun _ => rfl, fun h => absurd h h0⟩
theorem frame_ge (k : Int) (xs : List Int) : xs.length + 4 ≤ (C.frame k xs).length := by
  simp [C.frame, C.lead, C.headBytes, C.sumBytes]
  omega
/-- The place of an error lies within the bytes. -/
theorem dec_place (xs : List Int) (hb : C.isBytes xs) (h : (decE xs).1 ≠ 0) : 0 ≤ (decE xs).2 ∧ (decE xs).2 ≤ xs.length := by
  obtain ⟨zs, oe, oa, hF⟩ : ∃ zs oe oa, C.openS 1 xs = (zs, oe, oa) := ⟨_, _, _, rfl⟩
  by_cases h0 : oe = 0
  · subst h0
    obtain ⟨hfr, hzl, hbz, _⟩ := C.frame_open 1 xs hb zs oa hF
    have hge := frame_ge 1 zs
    rw [hfr] at hge
    obtain ⟨gc, P, E, hG⟩ : ∃ gc P E, grS zs 0 0 = (gc, P, E) := ⟨_, _, _, rfl⟩
    obtain ⟨ee, ea, hEn⟩ : ∃ ee ea, C.endS zs P E = (ee, ea) := ⟨_, _, rfl⟩
    have hP : P ≤ zs.length := by have := ((rd_gr hbz).mono 0 0 (Nat.zero_le _)).2; rw [hG] at this; exact this
    obtain ⟨b1, b2, _⟩ := endS_bd hP hEn
    have dG : decG xs = (gc, P, E) := by rw [decG, hF]; exact hG
    have dN : decN xs = (ee, ea) := by rw [decN, hF, dG]; exact hEn
    have dB : decB xs = (xs.length : Int) - 4 - (zs.length : Int) := by rw [decB, hF]
    by_cases h1 : ee = 0
    · subst h1
      by_cases h2 : ckC gc = 0
      · have dE : decE xs = (0, 0) := by rw [decE, hF, dN, dG, h2]; simp
        rw [dE] at h; exact absurd rfl h
      · have dE : decE xs = (ckC gc, (xs.length : Int) - 4 - (zs.length : Int)) := by rw [decE, hF, dN, dG, dB]; simp [h2]
        rw [dE]; show 0 ≤ (xs.length : Int) - 4 - (zs.length : Int) ∧ _ ≤ _; omega
    · have dE : decE xs = (ee, (xs.length : Int) - 4 - (zs.length : Int) + ea) := by rw [decE, hF, dN, dB]; simp [h1]
      rw [dE]; show 0 ≤ (xs.length : Int) - 4 - (zs.length : Int) + ea ∧ _ ≤ _; omega
  · have dE : decE xs = (oe, oa) := by rw [decE, hF]; simp [h0]
    have := C.open_err 1 xs hb (by rw [hF]; exact h0)
    rw [hF] at this
    rw [dE]; exact ⟨this.2.1, this.2.2⟩
/-- What Decode takes is a grammar that may be, and its bytes. -/
theorem dec_good (xs : List Int) (hb : C.isBytes xs) (h : (decE xs).1 = 0) (y : GV) (hy : y.core = (decG xs).1) : (decE xs).2 = 0 ∧ C.frame 1 (encG y) = xs ∧ ∃ at_, checkG y (checkF y.ts y.ns) = (0, at_) := by
  obtain ⟨zs, oe, oa, hF⟩ : ∃ zs oe oa, C.openS 1 xs = (zs, oe, oa) := ⟨_, _, _, rfl⟩
  by_cases h0 : oe = 0
  · subst h0
    obtain ⟨hfr, hzl, hbz, _⟩ := C.frame_open 1 xs hb zs oa hF
    obtain ⟨gc, P, E, hG⟩ : ∃ gc P E, grS zs 0 0 = (gc, P, E) := ⟨_, _, _, rfl⟩
    obtain ⟨ee, ea, hEn⟩ : ∃ ee ea, C.endS zs P E = (ee, ea) := ⟨_, _, rfl⟩
    have hP : P ≤ zs.length := by have := ((rd_gr hbz).mono 0 0 (Nat.zero_le _)).2; rw [hG] at this; exact this
    obtain ⟨b1, b2, b3⟩ := endS_bd hP hEn
    have dG : decG xs = (gc, P, E) := by rw [decG, hF]; exact hG
    have dN : decN xs = (ee, ea) := by rw [decN, hF, dG]; exact hEn
    by_cases h1 : ee = 0
    · subst h1
      obtain ⟨rfl, rfl, rfl⟩ := b3 rfl
      by_cases h2 : ckC gc = 0
      · have dE : decE xs = (0, 0) := by rw [decE, hF, dN, dG, h2]; simp
        rw [dG] at hy
        have hk := (rd_gr hbz).ok 0 (Nat.zero_le _) (by rw [hG])
        rw [hG] at hk
        have hz : zs = encG y := by
          rw [← encG_core, hy]
          simpa using hk
        refine ⟨by rw [dE], by rw [← hz]; exact hfr, ?_⟩
        have hs := same_check (same_coreV hy)
        obtain ⟨ck, at_, hC⟩ : ∃ ck at_, checkG (coreV gc) (checkF (coreV gc).ts (coreV gc).ns) = (ck, at_) := ⟨_, _, rfl⟩
        rw [ckC, hC] at h2
        simp only at h2
        subst h2
        exact ⟨at_, hs.trans hC⟩
      · have dE : (decE xs).1 = ckC gc := by rw [decE, hF, dN, dG]; simp [h2]
        rw [dE] at h; exact absurd h h2
    · have dE : (decE xs).1 = ee := by rw [decE, hF, dN]; simp [h1]
      rw [dE] at h; exact absurd h h1
  · have dE : decE xs = (oe, oa) := by rw [decE, hF]; simp [h0]
    rw [dE] at h; exact absurd h h0
end Go.Proofs.YtmkakdfdfdcncaaGreatDoor
