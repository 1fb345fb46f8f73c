import Derived.Test.YthgnhdnmcjpdmaaGreatDoorPGOkToSCheckR
import Derived.Test.YthgnhdnmcjpdmaaGreatDoorPGDec12ToGDec14
namespace Go.Proofs.YthgnhdnmcjpdmaaGreatDoor
set_option linter.unusedVariables false
set_option maxRecDepth 100000
set_option maxHeartbeats 16000000
open Go.RowKit
theorem OkC.okd {g : GV} (h : OkC g) : OkD g := by
 have tl := h.tl
 have nl := h.nl
 have pl := h.pl
 have ll := h.ll
 have st := h.st
 refine ⟨fun s hs => Nat.le_trans (h.ts s hs) (by omega), fun s hs => Nat.le_trans (h.ns s hs) (by omega), by omega, fun q hq => ?_, fun q hq => ?_, by omega, by omega, by omega, by omega⟩
 ·obtain ⟨i, hi, rfl⟩ := getD_mem (d := PV.none) hq
  have l := h.left i hi
  have p := h.prec i hi
  have r := h.right i hi
  refine ⟨by omega, by omega, fun s hs => ?_, by omega⟩
  rcases inG_is (h.inG i hi s hs) with ⟨e, z⟩ | ⟨e, z⟩
  ·exact ⟨.inl e, by omega, by omega⟩
  ·exact ⟨.inr e, by omega, by omega⟩
 ·obtain ⟨i, hi, rfl⟩ := getD_mem (d := LV.none) hq
  obtain ⟨a, b, _⟩ := h.level i hi
  have t := h.terms i hi
  exact ⟨by omega, fun s hs => by have := b s hs; omega, by omega⟩
theorem flat_len {α : Type} (f : α -> List Int) (k : Nat) : ∀ l : List α, (∀ x ∈ l, (f x).length <= k) -> (l.flatMap f).length <= l.length * k
 | [], _ => by simp
 | a :: r, h => by
  have h1 := h a (by simp)
  have h2 := flat_len f k r (fun x hx => h x (by simp [hx]))
  simp only [List.flatMap_cons, List.length_append, List.length_cons, Nat.add_mul, Nat.one_mul]
  omega
theorem encL_len {α : Type} (f : α -> List Int) (k : Nat) (l : List α) (h : ∀ x ∈ l, (f x).length <= k) : (encL f l).length <= 10 + l.length * k := by
 have h1 := C.enc_len 10 (l.length : Int)
 have h2 := flat_len f k l h
 simp only [encL, List.length_append]
 omega
theorem OkC.enc_len {g : GV} (h : OkC g) : (encG g).length <= 16777216 := by
 have tl := h.tl
 have nl := h.nl
 have pl := h.pl
 have ll := h.ll
 have e1 := encL_len encS 42 g.ts (fun s hs => by
  have := h.ts s hs
  have := C.enc_len 10 (s.size : Int)
  have := C.strBytes_len s
  simp only [encS, List.length_append]; omega)
 have e2 := encL_len encS 42 g.ns (fun s hs => by
  have := h.ns s hs
  have := C.enc_len 10 (s.size : Int)
  have := C.strBytes_len s
  simp only [encS, List.length_append]; omega)
 have e3 := C.enc_len 10 g.start
 have e4 := encL_len encP 190 g.ps (fun q hq => by
  obtain ⟨i, hi, rfl⟩ := getD_mem (d := PV.none) hq
  have r := h.right i hi
  have a1 := C.enc_len 10 (g.ps.getD i .none).left
  have a2 := encL_len encY 10 (g.ps.getD i .none).right (fun s _ => C.enc_len 10 _)
  have a3 := C.enc_len 10 (C.foldS (g.ps.getD i .none).prec)
  simp only [encP, List.length_append]; omega)
 have e5 := encL_len encV 660 g.ls (fun q hq => by
  obtain ⟨i, hi, rfl⟩ := getD_mem (d := LV.none) hq
  have r := h.terms i hi
  have a1 := C.enc_len 10 (g.ls.getD i .none).assoc
  have a2 := encL_len encI 10 (g.ls.getD i .none).terms (fun s _ => C.enc_len 10 _)
  simp only [encV, List.length_append]; omega)
 simp only [encG, List.length_append]
 omega
theorem OkC.okg {g : GV} (h : OkC g) : OkG g := by
 have tl := h.tl
 have nl := h.nl
 have st := h.st
 refine ⟨fun s hs => Nat.le_trans (h.ts s hs) (by omega), fun s hs => Nat.le_trans (h.ns s hs) (by omega), by omega, fun q hq => ?_, fun q hq => ?_, h.enc_len⟩
 ·obtain ⟨i, hi, rfl⟩ := getD_mem (d := PV.none) hq
  have l := h.left i hi
  have p := h.prec i hi
  have r := h.right i hi
  refine ⟨by omega, by omega, by omega, fun s hs => ?_⟩
  rcases inG_is (h.inG i hi s hs) with ⟨e, z⟩ | ⟨e, z⟩
  ·omega
  ·omega
 ·obtain ⟨i, hi, rfl⟩ := getD_mem (d := LV.none) hq
  obtain ⟨a, b, _⟩ := h.level i hi
  have t := h.terms i hi
  exact ⟨by omega, by omega, fun s hs => by have := b s hs; omega⟩
theorem gframe_len (k : Int) (xs : List Int) : (C.frame k xs).length <= xs.length + 100 := by
 have := C.enc_len 10 (xs.length : Int)
 simp [C.frame, C.lead, C.headBytes, C.sumBytes]
 omega
end Go.Proofs.YthgnhdnmcjpdmaaGreatDoor
