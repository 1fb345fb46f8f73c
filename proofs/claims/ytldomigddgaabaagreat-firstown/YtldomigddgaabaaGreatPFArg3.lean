import Derived.Test.YtldomigddgaabaaGreatPGBulkToFBulk
namespace Go.Proofs.YtldomigddgaabaaGreat
set_option linter.unusedVariables false
set_option maxRecDepth 100000
set_option maxHeartbeats 16000000
open Go.ChangeShapes Go.WideShapes Go.ChangeAt Go.RowKit
theorem open_syms {H : Type} {enc : TypeId × Value -> H} {W : World} {base : Nat} {v : Value} {d : DataW H} {p : List MemPlace} (hv : Value.okWide Tryz.prog W .any base 27 v)
  (h : DataW.Trod enc Tryz.prog W 0 (fun _ => true) true 27 v d p) :
  ∃ (a : Option Addr) (cap : Nat) (l : List (Int × Int)), v = .slice a l.length cap /\ SymRow W a l /\ True /\ LD l.length d := by
 obtain ⟨a0, len0, cap0, rfl⟩ := okWide_slice Tryz.underlying27 hv
 obtain ⟨fuel, hf⟩ := h
 obtain ⟨a, cap, l, hcs, h1, h2⟩ := osyms hf
 simp only [Value.cells, List.cons.injEq, and_true] at hcs
 exact ⟨a, cap, l, hcs, h1, trivial, h2⟩
theorem syms_reach {H : Type} {ts : List TypeId} {ds : List (DataW H)} (hs : (DataW.weightsEach Tryz.prog ts ds).all (· <= reachBytes) = true) {j : Nat} {d : DataW H} {n : Nat} (ht : ts[j]? = some 27) (hd : ds[j]? = some d) (h : LD n d) : n <= 140737488355328 := by
 refine ld_weight Tryz.underlying27 (by decide +kernel) h fun k hk => ?_
 have := List.all_eq_true.1 hs k (DataW.weights_mem_each ht hd k hk)
 simpa using this
end Go.Proofs.YtldomigddgaabaaGreat
