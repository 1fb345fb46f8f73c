import Derived.Test.YtflcnlefcnclkaaFHeights
import Derived.Laws.BitsAllLaws
import Derived.Laws.StructEq
import Derived.ChangeKeysEq
namespace Go.Proofs.Ytflcnlefcnclkaa
set_option linter.unusedVariables false
open Go.RowKit

theorem info_u64 : ∃ i, Try.prog.info? 61 = some i := by
  cases e : Try.prog.info? 61 with
  | none => exact absurd e (by decide +kernel)
  | some i => exact ⟨i, rfl⟩
theorem cells_u64 : Try.prog.cellsOf 61 = 1 := by kernel_rfl
theorem plain_u64 : Try.prog.plainKey 61 = true := by kernel_rfl
set_option maxRecDepth 100000 in
set_option linter.unusedSimpArgs false in
theorem eq_Sd (d c1 c2 b1 b2 : Nat) (w : World) : (Op.equalIn (d + 1 + 1) 63 (.agg #[.int .u64 (c1 : Int), .int .u64 (c2 : Int)]) (.agg #[.int .u64 (b1 : Int), .int .u64 (b2 : Int)])).run Try.prog w = .ok (decide ((c1, c2) = (b1, b2))) w := by
  obtain ⟨i0, hi⟩ := info_u64
  rw [Op.equalIn]
  simp only [Sem.run_bind, run_underlying Try.underlying63, Result.andThen_ok, run_sizeOf w hi, cells_u64, Nat.mul_one]
  have p0 : ∀ (x y : Value) (w : World), (part 61 #[x, y] 0).run Try.prog w = .ok x w := fun x y w => run_part_plain w plain_u64 rfl
  have p1 : ∀ (x y : Value) (w : World), (part 61 #[x, y] 1).run Try.prog w = .ok y w := fun x y w => run_part_plain w plain_u64 rfl
  have q : ∀ (a b : Int) (w : World), (Op.equalIn (d + 1) 61 (.int .u64 a) (.int .u64 b)).run Try.prog w = .ok (a == b) w := fun a b w => run_equalIn_int w d 61 .u64 _ a b Try.underlying61
  simp only [Std.Legacy.Range.forIn_eq_forIn_range', Std.Legacy.Range.size, List.range', List.forIn_cons, List.forIn_nil, Sem.run_bind, p0, p1, q, Result.andThen_ok]
  by_cases h1 : c1 = b1
  · subst h1
    by_cases h2 : c2 = b2
    · subst h2
      simp [p0, p1, q, List.range', Sem.run_bind]
    · have h3 : ((c2 : Int) == (b2 : Int)) = false := by simp; omega
      simp [h3, h2, p0, p1, q, List.range', Sem.run_bind]
  · have h3 : ((c1 : Int) == (b1 : Int)) = false := by simp; omega
    simp [h3, h1, p0, p1, q, List.range', Sem.run_bind]
theorem eq_S (c1 c2 b1 b2 : Nat) (w : World) : (Op.equalIn 10000 63 (.agg #[.int .u64 (c1 : Int), .int .u64 (c2 : Int)]) (.agg #[.int .u64 (b1 : Int), .int .u64 (b2 : Int)])).run Try.prog w = .ok (decide ((c1, c2) = (b1, b2))) w := eq_Sd 9998 c1 c2 b1 b2 w
end Go.Proofs.Ytflcnlefcnclkaa
