/- Contracts of package fixpt's functions, and of bits.Add64, Mul64. -/
import Derived.Test.YtkdllgnejkmfhaaRows
import Derived.Test.YtkdllgnejkmfhaaShelf
import Derived.Test.YtkdllgnejkmfhaaFixp
import Derived.Laws.Externs
import Derived.WalkKit
import Derived.WalkSpells
import Derived.WalkLawsBesides
import Derived.Outline
import Derived.Lib.Hide
namespace Go.Proofs.Ytkdllgnejkmfhaa
open Go.RowKit
set_option linter.unusedVariables false

theorem ret_u64 {a b : Int} (h : a = b) : Ending.returned (.int .u64 a) = .returned (.int .u64 b) := by rw [h]
theorem ret_i64 {a b : Int} (h : a = b) : Ending.returned (.int .i64 a) = .returned (.int .i64 b) := by rw [h]

set_option maxHeartbeats 400000 in
theorem fromZero_any (n : Int) (ha : -9223372036854775808 ≤ n) (ha' : n ≤ 9223372036854775807) (w : World) :
    Calls Try.prog 38 #[.int .i64 n] w fun e w' => e = .returned (.int .u64 (Fx.nonneg n)) ∧ w = w' := by
  by_cases h : n < 0
  · go_enter Try.func38, Try.ntmps38
    go_wp2
    go_ret
    exact ⟨ret_u64 (by unfold Fx.nonneg; (repeat' split) <;> omega), rfl⟩
  · go_enter Try.func38, Try.ntmps38
    go_wp2
    go_ret
    exact ⟨ret_u64 (by unfold Fx.nonneg; (repeat' split) <;> omega), rfl⟩

end Go.Proofs.Ytkdllgnejkmfhaa
