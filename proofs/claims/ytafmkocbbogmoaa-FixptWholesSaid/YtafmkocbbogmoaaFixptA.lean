/- Contracts of package fixpt's functions, and of bits.Add64, Mul64. -/
import Derived.Test.YtafmkocbbogmoaaRows
import Derived.Test.YtafmkocbbogmoaaShelf
import Derived.Test.YtafmkocbbogmoaaFixp
import Derived.Laws.Externs
import Derived.WalkKit
import Derived.WalkSpells
import Derived.WalkLawsBesides
import Derived.Outline
import Derived.Lib.Hide
namespace Go.Proofs.Ytafmkocbbogmoaa
open Go.RowKit
set_option linter.unusedVariables false

theorem ret_u64 {a b : Int} (h : a = b) : Ending.returned (.int .u64 a) = .returned (.int .u64 b) := by rw [h]
theorem ret_i64 {a b : Int} (h : a = b) : Ending.returned (.int .i64 a) = .returned (.int .i64 b) := by rw [h]

theorem add64_0 (x y : Int) (hx : 0 ≤ x) (hy : 0 ≤ y) (w : World) :
    (callFunc 25 #[.int .u64 x, .int .u64 y, .int .u64 0]).run Try.prog w =
    .ok (.value (.tuple #[.int .u64 ((x + y) % 18446744073709551616), .int .u64 ((x + y) / 18446744073709551616)])) w := by
  rw [run_callFunc_extern Try.func25 (by kernel_rfl) (by kernel_rfl) (by kernel_rfl) (e := add64Entry) (by kernel_rfl), run_add64 x y 0 hx hy (by omega) (by omega)]
  simp only [Result.andThen, Int.add_zero]

set_option maxHeartbeats 400000 in
theorem Add_any (a b : Int) (ha : 0 ≤ a) (ha' : a ≤ 18446744073709551615) (hb : 0 ≤ b) (hb' : b ≤ 18446744073709551615) (w : World) :
    Calls Try.prog 8 #[.int .u64 a, .int .u64 b] w fun e w' => e = .returned (.int .u64 (Fx.add a b)) ∧ w = w' := by
  by_cases h : a + b ≤ 18446744073709551615
  · have e1 : ((a + b) / 18446744073709551616 != 0) = false := by simp; omega
    have e2 : Fx.add a b = (a + b) % 18446744073709551616 := by unfold Fx.add Fx.cap; rw [if_pos h]; omega
    have E2 := Lib.hid e2; clear e2
    go_enter Try.func8, Try.ntmps8
    go_wp2_with (first | simp only [add64_0 a b ha hb] | go_in)
    go_ret
    exact ⟨ret_u64 E2.out.symm, rfl⟩
  · have e1 : ((a + b) / 18446744073709551616 != 0) = true := by simp; omega
    have e2 : Fx.add a b = 18446744073709551615 := by unfold Fx.add Fx.cap; rw [if_neg h]
    have E2 := Lib.hid e2; clear e2
    go_enter Try.func8, Try.ntmps8
    go_wp2_with (first | simp only [add64_0 a b ha hb] | go_in)
    go_ret
    exact ⟨ret_u64 E2.out.symm, rfl⟩

set_option maxHeartbeats 400000 in
theorem Sub_any (a b : Int) (ha : 0 ≤ a) (ha' : a ≤ 18446744073709551615) (hb : 0 ≤ b) (hb' : b ≤ 18446744073709551615) (w : World) :
    Calls Try.prog 10 #[.int .u64 a, .int .u64 b] w fun e w' => e = .returned (.int .u64 (Fx.sub a b)) ∧ w = w' := by
  by_cases h : a < b
  · go_enter Try.func10, Try.ntmps10
    go_wp2
    go_ret
    exact ⟨ret_u64 (by unfold Fx.sub; rw [if_pos h]), rfl⟩
  · go_enter Try.func10, Try.ntmps10
    go_wp2
    go_ret
    exact ⟨ret_u64 (by unfold Fx.sub; rw [if_neg (by omega)]), rfl⟩

set_option maxHeartbeats 400000 in
theorem Cmp_any (a b : Int) (ha : 0 ≤ a) (ha' : a ≤ 18446744073709551615) (hb : 0 ≤ b) (hb' : b ≤ 18446744073709551615) (w : World) :
    Calls Try.prog 12 #[.int .u64 a, .int .u64 b] w fun e w' => e = .returned (.int .i64 (Fx.cmp a b)) ∧ w = w' := by
  by_cases h : a < b
  · have h' : ¬ b < a := by omega
    go_enter Try.func12, Try.ntmps12
    go_wp2
    go_ret
    exact ⟨ret_i64 (by unfold Fx.cmp; (repeat' split) <;> omega), rfl⟩
  · by_cases h' : b < a
    · go_enter Try.func12, Try.ntmps12
      go_wp2
      go_ret
      exact ⟨ret_i64 (by unfold Fx.cmp; (repeat' split) <;> omega), rfl⟩
    · go_enter Try.func12, Try.ntmps12
      go_wp2
      go_ret
      exact ⟨ret_i64 (by unfold Fx.cmp; (repeat' split) <;> omega), rfl⟩

set_option maxHeartbeats 400000 in
theorem Floor_any (a : Int) (ha : 0 ≤ a) (ha' : a ≤ 18446744073709551615) (w : World) :
    Calls Try.prog 19 #[.int .u64 a] w fun e w' => e = .returned (.int .i64 (a / 4294967296)) ∧ w = w' := by
  go_enter Try.func19, Try.ntmps19
  go_wp2
  go_ret
  exact ⟨rfl, rfl⟩

set_option maxHeartbeats 400000 in
theorem fromZero_any (n : Int) (ha : -9223372036854775808 ≤ n) (ha' : n ≤ 9223372036854775807) (w : World) :
    Calls Try.prog 31 #[.int .i64 n] w fun e w' => e = .returned (.int .u64 (Fx.nonneg n)) ∧ w = w' := by
  by_cases h : n < 0
  · go_enter Try.func31, Try.ntmps31
    go_wp2
    go_ret
    exact ⟨ret_u64 (by unfold Fx.nonneg; (repeat' split) <;> omega), rfl⟩
  · go_enter Try.func31, Try.ntmps31
    go_wp2
    go_ret
    exact ⟨ret_u64 (by unfold Fx.nonneg; (repeat' split) <;> omega), rfl⟩

end Go.Proofs.Ytafmkocbbogmoaa
