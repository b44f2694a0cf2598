import Derived.Test.YtkdllgnejkmfhaaFixptB
import Derived.LoopTactic
namespace Go.Proofs.Ytkdllgnejkmfhaa
open Go.RowKit
set_option linter.unusedVariables false

/-- The school's product of halves. -/
theorem halves (a1 a0 b1 b0 : Int) : (a1 * 4294967296 + a0) * (b1 * 4294967296 + b0) = (a1 * b1 * 4294967296 + a1 * b0 + a0 * b1) * 4294967296 + a0 * b0 := by
  grind

theorem small_mul (a b : Int) (ha : 0 ≤ a) (ha' : a ≤ 4294967295) (hb : 0 ≤ b) (hb' : b ≤ 4294967295) : 0 ≤ a * b ∧ a * b ≤ 18446744065119617025 := by
  refine ⟨Int.mul_nonneg ha hb, ?_⟩
  have := Int.mul_le_mul ha' hb' hb (by decide : (0 : Int) ≤ 4294967295)
  simpa using this

theorem mul_parts (a b : Int) (ha : 0 ≤ a) (hb : 0 ≤ b) :
    Fx.mul a b = Fx.cap (a / 4294967296 * (b / 4294967296) * 4294967296 + a / 4294967296 * (b % 4294967296) + a % 4294967296 * (b / 4294967296) + a % 4294967296 * (b % 4294967296) / 4294967296) := by
  unfold Fx.mul
  congr 1
  have ea : a = a / 4294967296 * 4294967296 + a % 4294967296 := by omega
  have eb : b = b / 4294967296 * 4294967296 + b % 4294967296 := by omega
  conv => lhs; rw [ea, eb]
  rw [halves]
  omega

theorem add_add (x y : Int) (hx : 0 ≤ x) (hy : 0 ≤ y) : Fx.add (Fx.cap x) y = Fx.cap (x + y) := by unfold Fx.add Fx.cap; (repeat' split) <;> omega

theorem most_over (a1 b1 : Int) (h1 : 0 < b1) (h : 18446744073709551615 / b1 / 4294967296 < a1) : 4294967296 ≤ a1 * b1 := by
  have := (Int.lt_mul_of_ediv_lt (by omega : 0 < b1 * 4294967296) (by rw [← Int.ediv_ediv_of_nonneg (by omega)]; exact h) : 18446744073709551615 < a1 * (b1 * 4294967296))
  rw [← Int.mul_assoc] at this
  omega
theorem most_range (b1 : Int) (h1 : 0 < b1) : 0 ≤ 18446744073709551615 / b1 ∧ 18446744073709551615 / b1 ≤ 18446744073709551615 ∧ 0 ≤ 18446744073709551615 / b1 / 4294967296 := by
  have h := Int.ediv_nonneg (by decide : (0 : Int) ≤ 18446744073709551615) (by omega : 0 ≤ b1)
  have h' := Int.ediv_le_self b1 (by decide : (0 : Int) ≤ 18446744073709551615)
  exact ⟨h, h', by omega⟩
theorem mul_big (a1 a0 b1 b0 : Int) (h : 4294967296 ≤ a1 * b1) (g1 : 0 ≤ a1) (p2 : 0 ≤ a1 * b0) (p3 : 0 ≤ a0 * b1) (p4 : 0 ≤ a0 * b0) :
    Fx.cap (a1 * b1 * 4294967296 + a1 * b0 + a0 * b1 + a0 * b0 / 4294967296) = 18446744073709551615 := Fx.cap_out _ (by omega)
theorem mul_low (p q r s : Int) (hp : 0 ≤ p) (hq : 0 ≤ q) (hr : 0 ≤ r) (hs : 0 ≤ s) : Fx.add (Fx.add (Fx.add p q) r) s = Fx.cap (p + q + r + s) := by
  have e : Fx.add p q = Fx.cap (p + q) := rfl
  rw [e, add_add _ _ (by omega) hr, add_add _ _ (by omega) hs]
theorem add_most (s : Int) (hs : 0 ≤ s) : Fx.add 18446744073709551615 s = 18446744073709551615 := by unfold Fx.add Fx.cap; split <;> omega

end Go.Proofs.Ytkdllgnejkmfhaa
