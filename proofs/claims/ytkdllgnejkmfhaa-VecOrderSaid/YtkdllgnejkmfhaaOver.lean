import Derived.Test.YtkdllgnejkmfhaaRefOne
namespace Go.Proofs.Ytkdllgnejkmfhaa
open Go.RowKit
set_option linter.unusedVariables false

theorem or_one (x : Int) (hx : 0 ≤ x) (hx' : x ≤ 9223372036854775807) : bits .or .u64 (x * 2) 1 = x * 2 + 1 := by
  obtain ⟨x, rfl⟩ := Int.eq_ofNat_of_zero_le hx
  have h := bits_or_u64_nat (x * 2) 1 (by omega) (by omega)
  have e := Nat.two_pow_add_eq_or_of_lt (i := 1) (b := 1) (by omega) x
  have e' : (x * 2 ||| 1) = x * 2 + 1 := by rw [Nat.mul_comm x 2]; exact e.symm
  rw [e'] at h
  rw [show (x : Int) * 2 = ((x * 2 : Nat) : Int) from by omega]
  exact h

/-- One bit more of the long division. -/
theorem over_step (X b t : Int) (hb : 0 < b) (hX : 0 ≤ X) (t0 : 0 ≤ t) (t1 : t ≤ 1) :
    (b ≤ X % b * 2 + t → (X * 2 + t) / b = X / b * 2 + 1 ∧ (X * 2 + t) % b = X % b * 2 + t - b) ∧
    (X % b * 2 + t < b → (X * 2 + t) / b = X / b * 2 ∧ (X * 2 + t) % b = X % b * 2 + t) := by
  have e := Int.mul_ediv_add_emod X b
  have m0 := Int.emod_nonneg X (by omega : b ≠ 0)
  have m1 := Int.emod_lt_of_pos X hb
  generalize X / b = Q at *
  generalize X % b = R at *
  refine ⟨fun h => ?_, fun h => ?_⟩
  · have k : X * 2 + t = (R * 2 + t - b) + (Q * 2 + 1) * b := by
      rw [Int.add_mul, Int.mul_assoc, Int.mul_comm 2 b, ← Int.mul_assoc, Int.mul_comm Q b]; omega
    rw [k, Int.add_mul_ediv_right _ _ (by omega), Int.add_mul_emod_self_right, Int.ediv_eq_zero_of_lt (by omega) (by omega), Int.emod_eq_of_lt (by omega) (by omega)]
    omega
  · have k : X * 2 + t = (R * 2 + t) + (Q * 2) * b := by
      rw [Int.mul_assoc, Int.mul_comm 2 b, ← Int.mul_assoc, Int.mul_comm Q b]; omega
    rw [k, Int.add_mul_ediv_right _ _ (by omega), Int.add_mul_emod_self_right, Int.ediv_eq_zero_of_lt (by omega) (by omega), Int.emod_eq_of_lt (by omega) (by omega)]
    omega

/-- The first 96 - k bits of a with 32 bits of nothing behind it. -/
def top (a : Int) (k : Nat) : Int := a * 4294967296 / 2 ^ k
theorem top_nonneg (a : Int) (k : Nat) (h : 0 ≤ a) : 0 ≤ top a k := Int.ediv_nonneg (by omega) (Int.pow_nonneg (by decide))
theorem top_step (a : Int) (j : Nat) : ∃ t, top a j = top a (j + 1) * 2 + t ∧ 0 ≤ t ∧ t ≤ 1 ∧ t = top a j % 2 := by
  have e : top a (j + 1) = top a j / 2 := by unfold top; rw [Int.pow_succ, Int.ediv_ediv_of_nonneg (Int.pow_nonneg (by decide))]
  exact ⟨top a j % 2, by rw [e]; omega, by omega, by omega, rfl⟩
theorem top_zero (a : Int) : top a 0 = a * 4294967296 := by unfold top; simp
theorem top_start (a : Int) (h : 0 ≤ a) (h' : a ≤ 18446744073709551615) : top a 96 = 0 := by unfold top; exact Int.ediv_eq_zero_of_lt (by omega) (by omega)
theorem top_low (a : Int) (j : Nat) (h : j < 32) : top a j % 2 = 0 := by
  have e : a * 4294967296 = a * 2 ^ (31 - j) * 2 * 2 ^ j := by
    rw [Int.mul_assoc, Int.mul_assoc]
    congr 1
    have : (4294967296 : Int) = 2 ^ (31 - j + 1 + j) := by rw [show 31 - j + 1 + j = 32 from by omega]; rfl
    rw [this, Int.pow_add, Int.pow_succ, Int.mul_assoc]
  unfold top
  rw [e, Int.mul_ediv_cancel _ (by have : (0 : Int) < 2 ^ j := Int.pow_pos (by decide); omega)]
  omega
theorem top_high (a : Int) (j : Nat) (h : 32 ≤ j) : top a j = a / 2 ^ (j - 32) := by
  unfold top
  have : (2 : Int) ^ j = 2 ^ (j - 32) * 4294967296 := by
    rw [show (4294967296 : Int) = 2 ^ 32 from by decide, ← Int.pow_add, show j - 32 + 32 = j from by omega]
  rw [this, Int.mul_ediv_mul_of_pos_left _ _ (by decide)]
/-- A quotient that is past the half at a bit ahead of the last is past the greatest number at the end. -/
theorem top_big (a b : Int) (j : Nat) (ha : 0 ≤ a) (hb : 0 < b) (h : 9223372036854775808 ≤ top a (j + 1) / b) : 18446744073709551615 < a * 4294967296 / b := by
  have p : (0 : Int) < 2 ^ j := Int.pow_pos (by decide)
  unfold top at h
  have h1 := (Int.le_ediv_iff_mul_le hb).1 h
  have h2 := (Int.le_ediv_iff_mul_le (by rw [Int.pow_succ]; omega)).1 h1
  have h3 : 18446744073709551616 * b ≤ a * 4294967296 := by
    have : 9223372036854775808 * b * 2 ^ (j + 1) = 18446744073709551616 * b * 2 ^ j := by rw [Int.pow_succ]; grind
    rw [this] at h2
    have : 18446744073709551616 * b * 1 ≤ 18446744073709551616 * b * 2 ^ j := Int.mul_le_mul_of_nonneg_left (by omega) (by omega)
    omega
  have := (Int.le_ediv_iff_mul_le hb).2 h3
  omega
theorem bit_one (x : Int) (hx : 0 ≤ x) (hx' : x ≤ 18446744073709551615) : bits .and .u64 x 1 = x % 2 := by
  obtain ⟨x, rfl⟩ := Int.eq_ofNat_of_zero_le hx
  have h := bits_and_u64_nat x 1 (by omega) (by omega)
  have e : x &&& 1 = x % 2 := Nat.and_one_is_mod x
  rw [e] at h
  exact h

def AtBit (a b : Int) (q rest i : Value) : Prop := ∃ k : Nat, k ≤ 96 ∧ i = .int .i64 (k - 1) ∧ q = .int .u64 (top a k / b) ∧ rest = .int .u64 (top a k % b) ∧ top a k / b ≤ 18446744073709551615

end Go.Proofs.Ytkdllgnejkmfhaa
