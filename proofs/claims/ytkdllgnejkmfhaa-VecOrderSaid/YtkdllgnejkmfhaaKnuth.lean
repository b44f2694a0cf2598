/- The school's division of two words by one, digit by digit: plain arithmetic. -/
namespace Go.Proofs.Ytkdllgnejkmfhaa
namespace Fx

/-- What a digit's loop holds: q is no less than the digit of u * B + d by y1 * B + y0, and r is what is left of u. -/
structure Dig (y1 y0 u d q r : Int) : Prop where
  q0 : 0 ≤ q
  qle : q ≤ 4294967297
  r0 : 0 ≤ r
  req : r = u - q * y1
  up : (u * 4294967296 + d) / (y1 * 4294967296 + y0) ≤ q

theorem dig_pos (y1 y0 : Int) (h1 : 2147483648 ≤ y1) (h0 : 0 ≤ y0) : 0 < y1 * 4294967296 + y0 := by omega

theorem dig_start (y1 y0 u d : Int) (h1 : 2147483648 ≤ y1) (h0 : 0 ≤ y0) (h0' : y0 ≤ 4294967295) (hd : 0 ≤ d) (hd' : d ≤ 4294967295)
    (hu : 0 ≤ u) (hu' : u < y1 * 4294967296 + y0) : Dig y1 y0 u d (u / y1) (u - u / y1 * y1) ∧ u - u / y1 * y1 < y1 := by
  have hp : 0 < y1 := by omega
  have e := Int.mul_ediv_add_emod u y1
  have m0 := Int.emod_nonneg u (by omega : y1 ≠ 0)
  have m1 := Int.emod_lt_of_pos u hp
  have c : u / y1 * y1 = y1 * (u / y1) := Int.mul_comm _ _
  refine ⟨⟨Int.ediv_nonneg hu (by omega), ?_, by omega, rfl, ?_⟩, by omega⟩
  · have : u / y1 < 4294967298 := Int.ediv_lt_of_lt_mul hp (by omega)
    omega
  · have k : u < (u / y1 + 1) * y1 := by rw [Int.add_mul]; omega
    have hn : u * 4294967296 + d < (u / y1 + 1) * (y1 * 4294967296 + y0) := by
      have a : (u / y1 + 1) * (y1 * 4294967296 + y0) = (u / y1 + 1) * y1 * 4294967296 + (u / y1 + 1) * y0 := by
        rw [Int.mul_add, Int.mul_assoc]
      have b : 0 ≤ (u / y1 + 1) * y0 := Int.mul_nonneg (by have := Int.ediv_nonneg hu (by omega : 0 ≤ y1); omega) h0
      rw [a]; omega
    have := Int.ediv_lt_of_lt_mul (dig_pos y1 y0 h1 h0) hn
    omega

/-- Where the test holds the digit is less. -/
theorem dig_step (y1 y0 u d q r : Int) (h1 : 2147483648 ≤ y1) (h0 : 0 ≤ y0) (hd : 0 ≤ d) (hd' : d ≤ 4294967295) (hu : 0 ≤ u)
    (hu' : u < y1 * 4294967296 + y0) (h : Dig y1 y0 u d q r) (ht : 4294967296 ≤ q ∨ 4294967296 * r + d < q * y0) :
    Dig y1 y0 u d (q - 1) (r + y1) ∧ 1 ≤ q ∧ q - 1 ≤ 4294967296 := by
  obtain ⟨a, b, c, e, f⟩ := h
  have hp := dig_pos y1 y0 h1 h0
  have lt : (u * 4294967296 + d) / (y1 * 4294967296 + y0) < q := by
    rcases ht with ht | ht
    · have : (u * 4294967296 + d) / (y1 * 4294967296 + y0) < 4294967296 := Int.ediv_lt_of_lt_mul hp (by omega)
      omega
    · refine Int.ediv_lt_of_lt_mul hp ?_
      have : q * (y1 * 4294967296 + y0) = q * y1 * 4294967296 + q * y0 := by rw [Int.mul_add, Int.mul_assoc]
      rw [this]; omega
  have nn : 0 ≤ (u * 4294967296 + d) / (y1 * 4294967296 + y0) := Int.ediv_nonneg (by omega) (by omega)
  exact ⟨⟨by omega, by omega, by omega, by rw [Int.sub_mul]; omega, by omega⟩, by omega, by omega⟩

/-- Where the test does not hold, or what is left is past a digit, q is the digit. -/
theorem dig_end (y1 y0 u d q r : Int) (h1 : 2147483648 ≤ y1) (h0 : 0 ≤ y0) (h0' : y0 ≤ 4294967295) (hd : 0 ≤ d) (h : Dig y1 y0 u d q r)
    (ht : (q ≤ 4294967295 ∧ q * y0 ≤ 4294967296 * r + d) ∨ (q ≤ 4294967296 ∧ 4294967296 ≤ r)) :
    q = (u * 4294967296 + d) / (y1 * 4294967296 + y0) := by
  obtain ⟨a, b, c, e, f⟩ := h
  have hp := dig_pos y1 y0 h1 h0
  have le : q * y0 ≤ 4294967296 * r + d := by
    rcases ht with ht | ht
    · exact ht.2
    · have : q * y0 ≤ 4294967296 * y0 := Int.mul_le_mul_of_nonneg_right ht.1 h0
      omega
  have : q ≤ (u * 4294967296 + d) / (y1 * 4294967296 + y0) := by
    refine (Int.le_ediv_iff_mul_le hp).2 ?_
    have : q * (y1 * 4294967296 + y0) = q * y1 * 4294967296 + q * y0 := by rw [Int.mul_add, Int.mul_assoc]
    rw [this]; omega
  omega

/-- What is left behind a digit. -/
theorem dig_rest (y u d : Int) (hp : 0 < y) : 0 ≤ u * 4294967296 + d - (u * 4294967296 + d) / y * y ∧ u * 4294967296 + d - (u * 4294967296 + d) / y * y < y := by
  have e := Int.mul_ediv_add_emod (u * 4294967296 + d) y
  have m0 := Int.emod_nonneg (u * 4294967296 + d) (by omega : y ≠ 0)
  have m1 := Int.emod_lt_of_pos (u * 4294967296 + d) hp
  have c : (u * 4294967296 + d) / y * y = y * ((u * 4294967296 + d) / y) := Int.mul_comm _ _
  omega
theorem dig_lt (y u d : Int) (hu : 0 ≤ u) (hu' : u < y) (hd : 0 ≤ d) (hd' : d ≤ 4294967295) :
    0 ≤ (u * 4294967296 + d) / y ∧ (u * 4294967296 + d) / y ≤ 4294967295 := by
  have : (u * 4294967296 + d) / y < 4294967296 := Int.ediv_lt_of_lt_mul (by omega) (by omega)
  exact ⟨Int.ediv_nonneg (by omega) (by omega), by omega⟩

/-- Two digits are the whole. -/
theorem dig_two (y u d1 d0 : Int) (hp : 0 < y) :
    (u * 4294967296 + d1) / y * 4294967296 + ((u * 4294967296 + d1 - (u * 4294967296 + d1) / y * y) * 4294967296 + d0) / y
      = (u * 18446744073709551616 + d1 * 4294967296 + d0) / y := by
  generalize (u * 4294967296 + d1) / y = q
  have : u * 18446744073709551616 + d1 * 4294967296 + d0 = (u * 4294967296 + d1 - q * y) * 4294967296 + d0 + q * 4294967296 * y := by
    have e : q * 4294967296 * y = q * y * 4294967296 := by rw [Int.mul_assoc, Int.mul_comm 4294967296 y, ← Int.mul_assoc]
    rw [e]; omega
  rw [this, Int.add_mul_ediv_right _ _ (by omega)]
  omega

end Fx
end Go.Proofs.Ytkdllgnejkmfhaa
