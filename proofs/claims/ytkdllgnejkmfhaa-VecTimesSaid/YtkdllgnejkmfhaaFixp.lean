/- Plain arithmetic of numbers with 32 bits behind the point: no program in sight. -/
namespace Go.Proofs.Ytkdllgnejkmfhaa
namespace Fx

/-- At most the greatest number. -/
def cap (n : Int) : Int := if n ≤ 18446744073709551615 then n else 18446744073709551615
def add (a b : Int) : Int := cap (a + b)
def sub (a b : Int) : Int := if a < b then 0 else a - b
def mul (a b : Int) : Int := cap (a * b / 4294967296)
def quo (a b : Int) : Int := if a = 0 then 0 else if b = 0 then 18446744073709551615 else cap (a * 4294967296 / b)
def ofInt (n : Int) : Int := if n < 0 then 0 else cap (n * 4294967296)
def nonneg (n : Int) : Int := if n < 0 then 0 else n
def ratio (a b : Int) : Int := quo (nonneg a) (nonneg b)
def sel (c : Bool) (a b : Int) : Int := if c then a else b
def cmp (a b : Int) : Int := if a < b then -1 else if b < a then 1 else 0

theorem cap_le (n : Int) : cap n ≤ 18446744073709551615 := by unfold cap; split <;> omega
theorem cap_nonneg (n : Int) (h : 0 ≤ n) : 0 ≤ cap n := by unfold cap; split <;> omega
theorem cap_mono (a b : Int) (h : a ≤ b) : cap a ≤ cap b := by unfold cap; split <;> split <;> omega
theorem cap_in (a : Int) (h : a ≤ 18446744073709551615) : cap a = a := by unfold cap; rw [if_pos h]
theorem cap_out (a : Int) (h : 18446744073709551615 < a) : cap a = 18446744073709551615 := by unfold cap; rw [if_neg (by omega)]

theorem add_range (a b : Int) (ha : 0 ≤ a) (hb : 0 ≤ b) : 0 ≤ add a b ∧ add a b ≤ 18446744073709551615 := ⟨cap_nonneg _ (by omega), cap_le _⟩
theorem sub_range (a b : Int) (ha' : a ≤ 18446744073709551615) (hb : 0 ≤ b) : 0 ≤ sub a b ∧ sub a b ≤ 18446744073709551615 := by unfold sub; split <;> omega
theorem mul_range (a b : Int) (ha : 0 ≤ a) (hb : 0 ≤ b) : 0 ≤ mul a b ∧ mul a b ≤ 18446744073709551615 := by
  refine ⟨cap_nonneg _ ?_, cap_le _⟩
  have := Int.mul_nonneg ha hb
  omega
theorem quo_range (a b : Int) (ha : 0 ≤ a) (hb : 0 ≤ b) : 0 ≤ quo a b ∧ quo a b ≤ 18446744073709551615 := by
  unfold quo
  split
  · omega
  split
  · omega
  · exact ⟨cap_nonneg _ (Int.ediv_nonneg (by omega) hb), cap_le _⟩
theorem nonneg_range (n : Int) (h : n ≤ 9223372036854775807) : 0 ≤ nonneg n ∧ nonneg n ≤ 9223372036854775807 := by unfold nonneg; split <;> omega
theorem ofInt_range (n : Int) : 0 ≤ ofInt n ∧ ofInt n ≤ 18446744073709551615 := by
  unfold ofInt; split
  · omega
  · exact ⟨cap_nonneg _ (by omega), cap_le _⟩

theorem add_comm (a b : Int) : add a b = add b a := by unfold add; rw [Int.add_comm]
theorem mul_comm (a b : Int) : mul a b = mul b a := by unfold mul; rw [Int.mul_comm]
theorem mul_one (a : Int) (h : a ≤ 18446744073709551615) : mul a 4294967296 = a := by
  unfold mul; rw [Int.mul_ediv_cancel _ (by decide), cap_in _ h]
theorem one_mul (a : Int) (h : a ≤ 18446744073709551615) : mul 4294967296 a = a := by rw [mul_comm, mul_one a h]
theorem quo_one (a : Int) (h : a ≤ 18446744073709551615) : quo a 4294967296 = a := by
  unfold quo
  split
  · omega
  · rw [if_neg (by decide), Int.mul_ediv_cancel _ (by decide), cap_in _ h]

theorem add_mono (a b c : Int) (h : a ≤ b) : add a c ≤ add b c := cap_mono _ _ (by omega)
theorem sub_mono (a b c : Int) (h : a ≤ b) : sub a c ≤ sub b c := by unfold sub; split <;> split <;> omega
theorem mul_mono (a b c : Int) (h : a ≤ b) (hc : 0 ≤ c) : mul a c ≤ mul b c := by
  refine cap_mono _ _ (Int.ediv_le_ediv (by decide) (Int.mul_le_mul_of_nonneg_right h hc))
theorem quo_mono (a b c : Int) (ha : 0 ≤ a) (h : a ≤ b) (hc : 0 ≤ c) : quo a c ≤ quo b c := by
  by_cases h0 : a = 0
  · have := quo_range b c (by omega) hc
    have e : quo a c = 0 := by unfold quo; rw [if_pos h0]
    omega
  · unfold quo
    rw [if_neg h0, if_neg (by omega : ¬ b = 0)]
    split
    · omega
    · exact cap_mono _ _ (Int.ediv_le_ediv (by omega) (by omega))

end Fx
end Go.Proofs.Ytkdllgnejkmfhaa
