/- Plain arithmetic of amounts: no program in sight. -/
import Derived.Test.YtkdllgnejkmfhaaFixp
namespace Go.Proofs.Ytkdllgnejkmfhaa
namespace Vc

/-- Brought within b of 0. -/
def cut (b n : Int) : Int := if n < -b then -b else if b < n then b else n
def far (n : Int) : Int := cut 1099511627776 n
def add (a b : Int) : Int := far (far a + far b)
def sub (a b : Int) : Int := far (far a - far b)
def times (a n : Int) : Int := far (far a * cut 1048576 n)
def least (a b : Int) : Int := if a ≤ b then a else b
def dom (g x y : Int) : Int := if 0 < x then max g (Fx.ratio x y) else g
def addv (a b : Nat → Int) (r : Nat) : Int := add (a r) (b r)
def subv (a b : Nat → Int) (r : Nat) : Int := sub (a r) (b r)
def timesv (a : Nat → Int) (n : Int) (r : Nat) : Int := times (a r) n
def leastv (a b : Nat → Int) (r : Nat) : Int := least (a r) (b r)
/-- What holds of the first r resources. -/
def fitsTo (a b : Nat → Int) : Nat → Bool
  | 0 => true
  | r + 1 => fitsTo a b r && decide (a r ≤ b r)
def fits (a b : Nat → Int) : Bool := fitsTo a b 3
def validTo (a : Nat → Int) : Nat → Bool
  | 0 => true
  | r + 1 => validTo a r && (decide (0 ≤ a r) && decide (a r ≤ 1048576))
def valid (a : Nat → Int) : Bool := validTo a 3
def domTo (a b : Nat → Int) : Nat → Int
  | 0 => 0
  | r + 1 => dom (domTo a b r) (a r) (b r)
def domv (a b : Nat → Int) : Int := domTo a b 3

theorem cut_range (b n : Int) (h : 0 ≤ b) : -b ≤ cut b n ∧ cut b n ≤ b := by unfold cut; (repeat' split) <;> omega
theorem far_range (n : Int) : -1099511627776 ≤ far n ∧ far n ≤ 1099511627776 := cut_range _ _ (by decide)
theorem cut_minmax (b n : Int) (h : 0 ≤ b) : min (max n (-b)) b = cut b n := by unfold cut; (repeat' split) <;> omega
theorem cut_maxmin (b n : Int) (h : 0 ≤ b) : max (-b) (min n b) = cut b n := by unfold cut; (repeat' split) <;> omega
theorem least_min (a b : Int) : min a b = least a b := by unfold least; (repeat' split) <;> omega
theorem mul_range (a b M N : Int) (a0 : -M ≤ a) (a1 : a ≤ M) (b0 : -N ≤ b) (b1 : b ≤ N) : -(M * N) ≤ a * b ∧ a * b ≤ M * N := by
  have h1 : 0 ≤ (M - a) * (N - b) := Int.mul_nonneg (by omega) (by omega)
  have h2 : 0 ≤ (M + a) * (N + b) := Int.mul_nonneg (by omega) (by omega)
  have h3 : 0 ≤ (M - a) * (N + b) := Int.mul_nonneg (by omega) (by omega)
  have h4 : 0 ≤ (M + a) * (N - b) := Int.mul_nonneg (by omega) (by omega)
  have e1 : (M - a) * (N - b) = M * N - M * b - a * N + a * b := by rw [Int.sub_mul, Int.mul_sub, Int.mul_sub]; omega
  have e2 : (M + a) * (N + b) = M * N + M * b + a * N + a * b := by rw [Int.add_mul, Int.mul_add, Int.mul_add]; omega
  have e3 : (M - a) * (N + b) = M * N + M * b - a * N - a * b := by rw [Int.sub_mul, Int.mul_add, Int.mul_add]; omega
  have e4 : (M + a) * (N - b) = M * N - M * b + a * N - a * b := by rw [Int.add_mul, Int.mul_sub, Int.mul_sub]; omega
  omega
theorem far_mul_range (a n : Int) : -1152921504606846976 ≤ far a * cut 1048576 n ∧ far a * cut 1048576 n ≤ 1152921504606846976 := by
  have h1 := far_range a
  have h2 := cut_range 1048576 n (by decide)
  exact mul_range (far a) (cut 1048576 n) 1099511627776 1048576 h1.1 h1.2 h2.1 h2.2


theorem valid_all (a : Nat → Int) (h : valid a = true) : (0 ≤ a 0 ∧ a 0 ≤ 1048576) ∧ (0 ≤ a 1 ∧ a 1 ≤ 1048576) ∧ (0 ≤ a 2 ∧ a 2 ≤ 1048576) := by
  unfold valid at h
  simp only [validTo, Bool.true_and, Bool.and_eq_true, decide_eq_true_eq] at h
  exact ⟨h.1.1, h.1.2, h.2⟩

theorem fits_iff (a b : Nat → Int) : fits a b = true ↔ a 0 ≤ b 0 ∧ a 1 ≤ b 1 ∧ a 2 ≤ b 2 := by
  unfold fits
  simp only [fitsTo, Bool.true_and, Bool.and_eq_true, decide_eq_true_eq, and_assoc]

theorem far_in (n : Int) (h0 : -1099511627776 ≤ n) (h1 : n ≤ 1099511627776) : far n = n := by unfold far cut; (repeat' split) <;> omega
theorem back_one (x y : Int) (hx : 0 ≤ x ∧ x ≤ 1048576) (hy : 0 ≤ y ∧ y ≤ 1048576) : sub (add x y) y = x := by
  unfold sub add
  rw [far_in x (by omega) (by omega), far_in y (by omega) (by omega), far_in (x + y) (by omega) (by omega), far_in (x + y) (by omega) (by omega), far_in _ (by omega) (by omega)]; omega
theorem twice_one (x : Int) (hx : 0 ≤ x ∧ x ≤ 1048576) : times x 2 = add x x := by
  unfold times add
  rw [far_in x (by omega) (by omega), show cut 1048576 2 = 2 from by decide, show x * 2 = x + x from by omega]
theorem add_in (x y : Int) (hx : 0 ≤ x ∧ x ≤ 1048576) (hy : 0 ≤ y ∧ y ≤ 1048576) : add x y = x + y := by
  unfold add
  rw [far_in x (by omega) (by omega), far_in y (by omega) (by omega), far_in (x + y) (by omega) (by omega)]
theorem fits_add (a b : Nat → Int) (ha : valid a = true) (hb : valid b = true) : fits a (addv a b) = true := by
  obtain ⟨a0, a1, a2⟩ := valid_all a ha
  obtain ⟨b0, b1, b2⟩ := valid_all b hb
  rw [fits_iff]
  unfold addv
  rw [add_in _ _ a0 b0, add_in _ _ a1 b1, add_in _ _ a2 b2]
  omega
theorem fits_least (a b : Nat → Int) : fits (leastv a b) a = true ∧ fits (leastv a b) b = true := by
  rw [fits_iff, fits_iff]
  unfold leastv least
  refine ⟨⟨?_, ?_, ?_⟩, ⟨?_, ?_, ?_⟩⟩ <;> (split <;> omega)
theorem fits_trans (a b c : Nat → Int) (h : fits a b = true) (k : fits b c = true) : fits a c = true := by
  rw [fits_iff] at *
  omega

theorem ratio_mono (x x' y : Int) (h0 : 0 < x) (h : x ≤ x') : Fx.ratio x y ≤ Fx.ratio x' y := by
  have e : Fx.nonneg x = x := by unfold Fx.nonneg; rw [if_neg (by omega)]
  have e' : Fx.nonneg x' = x' := by unfold Fx.nonneg; rw [if_neg (by omega)]
  have n : 0 ≤ Fx.nonneg y := by unfold Fx.nonneg; split <;> omega
  unfold Fx.ratio
  rw [e, e']
  exact Fx.quo_mono x x' _ (by omega) h n
theorem dom_mono (g g' x x' y : Int) (h : g ≤ g') (k : x ≤ x') : dom g x y ≤ dom g' x' y := by
  unfold dom
  by_cases hx : 0 < x
  · have := ratio_mono x x' y hx k
    rw [if_pos hx, if_pos (by omega)]; omega
  · rw [if_neg hx]; split <;> omega
theorem domv_mono (a b c : Nat → Int) (h : fits a b = true) : domv a c ≤ domv b c := by
  rw [fits_iff] at h
  exact dom_mono _ _ _ _ _ (dom_mono _ _ _ _ _ (dom_mono _ _ _ _ _ (Int.le_refl 0) h.1) h.2.1) h.2.2

end Vc
end Go.Proofs.Ytkdllgnejkmfhaa
