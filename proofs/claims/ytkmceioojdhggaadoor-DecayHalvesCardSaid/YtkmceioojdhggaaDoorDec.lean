/- Plain arithmetic of half-lives: no program in sight. -/
import Derived.Test.YtkmceioojdhggaaDoorFixp
namespace Go.Proofs.YtkmceioojdhggaaDoor
namespace Dec

/-- The sixteen powers. -/
def tab : List Int := [3037000499, 3611622602, 3938502375, 4112874772, 4202935002, 4248701964, 4271771996, 4283353945, 4289156689, 4292061009, 4293513906, 4294240539, 4294603902, 4294785595, 4294876444, 4294921869]
def pw (i : Nat) : Int := tab.getD i 0

theorem pw_range (i : Nat) : 0 ≤ pw i ∧ pw i ≤ 4294921869 := by
  by_cases h : i < 16
  · have : ∀ j : Fin 16, 0 ≤ pw j.val ∧ pw j.val ≤ 4294921869 := by decide
    exact this ⟨i, h⟩
  · unfold pw tab
    rw [List.getD_eq_getElem?_getD, List.getElem?_eq_none (by simp; omega)]
    simp

/-- Is the bit of the i-th power set? -/
def bit (p : Int) (i : Nat) : Bool := decide (p / 2 ^ (31 - i) % 2 = 1)
/-- One, and the first k powers whose bits are set. -/
def acc (p : Int) : Nat → Int
  | 0 => 4294967296
  | k + 1 => if bit p k then Fx.mul (acc p k) (pw k) else acc p k

theorem mul_le (a b : Int) (ha : 0 ≤ a) (ha' : a ≤ 18446744073709551615) (hb : b ≤ 4294967296) : Fx.mul a b ≤ a := by
  have h : a * b ≤ a * 4294967296 := Int.mul_le_mul_of_nonneg_left hb ha
  have h2 : a * b / 4294967296 ≤ a := Int.le_trans (Int.ediv_le_ediv (by decide) h) (by rw [Int.mul_ediv_cancel _ (by decide)]; exact Int.le_refl _)
  unfold Fx.mul
  rw [Fx.cap_in _ (by omega)]
  exact h2

theorem acc_range (p : Int) (k : Nat) : 0 ≤ acc p k ∧ acc p k ≤ 4294967296 := by
  induction k with
  | zero => simp [acc]
  | succ k ih =>
    unfold acc
    split
    · have h := pw_range k
      have h1 := mul_le (acc p k) (pw k) ih.1 (by omega) (by omega)
      have h2 := Fx.mul_range (acc p k) (pw k) ih.1 h.1
      omega
    · exact ih

/-- What is left of One behind age a, at half-life h. -/
def fac (a h : Int) : Int := acc (Fx.ratio (max a 0 % max h 1) (max h 1)) 16 / 2 ^ (max a 0 / max h 1).toNat

theorem pow_pos (n : Nat) : (0 : Int) < 2 ^ n := Int.pow_pos (by decide)
theorem fac_range (a h : Int) : 0 ≤ fac a h ∧ fac a h ≤ 4294967296 := by
  have h1 := acc_range (Fx.ratio (max a 0 % max h 1) (max h 1)) 16
  unfold fac
  refine ⟨Int.ediv_nonneg h1.1 (Int.le_of_lt (pow_pos _)), Int.le_trans (Int.ediv_le_self _ h1.1) h1.2⟩

/-- The bit, as the upper sixteen bits alone have it. -/
theorem bit_upper (p : Int) (i : Nat) (hi : i < 16) : bit p i = decide (p / 65536 / 2 ^ (15 - i) % 2 = 1) := by
  unfold bit
  rw [Int.ediv_ediv_of_nonneg (by decide), show (65536 : Int) = 2 ^ 16 from by decide, ← Int.pow_add, show 16 + (15 - i) = 31 - i from by omega]

theorem halve (x : Int) (k : Nat) : x / 2 ^ k / 2 = x / 2 ^ (k + 1) := by
  rw [Int.ediv_ediv_of_nonneg (Int.le_of_lt (pow_pos _)), ← Int.pow_succ]

theorem gone (x : Int) (k q : Nat) (h0 : 0 ≤ x) (h : x / 2 ^ k ≤ 0) (hk : k ≤ q) : x / 2 ^ q = 0 := by
  have h1 : x / 2 ^ k = 0 := by
    have := Int.ediv_nonneg h0 (Int.le_of_lt (pow_pos k))
    omega
  have e : (2 : Int) ^ q = 2 ^ k * 2 ^ (q - k) := by rw [← Int.pow_add, show k + (q - k) = q from by omega]
  rw [e, ← Int.ediv_ediv_of_nonneg (Int.le_of_lt (pow_pos _)), h1, Int.zero_ediv]

theorem shift_most (x : Int) (n : Nat) (h0 : 0 ≤ x) (h1 : x ≤ 4294967296) : x / 2 ^ min n 64 = x / 2 ^ n := by
  by_cases h : n ≤ 64
  · rw [Nat.min_eq_left h]
  · rw [Nat.min_eq_right (by omega)]
    have e : x / 2 ^ 64 = 0 := Int.ediv_eq_zero_of_lt h0 (by have : (2 : Int) ^ 64 = 18446744073709551616 := by decide
                                                             omega)
    rw [e, gone x 64 n h0 (by omega) (by omega)]

/-- One half-life more is half as much. -/
theorem fac_half (a h : Int) (ha : 0 ≤ a) (hh : 1 ≤ h) : fac (a + h) h = fac a h / 2 := by
  have e1 : max (a + h) 0 = a + h := by omega
  have e2 : max a 0 = a := by omega
  have e3 : max h 1 = h := by omega
  have hq := Int.ediv_nonneg ha (by omega : 0 ≤ h)
  unfold fac
  rw [e1, e2, e3, halve, Int.add_emod_right, Int.add_ediv_of_dvd_right (Int.dvd_refl h), Int.ediv_self (by omega), show (a / h + 1).toNat = (a / h).toNat + 1 from by omega]

theorem quo_scale (r h b : Int) (hr : 0 ≤ r) (hh : 1 ≤ h) (hb : 1 ≤ b) : Fx.ratio (r * b) (h * b) = Fx.ratio r h := by
  have hbp : 0 ≤ r * b := Int.mul_nonneg hr (by omega)
  have hhb : h ≤ h * b := by
    have := Int.mul_le_mul_of_nonneg_left hb (by omega : 0 ≤ h)
    omega
  unfold Fx.ratio Fx.nonneg
  rw [if_neg (by omega), if_neg (by omega), if_neg (by omega), if_neg (by omega)]
  unfold Fx.quo
  by_cases h0 : r = 0
  · subst h0; simp
  · have : r ≤ r * b := by
      have := Int.mul_le_mul_of_nonneg_left hb hr
      omega
    rw [if_neg (by omega), if_neg (by omega), if_neg h0, if_neg (by omega)]
    rw [Int.mul_assoc, Int.mul_comm b 4294967296, ← Int.mul_assoc, Int.mul_ediv_mul_of_pos_left _ _ (by omega)]

theorem fac_scale (a h b : Int) (ha : 0 ≤ a) (hh : 1 ≤ h) (hb : 1 ≤ b) : fac (a * b) (h * b) = fac a h := by
  have hbp : 0 ≤ a * b := Int.mul_nonneg ha (by omega)
  have hhb : h ≤ h * b := by
    have := Int.mul_le_mul_of_nonneg_left hb (by omega : 0 ≤ h)
    omega
  have e1 : max (a * b) 0 = a * b := by omega
  have e2 : max a 0 = a := by omega
  have e3 : max h 1 = h := by omega
  have e4 : max (h * b) 1 = h * b := by omega
  unfold fac
  rw [e1, e2, e3, e4, Int.mul_ediv_mul_of_pos_left _ _ (by omega), Int.mul_comm a b, Int.mul_comm h b, Int.mul_emod_mul_of_pos _ _ (by omega), Int.mul_comm b (a % h), Int.mul_comm b h, quo_scale _ _ _ (Int.emod_nonneg _ (by omega)) hh hb]

/-- Each power's square is the one ahead, as near as whole numbers go. -/
theorem squares (i : Nat) (h : i < 15) : Fx.mul (pw (i + 1)) (pw (i + 1)) ≤ pw i ∧ pw i ≤ Fx.mul (pw (i + 1) + 1) (pw (i + 1) + 1) + 1 ∧ pw i < pw (i + 1) ∧ pw (i + 1) < 4294967296 := by
  have : ∀ j : Fin 15, Fx.mul (pw (j.val + 1)) (pw (j.val + 1)) ≤ pw j.val ∧ pw j.val ≤ Fx.mul (pw (j.val + 1) + 1) (pw (j.val + 1) + 1) + 1 ∧ pw j.val < pw (j.val + 1) ∧ pw (j.val + 1) < 4294967296 := by decide
  exact this ⟨i, h⟩

end Dec
end Go.Proofs.YtkmceioojdhggaaDoor
