import Derived.Test.YtafmkocbbogmoaaFixptA
import Derived.Laws.Bits64b
namespace Go.Proofs.Ytafmkocbbogmoaa
open Go.RowKit
set_option linter.unusedVariables false

theorem or_low (x y : Int) (hx : 0 ≤ x) (hx' : x ≤ 4294967295) (hy : 0 ≤ y) (hy' : y ≤ 4294967295) : bits .or .u64 (x * 4294967296) y = x * 4294967296 + y := by
  obtain ⟨x, rfl⟩ := Int.eq_ofNat_of_zero_le hx
  obtain ⟨y, rfl⟩ := Int.eq_ofNat_of_zero_le hy
  have h := bits_or_u64_nat (x * 4294967296) y (by omega) (by omega)
  have e := Nat.two_pow_add_eq_or_of_lt (i := 32) (b := y) (by omega) x
  rw [Nat.mul_comm (2 ^ 32) x] at e
  have e' : (x * 4294967296 ||| y) = x * 4294967296 + y := e.symm
  rw [e'] at h
  rw [show (x : Int) * 4294967296 = ((x * 4294967296 : Nat) : Int) from by omega, h]
  omega

set_option maxHeartbeats 400000 in
theorem pick_any (c : Bool) (a b : Int) (w : World) :
    Calls Try.prog 26 #[.bool c, .int .u64 a, .int .u64 b] w fun e w' => e = .returned (.int .u64 (Fx.sel c a b)) ∧ w = w' := by
  cases c
  · go_enter Try.func26, Try.ntmps26
    go_wp2
    go_ret
    exact ⟨rfl, rfl⟩
  · go_enter Try.func26, Try.ntmps26
    go_wp2
    go_ret
    exact ⟨rfl, rfl⟩

theorem mul64 (x y : Int) (hx : 0 ≤ x) (hx' : x ≤ 18446744073709551615) (hy : 0 ≤ y) (hy' : y ≤ 18446744073709551615) (w : World) :
    Calls Try.prog 28 #[.int .u64 x, .int .u64 y] w fun e w' =>
      e = .returned (.tuple #[.int .u64 (x * y / 18446744073709551616), .int .u64 (x * y % 18446744073709551616)]) ∧ w = w' := by
  obtain ⟨x, rfl⟩ := Int.eq_ofNat_of_zero_le hx
  obtain ⟨y, rfl⟩ := Int.eq_ofNat_of_zero_le hy
  refine (Try.bits_Mul64 x y (by omega) (by omega) w).mono ?_
  rintro e w' ⟨rfl, rfl⟩
  exact ⟨rfl, rfl⟩

set_option maxHeartbeats 400000 in
theorem Mul_any (a b : Int) (ha : 0 ≤ a) (ha' : a ≤ 18446744073709551615) (hb : 0 ≤ b) (hb' : b ≤ 18446744073709551615) (w : World) :
    Calls Try.prog 15 #[.int .u64 a, .int .u64 b] w fun e w' => e = .returned (.int .u64 (Fx.mul a b)) ∧ w = w' := by
  have hp : 0 ≤ a * b := Int.mul_nonneg ha hb
  by_cases h : a * b / 18446744073709551616 < 4294967296
  · go_enter Try.func15, Try.ntmps15
    go_wp2_with (first | (go_at_call 28; refine (mul64 a b ha ha' hb hb' _).mono ?_; rintro e w' ⟨rfl, rfl⟩) | (go_at_call 26; refine (pick_any _ _ _ _).mono ?_; rintro e w' ⟨rfl, rfl⟩))
    go_ret
    refine ⟨ret_u64 ?_, rfl⟩
    rw [or_low _ _ (by omega) (by omega) (by omega) (by omega)]
    unfold Fx.mul Fx.cap Fx.sel
    (repeat' split) <;> first | omega | (simp_all; done) | (simp_all; omega)
  · go_enter Try.func15, Try.ntmps15
    go_wp2_with (first | (go_at_call 28; refine (mul64 a b ha ha' hb hb' _).mono ?_; rintro e w' ⟨rfl, rfl⟩) | (go_at_call 26; refine (pick_any _ _ _ _).mono ?_; rintro e w' ⟨rfl, rfl⟩))
    go_ret
    refine ⟨ret_u64 ?_, rfl⟩
    unfold Fx.mul Fx.cap Fx.sel
    (repeat' split) <;> first | omega | (simp_all; done) | (simp_all; omega)

set_option maxHeartbeats 400000 in
theorem Of_any (n : Int) (ha : -9223372036854775808 ≤ n) (ha' : n ≤ 9223372036854775807) (w : World) :
    Calls Try.prog 20 #[.int .i64 n] w fun e w' => e = .returned (.int .u64 (Fx.ofInt n)) ∧ w = w' := by
  have hr := Fx.nonneg_range n ha'
  by_cases h : 4294967296 ≤ n
  · go_enter Try.func20, Try.ntmps20
    go_wp2_with (first | (go_at_call 31; refine (fromZero_any n ha ha' _).mono ?_; rintro e w' ⟨rfl, rfl⟩) | (go_at_call 26; refine (pick_any _ _ _ _).mono ?_; rintro e w' ⟨rfl, rfl⟩))
    go_ret
    exact ⟨ret_u64 (by unfold Fx.ofInt Fx.cap Fx.sel; (repeat' split) <;> first | omega | simp_all), rfl⟩
  · have h1 : Fx.nonneg n ≤ 4294967295 := by unfold Fx.nonneg; split <;> omega
    go_enter Try.func20, Try.ntmps20
    go_wp2_with (first | (go_at_call 31; refine (fromZero_any n ha ha' _).mono ?_; rintro e w' ⟨rfl, rfl⟩) | (go_at_call 26; refine (pick_any _ _ _ _).mono ?_; rintro e w' ⟨rfl, rfl⟩))
    go_ret
    exact ⟨ret_u64 (by unfold Fx.ofInt Fx.cap Fx.nonneg Fx.sel; (repeat' split) <;> first | omega | simp_all), rfl⟩

end Go.Proofs.Ytafmkocbbogmoaa
