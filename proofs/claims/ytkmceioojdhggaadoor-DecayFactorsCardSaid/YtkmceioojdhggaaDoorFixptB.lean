import Derived.Test.YtkmceioojdhggaaDoorFixptA
import Derived.Laws.Bits64b
namespace Go.Proofs.YtkmceioojdhggaaDoor
open Go.RowKit
set_option linter.unusedVariables false

theorem or_low (x y : Int) (hx : 0 ≤ x) (hx' : x ≤ 4294967295) (hy : 0 ≤ y) (hy' : y ≤ 4294967295) : bits .or .u64 (x * 4294967296) y = x * 4294967296 + y := by
  obtain ⟨x, rfl⟩ := Int.eq_ofNat_of_zero_le hx
  obtain ⟨y, rfl⟩ := Int.eq_ofNat_of_zero_le hy
  have h := bits_or_u64_nat (x * 4294967296) y (by omega) (by omega)
  have e := Nat.two_pow_add_eq_or_of_lt (i := 32) (b := y) (by omega) x
  rw [Nat.mul_comm (2 ^ 32) x] at e
  have e' : (x * 4294967296 ||| y) = x * 4294967296 + y := e.symm
  rw [e'] at h
  rw [show (x : Int) * 4294967296 = ((x * 4294967296 : Nat) : Int) from by omega, h]
  omega

set_option maxHeartbeats 400000 in
theorem pick_any (c : Bool) (a b : Int) (w : World) :
    Calls Tryd.prog 23 #[.bool c, .int .u64 a, .int .u64 b] w fun e w' => e = .returned (.int .u64 (Fx.sel c a b)) ∧ w = w' := by
  cases c
  · go_enter Tryd.func23, Tryd.ntmps23
    go_wp2
    go_ret
    exact ⟨rfl, rfl⟩
  · go_enter Tryd.func23, Tryd.ntmps23
    go_wp2
    go_ret
    exact ⟨rfl, rfl⟩

theorem mul64 (x y : Int) (hx : 0 ≤ x) (hx' : x ≤ 18446744073709551615) (hy : 0 ≤ y) (hy' : y ≤ 18446744073709551615) (w : World) :
    Calls Tryd.prog 22 #[.int .u64 x, .int .u64 y] w fun e w' =>
      e = .returned (.tuple #[.int .u64 (x * y / 18446744073709551616), .int .u64 (x * y % 18446744073709551616)]) ∧ w = w' := by
  obtain ⟨x, rfl⟩ := Int.eq_ofNat_of_zero_le hx
  obtain ⟨y, rfl⟩ := Int.eq_ofNat_of_zero_le hy
  refine (Tryd.bits_Mul64 x y (by omega) (by omega) w).mono ?_
  rintro e w' ⟨rfl, rfl⟩
  exact ⟨rfl, rfl⟩

set_option maxHeartbeats 400000 in
theorem Mul_any (a b : Int) (ha : 0 ≤ a) (ha' : a ≤ 18446744073709551615) (hb : 0 ≤ b) (hb' : b ≤ 18446744073709551615) (w : World) :
    Calls Tryd.prog 18 #[.int .u64 a, .int .u64 b] w fun e w' => e = .returned (.int .u64 (Fx.mul a b)) ∧ w = w' := by
  have hp : 0 ≤ a * b := Int.mul_nonneg ha hb
  by_cases h : a * b / 18446744073709551616 < 4294967296
  · go_enter Tryd.func18, Tryd.ntmps18
    go_wp2_with (first | (go_at_call 22; refine (mul64 a b ha ha' hb hb' _).mono ?_; rintro e w' ⟨rfl, rfl⟩) | (go_at_call 23; refine (pick_any _ _ _ _).mono ?_; rintro e w' ⟨rfl, rfl⟩))
    go_ret
    refine ⟨ret_u64 ?_, rfl⟩
    rw [or_low _ _ (by omega) (by omega) (by omega) (by omega)]
    unfold Fx.mul Fx.cap Fx.sel
    (repeat' split) <;> first | omega | (simp_all; done) | (simp_all; omega)
  · go_enter Tryd.func18, Tryd.ntmps18
    go_wp2_with (first | (go_at_call 22; refine (mul64 a b ha ha' hb hb' _).mono ?_; rintro e w' ⟨rfl, rfl⟩) | (go_at_call 23; refine (pick_any _ _ _ _).mono ?_; rintro e w' ⟨rfl, rfl⟩))
    go_ret
    refine ⟨ret_u64 ?_, rfl⟩
    unfold Fx.mul Fx.cap Fx.sel
    (repeat' split) <;> first | omega | (simp_all; done) | (simp_all; omega)

end Go.Proofs.YtkmceioojdhggaaDoor
