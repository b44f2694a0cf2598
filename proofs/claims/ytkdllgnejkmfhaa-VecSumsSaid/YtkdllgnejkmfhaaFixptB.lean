import Derived.Test.YtkdllgnejkmfhaaFixptA
import Derived.Laws.Bits64b
namespace Go.Proofs.Ytkdllgnejkmfhaa
open Go.RowKit
set_option linter.unusedVariables false

theorem or_low (x y : Int) (hx : 0 ≤ x) (hx' : x ≤ 4294967295) (hy : 0 ≤ y) (hy' : y ≤ 4294967295) : bits .or .u64 (x * 4294967296) y = x * 4294967296 + y := by
  obtain ⟨x, rfl⟩ := Int.eq_ofNat_of_zero_le hx
  obtain ⟨y, rfl⟩ := Int.eq_ofNat_of_zero_le hy
  have h := bits_or_u64_nat (x * 4294967296) y (by omega) (by omega)
  have e := Nat.two_pow_add_eq_or_of_lt (i := 32) (b := y) (by omega) x
  rw [Nat.mul_comm (2 ^ 32) x] at e
  have e' : (x * 4294967296 ||| y) = x * 4294967296 + y := e.symm
  rw [e'] at h
  rw [show (x : Int) * 4294967296 = ((x * 4294967296 : Nat) : Int) from by omega, h]
  omega

set_option maxHeartbeats 400000 in
theorem pick_any (c : Bool) (a b : Int) (w : World) :
    Calls Try.prog 40 #[.bool c, .int .u64 a, .int .u64 b] w fun e w' => e = .returned (.int .u64 (Fx.sel c a b)) ∧ w = w' := by
  cases c
  · go_enter Try.func40, Try.ntmps40
    go_wp2
    go_ret
    exact ⟨rfl, rfl⟩
  · go_enter Try.func40, Try.ntmps40
    go_wp2
    go_ret
    exact ⟨rfl, rfl⟩

end Go.Proofs.Ytkdllgnejkmfhaa
