import Derived.Test.YtkdllgnejkmfhaaOverW
import Derived.Test.YtkdllgnejkmfhaaFixptE
namespace Go.Proofs.Ytkdllgnejkmfhaa
open Go.RowKit
set_option linter.unusedVariables false

set_option maxHeartbeats 400000 in
theorem rRatio_any (a b : Int) (ha : -9223372036854775808 ≤ a) (ha' : a ≤ 9223372036854775807) (hb : -9223372036854775808 ≤ b) (hb' : b ≤ 9223372036854775807) (w : World) :
    Calls Try.prog 36 #[.int .i64 a, .int .i64 b] w fun e w' => e = .returned (.int .u64 (Fx.ratio a b)) ∧ w = w' := by
  by_cases h0 : a ≤ 0
  · have hf : Fx.ratio a b = 0 := by unfold Fx.ratio Fx.quo Fx.nonneg; (repeat' split) <;> omega
    have F := Lib.hid hf; clear hf
    go_enter Try.func36, Try.ntmps36
    go_wp2_with fail
    go_ret
    exact ⟨ret_u64 F.out.symm, rfl⟩
  · by_cases h1 : b ≤ 0
    · have hf : Fx.ratio a b = 18446744073709551615 := by unfold Fx.ratio Fx.quo Fx.nonneg; (repeat' split) <;> omega
      have F := Lib.hid hf; clear hf
      go_enter Try.func36, Try.ntmps36
      go_wp2_with fail
      go_ret
      exact ⟨ret_u64 F.out.symm, rfl⟩
    · have hf : Fx.ratio a b = Fx.cap (a * 4294967296 / b) := by
        unfold Fx.ratio Fx.nonneg
        rw [if_neg (by omega), if_neg (by omega)]
        unfold Fx.quo; rw [if_neg (by omega), if_neg (by omega)]
      have F := Lib.hid hf; clear hf
      go_enter Try.func36, Try.ntmps36
      go_wp2_with fail
      refine (over_any a b (by omega) (by omega) (by omega) (by omega) _).mono ?_
      rintro e w' ⟨rfl, rfl⟩
      go_wp2_with fail
      go_ret
      exact ⟨ret_u64 F.out.symm, rfl⟩

end Go.Proofs.Ytkdllgnejkmfhaa
