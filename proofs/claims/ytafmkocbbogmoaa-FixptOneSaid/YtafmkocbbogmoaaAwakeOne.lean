import Derived.Test.YtafmkocbbogmoaaRefTwo
namespace Go.Proofs.Ytafmkocbbogmoaa
open Go.RowKit
set_option linter.unusedVariables false

theorem grown_drewN {W w' : World} (h : Grown W w') (n : Nat) : Grown W (w'.drewN n) := h

set_option maxHeartbeats 1000000 in
theorem awake_any (w : World) :
    Calls Try.prog 14 #[] w (RetDrew (.bool true) w) := by
  have o1 : Fx.ofInt 1 = 4294967296 := by decide
  have o3 : Fx.ofInt 3 = 12884901888 := by decide
  have o2 : Fx.ofInt 2 = 8589934592 := by decide
  have d1 : Fx.quo 4294967296 12884901888 = 1431655765 := by decide
  have m1 : Fx.mul 18446744073709551615 18446744073709551615 = 18446744073709551615 := by decide
  have r1 : Fx.ratio 3 2 = 6442450944 := by decide
  have s1 : Fx.sub 4294967296 8589934592 = 0 := by decide
  have a1 : Fx.add 18446744073709551615 1 = 18446744073709551615 := by decide
  have O1 := Lib.hid o1; have O2 := Lib.hid o2; have O3 := Lib.hid o3; have D1 := Lib.hid d1; have M1 := Lib.hid m1; have R1 := Lib.hid r1; have S1 := Lib.hid s1; have A1 := Lib.hid a1
  clear o1 o2 o3 d1 m1 r1 s1 a1
  go_enter Try.func14, Try.ntmps14
  go_wp2_with fail
  refine (Of_any 1 (by decide) (by decide) _).mono ?_
  rintro e w' ⟨rfl, rfl⟩
  rw [O1.out]
  go_wp2_with fail
  refine (Of_any 3 (by decide) (by decide) _).mono ?_
  rintro e w' ⟨rfl, rfl⟩
  rw [O3.out]
  go_wp2_with fail
  refine (Div_any _ _ (by decide) (by decide) (by decide) (by decide) _).mono ?_
  rintro e w' ⟨rfl, n, rfl⟩
  rw [D1.out]
  go_wp2_with fail
  refine (Mul_any _ _ (by decide) (by decide) (by decide) (by decide) _).mono ?_
  rintro e w' ⟨rfl, rfl⟩
  rw [M1.out]
  go_wp2_with fail
  refine (Ratio_any _ _ (by decide) (by decide) (by decide) (by decide) _).mono ?_
  rintro e w' ⟨rfl, m, rfl⟩
  rw [R1.out]
  go_wp2_with fail
  refine (Of_any 2 (by decide) (by decide) _).mono ?_
  rintro e w' ⟨rfl, rfl⟩
  rw [O2.out]
  go_wp2_with fail
  refine (Sub_any _ _ (by decide) (by decide) (by decide) (by decide) _).mono ?_
  rintro e w' ⟨rfl, rfl⟩
  rw [S1.out]
  go_wp2_with fail
  refine (Add_any _ _ (by decide) (by decide) (by decide) (by decide) _).mono ?_
  rintro e w' ⟨rfl, rfl⟩
  rw [A1.out]
  go_wp2_with fail
  refine (Floor_any _ (by decide) (by decide) _).mono ?_
  rintro e w' ⟨rfl, rfl⟩
  go_wp2_with fail
  go_ret
  exact ⟨rfl, n + m, rfl⟩

end Go.Proofs.Ytafmkocbbogmoaa
