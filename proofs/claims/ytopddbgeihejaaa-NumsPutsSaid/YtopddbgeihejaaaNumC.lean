/- What the program's numbers are held to: one contract a call. The statements' walks take it whole. -/
import Derived.Test.YtopddbgeihejaaaNumU
import Derived.Test.YtopddbgeihejaaaVecEq
namespace Go.Proofs.Ytopddbgeihejaaa
open Go.RowKit
set_option linter.unusedVariables false

structure NC where
  put : ∀ (n : Int), -9223372036854775808 ≤ n → n < 9223372036854775808 → ∀ w, Calls Try.prog 8 #[.int .i64 n] w (RetBelow (.string (Nu.put n.toNat)) w)
  putVec : ∀ (a : Nat → Int), (∀ i, i < 3 → -9223372036854775808 ≤ a i ∧ a i < 9223372036854775808) → ∀ w, Calls Try.prog 10 #[.agg #[.int .i64 (a 0), .int .i64 (a 1), .int .i64 (a 2)]] w (RetBelow (.string (Nu.putV (a 0).toNat (a 1).toNat (a 2).toNat)) w)
  putFix : ∀ (x : Nat), x < 18446744073709551616 → ∀ w, Calls Try.prog 12 #[.int .u64 (x : Int)] w (RetBelow (.string (Nu.fix x)) w)
  get : ∀ (s : ByteArray) w, Calls Try.prog 15 #[.string s] w (RetBelow (Nu.ans (Nu.get s)) w)
  getVec : ∀ (s : ByteArray) w, Calls Try.prog 17 #[.string s] w (RetBelow (Nu.ansV (Nu.getV s)) w)
  getFix : ∀ (s : ByteArray) w, Calls Try.prog 19 #[.string s] w (RetBelow (Nu.ansF (Nu.getF s)) w)

theorem put_300 : Nu.put 300 = ⟨#[172, 2]⟩ := by
  unfold Nu.put
  rw [Nu.putL_ge (by decide), Nu.putL_lt (by decide)]
  rfl
theorem get_80 : Nu.get ⟨#[128, 0]⟩ = (0, 0, 10) := by decide
theorem get_ac : Nu.get ⟨#[172, 2, 120]⟩ = (300, 2, 0) := by decide
theorem fix_1 : Nu.fix 1 = ⟨#[1, 0, 0, 0, 0, 0, 0, 0]⟩ := by decide

set_option maxHeartbeats 400000 in
theorem nAwake_any (C : NC) (w : World) : Calls Try.prog 14 #[] w (RetBelow (.bool true) w) := by
  have g1 := fun w => C.get ⟨#[128, 0]⟩ w
  have g2 := fun w => C.get ⟨#[172, 2, 120]⟩ w
  have p1 := fun w => C.put 300 (by decide) (by decide) w
  have p2 := fun w => C.putFix 1 (by decide) w
  rw [get_80] at g1
  rw [get_ac] at g2
  rw [show (300 : Int).toNat = 300 from rfl, put_300] at p1
  rw [fix_1] at p2
  unfold Nu.ans at g1 g2
  have G1 := Lib.hid g1; have G2 := Lib.hid g2; have P1 := Lib.hid p1; have P2 := Lib.hid p2
  clear g1 g2 p1 p2
  go_enter Try.func14, Try.ntmps14
  go_wp2_with fail
  refine (G1.out _).mono ?_
  rintro e w1 ⟨rfl, b1⟩
  have B1 := Lib.hid b1; clear b1
  go_wp2_with fail
  refine (G2.out _).mono ?_
  rintro e w2 ⟨rfl, b2⟩
  have B2 := Lib.hid (below_trans B1.out b2); clear b2
  go_wp2_with fail
  refine (P1.out _).mono ?_
  rintro e w3 ⟨rfl, b3⟩
  have B3 := Lib.hid (below_trans B2.out b3); clear b3
  go_wp2_with fail
  refine (P2.out _).mono ?_
  rintro e w4 ⟨rfl, b4⟩
  have B4 := Lib.hid (below_trans B3.out b4); clear b4
  go_wp2_with fail
  go_ret
  exact ⟨rfl, B4.out⟩

end Go.Proofs.Ytopddbgeihejaaa
