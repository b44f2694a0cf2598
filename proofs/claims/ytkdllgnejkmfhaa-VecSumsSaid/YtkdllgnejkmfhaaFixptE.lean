import Derived.Test.YtkdllgnejkmfhaaFixptD
namespace Go.Proofs.Ytkdllgnejkmfhaa
open Go.RowKit
set_option linter.unusedVariables false

def RetDrew (v : Value) (w : World) (e : Ending) (w' : World) : Prop := e = .returned v ∧ ∃ n, w' = w.drewN n

theorem retDrew_u64 {a b : Int} {w : World} {e : Ending} {w' : World} (h : a = b) (he : e = .returned (.int .u64 a)) (hw : ∃ n, w' = w.drewN n) : RetDrew (.int .u64 b) w e w' := by
  subst h; exact ⟨he, hw⟩

theorem Div64_any (h l y : Int) (hh : 0 ≤ h) (hh' : h < y) (hl : 0 ≤ l) (hl' : l ≤ 18446744073709551615) (hy' : y ≤ 18446744073709551615) (w : World) :
    Calls Try.prog 41 #[.int .u64 h, .int .u64 l, .int .u64 y] w (DivPost ((h * 18446744073709551616 + l) / y) w) := by
  by_cases h0 : h = 0
  · subst h0
    rw [Int.zero_mul, Int.zero_add]
    exact Div64_zero l y hl hl' (by omega) hy' w
  · exact Div64_pos h l y (by omega) hh' hl hl' hy' w

set_option maxHeartbeats 400000 in
theorem Div_any (a b : Int) (ha : 0 ≤ a) (ha' : a ≤ 18446744073709551615) (hb : 0 ≤ b) (hb' : b ≤ 18446744073709551615) (w : World) :
    Calls Try.prog 37 #[.int .u64 a, .int .u64 b] w (RetDrew (.int .u64 (Fx.quo a b)) w) := by
  by_cases h : b ≤ a / 4294967296
  · by_cases h0 : a = 0
    · have e0 : (a == 0) = true := by simp; omega
      clear h0
      go_enter Try.func37, Try.ntmps37
      go_wp2_with (go_at_call 40; refine (pick_any _ _ _ _).mono ?_; rintro e w' ⟨rfl, rfl⟩)
      go_ret
      refine retDrew_u64 ?_ rfl ⟨0, rfl⟩
      simp at e0
      unfold Fx.sel Fx.quo
      simp [e0]
    · have e0 : (a == 0) = false := by simp; omega
      go_enter Try.func37, Try.ntmps37
      go_wp2_with (go_at_call 40; refine (pick_any _ _ _ _).mono ?_; rintro e w' ⟨rfl, rfl⟩)
      go_ret
      refine retDrew_u64 ?_ rfl ⟨0, rfl⟩
      unfold Fx.sel Fx.quo
      rw [if_neg h0]
      split
      · rename_i hb; cases hb
      split
      · rfl
      · refine (Fx.cap_out _ ?_).symm
        have : 18446744073709551616 ≤ a * 4294967296 / b := (Int.le_ediv_iff_mul_le (by omega)).2 (by omega)
        omega
  · have hq : 0 ≤ a * 4294967296 / b := Int.ediv_nonneg (by omega) hb
    have hq' : a * 4294967296 / b < 18446744073709551616 := Int.ediv_lt_of_lt_mul (by omega) (by omega)
    have e1 : (a / 4294967296) * 18446744073709551616 + IntKind.u64.wrap (a * 4294967296) = a * 4294967296 := by rw [IntKind.wrap_u64]; omega
    have e2 : 0 ≤ IntKind.u64.wrap (a * 4294967296) ∧ IntKind.u64.wrap (a * 4294967296) ≤ 18446744073709551615 := by rw [IntKind.wrap_u64]; omega
    have E1 := Lib.hid e1; clear e1
    have hfin : a * 4294967296 / b = Fx.quo a b := by
      unfold Fx.quo
      by_cases h0 : a = 0
      · rw [if_pos h0]; simp [h0]
      · rw [if_neg h0, if_neg (by omega), Fx.cap_in _ (by omega)]
    have F := Lib.hid hfin; clear hfin
    go_enter Try.func37, Try.ntmps37
    go_wp2_with (go_at_call 41; refine (Div64_any _ _ _ (by omega) (by omega) e2.1 e2.2 hb' _).mono ?_; rintro e w' ⟨r, rfl, n, rfl⟩)
    go_ret
    exact retDrew_u64 (by rw [E1.out, F.out]) rfl ⟨_, rfl⟩

set_option maxHeartbeats 400000 in
theorem Ratio_any (a b : Int) (ha : -9223372036854775808 ≤ a) (ha' : a ≤ 9223372036854775807) (hb : -9223372036854775808 ≤ b) (hb' : b ≤ 9223372036854775807) (w : World) :
    Calls Try.prog 35 #[.int .i64 a, .int .i64 b] w (RetDrew (.int .u64 (Fx.ratio a b)) w) := by
  have r1 := Fx.nonneg_range a ha'
  have r2 := Fx.nonneg_range b hb'
  go_enter Try.func35, Try.ntmps35
  go_wp2_with fail
  refine (fromZero_any a ha ha' _).mono ?_
  rintro e w' ⟨rfl, rfl⟩
  go_wp2_with fail
  refine (fromZero_any b hb hb' _).mono ?_
  rintro e w' ⟨rfl, rfl⟩
  go_wp2_with fail
  refine (Div_any _ _ r1.1 (by omega) r2.1 (by omega) _).mono ?_
  rintro e w' ⟨rfl, n, rfl⟩
  go_wp2_with fail
  go_ret
  exact ⟨rfl, _, rfl⟩

end Go.Proofs.Ytkdllgnejkmfhaa
