/- Amounts: the statements' walks. -/
import Derived.Test.YtkdllgnejkmfhaaVecR
namespace Go.Proofs.Ytkdllgnejkmfhaa
open Go.RowKit
set_option linter.unusedVariables false

/-- Three numbers. -/
def tri (x y z : Int) : Nat → Int
  | 0 => x
  | 1 => y
  | _ => z

set_option maxHeartbeats 1000000 in
theorem vAwake_any (w : World) : Calls Try.prog 17 #[] w (RetGrown (.bool true) w) := by
  have d1 : Vc.domv (tri 2 0 1) (tri 4 0 8) = 2147483648 := by decide
  have d2 : Vc.domv (tri 0 1 0) (tri 4 0 8) = 18446744073709551615 := by decide
  have a0 : Vc.addv (tri 1 2 3) (tri 1 1 1) 0 = 2 := by decide
  have a1 : Vc.addv (tri 1 2 3) (tri 1 1 1) 1 = 3 := by decide
  have a2 : Vc.addv (tri 1 2 3) (tri 1 1 1) 2 = 4 := by decide
  have f1 : Vc.fits (tri 1 1 1) (tri 1 1 1) = true := by decide
  have D1 := Lib.hid d1; have D2 := Lib.hid d2; have A0 := Lib.hid a0; have A1 := Lib.hid a1; have A2 := Lib.hid a2; have F1 := Lib.hid f1
  clear d1 d2 a0 a1 a2 f1
  have rr : ∀ x y z : Int, -9 ≤ x → x ≤ 9 → -9 ≤ y → y ≤ 9 → -9 ≤ z → z ≤ 9 → ∀ r : Nat, r < 3 → -9223372036854775808 ≤ tri x y z r ∧ tri x y z r ≤ 9223372036854775807 := by
    intro x y z hx hx' hy hy' hz hz' r hr
    have hk : r = 0 ∨ r = 1 ∨ r = 2 := by omega
    rcases hk with rfl | rfl | rfl <;> (simp only [tri]; omega)
  have RR := Lib.hid rr; clear rr
  have qe := vec_same
  go_enter Try.func17, Try.ntmps17
  go_wp2_with fail
  refine (vDominant_any (tri 2 0 1) (tri 4 0 8) (RR.out _ _ _ (by decide) (by decide) (by decide) (by decide) (by decide) (by decide)) (RR.out _ _ _ (by decide) (by decide) (by decide) (by decide) (by decide) (by decide)) _).mono ?_
  rintro e w1 ⟨rfl, g1⟩
  rw [D1.out]
  go_wp2_with fail
  refine (vDominant_any (tri 0 1 0) (tri 4 0 8) (RR.out _ _ _ (by decide) (by decide) (by decide) (by decide) (by decide) (by decide)) (RR.out _ _ _ (by decide) (by decide) (by decide) (by decide) (by decide) (by decide)) _).mono ?_
  rintro e w2 ⟨rfl, g2⟩
  rw [D2.out]
  go_wp2_with fail
  refine (vAdd_any (tri 1 2 3) (tri 1 1 1) _).mono ?_
  rintro e w3 ⟨rfl, g3⟩
  rw [A0.out, A1.out, A2.out]
  go_wp2_with fail
  refine (vFits_any (tri 1 1 1) (tri 1 1 1) _).mono ?_
  rintro e w4 ⟨rfl, g4⟩
  rw [F1.out]
  go_wp2_with fail
  refine (vOver_any (tri 1 1 1) (tri 1 1 1) _).mono ?_
  rintro e w5 ⟨rfl, g5⟩
  rw [F1.out]
  go_wp2_with fail
  go_ret
  exact ⟨rfl, grown_trans g1 (grown_trans g2 (grown_trans g3 (grown_trans g4 g5)))⟩

set_option maxHeartbeats 1000000 in
theorem VecSums_walk (a b : Nat → Int) (w : World) :
    Calls Try.prog 3 #[.agg #[.int .i64 (a 0), .int .i64 (a 1), .int .i64 (a 2)], .agg #[.int .i64 (b 0), .int .i64 (b 1), .int .i64 (b 2)]] w (RetGrown (.bool true) w) := by
  go_enter Try.func3, Try.ntmps3
  go_wp2_with fail
  refine (rvFits_any _ _ _).mono ?_
  rintro e w' ⟨rfl, g⟩
  go_wp2_with fail
  have ca := grown_row ((grown_block g (by simp; omega)).trans (heap_second w (.cells #[.int .i64 (a 0), .int .i64 (a 1), .int .i64 (a 2)] 23) (.cells #[.int .i64 (b 0), .int .i64 (b 1), .int .i64 (b 2)] 23) 0 _ rfl))
  have cb := grown_row ((grown_block g (by simp)).trans (heap_top (w.alloc (.cells #[.int .i64 (a 0), .int .i64 (a 1), .int .i64 (a 2)] 23)) (.cells #[.int .i64 (b 0), .int .i64 (b 1), .int .i64 (b 2)] 23) 0 (w.heap.size + 1) (by simp)))
  have g0 : Grown w w' := grown_trans (((Grown.refl _).alloc _ _).alloc _ _) g
  refine region_quiet (fun w2 => Grown w' w2) (by kernel_rfl) (by kernel_rfl) (Grown.refl w').drew ?_
  repeat (first
    | (go_big_quiet_skip)
    | (refine quiet_row _ _ 23 _ _ ca rfl rfl ?_ Try.underlying23 rfl ?_ ?_; (focus kernel_rfl); (focus kernel_rfl); simp only [Act.put, List.setIfInBounds_toArray, List.set_cons_zero, List.set_cons_succ])
    | (refine quiet_row _ _ 23 _ _ cb rfl rfl ?_ Try.underlying23 rfl ?_ ?_; (focus kernel_rfl); (focus kernel_rfl); simp only [Act.put, List.setIfInBounds_toArray, List.set_cons_zero, List.set_cons_succ])
    | (refine quiet_bin _ 23 _ _ _ _ _ _ rfl rfl rfl (fun w => vec_same w _ _ _) (fun w => vec_guard w _ _ _ _ _) ?_ ?_; (focus kernel_rfl); simp only [Act.put, List.setIfInBounds_toArray, List.set_cons_zero, List.set_cons_succ])
    | (go_big_quiet_step ((intro g2; first
      | (with_reducible rfl)
      | (go_at_call 9; exact quiet_grown g2 (vAdd_any _ _ _))
      | (go_at_call 10; exact quiet_grown g2 (rvAdd_any _ _ _))
      | (go_at_call 11; exact quiet_grown g2 (vSub_any _ _ _))
      | (go_at_call 12; exact quiet_grown g2 (rvSub_any _ _ _))
      | (go_at_call 13; exact quiet_grown g2 (vFits_any _ _ _))
      | (go_at_call 14; exact quiet_grown g2 (vOver_any _ _ _))
      | (go_at_call 15; exact quiet_grown g2 (vMin_any _ _ _))
      | (go_at_call 16; exact quiet_grown g2 (rvMin_any _ _ _))
      | (go_at_call 17; exact quiet_grown g2 (vAwake_any _))))))
  refine wpQuiet_nil ?_
  intro w3 g3
  go_wp2_with fail
  go_ret
  exact ⟨rfl, grown_trans g0 g3⟩

set_option maxHeartbeats 1000000 in
theorem VecTimes_walk (a : Nat → Int) (m : Int) (w : World) :
    Calls Try.prog 4 #[.agg #[.int .i64 (a 0), .int .i64 (a 1), .int .i64 (a 2)], .int .i64 m] w (RetGrown (.bool true) w) := by
  go_enter Try.func4, Try.ntmps4
  go_wp2_with fail
  have ca := grown_row (heap_top w (.cells #[.int .i64 (a 0), .int .i64 (a 1), .int .i64 (a 2)] 23) 0 _ rfl)
  have g0 : Grown w (w.alloc (.cells #[.int .i64 (a 0), .int .i64 (a 1), .int .i64 (a 2)] 23)) := (Grown.refl _).alloc _ _
  refine region_quiet (fun w2 => Grown (w.alloc (.cells #[.int .i64 (a 0), .int .i64 (a 1), .int .i64 (a 2)] 23)) w2) (by kernel_rfl) (by kernel_rfl) (Grown.refl _).drew ?_
  repeat (first
    | (go_big_quiet_skip)
    | (refine quiet_row _ _ 23 _ _ ca rfl rfl ?_ Try.underlying23 rfl ?_ ?_; (focus kernel_rfl); (focus kernel_rfl); simp only [Act.put, List.setIfInBounds_toArray, List.set_cons_zero, List.set_cons_succ])
    | (refine quiet_bin _ 23 _ _ _ _ _ _ rfl rfl rfl (fun w => vec_same w _ _ _) (fun w => vec_guard w _ _ _ _ _) ?_ ?_; (focus kernel_rfl); simp only [Act.put, List.setIfInBounds_toArray, List.set_cons_zero, List.set_cons_succ])
    | (go_big_quiet_step ((intro g2; first
      | (with_reducible rfl)
      | (go_at_call 18; exact quiet_grown g2 (vTimes_any _ _ _))
      | (go_at_call 19; exact quiet_grown g2 (rvTimes_any _ _ _))
      | (go_at_call 20; exact quiet_grown g2 (vValid_any _ _))
      | (go_at_call 21; exact quiet_grown g2 (rvValid_any _ _))
      | (go_at_call 17; exact quiet_grown g2 (vAwake_any _))))))
  refine wpQuiet_nil ?_
  intro w3 g3
  go_wp2_with fail
  go_ret
  exact ⟨rfl, grown_trans g0 g3⟩

set_option maxHeartbeats 1000000 in
theorem VecDominant_walk (a b : Nat → Int) (ra : ∀ r : Nat, r < 3 → -9223372036854775808 ≤ a r ∧ a r ≤ 9223372036854775807) (rb : ∀ r : Nat, r < 3 → -9223372036854775808 ≤ b r ∧ b r ≤ 9223372036854775807) (w : World) :
    Calls Try.prog 5 #[.agg #[.int .i64 (a 0), .int .i64 (a 1), .int .i64 (a 2)], .agg #[.int .i64 (b 0), .int .i64 (b 1), .int .i64 (b 2)]] w (RetGrown (.bool true) w) := by
  go_enter Try.func5, Try.ntmps5
  go_wp2_with fail
  have ca := grown_row (heap_second w (.cells #[.int .i64 (a 0), .int .i64 (a 1), .int .i64 (a 2)] 23) (.cells #[.int .i64 (b 0), .int .i64 (b 1), .int .i64 (b 2)] 23) 0 _ rfl)
  have cb := grown_row (heap_top (w.alloc (.cells #[.int .i64 (a 0), .int .i64 (a 1), .int .i64 (a 2)] 23)) (.cells #[.int .i64 (b 0), .int .i64 (b 1), .int .i64 (b 2)] 23) 0 (w.heap.size + 1) (by simp))
  have g0 : Grown w ((w.alloc (.cells #[.int .i64 (a 0), .int .i64 (a 1), .int .i64 (a 2)] 23)).alloc (.cells #[.int .i64 (b 0), .int .i64 (b 1), .int .i64 (b 2)] 23)) := ((Grown.refl _).alloc _ _).alloc _ _
  refine region_quiet (fun w2 => Grown ((w.alloc (.cells #[.int .i64 (a 0), .int .i64 (a 1), .int .i64 (a 2)] 23)).alloc (.cells #[.int .i64 (b 0), .int .i64 (b 1), .int .i64 (b 2)] 23)) w2) (by kernel_rfl) (by kernel_rfl) (Grown.refl _).drew ?_
  repeat (first
    | (go_big_quiet_skip)
    | (refine quiet_row _ _ 23 _ _ ca rfl rfl ?_ Try.underlying23 rfl ?_ ?_; (focus kernel_rfl); (focus kernel_rfl); simp only [Act.put, List.setIfInBounds_toArray, List.set_cons_zero, List.set_cons_succ])
    | (refine quiet_row _ _ 23 _ _ cb rfl rfl ?_ Try.underlying23 rfl ?_ ?_; (focus kernel_rfl); (focus kernel_rfl); simp only [Act.put, List.setIfInBounds_toArray, List.set_cons_zero, List.set_cons_succ])
    | (go_big_quiet_step ((intro g2; first
      | (with_reducible rfl)
      | (go_at_call 22; exact quiet_grown g2 (vDominant_any _ _ ra rb _))
      | (go_at_call 23; exact quiet_grown g2 (rvDominant_any _ _ ra rb _))
      | (go_at_call 17; exact quiet_grown g2 (vAwake_any _))))))
  refine wpQuiet_nil ?_
  intro w3 g3
  go_wp2_with fail
  go_ret
  exact ⟨rfl, grown_trans g0 g3⟩

end Go.Proofs.Ytkdllgnejkmfhaa
