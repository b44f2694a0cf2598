/- Amounts: the walks of two more statements. -/
import Derived.Test.YtkdllgnejkmfhaaVecL
namespace Go.Proofs.Ytkdllgnejkmfhaa
open Go.RowKit
set_option linter.unusedVariables false

theorem vec_eq_of (w : World) (x y : Nat → Int) (h0 : x 0 = y 0) (h1 : x 1 = y 1) (h2 : x 2 = y 2) : (binOp .eql 23 (.agg #[.int .i64 (x 0), .int .i64 (x 1), .int .i64 (x 2)]) (.agg #[.int .i64 (y 0), .int .i64 (y 1), .int .i64 (y 2)])).run Try.prog w = .ok (.bool true) w := by
  rw [h0, h1, h2]; exact vec_same w _ _ _

theorem fits_true (a b : Nat → Int) (h : Vc.fits a b = true) (w : World) : Calls Try.prog 13 #[.agg #[.int .i64 (a 0), .int .i64 (a 1), .int .i64 (a 2)], .agg #[.int .i64 (b 0), .int .i64 (b 1), .int .i64 (b 2)]] w (RetGrown (.bool true) w) := by
  have := vFits_any a b w
  rwa [h] at this

set_option maxHeartbeats 1000000 in
theorem VecBack_none (a b : Nat → Int) (w : World) (h : ¬ (Vc.valid a = true ∧ Vc.valid b = true)) :
    Calls Try.prog 6 #[.agg #[.int .i64 (a 0), .int .i64 (a 1), .int .i64 (a 2)], .agg #[.int .i64 (b 0), .int .i64 (b 1), .int .i64 (b 2)]] w (RetGrown (.bool true) w) := by
  obtain ⟨p, hp⟩ : ∃ p, Vc.valid a = p := ⟨_, rfl⟩
  obtain ⟨q, hq⟩ : ∃ q, Vc.valid b = q := ⟨_, rfl⟩
  rw [hp, hq] at h
  have HP := Lib.hid hp; have HQ := Lib.hid hq
  clear hp hq
  go_enter Try.func6, Try.ntmps6
  go_wp2_with fail
  refine (rvValid_any _ _).mono ?_
  rintro e w1 ⟨rfl, g1⟩
  rw [HP.out]
  have g0 : Grown w w1 := grown_trans (((Grown.refl _).alloc _ _).alloc _ _) g1
  have hb := (grown_block g1 (by simp)).trans (heap_top (w.alloc (.cells #[.int .i64 (a 0), .int .i64 (a 1), .int .i64 (a 2)] 23)) (.cells #[.int .i64 (b 0), .int .i64 (b 1), .int .i64 (b 2)] 23) 0 (w.heap.size + 1) (by simp))
  have b0 := cell_of_row w1 _ 0 _ _ _ hb
  have b1 := cell_of_row w1 _ 1 _ _ _ hb
  have b2 := cell_of_row w1 _ 2 _ _ _ hb
  clear hb
  cases p
  · clear b0 b1 b2
    go_wp2_with fail
    refine (vAwake_any _).mono ?_
    rintro e w2 ⟨rfl, g2⟩
    go_wp2_with fail
    go_ret
    exact ⟨rfl, grown_trans g0 g2⟩
  · obtain rfl : q = false := by simpa using h
    go_wp2_with fail
    refine (rvValid_any _ _).mono ?_
    rintro e w2 ⟨rfl, g2⟩
    rw [HQ.out]
    go_wp2_with fail
    refine (vAwake_any _).mono ?_
    rintro e w3 ⟨rfl, g3⟩
    go_wp2_with fail
    go_ret
    exact ⟨rfl, grown_trans (grown_trans g0 g2) g3⟩

set_option maxHeartbeats 1000000 in
theorem VecBack_all (a b : Nat → Int) (w : World) (ha : Vc.valid a = true) (hb : Vc.valid b = true) :
    Calls Try.prog 6 #[.agg #[.int .i64 (a 0), .int .i64 (a 1), .int .i64 (a 2)], .agg #[.int .i64 (b 0), .int .i64 (b 1), .int .i64 (b 2)]] w (RetGrown (.bool true) w) := by
  obtain ⟨a0, a1, a2⟩ := Vc.valid_all a ha
  obtain ⟨b0, b1, b2⟩ := Vc.valid_all b hb
  have q1 := fun w => vec_eq_of w (Vc.subv (Vc.addv a b) b) a (Vc.back_one _ _ a0 b0) (Vc.back_one _ _ a1 b1) (Vc.back_one _ _ a2 b2)
  have q2 := fun w => vec_eq_of w (Vc.timesv a 2) (Vc.addv a a) (Vc.twice_one _ a0) (Vc.twice_one _ a1) (Vc.twice_one _ a2)
  have f1 := fits_true a (Vc.addv a b) (Vc.fits_add a b ha hb)
  have f2 := fits_true (Vc.leastv a b) a (Vc.fits_least a b).1
  have f3 := fits_true (Vc.leastv a b) b (Vc.fits_least a b).2
  have HA := Lib.hid ha; have HB := Lib.hid hb; have Q1 := Lib.hid q1; have Q2 := Lib.hid q2; have F1 := Lib.hid f1; have F2 := Lib.hid f2; have F3 := Lib.hid f3
  clear ha hb a0 a1 a2 b0 b1 b2 q1 q2 f1 f2 f3
  go_enter Try.func6, Try.ntmps6
  go_wp2_with fail
  refine (rvValid_any _ _).mono ?_
  rintro e w1 ⟨rfl, g1⟩
  rw [HA.out]
  have g0 : Grown w w1 := grown_trans (((Grown.refl _).alloc _ _).alloc _ _) g1
  have hA1 := (grown_block g1 (by simp; omega)).trans (heap_second w (.cells #[.int .i64 (a 0), .int .i64 (a 1), .int .i64 (a 2)] 23) (.cells #[.int .i64 (b 0), .int .i64 (b 1), .int .i64 (b 2)] 23) 0 _ rfl)
  have hB1 := (grown_block g1 (by simp)).trans (heap_top (w.alloc (.cells #[.int .i64 (a 0), .int .i64 (a 1), .int .i64 (a 2)] 23)) (.cells #[.int .i64 (b 0), .int .i64 (b 1), .int .i64 (b 2)] 23) 0 (w.heap.size + 1) (by simp))
  have b0 := cell_of_row w1 _ 0 _ _ _ hB1
  have b1 := cell_of_row w1 _ 1 _ _ _ hB1
  have b2 := cell_of_row w1 _ 2 _ _ _ hB1
  have HA1 := Lib.hid hA1; have HB1 := Lib.hid hB1
  clear hA1 hB1
  go_wp2_with fail
  refine (rvValid_any _ _).mono ?_
  rintro e w2 ⟨rfl, g2⟩
  rw [HB.out]
  clear b0 b1 b2
  have hA2 := (grown_block g2 (lt_of_block HA1.out)).trans HA1.out
  have hB2 := (grown_block g2 (lt_of_block HB1.out)).trans HB1.out
  have a0 := cell_of_row w2 _ 0 _ _ _ hA2
  have a1 := cell_of_row w2 _ 1 _ _ _ hA2
  have a2 := cell_of_row w2 _ 2 _ _ _ hA2
  have b0 := cell_of_row w2 _ 0 _ _ _ hB2
  have b1 := cell_of_row w2 _ 1 _ _ _ hB2
  have b2 := cell_of_row w2 _ 2 _ _ _ hB2
  have HA2 := Lib.hid hA2; have HB2 := Lib.hid hB2
  clear hA2 hB2
  go_wp2_with fail
  refine (vAdd_any _ _ _).mono ?_
  rintro e w3 ⟨rfl, g3⟩
  clear a0 a1 a2 b0 b1 b2
  have hA3 := (grown_block g3 (lt_of_block HA2.out)).trans HA2.out
  have hB3 := (grown_block g3 (lt_of_block HB2.out)).trans HB2.out
  have ca := grown_row ((grown_block ((Grown.refl w3).alloc #[.int .i64 (Vc.addv a b 0), .int .i64 (Vc.addv a b 1), .int .i64 (Vc.addv a b 2)] 23) (lt_of_block hA3)).trans hA3)
  have cb := grown_row ((grown_block ((Grown.refl w3).alloc #[.int .i64 (Vc.addv a b 0), .int .i64 (Vc.addv a b 1), .int .i64 (Vc.addv a b 2)] 23) (lt_of_block hB3)).trans hB3)
  have cc := grown_row (heap_top w3 (.cells #[.int .i64 (Vc.addv a b 0), .int .i64 (Vc.addv a b 1), .int .i64 (Vc.addv a b 2)] 23) 0 _ rfl)
  have CA := Lib.hid ca; have CB := Lib.hid cb; have CC := Lib.hid cc
  clear hA3 hB3 ca cb cc
  go_wp2_with fail
  have gg : Grown w (w3.alloc (.cells #[.int .i64 (Vc.addv a b 0), .int .i64 (Vc.addv a b 1), .int .i64 (Vc.addv a b 2)] 23)) := (grown_trans g0 (grown_trans g2 g3)).alloc _ _
  refine region_quiet (fun w4 => Grown (w3.alloc (.cells #[.int .i64 (Vc.addv a b 0), .int .i64 (Vc.addv a b 1), .int .i64 (Vc.addv a b 2)] 23)) w4) (by kernel_rfl) (by kernel_rfl) (Grown.refl _).drew ?_
  repeat (first
    | (go_big_quiet_skip)
    | (refine quiet_row _ _ 23 _ _ CA.out rfl rfl ?_ Try.underlying23 rfl ?_ ?_; (focus kernel_rfl); (focus kernel_rfl); simp only [Act.put, List.setIfInBounds_toArray, List.set_cons_zero, List.set_cons_succ])
    | (refine quiet_row _ _ 23 _ _ CB.out rfl rfl ?_ Try.underlying23 rfl ?_ ?_; (focus kernel_rfl); (focus kernel_rfl); simp only [Act.put, List.setIfInBounds_toArray, List.set_cons_zero, List.set_cons_succ])
    | (refine quiet_row _ _ 23 _ _ CC.out rfl rfl ?_ Try.underlying23 rfl ?_ ?_; (focus kernel_rfl); (focus kernel_rfl); simp only [Act.put, List.setIfInBounds_toArray, List.set_cons_zero, List.set_cons_succ])
    | (refine quiet_bin _ 23 _ _ _ _ _ _ rfl rfl rfl (fun w => Q1.out w) (fun w => vec_guard w _ _ _ _ _) ?_ ?_; (focus kernel_rfl); simp only [Act.put, List.setIfInBounds_toArray, List.set_cons_zero, List.set_cons_succ])
    | (refine quiet_bin _ 23 _ _ _ _ _ _ rfl rfl rfl (fun w => Q2.out w) (fun w => vec_guard w _ _ _ _ _) ?_ ?_; (focus kernel_rfl); simp only [Act.put, List.setIfInBounds_toArray, List.set_cons_zero, List.set_cons_succ])
    | (go_big_quiet_step ((intro g2; first
      | (with_reducible rfl)
      | (go_at_call 11; with_reducible exact quiet_grown g2 (vSub_any _ _ _))
      | (go_at_call 18; with_reducible exact quiet_grown g2 (vTimes_any _ _ _))
      | (go_at_call 9; with_reducible exact quiet_grown g2 (vAdd_any _ _ _))
      | (go_at_call 15; with_reducible exact quiet_grown g2 (vMin_any _ _ _))
      | (go_at_call 13; with_reducible exact quiet_grown g2 (F1.out _))
      | (go_at_call 13; with_reducible exact quiet_grown g2 (F2.out _))
      | (go_at_call 13; with_reducible exact quiet_grown g2 (F3.out _))
      | (go_at_call 17; with_reducible exact quiet_grown g2 (vAwake_any _))))))
  refine wpQuiet_nil ?_
  intro w5 g5
  go_wp2_with fail
  go_ret
  exact ⟨rfl, grown_trans gg g5⟩

theorem VecBack_walk (a b : Nat → Int) (w : World) : Calls Try.prog 6 #[.agg #[.int .i64 (a 0), .int .i64 (a 1), .int .i64 (a 2)], .agg #[.int .i64 (b 0), .int .i64 (b 1), .int .i64 (b 2)]] w (RetGrown (.bool true) w) := by
  by_cases h : Vc.valid a = true ∧ Vc.valid b = true
  · exact VecBack_all a b w h.1 h.2
  · exact VecBack_none a b w h

end Go.Proofs.Ytkdllgnejkmfhaa
