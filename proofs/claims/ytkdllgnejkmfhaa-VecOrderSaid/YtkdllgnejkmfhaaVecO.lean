/- Amounts: the walk of the last statement. -/
import Derived.Test.YtkdllgnejkmfhaaVecM
namespace Go.Proofs.Ytkdllgnejkmfhaa
open Go.RowKit
set_option linter.unusedVariables false

theorem fits_false (a b : Nat → Int) (h : Vc.fits a b = false) (w : World) : Calls Try.prog 13 #[.agg #[.int .i64 (a 0), .int .i64 (a 1), .int .i64 (a 2)], .agg #[.int .i64 (b 0), .int .i64 (b 1), .int .i64 (b 2)]] w (RetGrown (.bool false) w) := by
  have := vFits_any a b w
  rwa [h] at this

set_option maxHeartbeats 1000000 in
theorem VecOrder_no (a b c : Nat → Int) (ra : ∀ r : Nat, r < 3 → -9223372036854775808 ≤ a r ∧ a r ≤ 9223372036854775807) (rb : ∀ r : Nat, r < 3 → -9223372036854775808 ≤ b r ∧ b r ≤ 9223372036854775807) (rc : ∀ r : Nat, r < 3 → -9223372036854775808 ≤ c r ∧ c r ≤ 9223372036854775807) (w : World) (hp : Vc.fits a b = false) :
    Calls Try.prog 7 #[.agg #[.int .i64 (a 0), .int .i64 (a 1), .int .i64 (a 2)], .agg #[.int .i64 (b 0), .int .i64 (b 1), .int .i64 (b 2)], .agg #[.int .i64 (c 0), .int .i64 (c 1), .int .i64 (c 2)]] w (RetGrown (.bool true) w) := by
  have F1 := Lib.hid (fits_false a b hp)
  have HP := Lib.hid hp; clear hp
  have ra' := Lib.hid ra; have rb' := Lib.hid rb; have rc' := Lib.hid rc
  clear ra rb rc
  go_enter Try.func7, Try.ntmps7
  go_wp2_with fail
  have g0 : Grown w (((w.alloc (.cells #[.int .i64 (a 0), .int .i64 (a 1), .int .i64 (a 2)] 23)).alloc (.cells #[.int .i64 (b 0), .int .i64 (b 1), .int .i64 (b 2)] 23)).alloc (.cells #[.int .i64 (c 0), .int .i64 (c 1), .int .i64 (c 2)] 23)) := (((Grown.refl _).alloc _ _).alloc _ _).alloc _ _
  have hA := row_cells ((Grown.refl ((w.alloc (.cells #[.int .i64 (a 0), .int .i64 (a 1), .int .i64 (a 2)] 23)).alloc (.cells #[.int .i64 (b 0), .int .i64 (b 1), .int .i64 (b 2)] 23))).alloc #[.int .i64 (c 0), .int .i64 (c 1), .int .i64 (c 2)] 23) (heap_second w (.cells #[.int .i64 (a 0), .int .i64 (a 1), .int .i64 (a 2)] 23) (.cells #[.int .i64 (b 0), .int .i64 (b 1), .int .i64 (b 2)] 23) 0 _ rfl)
  have hB := heap_second (w.alloc (.cells #[.int .i64 (a 0), .int .i64 (a 1), .int .i64 (a 2)] 23)) (.cells #[.int .i64 (b 0), .int .i64 (b 1), .int .i64 (b 2)] 23) (.cells #[.int .i64 (c 0), .int .i64 (c 1), .int .i64 (c 2)] 23) 0 (w.heap.size + 1) (by simp)
  have hC := heap_top ((w.alloc (.cells #[.int .i64 (a 0), .int .i64 (a 1), .int .i64 (a 2)] 23)).alloc (.cells #[.int .i64 (b 0), .int .i64 (b 1), .int .i64 (b 2)] 23)) (.cells #[.int .i64 (c 0), .int .i64 (c 1), .int .i64 (c 2)] 23) 0 (w.heap.size + 1 + 1) (by simp)
  have HA := Lib.hid hA; have HB := Lib.hid hB; have HC := Lib.hid hC
  clear hA hB hC
  refine (vFits_any a b _).mono ?_
  rintro e w1 ⟨rfl, g1⟩
  rw [HP.out]
  go_wp2_with fail
  have G := Lib.hid g1; clear g1
  have CA := Lib.hid (grown_row (row_cells G.out HA.out)); have CB := Lib.hid (grown_row (row_cells G.out HB.out)); have CC := Lib.hid (grown_row (row_cells G.out HC.out))
  refine region_quiet (fun w4 => Grown w1 w4) (by kernel_rfl) (by kernel_rfl) (Grown.refl _).drew ?_
  repeat (first
    | (go_big_quiet_skip)
    | (refine quiet_row _ _ 23 _ _ CA.out rfl rfl ?_ Try.underlying23 rfl ?_ ?_; (focus kernel_rfl); (focus kernel_rfl); simp only [Act.put, List.setIfInBounds_toArray, List.set_cons_zero, List.set_cons_succ])
    | (refine quiet_row _ _ 23 _ _ CB.out rfl rfl ?_ Try.underlying23 rfl ?_ ?_; (focus kernel_rfl); (focus kernel_rfl); simp only [Act.put, List.setIfInBounds_toArray, List.set_cons_zero, List.set_cons_succ])
    | (refine quiet_row _ _ 23 _ _ CC.out rfl rfl ?_ Try.underlying23 rfl ?_ ?_; (focus kernel_rfl); (focus kernel_rfl); simp only [Act.put, List.setIfInBounds_toArray, List.set_cons_zero, List.set_cons_succ])
    | (go_big_quiet_step ((intro g2; first
      | (with_reducible rfl)
      | (go_at_call 13; with_reducible exact quiet_grown g2 (F1.out _))
      | (go_at_call 17; with_reducible exact quiet_grown g2 (vAwake_any _))))))
  refine wpQuiet_nil ?_
  intro w5 g5
  go_wp2_with fail
  go_ret
  exact ⟨rfl, grown_trans g0 (grown_trans G.out g5)⟩

set_option maxHeartbeats 1000000 in
theorem VecOrder_one (a b c : Nat → Int) (ra : ∀ r : Nat, r < 3 → -9223372036854775808 ≤ a r ∧ a r ≤ 9223372036854775807) (rb : ∀ r : Nat, r < 3 → -9223372036854775808 ≤ b r ∧ b r ≤ 9223372036854775807) (rc : ∀ r : Nat, r < 3 → -9223372036854775808 ≤ c r ∧ c r ≤ 9223372036854775807) (w : World) (hp : Vc.fits a b = true) (hq : Vc.fits b c = false) :
    Calls Try.prog 7 #[.agg #[.int .i64 (a 0), .int .i64 (a 1), .int .i64 (a 2)], .agg #[.int .i64 (b 0), .int .i64 (b 1), .int .i64 (b 2)], .agg #[.int .i64 (c 0), .int .i64 (c 1), .int .i64 (c 2)]] w (RetGrown (.bool true) w) := by
  have hle := Vc.domv_mono a b c hp
  have HL := Lib.hid hle; clear hle
  have F1 := Lib.hid (fits_true a b hp)
  have HP := Lib.hid hp; clear hp
  have HQ := Lib.hid hq; clear hq
  have ra' := Lib.hid ra; have rb' := Lib.hid rb; have rc' := Lib.hid rc
  clear ra rb rc
  go_enter Try.func7, Try.ntmps7
  go_wp2_with fail
  have g0 : Grown w (((w.alloc (.cells #[.int .i64 (a 0), .int .i64 (a 1), .int .i64 (a 2)] 23)).alloc (.cells #[.int .i64 (b 0), .int .i64 (b 1), .int .i64 (b 2)] 23)).alloc (.cells #[.int .i64 (c 0), .int .i64 (c 1), .int .i64 (c 2)] 23)) := (((Grown.refl _).alloc _ _).alloc _ _).alloc _ _
  have hA := row_cells ((Grown.refl ((w.alloc (.cells #[.int .i64 (a 0), .int .i64 (a 1), .int .i64 (a 2)] 23)).alloc (.cells #[.int .i64 (b 0), .int .i64 (b 1), .int .i64 (b 2)] 23))).alloc #[.int .i64 (c 0), .int .i64 (c 1), .int .i64 (c 2)] 23) (heap_second w (.cells #[.int .i64 (a 0), .int .i64 (a 1), .int .i64 (a 2)] 23) (.cells #[.int .i64 (b 0), .int .i64 (b 1), .int .i64 (b 2)] 23) 0 _ rfl)
  have hB := heap_second (w.alloc (.cells #[.int .i64 (a 0), .int .i64 (a 1), .int .i64 (a 2)] 23)) (.cells #[.int .i64 (b 0), .int .i64 (b 1), .int .i64 (b 2)] 23) (.cells #[.int .i64 (c 0), .int .i64 (c 1), .int .i64 (c 2)] 23) 0 (w.heap.size + 1) (by simp)
  have hC := heap_top ((w.alloc (.cells #[.int .i64 (a 0), .int .i64 (a 1), .int .i64 (a 2)] 23)).alloc (.cells #[.int .i64 (b 0), .int .i64 (b 1), .int .i64 (b 2)] 23)) (.cells #[.int .i64 (c 0), .int .i64 (c 1), .int .i64 (c 2)] 23) 0 (w.heap.size + 1 + 1) (by simp)
  have HA := Lib.hid hA; have HB := Lib.hid hB; have HC := Lib.hid hC
  clear hA hB hC
  refine (vFits_any a b _).mono ?_
  rintro e w1 ⟨rfl, g1⟩
  rw [HP.out]
  have b0 := cell_of_row w1 _ 0 _ _ _ (row_cells g1 HB.out)
  have b1 := cell_of_row w1 _ 1 _ _ _ (row_cells g1 HB.out)
  have b2 := cell_of_row w1 _ 2 _ _ _ (row_cells g1 HB.out)
  have c0 := cell_of_row w1 _ 0 _ _ _ (row_cells g1 HC.out)
  have c1 := cell_of_row w1 _ 1 _ _ _ (row_cells g1 HC.out)
  have c2 := cell_of_row w1 _ 2 _ _ _ (row_cells g1 HC.out)
  have G1 := Lib.hid g1; clear g1
  go_wp2_with fail
  refine (vFits_any b c _).mono ?_
  rintro e w2 ⟨rfl, g2⟩
  rw [HQ.out]
  clear b0 b1 b2 c0 c1 c2
  go_wp2_with fail
  have G := Lib.hid (grown_trans G1.out g2); clear g2
  have hle := HL.out
  have CA := Lib.hid (grown_row (row_cells G.out HA.out)); have CB := Lib.hid (grown_row (row_cells G.out HB.out)); have CC := Lib.hid (grown_row (row_cells G.out HC.out))
  refine region_quiet (fun w4 => Grown w2 w4) (by kernel_rfl) (by kernel_rfl) (Grown.refl _).drew ?_
  repeat (first
    | (go_big_quiet_skip)
    | (refine quiet_row _ _ 23 _ _ CA.out rfl rfl ?_ Try.underlying23 rfl ?_ ?_; (focus kernel_rfl); (focus kernel_rfl); simp only [Act.put, List.setIfInBounds_toArray, List.set_cons_zero, List.set_cons_succ])
    | (refine quiet_row _ _ 23 _ _ CB.out rfl rfl ?_ Try.underlying23 rfl ?_ ?_; (focus kernel_rfl); (focus kernel_rfl); simp only [Act.put, List.setIfInBounds_toArray, List.set_cons_zero, List.set_cons_succ])
    | (refine quiet_row _ _ 23 _ _ CC.out rfl rfl ?_ Try.underlying23 rfl ?_ ?_; (focus kernel_rfl); (focus kernel_rfl); simp only [Act.put, List.setIfInBounds_toArray, List.set_cons_zero, List.set_cons_succ])
    | (go_big_quiet_step ((intro g2; first
      | (with_reducible rfl)
      | (go_at_call 13; with_reducible exact quiet_grown g2 (F1.out _))
      | (go_at_call 22; with_reducible exact quiet_grown g2 (vDominant_any _ _ ra'.out rc'.out _))
      | (go_at_call 22; with_reducible exact quiet_grown g2 (vDominant_any _ _ rb'.out rc'.out _))
      | (go_at_call 17; with_reducible exact quiet_grown g2 (vAwake_any _))))))
  refine wpQuiet_nil ?_
  intro w5 g5
  go_wp2_with fail
  go_ret
  exact ⟨rfl, grown_trans g0 (grown_trans G.out g5)⟩

set_option maxHeartbeats 1000000 in
theorem VecOrder_two (a b c : Nat → Int) (ra : ∀ r : Nat, r < 3 → -9223372036854775808 ≤ a r ∧ a r ≤ 9223372036854775807) (rb : ∀ r : Nat, r < 3 → -9223372036854775808 ≤ b r ∧ b r ≤ 9223372036854775807) (rc : ∀ r : Nat, r < 3 → -9223372036854775808 ≤ c r ∧ c r ≤ 9223372036854775807) (w : World) (hp : Vc.fits a b = true) (hq : Vc.fits b c = true) :
    Calls Try.prog 7 #[.agg #[.int .i64 (a 0), .int .i64 (a 1), .int .i64 (a 2)], .agg #[.int .i64 (b 0), .int .i64 (b 1), .int .i64 (b 2)], .agg #[.int .i64 (c 0), .int .i64 (c 1), .int .i64 (c 2)]] w (RetGrown (.bool true) w) := by
  have hle := Vc.domv_mono a b c hp
  have HL := Lib.hid hle; clear hle
  have F1 := Lib.hid (fits_true a b hp)
  have hr := Vc.fits_trans a b c hp hq
  have HP := Lib.hid hp; clear hp
  have HQ := Lib.hid hq; clear hq
  have HR := Lib.hid hr; clear hr
  have ra' := Lib.hid ra; have rb' := Lib.hid rb; have rc' := Lib.hid rc
  clear ra rb rc
  go_enter Try.func7, Try.ntmps7
  go_wp2_with fail
  have g0 : Grown w (((w.alloc (.cells #[.int .i64 (a 0), .int .i64 (a 1), .int .i64 (a 2)] 23)).alloc (.cells #[.int .i64 (b 0), .int .i64 (b 1), .int .i64 (b 2)] 23)).alloc (.cells #[.int .i64 (c 0), .int .i64 (c 1), .int .i64 (c 2)] 23)) := (((Grown.refl _).alloc _ _).alloc _ _).alloc _ _
  have hA := row_cells ((Grown.refl ((w.alloc (.cells #[.int .i64 (a 0), .int .i64 (a 1), .int .i64 (a 2)] 23)).alloc (.cells #[.int .i64 (b 0), .int .i64 (b 1), .int .i64 (b 2)] 23))).alloc #[.int .i64 (c 0), .int .i64 (c 1), .int .i64 (c 2)] 23) (heap_second w (.cells #[.int .i64 (a 0), .int .i64 (a 1), .int .i64 (a 2)] 23) (.cells #[.int .i64 (b 0), .int .i64 (b 1), .int .i64 (b 2)] 23) 0 _ rfl)
  have hB := heap_second (w.alloc (.cells #[.int .i64 (a 0), .int .i64 (a 1), .int .i64 (a 2)] 23)) (.cells #[.int .i64 (b 0), .int .i64 (b 1), .int .i64 (b 2)] 23) (.cells #[.int .i64 (c 0), .int .i64 (c 1), .int .i64 (c 2)] 23) 0 (w.heap.size + 1) (by simp)
  have hC := heap_top ((w.alloc (.cells #[.int .i64 (a 0), .int .i64 (a 1), .int .i64 (a 2)] 23)).alloc (.cells #[.int .i64 (b 0), .int .i64 (b 1), .int .i64 (b 2)] 23)) (.cells #[.int .i64 (c 0), .int .i64 (c 1), .int .i64 (c 2)] 23) 0 (w.heap.size + 1 + 1) (by simp)
  have HA := Lib.hid hA; have HB := Lib.hid hB; have HC := Lib.hid hC
  clear hA hB hC
  refine (vFits_any a b _).mono ?_
  rintro e w1 ⟨rfl, g1⟩
  rw [HP.out]
  have b0 := cell_of_row w1 _ 0 _ _ _ (row_cells g1 HB.out)
  have b1 := cell_of_row w1 _ 1 _ _ _ (row_cells g1 HB.out)
  have b2 := cell_of_row w1 _ 2 _ _ _ (row_cells g1 HB.out)
  have c0 := cell_of_row w1 _ 0 _ _ _ (row_cells g1 HC.out)
  have c1 := cell_of_row w1 _ 1 _ _ _ (row_cells g1 HC.out)
  have c2 := cell_of_row w1 _ 2 _ _ _ (row_cells g1 HC.out)
  have G1 := Lib.hid g1; clear g1
  go_wp2_with fail
  refine (vFits_any b c _).mono ?_
  rintro e w2 ⟨rfl, g2⟩
  rw [HQ.out]
  clear b0 b1 b2 c0 c1 c2
  have g2 := grown_trans G1.out g2
  have a0 := cell_of_row w2 _ 0 _ _ _ (row_cells g2 HA.out)
  have a1 := cell_of_row w2 _ 1 _ _ _ (row_cells g2 HA.out)
  have a2 := cell_of_row w2 _ 2 _ _ _ (row_cells g2 HA.out)
  have c0 := cell_of_row w2 _ 0 _ _ _ (row_cells g2 HC.out)
  have c1 := cell_of_row w2 _ 1 _ _ _ (row_cells g2 HC.out)
  have c2 := cell_of_row w2 _ 2 _ _ _ (row_cells g2 HC.out)
  have G2 := Lib.hid g2; clear g2
  go_wp2_with fail
  refine (vFits_any a c _).mono ?_
  rintro e w3 ⟨rfl, g3⟩
  rw [HR.out]
  clear a0 a1 a2 c0 c1 c2
  go_wp2_with fail
  have G := Lib.hid (grown_trans G2.out g3); clear g3
  have hle := HL.out
  have CA := Lib.hid (grown_row (row_cells G.out HA.out)); have CB := Lib.hid (grown_row (row_cells G.out HB.out)); have CC := Lib.hid (grown_row (row_cells G.out HC.out))
  refine region_quiet (fun w4 => Grown w3 w4) (by kernel_rfl) (by kernel_rfl) (Grown.refl _).drew ?_
  repeat (first
    | (go_big_quiet_skip)
    | (refine quiet_row _ _ 23 _ _ CA.out rfl rfl ?_ Try.underlying23 rfl ?_ ?_; (focus kernel_rfl); (focus kernel_rfl); simp only [Act.put, List.setIfInBounds_toArray, List.set_cons_zero, List.set_cons_succ])
    | (refine quiet_row _ _ 23 _ _ CB.out rfl rfl ?_ Try.underlying23 rfl ?_ ?_; (focus kernel_rfl); (focus kernel_rfl); simp only [Act.put, List.setIfInBounds_toArray, List.set_cons_zero, List.set_cons_succ])
    | (refine quiet_row _ _ 23 _ _ CC.out rfl rfl ?_ Try.underlying23 rfl ?_ ?_; (focus kernel_rfl); (focus kernel_rfl); simp only [Act.put, List.setIfInBounds_toArray, List.set_cons_zero, List.set_cons_succ])
    | (go_big_quiet_step ((intro g2; first
      | (with_reducible rfl)
      | (go_at_call 13; with_reducible exact quiet_grown g2 (F1.out _))
      | (go_at_call 22; with_reducible exact quiet_grown g2 (vDominant_any _ _ ra'.out rc'.out _))
      | (go_at_call 22; with_reducible exact quiet_grown g2 (vDominant_any _ _ rb'.out rc'.out _))
      | (go_at_call 17; with_reducible exact quiet_grown g2 (vAwake_any _))))))
  refine wpQuiet_nil ?_
  intro w5 g5
  go_wp2_with fail
  go_ret
  exact ⟨rfl, grown_trans g0 (grown_trans G.out g5)⟩

theorem VecOrder_walk (a b c : Nat → Int) (ra : ∀ r : Nat, r < 3 → -9223372036854775808 ≤ a r ∧ a r ≤ 9223372036854775807) (rb : ∀ r : Nat, r < 3 → -9223372036854775808 ≤ b r ∧ b r ≤ 9223372036854775807) (rc : ∀ r : Nat, r < 3 → -9223372036854775808 ≤ c r ∧ c r ≤ 9223372036854775807) (w : World) : Calls Try.prog 7 #[.agg #[.int .i64 (a 0), .int .i64 (a 1), .int .i64 (a 2)], .agg #[.int .i64 (b 0), .int .i64 (b 1), .int .i64 (b 2)], .agg #[.int .i64 (c 0), .int .i64 (c 1), .int .i64 (c 2)]] w (RetGrown (.bool true) w) := by
  rcases Bool.eq_false_or_eq_true (Vc.fits a b) with hp | hp
  · rcases Bool.eq_false_or_eq_true (Vc.fits b c) with hq | hq
    · exact VecOrder_two a b c ra rb rc w hp hq
    · exact VecOrder_one a b c ra rb rc w hp hq
  · exact VecOrder_no a b c ra rb rc w hp

end Go.Proofs.Ytkdllgnejkmfhaa
