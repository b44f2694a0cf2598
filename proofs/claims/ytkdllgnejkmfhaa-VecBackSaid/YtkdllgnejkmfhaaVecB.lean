/- Amounts: what is done for one resource. -/
import Derived.Test.YtkdllgnejkmfhaaVecA
import Derived.Test.YtkdllgnejkmfhaaVec
namespace Go.Proofs.Ytkdllgnejkmfhaa
open Go.RowKit
set_option linter.unusedVariables false

set_option maxHeartbeats 400000 in
theorem within_any (n b : Int) (b0 : 0 ≤ b) (b1 : b ≤ 9223372036854775807) (w : World) :
    Calls Try.prog 32 #[.int .i64 n, .int .i64 b] w fun e w' => e = .returned (.int .i64 (Vc.cut b n)) ∧ w = w' := by
  have h := Vc.cut_minmax b n b0
  have H := Lib.hid h; clear h
  go_enter Try.func32, Try.ntmps32
  go_wp2_with fail
  go_ret
  exact ⟨ret_i64 H.out, rfl⟩

set_option maxHeartbeats 400000 in
theorem cut_any (n : Int) (w : World) :
    Calls Try.prog 26 #[.int .i64 n] w fun e w' => e = .returned (.int .i64 (Vc.far n)) ∧ w = w' := by
  go_enter Try.func26, Try.ntmps26
  go_wp2_with fail
  refine (within_any _ _ (by decide) (by decide) _).mono ?_
  rintro e w' ⟨rfl, rfl⟩
  go_wp2_with fail
  go_ret
  exact ⟨rfl, rfl⟩

set_option maxHeartbeats 400000 in
theorem addOne_any (r : Nat) (hr : r < 3) (A B S : Nat) (x y z : Int) (w : World) (hA : w.cell? ⟨A, r, none⟩ = some (.int .i64 x)) (hB : w.cell? ⟨B, r, none⟩ = some (.int .i64 y))
    (hS : w.cell? ⟨S, r, none⟩ = some (.int .i64 z)) (hf : w.frozen? ⟨S, r, none⟩ = false) :
    Calls Try.prog 25 #[.int .i64 (r : Int), .pointer (some ⟨A, 0, none⟩), .pointer (some ⟨B, 0, none⟩), .pointer (some ⟨S, 0, none⟩)] w fun e w' => e = .returned (.tuple #[]) ∧ w' = w.drew.setCell ⟨S, r, none⟩ (.int .i64 (Vc.add x y)) := by
  have hx := Vc.far_range x
  have hy := Vc.far_range y
  have r3 : (r : Int) < 3 := by omega
  have hw : IntKind.i64.wrap (Vc.far x + Vc.far y) = Vc.far x + Vc.far y := IntWalk.i64_in _ (by omega)
  go_enter Try.func25, Try.ntmps25
  go_wp2_with fail
  refine wp_region_still_tail 12 (by kernel_rfl) (by kernel_rfl) ?_
  simp only [List.take_succ_cons, List.take_zero, List.drop_succ_cons, List.drop_zero]
  repeat (first | (with_reducible refine wpStill_step (fun K hK => ?_); go_simp; (first | ((with_reducible refine hK _ ?_); clear hK K) | ((with_reducible refine ⟨_, still_of (cut_any _ _), hK _ ?_⟩); clear hK K))))
  refine wpStill_nil ?_
  change wpList _ _ _ _ _ w.drew
  go_wp2
  go_end0
  exact ⟨rfl, rfl⟩

set_option maxHeartbeats 400000 in
theorem subOne_any (r : Nat) (hr : r < 3) (A B S : Nat) (x y z : Int) (w : World) (hA : w.cell? ⟨A, r, none⟩ = some (.int .i64 x)) (hB : w.cell? ⟨B, r, none⟩ = some (.int .i64 y))
    (hS : w.cell? ⟨S, r, none⟩ = some (.int .i64 z)) (hf : w.frozen? ⟨S, r, none⟩ = false) :
    Calls Try.prog 28 #[.int .i64 (r : Int), .pointer (some ⟨A, 0, none⟩), .pointer (some ⟨B, 0, none⟩), .pointer (some ⟨S, 0, none⟩)] w fun e w' => e = .returned (.tuple #[]) ∧ w' = w.drew.setCell ⟨S, r, none⟩ (.int .i64 (Vc.sub x y)) := by
  have hx := Vc.far_range x
  have hy := Vc.far_range y
  have r3 : (r : Int) < 3 := by omega
  have hw : IntKind.i64.wrap (Vc.far x - Vc.far y) = Vc.far x - Vc.far y := IntWalk.i64_in _ (by omega)
  go_enter Try.func28, Try.ntmps28
  go_wp2_with fail
  refine wp_region_still_tail 12 (by kernel_rfl) (by kernel_rfl) ?_
  simp only [List.take_succ_cons, List.take_zero, List.drop_succ_cons, List.drop_zero]
  repeat (first | (with_reducible refine wpStill_step (fun K hK => ?_); go_simp; (first | ((with_reducible refine hK _ ?_); clear hK K) | ((with_reducible refine ⟨_, still_of (cut_any _ _), hK _ ?_⟩); clear hK K))))
  refine wpStill_nil ?_
  change wpList _ _ _ _ _ w.drew
  go_wp2
  go_end0
  exact ⟨rfl, rfl⟩

set_option maxHeartbeats 400000 in
theorem minOne_any (r : Nat) (hr : r < 3) (A B S : Nat) (x y z : Int) (w : World) (hA : w.cell? ⟨A, r, none⟩ = some (.int .i64 x)) (hB : w.cell? ⟨B, r, none⟩ = some (.int .i64 y))
    (hS : w.cell? ⟨S, r, none⟩ = some (.int .i64 z)) (hf : w.frozen? ⟨S, r, none⟩ = false) :
    Calls Try.prog 30 #[.int .i64 (r : Int), .pointer (some ⟨A, 0, none⟩), .pointer (some ⟨B, 0, none⟩), .pointer (some ⟨S, 0, none⟩)] w fun e w' => e = .returned (.tuple #[]) ∧ w' = w.drew.setCell ⟨S, r, none⟩ (.int .i64 (Vc.least x y)) := by
  have r3 : (r : Int) < 3 := by omega
  have hm := Vc.least_min x y
  have HM := Lib.hid hm; clear hm
  go_enter Try.func30, Try.ntmps30
  go_wp2_with fail
  refine wp_region_still_tail 9 (by kernel_rfl) (by kernel_rfl) ?_
  simp only [List.take_succ_cons, List.take_zero, List.drop_succ_cons, List.drop_zero]
  repeat (first | (with_reducible refine wpStill_step (fun K hK => ?_); go_simp; (first | ((with_reducible refine hK _ ?_); clear hK K))))
  refine wpStill_nil ?_
  change wpList _ _ _ _ _ w.drew
  go_wp2
  go_end0
  exact ⟨rfl, by rw [← HM.out]; rfl⟩

set_option maxHeartbeats 400000 in
theorem timesOne_any (r : Nat) (hr : r < 3) (A B S : Nat) (x y z : Int) (w : World) (hA : w.cell? ⟨A, r, none⟩ = some (.int .i64 x)) (hB : w.cell? ⟨B, 0, none⟩ = some (.int .i64 y))
    (hS : w.cell? ⟨S, r, none⟩ = some (.int .i64 z)) (hf : w.frozen? ⟨S, r, none⟩ = false) :
    Calls Try.prog 31 #[.int .i64 (r : Int), .pointer (some ⟨A, 0, none⟩), .pointer (some ⟨B, 0, none⟩), .pointer (some ⟨S, 0, none⟩)] w fun e w' => e = .returned (.tuple #[]) ∧ w' = w.drew.setCell ⟨S, r, none⟩ (.int .i64 (Vc.times x y)) := by
  have hx := Vc.far_mul_range x y
  have r3 : (r : Int) < 3 := by omega
  have hw : IntKind.i64.wrap (Vc.far x * Vc.cut 1048576 y) = Vc.far x * Vc.cut 1048576 y := IntWalk.i64_in _ (by omega)
  go_enter Try.func31, Try.ntmps31
  go_wp2_with fail
  refine wp_region_still_tail 10 (by kernel_rfl) (by kernel_rfl) ?_
  simp only [List.take_succ_cons, List.take_zero, List.drop_succ_cons, List.drop_zero]
  repeat (first | (with_reducible refine wpStill_step (fun K hK => ?_); go_simp; (first | ((with_reducible refine hK _ ?_); clear hK K) | ((with_reducible refine ⟨_, still_of (within_any _ 1048576 (by decide) (by decide) _), hK _ ?_⟩); clear hK K) | ((with_reducible refine ⟨_, still_of (cut_any _ _), hK _ ?_⟩); clear hK K))))
  refine wpStill_nil ?_
  change wpList _ _ _ _ _ w.drew
  go_wp2
  go_end0
  exact ⟨rfl, rfl⟩

set_option maxHeartbeats 400000 in
theorem fitsOne_any (r : Nat) (hr : r < 3) (A B F : Nat) (x y : Int) (b : Bool) (w : World) (hF : w.cell? ⟨F, 0, none⟩ = some (.bool b)) (hf : w.frozen? ⟨F, 0, none⟩ = false) (hA : w.cell? ⟨A, r, none⟩ = some (.int .i64 x)) (hB : w.cell? ⟨B, r, none⟩ = some (.int .i64 y)) :
    Calls Try.prog 29 #[.int .i64 (r : Int), .pointer (some ⟨F, 0, none⟩), .pointer (some ⟨A, 0, none⟩), .pointer (some ⟨B, 0, none⟩)] w fun e w' => e = .returned (.tuple #[]) ∧ w' = w.drew.setCell ⟨F, 0, none⟩ (.bool (b && decide (x ≤ y))) := by
  have r3 : (r : Int) < 3 := by omega
  cases b
  · go_enter Try.func29, Try.ntmps29
    go_wp2_with fail
    refine wp_region_still_tail 10 (by kernel_rfl) (by kernel_rfl) ?_
    simp only [List.take_succ_cons, List.take_zero, List.drop_succ_cons, List.drop_zero]
    repeat (first | (with_reducible refine still_skip ?_ ?_; (focus (simp [Region.wanted, yielded]; done)); simp only [Act.put, List.setIfInBounds_toArray, List.set_cons_zero, List.set_cons_succ]) | (with_reducible refine wpStill_step (fun K hK => ?_); go_simp; (first | ((with_reducible refine hK _ ?_); clear hK K))))
    refine wpStill_nil ?_
    change wpList _ _ _ _ _ w.drew
    go_wp2
    go_end0
    exact ⟨rfl, rfl⟩
  · go_enter Try.func29, Try.ntmps29
    go_wp2_with fail
    refine wp_region_still_tail 10 (by kernel_rfl) (by kernel_rfl) ?_
    simp only [List.take_succ_cons, List.take_zero, List.drop_succ_cons, List.drop_zero]
    repeat (first | (with_reducible refine still_skip ?_ ?_; (focus (simp [Region.wanted, yielded]; done)); simp only [Act.put, List.setIfInBounds_toArray, List.set_cons_zero, List.set_cons_succ]) | (with_reducible refine wpStill_step (fun K hK => ?_); go_simp; (first | ((with_reducible refine hK _ ?_); clear hK K))))
    refine wpStill_nil ?_
    change wpList _ _ _ _ _ w.drew
    go_wp2
    go_end0
    exact ⟨rfl, rfl⟩

set_option maxHeartbeats 400000 in
theorem validOne_any (r : Nat) (hr : r < 3) (A F : Nat) (x : Int) (b : Bool) (w : World) (hF : w.cell? ⟨F, 0, none⟩ = some (.bool b)) (hf : w.frozen? ⟨F, 0, none⟩ = false) (hA : w.cell? ⟨A, r, none⟩ = some (.int .i64 x)) :
    Calls Try.prog 33 #[.int .i64 (r : Int), .pointer (some ⟨F, 0, none⟩), .pointer (some ⟨A, 0, none⟩)] w fun e w' => e = .returned (.tuple #[]) ∧ w' = w.setCell ⟨F, 0, none⟩ (.bool (b && (decide (0 ≤ x) && decide (x ≤ 1048576)))) := by
  have r3 : (r : Int) < 3 := by omega
  cases b
  · go_enter Try.func33, Try.ntmps33
    go_wp2
    go_end0
    exact ⟨rfl, rfl⟩
  · by_cases h : 0 ≤ x
    · have e1 : decide (0 ≤ x) = true := decide_eq_true h
      rw [e1]
      go_enter Try.func33, Try.ntmps33
      go_wp2
      go_end0
      exact ⟨rfl, rfl⟩
    · have e1 : decide (0 ≤ x) = false := decide_eq_false h
      rw [e1]
      go_enter Try.func33, Try.ntmps33
      go_wp2
      go_end0
      exact ⟨rfl, rfl⟩

/-- A cell is set, or nothing is done to it; answers may have been drawn. -/
def SetDrew (a : Addr) (old v : Int) (w : World) (e : Ending) (w' : World) : Prop := e = .returned (.tuple #[]) ∧ ∃ n, w' = (w.setCell a (.int .u64 v)).drewN n ∨ (v = old ∧ w' = w.drewN n)

set_option maxHeartbeats 400000 in
theorem domOne_any (r : Nat) (hr : r < 3) (A G B : Nat) (x y g : Int) (w : World) (hA : w.cell? ⟨A, r, none⟩ = some (.int .i64 x)) (hG : w.cell? ⟨G, 0, none⟩ = some (.int .u64 g)) (hf : w.frozen? ⟨G, 0, none⟩ = false) (hB : w.cell? ⟨B, r, none⟩ = some (.int .i64 y))
    (x0 : -9223372036854775808 ≤ x) (x1 : x ≤ 9223372036854775807) (y0 : -9223372036854775808 ≤ y) (y1 : y ≤ 9223372036854775807) :
    Calls Try.prog 34 #[.int .i64 (r : Int), .pointer (some ⟨A, 0, none⟩), .pointer (some ⟨G, 0, none⟩), .pointer (some ⟨B, 0, none⟩)] w (SetDrew ⟨G, 0, none⟩ g (Vc.dom g x y) w) := by
  have r3 : (r : Int) < 3 := by omega
  by_cases h : 0 < x
  · have hd : Vc.dom g x y = max g (Fx.ratio x y) := by unfold Vc.dom; rw [if_pos h]
    have HD := Lib.hid hd; clear hd
    go_enter Try.func34, Try.ntmps34
    go_wp2_with fail
    refine region_quiet_tail 9 (fun w' => ∃ n, w' = w.drewN n) (by kernel_rfl) (by kernel_rfl) ⟨1, rfl⟩ ?_
    simp only [List.take_succ_cons, List.take_zero, List.drop_succ_cons, List.drop_zero]
    repeat (go_big_quiet_step ((go_at_call 35; exact Calls.quiet_of (Ratio_any _ _ x0 x1 y0 y1 _))))
    refine wpQuiet_nil ?_
    intro _ hw'
    obtain ⟨nq, rfl⟩ := hw'
    go_wp2
    go_end0
    exact ⟨rfl, nq, Or.inl (by rw [HD.out]; rfl)⟩
  · have hd : Vc.dom g x y = g := by unfold Vc.dom; rw [if_neg h]
    have HD := Lib.hid hd; clear hd
    go_enter Try.func34, Try.ntmps34
    go_wp2
    go_end0
    exact ⟨rfl, 0, Or.inr ⟨HD.out, rfl⟩⟩

end Go.Proofs.Ytkdllgnejkmfhaa
