/- Amounts by definition. -/
import Derived.Test.YtkdllgnejkmfhaaVecC
import Derived.Test.YtkdllgnejkmfhaaVecEq
import Derived.Test.YtkdllgnejkmfhaaRefTwo
namespace Go.Proofs.Ytkdllgnejkmfhaa
open Go.RowKit
set_option linter.unusedVariables false

set_option maxHeartbeats 400000 in
theorem rcut_any (n b : Int) (b0 : 0 ≤ b) (b1 : b ≤ 9223372036854775807) (w : World) :
    Calls Try.prog 27 #[.int .i64 n, .int .i64 b] w fun e w' => e = .returned (.int .i64 (Vc.cut b n)) ∧ w = w' := by
  have h := Vc.cut_maxmin b n b0
  have H := Lib.hid h; clear h
  go_enter Try.func27, Try.ntmps27
  go_wp2_with fail
  go_ret
  exact ⟨ret_i64 H.out, rfl⟩

/-- The first r numbers are s's, the others a's. -/
def part (a s : Nat → Int) (r i : Nat) : Int := if i < r then s i else a i

/-- The newest three blocks: an amount of which the first r numbers have been turned; B; the result's place. -/
def Turned (w : World) (B C : Obj) (a s : Nat → Int) (r : Nat) (n : Nat) : World :=
  (((w.alloc (.cells #[.int .i64 (part a s r 0), .int .i64 (part a s r 1), .int .i64 (part a s r 2)] 23)).alloc B).alloc C).drewN n

theorem turned_step (w : World) (B C : Obj) (a s : Nat → Int) (r n : Nat) (hr : r < 3) : (Turned w B C a s r n).drew.setCell ⟨w.heap.size, r, none⟩ (.int .i64 (s r)) = Turned w B C a s (r + 1) (n + 1) := by
  unfold Turned
  show (((((w.alloc _).alloc B).alloc C).setCell _ _).drewN (n + 1)) = _
  rw [World.setCell_alloc_past _ _ _ _ (by simp; omega), World.setCell_alloc_past _ _ _ _ (by simp), World.setCell_alloc_at _ _ _ _ _ rfl]
  have hk : r = 0 ∨ r = 1 ∨ r = 2 := by omega
  rcases hk with rfl | rfl | rfl <;> rfl

theorem turned_cell (w : World) (B C : Obj) (a s : Nat → Int) (r n : Nat) (hr : r < 3) : (Turned w B C a s r n).cell? ⟨w.heap.size, r, none⟩ = some (.int .i64 (a r)) := by
  unfold Turned
  show (((w.alloc _).alloc B).alloc C).cell? _ = _
  rw [World.cell?_alloc_past _ _ _ (by simp; omega), World.cell?_alloc_past _ _ _ (by simp), World.cell?_alloc_at _ _ _ _ rfl]
  have hk : r = 0 ∨ r = 1 ∨ r = 2 := by omega
  rcases hk with rfl | rfl | rfl <;> rfl

theorem turned_free (w : World) (B C : Array Value) (t u : Nat) (a s : Nat → Int) (r n i : Nat) : (Turned w (.cells B t) (.cells C u) a s r n).frozen? ⟨w.heap.size, i, none⟩ = false := by
  unfold Turned
  show (((w.alloc _).alloc (.cells B t)).alloc (.cells C u)).frozen? _ = _
  rw [World.frozen?_alloc_past _ _ _ (by simp; omega), World.frozen?_alloc_past _ _ _ (by simp), World.frozen?_alloc_at _ _ _ _ rfl]

theorem turned_other (w : World) (B : Array Value) (t : Nat) (C : Obj) (a s : Nat → Int) (r n i : Nat) : (Turned w (.cells B t) C a s r n).cell? ⟨w.heap.size + 1, i, none⟩ = B[i]? := by
  unfold Turned
  show (((w.alloc _).alloc (.cells B t)).alloc C).cell? _ = _
  rw [World.cell?_alloc_past _ _ _ (by simp), World.cell?_alloc_at _ _ _ _ (by simp)]

set_option maxHeartbeats 400000 in
theorem rvAdd_any (a b : Nat → Int) (w : World) :
    Calls Try.prog 10 #[.agg #[.int .i64 (a 0), .int .i64 (a 1), .int .i64 (a 2)], .agg #[.int .i64 (b 0), .int .i64 (b 1), .int .i64 (b 2)]] w (RetGrown (.agg #[.int .i64 (Vc.addv a b 0), .int .i64 (Vc.addv a b 1), .int .i64 (Vc.addv a b 2)]) w) := by
  go_enter Try.func10, Try.ntmps10
  go_wp2_with fail
  go_loopw [5] (fun i wr => ∃ k n : Nat, k ≤ 3 ∧ i = .int .i64 (k : Int) ∧ wr = Turned w (.cells #[.int .i64 (b 0), .int .i64 (b 1), .int .i64 (b 2)] 23) (.cells #[.int .i64 0, .int .i64 0, .int .i64 0] 23) a (Vc.addv a b) k n) (fun i _ => 3 - (intOf i).toNat)
  case atStart => exact ⟨0, 0, by omega, rfl, rfl⟩
  case round =>
    obtain ⟨k, n, hk, rfl, hW⟩ := hrel
    by_cases hlt : k < 3
    · have hA : wr.cell? ⟨w.heap.size, k, none⟩ = some (.int .i64 (a k)) := by rw [hW]; exact turned_cell _ _ _ _ _ _ _ hlt
      have hB : wr.cell? ⟨w.heap.size + 1, k, none⟩ = some (.int .i64 (b k)) := by
        rw [hW, turned_other]
        have h3 : k = 0 ∨ k = 1 ∨ k = 2 := by omega
        rcases h3 with rfl | rfl | rfl <;> rfl
      have hf : wr.frozen? ⟨w.heap.size, k, none⟩ = false := by rw [hW]; exact turned_free _ _ _ _ _ _ _ _ _ _
      have HW := Lib.hid hW; clear hW
      have hx := Vc.far_range (a k)
      have hy := Vc.far_range (b k)
      have r3 : (k : Int) < 3 := by omega
      have hw : IntKind.i64.wrap (Vc.cut 1099511627776 (a k) + Vc.cut 1099511627776 (b k)) = Vc.cut 1099511627776 (a k) + Vc.cut 1099511627776 (b k) := IntWalk.i64_in _ (by unfold Vc.far at hx hy; omega)
      go_wp2_with fail
      refine wp_region_still_tail 12 (by kernel_rfl) (by kernel_rfl) ?_
      simp only [List.take_succ_cons, List.take_zero, List.drop_succ_cons, List.drop_zero]
      repeat (first | (with_reducible refine wpStill_step (fun K hK => ?_); go_simp; (first | ((with_reducible refine hK _ ?_); clear hK K) | ((with_reducible refine ⟨_, still_of (rcut_any _ 1099511627776 (by decide) (by decide) _), hK _ ?_⟩); clear hK K))))
      refine wpStill_nil ?_
      change wpList _ _ _ _ _ wr.drew
      clear hw
      go_wp2
      go_roundw
      case rel => exact ⟨k + 1, n + 1, by omega, by go_num, by rw [HW.out]; exact turned_step _ _ _ _ _ _ _ hlt⟩
      case measure => simp [intOf]; omega
    · obtain rfl : k = 3 := by omega
      subst hW
      have hd := setCell_drewN
      unfold Turned
      go_wp2_with fail
      exact bodyPost_ret (results_cell_row (p := 4) (by kernel_rfl) _ _ (w.heap.size + 1 + 1) _ _ _ _ rfl (heap_top _ _ _ _ (by simp)) Try.underlying23 rfl (by kernel_rfl)) rfl ⟨rfl, grown_drewN' ((((Grown.refl _).alloc _ _).alloc _ _).alloc _ _) n⟩

set_option maxHeartbeats 400000 in
theorem rvSub_any (a b : Nat → Int) (w : World) :
    Calls Try.prog 12 #[.agg #[.int .i64 (a 0), .int .i64 (a 1), .int .i64 (a 2)], .agg #[.int .i64 (b 0), .int .i64 (b 1), .int .i64 (b 2)]] w (RetGrown (.agg #[.int .i64 (Vc.subv a b 0), .int .i64 (Vc.subv a b 1), .int .i64 (Vc.subv a b 2)]) w) := by
  go_enter Try.func12, Try.ntmps12
  go_wp2_with fail
  go_loopw [5] (fun i wr => ∃ k n : Nat, k ≤ 3 ∧ i = .int .i64 (k : Int) ∧ wr = Turned w (.cells #[.int .i64 (b 0), .int .i64 (b 1), .int .i64 (b 2)] 23) (.cells #[.int .i64 0, .int .i64 0, .int .i64 0] 23) a (Vc.subv a b) k n) (fun i _ => 3 - (intOf i).toNat)
  case atStart => exact ⟨0, 0, by omega, rfl, rfl⟩
  case round =>
    obtain ⟨k, n, hk, rfl, hW⟩ := hrel
    by_cases hlt : k < 3
    · have hA : wr.cell? ⟨w.heap.size, k, none⟩ = some (.int .i64 (a k)) := by rw [hW]; exact turned_cell _ _ _ _ _ _ _ hlt
      have hB : wr.cell? ⟨w.heap.size + 1, k, none⟩ = some (.int .i64 (b k)) := by
        rw [hW, turned_other]
        have h3 : k = 0 ∨ k = 1 ∨ k = 2 := by omega
        rcases h3 with rfl | rfl | rfl <;> rfl
      have hf : wr.frozen? ⟨w.heap.size, k, none⟩ = false := by rw [hW]; exact turned_free _ _ _ _ _ _ _ _ _ _
      have HW := Lib.hid hW; clear hW
      have hx := Vc.far_range (a k)
      have hy := Vc.far_range (b k)
      have r3 : (k : Int) < 3 := by omega
      have hw : IntKind.i64.wrap (Vc.cut 1099511627776 (a k) - Vc.cut 1099511627776 (b k)) = Vc.cut 1099511627776 (a k) - Vc.cut 1099511627776 (b k) := IntWalk.i64_in _ (by unfold Vc.far at hx hy; omega)
      go_wp2_with fail
      refine wp_region_still_tail 12 (by kernel_rfl) (by kernel_rfl) ?_
      simp only [List.take_succ_cons, List.take_zero, List.drop_succ_cons, List.drop_zero]
      repeat (first | (with_reducible refine wpStill_step (fun K hK => ?_); go_simp; (first | ((with_reducible refine hK _ ?_); clear hK K) | ((with_reducible refine ⟨_, still_of (rcut_any _ 1099511627776 (by decide) (by decide) _), hK _ ?_⟩); clear hK K))))
      refine wpStill_nil ?_
      change wpList _ _ _ _ _ wr.drew
      clear hw
      go_wp2
      go_roundw
      case rel => exact ⟨k + 1, n + 1, by omega, by go_num, by rw [HW.out]; exact turned_step _ _ _ _ _ _ _ hlt⟩
      case measure => simp [intOf]; omega
    · obtain rfl : k = 3 := by omega
      subst hW
      have hd := setCell_drewN
      unfold Turned
      go_wp2_with fail
      exact bodyPost_ret (results_cell_row (p := 4) (by kernel_rfl) _ _ (w.heap.size + 1 + 1) _ _ _ _ rfl (heap_top _ _ _ _ (by simp)) Try.underlying23 rfl (by kernel_rfl)) rfl ⟨rfl, grown_drewN' ((((Grown.refl _).alloc _ _).alloc _ _).alloc _ _) n⟩

set_option maxHeartbeats 400000 in
theorem rvMin_any (a b : Nat → Int) (w : World) :
    Calls Try.prog 16 #[.agg #[.int .i64 (a 0), .int .i64 (a 1), .int .i64 (a 2)], .agg #[.int .i64 (b 0), .int .i64 (b 1), .int .i64 (b 2)]] w (RetGrown (.agg #[.int .i64 (Vc.leastv a b 0), .int .i64 (Vc.leastv a b 1), .int .i64 (Vc.leastv a b 2)]) w) := by
  go_enter Try.func16, Try.ntmps16
  go_wp2_with fail
  go_loopw [5] (fun i wr => ∃ k n : Nat, k ≤ 3 ∧ i = .int .i64 (k : Int) ∧ wr = Turned w (.cells #[.int .i64 (b 0), .int .i64 (b 1), .int .i64 (b 2)] 23) (.cells #[.int .i64 0, .int .i64 0, .int .i64 0] 23) a (Vc.leastv a b) k n) (fun i _ => 3 - (intOf i).toNat)
  case atStart => exact ⟨0, 0, by omega, rfl, rfl⟩
  case round =>
    obtain ⟨k, n, hk, rfl, hW⟩ := hrel
    by_cases hlt : k < 3
    · have hA : wr.cell? ⟨w.heap.size, k, none⟩ = some (.int .i64 (a k)) := by rw [hW]; exact turned_cell _ _ _ _ _ _ _ hlt
      have hB : wr.cell? ⟨w.heap.size + 1, k, none⟩ = some (.int .i64 (b k)) := by
        rw [hW, turned_other]
        have h3 : k = 0 ∨ k = 1 ∨ k = 2 := by omega
        rcases h3 with rfl | rfl | rfl <;> rfl
      have hf : wr.frozen? ⟨w.heap.size, k, none⟩ = false := by rw [hW]; exact turned_free _ _ _ _ _ _ _ _ _ _
      have HW := Lib.hid hW; clear hW
      have hm := Vc.least_min (a k) (b k)
      have HM := Lib.hid hm; clear hm
      have r3 : (k : Int) < 3 := by omega
      go_wp2_with fail
      refine wp_region_still_tail 9 (by kernel_rfl) (by kernel_rfl) ?_
      simp only [List.take_succ_cons, List.take_zero, List.drop_succ_cons, List.drop_zero]
      repeat (first | (with_reducible refine wpStill_step (fun K hK => ?_); go_simp; (first | ((with_reducible refine hK _ ?_); clear hK K))))
      refine wpStill_nil ?_
      change wpList _ _ _ _ _ wr.drew
      go_wp2
      go_roundw
      case rel => exact ⟨k + 1, n + 1, by omega, by go_num, by rw [HW.out, HM.out]; exact turned_step _ _ _ _ _ _ _ hlt⟩
      case measure => simp [intOf]; omega
    · obtain rfl : k = 3 := by omega
      subst hW
      have hd := setCell_drewN
      unfold Turned
      go_wp2_with fail
      exact bodyPost_ret (results_cell_row (p := 4) (by kernel_rfl) _ _ (w.heap.size + 1 + 1) _ _ _ _ rfl (heap_top _ _ _ _ (by simp)) Try.underlying23 rfl (by kernel_rfl)) rfl ⟨rfl, grown_drewN' ((((Grown.refl _).alloc _ _).alloc _ _).alloc _ _) n⟩

/-- The newest two blocks: an amount of which the first r numbers have been turned; the result's place. -/
def Turned2 (w : World) (C : Obj) (a s : Nat → Int) (r : Nat) : World :=
  (w.alloc (.cells #[.int .i64 (part a s r 0), .int .i64 (part a s r 1), .int .i64 (part a s r 2)] 23)).alloc C

theorem turned2_step (w : World) (C : Obj) (a s : Nat → Int) (r : Nat) (hr : r < 3) : (Turned2 w C a s r).setCell ⟨w.heap.size, r, none⟩ (.int .i64 (s r)) = Turned2 w C a s (r + 1) := by
  unfold Turned2
  rw [World.setCell_alloc_past _ _ _ _ (by simp), World.setCell_alloc_at _ _ _ _ _ rfl]
  have hk : r = 0 ∨ r = 1 ∨ r = 2 := by omega
  rcases hk with rfl | rfl | rfl <;> rfl

theorem turned2_cell (w : World) (C : Obj) (a s : Nat → Int) (r : Nat) (hr : r < 3) : (Turned2 w C a s r).cell? ⟨w.heap.size, r, none⟩ = some (.int .i64 (a r)) := by
  unfold Turned2
  rw [World.cell?_alloc_past _ _ _ (by simp), World.cell?_alloc_at _ _ _ _ rfl]
  have hk : r = 0 ∨ r = 1 ∨ r = 2 := by omega
  rcases hk with rfl | rfl | rfl <;> rfl

theorem turned2_free (w : World) (C : Array Value) (u : Nat) (a s : Nat → Int) (r i : Nat) : (Turned2 w (.cells C u) a s r).frozen? ⟨w.heap.size, i, none⟩ = false := by
  unfold Turned2
  rw [World.frozen?_alloc_past _ _ _ (by simp), World.frozen?_alloc_at _ _ _ _ rfl]

set_option maxHeartbeats 400000 in
theorem rvTimes_any (a : Nat → Int) (m : Int) (w : World) :
    Calls Try.prog 19 #[.agg #[.int .i64 (a 0), .int .i64 (a 1), .int .i64 (a 2)], .int .i64 m] w (RetGrown (.agg #[.int .i64 (Vc.timesv a m 0), .int .i64 (Vc.timesv a m 1), .int .i64 (Vc.timesv a m 2)]) w) := by
  go_enter Try.func19, Try.ntmps19
  go_wp2_with fail
  go_loopw [5] (fun i wr => ∃ k : Nat, k ≤ 3 ∧ i = .int .i64 (k : Int) ∧ wr = Turned2 w (.cells #[.int .i64 0, .int .i64 0, .int .i64 0] 23) a (Vc.timesv a m) k) (fun i _ => 3 - (intOf i).toNat)
  case atStart => exact ⟨0, by omega, rfl, rfl⟩
  case round =>
    obtain ⟨k, hk, rfl, hW⟩ := hrel
    by_cases hlt : k < 3
    · have hA : wr.cell? ⟨w.heap.size, k, none⟩ = some (.int .i64 (a k)) := by rw [hW]; exact turned2_cell _ _ _ _ _ hlt
      have hf : wr.frozen? ⟨w.heap.size, k, none⟩ = false := by rw [hW]; exact turned2_free _ _ _ _ _ _ _
      have HW := Lib.hid hW; clear hW
      have hx := Vc.far_mul_range (a k) m
      have r3 : (k : Int) < 3 := by omega
      have hw : IntKind.i64.wrap (Vc.cut 1099511627776 (a k) * Vc.cut 1048576 m) = Vc.cut 1099511627776 (a k) * Vc.cut 1048576 m := IntWalk.i64_in _ (by unfold Vc.far at hx; omega)
      go_wp2_with fail
      refine (rcut_any _ 1099511627776 (by decide) (by decide) _).mono ?_
      rintro e w' ⟨rfl, rfl⟩
      go_wp2_with fail
      refine (rcut_any _ 1048576 (by decide) (by decide) _).mono ?_
      rintro e w' ⟨rfl, rfl⟩
      go_wp2_with fail
      refine (rcut_any _ 1099511627776 (by decide) (by decide) _).mono ?_
      rintro e w' ⟨rfl, rfl⟩
      clear hw
      go_wp2_with fail
      go_roundw
      case rel => exact ⟨k + 1, by omega, by go_num, by rw [HW.out]; exact turned2_step _ _ _ _ _ hlt⟩
      case measure => simp [intOf]; omega
    · obtain rfl : k = 3 := by omega
      subst hW
      unfold Turned2
      go_wp2_with fail
      exact bodyPost_ret (results_cell_row (p := 4) (by kernel_rfl) _ _ (w.heap.size + 1) _ _ _ _ rfl (heap_top _ _ 0 _ (by simp)) Try.underlying23 rfl (by kernel_rfl)) rfl ⟨rfl, ((Grown.refl _).alloc _ _).alloc _ _⟩

theorem fitsTo_no (a b : Nat → Int) (k : Nat) (h : ¬ a k ≤ b k) (hk : k < 3) : Vc.fits a b = false := by
  have e : decide (a k ≤ b k) = false := decide_eq_false h
  have hc : k = 0 ∨ k = 1 ∨ k = 2 := by omega
  unfold Vc.fits
  rcases hc with rfl | rfl | rfl <;> simp [Vc.fitsTo, h]

set_option maxHeartbeats 400000 in
theorem rvFits_any (a b : Nat → Int) (w : World) :
    Calls Try.prog 8 #[.agg #[.int .i64 (a 0), .int .i64 (a 1), .int .i64 (a 2)], .agg #[.int .i64 (b 0), .int .i64 (b 1), .int .i64 (b 2)]] w (RetGrown (.bool (Vc.fits a b)) w) := by
  go_enter Try.func8, Try.ntmps8
  go_wp2_with fail
  have g0 : Grown w ((w.alloc (.cells #[.int .i64 (a 0), .int .i64 (a 1), .int .i64 (a 2)] 23)).alloc (.cells #[.int .i64 (b 0), .int .i64 (b 1), .int .i64 (b 2)] 23)) := ((Grown.refl _).alloc _ _).alloc _ _
  have ca := cell3 ((w.alloc (.cells #[.int .i64 (a 0), .int .i64 (a 1), .int .i64 (a 2)] 23)).alloc (.cells #[.int .i64 (b 0), .int .i64 (b 1), .int .i64 (b 2)] 23)) w.heap.size a (by go_simp) (by go_simp) (by go_simp)
  have cb := cell3 ((w.alloc (.cells #[.int .i64 (a 0), .int .i64 (a 1), .int .i64 (a 2)] 23)).alloc (.cells #[.int .i64 (b 0), .int .i64 (b 1), .int .i64 (b 2)] 23)) (w.heap.size + 1) b (by go_simp) (by go_simp) (by go_simp)
  generalize (w.alloc (.cells #[.int .i64 (a 0), .int .i64 (a 1), .int .i64 (a 2)] 23)).alloc (.cells #[.int .i64 (b 0), .int .i64 (b 1), .int .i64 (b 2)] 23) = W at *
  go_loopw [5] (fun i wr => ∃ k n : Nat, k ≤ 3 ∧ i = .int .i64 (k : Int) ∧ wr = W.drewN n ∧ Vc.fitsTo a b k = true) (fun i _ => 3 - (intOf i).toNat)
  case atStart => exact ⟨0, 0, by omega, rfl, rfl, rfl⟩
  case round =>
    obtain ⟨k, n, hk, rfl, rfl, hF⟩ := hrel
    have HF := Lib.hid hF; clear hF
    by_cases hlt : k < 3
    · have hA := ca k hlt
      have hB := cb k hlt
      have r3 : (k : Int) < 3 := by omega
      clear ca cb
      by_cases hx : a k ≤ b k
      · go_wp2_with fail
        go_quiet (fail)
        go_wp2_with fail
        go_roundw
        case rel => exact ⟨k + 1, n + nq, by omega, by go_num, by simp, by unfold Vc.fitsTo; rw [HF.out, decide_eq_true hx]; rfl⟩
        case measure => simp [intOf]; omega
      · have hno := fitsTo_no a b k hx hlt
        have HN := Lib.hid hno; clear hno
        go_wp2_with fail
        go_quiet (fail)
        go_wp2
        go_ret
        exact ⟨ret_bool HN.out.symm, grown_drewN' g0 (n + nq)⟩
    · obtain rfl : k = 3 := by omega
      clear ca cb
      go_wp2
      go_ret
      exact ⟨ret_bool HF.out.symm, grown_drewN' g0 n⟩

theorem validTo_no (a : Nat → Int) (k : Nat) (h : ¬ (0 ≤ a k ∧ a k ≤ 1048576)) (hk : k < 3) : Vc.valid a = false := by
  have e : (decide (0 ≤ a k) && decide (a k ≤ 1048576)) = false := by simp; omega
  have hc : k = 0 ∨ k = 1 ∨ k = 2 := by omega
  unfold Vc.valid
  rcases hc with rfl | rfl | rfl <;> simp only [Vc.validTo, e, Bool.and_false, Bool.false_and]

set_option maxHeartbeats 400000 in
theorem rvValid_any (a : Nat → Int) (w : World) :
    Calls Try.prog 21 #[.agg #[.int .i64 (a 0), .int .i64 (a 1), .int .i64 (a 2)]] w (RetGrown (.bool (Vc.valid a)) w) := by
  go_enter Try.func21, Try.ntmps21
  go_wp2_with fail
  have g0 : Grown w (w.alloc (.cells #[.int .i64 (a 0), .int .i64 (a 1), .int .i64 (a 2)] 23)) := (Grown.refl _).alloc _ _
  have ca := cell3 (w.alloc (.cells #[.int .i64 (a 0), .int .i64 (a 1), .int .i64 (a 2)] 23)) w.heap.size a (by go_simp) (by go_simp) (by go_simp)
  generalize w.alloc (.cells #[.int .i64 (a 0), .int .i64 (a 1), .int .i64 (a 2)] 23) = W at *
  go_loop [3] (fun i => ∃ k : Nat, k ≤ 3 ∧ i = .int .i64 (k : Int) ∧ Vc.validTo a k = true) (fun i => 3 - (intOf i).toNat)
  case atStart => exact ⟨0, by omega, rfl, rfl⟩
  case round =>
    obtain ⟨k, hk, rfl, hF⟩ := hrel
    have HF := Lib.hid hF; clear hF
    by_cases hlt : k < 3
    · have hA := ca k hlt
      have r3 : (k : Int) < 3 := by omega
      clear ca
      by_cases hx : 0 ≤ a k
      · by_cases hy : a k ≤ 1048576
        · go_wp2
          go_round
          case rel => exact ⟨k + 1, by omega, by go_num, by unfold Vc.validTo; rw [HF.out, decide_eq_true hx, decide_eq_true hy]; rfl⟩
          case measure => simp [intOf]; omega
        · have hno := validTo_no a k (by omega) hlt
          have HN := Lib.hid hno; clear hno
          go_wp2
          go_ret
          exact ⟨ret_bool HN.out.symm, g0⟩
      · have hno := validTo_no a k (by omega) hlt
        have HN := Lib.hid hno; clear hno
        go_wp2
        go_ret
        exact ⟨ret_bool HN.out.symm, g0⟩
    · obtain rfl : k = 3 := by omega
      clear ca
      go_wp2
      go_ret
      exact ⟨ret_bool HF.out.symm, g0⟩

set_option maxHeartbeats 400000 in
theorem rvDominant_any (a b : Nat → Int) (ra : ∀ r : Nat, r < 3 → -9223372036854775808 ≤ a r ∧ a r ≤ 9223372036854775807) (rb : ∀ r : Nat, r < 3 → -9223372036854775808 ≤ b r ∧ b r ≤ 9223372036854775807) (w : World) :
    Calls Try.prog 23 #[.agg #[.int .i64 (a 0), .int .i64 (a 1), .int .i64 (a 2)], .agg #[.int .i64 (b 0), .int .i64 (b 1), .int .i64 (b 2)]] w (RetGrown (.int .u64 (Vc.domv a b)) w) := by
  go_enter Try.func23, Try.ntmps23
  go_wp2_with fail
  have g0 : Grown w ((w.alloc (.cells #[.int .i64 (a 0), .int .i64 (a 1), .int .i64 (a 2)] 23)).alloc (.cells #[.int .i64 (b 0), .int .i64 (b 1), .int .i64 (b 2)] 23)) := ((Grown.refl _).alloc _ _).alloc _ _
  have ca := cell3 ((w.alloc (.cells #[.int .i64 (a 0), .int .i64 (a 1), .int .i64 (a 2)] 23)).alloc (.cells #[.int .i64 (b 0), .int .i64 (b 1), .int .i64 (b 2)] 23)) w.heap.size a (by go_simp) (by go_simp) (by go_simp)
  have cb := cell3 ((w.alloc (.cells #[.int .i64 (a 0), .int .i64 (a 1), .int .i64 (a 2)] 23)).alloc (.cells #[.int .i64 (b 0), .int .i64 (b 1), .int .i64 (b 2)] 23)) (w.heap.size + 1) b (by go_simp) (by go_simp) (by go_simp)
  generalize (w.alloc (.cells #[.int .i64 (a 0), .int .i64 (a 1), .int .i64 (a 2)] 23)).alloc (.cells #[.int .i64 (b 0), .int .i64 (b 1), .int .i64 (b 2)] 23) = W at *
  go_loopw [5, 6] (fun x i wr => ∃ k n : Nat, k ≤ 3 ∧ i = .int .i64 (k : Int) ∧ x = .int .u64 (Vc.domTo a b k) ∧ wr = W.drewN n) (fun _ i _ => 3 - (intOf i).toNat)
  case atStart => exact ⟨0, 0, by omega, rfl, rfl, rfl⟩
  case round =>
    obtain ⟨k, n, hk, rfl, rfl, hV⟩ := hrel
    by_cases hlt : k < 3
    · have hA : wr.cell? ⟨w.heap.size, k, none⟩ = some (.int .i64 (a k)) := by rw [hV]; exact ca k hlt
      have hB : wr.cell? ⟨w.heap.size + 1, k, none⟩ = some (.int .i64 (b k)) := by rw [hV]; exact cb k hlt
      have HV := Lib.hid hV; clear hV
      have r3 : (k : Int) < 3 := by omega
      obtain ⟨x0, x1⟩ := ra k hlt
      obtain ⟨y0, y1⟩ := rb k hlt
      clear ca cb
      by_cases hx : 0 < a k
      · have hd : Vc.domTo a b (k + 1) = max (Vc.domTo a b k) (Fx.ratio (a k) (b k)) := if_pos hx
        have HD := Lib.hid hd; clear hd
        go_wp2_with fail
        go_quiet ((go_at_call 36; exact quiet_left (rRatio_any _ _ x0 x1 y0 y1 _)))
        go_wp2_with fail
        go_roundw
        case rel => exact ⟨k + 1, n + nq, by omega, by go_num, by rw [HD.out], by rw [HV.out, World.drewN_drewN]⟩
        case measure => simp [intOf]; omega
      · have hd : Vc.domTo a b (k + 1) = Vc.domTo a b k := if_neg hx
        have HD := Lib.hid hd; clear hd
        go_wp2_with fail
        go_roundw
        case rel => exact ⟨k + 1, n, by omega, by go_num, by rw [HD.out], HV.out⟩
        case measure => simp [intOf]; omega
    · obtain rfl : k = 3 := by omega
      subst hV
      clear ca cb
      go_wp2
      go_ret
      exact ⟨rfl, grown_drewN' g0 n⟩

end Go.Proofs.Ytkdllgnejkmfhaa
