/- The reference's differences and multiples of amounts. -/
import Derived.Test.YtkaikekibmgmmaaLg
import Derived.Test.YtkaikekibmgmmaaGe
namespace Go.Proofs.Ytkaikekibmgmmaa
open Go.RowKit
set_option linter.unusedVariables false

theorem Qt.sub_at (u v : V3) (k : Nat) : (Qt.sub u v).at_ k = Qt.sub1 (u.at_ k) (v.at_ k) := by
  match k with
  | 0 => rfl
  | 1 => rfl
  | k + 2 => rfl

set_option maxHeartbeats 400000 in
theorem rSub3 (u v : V3) (w : World) : Calls Try.prog 35 #[.agg #[.int .i64 u.x, .int .i64 u.y, .int .i64 u.z], .agg #[.int .i64 v.x, .int .i64 v.y, .int .i64 v.z]] w (RetBelow (.agg #[.int .i64 (Qt.sub u v).x, .int .i64 (Qt.sub u v).y, .int .i64 (Qt.sub u v).z]) w) := by
  obtain ⟨s, hs⟩ : ∃ s, Qt.sub u v = s := ⟨_, rfl⟩
  have hsk : ∀ k, s.at_ k = Qt.far (Qt.far (u.at_ k) - Qt.far (v.at_ k)) := fun k => by rw [← hs]; exact Qt.sub_at u v k
  rw [hs]
  have HSK := Lib.hid hsk
  clear hs hsk
  go_enter Try.func35, Try.ntmps35
  go_wp2_with fail
  go_loopw [5] (fun i wr => ∃ k n : Nat, k ≤ 3 ∧ i = .int .i64 (k : Int) ∧ wr = Turn3 w v u s k n) (fun i _ => 3 - (intOf i).toNat)
  case atStart => exact ⟨0, 0, by omega, rfl, rfl⟩
  case round =>
    obtain ⟨k, n, hk, rfl, hW⟩ := hrel
    by_cases hlt : k < 3
    · have hA : wr.cell? ⟨w.heap.size, k, none⟩ = some (.int .i64 (u.at_ k)) := by rw [hW]; exact turn3_cell _ _ _ _ _ _ hlt
      have hB : wr.cell? ⟨w.heap.size + 1, k, none⟩ = some (.int .i64 (v.at_ k)) := by rw [hW]; exact turn3_other _ _ _ _ _ _ _ hlt
      have hf : wr.frozen? ⟨w.heap.size, k, none⟩ = false := by rw [hW]; exact turn3_free _ _ _ _ _ _ _
      have HW := Lib.hid hW; clear hW
      have hx := Qt.far_range (u.at_ k)
      have hy := Qt.far_range (v.at_ k)
      have hsk := HSK.out k
      obtain ⟨a, ha⟩ : ∃ a, u.at_ k = a := ⟨_, rfl⟩
      obtain ⟨b, hb⟩ : ∃ a, v.at_ k = a := ⟨_, rfl⟩
      rw [ha] at hA hx hsk
      rw [hb] at hB hy hsk
      have HS := Lib.hid hsk
      clear ha hb hsk
      have r3 : (k : Int) < 3 := by omega
      have hw : IntKind.i64.wrap (Qt.far a - Qt.far b) = Qt.far a - Qt.far b := IntWalk.i64_in _ (by omega)
      go_wp2_with fail
      refine wp_region_still_tail 12 (by kernel_rfl) (by kernel_rfl) ?_
      simp only [List.take_succ_cons, List.take_zero, List.drop_succ_cons, List.drop_zero]
      repeat (first | (with_reducible refine wpStill_step (fun K hK => ?_); go_simp; (first | ((with_reducible refine hK _ ?_); clear hK K) | ((with_reducible refine ⟨_, still_of (rcut3 _ _), hK _ ?_⟩); clear hK K))))
      refine wpStill_nil ?_
      change wpList _ _ _ _ _ wr.drew
      clear hw
      go_wp2
      go_roundw
      case rel => exact ⟨k + 1, n + 1, by omega, by go_num, by rw [HW.out, ← HS.out]; exact turn3_step _ _ _ _ _ _ hlt⟩
      case measure => simp [intOf]; omega
    · obtain rfl : k = 3 := by omega
      subst hW
      have hd := setCell_drewN
      unfold Turn3
      go_wp2_with fail
      exact bodyPost_ret (results_cell_row (p := 4) (by kernel_rfl) _ _ (w.heap.size + 1 + 1) _ _ _ _ rfl (heap_top _ _ _ _ (by simp)) Try.underlying35 rfl (by kernel_rfl)) rfl ⟨rfl, below_drewN ((two_below _ _ _).alloc (two_below _ _ _).size _) n⟩

/-- n times as much. -/
def Lg.times (v : V3) (n : Int) : V3 := ⟨Qt.far (Qt.far v.x * Qt.cutb 1048576 n), Qt.far (Qt.far v.y * Qt.cutb 1048576 n), Qt.far (Qt.far v.z * Qt.cutb 1048576 n)⟩
theorem Lg.times_at (v : V3) (n : Int) (k : Nat) : (Lg.times v n).at_ k = Qt.far (Qt.far (v.at_ k) * Qt.cutb 1048576 n) := by
  match k with
  | 0 => rfl
  | 1 => rfl
  | k + 2 => rfl
theorem mul_in (a b : Int) (ha : -1099511627776 ≤ a ∧ a ≤ 1099511627776) (hb : -1048576 ≤ b ∧ b ≤ 1048576) : -1152921504606846976 ≤ a * b ∧ a * b ≤ 1152921504606846976 := by
  have h : (a * b).natAbs ≤ 1099511627776 * 1048576 := by
    rw [Int.natAbs_mul]
    exact Nat.mul_le_mul (by omega) (by omega)
  omega
theorem cutb_range (n : Int) : -1048576 ≤ Qt.cutb 1048576 n ∧ Qt.cutb 1048576 n ≤ 1048576 := by unfold Qt.cutb; (repeat' split) <;> omega
/-- The newest two blocks: an amount of which the first r numbers have been turned; the result's place. -/
def Turn2 (w : World) (a s : V3) (r : Nat) : World :=
  (w.alloc (.cells #[.int .i64 (part3 a s r 0), .int .i64 (part3 a s r 1), .int .i64 (part3 a s r 2)] 35)).alloc (.cells #[.int .i64 0, .int .i64 0, .int .i64 0] 35)
theorem turn2_step (w : World) (a s : V3) (r : Nat) (hr : r < 3) : (Turn2 w a s r).setCell ⟨w.heap.size, r, none⟩ (.int .i64 (s.at_ r)) = Turn2 w a s (r + 1) := by
  unfold Turn2
  rw [World.setCell_alloc_past _ _ _ _ (by simp), World.setCell_alloc_at _ _ _ _ _ rfl]
  have hk : r = 0 ∨ r = 1 ∨ r = 2 := by omega
  rcases hk with rfl | rfl | rfl <;> rfl
theorem turn2_cell (w : World) (a s : V3) (r : Nat) (hr : r < 3) : (Turn2 w a s r).cell? ⟨w.heap.size, r, none⟩ = some (.int .i64 (a.at_ r)) := by
  unfold Turn2
  rw [World.cell?_alloc_past _ _ _ (by simp), World.cell?_alloc_at _ _ _ _ rfl]
  have hk : r = 0 ∨ r = 1 ∨ r = 2 := by omega
  rcases hk with rfl | rfl | rfl <;> rfl
theorem turn2_free (w : World) (a s : V3) (r i : Nat) : (Turn2 w a s r).frozen? ⟨w.heap.size, i, none⟩ = false := by
  unfold Turn2
  rw [World.frozen?_alloc_past _ _ _ (by simp), World.frozen?_alloc_at _ _ _ _ rfl]

set_option maxHeartbeats 400000 in
theorem rTimes3 (u : V3) (n : Int) (w : World) : Calls Try.prog 52 #[.agg #[.int .i64 u.x, .int .i64 u.y, .int .i64 u.z], .int .i64 n] w (RetBelow (.agg #[.int .i64 (Lg.times u n).x, .int .i64 (Lg.times u n).y, .int .i64 (Lg.times u n).z]) w) := by
  obtain ⟨s, hs⟩ : ∃ s, Lg.times u n = s := ⟨_, rfl⟩
  obtain ⟨m, hm⟩ : ∃ m, Qt.cutb 1048576 n = m := ⟨_, rfl⟩
  have hmr := cutb_range n
  have hcn := fun w => rcutb n 1048576 (by omega) (by omega) w
  have hsk : ∀ k, s.at_ k = Qt.far (Qt.far (u.at_ k) * m) := fun k => by rw [← hs, ← hm]; exact Lg.times_at u n k
  rw [hm] at hmr
  simp only [hm] at hcn
  rw [hs]
  have HSK := Lib.hid hsk; have HCN := Lib.hid hcn
  clear hs hsk hcn hm
  go_enter Try.func52, Try.ntmps52
  go_wp2_with fail
  go_loopw [5] (fun i wr => ∃ k : Nat, k ≤ 3 ∧ i = .int .i64 (k : Int) ∧ wr = Turn2 w u s k) (fun i _ => 3 - (intOf i).toNat)
  case atStart => exact ⟨0, by omega, rfl, rfl⟩
  case round =>
    obtain ⟨k, hk, rfl, hW⟩ := hrel
    by_cases hlt : k < 3
    · have hA : wr.cell? ⟨w.heap.size, k, none⟩ = some (.int .i64 (u.at_ k)) := by rw [hW]; exact turn2_cell _ _ _ _ hlt
      have hf : wr.frozen? ⟨w.heap.size, k, none⟩ = false := by rw [hW]; exact turn2_free _ _ _ _ _
      have HW := Lib.hid hW; clear hW
      have hx := Qt.far_range (u.at_ k)
      have hsk := HSK.out k
      obtain ⟨a, ha⟩ : ∃ a, u.at_ k = a := ⟨_, rfl⟩
      rw [ha] at hA hx hsk
      have hmu := mul_in (Qt.far a) m hx hmr
      obtain ⟨p, hp⟩ : ∃ p, Qt.far a * m = p := ⟨_, rfl⟩
      rw [hp] at hmu hsk
      have HS := Lib.hid hsk
      clear ha hsk
      have r3 : (k : Int) < 3 := by omega
      have hw : IntKind.i64.wrap p = p := IntWalk.i64_in _ (by omega)
      go_wp2_with fail
      refine (rcut3 _ _).mono ?_
      rintro er w1 ⟨rfl, rfl⟩
      go_wp2_with fail
      refine (HCN.out _).mono ?_
      rintro er w1 ⟨rfl, rfl⟩
      go_wp2_with fail
      refine (rcut3 _ _).mono ?_
      rintro er w1 ⟨rfl, rfl⟩
      go_wp2_with fail
      go_roundw
      case rel => exact ⟨k + 1, by omega, by go_num, by rw [HW.out, ← HS.out]; exact turn2_step _ _ _ _ hlt⟩
      case measure => simp [intOf]; omega
    · obtain rfl : k = 3 := by omega
      subst hW
      unfold Turn2
      go_wp2_with fail
      exact bodyPost_ret (results_cell_row (p := 4) (by kernel_rfl) _ _ (w.heap.size + 1) _ _ _ _ rfl (heap_top _ _ 0 _ (by simp)) Try.underlying35 rfl (by kernel_rfl)) rfl ⟨rfl, two_below _ _ _⟩

end Go.Proofs.Ytkaikekibmgmmaa
