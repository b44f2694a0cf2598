/- The plain answer's sums of amounts, At, Path, On. -/
import Derived.Test.YtkakgjmajplgmaaQt
import Derived.Test.YtkakgjmajplgmaaCmdI
import Derived.Laws.OwnMore
namespace Go.Proofs.Ytkakgjmajplgmaa
open Go.RowKit
set_option linter.unusedVariables false

def Qt.cutb (b n : Int) : Int := if n < -b then -b else if b < n then b else n
theorem rcutb (n b : Int) (b0 : 0 ≤ b) (b1 : b ≤ 9223372036854775807) (w : World) : Calls Try.prog 26 #[.int .i64 n, .int .i64 b] w fun e w' => e = .returned (.int .i64 (Qt.cutb b n)) ∧ w = w' := by
  go_enter Try.func26, Try.ntmps26
  go_wp2_with fail
  all_goals (
    go_ret
    exact ⟨ret_i64 (by unfold Qt.cutb; grind), rfl⟩)
theorem rcut3 (n : Int) (w : World) : Calls Try.prog 26 #[.int .i64 n, .int .i64 1099511627776] w fun e w' => e = .returned (.int .i64 (Qt.far n)) ∧ w = w' := rcutb n 1099511627776 (by omega) (by omega) w

theorem below_setRow3 {B : Nat} {u w : World} (h : Below B u w) {g : Nat} (hp : B ≤ g) (cs : Array Value) : Below B u (w.setRow g cs) :=
  ⟨h.os, h.tape, h.output, Nat.le_trans h.size (by simp), fun k hk => by
    rw [setRow_other w g k cs (by omega)]
    exact h.block k hk⟩

/-- The first r numbers are s's, the others a's. -/
def part3 (a s : V3) (r i : Nat) : Int := if i < r then s.at_ i else a.at_ i
/-- The newest three blocks: an amount of which the first r numbers have been turned; B; the result's place. -/
def Turn3 (w : World) (b a s : V3) (r : Nat) (n : Nat) : World :=
  (((w.alloc (.cells #[.int .i64 (part3 a s r 0), .int .i64 (part3 a s r 1), .int .i64 (part3 a s r 2)] 29)).alloc (.cells #[.int .i64 b.x, .int .i64 b.y, .int .i64 b.z] 29)).alloc (.cells #[.int .i64 0, .int .i64 0, .int .i64 0] 29)).drewN n
theorem turn3_step (w : World) (b a s : V3) (r n : Nat) (hr : r < 3) : (Turn3 w b a s r n).drew.setCell ⟨w.heap.size, r, none⟩ (.int .i64 (s.at_ r)) = Turn3 w b a s (r + 1) (n + 1) := by
  unfold Turn3
  show (((((w.alloc _).alloc _).alloc _).setCell _ _).drewN (n + 1)) = _
  rw [World.setCell_alloc_past _ _ _ _ (by simp; omega), World.setCell_alloc_past _ _ _ _ (by simp), World.setCell_alloc_at _ _ _ _ _ rfl]
  have hk : r = 0 ∨ r = 1 ∨ r = 2 := by omega
  rcases hk with rfl | rfl | rfl <;> rfl
theorem turn3_cell (w : World) (b a s : V3) (r n : Nat) (hr : r < 3) : (Turn3 w b a s r n).cell? ⟨w.heap.size, r, none⟩ = some (.int .i64 (a.at_ r)) := by
  unfold Turn3
  show (((w.alloc _).alloc _).alloc _).cell? _ = _
  rw [World.cell?_alloc_past _ _ _ (by simp; omega), World.cell?_alloc_past _ _ _ (by simp), World.cell?_alloc_at _ _ _ _ rfl]
  have hk : r = 0 ∨ r = 1 ∨ r = 2 := by omega
  rcases hk with rfl | rfl | rfl <;> rfl
theorem turn3_free (w : World) (b a s : V3) (r n i : Nat) : (Turn3 w b a s r n).frozen? ⟨w.heap.size, i, none⟩ = false := by
  unfold Turn3
  show (((w.alloc _).alloc (.cells _ _)).alloc (.cells _ _)).frozen? _ = _
  rw [World.frozen?_alloc_past _ _ _ (by simp; omega), World.frozen?_alloc_past _ _ _ (by simp), World.frozen?_alloc_at _ _ _ _ rfl]
theorem turn3_other (w : World) (b a s : V3) (r n i : Nat) (hi : i < 3) : (Turn3 w b a s r n).cell? ⟨w.heap.size + 1, i, none⟩ = some (.int .i64 (b.at_ i)) := by
  unfold Turn3
  show (((w.alloc _).alloc _).alloc _).cell? _ = _
  rw [World.cell?_alloc_past _ _ _ (by simp), World.cell?_alloc_at _ _ _ _ (by simp)]
  have hk : i = 0 ∨ i = 1 ∨ i = 2 := by omega
  rcases hk with rfl | rfl | rfl <;> rfl
theorem Qt.add_at (u v : V3) (k : Nat) : (Qt.add u v).at_ k = Qt.add1 (u.at_ k) (v.at_ k) := by
  match k with
  | 0 => rfl
  | 1 => rfl
  | k + 2 => rfl

set_option maxHeartbeats 400000 in
theorem rAdd3 (u v : V3) (w : World) : Calls Try.prog 11 #[.agg #[.int .i64 u.x, .int .i64 u.y, .int .i64 u.z], .agg #[.int .i64 v.x, .int .i64 v.y, .int .i64 v.z]] w (RetBelow (.agg #[.int .i64 (Qt.add u v).x, .int .i64 (Qt.add u v).y, .int .i64 (Qt.add u v).z]) w) := by
  obtain ⟨s, hs⟩ : ∃ s, Qt.add u v = s := ⟨_, rfl⟩
  have hsk : ∀ k, s.at_ k = Qt.far (Qt.far (u.at_ k) + Qt.far (v.at_ k)) := fun k => by rw [← hs]; exact Qt.add_at u v k
  rw [hs]
  have HSK := Lib.hid hsk
  clear hs hsk
  go_enter Try.func11, Try.ntmps11
  go_wp2_with fail
  go_loopw [5] (fun i wr => ∃ k n : Nat, k ≤ 3 ∧ i = .int .i64 (k : Int) ∧ wr = Turn3 w v u s k n) (fun i _ => 3 - (intOf i).toNat)
  case atStart => exact ⟨0, 0, by omega, rfl, rfl⟩
  case round =>
    obtain ⟨k, n, hk, rfl, hW⟩ := hrel
    by_cases hlt : k < 3
    · have hA : wr.cell? ⟨w.heap.size, k, none⟩ = some (.int .i64 (u.at_ k)) := by rw [hW]; exact turn3_cell _ _ _ _ _ _ hlt
      have hB : wr.cell? ⟨w.heap.size + 1, k, none⟩ = some (.int .i64 (v.at_ k)) := by rw [hW]; exact turn3_other _ _ _ _ _ _ _ hlt
      have hf : wr.frozen? ⟨w.heap.size, k, none⟩ = false := by rw [hW]; exact turn3_free _ _ _ _ _ _ _
      have HW := Lib.hid hW; clear hW
      have hx := Qt.far_range (u.at_ k)
      have hy := Qt.far_range (v.at_ k)
      have hsk := HSK.out k
      obtain ⟨a, ha⟩ : ∃ a, u.at_ k = a := ⟨_, rfl⟩
      obtain ⟨b, hb⟩ : ∃ a, v.at_ k = a := ⟨_, rfl⟩
      rw [ha] at hA hx hsk
      rw [hb] at hB hy hsk
      have HS := Lib.hid hsk
      clear ha hb hsk
      have r3 : (k : Int) < 3 := by omega
      have hw : IntKind.i64.wrap (Qt.far a + Qt.far b) = Qt.far a + Qt.far b := IntWalk.i64_in _ (by omega)
      go_wp2_with fail
      refine wp_region_still_tail 12 (by kernel_rfl) (by kernel_rfl) ?_
      simp only [List.take_succ_cons, List.take_zero, List.drop_succ_cons, List.drop_zero]
      repeat (first | (with_reducible refine wpStill_step (fun K hK => ?_); go_simp; (first | ((with_reducible refine hK _ ?_); clear hK K) | ((with_reducible refine ⟨_, still_of (rcut3 _ _), hK _ ?_⟩); clear hK K))))
      refine wpStill_nil ?_
      change wpList _ _ _ _ _ wr.drew
      clear hw
      go_wp2
      go_roundw
      case rel => exact ⟨k + 1, n + 1, by omega, by go_num, by rw [HW.out, ← HS.out]; exact turn3_step _ _ _ _ _ _ hlt⟩
      case measure => simp [intOf]; omega
    · obtain rfl : k = 3 := by omega
      subst hW
      have hd := setCell_drewN
      unfold Turn3
      go_wp2_with fail
      exact bodyPost_ret (results_cell_row (p := 4) (by kernel_rfl) _ _ (w.heap.size + 1 + 1) _ _ _ _ rfl (heap_top _ _ _ _ (by simp)) Try.underlying29 rfl (by kernel_rfl)) rfl ⟨rfl, below_drewN ((two_below _ _ _).alloc (two_below _ _ _).size _) n⟩

set_option maxHeartbeats 400000 in
theorem rAt3 (l : List V3) (ao : Option Addr) (cap bb oo : Nat) (n : Int) (w : World) (h : Sl V3.c 26 3 w ao cap bb oo l) :
    Calls Try.prog 10 #[.slice ao l.length cap, .int .i64 n] w (RetBelow (.agg (Qt.ath l n).c) w) := by
  obtain ⟨s, hs⟩ : ∃ s, Qt.ath l n = s := ⟨_, rfl⟩
  have hout : ¬ (0 ≤ n ∧ n < l.length) → s = ⟨0, 0, 0⟩ := fun q => by rw [← hs, Qt.ath, if_neg q]; rfl
  have hin : 0 ≤ n ∧ n < l.length → l[n.toNat]? = some s := fun q => by
    rw [← hs, Qt.ath, if_pos q, List.getD_eq_getElem?_getD, List.getElem?_eq_getElem (by omega)]
    rfl
  have n63 := h.small
  have hidx := h.idx
  rw [hs]
  obtain ⟨nl, hnl⟩ : ∃ n, l.length = n := ⟨_, rfl⟩
  rw [hnl] at n63 hidx hout hin ⊢
  obtain ⟨zn, hzn⟩ : ∃ z : Int, (nl : Int) = z := ⟨_, rfl⟩
  rw [hzn] at hout hin
  have HO := Lib.hid hout; have HI := Lib.hid hin; have HIX := Lib.hid hidx; have HS := Lib.hid h
  clear hout hin hidx h hs hnl
  have r0 := Lib.hid (Row.new w #[.int .i64 0, .int .i64 0, .int .i64 0] 29)
  have g0 := Lib.hid (show Below w.heap.size w (w.alloc (.cells #[.int .i64 0, .int .i64 0, .int .i64 0] 29)) from (Below.refl _ _).alloc (Nat.le_refl _) _)
  by_cases n0 : n < 0
  · have hf := HO.out (by omega)
    subst hf
    simp only [V3.c]
    go_enter Try.func10, Try.ntmps10
    go_wp2_with (first | (refine wpList_store_row rfl 29 _ _ rfl w.heap.size #[.int .i64 0, .int .i64 0, .int .i64 0] rfl rfl _ _ r0.out vec_len rfl (one_cells 0 0 0) ?_) | fail)
    exact bodyPost_ret (results_cell_row (p := 4) (by kernel_rfl) _ _ w.heap.size _ _ _ _ rfl (r0.out.setRow _) Try.underlying29 rfl vec_len) rfl ⟨rfl, below_setRow3 g0.out (Nat.le_refl _) _⟩
  by_cases n1 : zn ≤ n
  · have hf := HO.out (by omega)
    subst hf
    simp only [V3.c]
    go_enter Try.func10, Try.ntmps10
    go_wp2_with (first | (refine wpList_store_row rfl 29 _ _ rfl w.heap.size #[.int .i64 0, .int .i64 0, .int .i64 0] rfl rfl _ _ r0.out vec_len rfl (one_cells 0 0 0) ?_) | fail)
    exact bodyPost_ret (results_cell_row (p := 4) (by kernel_rfl) _ _ w.heap.size _ _ _ _ rfl (r0.out.setRow _) Try.underlying29 rfl vec_len) rfl ⟨rfl, below_setRow3 g0.out (Nat.le_refl _) _⟩
  have hx := HI.out (by omega)
  have hi := HIX.out n.toNat (by omega)
  rw [show ((n.toNat : Nat) : Int) = n by omega] at hi
  have hr := (HS.out.kept g0.out).at_ n.toNat s hx
  obtain ⟨x, y, z⟩ := s
  simp only [V3.c] at hr ⊢
  have HR := Lib.hid hr
  clear hr hx
  go_enter Try.func10, Try.ntmps10
  go_wp2_with (first
    | (refine wpList_load_mid rfl 29 _ rfl bb (oo + n.toNat * 3) rfl _ _ HR.out Try.underlying29 rfl vec_len ?_)
    | (refine wpList_store_row rfl 29 _ _ rfl w.heap.size #[.int .i64 x, .int .i64 y, .int .i64 z] rfl rfl _ _ r0.out vec_len rfl (one_cells x y z) ?_)
    | fail)
  exact bodyPost_ret (results_cell_row (p := 4) (by kernel_rfl) _ _ w.heap.size _ _ _ _ rfl (r0.out.setRow _) Try.underlying29 rfl vec_len) rfl ⟨rfl, below_setRow3 g0.out (Nat.le_refl _) _⟩

end Go.Proofs.Ytkakgjmajplgmaa
