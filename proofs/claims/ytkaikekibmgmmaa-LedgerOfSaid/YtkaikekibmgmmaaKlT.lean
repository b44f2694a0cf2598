/- The landed layer 3 over an amount of three numbers: n times as much. -/
import Derived.Test.YtkaikekibmgmmaaZc
import Derived.Test.YtkaikekibmgmmaaLgB
namespace Go.Proofs.Ytkaikekibmgmmaa
open Go.RowKit
set_option linter.unusedVariables false

set_option maxHeartbeats 400000 in
theorem Kq.timesOne_any (r : Nat) (hr : r < 3) (A B S : Nat) (x y z : Int) (w : World) (hA : w.cell? ⟨A, r, none⟩ = some (.int .i64 x)) (hB : w.cell? ⟨B, 0, none⟩ = some (.int .i64 y))
    (hS : w.cell? ⟨S, r, none⟩ = some (.int .i64 z)) (hf : w.frozen? ⟨S, r, none⟩ = false) :
    Calls Try.prog 50 #[.int .i64 (r : Int), .pointer (some ⟨A, 0, none⟩), .pointer (some ⟨B, 0, none⟩), .pointer (some ⟨S, 0, none⟩)] w fun e w' => e = .returned (.tuple #[]) ∧ w' = w.drew.setCell ⟨S, r, none⟩ (.int .i64 (Qt.far (Qt.far x * Qt.cutb 1048576 y))) := by
  have hx := mul_in (Qt.far x) (Qt.cutb 1048576 y) (Qt.far_range x) (cutb_range y)
  have r3 : (r : Int) < 3 := by omega
  have hw : IntKind.i64.wrap (Qt.far x * Qt.cutb 1048576 y) = Qt.far x * Qt.cutb 1048576 y := IntWalk.i64_in _ (by omega)
  go_enter Try.func50, Try.ntmps50
  go_wp2_with fail
  refine wp_region_still_tail 10 (by kernel_rfl) (by kernel_rfl) ?_
  simp only [List.take_succ_cons, List.take_zero, List.drop_succ_cons, List.drop_zero]
  repeat (first | (with_reducible refine wpStill_step (fun K hK => ?_); go_simp; (first | ((with_reducible refine hK _ ?_); clear hK K) | ((with_reducible refine ⟨_, still_of (Kq.within_any _ 1048576 (by decide) (by decide) _), hK _ ?_⟩); clear hK K) | ((with_reducible refine ⟨_, still_of (Kq.cut_any _ _), hK _ ?_⟩); clear hK K))))
  refine wpStill_nil ?_
  change wpList _ _ _ _ _ w.drew
  go_wp2
  go_end0
  exact ⟨rfl, rfl⟩

theorem Kq.each_mul (k A B : Nat) (a s : V3) (y : Int) (V : World) (S : Nat) (hS : V.heap.size = S) (hk : Enters k #[.pointer (some ⟨A, 0, none⟩), .pointer (some ⟨B, 0, none⟩), .pointer (some ⟨S, 0, none⟩)])
    (hA : A < V.heap.size) (hB : B < V.heap.size) (ca : ∀ r : Nat, r < 3 → V.cell? ⟨A, r, none⟩ = some (.int .i64 (a.at_ r))) (cb : V.cell? ⟨B, 0, none⟩ = some (.int .i64 y))
    (hc : ∀ (r : Nat) (z : Int) (w : World), r < 3 → w.cell? ⟨A, r, none⟩ = some (.int .i64 (a.at_ r)) → w.cell? ⟨B, 0, none⟩ = some (.int .i64 y) → w.cell? ⟨S, r, none⟩ = some (.int .i64 z) → w.frozen? ⟨S, r, none⟩ = false →
      Calls Try.prog k #[.int .i64 (r : Int), .pointer (some ⟨A, 0, none⟩), .pointer (some ⟨B, 0, none⟩), .pointer (some ⟨S, 0, none⟩)] w fun e w' => e = .returned (.tuple #[]) ∧ w' = w.drew.setCell ⟨S, r, none⟩ (.int .i64 (s.at_ r))) :
    Calls Try.prog 41 #[.func (.func k) #[] #[.pointer (some ⟨A, 0, none⟩), .pointer (some ⟨B, 0, none⟩), .pointer (some ⟨S, 0, none⟩)]] (V.alloc (.cells #[.int .i64 0, .int .i64 0, .int .i64 0] 35))
      (Kc.Drawn V #[.int .i64 s.x, .int .i64 s.y, .int .i64 s.z] 35) := by
  subst hS
  refine (each_any k _ hk (Kq.Filled V s) (fun r hr w hI => ?_) _ ⟨0, rfl⟩).mono fun e w' h => ⟨h.1, h.2⟩
  obtain ⟨n, rfl⟩ := hI
  have hS : ((V.alloc (.cells #[.int .i64 (Kq.upto r s 0), .int .i64 (Kq.upto r s 1), .int .i64 (Kq.upto r s 2)] 35)).drewN n).cell? ⟨V.heap.size, r, none⟩ = some (.int .i64 (Kq.upto r s r)) := by
    refine (World.cell?_alloc_at (w := V) _ _ _ r rfl).trans ?_
    have hk : r = 0 ∨ r = 1 ∨ r = 2 := by omega
    rcases hk with rfl | rfl | rfl <;> rfl
  refine (hc r _ _ hr ?_ ?_ hS ?_).mono ?_
  · exact (World.cell?_alloc_past (w := V) _ _ _ hA).trans (ca r hr)
  · exact (World.cell?_alloc_past (w := V) _ _ _ hB).trans cb
  · exact World.frozen?_alloc_at (w := V) _ _ _ r rfl
  · rintro e w' ⟨rfl, rfl⟩
    exact ⟨rfl, Kq.filled_step V s r hr n⟩

set_option maxHeartbeats 400000 in
theorem kTimes3 (u : V3) (m : Int) (w : World) : Calls Try.prog 38 #[.agg #[.int .i64 u.x, .int .i64 u.y, .int .i64 u.z], .int .i64 m] w (RetBelow (.agg #[.int .i64 (Lg.times u m).x, .int .i64 (Lg.times u m).y, .int .i64 (Lg.times u m).z]) w) := by
  have hmf : ∀ (fn : Fn) (first cap : Array Value) (w : World), (Instr.makeFunc fn first cap).run Try.prog w = .ok (.func fn first cap) w := fun _ _ _ _ => rfl
  have ca := cells_three (((Holds.new w #[.int .i64 u.x, .int .i64 u.y, .int .i64 u.z] 35).kept (by simp) ((Below.refl _ _).alloc (Nat.le_refl _) (.cells #[.int .i64 m] 3))).kept (by simp; omega) ((Below.refl _ _).alloc (Nat.le_refl _) (.cells #[.int .i64 0, .int .i64 0, .int .i64 0] 35)))
  have cb := ((Row.new (w.alloc (.cells #[.int .i64 u.x, .int .i64 u.y, .int .i64 u.z] 35)) #[.int .i64 m] 3).under ((Below.refl _ _).alloc (Nat.le_refl _) (.cells #[.int .i64 0, .int .i64 0, .int .i64 0] 35))).at_ 0
  rw [World.size_alloc] at cb
  obtain ⟨s, hs⟩ : ∃ s, Lg.times u m = s := ⟨_, rfl⟩
  have hsk : ∀ k, s.at_ k = Qt.far (Qt.far (u.at_ k) * Qt.cutb 1048576 m) := fun k => by rw [← hs]; exact Lg.times_at u m k
  rw [hs]
  have CA := Lib.hid ca; have CB := Lib.hid cb; have HK := Lib.hid hsk
  clear ca cb hs hsk
  go_enter Try.func38, Try.ntmps38
  go_wp2_with fail
  refine (Kq.each_mul 50 w.heap.size (w.heap.size + 1) u s m
    (((w.alloc (.cells #[.int .i64 u.x, .int .i64 u.y, .int .i64 u.z] 35)).alloc (.cells #[.int .i64 m] 3)).alloc (.cells #[.int .i64 0, .int .i64 0, .int .i64 0] 35))
    (w.heap.size + 1 + 1 + 1) (by simp) (fun _ _ => rfl) (by simp; omega) (by simp) CA.out CB.out
    (fun r z w hr hA hB hS hf => by rw [HK.out]; exact Kq.timesOne_any r hr _ _ _ _ _ z w hA hB hS hf)).mono ?_
  rintro e w' ⟨rfl, n, rfl⟩
  have hd := setCell_drewN
  go_wp2_with fail
  exact bodyPost_ret (results_cell_row (p := 4) (by kernel_rfl) _ _ (w.heap.size + 1 + 1) _ _ _ _ rfl (heap_second _ _ _ _ _ (by simp)) Try.underlying35 rfl (by kernel_rfl)) rfl ⟨rfl, below_drewN ((((((Below.refl _ w).alloc (Nat.le_refl _) _).alloc (by simp) _).alloc (by simp; omega) _).alloc (by simp; omega) _)) n⟩

end Go.Proofs.Ytkaikekibmgmmaa
