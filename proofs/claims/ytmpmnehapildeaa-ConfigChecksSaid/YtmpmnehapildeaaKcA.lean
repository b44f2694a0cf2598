/- Amounts that may be, that fit: the landed layer 3, over an amount of three numbers. -/
import Derived.Test.YtmpmnehapildeaaVecA
import Derived.Test.YtmpmnehapildeaaCfg
namespace Go.Proofs.Ytmpmnehapildeaa
open Go.RowKit
set_option linter.unusedVariables false

namespace Kc

set_option maxHeartbeats 400000 in
theorem validOne_any (r : Nat) (hr : r < 3) (A F : Nat) (x : Int) (b : Bool) (w : World) (hF : w.cell? ⟨F, 0, none⟩ = some (.bool b)) (hf : w.frozen? ⟨F, 0, none⟩ = false) (hA : w.cell? ⟨A, r, none⟩ = some (.int .i64 x)) :
    Calls Try.prog 35 #[.int .i64 (r : Int), .pointer (some ⟨F, 0, none⟩), .pointer (some ⟨A, 0, none⟩)] w fun e w' => e = .returned (.tuple #[]) ∧ w' = w.setCell ⟨F, 0, none⟩ (.bool (b && (decide (0 ≤ x) && decide (x ≤ 1048576)))) := by
  have r3 : (r : Int) < 3 := by omega
  cases b
  · go_enter Try.func35, Try.ntmps35
    go_wp2
    go_end0
    exact ⟨rfl, rfl⟩
  · by_cases h : 0 ≤ x
    · have e1 : decide (0 ≤ x) = true := decide_eq_true h
      rw [e1]
      go_enter Try.func35, Try.ntmps35
      go_wp2
      go_end0
      exact ⟨rfl, rfl⟩
    · have e1 : decide (0 ≤ x) = false := decide_eq_false h
      rw [e1]
      go_enter Try.func35, Try.ntmps35
      go_wp2
      go_end0
      exact ⟨rfl, rfl⟩

set_option maxHeartbeats 400000 in
theorem fitsOne_any (r : Nat) (hr : r < 3) (A B F : Nat) (x y : Int) (b : Bool) (w : World) (hF : w.cell? ⟨F, 0, none⟩ = some (.bool b)) (hf : w.frozen? ⟨F, 0, none⟩ = false) (hA : w.cell? ⟨A, r, none⟩ = some (.int .i64 x)) (hB : w.cell? ⟨B, r, none⟩ = some (.int .i64 y)) :
    Calls Try.prog 36 #[.int .i64 (r : Int), .pointer (some ⟨F, 0, none⟩), .pointer (some ⟨A, 0, none⟩), .pointer (some ⟨B, 0, none⟩)] w fun e w' => e = .returned (.tuple #[]) ∧ w' = w.drew.setCell ⟨F, 0, none⟩ (.bool (b && decide (x ≤ y))) := by
  have r3 : (r : Int) < 3 := by omega
  cases b
  · go_enter Try.func36, Try.ntmps36
    go_wp2_with fail
    refine wp_region_still_tail 10 (by kernel_rfl) (by kernel_rfl) ?_
    simp only [List.take_succ_cons, List.take_zero, List.drop_succ_cons, List.drop_zero]
    repeat (first | (with_reducible refine still_skip ?_ ?_; (focus (simp [Region.wanted, yielded]; done)); simp only [Act.put, List.setIfInBounds_toArray, List.set_cons_zero, List.set_cons_succ]) | (with_reducible refine wpStill_step (fun K hK => ?_); go_simp; (first | ((with_reducible refine hK _ ?_); clear hK K))))
    refine wpStill_nil ?_
    change wpList _ _ _ _ _ w.drew
    go_wp2
    go_end0
    exact ⟨rfl, rfl⟩
  · go_enter Try.func36, Try.ntmps36
    go_wp2_with fail
    refine wp_region_still_tail 10 (by kernel_rfl) (by kernel_rfl) ?_
    simp only [List.take_succ_cons, List.take_zero, List.drop_succ_cons, List.drop_zero]
    repeat (first | (with_reducible refine still_skip ?_ ?_; (focus (simp [Region.wanted, yielded]; done)); simp only [Act.put, List.setIfInBounds_toArray, List.set_cons_zero, List.set_cons_succ]) | (with_reducible refine wpStill_step (fun K hK => ?_); go_simp; (first | ((with_reducible refine hK _ ?_); clear hK K))))
    refine wpStill_nil ?_
    change wpList _ _ _ _ _ w.drew
    go_wp2
    go_end0
    exact ⟨rfl, rfl⟩

/-- Behind the walk over all resources: the newest block is c. -/
def Drawn (V : World) (c : Array Value) (t : Nat) (e : Ending) (w' : World) : Prop := e = .returned (.tuple #[]) ∧ ∃ n, w' = (V.alloc (.cells c t)).drewN n

/-- All resources, where each walk only turns the newest block. -/
theorem each_on (k : Nat) (cap : Array Value) (V : World) (row : Nat → Array Value) (t : Nat) (hk : Enters k cap)
    (hc : ∀ r n : Nat, r < 3 → Calls Try.prog k (#[.int .i64 (r : Int)] ++ cap) ((V.alloc (.cells (row r) t)).drewN n) (Drawn V (row (r + 1)) t)) :
    Calls Try.prog 34 #[.func (.func k) #[] cap] (V.alloc (.cells (row 0) t)) (Drawn V (row 3) t) := by
  refine (each_any k cap hk (fun r w => ∃ n, w = (V.alloc (.cells (row r) t)).drewN n) (fun r hr w hI => ?_) _ ⟨0, rfl⟩).mono fun e w' h => h
  obtain ⟨n, rfl⟩ := hI
  exact (hc r n hr).mono fun e w' h => h

theorem step_bool (V : World) (t : Nat) (n : Nat) (a b : Value) : (((V.alloc (.cells #[a] t)).drewN n).setCell ⟨V.heap.size, 0, none⟩ b) = (V.alloc (.cells #[b] t)).drewN n := by
  have h := World.setCell_alloc_at (w := V) #[a] t V.heap.size 0 b rfl
  show ((V.alloc _).setCell _ _).drewN n = _
  rw [h]
  rfl

theorem each_fits (A B : Nat) (a b : V3) (V : World) (S : Nat) (hS : V.heap.size = S) (hA : A < V.heap.size) (hB : B < V.heap.size) (ca : ∀ r : Nat, r < 3 → V.cell? ⟨A, r, none⟩ = some (.int .i64 (a.at_ r))) (cb : ∀ r : Nat, r < 3 → V.cell? ⟨B, r, none⟩ = some (.int .i64 (b.at_ r))) :
    Calls Try.prog 34 #[.func (.func 36) #[] #[.pointer (some ⟨S, 0, none⟩), .pointer (some ⟨A, 0, none⟩), .pointer (some ⟨B, 0, none⟩)]] (V.alloc (.cells #[.bool true] 4)) (Drawn V #[.bool (Cf.fits a b)] 4) := by
  subst hS
  refine each_on _ _ V (fun r => #[.bool (Cf.fitsTo a b r)]) 4 (fun _ _ => rfl) (fun r n hr => ?_)
  refine (fitsOne_any r hr A B V.heap.size (a.at_ r) (b.at_ r) (Cf.fitsTo a b r) _ (top_cell V _ n _) (top_free V _ _ n _) (old_cell V _ n _ _ hA (ca r hr)) (old_cell V _ n _ _ hB (cb r hr))).mono ?_
  rintro e w' ⟨rfl, rfl⟩
  exact ⟨rfl, n + 1, step_bool V _ (n + 1) _ _⟩

theorem each_valid (A : Nat) (a : V3) (V : World) (S : Nat) (hS : V.heap.size = S) (hA : A < V.heap.size) (ca : ∀ r : Nat, r < 3 → V.cell? ⟨A, r, none⟩ = some (.int .i64 (a.at_ r))) :
    Calls Try.prog 34 #[.func (.func 35) #[] #[.pointer (some ⟨S, 0, none⟩), .pointer (some ⟨A, 0, none⟩)]] (V.alloc (.cells #[.bool true] 4)) (Drawn V #[.bool (Cf.valid a)] 4) := by
  subst hS
  refine each_on _ _ V (fun r => #[.bool (Cf.validTo a r)]) 4 (fun _ _ => rfl) (fun r n hr => ?_)
  refine (validOne_any r hr A V.heap.size (a.at_ r) (Cf.validTo a r) _ (top_cell V _ n _) (top_free V _ _ n _) (old_cell V _ n _ _ hA (ca r hr))).mono ?_
  rintro e w' ⟨rfl, rfl⟩
  exact ⟨rfl, n, step_bool V _ n _ _⟩

end Kc

set_option maxHeartbeats 400000 in
theorem kFits3 (v u : V3) (w : World) : Calls Try.prog 33 #[.agg #[.int .i64 v.x, .int .i64 v.y, .int .i64 v.z], .agg #[.int .i64 u.x, .int .i64 u.y, .int .i64 u.z]] w (RetBelow (.bool (Cf.fits v u)) w) := by
  have hmf : ∀ (fn : Fn) (first cap : Array Value) (w : World), (Instr.makeFunc fn first cap).run Try.prog w = .ok (.func fn first cap) w := fun _ _ _ _ => rfl
  have ca := cells_three ((Holds.new w #[.int .i64 v.x, .int .i64 v.y, .int .i64 v.z] 33).kept (by simp) ((Below.refl _ _).alloc (Nat.le_refl _) (.cells #[.int .i64 u.x, .int .i64 u.y, .int .i64 u.z] 33)))
  have cb := cells_three (Holds.new (w.alloc (.cells #[.int .i64 v.x, .int .i64 v.y, .int .i64 v.z] 33)) #[.int .i64 u.x, .int .i64 u.y, .int .i64 u.z] 33)
  rw [World.size_alloc] at cb
  have CA := Lib.hid ca; have CB := Lib.hid cb
  clear ca cb
  go_enter Try.func33, Try.ntmps33
  go_wp2_with fail
  refine (Kc.each_fits w.heap.size (w.heap.size + 1) v u
    ((w.alloc (.cells #[.int .i64 v.x, .int .i64 v.y, .int .i64 v.z] 33)).alloc (.cells #[.int .i64 u.x, .int .i64 u.y, .int .i64 u.z] 33))
    (w.heap.size + 1 + 1) (by simp) (by simp; omega) (by simp) CA.out CB.out).mono ?_
  rintro e w' ⟨rfl, n, rfl⟩
  go_wp2_with fail
  go_ret
  exact ⟨rfl, below_drewN (Below.alloc (two_below _ _ _) (two_below _ _ _).size _) n⟩

set_option maxHeartbeats 400000 in
theorem kValid3 (v : V3) (w : World) : Calls Try.prog 29 #[.agg #[.int .i64 v.x, .int .i64 v.y, .int .i64 v.z]] w (RetBelow (.bool (Cf.valid v)) w) := by
  have hmf : ∀ (fn : Fn) (first cap : Array Value) (w : World), (Instr.makeFunc fn first cap).run Try.prog w = .ok (.func fn first cap) w := fun _ _ _ _ => rfl
  have ca := cells_three (Holds.new w #[.int .i64 v.x, .int .i64 v.y, .int .i64 v.z] 33)
  have CA := Lib.hid ca
  clear ca
  go_enter Try.func29, Try.ntmps29
  go_wp2_with fail
  refine (Kc.each_valid w.heap.size v (w.alloc (.cells #[.int .i64 v.x, .int .i64 v.y, .int .i64 v.z] 33))
    (w.heap.size + 1) (by simp) (by simp) CA.out).mono ?_
  rintro e w' ⟨rfl, n, rfl⟩
  go_wp2_with fail
  go_ret
  exact ⟨rfl, below_drewN (two_below _ _ _) n⟩

end Go.Proofs.Ytmpmnehapildeaa
