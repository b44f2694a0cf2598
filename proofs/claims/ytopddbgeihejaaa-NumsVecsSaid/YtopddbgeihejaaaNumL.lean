/- Numbers as bytes: the statements' walks: NumsPuts. -/
import Derived.Test.YtopddbgeihejaaaNumC
namespace Go.Proofs.Ytopddbgeihejaaa
open Go.RowKit
set_option linter.unusedVariables false

set_option maxHeartbeats 1000000 in
theorem NumsPuts_walk (C : NC) (n : Int) (n0 : -9223372036854775808 ≤ n) (n1 : n < 9223372036854775808) (a : Nat → Int) (ha : ∀ i, i < 3 → -9223372036854775808 ≤ a i ∧ a i < 9223372036854775808) (x : Nat) (hx : x < 18446744073709551616) (w : World) :
    Calls Try.prog 3 #[.int .i64 n, .agg #[.int .i64 (a 0), .int .i64 (a 1), .int .i64 (a 2)], .int .u64 (x : Int)] w (RetBelow (.bool true) w) := by
  have cA := Lib.hid (nAwake_any C)
  have c1 := fun w => C.put n n0 n1 w
  have c2 := fun w => rPut_any n n1 w
  have c3 := fun w => C.putVec a ha w
  have c4 := fun w => rPutVec_any a (fun i hi => (ha i hi).2) w
  have c5 := fun w => C.putFix x hx w
  have c6 := fun w => rPutFix_any x w
  clear ha hx
  obtain ⟨p, hp⟩ : ∃ p, Nu.put n.toNat = p := ⟨_, rfl⟩
  obtain ⟨q, hq⟩ : ∃ p, Nu.putV (a 0).toNat (a 1).toNat (a 2).toNat = p := ⟨_, rfl⟩
  obtain ⟨r, hr⟩ : ∃ p, Nu.fix x = p := ⟨_, rfl⟩
  rw [hp] at c1 c2
  rw [hq] at c3 c4
  rw [hr] at c5 c6
  clear hp hq hr
  obtain ⟨x0, h0⟩ : ∃ x, a 0 = x := ⟨_, rfl⟩
  obtain ⟨x1, h1⟩ : ∃ x, a 1 = x := ⟨_, rfl⟩
  obtain ⟨x2, h2⟩ : ∃ x, a 2 = x := ⟨_, rfl⟩
  obtain ⟨X, hX⟩ : ∃ X : Int, (x : Int) = X := ⟨_, rfl⟩
  rw [h0, h1, h2] at c3 c4 ⊢
  rw [hX] at c5 c6 ⊢
  clear h0 h1 h2 hX n0 n1
  have C1 := Lib.hid c1; have C2 := Lib.hid c2; have C3 := Lib.hid c3; have C4 := Lib.hid c4; have C5 := Lib.hid c5; have C6 := Lib.hid c6
  clear c1 c2 c3 c4 c5 c6
  go_enter Try.func3, Try.ntmps3
  go_wp2_with fail
  have gW : Hid (Below w.heap.size w (w.alloc (.cells #[.int .i64 x0, .int .i64 x1, .int .i64 x2] 23))) := Lib.hid ((Below.refl _ _).alloc (Nat.le_refl _) _)
  have hh := heap_top w (.cells #[.int .i64 x0, .int .i64 x1, .int .i64 x2] 23) 0 _ rfl
  change (w.alloc (.cells #[.int .i64 x0, .int .i64 x1, .int .i64 x2] 23)).heap[w.heap.size]? = _ at hh
  have hlt : w.heap.size < (w.alloc (.cells #[.int .i64 x0, .int .i64 x1, .int .i64 x2] 23)).heap.size := by simp
  obtain ⟨W, hW⟩ : ∃ W, w.alloc (.cells #[.int .i64 x0, .int .i64 x1, .int .i64 x2] 23) = W := ⟨_, rfl⟩
  rw [hW] at gW hh hlt ⊢
  clear hW
  have cr : ∀ w2, Below W.heap.size W w2 → ∃ t fr, w2.heap[w.heap.size]? = some (.cells #[.int .i64 x0, .int .i64 x1, .int .i64 x2] t fr) := fun w2 g => ⟨_, _, (g.block _ hlt).trans hh⟩
  clear hh hlt
  refine region_quiet (fun w2 => Below W.heap.size W w2) (by kernel_rfl) (by kernel_rfl) (below_drewN (Below.refl _ _) 1) ?_
  repeat (first
    | (go_big_quiet_skip)
    | (refine quiet_row _ _ 23 _ _ cr rfl rfl ?_ Try.underlying23 rfl ?_ ?_; (focus kernel_rfl); (focus kernel_rfl); simp only [Act.put, List.setIfInBounds_toArray, List.set_cons_zero, List.set_cons_succ])
    | (go_big_quiet_step ((intro g2; first
      | (with_reducible rfl)
      | (with_reducible exact quiet_below g2 (C1.out _))
      | (with_reducible exact quiet_below g2 (C2.out _))
      | (with_reducible exact quiet_below g2 (C3.out _))
      | (with_reducible exact quiet_below g2 (C4.out _))
      | (with_reducible exact quiet_below g2 (C5.out _))
      | (with_reducible exact quiet_below g2 (C6.out _))
      | (with_reducible exact quiet_below g2 (cA.out _))))))
  refine wpQuiet_nil ?_
  intro w2 g2
  go_wp2_with fail
  go_ret
  exact ⟨rfl, below_trans gW.out g2⟩

end Go.Proofs.Ytopddbgeihejaaa
