/- Numbers as bytes: the statements' walks: NumsGets. -/
import Derived.Test.YtopddbgeihejaaaNumC
namespace Go.Proofs.Ytopddbgeihejaaa
open Go.RowKit
set_option linter.unusedVariables false

/-- What is read of a block that was made, in a world that came later. -/
theorem vec_later {w w' : World} {x y z : Int} (g : Below (w.alloc (.cells #[.int .i64 x, .int .i64 y, .int .i64 z] 23)).heap.size (w.alloc (.cells #[.int .i64 x, .int .i64 y, .int .i64 z] 23)) w') :
    w'.cell? ⟨w.heap.size, 0, none⟩ = some (.int .i64 x) ∧ w'.cell? ⟨w.heap.size, 1, none⟩ = some (.int .i64 y) ∧ w'.cell? ⟨w.heap.size, 2, none⟩ = some (.int .i64 z) :=
  ⟨(g.cell (p := ⟨w.heap.size, 0, none⟩) (by simp)).trans (World.cell?_alloc_at (w := w) _ _ _ 0 rfl), (g.cell (p := ⟨w.heap.size, 1, none⟩) (by simp)).trans (World.cell?_alloc_at (w := w) _ _ _ 1 rfl), (g.cell (p := ⟨w.heap.size, 2, none⟩) (by simp)).trans (World.cell?_alloc_at (w := w) _ _ _ 2 rfl)⟩

set_option maxRecDepth 8000 in
set_option maxHeartbeats 2000000 in
theorem NumsGets_walk (C : NC) (s : ByteArray) (w : World) : Calls Try.prog 4 #[.string s] w (RetBelow (.bool true) w) := by
  have cA := Lib.hid (nAwake_any C)
  have c1 := fun w => C.get s w
  have c2 := fun w => rGet_any s w
  have c3 := fun w => C.getVec s w
  have c4 := fun w => rGetVec_any s w
  have c5 := fun w => C.getFix s w
  have c6 := fun w => rGetFix_any s w
  unfold Nu.ans at c1 c2
  unfold Nu.ansV at c3 c4
  unfold Nu.ansF at c5 c6
  obtain ⟨n, hn⟩ : ∃ n : Int, ((Nu.get s).1 : Int) = n := ⟨_, rfl⟩
  obtain ⟨k, hk⟩ : ∃ n : Int, ((Nu.get s).2.1 : Int) = n := ⟨_, rfl⟩
  obtain ⟨e1, he1⟩ : ∃ n : Int, (Nu.get s).2.2 = n := ⟨_, rfl⟩
  rw [hn, hk, he1] at c1 c2
  obtain ⟨x, hx⟩ : ∃ n : Int, ((Nu.getV s).1.1 : Int) = n := ⟨_, rfl⟩
  obtain ⟨y, hy⟩ : ∃ n : Int, ((Nu.getV s).1.2.1 : Int) = n := ⟨_, rfl⟩
  obtain ⟨z, hz⟩ : ∃ n : Int, ((Nu.getV s).1.2.2 : Int) = n := ⟨_, rfl⟩
  obtain ⟨l, hl⟩ : ∃ n : Int, ((Nu.getV s).2.1 : Int) = n := ⟨_, rfl⟩
  obtain ⟨e2, he2⟩ : ∃ n : Int, (Nu.getV s).2.2 = n := ⟨_, rfl⟩
  rw [hx, hy, hz, hl, he2] at c3 c4
  obtain ⟨f, hf⟩ : ∃ n : Int, ((Nu.getF s).1 : Int) = n := ⟨_, rfl⟩
  obtain ⟨m, hm⟩ : ∃ n : Int, ((Nu.getF s).2.1 : Int) = n := ⟨_, rfl⟩
  obtain ⟨e3, he3⟩ : ∃ n : Int, (Nu.getF s).2.2 = n := ⟨_, rfl⟩
  rw [hf, hm, he3] at c5 c6
  clear hn hk he1 hx hy hz hl he2 hf hm he3
  have C1 := Lib.hid c1; have C2 := Lib.hid c2; have C3 := Lib.hid c3; have C4 := Lib.hid c4; have C5 := Lib.hid c5; have C6 := Lib.hid c6
  clear c1 c2 c3 c4 c5 c6
  have hEq := fun w => vec_same w x y z
  go_enter Try.func4, Try.ntmps4
  go_wp2_with fail
  refine (C1.out _).mono ?_
  rintro e w1 ⟨rfl, b1⟩
  have B1 := Lib.hid b1; clear b1
  go_wp2_with fail
  refine (C2.out _).mono ?_
  rintro e w2 ⟨rfl, rfl⟩
  go_wp2_with fail
  refine (C3.out _).mono ?_
  rintro e w3 ⟨rfl, b3⟩
  have B3 := Lib.hid (below_trans B1.out b3); clear b3
  go_wp2_with fail
  refine (C4.out _).mono ?_
  rintro e w4 ⟨rfl, b4⟩
  have B4 := Lib.hid b4; clear b4
  go_wp2_with fail
  refine (C5.out _).mono ?_
  rintro e w5 ⟨rfl, b5⟩
  have B5 := Lib.hid b5; clear b5
  go_wp2_with fail
  refine (C6.out _).mono ?_
  rintro e w6 ⟨rfl, rfl⟩
  have q := vec_later (B4.out.trans (((Below.refl _ w4).alloc (Nat.le_refl _) (.cells #[.int .i64 x, .int .i64 y, .int .i64 z] 23) |>.trans (B5.out.mono (by simp))).mono B4.out.size))
  have r := vec_later B5.out
  have HB : Hid (Below w.heap.size w w5) := Lib.hid (below_trans (B3.out.alloc B3.out.size _) (below_trans B4.out (((Below.refl _ w4).alloc (Nat.le_refl _) _).trans (B5.out.mono (by simp)))))
  have q0 := q.1; have q1 := q.2.1; have q2 := q.2.2
  have r0 := r.1; have r1 := r.2.1; have r2 := r.2.2
  clear q r B1 B3 B4 B5
  go_wp2_with fail
  refine (cA.out _).mono ?_
  rintro e w7 ⟨rfl, b7⟩
  have B7 := Lib.hid (below_trans HB.out b7); clear b7
  go_wp2_with fail
  go_ret
  exact ⟨rfl, B7.out⟩

end Go.Proofs.Ytopddbgeihejaaa
