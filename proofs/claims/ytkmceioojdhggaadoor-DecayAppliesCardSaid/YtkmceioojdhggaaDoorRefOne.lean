import Derived.Test.YtkmceioojdhggaaDoorFixptB
import Derived.LoopTactic
namespace Go.Proofs.YtkmceioojdhggaaDoor
open Go.RowKit
set_option linter.unusedVariables false

set_option maxHeartbeats 400000 in
theorem rAdd_any (a b : Int) (ha : 0 ≤ a) (ha' : a ≤ 18446744073709551615) (hb : 0 ≤ b) (hb' : b ≤ 18446744073709551615) (w : World) :
    Calls Tryd.prog 19 #[.int .u64 a, .int .u64 b] w fun e w' => e = .returned (.int .u64 (Fx.add a b)) ∧ w = w' := by
  by_cases h : 18446744073709551615 - b < a
  · go_enter Tryd.func19, Tryd.ntmps19
    go_wp2
    go_ret
    exact ⟨ret_u64 (by unfold Fx.add Fx.cap; (repeat' split) <;> omega), rfl⟩
  · go_enter Tryd.func19, Tryd.ntmps19
    go_wp2
    go_ret
    exact ⟨ret_u64 (by unfold Fx.add Fx.cap; (repeat' split) <;> omega), rfl⟩

/-- The school's product of halves. -/
theorem halves (a1 a0 b1 b0 : Int) : (a1 * 4294967296 + a0) * (b1 * 4294967296 + b0) = (a1 * b1 * 4294967296 + a1 * b0 + a0 * b1) * 4294967296 + a0 * b0 := by
  grind

theorem small_mul (a b : Int) (ha : 0 ≤ a) (ha' : a ≤ 4294967295) (hb : 0 ≤ b) (hb' : b ≤ 4294967295) : 0 ≤ a * b ∧ a * b ≤ 18446744065119617025 := by
  refine ⟨Int.mul_nonneg ha hb, ?_⟩
  have := Int.mul_le_mul ha' hb' hb (by decide : (0 : Int) ≤ 4294967295)
  simpa using this

theorem mul_parts (a b : Int) (ha : 0 ≤ a) (hb : 0 ≤ b) :
    Fx.mul a b = Fx.cap (a / 4294967296 * (b / 4294967296) * 4294967296 + a / 4294967296 * (b % 4294967296) + a % 4294967296 * (b / 4294967296) + a % 4294967296 * (b % 4294967296) / 4294967296) := by
  unfold Fx.mul
  congr 1
  have ea : a = a / 4294967296 * 4294967296 + a % 4294967296 := by omega
  have eb : b = b / 4294967296 * 4294967296 + b % 4294967296 := by omega
  conv => lhs; rw [ea, eb]
  rw [halves]
  omega

theorem add_add (x y : Int) (hx : 0 ≤ x) (hy : 0 ≤ y) : Fx.add (Fx.cap x) y = Fx.cap (x + y) := by unfold Fx.add Fx.cap; (repeat' split) <;> omega

theorem most_over (a1 b1 : Int) (h1 : 0 < b1) (h : 18446744073709551615 / b1 / 4294967296 < a1) : 4294967296 ≤ a1 * b1 := by
  have := (Int.lt_mul_of_ediv_lt (by omega : 0 < b1 * 4294967296) (by rw [← Int.ediv_ediv_of_nonneg (by omega)]; exact h) : 18446744073709551615 < a1 * (b1 * 4294967296))
  rw [← Int.mul_assoc] at this
  omega
theorem most_range (b1 : Int) (h1 : 0 < b1) : 0 ≤ 18446744073709551615 / b1 ∧ 18446744073709551615 / b1 ≤ 18446744073709551615 ∧ 0 ≤ 18446744073709551615 / b1 / 4294967296 := by
  have h := Int.ediv_nonneg (by decide : (0 : Int) ≤ 18446744073709551615) (by omega : 0 ≤ b1)
  have h' := Int.ediv_le_self b1 (by decide : (0 : Int) ≤ 18446744073709551615)
  exact ⟨h, h', by omega⟩
theorem mul_big (a1 a0 b1 b0 : Int) (h : 4294967296 ≤ a1 * b1) (g1 : 0 ≤ a1) (p2 : 0 ≤ a1 * b0) (p3 : 0 ≤ a0 * b1) (p4 : 0 ≤ a0 * b0) :
    Fx.cap (a1 * b1 * 4294967296 + a1 * b0 + a0 * b1 + a0 * b0 / 4294967296) = 18446744073709551615 := Fx.cap_out _ (by omega)
theorem mul_low (p q r s : Int) (hp : 0 ≤ p) (hq : 0 ≤ q) (hr : 0 ≤ r) (hs : 0 ≤ s) : Fx.add (Fx.add (Fx.add p q) r) s = Fx.cap (p + q + r + s) := by
  have e : Fx.add p q = Fx.cap (p + q) := rfl
  rw [e, add_add _ _ (by omega) hr, add_add _ _ (by omega) hs]
theorem add_most (s : Int) (hs : 0 ≤ s) : Fx.add 18446744073709551615 s = 18446744073709551615 := by unfold Fx.add Fx.cap; split <;> omega

set_option maxHeartbeats 1000000 in
theorem rMul_any (a b : Int) (ha : 0 ≤ a) (ha' : a ≤ 18446744073709551615) (hb : 0 ≤ b) (hb' : b ≤ 18446744073709551615) (w : World) :
    Calls Tryd.prog 14 #[.int .u64 a, .int .u64 b] w fun e w' => e = .returned (.int .u64 (Fx.mul a b)) ∧ w = w' := by
  have hm := mul_parts a b ha hb
  obtain ⟨a1, e1⟩ : ∃ a1, a / 4294967296 = a1 := ⟨_, rfl⟩
  obtain ⟨a0, e2⟩ : ∃ a0, a % 4294967296 = a0 := ⟨_, rfl⟩
  obtain ⟨b1, e3⟩ : ∃ b1, b / 4294967296 = b1 := ⟨_, rfl⟩
  obtain ⟨b0, e4⟩ : ∃ b0, b % 4294967296 = b0 := ⟨_, rfl⟩
  rw [e1, e2, e3, e4] at hm
  have ba : 0 ≤ a1 ∧ a1 ≤ 4294967295 ∧ 0 ≤ a0 ∧ a0 ≤ 4294967295 := by omega
  have bb : 0 ≤ b1 ∧ b1 ≤ 4294967295 ∧ 0 ≤ b0 ∧ b0 ≤ 4294967295 := by omega
  obtain ⟨g1, g2, g3, g4⟩ := ba
  obtain ⟨i1, i2, i3, i4⟩ := bb
  have p1 := small_mul a1 b1 g1 g2 i1 i2
  have p2 := small_mul a1 b0 g1 g2 i3 i4
  have p3 := small_mul a0 b1 g3 g4 i1 i2
  have p4 := small_mul a0 b0 g3 g4 i3 i4
  obtain ⟨p1, p1'⟩ := p1; obtain ⟨p2, p2'⟩ := p2; obtain ⟨p3, p3'⟩ := p3; obtain ⟨p4, p4'⟩ := p4
  have M := Lib.hid hm; clear hm
  by_cases h1 : 0 < a1
  · by_cases h2 : 0 < b1
    · have hd := most_over a1 b1 h2
      obtain ⟨dd0, dd1, dd2⟩ := most_range b1 h2
      obtain ⟨D, eD⟩ : ∃ D, 18446744073709551615 / b1 / 4294967296 = D := ⟨_, rfl⟩
      rw [eD] at hd
      by_cases h3 : D < a1
      · have fin := mul_big a1 a0 b1 b0 (hd h3) g1 p2 p3 p4
        have F := Lib.hid fin; clear fin
        go_enter Tryd.func14, Tryd.ntmps14
        go_wp2
        go_ret
        exact ⟨ret_u64 (by rw [M.out, F.out]), rfl⟩
      · clear hd
        by_cases hh : 4294967296 ≤ a1 * b1
        · have fin := mul_big a1 a0 b1 b0 hh g1 p2 p3 p4
          have F := Lib.hid fin; clear fin
          go_enter Tryd.func14, Tryd.ntmps14
          go_wp2
          go_ret
          exact ⟨ret_u64 (by rw [M.out, F.out]), rfl⟩
        · have r1 := Fx.add_range (a1 * b1 * 4294967296) (a1 * b0) (by omega) p2
          have r2 := Fx.add_range (Fx.add (a1 * b1 * 4294967296) (a1 * b0)) (a0 * b1) r1.1 p3
          obtain ⟨x1, ex1⟩ : ∃ x1, Fx.add (a1 * b1 * 4294967296) (a1 * b0) = x1 := ⟨_, rfl⟩
          rw [ex1] at r1 r2
          obtain ⟨x2, ex2⟩ : ∃ x2, Fx.add x1 (a0 * b1) = x2 := ⟨_, rfl⟩
          rw [ex2] at r2
          have fin := mul_low (a1 * b1 * 4294967296) (a1 * b0) (a0 * b1) (a0 * b0 / 4294967296) (by omega) p2 p3 (by omega)
          rw [ex1, ex2] at fin
          have F := Lib.hid fin; clear fin
          have X1 := Lib.hid ex1; clear ex1
          have X2 := Lib.hid ex2; clear ex2
          obtain ⟨r1, r1'⟩ := r1; obtain ⟨r2, r2'⟩ := r2
          by_cases hx : x2 = 18446744073709551615
          · have hx' : (x2 == 18446744073709551615) = true := by simp [hx]
            have HX := Lib.hid hx; clear hx
            go_enter Tryd.func14, Tryd.ntmps14
            go_wp2_with fail
            refine (rAdd_any _ _ (by omega) (by omega) p2 (by omega) _).mono ?_
            rintro e w' ⟨rfl, rfl⟩
            rw [X1.out]
            go_wp2_with fail
            refine (rAdd_any _ _ r1 r1' p3 (by omega) _).mono ?_
            rintro e w' ⟨rfl, rfl⟩
            rw [X2.out]
            go_wp2_with fail
            go_ret
            exact ⟨ret_u64 (by rw [M.out, ← F.out, HX.out]; exact (add_most _ (by omega)).symm), rfl⟩
          · have hx' : (x2 == 18446744073709551615) = false := by simp [hx]
            go_enter Tryd.func14, Tryd.ntmps14
            go_wp2_with fail
            refine (rAdd_any _ _ (by omega) (by omega) p2 (by omega) _).mono ?_
            rintro e w' ⟨rfl, rfl⟩
            rw [X1.out]
            go_wp2_with fail
            refine (rAdd_any _ _ r1 r1' p3 (by omega) _).mono ?_
            rintro e w' ⟨rfl, rfl⟩
            rw [X2.out]
            go_wp2_with fail
            refine (rAdd_any _ _ r2 r2' (by omega) (by omega) _).mono ?_
            rintro e w' ⟨rfl, rfl⟩
            go_wp2_with fail
            go_ret
            exact ⟨ret_u64 (by rw [M.out, ← F.out]), rfl⟩
    · by_cases hh : 4294967296 ≤ a1 * b1
      · have fin := mul_big a1 a0 b1 b0 hh g1 p2 p3 p4
        have F := Lib.hid fin; clear fin
        go_enter Tryd.func14, Tryd.ntmps14
        go_wp2
        go_ret
        exact ⟨ret_u64 (by rw [M.out, F.out]), rfl⟩
      · have r1 := Fx.add_range (a1 * b1 * 4294967296) (a1 * b0) (by omega) p2
        have r2 := Fx.add_range (Fx.add (a1 * b1 * 4294967296) (a1 * b0)) (a0 * b1) r1.1 p3
        obtain ⟨x1, ex1⟩ : ∃ x1, Fx.add (a1 * b1 * 4294967296) (a1 * b0) = x1 := ⟨_, rfl⟩
        rw [ex1] at r1 r2
        obtain ⟨x2, ex2⟩ : ∃ x2, Fx.add x1 (a0 * b1) = x2 := ⟨_, rfl⟩
        rw [ex2] at r2
        have fin := mul_low (a1 * b1 * 4294967296) (a1 * b0) (a0 * b1) (a0 * b0 / 4294967296) (by omega) p2 p3 (by omega)
        rw [ex1, ex2] at fin
        have F := Lib.hid fin; clear fin
        have X1 := Lib.hid ex1; clear ex1
        have X2 := Lib.hid ex2; clear ex2
        obtain ⟨r1, r1'⟩ := r1; obtain ⟨r2, r2'⟩ := r2
        by_cases hx : x2 = 18446744073709551615
        · have hx' : (x2 == 18446744073709551615) = true := by simp [hx]
          have HX := Lib.hid hx; clear hx
          go_enter Tryd.func14, Tryd.ntmps14
          go_wp2_with fail
          refine (rAdd_any _ _ (by omega) (by omega) p2 (by omega) _).mono ?_
          rintro e w' ⟨rfl, rfl⟩
          rw [X1.out]
          go_wp2_with fail
          refine (rAdd_any _ _ r1 r1' p3 (by omega) _).mono ?_
          rintro e w' ⟨rfl, rfl⟩
          rw [X2.out]
          go_wp2_with fail
          go_ret
          exact ⟨ret_u64 (by rw [M.out, ← F.out, HX.out]; exact (add_most _ (by omega)).symm), rfl⟩
        · have hx' : (x2 == 18446744073709551615) = false := by simp [hx]
          go_enter Tryd.func14, Tryd.ntmps14
          go_wp2_with fail
          refine (rAdd_any _ _ (by omega) (by omega) p2 (by omega) _).mono ?_
          rintro e w' ⟨rfl, rfl⟩
          rw [X1.out]
          go_wp2_with fail
          refine (rAdd_any _ _ r1 r1' p3 (by omega) _).mono ?_
          rintro e w' ⟨rfl, rfl⟩
          rw [X2.out]
          go_wp2_with fail
          refine (rAdd_any _ _ r2 r2' (by omega) (by omega) _).mono ?_
          rintro e w' ⟨rfl, rfl⟩
          go_wp2_with fail
          go_ret
          exact ⟨ret_u64 (by rw [M.out, ← F.out]), rfl⟩
  · by_cases hh : 4294967296 ≤ a1 * b1
    · have fin := mul_big a1 a0 b1 b0 hh g1 p2 p3 p4
      have F := Lib.hid fin; clear fin
      go_enter Tryd.func14, Tryd.ntmps14
      go_wp2
      go_ret
      exact ⟨ret_u64 (by rw [M.out, F.out]), rfl⟩
    · have r1 := Fx.add_range (a1 * b1 * 4294967296) (a1 * b0) (by omega) p2
      have r2 := Fx.add_range (Fx.add (a1 * b1 * 4294967296) (a1 * b0)) (a0 * b1) r1.1 p3
      obtain ⟨x1, ex1⟩ : ∃ x1, Fx.add (a1 * b1 * 4294967296) (a1 * b0) = x1 := ⟨_, rfl⟩
      rw [ex1] at r1 r2
      obtain ⟨x2, ex2⟩ : ∃ x2, Fx.add x1 (a0 * b1) = x2 := ⟨_, rfl⟩
      rw [ex2] at r2
      have fin := mul_low (a1 * b1 * 4294967296) (a1 * b0) (a0 * b1) (a0 * b0 / 4294967296) (by omega) p2 p3 (by omega)
      rw [ex1, ex2] at fin
      have F := Lib.hid fin; clear fin
      have X1 := Lib.hid ex1; clear ex1
      have X2 := Lib.hid ex2; clear ex2
      obtain ⟨r1, r1'⟩ := r1; obtain ⟨r2, r2'⟩ := r2
      by_cases hx : x2 = 18446744073709551615
      · have hx' : (x2 == 18446744073709551615) = true := by simp [hx]
        have HX := Lib.hid hx; clear hx
        go_enter Tryd.func14, Tryd.ntmps14
        go_wp2_with fail
        refine (rAdd_any _ _ (by omega) (by omega) p2 (by omega) _).mono ?_
        rintro e w' ⟨rfl, rfl⟩
        rw [X1.out]
        go_wp2_with fail
        refine (rAdd_any _ _ r1 r1' p3 (by omega) _).mono ?_
        rintro e w' ⟨rfl, rfl⟩
        rw [X2.out]
        go_wp2_with fail
        go_ret
        exact ⟨ret_u64 (by rw [M.out, ← F.out, HX.out]; exact (add_most _ (by omega)).symm), rfl⟩
      · have hx' : (x2 == 18446744073709551615) = false := by simp [hx]
        go_enter Tryd.func14, Tryd.ntmps14
        go_wp2_with fail
        refine (rAdd_any _ _ (by omega) (by omega) p2 (by omega) _).mono ?_
        rintro e w' ⟨rfl, rfl⟩
        rw [X1.out]
        go_wp2_with fail
        refine (rAdd_any _ _ r1 r1' p3 (by omega) _).mono ?_
        rintro e w' ⟨rfl, rfl⟩
        rw [X2.out]
        go_wp2_with fail
        refine (rAdd_any _ _ r2 r2' (by omega) (by omega) _).mono ?_
        rintro e w' ⟨rfl, rfl⟩
        go_wp2_with fail
        go_ret
        exact ⟨ret_u64 (by rw [M.out, ← F.out]), rfl⟩

end Go.Proofs.YtkmceioojdhggaaDoor
