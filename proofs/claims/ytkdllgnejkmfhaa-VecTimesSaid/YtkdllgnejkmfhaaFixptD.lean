import Derived.Test.YtkdllgnejkmfhaaFixptC
import Derived.Deep.QuietTactic
import Derived.BigQuiet
import Derived.LoopTactic
namespace Go.Proofs.Ytkdllgnejkmfhaa
open Go.RowKit
set_option linter.unusedVariables false

def DivPost (q : Int) (w : World) (e : Ending) (w' : World) : Prop := ∃ r : Int, e = .returned (.tuple #[.int .u64 q, .int .u64 r]) ∧ ∃ n, w' = w.drewN n

set_option maxHeartbeats 400000 in
theorem Div64_zero (l y : Int) (hl : 0 ≤ l) (hl' : l ≤ 18446744073709551615) (hy : 0 < y) (hy' : y ≤ 18446744073709551615) (w : World) :
    Calls Try.prog 41 #[.int .u64 0, .int .u64 l, .int .u64 y] w (DivPost (l / y) w) := by
  have e0 : (y == 0) = false := by simp; omega
  have b0 : 0 ≤ l / y := Int.ediv_nonneg hl (by omega)
  have b1 : l / y ≤ l := Int.ediv_le_self _ hl
  go_enter Try.func41, Try.ntmps41
  go_wp2
  go_quiet (fail)
  go_wp2
  go_ret2
  exact ⟨_, rfl, _, rfl⟩

/-- The two words, shifted. -/
theorem div_setup (h l y : Int) (s : Nat) (s0 : s ≤ 63) (hh : 0 ≤ h) (hh' : h < y) (hl : 0 ≤ l) (hl' : l ≤ 18446744073709551615) (hY : y * 2 ^ s ≤ 18446744073709551615) :
    ∃ u L : Int, bits .or .u64 (IntKind.u64.wrap (h * 2 ^ s)) (l / 2 ^ (64 - s)) = u ∧ IntKind.u64.wrap (l * 2 ^ s) = L ∧ 0 ≤ u ∧ u < y * 2 ^ s ∧ 0 ≤ L ∧ L ≤ 18446744073709551615 ∧
      u * 18446744073709551616 + L = (h * 18446744073709551616 + l) * 2 ^ s := by
  obtain ⟨h, rfl⟩ := Int.eq_ofNat_of_zero_le hh
  obtain ⟨l, rfl⟩ := Int.eq_ofNat_of_zero_le hl
  obtain ⟨y, rfl⟩ := Int.eq_ofNat_of_zero_le (by omega : 0 ≤ y)
  obtain ⟨P, hP⟩ : ∃ P, P = 2 ^ s := ⟨_, rfl⟩
  obtain ⟨R, hR⟩ : ∃ R, R = 2 ^ (64 - s) := ⟨_, rfl⟩
  have hPR : P * R = 18446744073709551616 := by rw [hP, hR, ← Nat.pow_add, show s + (64 - s) = 64 from by omega]
  have p0 : 0 < P := by rw [hP]; exact Nat.two_pow_pos _
  have r0 : 0 < R := by rw [hR]; exact Nat.two_pow_pos _
  have cP : (2 : Int) ^ s = (P : Int) := by rw [hP]; norm_cast
  have cR : (2 : Int) ^ (64 - s) = (R : Int) := by rw [hR]; norm_cast
  rw [cP] at hY ⊢
  rw [cR]
  have k1 : (h + 1) * P ≤ y * P := Nat.mul_le_mul_right _ (by omega)
  rw [Nat.add_mul, Nat.one_mul] at k1
  have k2 : l / R < P := (Nat.div_lt_iff_lt_mul r0).2 (by omega)
  have hY' : y * P ≤ 18446744073709551615 := by rw [← Int.natCast_mul] at hY; omega
  have k3 : l * P / 18446744073709551616 = l / R := by rw [← hPR, Nat.mul_comm P R]; exact Nat.mul_div_mul_right _ _ p0
  have e1 : IntKind.u64.wrap ((h : Int) * P) = ((h * P : Nat) : Int) := by rw [IntKind.wrap_u64, ← Int.natCast_mul]; omega
  have e2 : (l : Int) / (R : Int) = ((l / R : Nat) : Int) := (Int.natCast_ediv l R).symm
  have e3 : IntKind.u64.wrap ((l : Int) * P) = ((l * P % 18446744073709551616 : Nat) : Int) := by rw [IntKind.wrap_u64, ← Int.natCast_mul]; omega
  have e4 : h * P ||| l / R = h * P + l / R := by
    have e := Nat.two_pow_add_eq_or_of_lt (i := s) (b := l / R) (by rw [← hP]; exact k2) h
    rw [← hP, Nat.mul_comm P h] at e
    exact e.symm
  rw [e1, e2, e3, bits_or_u64_nat _ _ (by omega) (by omega), e4]
  refine ⟨_, _, rfl, rfl, by omega, ?_, by omega, by omega, ?_⟩
  · rw [← Int.natCast_mul]; omega
  · have m : l * P = l / R * 18446744073709551616 + l * P % 18446744073709551616 := by rw [← k3]; omega
    have g : ((h : Int) * 18446744073709551616 + l) * P = ((h * P * 18446744073709551616 + l * P : Nat) : Int) := by
      rw [Int.add_mul, Int.mul_assoc, Int.mul_comm 18446744073709551616 (P : Int), ← Int.mul_assoc, ← Int.natCast_mul, ← Int.natCast_mul]
      omega
    rw [g]
    omega

theorem and_low (a : Int) (h : 0 ≤ a) (h' : a ≤ 18446744073709551615) : bits .and .u64 a 4294967295 = a % 4294967296 := by
  obtain ⟨a, rfl⟩ := Int.eq_ofNat_of_zero_le h
  have h := bits_and_u64_nat a 4294967295 (by omega) (by omega)
  have e : a &&& 4294967295 = a % 4294967296 := Nat.and_two_pow_sub_one_eq_mod a 32
  rw [e] at h
  exact h

/-- What the two loops need of the words, under names: y1, y0 the divisor's halves, d1, d0 those of the lower word. -/
structure Sides (Y y1 y0 u d1 d0 Q u2 : Int) : Prop where
  hy1 : 2147483648 ≤ y1
  hy1' : y1 ≤ 4294967295
  hy0 : 0 ≤ y0
  hy0' : y0 ≤ 4294967295
  eY : Y = y1 * 4294967296 + y0
  hu : 0 ≤ u
  hu' : u < y1 * 4294967296 + y0
  hd1 : 0 ≤ d1
  hd1' : d1 ≤ 4294967295
  hd0 : 0 ≤ d0
  hd0' : d0 ≤ 4294967295
  hQ : Q = (u * 4294967296 + d1) / (y1 * 4294967296 + y0)
  Q0 : 0 ≤ Q
  Q1 : Q ≤ 4294967295
  eu2 : u2 = u * 4294967296 + d1 - Q * (y1 * 4294967296 + y0)
  u20 : 0 ≤ u2
  u21 : u2 < y1 * 4294967296 + y0
  wu2 : IntKind.u64.wrap (IntKind.u64.wrap (IntKind.u64.wrap (u * 4294967296) + d1) - IntKind.u64.wrap (Q * Y)) = u2

theorem sides (Y y1 y0 u d1 d0 : Int) (eY : Y = y1 * 4294967296 + y0) (hy1 : 2147483648 ≤ y1) (hy1' : y1 ≤ 4294967295) (hy0 : 0 ≤ y0) (hy0' : y0 ≤ 4294967295)
    (hu : 0 ≤ u) (hu' : u < Y) (hd1 : 0 ≤ d1) (hd1' : d1 ≤ 4294967295) (hd0 : 0 ≤ d0) (hd0' : d0 ≤ 4294967295) : ∃ Q u2, Sides Y y1 y0 u d1 d0 Q u2 := by
  have l := Fx.dig_lt Y u d1 hu hu' hd1 hd1'
  have r := Fx.dig_rest Y u d1 (by omega)
  subst eY
  generalize hQ : (u * 4294967296 + d1) / (y1 * 4294967296 + y0) = Q at *
  refine ⟨Q, _, hy1, hy1', hy0, hy0', rfl, hu, hu', hd1, hd1', hd0, hd0', hQ.symm, l.1, l.2, rfl, r.1, r.2, ?_⟩
  generalize Q * (y1 * 4294967296 + y0) = m at *
  simp only [IntKind.wrap_u64]
  omega

theorem ret2_u64 {a b c : Int} (h : a = b) : Ending.returned (.tuple #[.int .u64 a, .int .u64 c]) = .returned (.tuple #[.int .u64 b, .int .u64 c]) := by rw [h]
def IsDig (y1 y0 u d : Int) (q r : Value) : Prop := ∃ qi ri : Int, Fx.Dig y1 y0 u d qi ri ∧ ri ≤ 4294967295 ∧ q = .int .u64 qi ∧ r = .int .u64 ri

set_option maxHeartbeats 1000000 in
theorem Div64_pos (h l y : Int) (hh : 0 < h) (hh' : h < y) (hl : 0 ≤ l) (hl' : l ≤ 18446744073709551615) (hy' : y ≤ 18446744073709551615) (w : World) :
    Calls Try.prog 41 #[.int .u64 h, .int .u64 l, .int .u64 y] w (DivPost ((h * 18446744073709551616 + l) / y) w) := by
  have e0 : (y == 0) = false := by simp; omega
  have e1 : (h == 0) = false := by simp; omega
  obtain ⟨s, s0, s1, s2, s3⟩ := lead y (by omega) hy'
  have S1 := Lib.hid s1; clear s1
  obtain ⟨u, L, eu, eL, hu, hu', hL, hL', eN⟩ := div_setup h l y s s0 (by omega) hh' hl hl' s3
  have E : (h * 18446744073709551616 + l) / y = (u * 18446744073709551616 + L) / (y * 2 ^ s) := by
    rw [eN]
    exact (Int.mul_ediv_mul_of_pos_left _ _ (by exact Int.pow_pos (by decide))).symm
  rw [E]
  clear E eN
  generalize eY : y * 2 ^ s = Y at *
  obtain ⟨y1, hy1⟩ : ∃ y1, Y / 4294967296 = y1 := ⟨_, rfl⟩
  obtain ⟨y0, hy0⟩ : ∃ y0, bits .and .u64 Y 4294967295 = y0 := ⟨_, rfl⟩
  obtain ⟨d1, hd1⟩ : ∃ d1, L / 4294967296 = d1 := ⟨_, rfl⟩
  obtain ⟨d0, hd0⟩ : ∃ d0, bits .and .u64 L 4294967295 = d0 := ⟨_, rfl⟩
  have hy0m := and_low Y (by omega) s3
  have hd0m := and_low L hL hL'
  rw [hy0] at hy0m
  rw [hd0] at hd0m
  obtain ⟨Q, u2, S⟩ := sides Y y1 y0 u d1 d0 (by omega) (by omega) (by omega) (by omega) (by omega) hu hu' (by omega) (by omega) (by omega) (by omega)
  have hfin : (u * 18446744073709551616 + L) / Y = Q * 4294967296 + (u2 * 4294967296 + d0) / (y1 * 4294967296 + y0) := by
    have t := Fx.dig_two Y u d1 d0 (by omega)
    rw [S.eu2, S.hQ, ← S.eY, t]
    congr 1; omega
  rw [hfin]
  clear hfin hy0m hd0m
  obtain ⟨D1, _⟩ := Fx.dig_start y1 y0 u d1 S.hy1 S.hy0 S.hy0' S.hd1 S.hd1' S.hu S.hu'
  have a1 := D1.q0
  have a2 := D1.qle
  have a3 := D1.r0
  have a4 : 0 ≤ u / y1 * y1 := Int.mul_nonneg D1.q0 (by have := S.hy1; omega)
  have b1 := S.hy1; have b2 := S.hy1'; have b3 := S.hy0; have b4 := S.hy0'; have b5 := S.hd1; have b6 := S.hd1'; have b7 := S.hd0; have b8 := S.hd0'
  obtain ⟨D2, f0⟩ := Fx.dig_start y1 y0 u2 d0 S.hy1 S.hy0 S.hy0' S.hd0 S.hd0' S.u20 S.u21
  have f1 := D2.q0
  have f2 := D2.qle
  have f3 := D2.r0
  have f4 : 0 ≤ u2 / y1 * y1 := Int.mul_nonneg D2.q0 (by have := S.hy1; omega)
  have f5 := S.u20; have f6 := S.u21; have f7 := S.Q0; have f8 := S.Q1
  have Z := Fx.dig_lt (y1 * 4294967296 + y0) u2 d0 S.u20 S.u21 S.hd0 S.hd0'
  go_enter Try.func41, Try.ntmps41
  go_wp2_with (go_at_call 42; refine (lead64 y (by omega) hy' _).mono ?_; rintro e w' ⟨rfl, rfl⟩; rw [S1.out])
  go_loop [15, 16] (IsDig y1 y0 u d1) (fun q _ => (intOf q).toNat)
  case atStart => exact ⟨_, _, D1, by omega, rfl, rfl⟩
  case round =>
    obtain ⟨q, r, D, hr, rfl, rfl⟩ := hrel
    have c1 := D.q0; have c2 := D.qle; have c3 := D.r0
    have c4 : 0 ≤ q * y0 := Int.mul_nonneg c1 b3
    by_cases hq : 4294967296 ≤ q
    · obtain ⟨D', j5, j6⟩ := Fx.dig_step y1 y0 u d1 q r b1 b3 b5 b6 S.hu S.hu' D (Or.inl hq)
      by_cases hr' : 4294967296 ≤ r + y1
      · have hq1 : q - 1 = Q := (Fx.dig_end y1 y0 u d1 _ _ b1 b3 b4 b5 D' (Or.inr ⟨j6, hr'⟩)).trans S.hQ.symm
        have W2 := S.wu2
        go_wp2
        clear W2
        go_loop [18, 16] (IsDig y1 y0 u2 d0) (fun q _ => (intOf q).toNat)
        case atStart => exact ⟨_, _, D2, by omega, rfl, rfl⟩
        case round =>
          obtain ⟨p, t, G, ht0, rfl, rfl⟩ := hrel
          have k1 := G.q0; have k2 := G.qle; have k3 := G.r0
          have k4 : 0 ≤ p * y0 := Int.mul_nonneg k1 b3
          by_cases hp : 4294967296 ≤ p
          · obtain ⟨G', k5, k6⟩ := Fx.dig_step y1 y0 u2 d0 p t b1 b3 b7 b8 S.u20 S.u21 G (Or.inl hp)
            by_cases ht' : 4294967296 ≤ t + y1
            · have hp1 := Fx.dig_end y1 y0 u2 d0 _ _ b1 b3 b4 b7 G' (Or.inr ⟨k6, ht'⟩)
              have hp2 : 0 ≤ p - 1 ∧ p - 1 ≤ 4294967295 := by rw [hp1]; exact Z
              have H1 := Lib.hid hp1; clear hp1
              go_wp2
              go_ret2
              exact ⟨_, ret2_u64 (by rw [H1.out]), 0, rfl⟩
            · go_wp2
              go_round
              case rel => exact ⟨_, _, G', by omega, rfl, rfl⟩
              case measure => simp [intOf]; omega
          · have k5 : p * y0 ≤ 18446744073709551615 := by
              have := Int.mul_le_mul (by omega : p ≤ 4294967295) b4 b3 (by decide)
              omega
            by_cases ht : 4294967296 * t + d0 < p * y0
            · obtain ⟨G', k7, k6⟩ := Fx.dig_step y1 y0 u2 d0 p t b1 b3 b7 b8 S.u20 S.u21 G (Or.inr ht)
              by_cases ht' : 4294967296 ≤ t + y1
              · have hp1 := Fx.dig_end y1 y0 u2 d0 _ _ b1 b3 b4 b7 G' (Or.inr ⟨k6, ht'⟩)
                have H1 := Lib.hid hp1; clear hp1
                go_wp2
                go_ret2
                exact ⟨_, ret2_u64 (by rw [H1.out]), 0, rfl⟩
              · go_wp2
                go_round
                case rel => exact ⟨_, _, G', by omega, rfl, rfl⟩
                case measure => simp [intOf]; omega
            · have hp1 := Fx.dig_end y1 y0 u2 d0 _ _ b1 b3 b4 b7 G (Or.inl ⟨by omega, by omega⟩)
              have H1 := Lib.hid hp1; clear hp1
              go_wp2
              go_ret2
              exact ⟨_, ret2_u64 (by rw [H1.out]), 0, rfl⟩
      · go_wp2
        go_round
        case rel => exact ⟨_, _, D', by omega, rfl, rfl⟩
        case measure => simp [intOf]; omega
    · have c5 : q * y0 ≤ 18446744073709551615 := by
        have := Int.mul_le_mul (by omega : q ≤ 4294967295) b4 b3 (by decide)
        omega
      by_cases ht : 4294967296 * r + d1 < q * y0
      · obtain ⟨D', j5, j6⟩ := Fx.dig_step y1 y0 u d1 q r b1 b3 b5 b6 S.hu S.hu' D (Or.inr ht)
        by_cases hr' : 4294967296 ≤ r + y1
        · have hq1 : q - 1 = Q := (Fx.dig_end y1 y0 u d1 _ _ b1 b3 b4 b5 D' (Or.inr ⟨j6, hr'⟩)).trans S.hQ.symm
          have W2 := S.wu2
          go_wp2
          clear W2
          go_loop [18, 16] (IsDig y1 y0 u2 d0) (fun q _ => (intOf q).toNat)
          case atStart => exact ⟨_, _, D2, by omega, rfl, rfl⟩
          case round =>
            obtain ⟨p, t, G, ht0, rfl, rfl⟩ := hrel
            have k1 := G.q0; have k2 := G.qle; have k3 := G.r0
            have k4 : 0 ≤ p * y0 := Int.mul_nonneg k1 b3
            by_cases hp : 4294967296 ≤ p
            · obtain ⟨G', k5, k6⟩ := Fx.dig_step y1 y0 u2 d0 p t b1 b3 b7 b8 S.u20 S.u21 G (Or.inl hp)
              by_cases ht' : 4294967296 ≤ t + y1
              · have hp1 := Fx.dig_end y1 y0 u2 d0 _ _ b1 b3 b4 b7 G' (Or.inr ⟨k6, ht'⟩)
                have hp2 : 0 ≤ p - 1 ∧ p - 1 ≤ 4294967295 := by rw [hp1]; exact Z
                have H1 := Lib.hid hp1; clear hp1
                go_wp2
                go_ret2
                exact ⟨_, ret2_u64 (by rw [H1.out]), 0, rfl⟩
              · go_wp2
                go_round
                case rel => exact ⟨_, _, G', by omega, rfl, rfl⟩
                case measure => simp [intOf]; omega
            · have k5 : p * y0 ≤ 18446744073709551615 := by
                have := Int.mul_le_mul (by omega : p ≤ 4294967295) b4 b3 (by decide)
                omega
              by_cases ht : 4294967296 * t + d0 < p * y0
              · obtain ⟨G', k7, k6⟩ := Fx.dig_step y1 y0 u2 d0 p t b1 b3 b7 b8 S.u20 S.u21 G (Or.inr ht)
                by_cases ht' : 4294967296 ≤ t + y1
                · have hp1 := Fx.dig_end y1 y0 u2 d0 _ _ b1 b3 b4 b7 G' (Or.inr ⟨k6, ht'⟩)
                  have H1 := Lib.hid hp1; clear hp1
                  go_wp2
                  go_ret2
                  exact ⟨_, ret2_u64 (by rw [H1.out]), 0, rfl⟩
                · go_wp2
                  go_round
                  case rel => exact ⟨_, _, G', by omega, rfl, rfl⟩
                  case measure => simp [intOf]; omega
              · have hp1 := Fx.dig_end y1 y0 u2 d0 _ _ b1 b3 b4 b7 G (Or.inl ⟨by omega, by omega⟩)
                have H1 := Lib.hid hp1; clear hp1
                go_wp2
                go_ret2
                exact ⟨_, ret2_u64 (by rw [H1.out]), 0, rfl⟩
        · go_wp2
          go_round
          case rel => exact ⟨_, _, D', by omega, rfl, rfl⟩
          case measure => simp [intOf]; omega
      · have hq1 : Q = q := S.hQ.trans (Fx.dig_end y1 y0 u d1 _ _ b1 b3 b4 b5 D (Or.inl ⟨by omega, by omega⟩)).symm
        clear D c1 c2
        subst hq1
        have W2 := S.wu2
        go_wp2
        clear W2
        go_loop [18, 16] (IsDig y1 y0 u2 d0) (fun q _ => (intOf q).toNat)
        case atStart => exact ⟨_, _, D2, by omega, rfl, rfl⟩
        case round =>
          obtain ⟨p, t, G, ht0, rfl, rfl⟩ := hrel
          have k1 := G.q0; have k2 := G.qle; have k3 := G.r0
          have k4 : 0 ≤ p * y0 := Int.mul_nonneg k1 b3
          by_cases hp : 4294967296 ≤ p
          · obtain ⟨G', k5, k6⟩ := Fx.dig_step y1 y0 u2 d0 p t b1 b3 b7 b8 S.u20 S.u21 G (Or.inl hp)
            by_cases ht' : 4294967296 ≤ t + y1
            · have hp1 := Fx.dig_end y1 y0 u2 d0 _ _ b1 b3 b4 b7 G' (Or.inr ⟨k6, ht'⟩)
              have hp2 : 0 ≤ p - 1 ∧ p - 1 ≤ 4294967295 := by rw [hp1]; exact Z
              have H1 := Lib.hid hp1; clear hp1
              go_wp2
              go_ret2
              exact ⟨_, ret2_u64 (by rw [H1.out]), 0, rfl⟩
            · go_wp2
              go_round
              case rel => exact ⟨_, _, G', by omega, rfl, rfl⟩
              case measure => simp [intOf]; omega
          · have k5 : p * y0 ≤ 18446744073709551615 := by
              have := Int.mul_le_mul (by omega : p ≤ 4294967295) b4 b3 (by decide)
              omega
            by_cases ht : 4294967296 * t + d0 < p * y0
            · obtain ⟨G', k7, k6⟩ := Fx.dig_step y1 y0 u2 d0 p t b1 b3 b7 b8 S.u20 S.u21 G (Or.inr ht)
              by_cases ht' : 4294967296 ≤ t + y1
              · have hp1 := Fx.dig_end y1 y0 u2 d0 _ _ b1 b3 b4 b7 G' (Or.inr ⟨k6, ht'⟩)
                have H1 := Lib.hid hp1; clear hp1
                go_wp2
                go_ret2
                exact ⟨_, ret2_u64 (by rw [H1.out]), 0, rfl⟩
              · go_wp2
                go_round
                case rel => exact ⟨_, _, G', by omega, rfl, rfl⟩
                case measure => simp [intOf]; omega
            · have hp1 := Fx.dig_end y1 y0 u2 d0 _ _ b1 b3 b4 b7 G (Or.inl ⟨by omega, by omega⟩)
              have H1 := Lib.hid hp1; clear hp1
              go_wp2
              go_ret2
              exact ⟨_, ret2_u64 (by rw [H1.out]), 0, rfl⟩

end Go.Proofs.Ytkdllgnejkmfhaa
