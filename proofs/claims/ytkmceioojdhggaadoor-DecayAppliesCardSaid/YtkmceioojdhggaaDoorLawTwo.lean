import Derived.Test.YtkmceioojdhggaaDoorDecB
namespace Go.Proofs.YtkmceioojdhggaaDoor
open Go.RowKit
set_option linter.unusedVariables false

set_option maxHeartbeats 400000 in
theorem DecayFactors_walk (a : Int) (a0 : -9223372036854775808 ≤ a) (a1 : a ≤ 9223372036854775807) (h : Int) (h0 : -9223372036854775808 ≤ h) (h1 : h ≤ 9223372036854775807) (w : World) (ht : HasTab w) :
    Calls Tryd.prog 3 #[.int .i64 a, .int .i64 h] w fun e w' => e = .returned (.bool true) ∧ Grown w w' := by
  go_enter Tryd.func3, Tryd.ntmps3
  go_wp2_with fail
  refine (Factor_any _ _ a0 a1 h0 h1 _ ht).mono ?_
  rintro e w' ⟨rfl, n1, rfl⟩
  go_wp2_with fail
  refine (rFactor_any _ _ a0 a1 h0 h1 _).mono ?_
  rintro e w2 ⟨rfl, g2⟩
  go_wp2_with fail
  refine (awake2_any _ ((ht.drewN _).grown g2)).mono ?_
  rintro e w3 ⟨rfl, g3⟩
  go_wp2_with fail
  go_ret
  exact ⟨rfl, grown_trans (grown_trans (Grown.refl w : Grown w (w.drewN n1)) g2) g3⟩

set_option maxHeartbeats 400000 in
theorem DecayApplies_walk (x : Int) (x0 : 0 ≤ x) (x1 : x ≤ 18446744073709551615) (a : Int) (a0 : -9223372036854775808 ≤ a) (a1 : a ≤ 9223372036854775807) (h : Int) (h0 : -9223372036854775808 ≤ h) (h1 : h ≤ 9223372036854775807) (w : World) (ht : HasTab w) :
    Calls Tryd.prog 4 #[.int .u64 x, .int .i64 a, .int .i64 h] w fun e w' => e = .returned (.bool true) ∧ Grown w w' := by
  go_enter Tryd.func4, Tryd.ntmps4
  go_wp2_with fail
  refine (Apply_any _ _ _ x0 x1 a0 a1 h0 h1 _ ht).mono ?_
  rintro e w' ⟨rfl, n1, rfl⟩
  go_wp2_with fail
  refine (rApply_any _ _ _ x0 x1 a0 a1 h0 h1 _).mono ?_
  rintro e w2 ⟨rfl, g2⟩
  go_wp2_with fail
  refine (awake2_any _ ((ht.drewN _).grown g2)).mono ?_
  rintro e w3 ⟨rfl, g3⟩
  go_wp2_with fail
  go_ret
  exact ⟨rfl, grown_trans (grown_trans (Grown.refl w : Grown w (w.drewN n1)) g2) g3⟩

theorem uMod (a m : Int) (m0 : 0 < m) : ∃ r, (IntKind.u64.wrap a).tmod m = r ∧ 0 ≤ r ∧ r < m := by
  have h0 : 0 ≤ IntKind.u64.wrap a := by rw [IntKind.wrap_u64]; omega
  exact ⟨_, rfl, by rw [Int.tmod_eq_emod_of_nonneg h0]; exact Int.emod_nonneg _ (by omega), by rw [Int.tmod_eq_emod_of_nonneg h0]; exact Int.emod_lt_of_pos _ m0⟩

set_option maxHeartbeats 400000 in
theorem DecayHalves_walk (x : Int) (x0 : 0 ≤ x) (x1 : x ≤ 18446744073709551615) (a : Int) (a0 : -9223372036854775808 ≤ a) (a1 : a ≤ 9223372036854775807) (h : Int) (h0 : -9223372036854775808 ≤ h) (h1 : h ≤ 9223372036854775807) (w : World) (ht : HasTab w) :
    Calls Tryd.prog 6 #[.int .u64 x, .int .i64 a, .int .i64 h] w fun e w' => e = .returned (.bool true) ∧ Grown w w' := by
  obtain ⟨H, eH, H0, H1⟩ := uMod h 1099511627776 (by decide)
  obtain ⟨A, eA, A0, A1⟩ := uMod a 1125899906842624 (by decide)
  have r1 := Dec.fac_range A (1 + H)
  have hf := Dec.fac_half A (1 + H) A0 (by omega)
  have hm := Dec.mul_le x (Dec.fac A (1 + H)) x0 x1 r1.2
  obtain ⟨r0, r1⟩ := r1
  have HF := Lib.hid hf; clear hf
  go_enter Tryd.func6, Tryd.ntmps6
  go_wp2_with fail
  refine (Factor_any _ _ (by omega) (by omega) (by omega) (by omega) _ ht).mono ?_
  rintro e w' ⟨rfl, n1, rfl⟩
  go_wp2_with fail
  refine (Factor_any _ _ (by omega) (by omega) (by omega) (by omega) _ (ht.drewN _)).mono ?_
  rintro e w' ⟨rfl, n2, rfl⟩
  rw [HF.out]
  go_wp2_with fail
  refine (Apply_any _ _ _ x0 x1 (by omega) (by omega) (by omega) (by omega) _ (ht.drewN _)).mono ?_
  rintro e w' ⟨rfl, n3, rfl⟩
  go_wp2_with fail
  refine (awake2_any _ (ht.drewN _)).mono ?_
  rintro e w3 ⟨rfl, g3⟩
  go_wp2_with fail
  go_ret
  exact ⟨rfl, grown_trans (Grown.refl w : Grown w (w.drewN _)) g3⟩

theorem mul_small (a b M N : Int) (a0 : 0 ≤ a) (a1 : a ≤ M) (b0 : 0 ≤ b) (b1 : b ≤ N) : 0 ≤ a * b ∧ a * b ≤ M * N := by
  refine ⟨Int.mul_nonneg a0 b0, ?_⟩
  exact Int.mul_le_mul a1 b1 b0 (by omega)

set_option maxHeartbeats 400000 in
theorem DecayScales_walk (a : Int) (a0 : -9223372036854775808 ≤ a) (a1 : a ≤ 9223372036854775807) (h : Int) (h0 : -9223372036854775808 ≤ h) (h1 : h ≤ 9223372036854775807) (b : Int) (b0 : -9223372036854775808 ≤ b) (b1 : b ≤ 9223372036854775807) (w : World) (ht : HasTab w) :
    Calls Tryd.prog 7 #[.int .i64 a, .int .i64 h, .int .i64 b] w fun e w' => e = .returned (.bool true) ∧ Grown w w' := by
  obtain ⟨H, eH, H0, H1⟩ := uMod h 1000 (by decide)
  obtain ⟨A, eA, A0, A1⟩ := uMod a 100000 (by decide)
  obtain ⟨B, eB, B0, B1⟩ := uMod b 1000 (by decide)
  obtain ⟨p0, p1⟩ := mul_small A (1 + B) 100000 1000 A0 (by omega) (by omega) (by omega)
  obtain ⟨q0, q1⟩ := mul_small (1 + H) (1 + B) 1000 1000 (by omega) (by omega) (by omega) (by omega)
  have hf := Dec.fac_scale A (1 + H) (1 + B) A0 (by omega) (by omega)
  have HF := Lib.hid hf; clear hf
  have p2 : A * (1 + B) ≤ 100000000 := by omega
  have q2 : (1 + H) * (1 + B) ≤ 1000000 := by omega
  clear p1 q1
  go_enter Tryd.func7, Tryd.ntmps7
  go_wp2_with fail
  refine (Factor_any _ _ (by omega) (by omega) (by omega) (by omega) _ ht).mono ?_
  rintro e w' ⟨rfl, n1, rfl⟩
  rw [HF.out]
  go_wp2_with fail
  refine (Factor_any _ _ (by omega) (by omega) (by omega) (by omega) _ (ht.drewN _)).mono ?_
  rintro e w' ⟨rfl, n2, rfl⟩
  go_wp2_with fail
  refine (awake2_any _ (ht.drewN _)).mono ?_
  rintro e w3 ⟨rfl, g3⟩
  go_wp2_with fail
  go_ret
  exact ⟨rfl, grown_trans (Grown.refl w : Grown w (w.drewN _)) g3⟩

end Go.Proofs.YtkmceioojdhggaaDoor
