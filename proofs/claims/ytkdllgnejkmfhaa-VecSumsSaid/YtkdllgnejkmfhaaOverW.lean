import Derived.Test.YtkdllgnejkmfhaaOver
import Derived.LoopTactic
namespace Go.Proofs.Ytkdllgnejkmfhaa
open Go.RowKit
set_option linter.unusedVariables false

set_option maxHeartbeats 1000000 in
theorem over_any (a b : Int) (ha : 0 ≤ a) (ha' : a ≤ 18446744073709551615) (hb : 1 ≤ b) (hb' : b ≤ 18446744073709551615) (w : World) :
    Calls Try.prog 39 #[.int .u64 a, .int .u64 b] w fun e w' => e = .returned (.int .u64 (Fx.cap (a * 4294967296 / b))) ∧ w = w' := by
  go_enter Try.func39, Try.ntmps39
  go_wp2
  go_loop [5, 6, 7] (AtBit a b) (fun _ _ i => (intOf i + 1).toNat)
  case atStart => exact ⟨96, by omega, rfl, by rw [top_start a ha ha']; simp, by rw [top_start a ha ha']; simp, by rw [top_start a ha ha']; simp⟩
  case round =>
    obtain ⟨k, hk, rfl, rfl, rfl, hq⟩ := hrel
    rcases k with _ | j
    · go_wp2
      go_ret
      exact ⟨ret_u64 (by rw [top_zero] at hq ⊢; exact (Fx.cap_in _ hq).symm), rfl⟩
    · rw [show ((j + 1 : Nat) : Int) - 1 = (j : Int) from by omega]
      obtain ⟨t, et', t0, t1, et2'⟩ := top_step a j
      have hX := top_nonneg a (j + 1) ha
      have st := over_step (top a (j + 1)) b t (by omega) hX t0 t1
      rw [← et'] at st
      have m0 := Int.emod_nonneg (top a (j + 1)) (by omega : b ≠ 0)
      have m1 := Int.emod_lt_of_pos (top a (j + 1)) (by omega : 0 < b)
      have q0 := Int.ediv_nonneg hX (by omega : 0 ≤ b)
      have big := top_big a b j ha (by omega)
      have hlow' := top_low a j
      have hhigh' := top_high a j
      generalize top a (j + 1) % b = R at *
      generalize top a (j + 1) / b = Q at *
      obtain ⟨st1', st2'⟩ := st
      have et := Lib.hid et'; have et2 := Lib.hid et2'; have hlow := Lib.hid hlow'; have hhigh := Lib.hid hhigh'; have st1 := Lib.hid st1'; have st2 := Lib.hid st2'
      clear et' et2' hlow' hhigh' st1' st2'
      by_cases hb1 : 9223372036854775808 ≤ Q
      · by_cases hj : 32 ≤ j
        · have hh := hhigh.out hj
          have hx := Int.ediv_nonneg ha (by have : (0 : Int) < 2 ^ (j - 32) := Int.pow_pos (by decide); omega : (0 : Int) ≤ 2 ^ (j - 32))
          have hx' := Int.ediv_le_self (2 ^ (j - 32)) ha
          have hv := bit_one _ hx (by omega)
          rw [← hh, ← et2.out] at hv
          rw [hh] at hv
          by_cases ht : t = 1
          · have hbit : (bits .and .u64 (a / 2 ^ (j - 32)) 1 == 1) = true := by rw [hv, ht]; rfl
            clear hv hx hx' hh
            rw [ht] at st1 st2
            clear t0 t1 et et2 ht
            by_cases hr : 9223372036854775808 ≤ R
            · have v1 : IntKind.u64.wrap (R * 2) = (R - 9223372036854775808) * 2 := by rw [IntKind.wrap_u64]; omega
              obtain ⟨S, eS⟩ : ∃ S, (R - 9223372036854775808) * 2 = S := ⟨_, rfl⟩
              rw [eS] at v1
              have v2 := or_one (R - 9223372036854775808) (by omega) (by omega)
              rw [eS] at v2
              have v3 : IntKind.u64.wrap (S + 1 - b) = R * 2 + 1 - b := by rw [IntKind.wrap_u64]; omega
              have s1 : 0 ≤ S := by omega
              have s2 : S ≤ 18446744073709551614 := by omega
              have s3 : b ≤ R * 2 + 1 := by omega
              have ES := Lib.hid eS; clear eS
              have B := Lib.hid (big hb1)
              go_wp2
              go_ret
              exact ⟨ret_u64 (Fx.cap_out _ B.out).symm, rfl⟩
            · have v2 := or_one R m0 (by omega)
              by_cases hs : b ≤ R * 2 + 1
              · have B := Lib.hid (big hb1)
                go_wp2
                go_ret
                exact ⟨ret_u64 (Fx.cap_out _ B.out).symm, rfl⟩
              · have B := Lib.hid (big hb1)
                go_wp2
                go_ret
                exact ⟨ret_u64 (Fx.cap_out _ B.out).symm, rfl⟩
          · have ht0 : t = 0 := by omega
            have hbit : (bits .and .u64 (a / 2 ^ (j - 32)) 1 == 1) = false := by rw [hv, ht0]; rfl
            clear hv hx hx' hh
            rw [ht0, Int.add_zero] at st1 st2
            clear t0 t1 et et2 ht ht0
            by_cases hr : 9223372036854775808 ≤ R
            · have v1 : IntKind.u64.wrap (R * 2) = (R - 9223372036854775808) * 2 := by rw [IntKind.wrap_u64]; omega
              obtain ⟨S, eS⟩ : ∃ S, (R - 9223372036854775808) * 2 = S := ⟨_, rfl⟩
              rw [eS] at v1
              have v3 : IntKind.u64.wrap (S - b) = R * 2 - b := by rw [IntKind.wrap_u64]; omega
              have s1 : 0 ≤ S := by omega
              have s2 : S ≤ 18446744073709551614 := by omega
              have s3 : b ≤ R * 2 := by omega
              have ES := Lib.hid eS; clear eS
              have B := Lib.hid (big hb1)
              go_wp2
              go_ret
              exact ⟨ret_u64 (Fx.cap_out _ B.out).symm, rfl⟩
            · by_cases hs : b ≤ R * 2
              · have B := Lib.hid (big hb1)
                go_wp2
                go_ret
                exact ⟨ret_u64 (Fx.cap_out _ B.out).symm, rfl⟩
              · have B := Lib.hid (big hb1)
                go_wp2
                go_ret
                exact ⟨ret_u64 (Fx.cap_out _ B.out).symm, rfl⟩
        · have ht0 : t = 0 := by rw [et2.out]; exact hlow.out (by omega)
          rw [ht0, Int.add_zero] at st1 st2
          clear t0 t1 et et2 ht0
          by_cases hr : 9223372036854775808 ≤ R
          · have v1 : IntKind.u64.wrap (R * 2) = (R - 9223372036854775808) * 2 := by rw [IntKind.wrap_u64]; omega
            obtain ⟨S, eS⟩ : ∃ S, (R - 9223372036854775808) * 2 = S := ⟨_, rfl⟩
            rw [eS] at v1
            have v3 : IntKind.u64.wrap (S - b) = R * 2 - b := by rw [IntKind.wrap_u64]; omega
            have s1 : 0 ≤ S := by omega
            have s2 : S ≤ 18446744073709551614 := by omega
            have s3 : b ≤ R * 2 := by omega
            have ES := Lib.hid eS; clear eS
            have B := Lib.hid (big hb1)
            go_wp2
            go_ret
            exact ⟨ret_u64 (Fx.cap_out _ B.out).symm, rfl⟩
          · by_cases hs : b ≤ R * 2
            · have B := Lib.hid (big hb1)
              go_wp2
              go_ret
              exact ⟨ret_u64 (Fx.cap_out _ B.out).symm, rfl⟩
            · have B := Lib.hid (big hb1)
              go_wp2
              go_ret
              exact ⟨ret_u64 (Fx.cap_out _ B.out).symm, rfl⟩
      · clear big
        have oq := or_one Q q0 (by omega)
        by_cases hj : 32 ≤ j
        · have hh := hhigh.out hj
          have hx := Int.ediv_nonneg ha (by have : (0 : Int) < 2 ^ (j - 32) := Int.pow_pos (by decide); omega : (0 : Int) ≤ 2 ^ (j - 32))
          have hx' := Int.ediv_le_self (2 ^ (j - 32)) ha
          have hv := bit_one _ hx (by omega)
          rw [← hh, ← et2.out] at hv
          rw [hh] at hv
          by_cases ht : t = 1
          · have hbit : (bits .and .u64 (a / 2 ^ (j - 32)) 1 == 1) = true := by rw [hv, ht]; rfl
            clear hv hx hx' hh
            rw [ht] at st1 st2
            clear t0 t1 et et2 ht
            by_cases hr : 9223372036854775808 ≤ R
            · have v1 : IntKind.u64.wrap (R * 2) = (R - 9223372036854775808) * 2 := by rw [IntKind.wrap_u64]; omega
              obtain ⟨S, eS⟩ : ∃ S, (R - 9223372036854775808) * 2 = S := ⟨_, rfl⟩
              rw [eS] at v1
              have v2 := or_one (R - 9223372036854775808) (by omega) (by omega)
              rw [eS] at v2
              have v3 : IntKind.u64.wrap (S + 1 - b) = R * 2 + 1 - b := by rw [IntKind.wrap_u64]; omega
              have s1 : 0 ≤ S := by omega
              have s2 : S ≤ 18446744073709551614 := by omega
              have s3 : b ≤ R * 2 + 1 := by omega
              have ES := Lib.hid eS; clear eS
              have F := Lib.hid (st1.out (by omega))
              go_wp2
              go_round
              case rel => exact ⟨j, by omega, rfl, by rw [F.out.1], by rw [F.out.2], by rw [F.out.1]; omega⟩
              case measure => simp [intOf]
            · have v2 := or_one R m0 (by omega)
              by_cases hs : b ≤ R * 2 + 1
              · have F := Lib.hid (st1.out (by omega))
                go_wp2
                go_round
                case rel => exact ⟨j, by omega, rfl, by rw [F.out.1], by rw [F.out.2], by rw [F.out.1]; omega⟩
                case measure => simp [intOf]
              · have F := Lib.hid (st2.out (by omega))
                go_wp2
                go_round
                case rel => exact ⟨j, by omega, rfl, by rw [F.out.1], by rw [F.out.2], by rw [F.out.1]; omega⟩
                case measure => simp [intOf]
          · have ht0 : t = 0 := by omega
            have hbit : (bits .and .u64 (a / 2 ^ (j - 32)) 1 == 1) = false := by rw [hv, ht0]; rfl
            clear hv hx hx' hh
            rw [ht0, Int.add_zero] at st1 st2
            clear t0 t1 et et2 ht ht0
            by_cases hr : 9223372036854775808 ≤ R
            · have v1 : IntKind.u64.wrap (R * 2) = (R - 9223372036854775808) * 2 := by rw [IntKind.wrap_u64]; omega
              obtain ⟨S, eS⟩ : ∃ S, (R - 9223372036854775808) * 2 = S := ⟨_, rfl⟩
              rw [eS] at v1
              have v3 : IntKind.u64.wrap (S - b) = R * 2 - b := by rw [IntKind.wrap_u64]; omega
              have s1 : 0 ≤ S := by omega
              have s2 : S ≤ 18446744073709551614 := by omega
              have s3 : b ≤ R * 2 := by omega
              have ES := Lib.hid eS; clear eS
              have F := Lib.hid (st1.out (by omega))
              go_wp2
              go_round
              case rel => exact ⟨j, by omega, rfl, by rw [F.out.1], by rw [F.out.2], by rw [F.out.1]; omega⟩
              case measure => simp [intOf]
            · by_cases hs : b ≤ R * 2
              · have F := Lib.hid (st1.out (by omega))
                go_wp2
                go_round
                case rel => exact ⟨j, by omega, rfl, by rw [F.out.1], by rw [F.out.2], by rw [F.out.1]; omega⟩
                case measure => simp [intOf]
              · have F := Lib.hid (st2.out (by omega))
                go_wp2
                go_round
                case rel => exact ⟨j, by omega, rfl, by rw [F.out.1], by rw [F.out.2], by rw [F.out.1]; omega⟩
                case measure => simp [intOf]
        · have ht0 : t = 0 := by rw [et2.out]; exact hlow.out (by omega)
          rw [ht0, Int.add_zero] at st1 st2
          clear t0 t1 et et2 ht0
          by_cases hr : 9223372036854775808 ≤ R
          · have v1 : IntKind.u64.wrap (R * 2) = (R - 9223372036854775808) * 2 := by rw [IntKind.wrap_u64]; omega
            obtain ⟨S, eS⟩ : ∃ S, (R - 9223372036854775808) * 2 = S := ⟨_, rfl⟩
            rw [eS] at v1
            have v3 : IntKind.u64.wrap (S - b) = R * 2 - b := by rw [IntKind.wrap_u64]; omega
            have s1 : 0 ≤ S := by omega
            have s2 : S ≤ 18446744073709551614 := by omega
            have s3 : b ≤ R * 2 := by omega
            have ES := Lib.hid eS; clear eS
            have F := Lib.hid (st1.out (by omega))
            go_wp2
            go_round
            case rel => exact ⟨j, by omega, rfl, by rw [F.out.1], by rw [F.out.2], by rw [F.out.1]; omega⟩
            case measure => simp [intOf]
          · by_cases hs : b ≤ R * 2
            · have F := Lib.hid (st1.out (by omega))
              go_wp2
              go_round
              case rel => exact ⟨j, by omega, rfl, by rw [F.out.1], by rw [F.out.2], by rw [F.out.1]; omega⟩
              case measure => simp [intOf]
            · have F := Lib.hid (st2.out (by omega))
              go_wp2
              go_round
              case rel => exact ⟨j, by omega, rfl, by rw [F.out.1], by rw [F.out.2], by rw [F.out.1]; omega⟩
              case measure => simp [intOf]

end Go.Proofs.Ytkdllgnejkmfhaa
