/- CRC-32C: the reference's sum. -/
import Derived.Test.YtcjpednhefeboaaCrcA
namespace Go.Proofs.Ytcjpednhefeboaa
open Go.RowKit
set_option linter.unusedVariables false

theorem cr_low (x : Nat) (h : x < 4294967296) : bits .and .u32 (x : Int) 1 = ((x % 2 : Nat) : Int) := by
  have := u32_and_nat x 1 h (by omega)
  rw [Nat.and_one_is_mod] at this
  exact_mod_cast this
theorem cr_odd (x : Nat) (h : x < 4294967296) (e : x % 2 = 1) : bits .xor .u32 ((x : Int) / 2) 2197175160 = ((Cr.step x : Nat) : Int) := by
  have h2 : ((x : Int) / 2) = ((x / 2 : Nat) : Int) := by omega
  have := u32_xor_nat (x / 2) 2197175160 (by omega) (by omega)
  rw [h2]
  unfold Cr.step
  rw [e]
  exact this
theorem cr_even (x : Nat) (e : x % 2 = 0) : ((x : Int) / 2) = ((Cr.step x : Nat) : Int) := by
  unfold Cr.step
  rw [e]
  simp

set_option maxHeartbeats 400000 in
theorem rSum_any (s : ByteArray) (hs : s.size ≤ 9000000000000000000) (w : World) :
    Calls Try.prog 45 #[.string s] w fun e w' => e = .returned (.int .u32 ((Cr.sum s : Nat) : Int)) ∧ w = w' := by
  go_enter Try.func45, Try.ntmps45
  go_wp2
  go_loop [3, 4] (fun r i => ∃ k : Nat, k ≤ s.size ∧ i = .int .i64 k ∧ r = .int .u32 ((Cr.fold 4294967295 (s.data.toList.take k) : Nat) : Int)) (fun _ i => s.size - (intOf i).toNat)
  case atStart => exact ⟨0, Nat.zero_le _, rfl, rfl⟩
  case round =>
    obtain ⟨k, hk, rfl, rfl⟩ := hrel
    have hb := Cr.fold_lt (s.data.toList.take k) 4294967295 (by omega)
    by_cases hlt : k < s.size
    · have hx := Lib.hid (cr_in _ s[k] hb)
      have hc := Lib.hid (cr_next s 4294967295 k hlt)
      have hy := Cr.in_lt _ s[k] hb
      go_wp2_with fail
      go_hide hQ
      go_loop [3, 5] (fun r i => ∃ j : Nat, j ≤ 8 ∧ i = .int .i64 j ∧ r = .int .u32 ((Cr.it j (Cr.fold 4294967295 (s.data.toList.take k) ^^^ s[k].toNat) : Nat) : Int)) (fun _ i => 8 - (intOf i).toNat)
      case atStart => exact ⟨0, Nat.zero_le _, rfl, by rw [hx.out]; rfl⟩
      case round =>
        obtain ⟨j, hj, rfl, rfl⟩ := hrel
        have hz := Cr.it_lt j _ hy
        by_cases hj8 : j < 8
        · rcases Nat.mod_two_eq_zero_or_one (Cr.it j (Cr.fold 4294967295 (s.data.toList.take k) ^^^ s[k].toNat)) with e | e
          · have hl : bits .and .u32 ((Cr.it j (Cr.fold 4294967295 (s.data.toList.take k) ^^^ s[k].toNat) : Nat) : Int) 1 = 0 := by rw [cr_low _ hz, e]; rfl
            have hv := Lib.hid (cr_even _ e)
            clear e
            go_wp2
            exact ⟨⟨j + 1, by omega, by go_num, by rw [hv.out]; rfl⟩, by simp [intOf]; omega⟩
          · have hl : bits .and .u32 ((Cr.it j (Cr.fold 4294967295 (s.data.toList.take k) ^^^ s[k].toNat) : Nat) : Int) 1 = 1 := by rw [cr_low _ hz, e]; rfl
            have hv := Lib.hid (cr_odd _ hz e)
            clear e
            go_wp2
            exact ⟨⟨j + 1, by omega, by go_num, by rw [hv.out]; rfl⟩, by simp [intOf]; omega⟩
        · obtain rfl : j = 8 := by omega
          go_wp2
          subst hQ
          go_wp2
          exact ⟨⟨k + 1, by omega, by go_num, by rw [hc.out]; rfl⟩, by simp [intOf]; omega⟩
    · go_wp2
      go_ret
      exact ⟨ret_u32 ((cr_not _ hb).trans (by unfold Cr.sum Cr.sumL; rw [cr_all s k (by omega)])), rfl⟩
end Go.Proofs.Ytcjpednhefeboaa
