import Derived.Test.YtkdllgnejkmfhaaFixptB
import Derived.Test.YtkdllgnejkmfhaaKnuth
namespace Go.Proofs.Ytkdllgnejkmfhaa
open Go.RowKit
set_option linter.unusedVariables false

theorem aux_spec : ∀ (f x : Nat), x < 2 ^ f → x < 2 ^ Lib.bitLenAux f x ∧ (x ≠ 0 → 1 ≤ Lib.bitLenAux f x ∧ 2 ^ (Lib.bitLenAux f x - 1) ≤ x) := by
  intro f
  induction f with
  | zero => intro x h; exact ⟨by simpa [Lib.bitLenAux] using h, fun h' => by omega⟩
  | succ f ih =>
    intro x h
    unfold Lib.bitLenAux
    split
    · rename_i h'; subst h'; exact ⟨by simp, fun h' => (h' rfl).elim⟩
    · rename_i h'
      obtain ⟨g1, g2⟩ := ih (x / 2) (by rw [Nat.pow_succ] at h; omega)
      refine ⟨by rw [Nat.add_comm, Nat.pow_succ]; omega, fun _ => ⟨by omega, ?_⟩⟩
      rw [Nat.add_sub_cancel_left]
      by_cases h2 : x / 2 = 0
      · rw [h2]
        have : Lib.bitLenAux f 0 = 0 := by cases f <;> simp [Lib.bitLenAux]
        rw [this]; simp; omega
      · obtain ⟨k1, k2⟩ := g2 h2
        obtain ⟨m, hm⟩ : ∃ m, Lib.bitLenAux f (x / 2) = m + 1 := ⟨_, (Nat.sub_add_cancel k1).symm⟩
        rw [hm] at k2 ⊢
        rw [Nat.add_sub_cancel] at k2
        rw [Nat.pow_succ]; omega

/-- The shift that brings a word's highest bit to the top. -/
theorem lead (y : Int) (h0 : 0 < y) (h1 : y ≤ 18446744073709551615) :
    ∃ s : Nat, s ≤ 63 ∧ 64 - (Lib.bitLen y.toNat : Int) = s ∧ 9223372036854775808 ≤ y * 2 ^ s ∧ y * 2 ^ s ≤ 18446744073709551615 := by
  obtain ⟨n, rfl⟩ := Int.eq_ofNat_of_zero_le (by omega : 0 ≤ y)
  have hs := aux_spec 64 n (by omega)
  rw [Int.toNat_natCast]
  unfold Lib.bitLen
  generalize hb : Lib.bitLenAux 64 n = b at *
  have hn : n ≠ 0 := by omega
  obtain ⟨g1, g2⟩ := hs
  obtain ⟨b1, g2⟩ := g2 hn
  have b2 : b ≤ 64 := by
    rcases Nat.lt_or_ge b 65 with e | e
    · omega
    · exfalso
      have : 2 ^ 64 ≤ 2 ^ (b - 1) := Nat.pow_le_pow_right (by decide) (by omega)
      omega
  have k1 : n * 2 ^ (64 - b) < 18446744073709551616 := by
    have e : (2 : Nat) ^ b * 2 ^ (64 - b) = 18446744073709551616 := by rw [← Nat.pow_add, show b + (64 - b) = 64 from by omega]
    rw [← e]
    exact Nat.mul_lt_mul_of_pos_right g1 (Nat.two_pow_pos _)
  have k2 : 9223372036854775808 ≤ n * 2 ^ (64 - b) := by
    have e : (2 : Nat) ^ (b - 1) * 2 ^ (64 - b) = 9223372036854775808 := by rw [← Nat.pow_add, show b - 1 + (64 - b) = 63 from by omega]
    rw [← e]
    exact Nat.mul_le_mul_right _ g2
  have c : (n : Int) * 2 ^ (64 - b) = ((n * 2 ^ (64 - b) : Nat) : Int) := by
    rw [Int.natCast_mul]; norm_cast
  refine ⟨64 - b, by omega, by omega, ?_, ?_⟩
  · rw [c]; omega
  · rw [c]; omega

set_option maxHeartbeats 400000 in
theorem lead64 (y : Int) (h0 : 0 < y) (h1 : y ≤ 18446744073709551615) (w : World) :
    Calls Try.prog 42 #[.int .u64 y] w fun e w' => e = .returned (.int .i64 (64 - (Lib.bitLen y.toNat : Int))) ∧ w = w' := by
  refine (Try.bits_LeadingZeros64 y w (by omega) h1).mono ?_
  rintro e w' ⟨rfl, rfl⟩
  exact ⟨rfl, rfl⟩

end Go.Proofs.Ytkdllgnejkmfhaa
