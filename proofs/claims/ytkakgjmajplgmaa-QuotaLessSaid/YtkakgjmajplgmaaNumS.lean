/- Numbers as bytes: the plain answer's Get. -/
import Derived.Test.YtkakgjmajplgmaaNumR
namespace Go.Proofs.Ytkakgjmajplgmaa
open Go.RowKit
set_option linter.unusedVariables false

def Nu.ans (r : Nat × Nat × Int) : Value := .tuple #[.int .i64 (r.1 : Int), .int .i64 (r.2.1 : Int), .int .i64 r.2.2]

theorem nu_pow : ∀ k : Nat, k < 9 → (2 : Int) ^ (7 * k) = 128 ^ k ∧ (128 : Int) ^ (k + 1) = 128 * 128 ^ k ∧ (1 : Int) ≤ 128 ^ k ∧ (128 : Int) ^ k ≤ 72057594037927936 := by decide
theorem nu_step {m j c : Int} (hj0 : 0 ≤ j) (hj : j < 9) (hm0 : 0 ≤ m) (hm : m < 128 ^ j.toNat) (hc0 : 0 ≤ c) (hc : c < 256) :
    wrap64 (m + wrap64 (c % 128 * 2 ^ (7 * j).toNat)) = m + c % 128 * 128 ^ j.toNat ∧ 0 ≤ m + c % 128 * 128 ^ j.toNat ∧ m + c % 128 * 128 ^ j.toNat < 128 ^ (j + 1).toNat ∧ m + c % 128 * 128 ^ j.toNat < 9223372036854775808 := by
  have hp := nu_pow j.toNat (by omega)
  have e7 : (7 * j).toNat = 7 * j.toNat := by omega
  have e1 : (j + 1).toNat = j.toNat + 1 := by omega
  rw [e7, e1, hp.1, hp.2.1]
  have p1 := hp.2.2.1; have p2 := hp.2.2.2
  clear hp
  obtain ⟨P, hP⟩ : ∃ P : Int, (128 : Int) ^ j.toNat = P := ⟨_, rfl⟩
  rw [hP] at p1 p2 hm ⊢
  have t0 : 0 ≤ c % 128 * P := Int.mul_nonneg (by omega) (by omega)
  have t1 : c % 128 * P ≤ 127 * P := Int.mul_le_mul_of_nonneg_right (by omega) (by omega)
  obtain ⟨t, ht⟩ : ∃ t, c % 128 * P = t := ⟨_, rfl⟩
  rw [ht] at t0 t1 ⊢
  have w1 : wrap64 t = t := by unfold wrap64; omega
  have w2 : wrap64 (m + t) = m + t := by unfold wrap64; omega
  rw [w1, w2]
  omega
theorem nu_more {s : ByteArray} {k : Nat} (hks : k < s.size) : s.data.toList.drop k = (s.data.toList.getD k 0) :: s.data.toList.drop (k + 1) := by
  rw [List.drop_eq_getElem_cons (by simpa using hks), List.getD_eq_getElem?_getD, List.getElem?_eq_getElem (by simpa using hks)]
  rfl
/-- One byte more. -/
theorem nu_byte {s : ByteArray} {j m c : Int} {q : Nat × Nat × Int} (hj0 : 0 ≤ j) (hj : j < 9) (hs : j < (s.size : Int)) (hm0 : 0 ≤ m) (hc : (Cr.bt s j.toNat : Int) = c) (h : Nu.getL j.toNat m.toNat (s.data.toList.drop j.toNat) = q) :
    (128 ≤ c → Nu.getL (j + 1).toNat (m + c % 128 * 128 ^ j.toNat).toNat (s.data.toList.drop (j + 1).toNat) = q) ∧ (c = 0 → 0 < j → q = (0, 0, 10)) ∧ (c < 128 → ¬ (c = 0 ∧ 0 < j) → q = ((m + c % 128 * 128 ^ j.toNat).toNat, (j + 1).toNat, 0)) := by
  obtain ⟨k, rfl⟩ : ∃ k : Nat, j = k := ⟨j.toNat, by omega⟩
  obtain ⟨n, rfl⟩ : ∃ k : Nat, m = k := ⟨m.toNat, by omega⟩
  subst hc
  have e1 : ((k : Int) + 1).toNat = k + 1 := by omega
  have e2 : ((n : Int) + ((Cr.bt s ((k : Int).toNat) : Nat) : Int) % 128 * 128 ^ ((k : Int).toNat)).toNat = n + Cr.bt s k % 128 * 128 ^ k := by
    have : (n : Int) + ((Cr.bt s ((k : Int).toNat) : Nat) : Int) % 128 * 128 ^ ((k : Int).toNat) = ((n + Cr.bt s k % 128 * 128 ^ k : Nat) : Int) := by
      rw [Int.toNat_natCast]; push_cast; rfl
    rw [this, Int.toNat_natCast]
  rw [e1, e2]
  simp only [Int.toNat_natCast] at h ⊢
  rw [nu_more (by omega), Nu.getL, if_neg (by omega)] at h
  change (if 128 ≤ Cr.bt s k then _ else if Cr.bt s k = 0 ∧ 0 < k then _ else _) = q at h
  refine ⟨fun hge => ?_, fun h0 hk => ?_, fun hlt hno => ?_⟩
  · rw [if_pos (by omega)] at h; exact h
  · rw [if_neg (by omega), if_pos (by omega)] at h; exact h.symm
  · rw [if_neg (by omega), if_neg (by omega)] at h; exact h.symm
theorem nu_none {s : ByteArray} {j m : Int} {q : Nat × Nat × Int} (hj0 : 0 ≤ j) (hs : 9 ≤ j ∨ (s.size : Int) ≤ j) (h : Nu.getL j.toNat m.toNat (s.data.toList.drop j.toNat) = q) : q = (0, 0, 10) := by
  rcases hd : s.data.toList.drop j.toNat with _ | ⟨c, r⟩
  · rw [hd] at h; exact h.symm
  · rcases hs with hs | hs
    · rw [hd, Nu.getL, if_pos (by omega)] at h; exact h.symm
    · have := congrArg List.length hd
      rw [List.length_drop, ba_len] at this
      simp only [List.length_cons] at this
      omega

theorem ans_of {x t j : Int} (hx : x = t) (ht : 0 ≤ t) (hj : 0 ≤ j) : Ending.returned (.tuple #[.int .i64 x, .int .i64 (j + 1), .int .i64 0]) = .returned (Nu.ans (t.toNat, (j + 1).toNat, 0)) := by
  subst hx
  unfold Nu.ans
  simp only
  rw [Int.toNat_of_nonneg ht, Int.toNat_of_nonneg (by omega)]

end Go.Proofs.Ytkakgjmajplgmaa
