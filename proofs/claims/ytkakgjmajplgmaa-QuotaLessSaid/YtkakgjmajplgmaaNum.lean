/- Numbers as bytes: plainly. -/
import Derived.Test.YtkakgjmajplgmaaStr
namespace Go.Proofs.Ytkakgjmajplgmaa
open Go.RowKit
set_option linter.unusedVariables false

namespace Nu
/-- A number's bytes. -/
def putL (n : Nat) : List UInt8 := if n < 128 then [UInt8.ofNat n] else UInt8.ofNat (128 + n % 128) :: putL (n / 128)
termination_by n
def put (n : Nat) : ByteArray := ⟨(putL n).toArray⟩
theorem putL_lt {n : Nat} (h : n < 128) : putL n = [UInt8.ofNat n] := by rw [putL, if_pos h]
theorem putL_ge {n : Nat} (h : 128 ≤ n) : putL n = UInt8.ofNat (128 + n % 128) :: putL (n / 128) := by rw [putL, if_neg (by omega)]
theorem putL_pos (n : Nat) : 1 ≤ (putL n).length := by rw [putL]; split <;> simp
theorem putL_len : ∀ (k n : Nat), n < 128 ^ k → (putL n).length ≤ max k 1
  | 0, n, h => by
    have : n = 0 := by omega
    subst this; rw [putL_lt (by omega)]; simp
  | k + 1, n, h => by
    rcases Nat.lt_or_ge n 128 with q | q
    · rw [putL_lt q]; simp
    · have : n / 128 < 128 ^ k := by rw [Nat.pow_succ] at h; omega
      have ih := putL_len k (n / 128) this
      have hk : 1 ≤ k := by
        rcases k with _ | k
        · simp at h; omega
        · omega
      rw [putL_ge q]
      simp only [List.length_cons]; omega
theorem putL_nine {n : Nat} (h : n < 9223372036854775808) : (putL n).length ≤ 9 := by
  have := putL_len 9 n (by have : (128 : Nat) ^ 9 = 9223372036854775808 := by decide
                           omega)
  omega

/-- What bytes begin with, from the i-th on: n is what was read. -/
def getL (i n : Nat) : List UInt8 → Nat × Nat × Int
  | [] => (0, 0, 10)
  | c :: r => if 9 ≤ i then (0, 0, 10) else if 128 ≤ c.toNat then getL (i + 1) (n + c.toNat % 128 * 128 ^ i) r else if c.toNat = 0 ∧ 0 < i then (0, 0, 10) else (n + c.toNat % 128 * 128 ^ i, i + 1, 0)
def get (s : ByteArray) : Nat × Nat × Int := getL 0 0 s.data.toList

theorem getL_back (r : List UInt8) : ∀ (L n i m : Nat), (putL n).length = L → i + L ≤ 9 → (i = 0 ∨ 0 < n) → getL i m (putL n ++ r) = (m + n * 128 ^ i, i + L, 0) := by
  intro L
  induction L with
  | zero => intro n i m h; have := putL_pos n; omega
  | succ L ih =>
    intro n i m h h9 h0
    rcases Nat.lt_or_ge n 128 with q | q
    · rw [putL_lt q] at h ⊢
      simp only [List.length_cons, List.length_nil] at h
      have e : (UInt8.ofNat n).toNat = n := by simp; omega
      have eL : L = 0 := by omega
      subst eL
      simp only [List.cons_append, List.nil_append, getL]
      rw [if_neg (by omega), e, if_neg (by omega), if_neg (by omega), Nat.mod_eq_of_lt q]
    · rw [putL_ge q] at h ⊢
      simp only [List.length_cons, Nat.add_right_cancel_iff] at h
      have e : (UInt8.ofNat (128 + n % 128)).toNat = 128 + n % 128 := by simp; omega
      simp only [List.cons_append, getL]
      rw [if_neg (by omega), e, if_pos (by omega), ih (n / 128) (i + 1) _ h (by omega) (.inr (by omega))]
      have e1 : (128 + n % 128) % 128 = n % 128 := by omega
      have e2 : n / 128 * 128 ^ (i + 1) = n / 128 * 128 * 128 ^ i := by rw [Nat.pow_succ, Nat.mul_assoc, Nat.mul_comm (128 ^ i)]
      have e3 : n * 128 ^ i = n % 128 * 128 ^ i + n / 128 * 128 * 128 ^ i := by rw [← Nat.add_mul]; congr 1; omega
      rw [e1, e2, e3]
      simp only [Prod.mk.injEq, and_true]
      omega
theorem getL_only : ∀ (l : List UInt8) (i m n k : Nat), getL i m l = (n, k, 0) → ∃ p, n = m + p * 128 ^ i ∧ i < k ∧ k ≤ 9 ∧ k - i ≤ l.length ∧ putL p = l.take (k - i) ∧ (i = 0 ∨ 0 < p) ∧ p < 128 ^ (9 - i)
  | [], i, m, n, k, h => by simp [getL] at h
  | c :: r, i, m, n, k, h => by
    rw [getL] at h
    have hc := c.toNat_lt
    split at h
    · simp at h
    rename_i h9
    split at h
    · rename_i h1
      obtain ⟨p, e1, e2, e3, e4, e5, e6, e7⟩ := getL_only r (i + 1) _ n k h
      have hp : 0 < p := by omega
      have ep : (c.toNat % 128 + 128 * p) % 128 = c.toNat % 128 ∧ (c.toNat % 128 + 128 * p) / 128 = p := by omega
      refine ⟨c.toNat % 128 + 128 * p, ?_, by omega, e3, by simp only [List.length_cons]; omega, ?_, .inr (by omega), ?_⟩
      · rw [e1, Nat.pow_succ, Nat.add_mul, Nat.mul_comm 128 p, Nat.mul_assoc p 128, Nat.mul_comm 128 (128 ^ i)]; omega
      · rw [putL_ge (by omega), ep.1, ep.2, e5, show k - i = (k - (i + 1)) + 1 by omega, List.take_succ_cons]
        congr 1
        rw [show 128 + c.toNat % 128 = c.toNat by omega]
        exact UInt8.ofNat_toNat
      · rw [show 9 - i = (9 - (i + 1)) + 1 by omega, Nat.pow_succ]; omega
    · rename_i h1
      split at h
      · simp at h
      · rename_i h2
        simp only [Prod.mk.injEq, and_true] at h
        obtain ⟨rfl, rfl⟩ := h
        refine ⟨c.toNat, by rw [Nat.mod_eq_of_lt (by omega)], by omega, by omega, by simp, ?_, by omega, ?_⟩
        · rw [putL_lt (by omega), show i + 1 - i = 1 by omega]
          simp
        · have : 128 ^ 1 ≤ 128 ^ (9 - i) := Nat.pow_le_pow_right (by decide) (by omega)
          omega
theorem getL_err : ∀ (l : List UInt8) (i m : Nat), (getL i m l).2.2 = 0 ∨ getL i m l = (0, 0, 10)
  | [], i, m => .inr rfl
  | c :: r, i, m => by
    rw [getL]
    split
    · exact .inr rfl
    split
    · exact getL_err r _ _
    split
    · exact .inr rfl
    · exact .inl rfl

theorem get_back (n : Nat) (h : n < 9223372036854775808) (s : ByteArray) : get (put n ++ s) = (n, (put n).size, 0) := by
  unfold get put
  rw [ba_app, ba_size]
  have := getL_back s.data.toList _ n 0 0 rfl (by have := putL_nine h; omega) (.inl rfl)
  simpa using this
theorem get_only {s : ByteArray} {n k : Nat} (h : get s = (n, k, 0)) : 1 ≤ k ∧ k ≤ 9 ∧ k ≤ s.size ∧ put n = s.extract 0 k ∧ n < 9223372036854775808 := by
  obtain ⟨p, e1, e2, e3, e4, e5, _, e7⟩ := getL_only _ 0 0 n k h
  have en : n = p := by simpa using e1
  subst en
  rw [ba_len] at e4
  refine ⟨by omega, e3, by omega, ?_, ?_⟩
  · apply ba_ext
    rw [ba_cut, List.drop_zero]
    simpa [put] using e5
  · have : (128 : Nat) ^ (9 - 0) = 9223372036854775808 := by decide
    omega
theorem get_err (s : ByteArray) : (get s).2.2 = 0 ∨ get s = (0, 0, 10) := getL_err _ _ _
theorem get_range (s : ByteArray) : (get s).1 < 9223372036854775808 ∧ (get s).2.1 ≤ 9 ∧ (get s).2.1 ≤ s.size := by
  rcases get_err s with h | h
  · obtain ⟨q, hq⟩ : ∃ q, get s = q := ⟨_, rfl⟩
    rw [hq] at h ⊢
    obtain ⟨n, k, e⟩ := q
    simp only at h
    subst h
    have := get_only hq
    exact ⟨this.2.2.2.2, this.2.1, this.2.2.1⟩
  · rw [h]; simp

/-- An amount's bytes; the amount that bytes begin with. -/
def putV (a b c : Nat) : ByteArray := put a ++ (put b ++ put c)
/-- Where the r-th number of some bytes begins; the number. -/
def seek (s : ByteArray) : Nat → Nat
  | 0 => 0
  | r + 1 => seek s r + (get (s.extract (seek s r) s.size)).2.1
def part (s : ByteArray) (r : Nat) : Nat × Nat × Int := get (s.extract (seek s r) s.size)
theorem seek_succ (s : ByteArray) (r : Nat) : seek s (r + 1) = seek s r + (part s r).2.1 := rfl
def getV (s : ByteArray) : (Nat × Nat × Nat) × Nat × Int :=
  if (part s 0).2.2 ≠ 0 ∨ (part s 1).2.2 ≠ 0 ∨ (part s 2).2.2 ≠ 0 then ((0, 0, 0), 0, 10) else (((part s 0).1, (part s 1).1, (part s 2).1), seek s 3, 0)
theorem put_size (n : Nat) (h : n < 9223372036854775808) : 1 ≤ (put n).size ∧ (put n).size ≤ 9 := by
  unfold put
  rw [ba_size]
  exact ⟨putL_pos n, putL_nine h⟩
theorem getV_back (a b c : Nat) (ha : a < 9223372036854775808) (hb : b < 9223372036854775808) (hc : c < 9223372036854775808) (s : ByteArray) : getV (putV a b c ++ s) = ((a, b, c), (putV a b c).size, 0) := by
  have e0 : putV a b c ++ s = put a ++ (put b ++ (put c ++ s)) := by unfold putV; rw [ba_cat, ba_cat]
  have g0 := get_back a ha (put b ++ (put c ++ s))
  have g1 := get_back b hb (put c ++ s)
  have g2 := get_back c hc s
  have x1 := ba_past (put a) (put b ++ (put c ++ s))
  have x2 := ba_past (put a ++ put b) (put c ++ s)
  rw [ByteArray.size_append, ba_cat] at x2
  have ez : (putV a b c).size = (put a).size + (put b).size + (put c).size := by unfold putV; rw [ByteArray.size_append, ByteArray.size_append]; omega
  have k0 : seek (putV a b c ++ s) 0 = 0 := rfl
  have q0 : part (putV a b c ++ s) 0 = (a, (put a).size, 0) := by
    unfold part; rw [k0, e0, show (put a ++ (put b ++ (put c ++ s))).extract 0 (put a ++ (put b ++ (put c ++ s))).size = put a ++ (put b ++ (put c ++ s)) by apply ba_ext; rw [ba_from, List.drop_zero]]; exact g0
  have k1 : seek (putV a b c ++ s) 1 = (put a).size := by
    rw [seek_succ _ 0, k0, q0, Nat.zero_add]
  have q1 : part (putV a b c ++ s) 1 = (b, (put b).size, 0) := by unfold part; rw [k1, e0, x1]; exact g1
  have k2 : seek (putV a b c ++ s) 2 = (put a).size + (put b).size := by
    rw [seek_succ _ 1, k1, q1]
  have q2 : part (putV a b c ++ s) 2 = (c, (put c).size, 0) := by unfold part; rw [k2, e0, x2]; exact g2
  have k3 : seek (putV a b c ++ s) 3 = (put a).size + (put b).size + (put c).size := by
    rw [seek_succ _ 2, k2, q2]
  unfold getV
  rw [q0, q1, q2, k3, ez]
  simp
theorem seek_le (s : ByteArray) : ∀ r, seek s r ≤ s.size ∧ seek s r ≤ r * 9
  | 0 => ⟨Nat.zero_le _, by simp [seek]⟩
  | r + 1 => by
    have ih := seek_le s r
    have h := get_range (s.extract (seek s r) s.size)
    have hz : (s.extract (seek s r) s.size).size = s.size - seek s r := by rw [ByteArray.size_extract]; omega
    rw [hz] at h
    show seek s r + _ ≤ _ ∧ seek s r + _ ≤ _
    omega

/-- A Fix's bytes. -/
def fixL (x : Nat) : List UInt8 := [UInt8.ofNat x, UInt8.ofNat (x / 256), UInt8.ofNat (x / 65536), UInt8.ofNat (x / 16777216), UInt8.ofNat (x / 4294967296), UInt8.ofNat (x / 1099511627776), UInt8.ofNat (x / 281474976710656), UInt8.ofNat (x / 72057594037927936)]
def fix (x : Nat) : ByteArray := ⟨(fixL x).toArray⟩
def unfix (s : ByteArray) : Nat := Cr.bt s 0 + 256 * Cr.bt s 1 + 65536 * Cr.bt s 2 + 16777216 * Cr.bt s 3 + 4294967296 * Cr.bt s 4 + 1099511627776 * Cr.bt s 5 + 281474976710656 * Cr.bt s 6 + 72057594037927936 * Cr.bt s 7
def getF (s : ByteArray) : Nat × Nat × Int := if s.size < 8 then (0, 0, 10) else (unfix s, 8, 0)
theorem fix_size (x : Nat) : (fix x).size = 8 := by unfold fix; rw [ba_size]; rfl
theorem unfix_lt (s : ByteArray) : unfix s < 18446744073709551616 := by
  have h0 := Cr.bt_lt s 0; have h1 := Cr.bt_lt s 1; have h2 := Cr.bt_lt s 2; have h3 := Cr.bt_lt s 3; have h4 := Cr.bt_lt s 4; have h5 := Cr.bt_lt s 5; have h6 := Cr.bt_lt s 6; have h7 := Cr.bt_lt s 7
  unfold unfix; omega
theorem bt_app (l : List UInt8) (s : ByteArray) (k : Nat) (h : k < l.length) : Cr.bt (⟨l.toArray⟩ ++ s) k = (l.getD k 0).toNat := by
  unfold Cr.bt
  rw [ba_app, List.getD_eq_getElem?_getD, List.getD_eq_getElem?_getD, List.getElem?_append_left (by simpa using h)]
theorem getF_back (x : Nat) (h : x < 18446744073709551616) (s : ByteArray) : getF (fix x ++ s) = (x, 8, 0) := by
  unfold getF
  rw [if_neg (by rw [ByteArray.size_append, fix_size]; omega)]
  have hb : ∀ k, k < 8 → Cr.bt (fix x ++ s) k = ((fixL x).getD k 0).toNat := fun k hk => bt_app _ _ _ hk
  unfold unfix
  rw [hb 0 (by decide), hb 1 (by decide), hb 2 (by decide), hb 3 (by decide), hb 4 (by decide), hb 5 (by decide), hb 6 (by decide), hb 7 (by decide)]
  simp only [fixL, List.getD_cons_zero, List.getD_cons_succ, UInt8.toNat_ofNat', Prod.mk.injEq, and_true]
  omega
end Nu

end Go.Proofs.Ytkakgjmajplgmaa
