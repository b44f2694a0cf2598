/- CRC-32C over whole numbers: plain arithmetic. -/
import Derived.Laws.BitsAllLaws
namespace Go.Proofs.Ytcjpednhefeboaa
namespace Cr

/-- One bit's step. -/
def step (x : Nat) : Nat := (x / 2) ^^^ (2197175160 * (x % 2))
def it : Nat → Nat → Nat
  | 0, x => x
  | k + 1, x => step (it k x)
def thr (x : Nat) : Nat := it 8 x

theorem step_lt (x : Nat) (h : x < 4294967296) : step x < 4294967296 := by
  unfold step
  have h1 : x / 2 < 2 ^ 32 := by omega
  have h2 : 2197175160 * (x % 2) < 2 ^ 32 := by omega
  exact Nat.xor_lt_two_pow h1 h2
theorem it_lt (k x : Nat) (h : x < 4294967296) : it k x < 4294967296 := by
  induction k with
  | zero => exact h
  | succ k ih => exact step_lt _ ih
theorem thr_lt (x : Nat) (h : x < 4294967296) : thr x < 4294967296 := it_lt 8 x h

theorem top_bit (x : Nat) (h : x < 4294967296) : (step x).testBit 31 = decide (x % 2 = 1) := by
  unfold step
  rw [Nat.testBit_xor]
  have h1 : (x / 2).testBit 31 = false := Nat.testBit_lt_two_pow (by omega)
  rw [h1]
  rcases Nat.mod_two_eq_zero_or_one x with e | e <;> rw [e] <;> decide

theorem step_inj (x y : Nat) (hx : x < 4294967296) (hy : y < 4294967296) (h : step x = step y) : x = y := by
  have h1 := top_bit x hx
  have h2 := top_bit y hy
  rw [h, h2] at h1
  have hm : x % 2 = y % 2 := by
    have h3 : (y % 2 = 1) ↔ (x % 2 = 1) := by simpa using h1
    omega
  unfold step at h
  rw [hm] at h
  have hd : x / 2 = y / 2 := by
    have := congrArg (fun z => z ^^^ (2197175160 * (y % 2))) h
    simpa [Nat.xor_assoc] using this
  omega
theorem it_inj (k x y : Nat) (hx : x < 4294967296) (hy : y < 4294967296) (h : it k x = it k y) : x = y := by
  induction k with
  | zero => exact h
  | succ k ih => exact ih (step_inj _ _ (it_lt k x hx) (it_lt k y hy) h)
theorem thr_inj (x y : Nat) (hx : x < 4294967296) (hy : y < 4294967296) (h : thr x = thr y) : x = y := it_inj 8 x y hx hy h

def add (c : Nat) (b : UInt8) : Nat := thr (c ^^^ b.toNat)
theorem in_lt (c : Nat) (b : UInt8) (h : c < 4294967296) : c ^^^ b.toNat < 4294967296 := by
  have := b.toNat_lt
  exact Nat.xor_lt_two_pow (n := 32) h (by omega)
theorem add_lt (c : Nat) (b : UInt8) (h : c < 4294967296) : add c b < 4294967296 := thr_lt _ (in_lt c b h)
theorem xor_cancel (a b c : Nat) (h : a ^^^ c = b ^^^ c) : a = b := by
  have := congrArg (fun z => z ^^^ c) h
  simpa [Nat.xor_assoc] using this
theorem add_inj (c d : Nat) (b : UInt8) (hc : c < 4294967296) (hd : d < 4294967296) (h : add c b = add d b) : c = d :=
  xor_cancel _ _ _ (thr_inj _ _ (in_lt c b hc) (in_lt d b hd) h)

def fold (c : Nat) (l : List UInt8) : Nat := l.foldl add c
theorem fold_lt (l : List UInt8) : ∀ c, c < 4294967296 → fold c l < 4294967296 := by
  induction l with
  | nil => intro c h; exact h
  | cons b l ih => intro c h; exact ih _ (add_lt c b h)
theorem fold_inj (l : List UInt8) : ∀ c d, c < 4294967296 → d < 4294967296 → fold c l = fold d l → c = d := by
  induction l with
  | nil => intro c d _ _ h; exact h
  | cons b l ih => intro c d hc hd h; exact add_inj c d b hc hd (ih _ _ (add_lt c b hc) (add_lt d b hd) h)
theorem fold_snoc (c : Nat) (l : List UInt8) (b : UInt8) : fold c (l ++ [b]) = add (fold c l) b := by unfold fold; simp
theorem fold_append (c : Nat) (l m : List UInt8) : fold c (l ++ m) = fold (fold c l) m := by unfold fold; simp

def sumL (l : List UInt8) : Nat := fold 4294967295 l ^^^ 4294967295
theorem sumL_lt (l : List UInt8) : sumL l < 4294967296 := Nat.xor_lt_two_pow (n := 32) (fold_lt l _ (by omega)) (by omega)

/-- One byte that is turned turns the sum. -/
theorem sum_turned (l m : List UInt8) (a b : UInt8) (h : a ≠ b) : sumL (l ++ a :: m) ≠ sumL (l ++ b :: m) := by
  intro e
  unfold sumL at e
  have e1 := xor_cancel _ _ _ e
  rw [fold_append, fold_append] at e1
  have hl := fold_lt l 4294967295 (by omega)
  have e2 : add (fold 4294967295 l) a = add (fold 4294967295 l) b := fold_inj m _ _ (add_lt _ a hl) (add_lt _ b hl) e1
  have e3 := thr_inj _ _ (in_lt _ a hl) (in_lt _ b hl) e2
  rw [Nat.xor_comm _ a.toNat, Nat.xor_comm _ b.toNat] at e3
  have e4 := xor_cancel _ _ _ e3
  exact h (UInt8.toNat_inj.1 e4)

/-- A number's four bytes, the lowest first. -/
def fourL (n : Nat) : List UInt8 := [UInt8.ofNat n, UInt8.ofNat (n / 256), UInt8.ofNat (n / 65536), UInt8.ofNat (n / 16777216)]
theorem fourL_length (n : Nat) : (fourL n).length = 4 := rfl
/-- The number whose four bytes a row begins with. -/
def backL (l : List UInt8) : Nat := (l.getD 0 0).toNat + 256 * (l.getD 1 0).toNat + 65536 * (l.getD 2 0).toNat + 16777216 * (l.getD 3 0).toNat
theorem backL_lt (l : List UInt8) : backL l < 4294967296 := by
  unfold backL
  have h0 := (l.getD 0 0).toNat_lt
  have h1 := (l.getD 1 0).toNat_lt
  have h2 := (l.getD 2 0).toNat_lt
  have h3 := (l.getD 3 0).toNat_lt
  omega
theorem back_four (n : Nat) (h : n < 4294967296) (r : List UInt8) : backL (fourL n ++ r) = n := by
  simp [backL, fourL]
  omega
theorem back_inj (a b c d a' b' c' d' : UInt8) (r r' : List UInt8) (h : backL (a :: b :: c :: d :: r) = backL (a' :: b' :: c' :: d' :: r')) : a = a' ∧ b = b' ∧ c = c' ∧ d = d' := by
  simp only [backL, List.getD_cons_zero, List.getD_cons_succ] at h
  have h0 := a.toNat_lt
  have h1 := b.toNat_lt
  have h2 := c.toNat_lt
  have h3 := d.toNat_lt
  have h0' := a'.toNat_lt
  have h1' := b'.toNat_lt
  have h2' := c'.toNat_lt
  have h3' := d'.toNat_lt
  refine ⟨?_, ?_, ?_, ?_⟩ <;> apply UInt8.toNat_inj.1 <;> omega

def frameL (l : List UInt8) : List UInt8 := fourL l.length ++ (fourL (sumL l) ++ l)
theorem frameL_length (l : List UInt8) : (frameL l).length = l.length + 8 := by
  unfold frameL
  simp only [List.length_append, fourL_length]
  omega
theorem frame_text (l r : List UInt8) : (frameL l ++ r).drop 8 = l ++ r := rfl
theorem frame_len (l r : List UInt8) (h : l.length < 4294967296) : backL (frameL l ++ r) = l.length := by
  unfold frameL
  rw [List.append_assoc]
  exact back_four _ h _
theorem frame_sum (l r : List UInt8) : backL ((frameL l ++ r).drop 4) = sumL l := by
  have e : (frameL l ++ r).drop 4 = fourL (sumL l) ++ (l ++ r) := rfl
  rw [e]
  exact back_four _ (sumL_lt l) _

end Cr
end Go.Proofs.Ytcjpednhefeboaa
