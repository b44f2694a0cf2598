/- Numbers as bytes: the plain answer's PutFix, GetFix. -/
import Derived.Test.YtpnfhcpapjomnaaNumT
namespace Go.Proofs.Ytpnfhcpapjomnaa
open Go.RowKit
set_option linter.unusedVariables false

theorem fix_more (x : Nat) (k : Nat) (h : k < 8) : (⟨((Nu.fixL x).take k).toArray⟩ : ByteArray) ++ ⟨#[(Nu.fixL x).getD k 0]⟩ = ⟨((Nu.fixL x).take (k + 1)).toArray⟩ := by
  rw [show (⟨#[(Nu.fixL x).getD k 0]⟩ : ByteArray) = ⟨[(Nu.fixL x).getD k 0].toArray⟩ from rfl, ba_join]
  have e : k = 0 ∨ k = 1 ∨ k = 2 ∨ k = 3 ∨ k = 4 ∨ k = 5 ∨ k = 6 ∨ k = 7 := by omega
  rcases e with rfl | rfl | rfl | rfl | rfl | rfl | rfl | rfl <;> rfl

theorem fix_byte (x : Nat) (j : Int) (h0 : 0 ≤ j) (h : j < 8) : (x : Int) / 2 ^ (8 * j).toNat % 256 = (((Nu.fixL x).getD j.toNat 0).toNat : Int) := by
  have e : j = 0 ∨ j = 1 ∨ j = 2 ∨ j = 3 ∨ j = 4 ∨ j = 5 ∨ j = 6 ∨ j = 7 := by omega
  rcases e with rfl | rfl | rfl | rfl | rfl | rfl | rfl | rfl <;> (simp [Nu.fixL]; try omega)

/-- The last bytes of eight, put together. -/
def Nu.back (s : ByteArray) : Nat → Nat
  | 0 => 0
  | r + 1 => Nu.back s r * 256 + Cr.bt s (7 - r)
theorem back_lt (s : ByteArray) : ∀ r, r ≤ 8 → Nu.back s r < 256 ^ r
  | 0, _ => by simp [Nu.back]
  | r + 1, h => by
    have ih := back_lt s r (by omega)
    have := Cr.bt_lt s (7 - r)
    rw [Nat.pow_succ]
    show Nu.back s r * 256 + _ < _
    omega
theorem back_all (s : ByteArray) : Nu.back s 8 = Nu.unfix s := by
  unfold Nu.unfix
  simp only [Nu.back, Nat.sub_zero, Nat.reduceSub, Nat.zero_mul, Nat.zero_add]
  omega

def Nu.ansF (r : Nat × Nat × Int) : Value := .tuple #[.int .u64 (r.1 : Int), .int .i64 (r.2.1 : Int), .int .i64 r.2.2]

end Go.Proofs.Ytpnfhcpapjomnaa
