/- Numbers as bytes: the plain answer. -/
import Derived.Test.YtkakgjmajplgmaaNum
import Derived.Test.YtkakgjmajplgmaaCell
namespace Go.Proofs.Ytkakgjmajplgmaa
open Go.RowKit
set_option linter.unusedVariables false

theorem put_go (t : ByteArray) (k : Nat) (h : 128 ≤ k) : t ++ Nu.put k = (t ++ ⟨#[UInt8.ofNat (128 + k % 128)]⟩) ++ Nu.put (k / 128) := by
  rw [ba_cat]
  congr 1
  unfold Nu.put
  rw [Nu.putL_ge h, show (⟨#[UInt8.ofNat (128 + k % 128)]⟩ : ByteArray) = ⟨[UInt8.ofNat (128 + k % 128)].toArray⟩ from rfl, ba_join]
  rfl
theorem put_end (t : ByteArray) (k : Nat) (h : k < 128) : t ++ Nu.put k = t ++ ⟨#[UInt8.ofNat k]⟩ := by
  unfold Nu.put
  rw [Nu.putL_lt h]

end Go.Proofs.Ytkakgjmajplgmaa
