/- CRC-32C: the chapter's examples. -/
import Derived.Test.YtcjpednhefeboaaCrcE
namespace Go.Proofs.Ytcjpednhefeboaa
open Go.RowKit
set_option linter.unusedVariables false

theorem frm_abc : Cr.frm ⟨#[97, 98, 99]⟩ = ⟨#[3, 0, 0, 0, 183, 63, 75, 54, 97, 98, 99]⟩ := by decide +kernel
theorem frm_none : Cr.frm ⟨#[]⟩ = ⟨#[0, 0, 0, 0, 0, 0, 0, 0]⟩ := by decide +kernel
theorem sum_nine : Cr.sum ⟨#[49, 50, 51, 52, 53, 54, 55, 56, 57]⟩ = 3808858755 := by decide +kernel
theorem read_abc : Cr.read (⟨#[3, 0, 0, 0, 183, 63, 75, 54, 97, 98, 99]⟩ ++ ⟨#[120]⟩) = (⟨#[97, 98, 99]⟩, 11, 0) := by decide +kernel

end Go.Proofs.Ytcjpednhefeboaa
