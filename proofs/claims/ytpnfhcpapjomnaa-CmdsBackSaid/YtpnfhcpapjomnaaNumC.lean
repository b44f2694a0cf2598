/- What the program's numbers are held to: one contract a call. The statements' walks take it whole. -/
import Derived.Test.YtpnfhcpapjomnaaNumU
import Derived.Test.YtpnfhcpapjomnaaVecEq
namespace Go.Proofs.Ytpnfhcpapjomnaa
open Go.RowKit
set_option linter.unusedVariables false

theorem put_300 : Nu.put 300 = ⟨#[172, 2]⟩ := by
  unfold Nu.put
  rw [Nu.putL_ge (by decide), Nu.putL_lt (by decide)]
  rfl
theorem get_80 : Nu.get ⟨#[128, 0]⟩ = (0, 0, 10) := by decide
theorem get_ac : Nu.get ⟨#[172, 2, 120]⟩ = (300, 2, 0) := by decide
theorem fix_1 : Nu.fix 1 = ⟨#[1, 0, 0, 0, 0, 0, 0, 0]⟩ := by decide

end Go.Proofs.Ytpnfhcpapjomnaa
