/- The plain answer's Check. -/
import Derived.Test.YtkakgjmajplgmaaCmdB
namespace Go.Proofs.Ytkakgjmajplgmaa
open Go.RowKit
set_option linter.unusedVariables false

/-- Whether a command is fine, what Check says. -/
theorem check_no {c : Cmd} (h : Cm.fine c = false) : Cm.check c = 1 := by unfold Cm.check; rw [if_pos h]
theorem check_yes {c : Cmd} (h : Cm.fine c = true) : Cm.check c = if 12 < c.nodes.length ∨ 24 < c.hosts.length then 8 else 0 := by unfold Cm.check; rw [if_neg (by rw [h]; simp)]

end Go.Proofs.Ytkakgjmajplgmaa
