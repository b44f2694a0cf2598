/- Bytes that are read: the plain answer's Gang. -/
import Derived.Test.YtkakgjmajplgmaaCmdG
namespace Go.Proofs.Ytkakgjmajplgmaa
open Go.RowKit
set_option linter.unusedVariables false

end Go.Proofs.Ytkakgjmajplgmaa
