/- Bytes that are read: the plain answer's Gang. -/
import Derived.Test.YtmpmnehapildeaaCmdG
namespace Go.Proofs.Ytmpmnehapildeaa
open Go.RowKit
set_option linter.unusedVariables false

end Go.Proofs.Ytmpmnehapildeaa
