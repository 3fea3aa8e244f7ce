/- codec.Split and the document's, walked. -/
import Derived.Test.YtlilgfcacoooaaaDoorRd3
import Derived.Test.YtlilgfcacoooaaaDoorSplitP
import Derived.Test.YtlilgfcacoooaaaDoorAwake
namespace Go.Proofs.YtlilgfcacoooaaaDoor
open Go.RowKit
set_option linter.unusedVariables false

end Go.Proofs.YtlilgfcacoooaaaDoor
