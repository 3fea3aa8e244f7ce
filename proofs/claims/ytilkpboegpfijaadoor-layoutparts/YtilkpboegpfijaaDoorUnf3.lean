/- The document's Unframe, walked. -/
import Derived.Test.YtilkpboegpfijaaDoorUnf2
namespace Go.Proofs.YtilkpboegpfijaaDoor
open Go.RowKit
set_option linter.unusedVariables false

end Go.Proofs.YtilkpboegpfijaaDoor
