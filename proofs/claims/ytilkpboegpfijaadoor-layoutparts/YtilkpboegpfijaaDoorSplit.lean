/- codec.Split and the document's, walked. -/
import Derived.Test.YtilkpboegpfijaaDoorRd3
import Derived.Test.YtilkpboegpfijaaDoorSplitP
import Derived.Test.YtilkpboegpfijaaDoorAwake
namespace Go.Proofs.YtilkpboegpfijaaDoor
open Go.RowKit
set_option linter.unusedVariables false

end Go.Proofs.YtilkpboegpfijaaDoor
