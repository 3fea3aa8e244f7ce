/- The document's Read and Split; two slices of numbers held against each other. -/
import Derived.Test.YtilkpboegpfijaaDoorSplit
import Derived.BigQuiet
import Derived.Deep.QuietTactic
namespace Go.Proofs.YtilkpboegpfijaaDoor
open Go.RowKit
set_option linter.unusedVariables false

theorem add_byte (N b : Nat) (hN : N < 72057594037927936) (hb : b < 256) : IntKind.u64.wrap ((N : Int) * 256 + IntKind.u64.wrap (b : Int)) = ((N * 256 + b : Nat) : Int) := by
  rw [IntKind.wrap_u64, IntKind.wrap_u64]
  omega
end Go.Proofs.YtilkpboegpfijaaDoor
