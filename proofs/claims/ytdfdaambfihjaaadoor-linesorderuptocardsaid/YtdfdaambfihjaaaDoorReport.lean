import Derived.Test.YtdfdaambfihjaaaDoorBody
namespace Go.Proofs.YtdfdaambfihjaaaDoor
open Go.RowKit


theorem one9_4 : one (anyB 9 4) = 0 := by decide
theorem one9_24 : one (anyB 9 24) = 1 := by decide
end Go.Proofs.YtdfdaambfihjaaaDoor
