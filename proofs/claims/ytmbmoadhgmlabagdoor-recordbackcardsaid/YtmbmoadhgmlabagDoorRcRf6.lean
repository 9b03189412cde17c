import Derived.Test.YtmbmoadhgmlabagDoorRcRf2
namespace Go.Proofs.YtmbmoadhgmlabagDoor
open Go.RowKit
set_option linter.unusedVariables false
set_option linter.unusedSimpArgs false
end Go.Proofs.YtmbmoadhgmlabagDoor
