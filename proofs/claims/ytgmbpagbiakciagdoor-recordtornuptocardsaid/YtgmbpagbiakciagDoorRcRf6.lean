import Derived.Test.YtgmbpagbiakciagDoorRcRf2
namespace Go.Proofs.YtgmbpagbiakciagDoor
open Go.RowKit
set_option linter.unusedVariables false
set_option linter.unusedSimpArgs false
end Go.Proofs.YtgmbpagbiakciagDoor
