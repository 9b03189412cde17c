import Derived.Test.YtjolflpmeodnaagDoorRcRf6
namespace Go.Proofs.YtjolflpmeodnaagDoor
open Go.RowKit
set_option linter.unusedVariables false
set_option linter.unusedSimpArgs false

end Go.Proofs.YtjolflpmeodnaagDoor
