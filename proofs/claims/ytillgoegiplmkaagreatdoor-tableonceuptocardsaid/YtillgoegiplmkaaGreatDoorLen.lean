import Derived.Test.YtillgoegiplmkaaGreatDoorChecked
import Derived.Test.YtillgoegiplmkaaGreatDoorMath
import Derived.Lib.Small
import Derived.Lib.Walk
namespace Go.Proofs.YtillgoegiplmkaaGreatDoor

end Go.Proofs.YtillgoegiplmkaaGreatDoor
