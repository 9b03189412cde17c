import Derived.Test.YtcfodcioeefbeaaDoorPut
namespace Go.Proofs.YtcfodcioeefbeaaDoor
open Go.RowKit

/-- The operations of fieldsMayBe's one great statement. -/
noncomputable def ops29 : Array Oper := match Tryd.f41.body with
  | some (.seq _ (.seq (.region _ ops _) _)) => ops
  | _ => #[]
theorem lex29 : Region.lexB .any ops29 = true := by kernel_rfl

end Go.Proofs.YtcfodcioeefbeaaDoor
