/- Calls that are known. -/
import Derived.Test.YtbomimhfldmlbaaDoorSG
import Derived.Test.YtbomimhfldmlbaaDoorSI
set_option maxRecDepth 100000
namespace Go.Proofs.YtbomimhfldmlbaaDoor
open Go Go.Abs
theorem mixed : Tryd.prog.follows .mixedOrders = true := by kernel_rfl
/-- The examples of the document: proved in SO. -/
def tab : Tab := fun f args h => match f with
  | 21 => (match args with
    | [] => some (.bool true, h)
    | _ => none)
  | _ => none
end Go.Proofs.YtbomimhfldmlbaaDoor
