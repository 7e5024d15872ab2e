/- Calls that are known. -/
import Derived.Test.YtelalpohbodolaaDoorSG
import Derived.Test.YtelalpohbodolaaDoorSI
import Derived.Test.YtelalpohbodolaaDoorSL
import Derived.Test.YtelalpohbodolaaDoorKT
set_option maxRecDepth 100000
namespace Go.Proofs.YtelalpohbodolaaDoor
open Go Go.Abs
theorem mixed : Tryd.prog.follows .mixedOrders = true := by kernel_rfl
/-- Sort: proved in KS. -/
def tab0 : Tab := fun f args h => match f with
  | 58 => sortT args h
  | 75 => itoaT args h
  | 59 => cmpT args h
  | _ => none
/-- The examples of the document: proved in SO. -/
def tab : Tab := fun f args h => match f with
  | 17 => (match args with
    | [] => some (.bool true, h)
    | _ => none)
  | 58 => sortT args h
  | 75 => itoaT args h
  | 59 => cmpT args h
  | _ => none
end Go.Proofs.YtelalpohbodolaaDoor
