/- Calls that are known otherwise. -/
import Derived.Test.YtpobklkllfokdaaSG
import Derived.Test.YtpobklkllfokdaaSI
import Derived.Test.YtpobklkllfokdaaK
set_option maxRecDepth 100000
set_option linter.unusedVariables false
namespace Go.Proofs.Ytpobklkllfokdaa
open Go Go.Abs
theorem mixed : Try.prog.follows .mixedOrders = true := by kernel_rfl
def tab : Tab := fun f args h => match f with
  | 73 => insA args h
  | _ => none
end Go.Proofs.Ytpobklkllfokdaa
