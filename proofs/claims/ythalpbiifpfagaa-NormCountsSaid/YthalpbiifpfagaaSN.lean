/- Calls that are known otherwise. -/
import Derived.Test.YthalpbiifpfagaaSG
import Derived.Test.YthalpbiifpfagaaSI
import Derived.Test.YthalpbiifpfagaaK
set_option maxRecDepth 100000
set_option linter.unusedVariables false

namespace Go.Proofs.Ythalpbiifpfagaa

open Go Go.Abs
theorem mixed : Try.prog.follows .mixedOrders = true := by kernel_rfl
def tab : Tab := fun f args h => match f with
  | 36 => insA args h
  | _ => none

end Go.Proofs.Ythalpbiifpfagaa

