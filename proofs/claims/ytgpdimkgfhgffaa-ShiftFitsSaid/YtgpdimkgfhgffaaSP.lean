/- Calls that are known by evaluation. -/
import Derived.Test.YtgpdimkgfhgffaaSN
set_option linter.unusedSimpArgs false
set_option linter.unusedVariables false

namespace Go.Proofs.Ytgpdimkgfhgffaa

open Go Go.Abs
def tab : Tab := fun f args h => match f with
  | 8 => (match args with
    | [] => some (.bool true, h)
    | _ => none)
  | _ => none

end Go.Proofs.Ytgpdimkgfhgffaa

