/- Calls that are known by evaluation. -/
import Derived.Test.YtnaiadkgjhmopaaSN
set_option linter.unusedSimpArgs false
set_option linter.unusedVariables false
namespace Go.Proofs.Ytnaiadkgjhmopaa
open Go Go.Abs
def tab : Tab := fun f args => match f with
  | 19 => (match args with
    | [] => some (.bool true)
    | _ => none)
  | _ => none
end Go.Proofs.Ytnaiadkgjhmopaa
