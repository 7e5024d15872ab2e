/- Calls that are known by evaluation. -/
import Derived.Test.YtogfojkjocbahaaSN
set_option linter.unusedSimpArgs false
set_option linter.unusedVariables false
namespace Go.Proofs.Ytogfojkjocbahaa
open Go Go.Abs
def tab : Tab := fun f args => match f with
  | 16 => (match args with
    | [] => some (.bool true)
    | _ => none)
  | _ => none
end Go.Proofs.Ytogfojkjocbahaa
