/- Calls that are known by evaluation. -/
import Derived.Test.YtpclkcamfainiaaSN
set_option linter.unusedSimpArgs false
set_option linter.unusedVariables false
namespace Go.Proofs.Ytpclkcamfainiaa
open Go Go.Abs
def tab : Tab := fun f args => match f with
  | 19 => (match args with
    | [] => some (.bool true)
    | _ => none)
  | _ => none
end Go.Proofs.Ytpclkcamfainiaa
