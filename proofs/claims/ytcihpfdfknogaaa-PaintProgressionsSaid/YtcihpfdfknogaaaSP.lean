/- Calls that are known by evaluation. -/
import Derived.Test.YtcihpfdfknogaaaSN
namespace Go.Proofs.Ytcihpfdfknogaaa
open Go Go.Abs
def tab : Tab := fun f args => match f with
  | 19 => (match args with
    | [] => some (.bool true)
    | _ => none)
  | _ => none
end Go.Proofs.Ytcihpfdfknogaaa
