/- Where a compiled loop over a function finds its pieces. -/
import Derived.Test.YtogfojkjocbahaaSD
namespace Go.Abs
open Go

def rfs : Code → List (Array Nat × Code × Code)
  | .rangeFunc _ ps a b => [(ps, a, b)]
  | .seq a b | .cond _ a b => rfs a ++ rfs b
  | .block _ b | .loop b => rfs b
  | _ => []

def rfAt (P : Program) (f k : Nat) : Array Nat × Code × Code :=
  match P.funcs[f]? with
  | some fn => match fn.body with
    | some c => (rfs c).getD k (#[], .skip, .skip)
    | none => (#[], .skip, .skip)
  | none => (#[], .skip, .skip)

end Go.Abs
