/- How many permutations of eight omega networks pass: part 1. -/
import Derived.Test.YtbomimhfldmlbaaDoorKE
namespace Go.Pa
set_option maxRecDepth 100000
theorem om0 : cf 3 (2 ^ 3) 2520 0 0 = 256 := by decide +kernel
theorem om1 : cf 3 (2 ^ 3) 2520 2520 0 = 256 := by decide +kernel
theorem om2 : cf 3 (2 ^ 3) 2520 5040 0 = 320 := by decide +kernel
theorem om3 : cf 3 (2 ^ 3) 2520 7560 0 = 192 := by decide +kernel
end Go.Pa
