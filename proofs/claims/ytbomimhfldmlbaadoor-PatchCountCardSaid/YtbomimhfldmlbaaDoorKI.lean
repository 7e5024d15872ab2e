/- How many permutations of eight omega networks pass: part 4. -/
import Derived.Test.YtbomimhfldmlbaaDoorKE
namespace Go.Pa
set_option maxRecDepth 100000
theorem om12 : cf 3 (2 ^ 3) 2520 30240 0 = 192 := by decide +kernel
theorem om13 : cf 3 (2 ^ 3) 2520 32760 0 = 320 := by decide +kernel
theorem om14 : cf 3 (2 ^ 3) 2520 35280 0 = 256 := by decide +kernel
theorem om15 : cf 3 (2 ^ 3) 2520 37800 0 = 256 := by decide +kernel
end Go.Pa
