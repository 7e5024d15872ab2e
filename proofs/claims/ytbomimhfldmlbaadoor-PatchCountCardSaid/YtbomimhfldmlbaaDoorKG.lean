/- How many permutations of eight omega networks pass: part 2. -/
import Derived.Test.YtbomimhfldmlbaaDoorKE
namespace Go.Pa
set_option maxRecDepth 100000
theorem om4 : cf 3 (2 ^ 3) 2520 10080 0 = 256 := by decide +kernel
theorem om5 : cf 3 (2 ^ 3) 2520 12600 0 = 256 := by decide +kernel
theorem om6 : cf 3 (2 ^ 3) 2520 15120 0 = 320 := by decide +kernel
theorem om7 : cf 3 (2 ^ 3) 2520 17640 0 = 192 := by decide +kernel
end Go.Pa
