/- How many permutations of eight omega networks pass: part 3. -/
import Derived.Test.YtbomimhfldmlbaaDoorKE
namespace Go.Pa
set_option maxRecDepth 100000
theorem om8 : cf 3 (2 ^ 3) 2520 20160 0 = 192 := by decide +kernel
theorem om9 : cf 3 (2 ^ 3) 2520 22680 0 = 320 := by decide +kernel
theorem om10 : cf 3 (2 ^ 3) 2520 25200 0 = 256 := by decide +kernel
theorem om11 : cf 3 (2 ^ 3) 2520 27720 0 = 256 := by decide +kernel
end Go.Pa
