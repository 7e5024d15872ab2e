/- The digits are the same: four squares. -/
import Derived.Test.YthalpbiifpfagaaNQ
set_option linter.unusedSimpArgs false
set_option linter.unusedVariables false
set_option maxHeartbeats 4000000
set_option maxRecDepth 20000

namespace Go.Qt4

theorem okA0 : okA 0 = true := by decide +kernel
theorem okA1 : okA 1 = true := by decide +kernel
theorem okA2 : okA 2 = true := by decide +kernel
theorem okA3 : okA 3 = true := by decide +kernel
theorem okA4 : okA 4 = true := by decide +kernel
theorem okA5 : okA 5 = true := by decide +kernel
theorem okA6 : okA 6 = true := by decide +kernel
theorem okA7 : okA 7 = true := by decide +kernel
theorem okA8 : okA 8 = true := by decide +kernel
theorem okA9 : okA 9 = true := by decide +kernel
theorem okA10 : okA 10 = true := by decide +kernel
theorem okA11 : okA 11 = true := by decide +kernel
theorem okA12 : okA 12 = true := by decide +kernel
theorem okA13 : okA 13 = true := by decide +kernel
theorem okA14 : okA 14 = true := by decide +kernel
theorem okA15 : okA 15 = true := by decide +kernel
theorem okA16 : okA 16 = true := by decide +kernel
theorem okA17 : okA 17 = true := by decide +kernel
theorem okA18 : okA 18 = true := by decide +kernel
theorem okA19 : okA 19 = true := by decide +kernel

end Go.Qt4

