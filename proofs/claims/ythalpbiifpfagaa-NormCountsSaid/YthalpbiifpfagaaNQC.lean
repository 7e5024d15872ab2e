/- The digits are the same: four odd ones. -/
import Derived.Test.YthalpbiifpfagaaNQ
set_option linter.unusedSimpArgs false
set_option linter.unusedVariables false
set_option maxHeartbeats 4000000
set_option maxRecDepth 20000

namespace Go.Qt4

theorem okB0 : okB 0 = true := by decide +kernel
theorem okB1 : okB 1 = true := by decide +kernel
theorem okB2 : okB 2 = true := by decide +kernel
theorem okB3 : okB 3 = true := by decide +kernel
theorem okB4 : okB 4 = true := by decide +kernel
theorem okB5 : okB 5 = true := by decide +kernel
theorem okB6 : okB 6 = true := by decide +kernel
theorem okB7 : okB 7 = true := by decide +kernel
theorem okB8 : okB 8 = true := by decide +kernel
theorem okB9 : okB 9 = true := by decide +kernel
theorem okB10 : okB 10 = true := by decide +kernel
theorem okB11 : okB 11 = true := by decide +kernel
theorem okB12 : okB 12 = true := by decide +kernel
theorem okB13 : okB 13 = true := by decide +kernel
theorem okB14 : okB 14 = true := by decide +kernel
theorem okB15 : okB 15 = true := by decide +kernel
theorem okB16 : okB 16 = true := by decide +kernel
theorem okB17 : okB 17 = true := by decide +kernel
theorem okB18 : okB 18 = true := by decide +kernel
theorem okB19 : okB 19 = true := by decide +kernel

end Go.Qt4

