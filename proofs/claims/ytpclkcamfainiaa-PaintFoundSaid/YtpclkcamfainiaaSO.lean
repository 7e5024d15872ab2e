/- The examples of the document hold. -/
import Derived.Test.YtpclkcamfainiaaSP
set_option linter.unusedSimpArgs false
set_option linter.unusedVariables false
namespace Go.Proofs.Ytpclkcamfainiaa
open Go Go.Abs
set_option maxRecDepth 1000000
theorem lives_run : (callS Try.prog sfs true 100000 40 (.func 19) [] ⟨0, [], [], 0, false⟩).map (·.1) = some (.bool true) := by kernel_rfl
theorem tab_ok : TabOK Try.prog tab := fun f args v h => by
  unfold tab at h
  split at h
  · split at h
    · cases h
      exact Closed.runS mixed sfs_ok rfl rfl lives_run
    · cases h
  · cases h
end Go.Proofs.Ytpclkcamfainiaa
