/- The examples of the document hold. -/
import Derived.Test.YtgpdimkgfhgffaaSP
set_option linter.unusedSimpArgs false
set_option linter.unusedVariables false

namespace Go.Proofs.Ytgpdimkgfhgffaa

open Go Go.Abs
set_option maxRecDepth 1000000
theorem lives_run : (callS Try.prog noTab sfs true 100000 40 (.func 8) [] ⟨0, [], [], 0, false⟩).map (·.1) = some (.bool true) := by kernel_rfl
theorem tab_ok : TabOK Try.prog tab := fun f args h v h' e => by
  unfold tab at e
  split at e
  · split at e
    · cases e
      intro σ base w vs H hb hv
      exact (Closed.runS mixed noTab_ok sfs_ok rfl rfl lives_run).tab H hb hv
    · cases e
  · cases e

end Go.Proofs.Ytgpdimkgfhgffaa

