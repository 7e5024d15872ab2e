/- The examples of the document hold; the known calls are what the program does. -/
import Derived.Test.YtpfkmdbdafpadaaDoorSP
import Derived.Test.YtpfkmdbdafpadaaDoorDP
set_option linter.unusedSimpArgs false
set_option linter.unusedVariables false
namespace Go.Proofs.YtpfkmdbdafpadaaDoor
open Go Go.Abs
set_option maxRecDepth 1000000
theorem lives_run : (callS Tryd.prog noTab (lkSF sfs) true 100000 60 (.func 9) [] ⟨0, [], [], 0, false⟩).map (·.1) = some (.bool true) := by kernel_rfl
theorem tab_ok : TabOK Tryd.prog tab := fun f args h v h' e σ base w vs H hb hv => by
  unfold tab at e
  split at e
  · split at e
    · cases e
      exact Closed.tab (Closed.runS mixed noTab_ok (lkSF_ok sfs_ok) rfl rfl lives_run) H hb hv
    · cases e
  · obtain ⟨id, off, n, i, rfl, h1, h2, h3, h4, rfl⟩ := delT_spec e
    exact delI_sem h1 h2 h3 h4 H hb hv
  · obtain ⟨id, off, n, i, rfl, h1, h2, h3, h4, rfl⟩ := delT_spec e
    exact delP_sem h1 h2 h3 h4 H hb hv
  · cases e
end Go.Proofs.YtpfkmdbdafpadaaDoor
