/- Calls that are known: none. -/
import Derived.Test.YtihadgkgogfhcaaSG
import Derived.Test.YtihadgkgogfhcaaSI
import Derived.Test.YtihadgkgogfhcaaSL
set_option maxRecDepth 100000
namespace Go.Proofs.Ytihadgkgogfhcaa
open Go Go.Abs
theorem mixed : Try.prog.follows .mixedOrders = true := by kernel_rfl
def tab : Tab := fun _ _ _ => none
theorem tab_ok : TabOK Try.prog tab := fun f args h v h' e σ base w vs H hb hv => by cases e
end Go.Proofs.Ytihadgkgogfhcaa
