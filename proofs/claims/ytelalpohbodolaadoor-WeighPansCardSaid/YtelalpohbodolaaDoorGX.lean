/- The tables that a row lists are there. -/
import Derived.Test.YtelalpohbodolaaDoorVV
import Derived.Test.YtelalpohbodolaaDoorSO
import Derived.Test.YtelalpohbodolaaDoorRows
import Derived.Lib.LaidTab
import Derived.Stop.LaidErr
set_option linter.unusedSimpArgs false
set_option linter.unusedVariables false
set_option maxRecDepth 100000
namespace Go.Proofs.YtelalpohbodolaaDoor
open Go Go.Abs
theorem pow10_data : (Rows.laid_internal_strconv_uint64pow10 : DataW Unit) = Lib.tabData .u64 Lib.pow10Tab := by kernel_rfl
theorem glo_of {x y : String × DataW Unit} {l : List (String × DataW Unit)} {W : World} (h : laidMet Tryd.prog (x :: y :: ("internal/strconv.uint64pow10", Rows.laid_internal_strconv_uint64pow10) :: l) W) : GloW W := by
  have h3 := laidMet.tail (laidMet.tail h)
  rw [pow10_data] at h3
  have t := Lib.tabIs_of_head (t := 151) (e := 124) (n := 20) pow10_at (by kernel_rfl) Tryd.underlying151 Tryd.underlying124 (by kernel_rfl) (by kernel_rfl) h3
  unfold Lib.TabIs World.var? at t
  rw [pow10_at, Option.bind_some] at t
  intro z hz
  simp only [glob, List.mem_singleton] at hz
  subst hz
  cases hg : W.heap[0]? with
  | none => rw [hg] at t; cases t
  | some o =>
    rw [hg] at t
    cases o <;> first | (cases t; done) | skip
    simp only [Option.some.injEq] at t
    subst t
    exact ⟨_, _, rfl⟩
end Go.Proofs.YtelalpohbodolaaDoor
