/- Arguments of laws: slices of pairs of bytes. -/
import Derived.Test.YtpfkmdbdafpadaaDoorVV
import Derived.Test.YtpfkmdbdafpadaaDoorPK
set_option linter.unusedSimpArgs false
set_option linter.unusedVariables false
namespace Go.Abs
open Go Go.RowKit Go.WideShapes Go.ChangeShapes Go.Deep
theorem ArgR.pairs8 {bs : List (Nat × Blk)} {a : AV} {n : Nat} {Z : Nat → List Int} (A : ArgR bs [.u8, .u8] a n Z) : ∃ l : List (Int × Int), Pairs8 bs a l ∧ (∀ p ∈ l, 0 ≤ p.1 ∧ p.1 ≤ 255 ∧ 0 ≤ p.2 ∧ p.2 ≤ 255) ∧ l.length ≤ maxLen := by
  obtain ⟨l, h, hw, hl⟩ := A.two
  exact ⟨l, h, fun p hp => by have h1 := wf_u8 (hw p hp).1; have h2 := wf_u8 (hw p hp).2; omega, hl⟩
end Go.Abs
