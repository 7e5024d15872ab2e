/- slices.Insert of this program is the shelf's; the table of known calls is right. -/
import Derived.Test.YtpobklkllfokdaaK
import Derived.Test.YtpobklkllfokdaaSN
set_option linter.unusedSimpArgs false
set_option linter.unusedVariables false
set_option maxRecDepth 100000
namespace Go.Proofs.Ytpobklkllfokdaa
open Go Go.Abs Go.Shelf Go.Proofs
def ren : Ren := ⟨fun i => match i with | 21 => 73 | 27 => 76 | 28 => 77 | 35 => 79 | 39 => 81 | n => n, fun t => match t with | 22 => 46 | t => t, fun g => g⟩
theorem lays : Lays2.n21 Try.prog ren where
  mixed := mixed
  f21 := Try.func73
  f27 := Try.func76
  f28 := Try.func77
  f35 := Try.func79
  f39 := Try.func81
  t0 := Try.underlying0
  a0 := Try.isAgg0
  z0 := Try.sizeOf0
  v0 := Try.zeroValue0
  t3 := Try.underlying3
  a3 := Try.isAgg3
  z3 := Try.sizeOf3
  v3 := Try.zeroValue3
  t4 := Try.underlying4
  a4 := Try.isAgg4
  z4 := Try.sizeOf4
  v4 := Try.zeroValue4
  t22 := Try.underlying46
  a22 := Try.isAgg46
  z22 := Try.sizeOf46
  v22 := Try.zeroValue46
  i3 := by kernel_rfl
theorem ins_enter (vs : Array Value) (w : World) : (callFunc 73 vs).run Try.prog w = .ok (.enter 73 vs) w := by
  have h := Try.func73
  have h1 : Try.f73.name ≠ "runtime.NumGoroutine" := by decide
  obtain ⟨c, hc⟩ : ∃ c, Try.f73.body = some c := ⟨_, rfl⟩
  simp only [callFunc, h, h1, hc]
  simp [h, h1, hc]
end Go.Proofs.Ytpobklkllfokdaa

set_option linter.unusedSimpArgs false
set_option linter.unusedVariables false
namespace Go.Proofs.Ytpobklkllfokdaa
open Go Go.Abs
theorem tab_ok : TabOK Try.prog tab := fun f args h v h' e σ base w vs H hb hv => by
  unfold tab at e
  split at e
  · exact ⟨ins_enter vs w, insA_sound lays e H hb hv⟩
  · cases e
end Go.Proofs.Ytpobklkllfokdaa
