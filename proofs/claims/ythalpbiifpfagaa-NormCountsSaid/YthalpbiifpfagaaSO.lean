/- slices.Insert of this program is the shelf's; the table of known calls is right. -/
import Derived.Test.YthalpbiifpfagaaK
import Derived.Test.YthalpbiifpfagaaSN
set_option linter.unusedSimpArgs false
set_option linter.unusedVariables false
set_option maxRecDepth 100000

namespace Go.Proofs.Ythalpbiifpfagaa

open Go Go.Abs Go.Shelf Go.Proofs
def ren : Ren := ⟨fun i => match i with | 21 => 36 | 27 => 42 | 28 => 43 | 35 => 46 | 39 => 48 | n => n, fun t => match t with | 22 => 35 | t => t, fun g => g⟩
theorem lays : Lays2.n21 Try.prog ren where
  mixed := mixed
  f21 := Try.func36
  f27 := Try.func42
  f28 := Try.func43
  f35 := Try.func46
  f39 := Try.func48
  t0 := Try.underlying0
  a0 := Try.isAgg0
  z0 := Try.sizeOf0
  v0 := Try.zeroValue0
  t3 := Try.underlying3
  a3 := Try.isAgg3
  z3 := Try.sizeOf3
  v3 := Try.zeroValue3
  t4 := Try.underlying4
  a4 := Try.isAgg4
  z4 := Try.sizeOf4
  v4 := Try.zeroValue4
  t22 := Try.underlying35
  a22 := Try.isAgg35
  z22 := Try.sizeOf35
  v22 := Try.zeroValue35
  i3 := by kernel_rfl
theorem ins_enter (vs : Array Value) (w : World) : (callFunc 36 vs).run Try.prog w = .ok (.enter 36 vs) w := by
  have h := Try.func36
  have h1 : Try.f36.name ≠ "runtime.NumGoroutine" := by decide
  obtain ⟨c, hc⟩ : ∃ c, Try.f36.body = some c := ⟨_, rfl⟩
  simp only [callFunc, h, h1, hc]
  simp [h, h1, hc]

end Go.Proofs.Ythalpbiifpfagaa


set_option linter.unusedSimpArgs false
set_option linter.unusedVariables false

namespace Go.Proofs.Ythalpbiifpfagaa

open Go Go.Abs
theorem tab_ok : TabOK Try.prog tab := fun f args h v h' e σ base w vs H hb hv => by
  unfold tab at e
  split at e
  · exact ⟨ins_enter vs w, insA_sound lays e H hb hv⟩
  · cases e

end Go.Proofs.Ythalpbiifpfagaa

