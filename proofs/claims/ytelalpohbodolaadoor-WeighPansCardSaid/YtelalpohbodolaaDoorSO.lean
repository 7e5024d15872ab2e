/- The examples of the document hold; the known calls are what the program does. -/
import Derived.Test.YtelalpohbodolaaDoorSP
import Derived.Test.YtelalpohbodolaaDoorKS
import Derived.Test.YtelalpohbodolaaDoorKI
set_option linter.unusedSimpArgs false
set_option linter.unusedVariables false
namespace Go.Proofs.YtelalpohbodolaaDoor
open Go Go.Abs Go.Shelf Go.Proofs
set_option maxRecDepth 1000000
def ren : Ren := ⟨fun i => match i with
  | 189 => 58 | 257 => 69 | 125 => 70 | 128 => 86 | 129 => 87
  | 294 => 77 | 295 => 78 | 296 => 79 | 297 => 80
  | 298 => 81 | 299 => 82 | 216 => 83 | 300 => 84
  | 301 => 85 | 328 => 93 | 329 => 94 | 330 => 95
  | 331 => 96 | 332 => 97 | 215 => 98 | 343 => 103 | n => n,
  fun t => match t with | 28 => 22 | 46 => 61 | 51 => 122 | 53 => 124 | 131 => 119 | 182 => 113 | 183 => 114 | 218 => 132 | 222 => 136 | 228 => 142 | 229 => 143 | t => t, fun g => g⟩
theorem lays : Lays.n189 Tryd.prog ren where
  mixed := mixed
  f125 := Tryd.func70
  f128 := Tryd.func86
  f129 := Tryd.func87
  f189 := Tryd.func58
  f215 := Tryd.func98
  f216 := Tryd.func83
  f257 := Tryd.func69
  f294 := Tryd.func77
  f295 := Tryd.func78
  f296 := Tryd.func79
  f297 := Tryd.func80
  f298 := Tryd.func81
  f299 := Tryd.func82
  f300 := Tryd.func84
  f301 := Tryd.func85
  f328 := Tryd.func93
  f329 := Tryd.func94
  f330 := Tryd.func95
  f331 := Tryd.func96
  f332 := Tryd.func97
  f343 := Tryd.func103
  t0 := Tryd.underlying0
  a0 := Tryd.isAgg0
  z0 := Tryd.sizeOf0
  v0 := Tryd.zeroValue0
  t3 := Tryd.underlying3
  a3 := Tryd.isAgg3
  z3 := Tryd.sizeOf3
  v3 := Tryd.zeroValue3
  t4 := Tryd.underlying4
  a4 := Tryd.isAgg4
  z4 := Tryd.sizeOf4
  v4 := Tryd.zeroValue4
  t5 := Tryd.underlying5
  a5 := Tryd.isAgg5
  z5 := Tryd.sizeOf5
  v5 := Tryd.zeroValue5
  t9 := Tryd.underlying9
  a9 := Tryd.isAgg9
  z9 := Tryd.sizeOf9
  v9 := Tryd.zeroValue9
  t28 := Tryd.underlying22
  a28 := Tryd.isAgg22
  z28 := Tryd.sizeOf22
  v28 := Tryd.zeroValue22
  t46 := Tryd.underlying61
  a46 := Tryd.isAgg61
  z46 := Tryd.sizeOf61
  v46 := Tryd.zeroValue61
  t51 := Tryd.underlying122
  a51 := Tryd.isAgg122
  z51 := Tryd.sizeOf122
  v51 := Tryd.zeroValue122
  t53 := Tryd.underlying124
  a53 := Tryd.isAgg124
  z53 := Tryd.sizeOf124
  v53 := Tryd.zeroValue124
  t131 := Tryd.underlying119
  a131 := Tryd.isAgg119
  z131 := Tryd.sizeOf119
  v131 := Tryd.zeroValue119
  t182 := Tryd.underlying113
  a182 := Tryd.isAgg113
  z182 := Tryd.sizeOf113
  v182 := Tryd.zeroValue113
  t183 := Tryd.underlying114
  a183 := Tryd.isAgg114
  z183 := Tryd.sizeOf114
  v183 := Tryd.zeroValue114
  t218 := Tryd.underlying132
  a218 := Tryd.isAgg132
  z218 := Tryd.sizeOf132
  v218 := Tryd.zeroValue132
  t222 := Tryd.underlying136
  a222 := Tryd.isAgg136
  z222 := Tryd.sizeOf136
  v222 := Tryd.zeroValue136
  t228 := Tryd.underlying142
  a228 := Tryd.isAgg142
  z228 := Tryd.sizeOf142
  v228 := Tryd.zeroValue142
  t229 := Tryd.underlying143
  a229 := Tryd.isAgg143
  z229 := Tryd.sizeOf143
  v229 := Tryd.zeroValue143
theorem sort_enter (vs : Array Value) (w : World) : (callFunc 58 vs).run Tryd.prog w = .ok (.enter 58 vs) w := by
  have h := Tryd.func58
  have h1 : Tryd.f58.name ≠ "runtime.NumGoroutine" := by decide
  obtain ⟨c, hc⟩ : ∃ c, Tryd.f58.body = some c := ⟨_, rfl⟩
  simp only [callFunc, h, h1, hc]
  simp [h, h1, hc]
def ren2 : Ren := ⟨fun i => match i with
  | 129 => 87 | 171 => 75 | 243 => 88 | 246 => 99 | 283 => 104 | 284 => 105 | 285 => 106 | 286 => 107 | 317 => 110 | 318 => 111 | 319 => 112 | 320 => 113 | 337 => 118 | 338 => 119 | n => n,
  fun t => match t with | 37 => 55 | 46 => 61 | 51 => 122 | 53 => 124 | 171 => 145 | 173 => 147 | 212 => 151 | 213 => 152 | 232 => 160 | 233 => 161 | t => t, fun g => match g with | 17 => 0 | 18 => 4 | 19 => 5 | g => g⟩
theorem lays2 : LaysM.n171 Tryd.prog ren2 where
  mixed := mixed
  f129 := Tryd.func87
  f171 := Tryd.func75
  f243 := Tryd.func88
  f246 := Tryd.func99
  f283 := Tryd.func104
  f284 := Tryd.func105
  f285 := Tryd.func106
  f286 := Tryd.func107
  f317 := Tryd.func110
  f318 := Tryd.func111
  f319 := Tryd.func112
  f320 := Tryd.func113
  f337 := Tryd.func118
  f338 := Tryd.func119
  t0 := Tryd.underlying0
  a0 := Tryd.isAgg0
  z0 := Tryd.sizeOf0
  v0 := Tryd.zeroValue0
  t2 := Tryd.underlying2
  a2 := Tryd.isAgg2
  z2 := Tryd.sizeOf2
  v2 := Tryd.zeroValue2
  t3 := Tryd.underlying3
  a3 := Tryd.isAgg3
  z3 := Tryd.sizeOf3
  v3 := Tryd.zeroValue3
  t4 := Tryd.underlying4
  a4 := Tryd.isAgg4
  z4 := Tryd.sizeOf4
  v4 := Tryd.zeroValue4
  t5 := Tryd.underlying5
  a5 := Tryd.isAgg5
  z5 := Tryd.sizeOf5
  v5 := Tryd.zeroValue5
  t9 := Tryd.underlying9
  a9 := Tryd.isAgg9
  z9 := Tryd.sizeOf9
  v9 := Tryd.zeroValue9
  t20 := Tryd.underlying20
  a20 := Tryd.isAgg20
  z20 := Tryd.sizeOf20
  v20 := Tryd.zeroValue20
  t37 := Tryd.underlying55
  a37 := Tryd.isAgg55
  z37 := Tryd.sizeOf55
  v37 := Tryd.zeroValue55
  t46 := Tryd.underlying61
  a46 := Tryd.isAgg61
  z46 := Tryd.sizeOf61
  v46 := Tryd.zeroValue61
  t51 := Tryd.underlying122
  a51 := Tryd.isAgg122
  z51 := Tryd.sizeOf122
  v51 := Tryd.zeroValue122
  t53 := Tryd.underlying124
  a53 := Tryd.isAgg124
  z53 := Tryd.sizeOf124
  v53 := Tryd.zeroValue124
  t171 := Tryd.underlying145
  a171 := Tryd.isAgg145
  z171 := Tryd.sizeOf145
  v171 := Tryd.zeroValue145
  t173 := Tryd.underlying147
  a173 := Tryd.isAgg147
  z173 := Tryd.sizeOf147
  v173 := Tryd.zeroValue147
  t212 := Tryd.underlying151
  a212 := Tryd.isAgg151
  z212 := Tryd.sizeOf151
  v212 := Tryd.zeroValue151
  t213 := Tryd.underlying152
  a213 := Tryd.isAgg152
  z213 := Tryd.sizeOf152
  t232 := Tryd.underlying160
  a232 := Tryd.isAgg160
  z232 := Tryd.sizeOf160
  v232 := Tryd.zeroValue160
  t233 := Tryd.underlying161
  a233 := Tryd.isAgg161
  z233 := Tryd.sizeOf161
  v233 := Tryd.zeroValue161
  g17 := by kernel_rfl
  g18 := by kernel_rfl
  g19 := by kernel_rfl
  i0 := by kernel_rfl
  i2 := by kernel_rfl
  i3 := by kernel_rfl
  i4 := by kernel_rfl
  i5 := by kernel_rfl
  i9 := by kernel_rfl
  i20 := by kernel_rfl
  i37 := by kernel_rfl
  i46 := by kernel_rfl
  i51 := by kernel_rfl
  i53 := by kernel_rfl
  i171 := by kernel_rfl
  i173 := by kernel_rfl
  i212 := by kernel_rfl
  i232 := by kernel_rfl
  i233 := by kernel_rfl
  m17 := by kernel_rfl
  m18 := by kernel_rfl
  m19 := by kernel_rfl
theorem itoa_enter (vs : Array Value) (w : World) : (callFunc 75 vs).run Tryd.prog w = .ok (.enter 75 vs) w := by
  have h := Tryd.func75
  have h1 : Tryd.f75.name ≠ "runtime.NumGoroutine" := by decide
  obtain ⟨c, hc⟩ : ∃ c, Tryd.f75.body = some c := ⟨_, rfl⟩
  simp only [callFunc, h, h1, hc]
  simp [h, h1, hc]
theorem pow10_at : Tryd.prog.globalNamed "internal/strconv.uint64pow10" = some 0 := by kernel_rfl
def ren3 : Ren := ⟨fun i => match i with | 20 => 59 | n => n, fun t => t, fun g => g⟩
theorem lays3 : Lays2.n20 Tryd.prog ren3 where
  mixed := mixed
  f20 := Tryd.func59
  t0 := Tryd.underlying0
  a0 := Tryd.isAgg0
  z0 := Tryd.sizeOf0
  v0 := Tryd.zeroValue0
  t3 := Tryd.underlying3
  a3 := Tryd.isAgg3
  z3 := Tryd.sizeOf3
  v3 := Tryd.zeroValue3
  t4 := Tryd.underlying4
  a4 := Tryd.isAgg4
  z4 := Tryd.sizeOf4
  v4 := Tryd.zeroValue4
  t22 := Tryd.underlying22
  a22 := Tryd.isAgg22
  z22 := Tryd.sizeOf22
  v22 := Tryd.zeroValue22
  i3 := by kernel_rfl
theorem cmp_enter (vs : Array Value) (w : World) : (callFunc 59 vs).run Tryd.prog w = .ok (.enter 59 vs) w := by
  have h := Tryd.func59
  have h1 : Tryd.f59.name ≠ "runtime.NumGoroutine" := by decide
  obtain ⟨c, hc⟩ : ∃ c, Tryd.f59.body = some c := ⟨_, rfl⟩
  simp only [callFunc, h, h1, hc]
  simp [h, h1, hc]
theorem tab0_ok : TabOK Tryd.prog tab0 := fun f args h v h' e σ base w vs H hb hv => by
  unfold tab0 at e
  split at e
  · exact ⟨sort_enter vs w, sortT_sound lays e H hb hv⟩
  · exact ⟨itoa_enter vs w, itoaT_sound lays2 pow10_at e H hb hv⟩
  · exact ⟨cmp_enter vs w, cmpT_sound lays3 e H hb hv⟩
  · cases e
theorem lives_run : (callS Tryd.prog tab0 (lkSF sfs) false 100000 60 (.func 17) [] ⟨0, [], [], 0, false⟩).map (·.1) = some (.bool true) := by kernel_rfl
theorem tab_ok : TabOK Tryd.prog tab := fun f args h v h' e σ base w vs H hb hv => by
  unfold tab at e
  split at e
  · split at e
    · cases e
      exact Closed.tab (Closed.runS mixed tab0_ok (lkSF_ok sfs_ok) rfl rfl lives_run) H hb hv
    · cases e
  · exact ⟨sort_enter vs w, sortT_sound lays e H hb hv⟩
  · exact ⟨itoa_enter vs w, itoaT_sound lays2 pow10_at e H hb hv⟩
  · exact ⟨cmp_enter vs w, cmpT_sound lays3 e H hb hv⟩
  · cases e
end Go.Proofs.YtelalpohbodolaaDoor
