/- The statement NormGcds: it holds. -/
import Derived.Test.YtpobklkllfokdaaRows
import Derived.Test.YtpobklkllfokdaaVV
import Derived.Test.YtpobklkllfokdaaSO
import Derived.Test.YtpobklkllfokdaaVQ
import Derived.Test.YtpobklkllfokdaaL13
set_option linter.unusedSimpArgs false
set_option linter.unusedVariables false
namespace Go.Proofs.Ytpobklkllfokdaa.lawNormGcds
open Go.ChangeShapes Go.WideShapes Go.ChangeAt Go.RowKit Go.Abs

theorem own : ownKnob Try.prog.godebug = none := by kernel_rfl
theorem laidOut : laidOutB Try.prog = true := by kernel_rfl

theorem contract (H : Type) (enc : TypeId × Value → H) (W : World) (base : Nat) (args : Array Value) (ds gs : List (DataW H)) (before : List MemPlace)
    (hval : ∀ (j : Nat) t v, Try.f5.params[j]? = some t → args[j]? = some v → Value.okWide Try.prog W .any base t v)
    (hW : DataW.Whole enc Try.prog Try.f5.params.toList Rows.normGcdsSpec.vars false W args.toList ds gs before) :
    Calls Try.prog 5 args W fun e W' => ∃ v, e = .returned v ∧ Rows.normGcdsSpec.post enc Try.prog Try.f5 false true false false W args v W' := by
  have hW' := hW
  obtain ⟨p, q, hA0, hV, rfl, hfz, hnd⟩ := hW
  have hA : DataW.TrodAll enc Try.prog W 0 (fun _ => true) true Try.f5.params.toList args.toList ds p := hA0
  rw [Try.params5] at hA hval
  obtain ⟨v0, v1, d0, d1, p0, p1, rfl, rfl, rfl, h0, h1⟩ := trodAll_two hA
  obtain ⟨rfl, rfl⟩ := trodVars_none hV
  obtain ⟨k0a, k0b, k0c, k0d, rfl, wk0a, wk0b, wk0c, wk0d⟩ := open_quad (k := .i64) Try.underlying23 (RowT.quad Try.underlying23 (by kernel_rfl) (by kernel_rfl) (by kernel_rfl) (by kernel_rfl) (by kernel_rfl) (by kernel_rfl) (by kernel_rfl) (by kernel_rfl) (by kernel_rfl) (by kernel_rfl) (by kernel_rfl) (by kernel_rfl) (by kernel_rfl)) (hval 0 23 v0 rfl rfl) h0
  have b0a : -9223372036854775808 ≤ k0a ∧ k0a ≤ 9223372036854775807 := by
    have := wk0a
    simp [Lit.wf, IntKind.min, IntKind.max, IntKind.bits, IntKind.signed] at this
    omega
  have b0b : -9223372036854775808 ≤ k0b ∧ k0b ≤ 9223372036854775807 := by
    have := wk0b
    simp [Lit.wf, IntKind.min, IntKind.max, IntKind.bits, IntKind.signed] at this
    omega
  have b0c : -9223372036854775808 ≤ k0c ∧ k0c ≤ 9223372036854775807 := by
    have := wk0c
    simp [Lit.wf, IntKind.min, IntKind.max, IntKind.bits, IntKind.signed] at this
    omega
  have b0d : -9223372036854775808 ≤ k0d ∧ k0d ≤ 9223372036854775807 := by
    have := wk0d
    simp [Lit.wf, IntKind.min, IntKind.max, IntKind.bits, IntKind.signed] at this
    omega
  obtain ⟨k1a, k1b, k1c, k1d, rfl, wk1a, wk1b, wk1c, wk1d⟩ := open_quad (k := .i64) Try.underlying23 (RowT.quad Try.underlying23 (by kernel_rfl) (by kernel_rfl) (by kernel_rfl) (by kernel_rfl) (by kernel_rfl) (by kernel_rfl) (by kernel_rfl) (by kernel_rfl) (by kernel_rfl) (by kernel_rfl) (by kernel_rfl) (by kernel_rfl) (by kernel_rfl)) (hval 1 23 v1 rfl rfl) h1
  have b1a : -9223372036854775808 ≤ k1a ∧ k1a ≤ 9223372036854775807 := by
    have := wk1a
    simp [Lit.wf, IntKind.min, IntKind.max, IntKind.bits, IntKind.signed] at this
    omega
  have b1b : -9223372036854775808 ≤ k1b ∧ k1b ≤ 9223372036854775807 := by
    have := wk1b
    simp [Lit.wf, IntKind.min, IntKind.max, IntKind.bits, IntKind.signed] at this
    omega
  have b1c : -9223372036854775808 ≤ k1c ∧ k1c ≤ 9223372036854775807 := by
    have := wk1c
    simp [Lit.wf, IntKind.min, IntKind.max, IntKind.bits, IntKind.signed] at this
    omega
  have b1d : -9223372036854775808 ≤ k1d ∧ k1d ≤ 9223372036854775807 := by
    have := wk1d
    simp [Lit.wf, IntKind.min, IntKind.max, IntKind.bits, IntKind.signed] at this
    omega
  have A : ArgH (fun _ => none) (below W.heap.size) ⟨0, [], [], 0, false⟩ W := ArgH.empty W
  have fin : Calls Try.prog 5 #[.agg #[.int .i64 k0a, .int .i64 k0b, .int .i64 k0c, .int .i64 k0d], .agg #[.int .i64 k1a, .int .i64 k1b, .int .i64 k1c, .int .i64 k1d]] W fun e w' => e = .returned (.bool true) ∧ Below W.heap.size W w' := by
    obtain ⟨h', N, hr⟩ := f5 k0a k0b k0c k0d k1a k1b k1c k1d _ A.ok b0a b0b b0c b0d b1a b1b b1c b1d
    have := ((callN_sound mixed tab_ok N).func (hr N (Nat.le_refl N)) A.hr (below_fit (Nat.le_refl _)) (vs := #[.agg #[.int .i64 k0a, .int .i64 k0b, .int .i64 k0c, .int .i64 k0d], .agg #[.int .i64 k1a, .int .i64 k1b, .int .i64 k1c, .int .i64 k1d]]) (by simp only [Rs]; exact ⟨_, _, rfl, by simp [R, Rs], _, _, rfl, by simp [R, Rs], rfl⟩)).2
    refine this.mono fun e w' he => ?_
    obtain ⟨u, τ, rfl, h1, _, _, h4⟩ := he
    exact ⟨by rw [R_bool h1], h4.bel.below⟩
  have types : ∀ t ∈ Try.f5.params.toList, Try.prog.readableRec t = true ∧ t < Try.prog.types.size := by
    intro t ht
    rw [Try.params5] at ht
    simp only [List.mem_cons, List.not_mem_nil, or_false] at ht
    rcases ht with rfl | rfl <;> exact ⟨by kernel_rfl, of_decide_eq_true (by kernel_rfl)⟩
  refine fin.mono fun e W' he => ?_
  obtain ⟨rfl, hb⟩ := he
  exact ⟨_, rfl, law_post hW' rfl rfl (tb := 4) (by kernel_rfl) Try.underlying4 laidOut types hb⟩

set_option maxRecDepth 100000 in
theorem lifted (os : Os) (started : os.Started) (H : Type) (enc : TypeId × Value → H) :
    ReturnsInHanded {} Try.checked os 5 .any (Rows.normGcdsSpec.pre6 enc Try.prog Try.f5 Rows.normGcdsRow.domain false) (Rows.normGcdsSpec.post enc Try.prog Try.f5 false true false false) := by
  refine returnsInHanded_of_change (C := Try.checked) own started (by kernel_rfl) Try.func5
    (ChangeSpec.witness6 (enc := enc) (C := Try.checked) false ⟨#[], #[.agg #[.int .i64 1, .int .i64 1, .int .i64 1, .int .i64 1], .agg #[.int .i64 1, .int .i64 1, .int .i64 1, .int .i64 1]], []⟩ 8 (by kernel_rfl) (by kernel_rfl) (by kernel_rfl) (by kernel_rfl)) ?_
  intro W base args ds gs before hval hW _ _
  exact contract H enc W base args ds gs before hval hW

/-- NormGcds: the function returns true for every input. -/
theorem proved : Rows.NormGcdsSaid :=
  OpenClaim.holds_of_wide 5 Try.f5 rfl rfl rfl rfl rfl rfl rfl ⟨rfl, rfl, rfl, rfl, rfl⟩ rfl rfl rfl rfl rfl (by kernel_rfl) Try.func5 (by kernel_rfl)
    (of_decide_eq_true (by kernel_rfl)) (by unfold Func.isWrapper; first | (rw [if_pos (by decide +kernel)]; kernel_rfl) | (rw [if_neg (by decide +kernel)]; exact ⟨rfl, rfl⟩))
    (fun os started H enc _ => lifted os started H enc)
end Go.Proofs.Ytpobklkllfokdaa.lawNormGcds
