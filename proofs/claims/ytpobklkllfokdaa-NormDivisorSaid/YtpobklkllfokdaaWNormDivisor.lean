/- The statement NormDivisor: it holds. -/
import Derived.Test.YtpobklkllfokdaaRows
import Derived.Test.YtpobklkllfokdaaVV
import Derived.Test.YtpobklkllfokdaaSO
import Derived.Test.YtpobklkllfokdaaVQ
import Derived.Test.YtpobklkllfokdaaL4
set_option linter.unusedSimpArgs false
set_option linter.unusedVariables false
namespace Go.Proofs.Ytpobklkllfokdaa.lawNormDivisor
open Go.ChangeShapes Go.WideShapes Go.ChangeAt Go.RowKit Go.Abs

theorem own : ownKnob Try.prog.godebug = none := by kernel_rfl
theorem laidOut : laidOutB Try.prog = true := by kernel_rfl

theorem contract (H : Type) (enc : TypeId × Value → H) (W : World) (base : Nat) (args : Array Value) (ds gs : List (DataW H)) (before : List MemPlace)
    (hval : ∀ (j : Nat) t v, Try.f11.params[j]? = some t → args[j]? = some v → Value.okWide Try.prog W .any base t v)
    (hW : DataW.Whole enc Try.prog Try.f11.params.toList Rows.normDivisorSpec.vars false W args.toList ds gs before) :
    Calls Try.prog 11 args W fun e W' => ∃ v, e = .returned v ∧ Rows.normDivisorSpec.post enc Try.prog Try.f11 false true false false W args v W' := by
  have hW' := hW
  obtain ⟨p, q, hA0, hV, rfl, hfz, hnd⟩ := hW
  have hA : DataW.TrodAll enc Try.prog W 0 (fun _ => true) true Try.f11.params.toList args.toList ds p := hA0
  rw [Try.params11] at hA hval
  obtain ⟨v0, v1, v2, d0, d1, d2, p0, p1, p2, rfl, rfl, rfl, h0, h1, h2⟩ := trodAll_three hA
  obtain ⟨rfl, rfl⟩ := trodVars_none hV
  obtain ⟨k0a, k0b, k0c, k0d, rfl, wk0a, wk0b, wk0c, wk0d⟩ := open_arr4 Try.underlying55 (RowT.array Try.underlying55 Try.underlying54 (by kernel_rfl) (by kernel_rfl)) (hval 0 55 v0 rfl rfl) h0
  have b0a : -32768 ≤ k0a ∧ k0a ≤ 32767 := by
    have := wk0a
    simp [Lit.wf, IntKind.min, IntKind.max, IntKind.bits, IntKind.signed] at this
    omega
  have b0b : -32768 ≤ k0b ∧ k0b ≤ 32767 := by
    have := wk0b
    simp [Lit.wf, IntKind.min, IntKind.max, IntKind.bits, IntKind.signed] at this
    omega
  have b0c : -32768 ≤ k0c ∧ k0c ≤ 32767 := by
    have := wk0c
    simp [Lit.wf, IntKind.min, IntKind.max, IntKind.bits, IntKind.signed] at this
    omega
  have b0d : -32768 ≤ k0d ∧ k0d ≤ 32767 := by
    have := wk0d
    simp [Lit.wf, IntKind.min, IntKind.max, IntKind.bits, IntKind.signed] at this
    omega
  obtain ⟨k1a, k1b, k1c, k1d, rfl, wk1a, wk1b, wk1c, wk1d⟩ := open_arr4 Try.underlying55 (RowT.array Try.underlying55 Try.underlying54 (by kernel_rfl) (by kernel_rfl)) (hval 1 55 v1 rfl rfl) h1
  have b1a : -32768 ≤ k1a ∧ k1a ≤ 32767 := by
    have := wk1a
    simp [Lit.wf, IntKind.min, IntKind.max, IntKind.bits, IntKind.signed] at this
    omega
  have b1b : -32768 ≤ k1b ∧ k1b ≤ 32767 := by
    have := wk1b
    simp [Lit.wf, IntKind.min, IntKind.max, IntKind.bits, IntKind.signed] at this
    omega
  have b1c : -32768 ≤ k1c ∧ k1c ≤ 32767 := by
    have := wk1c
    simp [Lit.wf, IntKind.min, IntKind.max, IntKind.bits, IntKind.signed] at this
    omega
  have b1d : -32768 ≤ k1d ∧ k1d ≤ 32767 := by
    have := wk1d
    simp [Lit.wf, IntKind.min, IntKind.max, IntKind.bits, IntKind.signed] at this
    omega
  obtain ⟨k2a, k2b, k2c, k2d, rfl, wk2a, wk2b, wk2c, wk2d⟩ := open_arr4 Try.underlying55 (RowT.array Try.underlying55 Try.underlying54 (by kernel_rfl) (by kernel_rfl)) (hval 2 55 v2 rfl rfl) h2
  have b2a : -32768 ≤ k2a ∧ k2a ≤ 32767 := by
    have := wk2a
    simp [Lit.wf, IntKind.min, IntKind.max, IntKind.bits, IntKind.signed] at this
    omega
  have b2b : -32768 ≤ k2b ∧ k2b ≤ 32767 := by
    have := wk2b
    simp [Lit.wf, IntKind.min, IntKind.max, IntKind.bits, IntKind.signed] at this
    omega
  have b2c : -32768 ≤ k2c ∧ k2c ≤ 32767 := by
    have := wk2c
    simp [Lit.wf, IntKind.min, IntKind.max, IntKind.bits, IntKind.signed] at this
    omega
  have b2d : -32768 ≤ k2d ∧ k2d ≤ 32767 := by
    have := wk2d
    simp [Lit.wf, IntKind.min, IntKind.max, IntKind.bits, IntKind.signed] at this
    omega
  have A : ArgH (fun _ => none) (below W.heap.size) ⟨0, [], [], 0, false⟩ W := ArgH.empty W
  have fin : Calls Try.prog 11 #[.agg #[.int .i16 k0a, .int .i16 k0b, .int .i16 k0c, .int .i16 k0d], .agg #[.int .i16 k1a, .int .i16 k1b, .int .i16 k1c, .int .i16 k1d], .agg #[.int .i16 k2a, .int .i16 k2b, .int .i16 k2c, .int .i16 k2d]] W fun e w' => e = .returned (.bool true) ∧ Below W.heap.size W w' := by
    obtain ⟨h', N, hr⟩ := f11 k0a k0b k0c k0d k1a k1b k1c k1d k2a k2b k2c k2d _ A.ok b0a b0b b0c b0d b1a b1b b1c b1d b2a b2b b2c b2d
    have := ((callN_sound mixed tab_ok N).func (hr N (Nat.le_refl N)) A.hr (below_fit (Nat.le_refl _)) (vs := #[.agg #[.int .i16 k0a, .int .i16 k0b, .int .i16 k0c, .int .i16 k0d], .agg #[.int .i16 k1a, .int .i16 k1b, .int .i16 k1c, .int .i16 k1d], .agg #[.int .i16 k2a, .int .i16 k2b, .int .i16 k2c, .int .i16 k2d]]) (by simp only [Rs]; exact ⟨_, _, rfl, by simp [R, Rs], _, _, rfl, by simp [R, Rs], _, _, rfl, by simp [R, Rs], rfl⟩)).2
    refine this.mono fun e w' he => ?_
    obtain ⟨u, τ, rfl, h1, _, _, h4⟩ := he
    exact ⟨by rw [R_bool h1], h4.bel.below⟩
  have types : ∀ t ∈ Try.f11.params.toList, Try.prog.readableRec t = true ∧ t < Try.prog.types.size := by
    intro t ht
    rw [Try.params11] at ht
    simp only [List.mem_cons, List.not_mem_nil, or_false] at ht
    rcases ht with rfl | rfl | rfl <;> exact ⟨by kernel_rfl, of_decide_eq_true (by kernel_rfl)⟩
  refine fin.mono fun e W' he => ?_
  obtain ⟨rfl, hb⟩ := he
  exact ⟨_, rfl, law_post hW' rfl rfl (tb := 4) (by kernel_rfl) Try.underlying4 laidOut types hb⟩

set_option maxRecDepth 100000 in
theorem lifted (os : Os) (started : os.Started) (H : Type) (enc : TypeId × Value → H) :
    ReturnsInHanded {} Try.checked os 11 .any (Rows.normDivisorSpec.pre6 enc Try.prog Try.f11 Rows.normDivisorRow.domain false) (Rows.normDivisorSpec.post enc Try.prog Try.f11 false true false false) := by
  refine returnsInHanded_of_change (C := Try.checked) own started (by kernel_rfl) Try.func11
    (ChangeSpec.witness6 (enc := enc) (C := Try.checked) false ⟨#[], #[.agg #[.int .i16 1, .int .i16 1, .int .i16 1, .int .i16 1], .agg #[.int .i16 1, .int .i16 1, .int .i16 1, .int .i16 1], .agg #[.int .i16 1, .int .i16 1, .int .i16 1, .int .i16 1]], []⟩ 8 (by kernel_rfl) (by kernel_rfl) (by kernel_rfl) (by kernel_rfl)) ?_
  intro W base args ds gs before hval hW _ _
  exact contract H enc W base args ds gs before hval hW

/-- NormDivisor: the function returns true for every input. -/
theorem proved : Rows.NormDivisorSaid :=
  OpenClaim.holds_of_wide 11 Try.f11 rfl rfl rfl rfl rfl rfl rfl ⟨rfl, rfl, rfl, rfl, rfl⟩ rfl rfl rfl rfl rfl (by kernel_rfl) Try.func11 (by kernel_rfl)
    (of_decide_eq_true (by kernel_rfl)) (by unfold Func.isWrapper; first | (rw [if_pos (by decide +kernel)]; kernel_rfl) | (rw [if_neg (by decide +kernel)]; exact ⟨rfl, rfl⟩))
    (fun os started H enc _ => lifted os started H enc)
end Go.Proofs.Ytpobklkllfokdaa.lawNormDivisor
