/- The statement EchoParts: it holds. -/
import Derived.Test.YtogfojkjocbahaaRows
import Derived.Test.YtogfojkjocbahaaV
import Derived.Test.YtogfojkjocbahaaSO
import Derived.Test.YtogfojkjocbahaaE18
set_option linter.unusedSimpArgs false
set_option linter.unusedVariables false
namespace Go.Proofs.Ytogfojkjocbahaa.lawEchoParts
open Go.ChangeShapes Go.WideShapes Go.ChangeAt Go.RowKit Go.Abs

theorem own : ownKnob Try.prog.godebug = none := by kernel_rfl
theorem laidOut : laidOutB Try.prog = true := by kernel_rfl

theorem contract (H : Type) (enc : TypeId × Value → H) (W : World) (base : Nat) (args : Array Value) (ds gs : List (DataW H)) (before : List MemPlace)
    (hval : ∀ (j : Nat) t v, Try.f8.params[j]? = some t → args[j]? = some v → Value.okWide Try.prog W .any base t v)
    (hW : DataW.Whole enc Try.prog Try.f8.params.toList Rows.echoPartsSpec.vars false W args.toList ds gs before) :
    Calls Try.prog 8 args W fun e W' => ∃ v, e = .returned v ∧ Rows.echoPartsSpec.post enc Try.prog Try.f8 false true false false W args v W' := by
  have hW' := hW
  obtain ⟨p, q, hA0, hV, rfl, hfz, hnd⟩ := hW
  have hA : DataW.TrodAll enc Try.prog W 0 (fun _ => true) true Try.f8.params.toList args.toList ds p := hA0
  rw [Try.params8] at hA hval
  obtain ⟨v0, v1, v2, d0, d1, d2, p0, p1, p2, rfl, rfl, rfl, h0, h1, h2⟩ := trodAll_three hA
  obtain ⟨rfl, rfl⟩ := trodVars_none hV
  obtain ⟨k1, rfl, rfl, hp1, wk1⟩ := open_int Try.underlying44 (hval 1 44 v1 rfl rfl) h1
  subst hp1
  have b1 : 0 ≤ k1 ∧ k1 ≤ 65535 :=
     wf_u16 wk1
  obtain ⟨k2, rfl, rfl, hp2, wk2⟩ := open_int Try.underlying44 (hval 2 44 v2 rfl rfl) h2
  subst hp2
  have b2 : 0 ≤ k2 ∧ k2 ≤ 65535 :=
     wf_u16 wk2
  obtain ⟨a0, len, cap, rfl⟩ := okWide_slice Try.underlying50 (hval 0 50 v0 rfl rfl)
  obtain ⟨fuel, hf⟩ := h0
  have fin : Calls Try.prog 8 #[.slice a0 len cap, .int .u16 k1, .int .u16 k2] W fun e w' => e = .returned (.bool true) ∧ Below W.heap.size W w' := by
    have go : ∀ (σ : Env) (a : AV) (h : Hp), HR σ W.heap.size h W → R σ a (.slice a0 len cap) → (∃ h', Evals Try.prog tab false (.func 8) [a, .int .u16 k1, .int .u16 k2] h (.bool true, h')) →
        Calls Try.prog 8 #[.slice a0 len cap, .int .u16 k1, .int .u16 k2] W fun e w' => e = .returned (.bool true) ∧ Below W.heap.size W w' := fun σ a h HH ha hr => by
      obtain ⟨h', N, hr⟩ := hr
      have := ((callN_sound mixed tab_ok N).func (hr N (Nat.le_refl N)) HH (Nat.le_refl _) (vs := #[.slice a0 len cap, .int .u16 k1, .int .u16 k2]) (by simp only [Rs]; exact ⟨_, _, rfl, ha, _, _, rfl, by simp [R], _, _, rfl, by simp [R], rfl⟩)).2
      refine this.mono fun e w' he => ?_
      obtain ⟨u, τ, rfl, h1, _, _, h4⟩ := he
      exact ⟨by rw [R_bool h1], h4.bel⟩
    rcases open_ints Try.underlying50 Try.underlying5 (by kernel_rfl) hf with ⟨hcs, _⟩ | ⟨a, len', cap', zs, hcs, _, hl, hm, hz, _, hcell, hwz⟩
    · simp [Value.cells] at hcs
      obtain ⟨rfl, rfl, rfl⟩ := hcs
      exact go _ .nilsl _ (HR.empty W) (by simp [R]) (f8 .nilsl [] _ (fun x hx => by simp at hx) (ArgK.nil) k1 b1 k2 b2)
    · simp [Value.cells] at hcs
      obtain ⟨rfl, rfl, rfl⟩ := hcs
      simp only [if_true] at hz
      by_cases hc0 : cap = 0
      · subst hc0
        have : len = 0 := by omega
        subst this
        exact go _ .esl _ (HR.empty W) (by simp only [R]; exact ⟨a, 0, rfl⟩) (f8 .esl [] _ (fun x hx => by simp at hx) (ArgK.esl) k1 b1 k2 b2)
      · obtain ⟨c, kk1, kk2, kk3⟩ := (HR.empty W).slice hl hz (by omega) hcell (fun j b h => by simp [lkB] at h)
        exact go _ _ _ kk1 kk3 (f8 _ (zs.take len) _ (fun x hx => by simp only [List.mem_singleton] at hx; subst hx; exact Nat.lt_succ_self _) (ArgK.sl (cap := cap) hl hz (by omega) hwz) k1 b1 k2 b2)
  have types : ∀ t ∈ Try.f8.params.toList, Try.prog.readableRec t = true ∧ t < Try.prog.types.size := by
    intro t ht
    rw [Try.params8] at ht
    simp only [List.mem_cons, List.not_mem_nil, or_false] at ht
    rcases ht with rfl | rfl | rfl <;> exact ⟨by kernel_rfl, of_decide_eq_true (by kernel_rfl)⟩
  refine fin.mono fun e W' he => ?_
  obtain ⟨rfl, hb⟩ := he
  exact ⟨_, rfl, law_post hW' rfl rfl (tb := 4) (by kernel_rfl) Try.underlying4 laidOut types hb⟩

set_option maxRecDepth 100000 in
theorem lifted (os : Os) (started : os.Started) (H : Type) (enc : TypeId × Value → H) :
    ReturnsInHanded {} Try.checked os 8 .any (Rows.echoPartsSpec.pre6 enc Try.prog Try.f8 Rows.echoPartsRow.domain false) (Rows.echoPartsSpec.post enc Try.prog Try.f8 false true false false) := by
  refine returnsInHanded_of_change (C := Try.checked) own started (by kernel_rfl) Try.func8
    (ChangeSpec.witness6 (enc := enc) (C := Try.checked) false ⟨#[], #[.slice none 0 0, .int .u16 1, .int .u16 1], []⟩ 8 (by kernel_rfl) (by kernel_rfl) (by kernel_rfl) (by kernel_rfl)) ?_
  intro W base args ds gs before hval hW _ _
  exact contract H enc W base args ds gs before hval hW

/-- EchoParts: the function returns true for every input. -/
theorem proved : Rows.EchoPartsSaid :=
  OpenClaim.holds_of_wide 8 Try.f8 rfl rfl rfl rfl rfl rfl rfl ⟨rfl, rfl, rfl, rfl, rfl⟩ rfl rfl rfl rfl rfl (by kernel_rfl) Try.func8 (by kernel_rfl)
    (of_decide_eq_true (by kernel_rfl)) (by unfold Func.isWrapper; first | (rw [if_pos (by decide +kernel)]; kernel_rfl) | (rw [if_neg (by decide +kernel)]; exact ⟨rfl, rfl⟩))
    (fun os started H enc _ => lifted os started H enc)
end Go.Proofs.Ytogfojkjocbahaa.lawEchoParts
