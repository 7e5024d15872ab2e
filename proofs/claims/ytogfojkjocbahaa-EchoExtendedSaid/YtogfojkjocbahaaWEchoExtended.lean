/- The statement EchoExtended: it holds. -/
import Derived.Test.YtogfojkjocbahaaRows
import Derived.Test.YtogfojkjocbahaaV
import Derived.Test.YtogfojkjocbahaaSO
import Derived.Test.YtogfojkjocbahaaE15
set_option linter.unusedSimpArgs false
set_option linter.unusedVariables false
namespace Go.Proofs.Ytogfojkjocbahaa.lawEchoExtended
open Go.ChangeShapes Go.WideShapes Go.ChangeAt Go.RowKit Go.Abs

theorem own : ownKnob Try.prog.godebug = none := by kernel_rfl
theorem laidOut : laidOutB Try.prog = true := by kernel_rfl

theorem contract (H : Type) (enc : TypeId × Value → H) (W : World) (base : Nat) (args : Array Value) (ds gs : List (DataW H)) (before : List MemPlace)
    (hval : ∀ (j : Nat) t v, Try.f10.params[j]? = some t → args[j]? = some v → Value.okWide Try.prog W .any base t v)
    (hW : DataW.Whole enc Try.prog Try.f10.params.toList Rows.echoExtendedSpec.vars false W args.toList ds gs before) :
    Calls Try.prog 10 args W fun e W' => ∃ v, e = .returned v ∧ Rows.echoExtendedSpec.post enc Try.prog Try.f10 false true false false W args v W' := by
  have hW' := hW
  obtain ⟨p, q, hA0, hV, rfl, hfz, hnd⟩ := hW
  have hA : DataW.TrodAll enc Try.prog W 0 (fun _ => true) true Try.f10.params.toList args.toList ds p := hA0
  rw [Try.params10] at hA hval
  obtain ⟨v0, d0, rfl, rfl, h0⟩ := trodAll_one hA
  obtain ⟨rfl, rfl⟩ := trodVars_none hV
  obtain ⟨a0, len, cap, rfl⟩ := okWide_slice Try.underlying50 (hval 0 50 v0 rfl rfl)
  obtain ⟨fuel, hf⟩ := h0
  have fin : Calls Try.prog 10 #[.slice a0 len cap] W fun e w' => e = .returned (.bool true) ∧ Below W.heap.size W w' := by
    have go : ∀ (σ : Env) (a : AV) (h : Hp), HR σ W.heap.size h W → R σ a (.slice a0 len cap) → (∃ h', Evals Try.prog tab false (.func 10) [a] h (.bool true, h')) →
        Calls Try.prog 10 #[.slice a0 len cap] W fun e w' => e = .returned (.bool true) ∧ Below W.heap.size W w' := fun σ a h HH ha hr => by
      obtain ⟨h', N, hr⟩ := hr
      have := ((callN_sound mixed tab_ok N).func (hr N (Nat.le_refl N)) HH (Nat.le_refl _) (vs := #[.slice a0 len cap]) (by simp only [Rs]; exact ⟨_, _, rfl, ha, rfl⟩)).2
      refine this.mono fun e w' he => ?_
      obtain ⟨u, τ, rfl, h1, _, _, h4⟩ := he
      exact ⟨by rw [R_bool h1], h4.bel⟩
    rcases open_ints Try.underlying50 Try.underlying5 (by kernel_rfl) hf with ⟨hcs, _⟩ | ⟨a, len', cap', zs, hcs, _, hl, hm, hz, _, hcell, hwz⟩
    · simp [Value.cells] at hcs
      obtain ⟨rfl, rfl, rfl⟩ := hcs
      exact go _ .nilsl _ (HR.empty W) (by simp [R]) (f10 .nilsl [] _ (fun x hx => by simp at hx) (ArgK.nil))
    · simp [Value.cells] at hcs
      obtain ⟨rfl, rfl, rfl⟩ := hcs
      simp only [if_true] at hz
      by_cases hc0 : cap = 0
      · subst hc0
        have : len = 0 := by omega
        subst this
        exact go _ .esl _ (HR.empty W) (by simp only [R]; exact ⟨a, 0, rfl⟩) (f10 .esl [] _ (fun x hx => by simp at hx) (ArgK.esl))
      · obtain ⟨c, kk1, kk2, kk3⟩ := (HR.empty W).slice hl hz (by omega) hcell (fun j b h => by simp [lkB] at h)
        exact go _ _ _ kk1 kk3 (f10 _ (zs.take len) _ (fun x hx => by simp only [List.mem_singleton] at hx; subst hx; exact Nat.lt_succ_self _) (ArgK.sl (cap := cap) hl hz (by omega) hwz))
  have types : ∀ t ∈ Try.f10.params.toList, Try.prog.readableRec t = true ∧ t < Try.prog.types.size := by
    intro t ht
    rw [Try.params10] at ht
    simp only [List.mem_cons, List.not_mem_nil, or_false] at ht
    subst ht
    exact ⟨by kernel_rfl, of_decide_eq_true (by kernel_rfl)⟩
  refine fin.mono fun e W' he => ?_
  obtain ⟨rfl, hb⟩ := he
  exact ⟨_, rfl, law_post hW' rfl rfl (tb := 4) (by kernel_rfl) Try.underlying4 laidOut types hb⟩

set_option maxRecDepth 100000 in
theorem lifted (os : Os) (started : os.Started) (H : Type) (enc : TypeId × Value → H) :
    ReturnsInHanded {} Try.checked os 10 .any (Rows.echoExtendedSpec.pre6 enc Try.prog Try.f10 Rows.echoExtendedRow.domain false) (Rows.echoExtendedSpec.post enc Try.prog Try.f10 false true false false) := by
  refine returnsInHanded_of_change (C := Try.checked) own started (by kernel_rfl) Try.func10
    (ChangeSpec.witness6 (enc := enc) (C := Try.checked) false ⟨#[], #[.slice none 0 0], []⟩ 8 (by kernel_rfl) (by kernel_rfl) (by kernel_rfl) (by kernel_rfl)) ?_
  intro W base args ds gs before hval hW _ _
  exact contract H enc W base args ds gs before hval hW

/-- EchoExtended: the function returns true for every input. -/
theorem proved : Rows.EchoExtendedSaid :=
  OpenClaim.holds_of_wide 10 Try.f10 rfl rfl rfl rfl rfl rfl rfl ⟨rfl, rfl, rfl, rfl, rfl⟩ rfl rfl rfl rfl rfl (by kernel_rfl) Try.func10 (by kernel_rfl)
    (of_decide_eq_true (by kernel_rfl)) (by unfold Func.isWrapper; first | (rw [if_pos (by decide +kernel)]; kernel_rfl) | (rw [if_neg (by decide +kernel)]; exact ⟨rfl, rfl⟩))
    (fun os started H enc _ => lifted os started H enc)
end Go.Proofs.Ytogfojkjocbahaa.lawEchoExtended
