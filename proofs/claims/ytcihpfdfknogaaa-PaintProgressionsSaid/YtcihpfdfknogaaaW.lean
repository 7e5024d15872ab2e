/- The statement of PaintProgressions out of the interpreter's run. -/
import Derived.Test.YtcihpfdfknogaaaRows
import Derived.Test.YtcihpfdfknogaaaV
import Derived.Test.YtcihpfdfknogaaaSO
import Derived.Test.YtcihpfdfknogaaaT4
namespace Go.Proofs.Ytcihpfdfknogaaa
open Go.ChangeShapes Go.WideShapes Go.ChangeAt Go.RowKit Go.Abs

theorem own : ownKnob Try.prog.godebug = none := by kernel_rfl
theorem laidOut : laidOutB Try.prog = true := by kernel_rfl

theorem prog_run (k : Int) (a : AV) (zs : List Int) (h : Hp) (hok : Hok h) (A : Arg h.blks a zs) : ∃ n h', callN Try.prog tab false n n (.func 6) [a, .int .i64 k] h = some (.bool true, h') := by
  obtain ⟨h', N, hN⟩ := f6 a zs k h hok A
  exact ⟨N, h', hN N (Nat.le_refl N)⟩

theorem contract (H : Type) (enc : TypeId × Value → H) (W : World) (base : Nat) (args : Array Value) (ds gs : List (DataW H)) (before : List MemPlace)
    (hval : ∀ (j : Nat) t v, Try.f6.params[j]? = some t → args[j]? = some v → Value.okWide Try.prog W .any base t v)
    (hW : DataW.Whole enc Try.prog Try.f6.params.toList Rows.paintProgressionsSpec.vars false W args.toList ds gs before) :
    Calls Try.prog 6 args W fun e W' => ∃ v, e = .returned v ∧ Rows.paintProgressionsSpec.post enc Try.prog Try.f6 false true false false W args v W' := by
  have hW' := hW
  obtain ⟨p, q, hA0, hV, rfl, hfz, hnd⟩ := hW
  have hA : DataW.TrodAll enc Try.prog W 0 (fun _ => true) true Try.f6.params.toList args.toList ds p := hA0
  rw [Try.params6] at hA hval
  obtain ⟨v0, v1, d0, d1, p0, p1, rfl, rfl, rfl, h0, h1⟩ := trodAll_two hA
  obtain ⟨rfl, rfl⟩ := trodVars_none hV
  obtain ⟨k, rfl, rfl, rfl, wk⟩ := open_int Try.underlying3 (hval 1 3 v1 rfl rfl) h1
  obtain ⟨a0, len, cap, rfl⟩ := okWide_slice Try.underlying22 (hval 0 22 v0 rfl rfl)
  obtain ⟨fuel, hf⟩ := h0
  -- the walk
  have fin : Calls Try.prog 6 #[.slice a0 len cap, .int .i64 k] W fun e w' => e = .returned (.bool true) ∧ Below W.heap.size W w' := by
    have go : ∀ (σ : Env) (a : AV) (h : Hp), HR σ W.heap.size h W → R σ a (.slice a0 len cap) → (∃ n h', callN Try.prog tab false n n (.func 6) [a, .int .i64 k] h = some (.bool true, h')) →
        Calls Try.prog 6 #[.slice a0 len cap, .int .i64 k] W fun e w' => e = .returned (.bool true) ∧ Below W.heap.size W w' := fun σ a h HH ha hr => by
      obtain ⟨n, h', hr⟩ := hr
      have := ((callN_sound mixed tab_ok n).func hr HH (Nat.le_refl _) (vs := #[.slice a0 len cap, .int .i64 k]) (by simp only [Rs]; exact ⟨_, _, rfl, ha, _, _, rfl, by simp [R], rfl⟩)).2
      refine this.mono fun e w' he => ?_
      obtain ⟨u, τ, rfl, h1, _, _, h4⟩ := he
      exact ⟨by rw [R_bool h1], h4.bel⟩
    rcases open_ints Try.underlying22 Try.underlying3 (by kernel_rfl) hf with ⟨hcs, _⟩ | ⟨a, len', cap', zs, hcs, _, hl, hm, hz, _, hcell, hwz⟩
    · simp [Value.cells] at hcs
      obtain ⟨rfl, rfl, rfl⟩ := hcs
      exact go _ .nilsl _ (HR.empty W) (by simp [R]) (prog_run k .nilsl [] _ (fun x hx => by simp at hx) (.inl ⟨rfl, rfl⟩))
    · simp [Value.cells] at hcs
      obtain ⟨rfl, rfl, rfl⟩ := hcs
      simp only [if_true] at hz
      by_cases hc0 : cap = 0
      · subst hc0
        have : len = 0 := by omega
        subst this
        exact go _ .esl _ (HR.empty W) (by simp only [R]; exact ⟨a, rfl⟩) (prog_run k .esl [] _ (fun x hx => by simp at hx) (.inr (.inl ⟨rfl, rfl⟩)))
      · obtain ⟨c, k1, k2, k3⟩ := (HR.empty W).slice hl hz (by omega) hcell (fun j b h => by simp [lkB] at h)
        have hlz : (zs.take len).length = len := by simp; omega
        refine go _ _ _ k1 k3 (prog_run k _ (zs.take len) _ (fun x hx => ?_) (.inr (.inr ⟨0, cap, by rw [hlz], by omega, by omega, fun i hi => ?_⟩)))
        · simp only [List.mem_singleton] at hx
          subst hx
          exact Nat.lt_succ_self _
        · rw [hlz] at hi
          simp only [cellB, lkB, Nat.beq_refl, cond_true, Option.bind_some, Go.Abs.ints, List.getElem?_map, List.getD_eq_getElem?_getD]
          rw [List.getElem?_take_of_lt hi, List.getElem?_eq_getElem (by omega)]
          rfl
  have types : ∀ t ∈ Try.f6.params.toList, Try.prog.readableRec t = true ∧ t < Try.prog.types.size := by
    intro t ht
    rw [Try.params6] at ht
    simp only [List.mem_cons, List.not_mem_nil, or_false] at ht
    rcases ht with rfl | rfl <;> exact ⟨by kernel_rfl, of_decide_eq_true (by kernel_rfl)⟩
  refine fin.mono fun e W' he => ?_
  obtain ⟨rfl, hb⟩ := he
  exact ⟨_, rfl, law_post hW' rfl rfl (tb := 4) (by kernel_rfl) Try.underlying4 laidOut types hb⟩

set_option maxRecDepth 100000 in
theorem lifted (os : Os) (started : os.Started) (H : Type) (enc : TypeId × Value → H) :
    ReturnsInHanded {} Try.checked os 6 .any (Rows.paintProgressionsSpec.pre6 enc Try.prog Try.f6 Rows.paintProgressionsRow.domain false) (Rows.paintProgressionsSpec.post enc Try.prog Try.f6 false true false false) := by
  refine returnsInHanded_of_change (C := Try.checked) own started (by kernel_rfl) Try.func6
    (ChangeSpec.witness6 (enc := enc) (C := Try.checked) false ⟨#[], #[.slice none 0 0, .int .i64 0], []⟩ 8 (by kernel_rfl) (by kernel_rfl) (by kernel_rfl) (by kernel_rfl)) ?_
  intro W base args ds gs before hval hW _ _
  exact contract H enc W base args ds gs before hval hW

theorem paintProgressions_holds : Rows.PaintProgressionsSaid :=
  OpenClaim.holds_of_wide 6 Try.f6 rfl rfl rfl rfl rfl rfl rfl ⟨rfl, rfl, rfl, rfl, rfl⟩ rfl rfl rfl rfl rfl (by kernel_rfl) Try.func6 (by kernel_rfl)
    (of_decide_eq_true (by kernel_rfl)) (by unfold Func.isWrapper; first | (rw [if_pos (by decide +kernel)]; kernel_rfl) | (rw [if_neg (by decide +kernel)]; exact ⟨rfl, rfl⟩))
    (fun os started H enc _ => lifted os started H enc)
end Go.Proofs.Ytcihpfdfknogaaa
