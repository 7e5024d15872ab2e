/- The statement WeighPans: it holds. -/
import Derived.Test.YtelalpohbodolaaDoorRows
import Derived.Test.YtelalpohbodolaaDoorCards
import Derived.Test.YtelalpohbodolaaDoorTie
import Derived.Test.YtelalpohbodolaaDoorVV
import Derived.Test.YtelalpohbodolaaDoorSO
import Derived.Test.YtelalpohbodolaaDoorGX
import Derived.ProofKit
import Derived.OpenShut
import Derived.LaidMore
import Derived.Lay
import Derived.SevenTiedAt
import Derived.Stop.Joined
import Derived.ChangeMaps5
import Derived.Test.YtelalpohbodolaaDoorL8
set_option linter.unusedSimpArgs false
set_option linter.unusedVariables false
namespace Go.Proofs.YtelalpohbodolaaDoor.lawWeighPans
open Go.ChangeShapes Go.WideShapes Go.ChangeAt Go.RowKit Go.Abs

theorem own : ownKnob Tryd.prog.godebug = none := by kernel_rfl
theorem laidOut : laidOutB Tryd.prog = true := by kernel_rfl

set_option maxRecDepth 100000 in
theorem contract (H : Type) (enc : TypeId × Value → H) (W : World) (base : Nat) (args : Array Value) (ds gs : List (DataW H)) (before : List MemPlace)
    (hval : ∀ (j : Nat) t v, Tryd.f5.params[j]? = some t → args[j]? = some v → Value.okWide Tryd.prog W .any base t v)
    (hW : DataW.Whole enc Tryd.prog Tryd.f5.params.toList Rows.weighPansSpec.vars false W args.toList ds gs before) (hG : GloW W) :
    Calls Tryd.prog 5 args W fun e W' => ∃ v, e = .returned v ∧ Rows.weighPansSpec.post enc Tryd.prog Tryd.f5 false true false false W args v W' := by
  have hW' := hW
  obtain ⟨p, q, hA0, hV, rfl, hfz, hnd⟩ := hW
  have hA : DataW.TrodAll enc Tryd.prog W 0 (fun _ => true) true Tryd.f5.params.toList args.toList ds p := hA0
  rw [Tryd.params5] at hA hval
  obtain ⟨v0, v1, d0, d1, p0, p1, rfl, rfl, rfl, h0, h1⟩ := trodAll_two hA
  obtain ⟨rfl, rfl⟩ := trodVars_none hV
  obtain ⟨a0, len0, cap0, rfl⟩ := okWide_slice Tryd.underlying22 (hval 0 22 v0 rfl rfl)
  obtain ⟨fuel0, hf0⟩ := h0
  obtain ⟨k1, rfl, rfl, hp1, wk1⟩ := open_int Tryd.underlying3 (hval 1 3 v1 rfl rfl) h1
  subst hp1
  have b1 : -9223372036854775808 ≤ k1 ∧ k1 ≤ 9223372036854775807 := by
    have := wk1
    simp [Lit.wf, IntKind.min, IntKind.max, IntKind.bits, IntKind.signed] at this
    omega
  have A : ArgH (fun _ => none) (below W.heap.size) ⟨0, [], [], 0, false⟩ W := ArgH.empty W hG
  obtain ⟨σ0, H0, x0, Z0, A0, e0, s0, r0, Q0⟩ := ArgH.rows (ks := [.i64]) Tryd.underlying22 (RowT.int Tryd.underlying3 (by kernel_rfl)) (by decide) hf0 A
  obtain ⟨l0, P0, B0, S0⟩ := Q0.ints
  replace B0 : ∀ k ∈ l0, -9223372036854775808 ≤ k ∧ k ≤ 9223372036854775807 := fun k hk => by have := B0 k hk; simp [Lit.wf, IntKind.min, IntKind.max, IntKind.bits, IntKind.signed] at this; omega
  have fin : Calls Tryd.prog 5 #[.slice a0 len0 cap0, .int .i64 k1] W fun e w' => e = .returned (.bool true) ∧ Below W.heap.size W w' := by
    obtain ⟨h', N, hr⟩ := f5 x0 l0 k1 _ A0.ok P0 B0 S0 b1
    have := ((callN_sound mixed tab_ok N).func (hr N (Nat.le_refl N)) A0.hr (below_fit (Nat.le_refl _) fun _ hh => hG.lt hh) (vs := #[.slice a0 len0 cap0, .int .i64 k1]) (by simp only [Rs]; exact ⟨_, _, rfl, r0, _, _, rfl, by simp [R], rfl⟩)).2
    refine this.mono fun e w' he => ?_
    obtain ⟨u, τ, rfl, h1, _, _, h4⟩ := he
    exact ⟨by rw [R_bool h1], h4.bel.below⟩
  have types : ∀ t ∈ Tryd.f5.params.toList, Tryd.prog.readableRec t = true ∧ t < Tryd.prog.types.size := by
    intro t ht
    rw [Tryd.params5] at ht
    simp only [List.mem_cons, List.not_mem_nil, or_false] at ht
    rcases ht with rfl | rfl <;> exact ⟨by kernel_rfl, of_decide_eq_true (by kernel_rfl)⟩
  refine fin.mono fun e W' he => ?_
  obtain ⟨rfl, hb⟩ := he
  exact ⟨_, rfl, law_post hW' rfl rfl (tb := 4) (by kernel_rfl) Tryd.underlying4 laidOut types hb⟩

set_option maxRecDepth 100000 in
theorem lifted (os : Os) (started : os.Started) (H : Type) (enc : TypeId × Value → H) :
    ReturnsInHanded {} Tryd.checked os 5 .any (fun w args => (Rows.weighPansSpec.pre enc Tryd.prog Tryd.f5 Rows.weighPansRow.domain false w args ∧ laidMetH Tryd.prog Rows.weighPansRow.laid w) ∧ sizedMet enc Tryd.prog Tryd.f5 (OpenSpec.ofChange Rows.weighPansSpec) false w args)
      (Rows.weighPansSpec.post enc Tryd.prog Tryd.f5 false true false false) := by
  refine returnsInHanded_of_change_and (C := Tryd.checked) (X := fun w _ => laidMetH Tryd.prog Rows.weighPansRow.laid w) (fun _ _ _ hh h => h.of_heap hh) own started (by kernel_rfl) Tryd.func5
    (ChangeSpec.witness_shaped (enc := enc) (C := Tryd.checked) (os := os) (X := fun w _ => laidMetH Tryd.prog Rows.weighPansRow.laid w) false (World.laidAll Tryd.prog os Rows.weighPansRow.laid) #[.slice none 0 0, .int .i64 1] 8 (World.laidAll_os _ _ _)
      (World.shaped_of_ZipB (by kernel_rfl) (by kernel_rfl)) (by kernel_rfl) (by kernel_rfl) (by kernel_rfl)
      (by rw [MakeChecks.laidMetH_plain _ _ _ (by kernel_rfl)]; exact laidMet_laidAll _ (by kernel_rfl) (by kernel_rfl))) ?_
  intro W base args ds gs before hval hW _ _ hX _
  rw [MakeChecks.laidMetH_plain _ _ _ (by kernel_rfl)] at hX
  exact contract H enc W base args ds gs before hval hW (glo_of hX)

/-- The row: the function returns true for every input. -/
theorem said : Rows.WeighPansSaid :=
  OpenClaim.holds_of_wide 5 Tryd.f5 rfl rfl rfl rfl rfl rfl rfl ⟨rfl, rfl, rfl, rfl, rfl⟩ rfl rfl rfl rfl rfl (by kernel_rfl) Tryd.func5 (by kernel_rfl)
    (of_decide_eq_true (by kernel_rfl)) (by unfold Func.isWrapper; first | (rw [if_pos (by decide +kernel)]; kernel_rfl) | (rw [if_neg (by decide +kernel)]; exact ⟨rfl, rfl⟩))
    (fun os started H enc _ => lifted os started H enc)

/-- WeighPans: the card: the function returns true for every input, where the library's tables are as the program's text lays them. -/
theorem proved : Rows.WeighPansCardSaid :=
  Claim7.holds_tied_plain_at .later [] _ _ _ _ said (fun _ h => by cases h) (by kernel_rfl) (fun _ h => by cases h) weighPans_row_tie rfl ⟨rfl, rfl⟩ (by kernel_rfl) rfl
    (fun f fn hf hfn => by
      obtain rfl : f = 5 := Option.some.inj ((show Tryd.prog.funcNamed "bellpull/bellpulllaw08.WeighPans" = some 5 by kernel_rfl).symm.trans hf) |>.symm
      obtain rfl : fn = Tryd.f5 := (Option.some.inj (Tryd.func5.symm.trans hfn)).symm
      exact ⟨by kernel_rfl, fun j t ht => by
        rw [Tryd.params5] at ht
        have hm : t ∈ [22, 3] := by simpa using Array.mem_of_getElem? ht
        have hall : ([22, 3].all fun u => !Tryd.prog.wantsStandIn u) = true := by kernel_rfl
        exact (show Tryd.prog.wantsStandIn t = false by simpa using List.all_eq_true.1 hall t hm)⟩)
    (by kernel_rfl)
end Go.Proofs.YtelalpohbodolaaDoor.lawWeighPans
