/- The statement RouteBounds: it holds. -/
import Derived.Test.YtihadgkgogfhcaaRows
import Derived.Test.YtihadgkgogfhcaaVV
import Derived.Test.YtihadgkgogfhcaaSO
import Derived.Test.YtihadgkgogfhcaaUB
set_option linter.unusedSimpArgs false
set_option linter.unusedVariables false
namespace Go.Proofs.Ytihadgkgogfhcaa.lawRouteBounds
open Go.ChangeShapes Go.WideShapes Go.ChangeAt Go.RowKit Go.Abs

theorem own : ownKnob Try.prog.godebug = none := by kernel_rfl
theorem laidOut : laidOutB Try.prog = true := by kernel_rfl

set_option maxRecDepth 100000 in
theorem contract (H : Type) (enc : TypeId × Value → H) (W : World) (base : Nat) (args : Array Value) (ds gs : List (DataW H)) (before : List MemPlace)
    (hval : ∀ (j : Nat) t v, Try.f5.params[j]? = some t → args[j]? = some v → Value.okWide Try.prog W .any base t v)
    (hW : DataW.Whole enc Try.prog Try.f5.params.toList Rows.routeBoundsSpec.vars false W args.toList ds gs before) :
    Calls Try.prog 5 args W fun e W' => ∃ v, e = .returned v ∧ Rows.routeBoundsSpec.post enc Try.prog Try.f5 false true false false W args v W' := by
  have hW' := hW
  obtain ⟨p, q, hA0, hV, rfl, hfz, hnd⟩ := hW
  have hA : DataW.TrodAll enc Try.prog W 0 (fun _ => true) true Try.f5.params.toList args.toList ds p := hA0
  rw [Try.params5] at hA hval
  obtain ⟨v0, v1, v2, d0, d1, d2, p0, p1, p2, rfl, rfl, rfl, h0, h1, h2⟩ := trodAll_three hA
  obtain ⟨rfl, rfl⟩ := trodVars_none hV
  obtain ⟨k0, rfl, rfl, hp0, wk0⟩ := open_int Try.underlying3 (hval 0 3 v0 rfl rfl) h0
  subst hp0
  have b0 : -9223372036854775808 ≤ k0 ∧ k0 ≤ 9223372036854775807 := by
    have := wk0
    simp [Lit.wf, IntKind.min, IntKind.max, IntKind.bits, IntKind.signed] at this
    omega
  obtain ⟨a1, len1, cap1, rfl⟩ := okWide_slice Try.underlying22 (hval 1 22 v1 rfl rfl)
  obtain ⟨fuel1, hf1⟩ := h1
  obtain ⟨a2, len2, cap2, rfl⟩ := okWide_slice Try.underlying23 (hval 2 23 v2 rfl rfl)
  obtain ⟨fuel2, hf2⟩ := h2
  have A : ArgH (fun _ => none) (below W.heap.size) ⟨0, [], [], 0, false⟩ W := ArgH.empty W
  obtain ⟨σ1, H1, x1, Z1, A1, e1, s1, r1, Q1⟩ := ArgH.rows (ks := [.i64, .i64]) Try.underlying22 (RowT.pair Try.underlying62 (by kernel_rfl) (by kernel_rfl) (by kernel_rfl) (by kernel_rfl) (by kernel_rfl) (by kernel_rfl) (by kernel_rfl)) (by decide) hf1 A
  obtain ⟨σ2, H2, x2, Z2, A2, e2, s2, r2, Q2⟩ := ArgH.rows (ks := [.i64]) Try.underlying23 (RowT.int Try.underlying3 (by kernel_rfl)) (by decide) hf2 A1
  replace r1 := r1.ext e2
  replace Q1 := Q1.sub s2
  obtain ⟨l1, P1, S1⟩ := Q1.pairs
  obtain ⟨l2, P2, B2, S2⟩ := Q2.ints
  replace B2 : ∀ k ∈ l2, -9223372036854775808 ≤ k ∧ k ≤ 9223372036854775807 := fun k hk => by have := B2 k hk; simp [Lit.wf, IntKind.min, IntKind.max, IntKind.bits, IntKind.signed] at this; omega
  have fin : Calls Try.prog 5 #[.int .i64 k0, .slice a1 len1 cap1, .slice a2 len2 cap2] W fun e w' => e = .returned (.bool true) ∧ Below W.heap.size W w' := by
    obtain ⟨h', N, hr⟩ := f5 k0 x1 l1 x2 l2 _ A2.ok b0 P1 S1 P2 B2 S2
    have := ((callN_sound mixed tab_ok N).func (hr N (Nat.le_refl N)) A2.hr (below_fit (Nat.le_refl _)) (vs := #[.int .i64 k0, .slice a1 len1 cap1, .slice a2 len2 cap2]) (by simp only [Rs]; exact ⟨_, _, rfl, by simp [R], _, _, rfl, r1, _, _, rfl, r2, rfl⟩)).2
    refine this.mono fun e w' he => ?_
    obtain ⟨u, τ, rfl, h1, _, _, h4⟩ := he
    exact ⟨by rw [R_bool h1], h4.bel.below⟩
  have types : ∀ t ∈ Try.f5.params.toList, Try.prog.readableRec t = true ∧ t < Try.prog.types.size := by
    intro t ht
    rw [Try.params5] at ht
    simp only [List.mem_cons, List.not_mem_nil, or_false] at ht
    rcases ht with rfl | rfl | rfl <;> exact ⟨by kernel_rfl, of_decide_eq_true (by kernel_rfl)⟩
  refine fin.mono fun e W' he => ?_
  obtain ⟨rfl, hb⟩ := he
  exact ⟨_, rfl, law_post hW' rfl rfl (tb := 4) (by kernel_rfl) Try.underlying4 laidOut types hb⟩

set_option maxRecDepth 100000 in
theorem lifted (os : Os) (started : os.Started) (H : Type) (enc : TypeId × Value → H) :
    ReturnsInHanded {} Try.checked os 5 .any (Rows.routeBoundsSpec.pre6 enc Try.prog Try.f5 Rows.routeBoundsRow.domain false) (Rows.routeBoundsSpec.post enc Try.prog Try.f5 false true false false) := by
  refine returnsInHanded_of_change (C := Try.checked) own started (by kernel_rfl) Try.func5
    (ChangeSpec.witness6 (enc := enc) (C := Try.checked) false ⟨#[], #[.int .i64 1, .slice none 0 0, .slice none 0 0], []⟩ 8 (by kernel_rfl) (by kernel_rfl) (by kernel_rfl) (by kernel_rfl)) ?_
  intro W base args ds gs before hval hW _ _
  exact contract H enc W base args ds gs before hval hW

/-- RouteBounds: the function returns true for every input. -/
theorem proved : Rows.RouteBoundsSaid :=
  OpenClaim.holds_of_wide 5 Try.f5 rfl rfl rfl rfl rfl rfl rfl ⟨rfl, rfl, rfl, rfl, rfl⟩ rfl rfl rfl rfl rfl (by kernel_rfl) Try.func5 (by kernel_rfl)
    (of_decide_eq_true (by kernel_rfl)) (by unfold Func.isWrapper; first | (rw [if_pos (by decide +kernel)]; kernel_rfl) | (rw [if_neg (by decide +kernel)]; exact ⟨rfl, rfl⟩))
    (fun os started H enc _ => lifted os started H enc)
end Go.Proofs.Ytihadgkgogfhcaa.lawRouteBounds
