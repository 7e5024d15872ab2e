/- Permutations, as lists of numbers. -/
set_option linter.unusedSimpArgs false
set_option linter.unusedVariables false
namespace Go.Pa
/- A permutation, as a list of numbers. -/
def PermI (w : Int) (zs : List Int) : Prop := (zs.length : Int) = w ∧ (∀ z ∈ zs, 0 ≤ z ∧ z < w) ∧ zs.Nodup
instance (w : Int) (zs : List Int) : Decidable (PermI w zs) := inferInstanceAs (Decidable (_ ∧ _))
/- The first numbers are in the range, and different. -/
def PreP (w : Int) (zs : List Int) (i : Nat) : Prop := (∀ z ∈ zs.take i, 0 ≤ z ∧ z < w) ∧ (zs.take i).Nodup
theorem getD_at {zs : List Int} {i : Nat} (h : i < zs.length) : zs.getD i 0 = zs[i] := by simp [List.getD_eq_getElem?_getD, List.getElem?_eq_getElem h]
theorem PreP.next {w : Int} {zs : List Int} {i : Nat} (H : PreP w zs i) (h : i < zs.length) (h1 : 0 ≤ zs.getD i 0 ∧ zs.getD i 0 < w) (h2 : zs.getD i 0 ∉ zs.take i) : PreP w zs (i + 1) := by
  rw [getD_at h] at h1 h2
  refine ⟨fun z hz => ?_, ?_⟩
  · rw [List.take_succ_eq_append_getElem h, List.mem_append, List.mem_singleton] at hz
    rcases hz with hz | rfl
    · exact H.1 z hz
    · exact h1
  · rw [List.take_succ_eq_append_getElem h, List.nodup_append]
    refine ⟨H.2, by simp, fun x hx y hy e => ?_⟩
    rw [List.mem_singleton] at hy
    subst hy
    subst e
    exact h2 hx
theorem not_perm1 {w : Int} {zs : List Int} {i : Nat} (h : i < zs.length) (h1 : ¬ (0 ≤ zs.getD i 0 ∧ zs.getD i 0 < w)) : ¬ PermI w zs := fun H => by
  rw [getD_at h] at h1
  exact h1 (H.2.1 _ (List.getElem_mem h))
theorem not_perm2 {w : Int} {zs : List Int} {i : Nat} (h : i < zs.length) (h2 : zs.getD i 0 ∈ zs.take i) : ¬ PermI w zs := fun H => by
  rw [getD_at h] at h2
  have := H.2.2.sublist (List.take_sublist (i + 1) zs)
  rw [List.take_succ_eq_append_getElem h, List.nodup_append] at this
  exact this.2.2 _ h2 _ (by simp) rfl
end Go.Pa
