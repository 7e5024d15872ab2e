/- The document's examples. -/
import Derived.Test.YtihadgkgogfhcaaRE
set_option linter.unusedSimpArgs false
set_option linter.unusedVariables false
namespace Go.Ro
open Go.Pa
instance decBef : ∀ xs ys : List Int, Decidable (bef xs ys)
  | x :: xs, y :: ys => have := decBef xs ys; inferInstanceAs (Decidable (x < y ∨ (x = y ∧ bef xs ys)))
  | [], _ => .isFalse (by simp [bef])
  | _ :: _, [] => .isFalse (by simp [bef])
def four : List (List Int) := [0, 1, 2, 3].flatMap fun a => [0, 1, 2, 3].flatMap fun b => [0, 1, 2, 3].flatMap fun c => [0, 1, 2, 3].map fun d => [a, b, c, d]
theorem mem_four {ys : List Int} (h : PermI 4 ys) : ys ∈ four := by
  have hl := h.1
  match ys, hl, h.2.1 with
  | [a, b, c, d], _, hr =>
    have r : ∀ x : Int, 0 ≤ x ∧ x < 4 → x ∈ ([0, 1, 2, 3] : List Int) := fun x hx => by simp; omega
    exact List.mem_flatMap.2 ⟨a, r a (hr a (by simp)), List.mem_flatMap.2 ⟨b, r b (hr b (by simp)), List.mem_flatMap.2 ⟨c, r c (hr c (by simp)), List.mem_map.2 ⟨d, r d (hr d (by simp)), rfl⟩⟩⟩⟩
  | [], hl, _ => simp at hl
  | [_], hl, _ => simp at hl
  | [_, _], hl, _ => simp at hl
  | [_, _, _], hl, _ => simp at hl
  | _ :: _ :: _ :: _ :: _ :: _, hl, _ => simp at hl; omega
theorem least_four {c : List Int → Int} {v : Int} {zs : List Int} (hp : PermI 4 zs) (hc : c zs = v) (h : four.all (fun ys => !decide (PermI 4 ys) || (decide (v ≤ c ys) && (!decide (c ys = v) || !decide (bef ys zs)))) = true) : Least 4 c v zs := by
  have key : ∀ ys, PermI 4 ys → v ≤ c ys ∧ (c ys = v → ¬ bef ys zs) := fun ys hy => by
    have := List.all_eq_true.1 h ys (mem_four hy)
    simp only [Bool.or_eq_true, Bool.not_eq_true', decide_eq_false_iff_not, Bool.and_eq_true, decide_eq_true_eq] at this
    rcases this with h | ⟨h1, h2⟩
    · exact absurd hy h
    · exact ⟨h1, fun e => h2.resolve_left fun h => h e⟩
  exact ⟨hp, trivial, hc, fun ys hy _ => (key ys hy).1, fun ys hy _ => (key ys hy).2⟩
def star : List (Int × Int) := [(0, 1), (0, 2), (0, 3)]
def ring : List (Int × Int) := [(0, 1), (1, 2), (2, 3), (3, 0)]
instance (n : Nat) (E : List (Int × Int)) : Decidable (EdgeOK n E) := inferInstanceAs (Decidable (∀ e ∈ E, _))
theorem star_ok : EdgeOK 4 star := by decide
theorem ring_ok : EdgeOK 4 ring := by decide
theorem star_band : Least 4 (cBand star) 2 [1, 0, 2, 3] := least_four (by decide) (by decide) (by decide +kernel)
theorem star_cut : Least 4 (cCut star) 2 [1, 0, 2, 3] := least_four (by decide) (by decide) (by decide +kernel)
theorem star_sum : Least 4 (cSum star) 4 [1, 0, 2, 3] := least_four (by decide) (by decide) (by decide +kernel)
theorem star_m : cBand star [0, 1, 2, 3] = 3 ∧ cCut star [0, 1, 2, 3] = 3 ∧ cSum star [0, 1, 2, 3] = 6 := by decide
theorem ring_dia : gdAll (fw (M1 ring 4) 4 4) 4 4 = 2 := by decide +kernel
theorem ring_most : mxN ring 4 4 = 2 := by decide +kernel
end Go.Ro
