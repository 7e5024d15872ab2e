/- The numbers of settings of all permutations: their sum. -/
import Derived.Test.YtbomimhfldmlbaaDoorPP
import Derived.Test.YtbomimhfldmlbaaDoorL7
set_option linter.unusedSimpArgs false
set_option linter.unusedVariables false
namespace Go.Pa
set_option maxRecDepth 100000
def wy (k p : Nat) : Nat := waysN k (ofN (nq p (2 ^ k))) (2 ^ swc k)
def sumW (k : Nat) : Nat → Nat
  | 0 => 0
  | p + 1 => sumW k p + wy k p
theorem sumW1 : sumW 1 2 = 2 := by decide +kernel
theorem sumW2 : sumW 2 24 = 64 := by decide +kernel
theorem posW1 : ((List.range 2).all fun p => decide (1 ≤ wy 1 p)) = true := by decide +kernel
theorem posW2 : ((List.range 24).all fun p => decide (1 ≤ wy 2 p)) = true := by decide +kernel
theorem sumW_fin {k : Nat} (h : 1 ≤ k ∧ k ≤ 2) : sumW k (fct (2 ^ k)) = 2 ^ swc k := by
  have : k = 1 ∨ k = 2 := by omega
  rcases this with rfl | rfl
  · rw [show fct (2 ^ 1) = 2 by decide, sumW1]; decide
  · rw [show fct (2 ^ 2) = 24 by decide, sumW2]; decide
theorem posW {k p : Nat} (h : 1 ≤ k ∧ k ≤ 2) (hp : p < fct (2 ^ k)) : 1 ≤ wy k p := by
  have : k = 1 ∨ k = 2 := by omega
  rcases this with rfl | rfl
  · rw [show fct (2 ^ 1) = 2 by decide] at hp
    exact of_decide_eq_true (List.all_eq_true.1 posW1 p (List.mem_range.2 hp))
  · rw [show fct (2 ^ 2) = 24 by decide] at hp
    exact of_decide_eq_true (List.all_eq_true.1 posW2 p (List.mem_range.2 hp))
theorem sumW_le {k : Nat} : ∀ p, sumW k p ≤ p * 2 ^ swc k
  | 0 => by simp [sumW]
  | p + 1 => by
    have h1 := sumW_le (k := k) p
    have h2 : wy k p ≤ 2 ^ swc k := waysN_le _
    rw [sumW, Nat.succ_mul]
    omega
end Go.Pa
