/- The numbers of ways, added up. -/
import Derived.Test.YtelalpohbodolaaDoorMF
set_option linter.unusedVariables false
set_option linter.unusedSimpArgs false
namespace Go.Wg
def cnV (l : List Int) (v : Nat) : Nat := (SS l).count (v : Int)
def cnA (l : List Int) (j : Nat) : Nat := ((List.range j).map fun v : Nat => (SS l).count (v : Int)).sum
def cnL (l : List Int) (j : Nat) : List Int := (List.range j).map fun v : Nat => ((cnV l v : Nat) : Int)
def cnM (l : List Int) : Nat → Int
  | 0 => 0
  | j + 1 => max (cnM l j) ((cnV l j : Nat) : Int)
theorem cnL_len (l : List Int) (j : Nat) : (cnL l j).length = j := by simp [cnL]
theorem cnL_suc (l : List Int) (j : Nat) : cnL l (j + 1) = cnL l j ++ [((cnV l j : Nat) : Int)] := by simp [cnL, List.range_succ]
theorem cnL_get {l : List Int} {j v : Nat} (h : v < j) : (cnL l j).getD v 0 = ((cnV l v : Nat) : Int) := by
  rw [List.getD_eq_getElem?_getD, List.getElem?_eq_getElem (by rw [cnL_len]; exact h), Option.getD_some]
  simp [cnL]
theorem cnA_suc (l : List Int) (j : Nat) : cnA l (j + 1) = cnA l j + cnV l j := by
  unfold cnA cnV
  rw [List.range_succ, List.map_append, List.sum_append]
  simp
theorem cnV_le (l : List Int) (v : Nat) : cnV l v ≤ 2 ^ l.length := by
  unfold cnV
  have := List.count_le_length (a := (v : Int)) (l := SS l)
  rw [SS_len] at this
  exact this
theorem cnA_le (l : List Int) : ∀ j, cnA l j ≤ 2 ^ l.length * j
  | 0 => by simp [cnA]
  | j + 1 => by
    have := cnA_le l j
    have := cnV_le l j
    rw [cnA_suc, Nat.mul_succ]
    omega
theorem cnA_all {l : List Int} {S : Nat} (h : ∀ a ∈ l, 0 ≤ a) (hS : l.sum = S) : cnA l (S + 1) = 2 ^ l.length := by
  unfold cnA
  rw [ways_sum (fun x hx => by have := SS_ge h x hx; omega), SS_len]
theorem cnV_compl {l : List Int} {S v : Nat} (hS : l.sum = S) (hv : v ≤ S) : cnV l v = cnV l (S - v) := by
  unfold cnV
  rw [count_compl, hS]
  congr 1
  omega
theorem cnM_le {l : List Int} : ∀ {j : Nat}, cnM l j ≤ 1 ↔ ∀ v, v < j → cnV l v ≤ 1
  | 0 => by simp [cnM]
  | j + 1 => by
    have ih := cnM_le (l := l) (j := j)
    rw [cnM]
    constructor
    · intro h v hv
      have h1 : cnM l j ≤ 1 := by omega
      have h2 := ih.1 h1
      rcases Nat.lt_or_ge v j with h3 | h3
      · exact h2 v h3
      · have : v = j := by omega
        subst this
        omega
    · intro h
      have h1 := ih.2 fun v hv => h v (by omega)
      have h2 := h j (by omega)
      omega
theorem cnM_bd (l : List Int) : ∀ j, 0 ≤ cnM l j ∧ cnM l j ≤ (2 ^ l.length : Nat)
  | 0 => by
    have := Nat.two_pow_pos l.length
    rw [cnM]
    omega
  | j + 1 => by
    have ih := cnM_bd l j
    have := cnV_le l j
    rw [cnM]
    omega
theorem most_iff {l : List Int} {S : Nat} (h : ∀ a ∈ l, 0 ≤ a) (hS : l.sum = S) : cnM l (S + 1) ≤ 1 ↔ Dist l := by
  rw [cnM_le]
  unfold Dist
  rw [nodup_count]
  constructor
  · intro hv v
    by_cases h1 : v ∈ SS l
    · have := SS_ge h v h1
      have h2 := hv v.toNat (by omega)
      unfold cnV at h2
      rw [show ((v.toNat : Nat) : Int) = v by omega] at h2
      exact h2
    · rw [List.count_eq_zero.2 h1]; omega
  · intro hv v _
    exact hv v
theorem rsL_sum_bd (zs : List Int) {m : Int} (hm : 0 < m) : ∀ k : Nat, 0 ≤ (rsL zs m k).sum ∧ (rsL zs m k).sum ≤ m * k * k
  | 0 => by simp [rsL]
  | k + 1 => by
    have ih := rsL_sum_bd zs hm k
    have h1 := sP_bd zs hm (k + 1)
    rw [rsL_suc, List.sum_append]
    have e : m * ((k + 1 : Nat) : Int) * ((k + 1 : Nat) : Int) = m * k * k + m * k + m * ((k + 1 : Nat) : Int) := by
      push_cast
      grind
    have h3 : 0 ≤ m * (k : Int) := Int.mul_nonneg (by omega) (by omega)
    rw [e]
    simp only [List.sum_cons, List.sum_nil]
    omega
end Go.Wg
