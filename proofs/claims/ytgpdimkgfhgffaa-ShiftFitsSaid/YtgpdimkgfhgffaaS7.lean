/- The reference's levels and colouring; what the laws make. -/
import Derived.Test.YtgpdimkgfhgffaaS6
set_option linter.unusedSimpArgs false
set_option linter.unusedVariables false
set_option maxHeartbeats 1000000

namespace Go.Sh

theorem lowU_len (l : List Span) (i : Nat) (out : List Int) (k : Int) (j : Nat) : (lowU l i out k j).length ≤ j + 1 := by
  have := uptoU_len k l out j
  simp [lowU]
  exact this
theorem rlF_bd (l : List Span) (i : Nat) (out : List Int) : ∀ (n : Nat) (k : Int), k ≤ rlF l i out n k ∧ rlF l i out n k ≤ k + n
  | 0, k => by simp [rlF]
  | n + 1, k => by
    simp only [rlF]
    split
    · omega
    · have := rlF_bd l i out n (k + 1)
      omega
theorem rlU_bd (l : List Span) : ∀ i, ∀ x ∈ rlU l i, 1 ≤ x ∧ x ≤ i + 3
  | 0, x, h => by simp [rlU] at h
  | i + 1, x, h => by
    simp only [rlU, List.mem_append, List.mem_singleton] at h
    rcases h with h | rfl
    · have := rlU_bd l i x h
      omega
    · have := rlF_bd l i (rlU l i) (i + 2) 1
      omega
/-- Intervals out of arbitrary numbers. -/
def madeU (place : Int) (x : List (Int × Int)) : Nat → List Span
  | 0 => []
  | i + 1 => let a := (x.getD i (0, 0)).1 % (place + 1); let c := (x.getD i (0, 0)).2 % (place + 1); if a ≠ c then madeU place x i ++ [(min a c, max a c)] else madeU place x i
def made (place : Int) (x : List (Int × Int)) : List Span := madeU place x (min x.length 40)
theorem madeU_len (place : Int) (x : List (Int × Int)) : ∀ i, (madeU place x i).length ≤ i
  | 0 => by simp [madeU]
  | i + 1 => by
    have := madeU_len place x i
    simp only [madeU]
    split
    · simp; omega
    · omega
theorem madeU_ok {place : Int} (hp : 0 ≤ place ∧ place ≤ 1000) (x : List (Int × Int)) : ∀ i, ∀ s ∈ madeU place x i, 0 ≤ s.1 ∧ s.1 < s.2 ∧ s.2 ≤ place
  | 0, s, h => by simp [madeU] at h
  | i + 1, s, h => by
    simp only [madeU] at h
    have h1 := Int.emod_nonneg (x.getD i (0, 0)).1 (show place + 1 ≠ 0 by omega)
    have h2 := Int.emod_lt_of_pos (x.getD i (0, 0)).1 (show 0 < place + 1 by omega)
    have h3 := Int.emod_nonneg (x.getD i (0, 0)).2 (show place + 1 ≠ 0 by omega)
    have h4 := Int.emod_lt_of_pos (x.getD i (0, 0)).2 (show 0 < place + 1 by omega)
    split at h
    · rcases List.mem_append.1 h with h | h
      · exact madeU_ok hp x i s h
      · simp only [List.mem_singleton] at h
        subst h
        simp only
        omega
    · exact madeU_ok hp x i s h
theorem made_len (place : Int) (x : List (Int × Int)) : (made place x).length ≤ 40 := by
  have := madeU_len place x (min x.length 40)
  unfold made
  omega
theorem made_bad {place : Int} (hp : 0 ≤ place ∧ place ≤ 1000) (x : List (Int × Int)) : bad (made place x) = 0 := by
  have := made_len place x
  rw [bad, if_neg (by omega), if_pos]
  rw [List.all_eq_true]
  intro s hs
  have := madeU_ok hp x _ s hs
  simp [okS]
  omega
/-- The different numbers among the first ones, and the greatest one plus 1. -/
def seenU (l : List Int) : Nat → List Int
  | 0 => []
  | i + 1 => if l.getD i 0 ∈ seenU l i then seenU l i else seenU l i ++ [l.getD i 0]
def topU (l : List Int) : Nat → Int
  | 0 => 0
  | i + 1 => max (topU l i) (l.getD i 0 + 1)
theorem seenU_len (l : List Int) : ∀ i, (seenU l i).length ≤ i
  | 0 => by simp [seenU]
  | i + 1 => by
    have := seenU_len l i
    simp only [seenU]
    split
    · omega
    · simp; omega

end Go.Sh


namespace Go.Proofs.Ytgpdimkgfhgffaa

open Go Go.Abs Go.Sh

end Go.Proofs.Ytgpdimkgfhgffaa

