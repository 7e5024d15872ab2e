/- Laws of shift: depths, the deepest place. -/
import Derived.Test.YtgpdimkgfhgffaaS12
set_option linter.unusedSimpArgs false
set_option linter.unusedVariables false
set_option maxHeartbeats 4000000
set_option maxRecDepth 20000

namespace Go.Sh

theorem arU_cnt (p : Int) (l : List Span) : ∀ n, ((arU p l n).length : Int) = cntU l p n
  | 0 => rfl
  | n + 1 => by
    have := arU_cnt p l n
    simp only [arU, cntU]
    split
    · simp; omega
    · exact this
theorem getD_last {zs : List Int} {z : Int} {m : Nat} (h : m = zs.length) : (zs ++ [z]).getD m 0 = z := by
  subst h
  simp [List.getD_eq_getElem?_getD]
theorem getD_left {zs : List Int} {z : Int} {m : Nat} (h : m < zs.length) : (zs ++ [z]).getD m 0 = zs.getD m 0 := by
  simp [List.getD_eq_getElem?_getD, List.getElem?_append_left h]
theorem arU_get (p : Int) (l : List Span) : ∀ n m, m < (arU p l n).length → ∃ j : Nat, (arU p l n).getD m 0 = (j : Int) ∧ j < n ∧ ins (sg l j) p = true
  | 0, m, h => by simp [arU] at h
  | n + 1, m, h => by
    simp only [arU] at h ⊢
    by_cases e : ins (sg l n) p = true
    · rw [if_pos e] at h ⊢
      by_cases e2 : m < (arU p l n).length
      · obtain ⟨j, h1, h2, h3⟩ := arU_get p l n m e2
        exact ⟨j, by rw [getD_left e2, h1], by omega, h3⟩
      · have hm : m = (arU p l n).length := by simp at h; omega
        exact ⟨n, getD_last hm, by omega, e⟩
    · rw [if_neg e] at h ⊢
      obtain ⟨j, h1, h2, h3⟩ := arU_get p l n m h
      exact ⟨j, h1, by omega, h3⟩
theorem arU_rise (p : Int) (l : List Span) : ∀ n m, m + 1 < (arU p l n).length → (arU p l n).getD m 0 < (arU p l n).getD (m + 1) 0
  | 0, m, h => by simp [arU] at h
  | n + 1, m, h => by
    simp only [arU] at h ⊢
    by_cases e : ins (sg l n) p = true
    · rw [if_pos e] at h ⊢
      by_cases e2 : m + 1 < (arU p l n).length
      · rw [getD_left e2, getD_left (by omega)]
        exact arU_rise p l n m e2
      · have hm : m + 1 = (arU p l n).length := by simp at h; omega
        rw [getD_last hm, getD_left (by omega)]
        obtain ⟨j, h1, h2, h3⟩ := arU_get p l n m (by omega)
        omega
    · rw [if_neg e] at h ⊢
      exact arU_rise p l n m h
theorem deep_nil : (deep []).2 = 0 := rfl

end Go.Sh

