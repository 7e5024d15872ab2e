/- Run lengths: what they mean; the law EchoLengths. -/
import Derived.Test.YtogfojkjocbahaaE3
set_option linter.unusedSimpArgs false
set_option linter.unusedVariables false
set_option maxHeartbeats 2000000
namespace Go.Proofs.Ytogfojkjocbahaa
open Go Go.Abs

/-- Where run i begins. -/
def begAt (r : List Int) (i : Nat) : Nat := (r.take i).sum.toNat

def IsRuns (zs r : List Int) (n : Nat) : Prop :=
  (∀ x ∈ r, 1 ≤ x) ∧ r.sum = n ∧ ∀ i, i < r.length → (∀ k : Nat, (k : Int) < r.getD i 0 → zs.getD (begAt r i + k) 0 = zs.getD (begAt r i) 0) ∧ (0 < i → zs.getD (begAt r i) 0 ≠ zs.getD (begAt r i - 1) 0)

theorem sum_nonneg {r : List Int} (h : ∀ x ∈ r, 1 ≤ x) : 0 ≤ r.sum := by
  induction r with
  | nil => simp
  | cons a l ih =>
    have := h a (by simp)
    have := ih fun x hx => h x (by simp [hx])
    simp only [List.sum_cons]
    omega

theorem begAt_app {r : List Int} {c : Int} {i : Nat} (h : i ≤ r.length) : begAt (r ++ [c]) i = begAt r i := by
  unfold begAt
  rw [List.take_append_of_le_length h]

theorem begAt_all (r : List Int) : begAt r r.length = r.sum.toNat := by
  unfold begAt
  rw [List.take_length]

theorem isRuns_app {zs r : List Int} {n : Nat} (H : IsRuns zs r n) (h : n = 0 ∨ zs.getD n 0 ≠ zs.getD (n - 1) 0) : IsRuns zs (r ++ [1]) (n + 1) := by
  obtain ⟨h1, h2, h3⟩ := H
  refine ⟨fun x hx => ?_, by simp [h2], fun i hi => ?_⟩
  · rcases List.mem_append.1 hx with hx | hx
    · exact h1 x hx
    · simp at hx; omega
  · simp only [List.length_append, List.length_singleton] at hi
    rw [begAt_app (by omega)]
    by_cases hl : i < r.length
    · have := h3 i hl
      rw [show (r ++ [(1 : Int)]).getD i 0 = r.getD i 0 by simp [List.getD_eq_getElem?_getD, List.getElem?_append_left hl]]
      exact this
    · have : i = r.length := by omega
      subst this
      rw [begAt_all, h2, Int.toNat_natCast]
      refine ⟨fun k hk => ?_, fun hp => ?_⟩
      · have : k = 0 := by
          simp [List.getD_eq_getElem?_getD] at hk
          omega
        subst this
        simp
      · rcases h with h | h
        · exfalso
          subst h
          have hs := h1 _ (getD_mem hp)
          cases r with
          | nil => simp at hp
          | cons a l =>
            have := sum_nonneg fun x hx => h1 x (List.mem_cons_of_mem a hx)
            have := h1 a (by simp)
            simp only [List.sum_cons] at h2
            omega
        · exact h

theorem isRuns_inc {zs r : List Int} {c : Int} {n : Nat} (H : IsRuns zs (r ++ [c]) n) (h : zs.getD n 0 = zs.getD (n - 1) 0) : IsRuns zs (r ++ [c + 1]) (n + 1) := by
  obtain ⟨h1, h2, h3⟩ := H
  have hc := h1 c (by simp)
  have hr : ∀ x ∈ r, 1 ≤ x := fun x hx => h1 x (by simp [hx])
  have hs := sum_nonneg hr
  simp only [List.sum_append, List.sum_cons, List.sum_nil] at h2
  refine ⟨fun x hx => ?_, by simp; omega, fun i hi => ?_⟩
  · rcases List.mem_append.1 hx with hx | hx
    · exact hr x hx
    · simp at hx; omega
  · simp only [List.length_append, List.length_singleton] at hi
    have := h3 i (by simp; omega)
    rw [begAt_app (by omega)] at this ⊢
    by_cases hl : i < r.length
    · rw [show (r ++ [c + 1]).getD i 0 = r.getD i 0 by simp [List.getD_eq_getElem?_getD, List.getElem?_append_left hl]]
      rw [show (r ++ [c]).getD i 0 = r.getD i 0 by simp [List.getD_eq_getElem?_getD, List.getElem?_append_left hl]] at this
      exact this
    · have : i = r.length := by omega
      subst this
      rw [show (r ++ [c + 1]).getD r.length 0 = c + 1 by simp [List.getD_eq_getElem?_getD]]
      rw [show (r ++ [c]).getD r.length 0 = c by simp [List.getD_eq_getElem?_getD]] at this
      refine ⟨fun k hk => ?_, this.2⟩
      by_cases hk2 : (k : Int) < c
      · exact this.1 k hk2
      · have hb : begAt r r.length + k = n := by
          rw [begAt_all]
          omega
        have h4 := this.1 (k - 1) (by omega)
        rw [hb, h, ← h4]
        congr 1
        rw [begAt_all] at hb ⊢
        omega

theorem runs_isRuns (zs : List Int) : ∀ n, IsRuns zs (runsUpto zs n) n
  | 0 => ⟨by simp [runsUpto], by simp [runsUpto], fun i hi => by simp [runsUpto] at hi⟩
  | n + 1 => by
    have ih := runs_isRuns zs n
    have hl := runs_len zs n
    simp only [runsUpto]
    split
    · rename_i h
      exact isRuns_app ih h
    · rename_i h
      have hn : n ≠ 0 := fun e => h (.inl e)
      have he : zs.getD n 0 = zs.getD (n - 1) 0 := Decidable.byContradiction fun e => h (.inr e)
      have hpos := hl.2 (by omega)
      generalize runsUpto zs n = r at ih hpos
      obtain ⟨r', c, rfl⟩ : ∃ r' c, r = r' ++ [c] := ⟨r.dropLast, r.getLast (List.ne_nil_of_length_pos hpos), (List.dropLast_concat_getLast _).symm⟩
      have e1 : (r' ++ [c]).length - 1 = r'.length := by simp
      rw [e1, show (r' ++ [c]).getD r'.length 0 = c by simp [List.getD_eq_getElem?_getD]]
      rw [show (r' ++ [c]).set r'.length (c + 1) = r' ++ [c + 1] by simp]
      exact isRuns_inc ih he

end Go.Proofs.Ytogfojkjocbahaa
