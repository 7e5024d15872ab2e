/- How many parts have a sum; the first part with a sum. -/
import Derived.Test.YtelalpohbodolaaDoorMC
set_option linter.unusedVariables false
set_option linter.unusedSimpArgs false
namespace Go.Wg
/- How many parts have a sum. -/
theorem count_perm {l : List Int} {v : Int} : (LL l.length).countP (fun s => decide (msum l s = v)) = (SS l).count v := by
  rw [← (sums_perm l).count_eq v, List.count, List.countP_map]
  apply List.countP_congr
  intro s _
  simp
theorem ways_le (l : List Int) (v : Int) : (LL l.length).countP (fun s => decide (msum l s = v)) ≤ 2 ^ l.length := by
  have := List.countP_le_length (p := fun s => decide (msum l s = v)) (l := LL l.length)
  rw [LL_len] at this
  exact this
/- All ways together. -/
theorem ways_sum {l : List Int} {S : Nat} (h : ∀ x ∈ l, 0 ≤ x ∧ x ≤ S) : ((List.range (S + 1)).map fun v : Nat => l.count (v : Int)).sum = l.length := by
  induction l with
  | nil =>
    have : ∀ n, ((List.range n).map fun v : Nat => ([] : List Int).count (v : Int)).sum = 0 := fun n => by
      induction n with
      | zero => rfl
      | succ n ih => rw [List.range_succ, List.map_append, List.sum_append, ih]; simp
    rw [this]; rfl
  | cons a l ih =>
    have ih := ih fun x hx => h x (List.mem_cons_of_mem _ hx)
    have ha := h a (by simp)
    obtain ⟨b, rfl⟩ : ∃ b : Nat, a = b := ⟨a.toNat, by omega⟩
    have key : ∀ n, ((List.range n).map fun v : Nat => ((b : Int) :: l).count (v : Int)).sum = ((List.range n).map fun v : Nat => l.count (v : Int)).sum + if b < n then 1 else 0 := by
      intro n
      induction n with
      | zero => simp
      | succ n ihn =>
        rw [List.range_succ, List.map_append, List.sum_append, List.map_append, List.sum_append, ihn]
        simp only [List.map_cons, List.map_nil, List.sum_cons, List.sum_nil, List.count_cons]
        by_cases e : b = n
        · subst e
          simp
          omega
        · have e' : ((b : Int) == (n : Int)) = false := by simp; omega
          rw [e']
          by_cases e2 : b < n
          · have e3 : b < n + 1 := by omega
            simp only [e2, e3, if_true]
            simp
            omega
          · have e3 : ¬ b < n + 1 := by omega
            simp only [e2, e3, if_false]
            simp
    rw [key, ih, if_pos (by omega), List.length_cons]
/- A part and the rest. -/
theorem SS_compl : ∀ (l : List Int), ((SS l).map (l.sum - ·)).Perm (SS l)
  | [] => by simp [SS]
  | a :: l => by
    have ih := SS_compl l
    simp only [SS, List.map_append, List.map_map, List.sum_cons]
    have e1 : (SS l).map (fun x => a + l.sum - x) = ((SS l).map (l.sum - ·)).map (a + ·) := by
      rw [List.map_map]
      apply List.map_congr_left
      intro x _
      simp only [Function.comp]
      omega
    have e2 : (SS l).map ((fun x => a + l.sum - x) ∘ fun x => a + x) = (SS l).map (l.sum - ·) := by
      apply List.map_congr_left
      intro x _
      simp only [Function.comp]
      omega
    rw [e1, e2]
    exact (List.perm_append_comm).trans (ih.append (ih.map _))
theorem count_compl (l : List Int) (v : Int) : (SS l).count v = (SS l).count (l.sum - v) := by
  rw [← (SS_compl l).count_eq v, List.count, List.count, List.countP_map]
  apply List.countP_congr
  intro x _
  simp
  omega
theorem nodup_count {l : List Int} : l.Nodup ↔ ∀ v, l.count v ≤ 1 := List.nodup_iff_count
theorem count_zero {l : List Int} {v : Int} (h : ∀ a ∈ l, 0 ≤ a) (hv : l.sum < v) : (SS l).count v = 0 := by
  rw [List.count_eq_zero]
  intro hm
  have := SS_ge h v hm
  omega
/- The first of a list. -/
theorem first_least {P : Nat → Bool} {n s : Nat} (h : (LL n).find? P = some s) : P s = true ∧ s < 2 ^ n ∧ ∀ t, t < 2 ^ n → P t = true → t = s ∨ fl n s < fl n t := by
  rw [List.find?_eq_some_iff_append] at h
  obtain ⟨h1, as, bs, e, h2⟩ := h
  refine ⟨h1, mem_LL.1 (by rw [e]; simp), fun t ht hp => ?_⟩
  have hm := mem_LL.2 ht
  rw [e, List.mem_append, List.mem_cons] at hm
  rcases hm with hm | hm | hm
  · have := h2 t hm; rw [hp] at this; cases this
  · exact .inl hm
  · right
    have hs := LL_sorted n
    rw [e, List.map_append, List.pairwise_append, List.map_cons, List.pairwise_cons] at hs
    exact hs.2.1.1 _ (List.mem_map_of_mem hm)
theorem find_none {P : Nat → Bool} {n : Nat} (h : (LL n).find? P = none) : ∀ t, t < 2 ^ n → P t = false := by
  rw [List.find?_eq_none] at h
  intro t ht
  have := h t (mem_LL.2 ht)
  simpa using this
theorem fl_inj {n s t : Nat} (hs : s < 2 ^ n) (ht : t < 2 ^ n) (h : fl n s = fl n t) : s = t := by
  have h1 := LL_sorted n
  have m1 := mem_LL.2 hs
  have m2 := mem_LL.2 ht
  obtain ⟨i, hi, e1⟩ := List.mem_iff_getElem.1 m1
  obtain ⟨j, hj, e2⟩ := List.mem_iff_getElem.1 m2
  rw [List.pairwise_iff_getElem] at h1
  rcases Nat.lt_trichotomy i j with c | c | c
  · have := h1 i j (by simpa using hi) (by simpa using hj) c
    rw [List.getElem_map, List.getElem_map, e1, e2, h] at this
    exact absurd this (List.lt_irrefl _)
  · subst c; rw [← e1, ← e2]
  · have := h1 j i (by simpa using hj) (by simpa using hi) c
    rw [List.getElem_map, List.getElem_map, e1, e2, h] at this
    exact absurd this (List.lt_irrefl _)
/- The sums by number. -/
theorem msum_low : ∀ (l : List Int) (a : Int) (k : Nat), k < 2 ^ l.length → msum (l ++ [a]) k = msum l k := fun l a k h => by
  rw [msum_snoc, Nat.div_eq_of_lt h]; simp
theorem msum_mod (l : List Int) (k : Nat) : msum l (k + 2 ^ l.length) = msum l k := by
  induction l generalizing k with
  | nil => simp [msum]
  | cons a l ih =>
    rw [List.length_cons, Nat.pow_succ, msum, msum, show (k + 2 ^ l.length * 2) % 2 = k % 2 by omega, show (k + 2 ^ l.length * 2) / 2 = k / 2 + 2 ^ l.length by omega, ih]
theorem msum_high (l : List Int) (a : Int) (k : Nat) (h : k < 2 ^ l.length) : msum (l ++ [a]) (k + 2 ^ l.length) = msum l k + a := by
  rw [msum_snoc, msum_mod, Nat.add_div_right _ (Nat.two_pow_pos _), Nat.div_eq_of_lt h]; simp
def SU (l : List Int) : List Int := (List.range (2 ^ l.length)).map (msum l)
theorem SU_len (l : List Int) : (SU l).length = 2 ^ l.length := by simp [SU]
theorem SU_snoc (l : List Int) (a : Int) : SU (l ++ [a]) = SU l ++ (SU l).map (· + a) := by
  unfold SU
  rw [List.length_append, List.length_singleton, Nat.pow_succ, show 2 ^ l.length * 2 = 2 ^ l.length + 2 ^ l.length by omega, List.range_add, List.map_append, List.map_map, List.map_map]
  congr 1
  · apply List.map_congr_left
    intro k hk
    exact msum_low l a k (List.mem_range.1 hk)
  · apply List.map_congr_left
    intro k hk
    simp only [Function.comp]
    rw [Nat.add_comm, msum_high l a k (List.mem_range.1 hk)]
theorem LL_perm (n : Nat) : (LL n).Perm (List.range (2 ^ n)) := by
  refine (List.perm_ext_iff_of_nodup ?_ List.nodup_range).2 fun s => by rw [mem_LL, List.mem_range]
  refine List.pairwise_iff_getElem.2 fun i j hi hj hij e => ?_
  have h1 := LL_sorted n
  rw [List.pairwise_iff_getElem] at h1
  have := h1 i j (by simpa using hi) (by simpa using hj) hij
  rw [List.getElem_map, List.getElem_map, e] at this
  exact absurd this (List.lt_irrefl _)
theorem count_range {l : List Int} {v : Int} : (List.range (2 ^ l.length)).countP (fun s => decide (msum l s = v)) = (LL l.length).countP (fun s => decide (msum l s = v)) := (LL_perm l.length).symm.countP_eq _
end Go.Wg
