/- Permutations by their numbers. -/
set_option linter.unusedSimpArgs false
set_option linter.unusedVariables false
namespace Go.Pa
/- The permutation with a code: an element at a time. -/
def insP (o : List Nat) (k i : Nat) : List Nat := o.take k ++ (i :: o.drop k)
def nthC (code : List Nat) : Nat → List Nat
  | 0 => []
  | i + 1 => insP (nthC code i) (code.getD i 0 % (i + 1)) i
theorem insP_len {o : List Nat} {k i : Nat} (h : k ≤ o.length) : (insP o k i).length = o.length + 1 := by simp [insP]; omega
theorem mem_insP {o : List Nat} {k i x : Nat} : x ∈ insP o k i ↔ x = i ∨ x ∈ o := by
  unfold insP
  rw [List.mem_append, List.mem_cons]
  constructor
  · rintro (h | h | h)
    · exact .inr (List.mem_of_mem_take h)
    · exact .inl h
    · exact .inr (List.mem_of_mem_drop h)
  · rintro (h | h)
    · exact .inr (.inl h)
    · rw [← List.take_append_drop k o, List.mem_append] at h
      rcases h with h | h
      · exact .inl h
      · exact .inr (.inr h)
theorem nthC_len {code : List Nat} : ∀ n, (nthC code n).length = n
  | 0 => rfl
  | n + 1 => by rw [nthC, insP_len (by rw [nthC_len n]; exact Nat.lt_succ_iff.1 (Nat.mod_lt _ (Nat.succ_pos n))), nthC_len n]
theorem nthC_lt {code : List Nat} : ∀ n, ∀ x ∈ nthC code n, x < n
  | 0, x, h => by cases h
  | n + 1, x, h => by
    rw [nthC, mem_insP] at h
    rcases h with rfl | h
    · omega
    · have := nthC_lt n x h; omega
theorem nthC_nodup {code : List Nat} : ∀ n, (nthC code n).Nodup
  | 0 => List.nodup_nil
  | n + 1 => by
    have hn := nthC_nodup (code := code) n
    have hl := nthC_lt (code := code) n
    rw [nthC]
    generalize nthC code n = o at hn hl
    generalize code.getD n 0 % (n + 1) = k
    unfold insP
    have e := List.take_append_drop k o
    rw [← e, List.nodup_append] at hn
    rw [List.nodup_append]
    refine ⟨hn.1, List.nodup_cons.2 ⟨fun h => ?_, hn.2.1⟩, fun a ha b hb => ?_⟩
    · have := hl n (List.mem_of_mem_drop h); omega
    · rcases List.mem_cons.1 hb with rfl | hb
      · have := hl a (List.mem_of_mem_take ha); omega
      · exact hn.2.2 a ha b hb
end Go.Pa
