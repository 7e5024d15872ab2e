/- The weights that the laws make of arbitrary numbers. -/
import Derived.Test.YtelalpohbodolaaDoorME
set_option linter.unusedVariables false
set_option linter.unusedSimpArgs false
namespace Go.Wg
/- Sums of numbers above 0. -/
def sP (zs : List Int) (m : Int) : Nat → Int
  | 0 => 0
  | i + 1 => sP zs m i + (zs.getD i 0 % m + 1)
theorem sP_lt (zs : List Int) {m : Int} (hm : 0 < m) (i : Nat) : sP zs m i < sP zs m (i + 1) ∧ sP zs m (i + 1) ≤ sP zs m i + m := by
  have h1 := Int.emod_nonneg (zs.getD i 0) (show m ≠ 0 by omega)
  have h2 := Int.emod_lt_of_pos (zs.getD i 0) hm
  rw [sP]
  omega
theorem sP_mono (zs : List Int) {m : Int} (hm : 0 < m) {i j : Nat} (h : i < j) : sP zs m i < sP zs m j := by
  induction j with
  | zero => omega
  | succ j ih =>
    have := (sP_lt zs hm j).1
    rcases Nat.lt_or_ge i j with h1 | h1
    · have := ih h1; omega
    · have : i = j := by omega
      subst this; omega
theorem sP_bd (zs : List Int) {m : Int} (hm : 0 < m) : ∀ i : Nat, 0 ≤ sP zs m i ∧ sP zs m i ≤ m * i
  | 0 => by simp [sP]
  | i + 1 => by
    have ih := sP_bd zs hm i
    have := sP_lt zs hm i
    have e : m * ((i + 1 : Nat) : Int) = m * i + m := by rw [show ((i + 1 : Nat) : Int) = (i : Int) + 1 by omega, Int.mul_add, Int.mul_one]
    rw [e]
    omega
def rsL (zs : List Int) (m : Int) (k : Nat) : List Int := (List.range k).map fun j => sP zs m (j + 1)
theorem rsL_len (zs : List Int) (m : Int) (k : Nat) : (rsL zs m k).length = k := by simp [rsL]
theorem rsL_suc (zs : List Int) (m : Int) (k : Nat) : rsL zs m (k + 1) = rsL zs m k ++ [sP zs m (k + 1)] := by simp [rsL, List.range_succ]
theorem rsL_rise (zs : List Int) {m : Int} (hm : 0 < m) (k : Nat) : (rsL zs m k).Pairwise (· < ·) := by
  unfold rsL
  rw [List.pairwise_map]
  exact List.pairwise_lt_range.imp fun h => sP_mono zs hm (by omega)
theorem rsL_bd (zs : List Int) {m : Int} (hm : 0 < m) (k : Nat) : ∀ z ∈ rsL zs m k, 1 ≤ z ∧ z ≤ m * k := fun z hz => by
  obtain ⟨j, hj, rfl⟩ := List.mem_map.1 hz
  have hj := List.mem_range.1 hj
  have h1 := sP_mono zs hm (show 0 < j + 1 by omega)
  have h2 := (sP_bd zs hm (j + 1)).2
  have h3 : m * ((j + 1 : Nat) : Int) ≤ m * k := Int.mul_le_mul_of_nonneg_left (by omega) (by omega)
  rw [sP] at h1
  omega
def mdL (zs : List Int) (most : Nat) : List Int := if min zs.length most = 0 then [1] else rsL zs 8000 (min zs.length most)
/- Each is more than the sum of all before. -/
def dS (zs : List Int) : Nat → Int
  | 0 => 0
  | i + 1 => dS zs i + (dS zs i + 1 + zs.getD i 0 % 12)
def dbL (zs : List Int) (k : Nat) : List Int := (List.range k).map fun i => dS zs i + 1 + zs.getD i 0 % 12
theorem dbL_len (zs : List Int) (k : Nat) : (dbL zs k).length = k := by simp [dbL]
theorem dbL_suc (zs : List Int) (k : Nat) : dbL zs (k + 1) = dbL zs k ++ [dS zs k + 1 + zs.getD k 0 % 12] := by simp [dbL, List.range_succ]
theorem dS_bd (zs : List Int) : ∀ i : Nat, 0 ≤ dS zs i ∧ dS zs i ≤ 12 * (2 ^ i : Nat) - 12
  | 0 => by simp [dS]
  | i + 1 => by
    have ih := dS_bd zs i
    have h1 := Int.emod_nonneg (zs.getD i 0) (show (12 : Int) ≠ 0 by omega)
    have h2 := Int.emod_lt_of_pos (zs.getD i 0) (show (0 : Int) < 12 by omega)
    rw [dS, Nat.pow_succ]
    omega
theorem dbL_sum (zs : List Int) : ∀ k, (dbL zs k).sum = dS zs k
  | 0 => rfl
  | k + 1 => by
    rw [dbL_suc, List.sum_append, dbL_sum zs k, dS]
    simp
theorem dbL_pos (zs : List Int) (k : Nat) : ∀ z ∈ dbL zs k, 1 ≤ z := fun z hz => by
  obtain ⟨j, hj, rfl⟩ := List.mem_map.1 hz
  have := (dS_bd zs j).1
  have h1 := Int.emod_nonneg (zs.getD j 0) (show (12 : Int) ≠ 0 by omega)
  omega
theorem dbL_dist (zs : List Int) : ∀ k, Dist (dbL zs k)
  | 0 => by simp [Dist, dbL, SS]
  | k + 1 => by
    rw [dbL_suc]
    refine Dist.more (fun a ha => by have := dbL_pos zs k a ha; omega) (dbL_dist zs k) ?_
    rw [dbL_sum]
    have h1 := Int.emod_nonneg (zs.getD k 0) (show (12 : Int) ≠ 0 by omega)
    omega
def dbR (zs : List Int) : List Int := if min zs.length 12 = 0 then [1] else dbL zs (min zs.length 12)
theorem one_dist : Dist [1] := by unfold Dist; decide
theorem dbR_dist (zs : List Int) : Dist (dbR zs) := by
  unfold dbR
  split
  · exact one_dist
  · exact dbL_dist _ _
def gyB (zs : List Int) : Int := if 0 < zs.length then zs.getD 0 0 % 40 + 1 else 1
def gyR (zs : List Int) : List Int := (cgS (min zs.length 11 + 1)).map (· * gyB zs)
theorem gyB_bd (zs : List Int) : 1 ≤ gyB zs ∧ gyB zs ≤ 40 := by
  unfold gyB
  have h1 := Int.emod_nonneg (zs.getD 0 0) (show (40 : Int) ≠ 0 by omega)
  have h2 := Int.emod_lt_of_pos (zs.getD 0 0) (show (0 : Int) < 40 by omega)
  split <;> omega
theorem gyR_dist (zs : List Int) : Dist (gyR zs) := (Dist.scale (by have := gyB_bd zs; omega) _).2 (cg_dist (by omega))
def dblR (zs : List Int) (guy : Bool) : List Int := if guy = true then gyR zs else dbR zs
theorem dblR_dist (zs : List Int) (guy : Bool) : Dist (dblR zs guy) := by
  unfold dblR
  split
  · exact gyR_dist zs
  · exact dbR_dist zs
theorem mdL_len (zs : List Int) (most : Nat) (hm : most ≤ 12) : (mdL zs most).length ≤ 12 := by
  unfold mdL
  split
  · simp
  · rw [rsL_len]; omega
theorem dblR_len (zs : List Int) (guy : Bool) : (dblR zs guy).length ≤ 12 := by
  unfold dblR gyR dbR
  split
  · rw [List.length_map, cgS_len]; omega
  · split
    · simp
    · rw [dbL_len]; omega
/- Multiplying one after the other. -/
def mulU (l : List Int) (b : Int) (i : Nat) : List Int := (l.take i).map (· * b) ++ l.drop i
theorem mulU_len (l : List Int) (b : Int) (i : Nat) : (mulU l b i).length = l.length := by simp [mulU]; omega
theorem mulU_get {l : List Int} {b : Int} {i : Nat} (h : i < l.length) : (mulU l b i).getD i 0 = l.getD i 0 := by
  unfold mulU
  rw [List.getD_eq_getElem?_getD, List.getElem?_append_right (by simp; omega)]
  simp
  congr 2
  omega
theorem mulU_suc {l : List Int} {b : Int} {i : Nat} (h : i < l.length) : (mulU l b i).set i (l.getD i 0 * b) = mulU l b (i + 1) := by
  unfold mulU
  have hl : ((l.take i).map (· * b)).length = i := by simp; omega
  rw [List.set_append_right _ _ (by omega), hl, Nat.sub_self, List.drop_eq_getElem_cons h, List.set_cons_zero, List.take_succ_eq_append_getElem h, List.map_append, List.getD_eq_getElem?_getD, List.getElem?_eq_getElem h]
  simp
theorem sqs_le {l : List Int} {W : Int} (h : ∀ a ∈ l, 0 ≤ a ∧ a ≤ W) : 0 ≤ sqs l ∧ sqs l ≤ W * W * l.length := by
  induction l with
  | nil => simp [sqs]
  | cons a l ih =>
    have ih := ih fun b hb => h b (List.mem_cons_of_mem _ hb)
    have h0 := h a (by simp)
    have h1 : a * a ≤ W * W := Int.mul_le_mul h0.2 h0.2 h0.1 (by omega)
    have h2 : 0 ≤ a * a := Int.mul_nonneg h0.1 h0.1
    simp only [sqs, List.map_cons, List.sum_cons, List.length_cons] at ih ⊢
    have e : W * W * ((l.length + 1 : Nat) : Int) = W * W * l.length + W * W := by rw [show ((l.length + 1 : Nat) : Int) = (l.length : Int) + 1 by omega, Int.mul_add, Int.mul_one]
    rw [e]
    omega
theorem sqs_snoc {l : List Int} {i : Nat} (h : i < l.length) : sqs (l.take (i + 1)) = sqs (l.take i) + l.getD i 0 * l.getD i 0 := by
  rw [List.take_succ_eq_append_getElem h, sqs_app, List.getD_eq_getElem?_getD, List.getElem?_eq_getElem h]
  simp [sqs]
end Go.Wg
