/- The reference's Clash and Distinct, on distinct weights. -/
import Derived.Test.YtelalpohbodolaaDoorDG
import Derived.Test.YtelalpohbodolaaDoorME
set_option linter.unusedSimpArgs false
set_option linter.unusedVariables false
set_option maxHeartbeats 4000000
set_option maxRecDepth 20000
namespace Go.Abs
theorem andI_nat {a b n : Nat} (hn : n ≤ 63) (ha : a < 2 ^ n) (hb : b < 2 ^ n) : ((BitVec.ofInt 64 (a : Int) &&& BitVec.ofInt 64 (b : Int)).toNat : Int) = ((a &&& b : Nat) : Int) := by
  have h63 : 2 ^ n ≤ 2 ^ 63 := Nat.pow_le_pow_right (by omega) hn
  have h63 : 2 ^ n ≤ 9223372036854775808 := h63
  have e1 : ∀ x : Nat, x < 18446744073709551616 → (BitVec.ofInt 64 (x : Int)).toNat = x := fun x hx => by
    rw [BitVec.toNat_ofInt]
    omega
  rw [BitVec.toNat_and, e1 a (by omega), e1 b (by omega)]
theorem wrap_andN {a b n : Nat} (hn : n ≤ 20) (ha : a < 2 ^ n) (hb : b < 2 ^ n) : IntKind.i64.wrap ((BitVec.ofInt IntKind.i64.bits (a : Int) &&& BitVec.ofInt IntKind.i64.bits (b : Int)).toNat : Int) = ((a &&& b : Nat) : Int) := by
  have : IntKind.bits .i64 = 64 := rfl
  rw [this, andI_nat (n := n) (by omega) ha hb]
  have h20 : 2 ^ n ≤ 2 ^ 20 := Nat.pow_le_pow_right (by omega) hn
  have h20 : 2 ^ n ≤ 1048576 := h20
  have := Nat.and_le_left (n := a) (m := b)
  rw [wrap_i64 (by omega) (by omega)]
theorem sBin_andN {a b n : Nat} (hn : n ≤ 20) (ha : a < 2 ^ n) (hb : b < 2 ^ n) : sBin .and .no (.int .i64 (a : Int)) (.int .i64 (b : Int)) = some (.int .i64 ((a &&& b : Nat) : Int)) := by
  have e : sBin .and .no (.int .i64 (a : Int)) (.int .i64 (b : Int)) = some (.int .i64 (IntKind.i64.wrap ((BitVec.ofInt IntKind.i64.bits (a : Int) &&& BitVec.ofInt IntKind.i64.bits (b : Int)).toNat : Int))) := rfl
  rw [e, wrap_andN hn ha hb]
end Go.Abs
namespace Go.Wg
/- The masks before m whose sum is t. -/
def mkN (zs : List Int) (t : Int) (m : Nat) : List Nat := (List.range m).filter fun k => decide (0 < k) && decide (msum zs k = t)
def mkL (zs : List Int) (t : Int) (m : Nat) : List Int := (mkN zs t m).map fun k : Nat => (k : Int)
theorem mkN_suc (zs : List Int) (t : Int) (m : Nat) : mkN zs t (m + 1) = mkN zs t m ++ if 0 < m ∧ msum zs m = t then [m] else [] := by
  unfold mkN
  rw [List.range_succ, List.filter_append]
  congr 1
  by_cases h : 0 < m ∧ msum zs m = t
  · rw [if_pos h]
    simp [h.1, h.2]
  · rw [if_neg h]
    simp only [List.filter_cons, List.filter_nil]
    rw [if_neg]
    intro hh
    rw [Bool.and_eq_true, decide_eq_true_eq, decide_eq_true_eq] at hh
    exact h hh
theorem mkL_suc (zs : List Int) (t : Int) {m : Nat} (hm : 0 < m) : mkL zs t (m + 1) = if t = msum zs m then mkL zs t m ++ [(m : Int)] else mkL zs t m := by
  unfold mkL
  rw [mkN_suc]
  by_cases h : t = msum zs m
  · rw [if_pos h, if_pos ⟨hm, h.symm⟩]; simp
  · rw [if_neg h, if_neg (fun hh => h hh.2.symm)]; simp
theorem mkN_len (zs : List Int) (t : Int) (m : Nat) : (mkN zs t m).length ≤ m := by
  have := List.length_filter_le (fun k => decide (0 < k) && decide (msum zs k = t)) (List.range m)
  rw [List.length_range] at this
  exact this
theorem mkL_len (zs : List Int) (t : Int) (m : Nat) : (mkL zs t m).length ≤ m := by
  unfold mkL; rw [List.length_map]; exact mkN_len zs t m
theorem mkN_one (zs : List Int) (t : Int) : mkN zs t 1 = [] := by
  unfold mkN; rfl
theorem mkN_mem {zs : List Int} {t : Int} {m k : Nat} : k ∈ mkN zs t m ↔ k < m ∧ 0 < k ∧ msum zs k = t := by
  unfold mkN
  simp [List.mem_filter]
theorem mkN_nodup (zs : List Int) (t : Int) (m : Nat) : (mkN zs t m).Nodup := List.Sublist.nodup List.filter_sublist List.nodup_range
theorem dist_inj {zs : List Int} (d : Dist zs) {k m : Nat} (hk : k < 2 ^ zs.length) (hm : m < 2 ^ zs.length) (e : msum zs k = msum zs m) : k = m := by
  have h1 : ((LL zs.length).map (msum zs)).Nodup := (sums_perm zs).nodup_iff.2 d
  obtain ⟨i, hi, e1⟩ := List.mem_iff_getElem.1 (mem_LL.2 hk)
  obtain ⟨j, hj, e2⟩ := List.mem_iff_getElem.1 (mem_LL.2 hm)
  have h2 := List.pairwise_iff_getElem.1 h1
  rcases Nat.lt_trichotomy i j with c | c | c
  · have := h2 i j (by simpa using hi) (by simpa using hj) c
    rw [List.getElem_map, List.getElem_map, e1, e2] at this
    exact absurd e this
  · subst c; rw [← e1, ← e2]
  · have := h2 j i (by simpa using hj) (by simpa using hi) c
    rw [List.getElem_map, List.getElem_map, e1, e2] at this
    exact absurd e.symm this
theorem mkN_dist {zs : List Int} (d : Dist zs) {m : Nat} (h0 : 0 < m) (hm : m < 2 ^ zs.length) : mkN zs (msum zs m) (2 ^ zs.length) = [m] := by
  have h1 : ∀ k, k ∈ mkN zs (msum zs m) (2 ^ zs.length) ↔ k = m := fun k => by
    rw [mkN_mem]
    constructor
    · exact fun h => dist_inj d h.1 hm h.2.2
    · rintro rfl; exact ⟨hm, h0, rfl⟩
  have h2 := mkN_nodup zs (msum zs m) (2 ^ zs.length)
  generalize mkN zs (msum zs m) (2 ^ zs.length) = l at *
  match l, h1, h2 with
  | [], h1, _ => have := (h1 m).2 rfl; simp at this
  | [a], h1, _ => have := (h1 a).1 (by simp); rw [this]
  | a :: b :: l, h1, h2 =>
    have ea := (h1 a).1 (by simp)
    have eb := (h1 b).1 (by simp)
    rw [ea, eb] at h2
    simp at h2
theorem mkL_dist {zs : List Int} (d : Dist zs) {m : Nat} (h0 : 0 < m) (hm : m < 2 ^ zs.length) : mkL zs (msum zs m) (2 ^ zs.length) = [(m : Int)] := by
  unfold mkL; rw [mkN_dist d h0 hm]; rfl
end Go.Wg
namespace Go.Proofs.YtelalpohbodolaaDoor
open Go Go.Abs Go.Wg
end Go.Proofs.YtelalpohbodolaaDoor
