/- Conway and Guy's sequence; sums as bits of one number. -/
import Derived.Test.YtelalpohbodolaaDoorMD
set_option linter.unusedVariables false
set_option linter.unusedSimpArgs false
set_option maxRecDepth 20000
namespace Go.Wg
/- The integer nearest to a root. -/
def rt (x : Nat) : Nat := ((List.range (x + 1)).find? fun r => decide (x ≤ r * r + r)).getD 0
theorem rt_eq {x r : Nat} (h : x ≤ r * r + r) (h2 : ∀ r', r' < r → r' * r' + r' < x) : rt x = r := by
  unfold rt
  have hr : r < x + 1 := by
    rcases Nat.eq_zero_or_pos r with rfl | hp
    · omega
    · have := h2 (r - 1) (by omega)
      have : r - 1 ≤ (r - 1) * (r - 1) + (r - 1) := Nat.le_add_left _ _
      omega
  have e : (List.range (x + 1)).find? (fun r => decide (x ≤ r * r + r)) = some r := by
    rw [List.find?_range_eq_some]
    refine ⟨by simpa using h, List.mem_range.2 hr, fun j hj => ?_⟩
    have := h2 j hj
    simp
    omega
  rw [e]
  rfl
theorem rt_spec (x : Nat) : x ≤ rt x * rt x + rt x ∧ ∀ r', r' < rt x → r' * r' + r' < x := by
  have ex : ∃ r, x ≤ r * r + r ∧ ∀ r', r' < r → r' * r' + r' < x := by
    have : ∀ n, (∃ r, r < n ∧ x ≤ r * r + r ∧ ∀ r', r' < r → r' * r' + r' < x) ∨ ∀ r', r' < n → r' * r' + r' < x := by
      intro n
      induction n with
      | zero => exact .inr fun r h => by omega
      | succ n ih =>
        rcases ih with ⟨r, h1, h2⟩ | h
        · exact .inl ⟨r, by omega, h2⟩
        · by_cases hn : n * n + n < x
          · exact .inr fun r hr => by
              by_cases e : r = n
              · subst e; exact hn
              · exact h r (by omega)
          · exact .inl ⟨n, by omega, by omega, h⟩
    rcases this (x + 1) with ⟨r, _, h⟩ | h
    · exact ⟨r, h⟩
    · have h1 := h x (by omega)
      have : x ≤ x * x + x := Nat.le_add_left _ _
      omega
  obtain ⟨r, h1, h2⟩ := ex
  rw [rt_eq h1 h2]
  exact ⟨h1, h2⟩
theorem rt_le (k : Nat) (hk : 0 < k) : rt (2 * k) ≤ k := by
  have h := (rt_spec (2 * k)).2
  rcases Nat.lt_or_ge k (rt (2 * k)) with h1 | h1
  · have := h k h1
    have : k ≤ k * k := Nat.le_mul_of_pos_left k hk
    omega
  · exact h1
theorem rt_pos (k : Nat) (hk : 0 < k) : 0 < rt (2 * k) := by
  have h := (rt_spec (2 * k)).1
  rcases Nat.eq_zero_or_pos (rt (2 * k)) with e | e
  · rw [e] at h; omega
  · exact e
/- Conway and Guy's sequence: with j terms behind the first two. -/
def uT : Nat → List Int
  | 0 => [0, 1]
  | j + 1 => uT j ++ [2 * (uT j).getD (j + 1) 0 - (uT j).getD (j + 1 - rt (2 * (j + 1))) 0]
theorem uT_len : ∀ j, (uT j).length = j + 2
  | 0 => rfl
  | j + 1 => by rw [uT, List.length_append, uT_len j]; rfl
theorem uT_all : ∀ j, j < 60 → ∀ z ∈ uT j, 0 ≤ z ∧ z ≤ 1152921504606846976 := by decide +kernel
def uL (n : Nat) : List Int := uT (n - 1)
theorem uT_take (j k : Nat) : (uT (j + k)).take (j + 2) = uT j := by
  induction k with
  | zero => exact List.take_of_length_le (by rw [Nat.add_zero, uT_len]; omega)
  | succ k ih =>
    rw [← Nat.add_assoc, uT, List.take_append_of_le_length (by rw [uT_len]; omega), ih]
theorem uL_bd {n : Nat} (h : n ≤ 60) : ∀ i, 0 ≤ (uL n).getD i 0 ∧ (uL n).getD i 0 ≤ 1152921504606846976 := fun i => by
  rcases Nat.lt_or_ge i (uL n).length with h1 | h1
  · have := uT_all (n - 1) (by omega) ((uL n).getD i 0) (by
      unfold uL at *
      rw [List.getD_eq_getElem?_getD, List.getElem?_eq_getElem h1, Option.getD_some]
      exact List.getElem_mem h1)
    exact this
  · rw [List.getD_eq_getElem?_getD, List.getElem?_eq_none h1]
    simp
/- Their set of n weights. -/
def cgS (n : Nat) : List Int := (List.range n).map fun i => (uL n).getD n 0 - (uL n).getD (n - 1 - i) 0
theorem cgS_len (n : Nat) : (cgS n).length = n := by simp [cgS]
/- Sums as bits of one number. -/
def mk : List Nat → Nat
  | [] => 1
  | a :: l => mk l ||| (mk l <<< a)
def okm : List Nat → Bool
  | [] => true
  | a :: l => okm l && Nat.beq (mk l &&& (mk l <<< a)) 0
def up (l : List Nat) : List Int := l.map fun a : Nat => (a : Int)
theorem mk_iff : ∀ (l : List Nat) (x : Int), x ∈ SS (up l) ↔ 0 ≤ x ∧ (mk l).testBit x.toNat = true
  | [], x => by
    simp only [up, List.map_nil, SS, List.mem_singleton, mk]
    constructor
    · rintro rfl; simp
    · rintro ⟨h, hb⟩
      rw [Nat.testBit_one_eq_true_iff_self_eq_zero] at hb
      omega
  | a :: l, x => by
    have ih := mk_iff l
    simp only [up, List.map_cons, SS, List.mem_append, List.mem_map, mk, Nat.testBit_or, Bool.or_eq_true, Nat.testBit_shiftLeft, Bool.and_eq_true, decide_eq_true_eq]
    simp only [up] at ih
    constructor
    · rintro (h | ⟨y, hy, rfl⟩)
      · have := (ih x).1 h
        exact ⟨this.1, .inl this.2⟩
      · obtain ⟨h1, h2⟩ := (ih y).1 hy
        refine ⟨by omega, .inr ⟨by omega, ?_⟩⟩
        rw [show ((a : Int) + y).toNat - a = y.toNat by omega]
        exact h2
    · rintro ⟨h1, h2 | ⟨h2, h3⟩⟩
      · exact .inl ((ih x).2 ⟨h1, h2⟩)
      · refine .inr ⟨x - a, (ih _).2 ⟨by omega, ?_⟩, by omega⟩
        rw [show (x - (a : Int)).toNat = x.toNat - a by omega]
        exact h3
theorem okm_dist : ∀ {l : List Nat}, okm l = true → Dist (up l)
  | [], _ => by simp [Dist, up, SS]
  | a :: l, h => by
    simp only [okm, Bool.and_eq_true] at h
    have d := okm_dist h.1
    have h0 := Nat.eq_of_beq_eq_true h.2
    unfold Dist at *
    simp only [up, List.map_cons, SS] at d ⊢
    rw [List.nodup_append]
    refine ⟨d, (nodup_map_iff fun x y h => by omega).2 d, fun x hx y hy e => ?_⟩
    subst e
    rw [List.mem_map] at hy
    obtain ⟨z, hz, e⟩ := hy
    have h1 := (mk_iff l x).1 (by simpa only [up] using hx)
    have h2 := (mk_iff l z).1 (by simpa only [up] using hz)
    have hb : (mk l &&& (mk l <<< a)).testBit x.toNat = true := by
      rw [Nat.testBit_and, Nat.testBit_shiftLeft, h1.2, Bool.true_and, Bool.and_eq_true, decide_eq_true_eq]
      refine ⟨by omega, ?_⟩
      rw [show x.toNat - a = z.toNat by omega]
      exact h2.2
    rw [h0] at hb
    simp at hb
def cgN (n : Nat) : List Nat := (cgS n).map Int.toNat
theorem cg_all : ∀ n, n < 13 → okm (cgN n) = true ∧ up (cgN n) = cgS n := by decide +kernel
theorem cg_dist {n : Nat} (h : n < 13) : Dist (cgS n) := by
  have := okm_dist (cg_all n h).1
  rw [(cg_all n h).2] at this
  exact this
end Go.Wg
