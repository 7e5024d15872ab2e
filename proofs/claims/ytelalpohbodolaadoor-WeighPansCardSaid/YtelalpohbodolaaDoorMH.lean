/- Weighings with two pans, in their order. -/
import Derived.Test.YtelalpohbodolaaDoorMA
set_option linter.unusedVariables false
set_option linter.unusedSimpArgs false
namespace Go.Wg
/- The weighing number k of n weights. -/
def wg : Nat → Nat → List Int
  | 0, _ => []
  | n + 1, k => wg n (k / 3) ++ [1 - ((k % 3 : Nat) : Int)]
/- With c digits carried. -/
def cw (n x c : Nat) : List Int := wg (n - c) x ++ List.replicate c 1 ++ List.replicate (9 - n) 0
theorem wg_len : ∀ n k, (wg n k).length = n
  | 0, _ => rfl
  | n + 1, k => by rw [wg, List.length_append, wg_len n]; rfl
theorem wg_app (m x : Nat) : ∀ c, wg (m + c) (x * 3 ^ c) = wg m x ++ List.replicate c 1
  | 0 => by simp
  | c + 1 => by
    have e : x * 3 ^ (c + 1) = x * 3 ^ c * 3 := by rw [Nat.pow_succ, Nat.mul_assoc]
    rw [show m + (c + 1) = (m + c) + 1 by omega, wg, e, Nat.mul_div_cancel _ (by omega), Nat.mul_mod_left, wg_app m x c, List.replicate_succ', List.append_assoc]
    rfl
theorem cw_len {n x c : Nat} (hn : n ≤ 9) (hc : c ≤ n) : (cw n x c).length = 9 := by
  unfold cw
  rw [List.length_append, List.length_append, wg_len, List.length_replicate, List.length_replicate]
  omega
theorem cw_split {n x c : Nat} (hc : c < n) : cw n x c = wg (n - c - 1) (x / 3) ++ (1 - ((x % 3 : Nat) : Int)) :: (List.replicate c 1 ++ List.replicate (9 - n) 0) := by
  unfold cw
  rw [show n - c = (n - c - 1) + 1 by omega, wg]
  simp
theorem cw_get {n x c : Nat} (hc : c < n) : (cw n x c).getD (n - c - 1) 0 = 1 - ((x % 3 : Nat) : Int) := by
  rw [cw_split hc, List.getD_eq_getElem?_getD, List.getElem?_append_right (by rw [wg_len]; exact Nat.le_refl _), wg_len, Nat.sub_self]
  rfl
theorem cw_set {n x c : Nat} (hc : c < n) (v : Int) : (cw n x c).set (n - c - 1) v = wg (n - c - 1) (x / 3) ++ v :: (List.replicate c 1 ++ List.replicate (9 - n) 0) := by
  rw [cw_split hc, List.set_append_right _ _ (by rw [wg_len]; exact Nat.le_refl _), wg_len, Nat.sub_self]
  rfl
theorem cw_carry {n x c : Nat} (hc : c < n) : (cw n x c).set (n - c - 1) 1 = cw n (x / 3) (c + 1) := by
  rw [cw_set hc]
  unfold cw
  rw [show n - (c + 1) = n - c - 1 by omega, List.replicate_succ]
  simp
theorem cw_down {n x c : Nat} (hc : c < n) (hx : x % 3 ≠ 2) : (cw n x c).set (n - c - 1) (1 - ((x % 3 : Nat) : Int) - 1) = cw n ((x + 1) * 3 ^ c) 0 := by
  rw [cw_set hc]
  unfold cw
  have h1 : n - 0 = (n - c - 1 + 1) + c := by omega
  rw [h1, wg_app, wg, show (x + 1) / 3 = x / 3 by omega, show (x + 1) % 3 = x % 3 + 1 by omega]
  simp
  omega
theorem cw_first {n : Nat} (hn : n ≤ 9) : cw n 0 0 = List.replicate n 1 ++ List.replicate (9 - n) 0 := by
  unfold cw
  have := wg_app 0 0 n
  rw [Nat.zero_mul, Nat.zero_add] at this
  rw [Nat.sub_zero, this]
  simp [wg]
def fillw (j : Nat) : List Int := List.replicate j 1 ++ List.replicate (9 - j) 0
theorem fillw_len {j : Nat} (h : j ≤ 9) : (fillw j).length = 9 := by
  unfold fillw; rw [List.length_append, List.length_replicate, List.length_replicate]; omega
theorem fillw_set {j : Nat} (h : j < 9) : (fillw j).set j 1 = fillw (j + 1) := by
  unfold fillw
  rw [List.set_append_right _ _ (by rw [List.length_replicate]; exact Nat.le_refl _), List.length_replicate, Nat.sub_self, show 9 - j = (9 - (j + 1)) + 1 by omega, List.replicate_succ, List.set_cons_zero, List.replicate_succ']
  simp
end Go.Wg
