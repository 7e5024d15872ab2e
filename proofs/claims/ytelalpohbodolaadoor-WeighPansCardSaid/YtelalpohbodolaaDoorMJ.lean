/- The first weighing, weight by weight. -/
import Derived.Test.YtelalpohbodolaaDoorDN
set_option linter.unusedVariables false
set_option linter.unusedSimpArgs false
namespace Go.Wg
def fP : List Int → Int → Option (List Int)
  | [], t => if t = 0 then some [] else none
  | z :: r, t => ((fP r (t - z)).map (1 :: ·)).or (((fP r t).map (0 :: ·)).or ((fP r (t + z)).map (-1 :: ·)))
def dotp : List Int → List Int → Int
  | a :: l, z :: r => a * z + dotp l r
  | _, _ => 0
def WG (n : Nat) : List (List Int) := (List.range (3 ^ n)).map (wg n)
theorem wg_head : ∀ (n d k : Nat), k < 3 ^ n → d < 3 → wg (n + 1) (d * 3 ^ n + k) = (1 - (d : Int)) :: wg n k
  | 0, d, k, hk, hd => by
    have : k = 0 := by simpa using hk
    subst this
    simp only [wg, Nat.pow_zero, Nat.mul_one, Nat.add_zero, List.nil_append]
    rw [show d % 3 = d by omega]
  | n + 1, d, k, hk, hd => by
    have e : d * 3 ^ (n + 1) + k = (d * 3 ^ n) * 3 + k := by rw [Nat.pow_succ, Nat.mul_assoc]
    rw [Nat.pow_succ] at hk
    rw [wg, e, show (d * 3 ^ n * 3 + k) / 3 = d * 3 ^ n + k / 3 by omega, show (d * 3 ^ n * 3 + k) % 3 = k % 3 by omega, wg_head n d (k / 3) (by omega) hd]
    rfl
theorem WG_suc (n : Nat) : WG (n + 1) = (WG n).map (1 :: ·) ++ ((WG n).map (0 :: ·) ++ (WG n).map (-1 :: ·)) := by
  unfold WG
  have e : 3 ^ (n + 1) = 3 ^ n + (3 ^ n + 3 ^ n) := by rw [Nat.pow_succ]; omega
  rw [e, List.range_add, List.map_append, List.range_add, List.map_append, List.map_append, List.map_map, List.map_map, List.map_map, List.map_map, List.map_map, List.map_map]
  congr 1
  · apply List.map_congr_left
    intro k hk
    have := wg_head n 0 k (List.mem_range.1 hk) (by omega)
    rw [Nat.zero_mul, Nat.zero_add] at this
    exact this
  · congr 1
    · apply List.map_congr_left
      intro k hk
      have := wg_head n 1 k (List.mem_range.1 hk) (by omega)
      rw [Nat.one_mul] at this
      exact this
    · apply List.map_congr_left
      intro k hk
      have := wg_head n 2 k (List.mem_range.1 hk) (by omega)
      rw [show 2 * 3 ^ n + k = 3 ^ n + (3 ^ n + k) by omega] at this
      exact this
theorem WG_find : ∀ (zs : List Int) (t : Int), (WG zs.length).find? (fun l => decide (dotp l zs = t)) = fP zs t
  | [], t => by
    have : WG ([] : List Int).length = [[]] := rfl
    rw [this, fP]
    by_cases h : t = 0
    · subst h; rfl
    · have e : decide (dotp [] [] = t) = false := decide_eq_false (by show ¬ (0 : Int) = t; omega)
      rw [if_neg h, List.find?_cons, e]; rfl
  | z :: r, t => by
    have step : ∀ d : Int, ((WG r.length).map (d :: ·)).find? (fun l => decide (dotp l (z :: r) = t)) = (fP r (t - d * z)).map (d :: ·) := fun d => by
      rw [List.find?_map, ← WG_find r (t - d * z)]
      congr 1
      congr 1
      funext l
      show decide (dotp (d :: l) (z :: r) = t) = decide (dotp l r = t - d * z)
      rw [Bool.eq_iff_iff, decide_eq_true_eq, decide_eq_true_eq, dotp]
      omega
    rw [List.length_cons, WG_suc, List.find?_append, List.find?_append, step, step, step, fP]
    rw [show t - 1 * z = t - z by omega, show t - 0 * z = t by omega, show t - -1 * z = t + z by omega]
theorem dotp_snoc : ∀ {l r : List Int} {a z : Int}, l.length = r.length → dotp (l ++ [a]) (r ++ [z]) = dotp l r + a * z
  | [], [], a, z, _ => by simp [dotp]
  | [], _ :: _, _, _, h => by simp at h
  | _ :: _, [], _, _, h => by simp at h
  | x :: l, y :: r, a, z, h => by
    simp only [List.cons_append, dotp]
    rw [dotp_snoc (by simpa using h)]
    omega
theorem wsum_dot {l Z zs : List Int} (h : l.length = zs.length) : ∀ i, i ≤ zs.length → wsum (l ++ Z) zs i = dotp (l.take i) (zs.take i)
  | 0, _ => by simp [wsum, dotp]
  | i + 1, hi => by
    have ih := wsum_dot (l := l) (Z := Z) h i (by omega)
    have e1 : (l ++ Z).getD i 0 = l.getD i 0 := by
      rw [List.getD_eq_getElem?_getD, List.getElem?_append_left (by omega), ← List.getD_eq_getElem?_getD]
    have e2 : l.take (i + 1) = l.take i ++ [l.getD i 0] := by
      rw [List.take_succ_eq_append_getElem (by omega), List.getD_eq_getElem?_getD, List.getElem?_eq_getElem (by omega), Option.getD_some]
    have e3 : zs.take (i + 1) = zs.take i ++ [zs.getD i 0] := by
      rw [List.take_succ_eq_append_getElem (by omega), List.getD_eq_getElem?_getD, List.getElem?_eq_getElem (by omega), Option.getD_some]
    rw [wsum, ih, e1, e2, e3, dotp_snoc (by simp; omega)]
theorem wfst_fP (zs : List Int) (t : Int) : (wfst zs.length (wP zs t)).map (wg zs.length) = fP zs t := by
  rw [← WG_find]
  unfold WG wfst
  rw [List.find?_map]
  congr 1
  congr 1
  funext s
  simp only [Function.comp]
  unfold wP
  have e : cw zs.length s 0 = wg zs.length s ++ List.replicate (9 - zs.length) 0 := by unfold cw; simp
  rw [e, wsum_dot (wg_len _ _) zs.length (Nat.le_refl _), List.take_of_length_le (by rw [wg_len]; exact Nat.le_refl _), List.take_of_length_le (Nat.le_refl _)]
theorem fP_out : ∀ {zs : List Int} {t : Int}, (∀ z ∈ zs, 0 ≤ z) → zs.sum < t ∨ t < -zs.sum → fP zs t = none
  | [], t, _, h => by rw [fP, if_neg]; simp at h; omega
  | z :: r, t, hz, h => by
    have z0 := hz z (by simp)
    have ih := fun u hu => fP_out (zs := r) (t := u) (fun x hx => hz x (List.mem_cons_of_mem _ hx)) hu
    rw [List.sum_cons] at h
    rw [fP, ih _ (by omega), ih _ (by omega), ih _ (by omega)]
    rfl
theorem fP_len : ∀ {zs l : List Int} {t : Int}, fP zs t = some l → l.length = zs.length
  | [], l, t, h => by
    rw [fP] at h
    split at h
    · cases h; rfl
    · cases h
  | z :: r, l, t, h => by
    rw [fP] at h
    cases e1 : fP r (t - z) with
    | some l1 => rw [e1] at h; simp at h; rw [← h, List.length_cons, fP_len e1, List.length_cons]
    | none =>
      cases e2 : fP r t with
      | some l1 => rw [e1, e2] at h; simp at h; rw [← h, List.length_cons, fP_len e2, List.length_cons]
      | none =>
        rw [e1, e2] at h
        cases e3 : fP r (t + z) with
        | some l1 => rw [e3] at h; simp at h; rw [← h, List.length_cons, fP_len e3, List.length_cons]
        | none => rw [e3] at h; cases h
/- Those before have failed. -/
theorem fP_hit {r l : List Int} {z t : Int} {c : Nat} (hc : c < 3) (hb : ∀ j : Nat, j < c → fP r (t - (1 - (j : Int)) * z) = none) (h : fP r (t - (1 - (c : Int)) * z) = some l) : fP (z :: r) t = some ((1 - (c : Int)) :: l) := by
  have c3 : c = 0 ∨ c = 1 ∨ c = 2 := by omega
  rw [fP]
  rcases c3 with rfl | rfl | rfl
  · rw [show t - (1 - ((0 : Nat) : Int)) * z = t - z by simp] at h
    rw [h]; rfl
  · have h0 := hb 0 (by omega)
    rw [show t - (1 - ((0 : Nat) : Int)) * z = t - z by simp] at h0
    rw [show t - (1 - ((1 : Nat) : Int)) * z = t by simp] at h
    rw [h0, h]; rfl
  · have h0 := hb 0 (by omega)
    have h1 := hb 1 (by omega)
    rw [show t - (1 - ((0 : Nat) : Int)) * z = t - z by simp] at h0
    rw [show t - (1 - ((1 : Nat) : Int)) * z = t by simp] at h1
    rw [show t - (1 - ((2 : Nat) : Int)) * z = t + z by simp] at h
    rw [h0, h1, h]; rfl
theorem fP_miss {r : List Int} {z t : Int} (hb : ∀ j : Nat, j < 3 → fP r (t - (1 - (j : Int)) * z) = none) : fP (z :: r) t = none := by
  have h0 := hb 0 (by omega)
  have h1 := hb 1 (by omega)
  have h2 := hb 2 (by omega)
  rw [show t - (1 - ((0 : Nat) : Int)) * z = t - z by simp] at h0
  rw [show t - (1 - ((1 : Nat) : Int)) * z = t by simp] at h1
  rw [show t - (1 - ((2 : Nat) : Int)) * z = t + z by simp] at h2
  rw [fP, h0, h1, h2]; rfl
end Go.Wg
