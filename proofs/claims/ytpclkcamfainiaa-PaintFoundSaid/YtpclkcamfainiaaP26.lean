/- How far colourings go. -/
import Derived.Test.YtpclkcamfainiaaP25
set_option linter.unusedSimpArgs false
set_option linter.unusedVariables false
set_option maxRecDepth 100000
namespace Go.Pt
open Go Go.Abs Go.Proofs.Ytpclkcamfainiaa
theorem av_2' : ∀ n, n ≤ 8 → ∀ l, l ≤ 4 → 1 ≤ n → 2 ≤ l → (avA n 2 l).isEmpty = decide (l ≤ n) := by decide +kernel
theorem av_33a : (avA 5 3 3).isEmpty = false := by decide +kernel
theorem av_33b : (avA 6 3 3).isEmpty = true := by decide +kernel
theorem sl_1 : (allC lsF 1 1 []).isEmpty = false ∧ (allC lsF 2 4 []).isEmpty = false ∧ (allC lsF 1 2 []).isEmpty = true ∧ (allC lsF 2 5 []).isEmpty = true := by decide +kernel
theorem sl_13 : (allC lsF 3 13 []).isEmpty = false := by decide +kernel
theorem sl_14 : (allC lsF 3 14 []).isEmpty = true := by decide +kernel
theorem st_1 : (allC (lpF 3) 2 8 []).isEmpty = false ∧ (allC (lpF 3) 2 9 []).isEmpty = true ∧ (allC (lpF 3) 1 2 []).isEmpty = false ∧ (allC (lpF 3) 1 3 []).isEmpty = true ∧ (allC (lpF 4) 1 3 []).isEmpty = false ∧ (allC (lpF 4) 1 4 []).isEmpty = true := by decide +kernel
theorem emp_iff {l : List (List Int)} : l.isEmpty = false ↔ ∃ x, x ∈ l := by
  cases l with
  | nil => simp
  | cons x l => simp
theorem all_pre {F : List Int → Bool} {r f f' : Nat} {x : List Int} (h : f' ≤ f) (H : x ∈ allC F r f []) : x.take f' ∈ allC F r f' [] := by
  obtain ⟨h1, h2, h3⟩ := all_iff.1 H
  refine all_iff.2 ⟨by simp; omega, fun y hy => h2 y (List.mem_of_mem_take hy), fun m a b => ?_⟩
  rw [List.take_take, Nat.min_eq_left b]
  exact h3 m a (by omega)
theorem all_thr {F : List Int → Bool} {r a : Nat} (h1 : (allC F r a []).isEmpty = false) (h2 : (allC F r (a + 1) []).isEmpty = true) (n : Nat) : (allC F r n []).isEmpty = decide (a + 1 ≤ n) := by
  by_cases h : a + 1 ≤ n
  · rw [decide_eq_true h]
    cases he : (allC F r n []).isEmpty with
    | true => rfl
    | false =>
      obtain ⟨x, hx⟩ := emp_iff.1 he
      rw [emp_iff.2 ⟨_, all_pre h hx⟩] at h2
      cases h2
  · rw [decide_eq_false h]
    obtain ⟨x, hx⟩ := emp_iff.1 h1
    exact emp_iff.2 ⟨_, all_pre (show n ≤ a by omega) hx⟩
theorem av_down {k l : Nat} (hk : 2 ≤ k) (hl : 2 ≤ l) : ∀ d n, n + d ≤ 8 → (avA (n + d) k l).isEmpty = false → (avA n k l).isEmpty = false
  | 0, n, _, h => h
  | d + 1, n, hn, h => by
    obtain ⟨x, hx⟩ := emp_iff.1 h
    have := rsV_av hn hk hl hx
    rw [show n + (d + 1) - 1 = n + d by omega] at this
    exact av_down hk hl d n (by omega) (emp_iff.2 ⟨_, this⟩)
theorem av_33 {n : Nat} (hn : n ≤ 8) : (avA n 3 3).isEmpty = decide (6 ≤ n) := by
  by_cases h : 6 ≤ n
  · rw [decide_eq_true h]
    cases he : (avA n 3 3).isEmpty with
    | true => rfl
    | false =>
      have := av_down (k := 3) (l := 3) (by omega) (by omega) (n - 6) 6 (by omega) (by rw [show 6 + (n - 6) = n by omega]; exact he)
      rw [av_33b] at this
      cases this
  · rw [decide_eq_false h]
    exact av_down (k := 3) (l := 3) (by omega) (by omega) (5 - n) n (by omega) (by rw [show n + (5 - n) = 5 by omega]; exact av_33a)
def W8 : List Int := (prN 8).map fun p => if p.2 - p.1 = 1 ∨ p.2 - p.1 = 4 ∨ p.2 - p.1 = 7 then 0 else 1
theorem W8_ok : W8.length = tri 8 ∧ (W8.all fun z => decide (0 ≤ z ∧ z < 2)) = true ∧ (gr (joins 8 W8 0) 3 8 [] 0).isNone = true ∧ (gr (joins 8 W8 1) 4 8 [] 0).isNone = true := by decide +kernel
theorem W8_av : W8 ∈ avA 8 3 4 := by
  obtain ⟨h1, h2, h3, h4⟩ := W8_ok
  rw [Option.isNone_iff_eq_none, gr_none (by simp)] at h3 h4
  refine (av_iff (by omega) (by omega) (by omega)).2 ⟨h1, fun z hz => ?_, h3, h4⟩
  have := List.all_eq_true.1 h2 z hz
  simpa using this
theorem av_34 {n : Nat} (hn : n ≤ 8) : (avA n 3 4).isEmpty = false :=
  av_down (k := 3) (l := 4) (by omega) (by omega) (8 - n) n (by omega) (by rw [show n + (8 - n) = 8 by omega]; exact emp_iff.2 ⟨_, W8_av⟩)
theorem emp_len {l : List (List Int)} : l.isEmpty = decide (l.length = 0) := by cases l <;> simp
theorem av_2 {n l : Nat} (hn : 1 ≤ n ∧ n ≤ 8) (hl : 2 ≤ l ∧ l ≤ 4) : (avA n 2 l).isEmpty = decide (l ≤ n) ∧ (avA n l 2).isEmpty = decide (l ≤ n) := by
  have h := av_2' n hn.2 l hl.2 hn.1 hl.1
  refine ⟨h, ?_⟩
  rw [emp_len, avA_flip hn.2 hl.1 (by omega), ← emp_len]
  exact h
def eE (b : Bool) : Int := if b = true then 5 else 0
theorem eE_5 {b : Bool} : (eE b == 5) = b := by cases b <;> rfl
theorem eE_0 {b : Bool} : (eE b == 0) = !b := by cases b <;> rfl
theorem hd_emp {l : List (List Int)} : (if l.head?.isSome = true then (0 : Int) else 5) = eE l.isEmpty := by cases l <;> rfl
theorem avd_eE {n k l : Nat} (ok : avdOK n k l) : avdE n k l = eE (avA n k l).isEmpty := by rw [avdE, if_pos ok]; exact hd_emp
theorem sml_eE {n r : Nat} (ok : smlOK n r) : smlE n r = eE (allC lsF r n []).isEmpty := by rw [smlE, if_pos ok]; exact hd_emp
theorem stl_eE {n r k : Nat} (ok : stlOK n r k) : stlE n r k = eE (allC (lpF k) r n []).isEmpty := by rw [stlE, if_pos ok]; exact hd_emp
theorem schur {n r : Nat} (hr : 1 ≤ r ∧ r ≤ 3) : (allC lsF r n []).isEmpty = decide ([2, 5, 14].getD (r - 1) 0 ≤ n) := by
  obtain ⟨a, b, c, d⟩ := sl_1
  rcases (show r = 1 ∨ r = 2 ∨ r = 3 by omega) with rfl | rfl | rfl
  · exact all_thr a c n
  · exact all_thr b d n
  · exact all_thr sl_13 sl_14 n
theorem waerden {m k : Nat} (hk : k = 3 ∨ k = 4) : (allC (lpF 3) 2 m []).isEmpty = decide (9 ≤ m) ∧ (allC (lpF k) 1 m []).isEmpty = decide (k ≤ m) := by
  obtain ⟨a, b, c, d, e, f⟩ := st_1
  refine ⟨all_thr a b m, ?_⟩
  rcases hk with rfl | rfl
  · exact all_thr c d m
  · exact all_thr e f m
end Go.Pt
