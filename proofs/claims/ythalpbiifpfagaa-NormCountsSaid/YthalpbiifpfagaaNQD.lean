/- Sums of four squares are sums of divisors. -/
import Derived.Test.YthalpbiifpfagaaNQA
import Derived.Test.YthalpbiifpfagaaNQC
set_option linter.unusedSimpArgs false
set_option linter.unusedVariables false
set_option maxHeartbeats 4000000
set_option maxRecDepth 20000

namespace Go.Qt4

theorem all_ok {f : Nat → Bool} (h0 : f 0 = true) (h1 : f 1 = true) (h2 : f 2 = true) (h3 : f 3 = true) (h4 : f 4 = true) (h5 : f 5 = true) (h6 : f 6 = true) (h7 : f 7 = true) (h8 : f 8 = true) (h9 : f 9 = true) (h10 : f 10 = true) (h11 : f 11 = true) (h12 : f 12 = true) (h13 : f 13 = true) (h14 : f 14 = true) (h15 : f 15 = true) (h16 : f 16 = true) (h17 : f 17 = true) (h18 : f 18 = true) (h19 : f 19 = true) {t : Nat} (h : t < 20) : f t = true := by
  rcases (by omega : t = 0 ∨ t = 1 ∨ t = 2 ∨ t = 3 ∨ t = 4 ∨ t = 5 ∨ t = 6 ∨ t = 7 ∨ t = 8 ∨ t = 9 ∨ t = 10 ∨ t = 11 ∨ t = 12 ∨ t = 13 ∨ t = 14 ∨ t = 15 ∨ t = 16 ∨ t = 17 ∨ t = 18 ∨ t = 19) with rfl | rfl | rfl | rfl | rfl | rfl | rfl | rfl | rfl | rfl | rfl | rfl | rfl | rfl | rfl | rfl | rfl | rfl | rfl | rfl <;> assumption
theorem okA_all {t : Nat} (h : t < 20) : okA t = true := all_ok okA0 okA1 okA2 okA3 okA4 okA5 okA6 okA7 okA8 okA9 okA10 okA11 okA12 okA13 okA14 okA15 okA16 okA17 okA18 okA19 h
theorem okB_all {t : Nat} (h : t < 20) : okB t = true := all_ok okB0 okB1 okB2 okB3 okB4 okB5 okB6 okB7 okB8 okB9 okB10 okB11 okB12 okB13 okB14 okB15 okB16 okB17 okB18 okB19 h
theorem lenL4 : L4.length = 201 := by decide +kernel
theorem lenLO : LO.length = 200 := by decide +kernel
theorem bb1 : 1 < BB := by decide
theorem digits {l m : List Nat} {lo c x : Nat} (h : ev BB l / BB ^ lo % BB ^ c = ev BB m) (hl : l.length < BB) (hm : m.length < BB) (hx : x < c) : l.count (lo + x) = m.count x := by
  rw [← ev_digit bb1 hl, ← ev_digit bb1 hm, ← h, low_digit hx, Nat.div_div_eq_div_mul, ← Nat.pow_add]
theorem zeroA : ev BB L4 * ev BB L4 * (ev BB L4 * ev BB L4) / BB ^ 0 % BB = 1 := by decide +kernel
theorem countA0 : (pr (pr L4)).count 0 = 1 := by
  rw [← ev_digit bb1 (l := pr (pr L4)) (n := 0) (by rw [len4, lenL4]; decide), ev4]
  exact zeroA
theorem countA {n : Nat} (h0 : 0 < n) (hn : n ≤ 10000) : (pr (pr L4)).count n = 8 * sigmaN' n 4 n := by
  obtain ⟨t, x, ht, hx, rfl⟩ : ∃ t x, t < 20 ∧ x < 500 ∧ n = 500 * t + 1 + x := ⟨(n - 1) / 500, (n - 1) % 500, by omega, by omega, by omega⟩
  have hb := Nat.eq_of_beq_eq_true (okA_all ht)
  rw [sumB_eq (by omega) (by omega)] at hb
  have h := digits (l := pr (pr L4)) (m := rep (sigB 4 (500 * t + 1) 500 (500 * t + 500)) 8) (lo := 500 * t + 1) (c := 500) (x := x)
    (by rw [ev4, ev_rep]; exact hb)
    (by rw [len4, lenL4]; decide)
    (by
      have h1 := len_sigB (m := 4) (c := 500) (show 0 < 500 * t + 1 by omega) (500 * t + 500)
      have h2 : (500 * t + 500) * (500 * t + 1 + 500) ≤ 10000 * 10001 := Nat.mul_le_mul (by omega) (by omega)
      rw [len_rep]
      unfold BB
      omega)
    hx
  rw [h, count_rep, count_sigB hx]
  obtain ⟨k, hk⟩ : ∃ k, 500 * t + 500 = 500 * t + 1 + x + k := ⟨499 - x, by omega⟩
  rw [hk, sigma_up (by omega) k]
theorem pr_scale (c : Nat) (l : List Nat) : pr (l.map (c * ·)) = (pr l).map (c * ·) := prd_scale c l l
theorem countB {n : Nat} (h0 : 0 < n) (hn : n ≤ 10000) : (pr (pr LO)).count (4 * n) + (pr (pr L4)).count n = 24 * sigmaN' n 2 n := by
  obtain ⟨t, x, ht, hx, rfl⟩ : ∃ t x, t < 20 ∧ x < 500 ∧ n = 500 * t + 1 + x := ⟨(n - 1) / 500, (n - 1) % 500, by omega, by omega, by omega⟩
  have hb := Nat.eq_of_beq_eq_true (okB_all ht)
  rw [sumB_eq (by omega) (by omega)] at hb
  have h := digits (l := pr (pr LO) ++ pr (pr (L4.map (4 * ·)))) (m := (rep (sigB 2 (500 * t + 1) 500 (500 * t + 500)) 24).map (4 * ·)) (lo := 4 * (500 * t + 1)) (c := 4 * 500) (x := 4 * x)
    (by rw [ev_append, ev4, ev4, ev_scale, ev_scale, ev_rep]; exact hb)
    (by rw [List.length_append, len4, len4, List.length_map, lenL4, lenLO]; decide)
    (by
      have h1 := len_sigB (m := 2) (c := 500) (show 0 < 500 * t + 1 by omega) (500 * t + 500)
      have h2 : (500 * t + 500) * (500 * t + 1 + 500) ≤ 10000 * 10001 := Nat.mul_le_mul (by omega) (by omega)
      rw [List.length_map, len_rep]
      unfold BB
      omega)
    (by omega)
  rw [← Nat.mul_add, List.count_append, pr_scale, pr_scale, count_scale (by omega), count_scale (by omega), count_rep, count_sigB hx] at h
  rw [h]
  obtain ⟨k, hk⟩ : ∃ k, 500 * t + 500 = 500 * t + 1 + x + k := ⟨499 - x, by omega⟩
  rw [hk, sigma_up (by omega) k]

end Go.Qt4

