/- Sums of four squares and sums of divisors, compared as digits of one big number. -/
import Derived.Test.YthalpbiifpfagaaB
set_option linter.unusedSimpArgs false
set_option linter.unusedVariables false
set_option maxHeartbeats 4000000
set_option maxRecDepth 20000

namespace Go.Qt4

/-- A sum of powers of a base. -/
def ev (b : Nat) : List Nat → Nat
  | [] => 0
  | e :: r => b ^ e + ev b r
theorem ev_append (b : Nat) : ∀ l m : List Nat, ev b (l ++ m) = ev b l + ev b m
  | [], m => by simp [ev]
  | e :: r, m => by simp [ev, ev_append b r m, Nat.add_assoc]
/-- All sums of an element of each. -/
def prd (l m : List Nat) : List Nat := l.flatMap fun e => m.map (e + ·)
theorem ev_map (b e : Nat) : ∀ m : List Nat, ev b (m.map (e + ·)) = b ^ e * ev b m
  | [] => by simp [ev]
  | f :: r => by simp [ev, ev_map b e r, Nat.pow_add, Nat.mul_add]
theorem ev_prd (b : Nat) (m : List Nat) : ∀ l, ev b (prd l m) = ev b l * ev b m
  | [] => by simp [ev, prd]
  | e :: r => by
    have := ev_prd b m r
    simp only [prd, List.flatMap_cons] at this ⊢
    rw [ev_append, ev_map, this, ev, Nat.add_mul]
theorem len_prd (m : List Nat) : ∀ l, (prd l m).length = l.length * m.length
  | [] => by simp [prd]
  | e :: r => by
    have := len_prd m r
    simp only [prd, List.flatMap_cons, List.length_append, List.length_map, List.length_cons] at this ⊢
    rw [this, Nat.succ_mul, Nat.add_comm]
theorem cn0 {e n : Nat} {r : List Nat} (h : e ≠ n) : (e :: r).count n = r.count n := by rw [List.count_cons, if_neg (by simp; omega)]; rfl
/-- The digits are the counts. -/
theorem ev_split (b n : Nat) (hb : 1 < b) : ∀ l : List Nat, ∃ L K, ev b l = L + l.count n * b ^ n + b ^ (n + 1) * K ∧ b * L ≤ l.length * b ^ n ∧ (n = 0 → L = 0)
  | [] => ⟨0, 0, by simp [ev], by simp, fun _ => rfl⟩
  | e :: r => by
    obtain ⟨L, K, h1, h2, h3⟩ := ev_split b n hb r
    rcases Nat.lt_trichotomy e n with h | h | h
    · refine ⟨b ^ e + L, K, ?_, ?_, fun h0 => by omega⟩
      · rw [ev, h1, cn0 (by omega)]; omega
      · have : b ^ (e + 1) ≤ b ^ n := Nat.pow_le_pow_right (by omega) h
        rw [Nat.pow_succ, Nat.mul_comm] at this
        rw [Nat.mul_add, List.length_cons, Nat.succ_mul]
        omega
    · subst h
      refine ⟨L, K, ?_, ?_, h3⟩
      · rw [ev, h1, List.count_cons, if_pos (by simp), Nat.add_mul]; omega
      · rw [List.length_cons, Nat.succ_mul]; omega
    · refine ⟨L, b ^ (e - (n + 1)) + K, ?_, ?_, h3⟩
      · rw [ev, h1, cn0 (by omega), Nat.mul_add, ← Nat.pow_add, show n + 1 + (e - (n + 1)) = e by omega]; omega
      · rw [List.length_cons, Nat.succ_mul]; omega
theorem ev_digit {b n : Nat} (hb : 1 < b) {l : List Nat} (hl : l.length < b) : ev b l / b ^ n % b = l.count n := by
  obtain ⟨L, K, h1, h2, h3⟩ := ev_split b n hb l
  have hp : 0 < b ^ n := Nat.pow_pos (by omega)
  have hL : L < b ^ n := by
    rcases Nat.lt_or_ge L (b ^ n) with h | h
    · exact h
    · have h4 : b * b ^ n ≤ b * L := Nat.mul_le_mul_left b h
      have h5 : b * b ^ n ≤ l.length * b ^ n := Nat.le_trans h4 h2
      have := Nat.le_of_mul_le_mul_right h5 hp
      omega
  have hc : l.count n < b := Nat.lt_of_le_of_lt List.count_le_length hl
  rw [h1, show L + l.count n * b ^ n + b ^ (n + 1) * K = L + (l.count n + b * K) * b ^ n by rw [Nat.add_mul, Nat.pow_succ, Nat.mul_comm (b ^ n) b, Nat.mul_right_comm, Nat.add_assoc]]
  rw [Nat.add_mul_div_right _ _ hp, Nat.div_eq_of_lt hL, Nat.zero_add, Nat.add_mul_mod_self_left, Nat.mod_eq_of_lt hc]
/-- Counts of sums. -/
def cnv (f g : Nat → Nat) (n : Nat) : Nat → Nat
  | 0 => 0
  | k + 1 => cnv f g n k + f k * g (n - k)
theorem cnv_add (f f' g : Nat → Nat) (n : Nat) : ∀ k, cnv (fun v => f v + f' v) g n k = cnv f g n k + cnv f' g n k
  | 0 => rfl
  | k + 1 => by simp only [cnv, cnv_add f f' g n k, Nat.add_mul]; omega
theorem cnv_one (e : Nat) (g : Nat → Nat) (n : Nat) : ∀ k, cnv (fun v => if e = v then 1 else 0) g n k = if e < k then g (n - e) else 0
  | 0 => by simp [cnv]
  | k + 1 => by
    rw [cnv, cnv_one e g n k]
    by_cases h : e = k
    · subst h; simp
    · rw [if_neg h, Nat.zero_mul, Nat.add_zero]
      by_cases h2 : e < k
      · rw [if_pos h2, if_pos (by omega)]
      · rw [if_neg h2, if_neg (by omega)]
theorem cnv_zero (g : Nat → Nat) (n : Nat) : ∀ k, cnv (fun _ => 0) g n k = 0
  | 0 => rfl
  | k + 1 => by simp [cnv, cnv_zero g n k]
theorem cnv_congr {f f' g g' : Nat → Nat} {n : Nat} : ∀ {k}, (∀ v, v < k → f v = f' v) → (∀ v, v < k → g (n - v) = g' (n - v)) → cnv f g n k = cnv f' g' n k
  | 0, _, _ => rfl
  | k + 1, h, h' => by rw [cnv, cnv, cnv_congr (fun v hv => h v (by omega)) (fun v hv => h' v (by omega)), h k (by omega), h' k (by omega)]
theorem count_map_add (e n : Nat) : ∀ m : List Nat, (m.map (e + ·)).count n = if e ≤ n then m.count (n - e) else 0
  | [] => by simp
  | f :: r => by
    rw [List.map_cons, List.count_cons, count_map_add e n r, List.count_cons]
    by_cases h : e ≤ n
    · rw [if_pos h, if_pos h]
      by_cases h2 : f = n - e
      · rw [if_pos (by simp; omega), if_pos (by simp; omega)]
      · rw [if_neg (by simp; omega), if_neg (by simp; omega)]
    · rw [if_neg h, if_neg h, if_neg (by simp; omega)]
theorem count_prd (m : List Nat) (n : Nat) : ∀ l, (prd l m).count n = cnv (fun v => l.count v) (fun v => m.count v) n (n + 1)
  | [] => by simp [prd, cnv_zero]
  | e :: r => by
    have ih := count_prd m n r
    simp only [prd, List.flatMap_cons] at ih ⊢
    rw [List.count_append, ih, count_map_add]
    have : (fun v => List.count v (e :: r)) = fun v => r.count v + (if e = v then 1 else 0) := by
      funext v
      rw [List.count_cons]
      by_cases h : e = v
      · simp [h]
      · simp [h]
    rw [this, cnv_add, cnv_one]
    by_cases h : e ≤ n
    · rw [if_pos h, if_pos (by omega)]; omega
    · rw [if_neg h, if_neg (by omega)]; omega

/- Sums over a range, halved so that the kernel can do them. -/
def sumN (f : Nat → Nat) (lo : Nat) : Nat → Nat
  | 0 => 0
  | c + 1 => sumN f lo c + f (lo + c)
theorem sumN_add (f : Nat → Nat) (lo a : Nat) : ∀ b, sumN f lo (a + b) = sumN f lo a + sumN f (lo + a) b
  | 0 => rfl
  | b + 1 => by
    show sumN f lo (a + b) + f (lo + (a + b)) = sumN f lo a + (sumN f (lo + a) b + f (lo + a + b))
    rw [sumN_add f lo a b, Nat.add_assoc lo a b, Nat.add_assoc]
def rs (f : Nat → Nat) : Nat → Nat → Nat → Nat
  | 0, lo, c => bif Nat.beq c 0 then 0 else f lo
  | k + 1, lo, c => bif Nat.beq c 0 then 0 else bif Nat.beq c 1 then f lo else rs f k lo (c / 2) + rs f k (lo + c / 2) (c - c / 2)
theorem rs_eq (f : Nat → Nat) : ∀ k lo c, c ≤ 2 ^ k → rs f k lo c = sumN f lo c
  | 0, lo, c, h => by
    rcases (by omega : c = 0 ∨ c = 1) with rfl | rfl
    · rfl
    · show f lo = 0 + f (lo + 0)
      rw [Nat.zero_add, Nat.add_zero]
  | k + 1, lo, c, h => by
    rw [Nat.pow_succ] at h
    rw [rs]
    by_cases h0 : c = 0
    · subst h0; rfl
    · by_cases h1 : c = 1
      · subst h1
        show f lo = 0 + f (lo + 0)
        rw [Nat.zero_add, Nat.add_zero]
      · have e0 : Nat.beq c 0 = false := by
          cases hb : Nat.beq c 0
          · rfl
          · exact absurd (Nat.eq_of_beq_eq_true hb) h0
        have e1 : Nat.beq c 1 = false := by
          cases hb : Nat.beq c 1
          · rfl
          · exact absurd (Nat.eq_of_beq_eq_true hb) h1
        rw [e0, e1, cond_false, cond_false, rs_eq f k _ _ (by omega), rs_eq f k _ _ (by omega), ← sumN_add, show c / 2 + (c - c / 2) = c by omega]
theorem sumN_congr {f g : Nat → Nat} {lo : Nat} : ∀ {c}, (∀ i, lo ≤ i → i < lo + c → f i = g i) → sumN f lo c = sumN g lo c
  | 0, _ => rfl
  | c + 1, h => by rw [sumN, sumN, sumN_congr (fun i h1 h2 => h i h1 (by omega)), h (lo + c) (by omega) (by omega)]

/- A list many times; the multiples of a number. -/
def rep (l : List Nat) : Nat → List Nat
  | 0 => []
  | w + 1 => rep l w ++ l
theorem ev_rep (b : Nat) (l : List Nat) : ∀ w, ev b (rep l w) = w * ev b l
  | 0 => by simp [rep, ev]
  | w + 1 => by rw [rep, ev_append, ev_rep b l w, Nat.succ_mul]
theorem len_rep (l : List Nat) : ∀ w, (rep l w).length = w * l.length
  | 0 => by simp [rep]
  | w + 1 => by rw [rep, List.length_append, len_rep l w, Nat.succ_mul]
theorem count_rep (l : List Nat) (n : Nat) : ∀ w, (rep l w).count n = w * l.count n
  | 0 => by simp [rep]
  | w + 1 => by rw [rep, List.count_append, count_rep l n w, Nat.succ_mul]
def mulB (lo d k0 : Nat) : Nat → List Nat
  | 0 => []
  | c + 1 => mulB lo d k0 c ++ [d * (k0 + c) - lo]
theorem ev_mulB (b lo d k0 : Nat) : ∀ c, ev b (mulB lo d k0 c) = sumN (fun k => b ^ (d * k - lo)) k0 c
  | 0 => rfl
  | c + 1 => by rw [mulB, ev_append, ev_mulB b lo d k0 c, sumN]; simp [ev]
theorem len_mulB (lo d k0 : Nat) : ∀ c, (mulB lo d k0 c).length = c
  | 0 => rfl
  | c + 1 => by simp [mulB, len_mulB lo d k0 c]
theorem count_mulB {lo d k0 x : Nat} (hd : 0 < d) (h : lo ≤ d * k0) : ∀ c, (mulB lo d k0 c).count x = if (lo + x) % d = 0 ∧ d * k0 ≤ lo + x ∧ lo + x < d * (k0 + c) then 1 else 0
  | 0 => by
    rw [if_neg (by rw [Nat.add_zero]; omega)]
    rfl
  | c + 1 => by
    have hle : d * k0 ≤ d * (k0 + c) := Nat.mul_le_mul_left d (by omega)
    have hs : d * (k0 + (c + 1)) = d * (k0 + c) + d := by rw [← Nat.add_assoc, Nat.mul_succ]
    rw [mulB, List.count_append, count_mulB hd h c, List.count_singleton]
    by_cases e : d * (k0 + c) = lo + x
    · have e1 : (lo + x) % d = 0 := by rw [← e]; exact Nat.mul_mod_right d _
      have e2 : (if (d * (k0 + c) - lo == x) = true then 1 else 0) = 1 := if_pos (by simp; omega)
      rw [e2, if_neg (by omega), if_pos ⟨e1, by omega, by omega⟩]
    · have e2 : (if (d * (k0 + c) - lo == x) = true then 1 else 0) = 0 := if_neg (by simp; omega)
      rw [e2, Nat.add_zero]
      by_cases g : (lo + x) % d = 0 ∧ d * k0 ≤ lo + x ∧ lo + x < d * (k0 + c)
      · rw [if_pos g, if_pos ⟨g.1, g.2.1, by omega⟩]
      · rw [if_neg g, if_neg]
        rintro ⟨g1, g2, g3⟩
        obtain ⟨q, hq⟩ : ∃ q, lo + x = d * q := ⟨(lo + x) / d, by have := Nat.div_add_mod (lo + x) d; omega⟩
        rw [hq] at g g1 g2 g3 e
        have h3 : q < k0 + (c + 1) := Nat.lt_of_mul_lt_mul_left g3
        have h4 : q ≠ k0 + c := fun e' => e (by rw [e'])
        exact g ⟨g1, g2, Nat.mul_lt_mul_of_pos_left (by omega) hd⟩
def kL (lo d : Nat) : Nat := (lo + d - 1) / d
def kC (lo c d : Nat) : Nat := (lo + c - 1) / d + 1 - kL lo d
theorem kL_le {lo d : Nat} (hd : 0 < d) : lo ≤ d * kL lo d := by
  have h1 := Nat.div_add_mod (lo + d - 1) d
  have h2 := Nat.mod_lt (lo + d - 1) hd
  unfold kL
  omega
theorem kL_pos {lo d : Nat} (hd : 0 < d) (hl : 0 < lo) : 1 ≤ kL lo d := (Nat.le_div_iff_mul_le hd).2 (by omega)
theorem kC_le {lo c d : Nat} (hd : 0 < d) (hl : 0 < lo) : d * kC lo c d ≤ lo + c - 1 := by
  have h1 := kL_pos hd hl
  have h2 : kC lo c d ≤ (lo + c - 1) / d := by
    unfold kC
    generalize (lo + c - 1) / d = q
    omega
  exact Nat.le_trans (Nat.mul_le_mul_left d h2) (Nat.mul_div_le _ _)
theorem k_in {lo c d x : Nat} (hd : 0 < d) (hx : x < c) (h : (lo + x) % d = 0) : d * kL lo d ≤ lo + x ∧ lo + x < d * (kL lo d + kC lo c d) := by
  obtain ⟨q, hq⟩ : ∃ q, lo + x = d * q := ⟨(lo + x) / d, by have := Nat.div_add_mod (lo + x) d; omega⟩
  constructor
  · rw [hq]
    refine Nat.mul_le_mul_left d ?_
    have : kL lo d < q + 1 := (Nat.div_lt_iff_lt_mul hd).2 (by rw [Nat.succ_mul, Nat.mul_comm q d, ← hq]; omega)
    omega
  · have h1 : (lo + c - 1) / d + 1 ≤ kL lo d + kC lo c d := by unfold kC; omega
    refine Nat.lt_of_lt_of_le ?_ (Nat.mul_le_mul_left d h1)
    have := Nat.lt_mul_div_succ (lo + c - 1) hd
    omega
def sigB (m lo c : Nat) : Nat → List Nat
  | 0 => []
  | d + 1 => sigB m lo c d ++ (if (d + 1) % m ≠ 0 then rep (mulB lo (d + 1) (kL lo (d + 1)) (kC lo c (d + 1))) (d + 1) else [])
def sigF (b m lo c d : Nat) : Nat := if d % m ≠ 0 then d * sumN (fun k => b ^ (d * k - lo)) (kL lo d) (kC lo c d) else 0
theorem ev_sigB (b m lo c : Nat) : ∀ d, ev b (sigB m lo c d) = sumN (sigF b m lo c) 1 d
  | 0 => rfl
  | d + 1 => by
    rw [sigB, ev_append, ev_sigB b m lo c d, sumN, sigF, Nat.add_comm 1 d]
    by_cases h : (d + 1) % m ≠ 0
    · rw [if_pos h, if_pos h, ev_rep, ev_mulB]
    · rw [if_neg h, if_neg h]; rfl
theorem len_sigB {m lo c : Nat} (hl : 0 < lo) : ∀ d, (sigB m lo c d).length ≤ d * (lo + c)
  | 0 => by simp [sigB]
  | d + 1 => by
    have := len_sigB (m := m) (c := c) hl d
    rw [sigB, List.length_append, Nat.succ_mul]
    by_cases h : (d + 1) % m ≠ 0
    · rw [if_pos h, len_rep, len_mulB]
      have := kC_le (c := c) (Nat.succ_pos d) hl
      simp only [Nat.succ_eq_add_one] at this
      omega
    · rw [if_neg h]; simp; omega
def sigmaN' (n m : Nat) : Nat → Nat
  | 0 => 0
  | d + 1 => sigmaN' n m d + (if n % (d + 1) = 0 ∧ (d + 1) % m ≠ 0 then d + 1 else 0)
theorem count_sigB {m lo c x : Nat} (hx : x < c) : ∀ d, (sigB m lo c d).count x = sigmaN' (lo + x) m d
  | 0 => rfl
  | d + 1 => by
    rw [sigB, List.count_append, count_sigB hx d, sigmaN']
    congr 1
    by_cases h : (d + 1) % m ≠ 0
    · rw [if_pos h, count_rep, count_mulB (Nat.succ_pos d) (kL_le (Nat.succ_pos d))]
      by_cases h2 : (lo + x) % (d + 1) = 0
      · obtain ⟨g1, g2⟩ := k_in (Nat.succ_pos d) hx h2
        rw [if_pos ⟨h2, g1, g2⟩, if_pos ⟨h2, h⟩, Nat.mul_one]
      · rw [if_neg (fun x => h2 x.1), if_neg (fun x => h2 x.1), Nat.mul_zero]
    · rw [if_neg h, if_neg (fun x => h x.2)]; rfl
theorem sigma_up {n m : Nat} (h0 : 0 < n) : ∀ k, sigmaN' n m (n + k) = sigmaN' n m n
  | 0 => rfl
  | k + 1 => by
    rw [show n + (k + 1) = n + k + 1 from rfl, sigmaN', sigma_up h0 k, if_neg, Nat.add_zero]
    rintro ⟨h1, _⟩
    rw [Nat.mod_eq_of_lt (by omega)] at h1
    omega
theorem low_digit {b x M n : Nat} (h : n < M) : x % b ^ M / b ^ n % b = x / b ^ n % b := by
  obtain ⟨k, rfl⟩ : ∃ k, M = n + 1 + k := ⟨M - (n + 1), by omega⟩
  rw [Nat.pow_add, Nat.pow_succ, Nat.mul_assoc, Nat.mod_mul_right_div_self, Nat.mod_mul_right_mod]
theorem ev_scale (b c : Nat) : ∀ l : List Nat, ev b (l.map (c * ·)) = ev (b ^ c) l
  | [] => rfl
  | e :: r => by rw [List.map_cons, ev, ev, ev_scale b c r, Nat.pow_mul]
theorem prd_scale (c : Nat) (m : List Nat) : ∀ l, prd (l.map (c * ·)) (m.map (c * ·)) = (prd l m).map (c * ·)
  | [] => rfl
  | e :: r => by
    have := prd_scale c m r
    simp only [prd, List.map_cons, List.flatMap_cons, List.map_append] at this ⊢
    rw [this]
    congr 1
    rw [List.map_map, List.map_map]
    refine List.map_congr_left fun x _ => ?_
    simp [Nat.mul_add]
theorem count_scale {c n : Nat} (hc : 0 < c) : ∀ l : List Nat, (l.map (c * ·)).count (c * n) = l.count n
  | [] => rfl
  | e :: r => by
    rw [List.map_cons, List.count_cons, List.count_cons, count_scale hc r]
    congr 1
    by_cases h : e = n
    · subst h; simp
    · have : c * e ≠ c * n := fun x => h (Nat.eq_of_mul_eq_mul_left hc x)
      simp [h, this]

/- Squares. -/
def sq (top i : Nat) : Nat := bif Nat.ble i top then (top - i) * (top - i) else (i - top) * (i - top)
def okp (par top i : Nat) : Bool := Nat.beq par 2 || Nat.beq ((i + top) % 2) par
def sqL (top par : Nat) : Nat → List Nat
  | 0 => []
  | i + 1 => bif okp par top i then sqL top par i ++ [sq top i] else sqL top par i
def pr (l : List Nat) : List Nat := prd l l
def L4 : List Nat := sqL 100 2 201
def LO : List Nat := sqL 200 1 401
theorem ev4 (b : Nat) (l : List Nat) : ev b (pr (pr l)) = ev b l * ev b l * (ev b l * ev b l) := by rw [pr, ev_prd, pr, ev_prd]
theorem len4 (l : List Nat) : (pr (pr l)).length = l.length * l.length * (l.length * l.length) := by rw [pr, len_prd, pr, len_prd]
def BB : Nat := 4294967296
def sumB (b m lo c D : Nat) : Nat := rs (fun d => if d % m ≠ 0 then d * rs (fun k => b ^ (d * k - lo)) 14 (kL lo d) (kC lo c d) else 0) 14 1 D
theorem sumB_eq {b m lo c D : Nat} (hl : lo + c ≤ 10001) (hD : D ≤ 10000) : sumB b m lo c D = ev b (sigB m lo c D) := by
  have e14 : 2 ^ 14 = 16384 := by decide
  rw [sumB, rs_eq _ 14 1 D (by omega), ev_sigB]
  refine sumN_congr fun d h1 h2 => ?_
  have h3 : (lo + c - 1) / d ≤ lo + c - 1 := Nat.div_le_self _ _
  rw [sigF, rs_eq _ 14 _ _ (by unfold kC; omega)]
def sideA (lo c : Nat) : Nat := let x := ev BB L4; x * x * (x * x) / BB ^ lo % BB ^ c
def sideB (lo c : Nat) : Nat := let x := ev BB LO; let y := ev (BB ^ 4) L4; (x * x * (x * x) + y * y * (y * y)) / BB ^ (4 * lo) % BB ^ (4 * c)
def okA (t : Nat) : Bool := Nat.beq (sideA (500 * t + 1) 500) (8 * sumB BB 4 (500 * t + 1) 500 (500 * t + 500))
def okB (t : Nat) : Bool := Nat.beq (sideB (500 * t + 1) 500) (24 * sumB (BB ^ 4) 2 (500 * t + 1) 500 (500 * t + 500))

end Go.Qt4

