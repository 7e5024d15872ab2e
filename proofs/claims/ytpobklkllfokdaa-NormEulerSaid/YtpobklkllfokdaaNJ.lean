/- Sums of squares, mathematics: what is found is a sum; what there is, is found; four squares up to 10000, three squares but for 4^a (8b + 7). -/
import Derived.Test.YtpobklkllfokdaaNE
import Derived.KernelRfl
set_option linter.unusedSimpArgs false
set_option linter.unusedVariables false
set_option maxHeartbeats 1000000
namespace Go.Nm
def sqs : List Nat → Nat
  | [] => 0
  | a :: l => a * a + sqs l
/-- A sum of squares in order, none above most. -/
structure IsSq (k n most : Nat) (l : List Nat) : Prop where
  len : l.length = k
  sum : sqs l = n
  ord : l.Pairwise (fun a b => b ≤ a)
  top : ∀ x ∈ l, x ≤ most
theorem sqD_sound {rec : Nat → Nat → Option (List Nat)} {k n j : Nat} (hr : ∀ a b l, rec a b = some l → IsSq j a b l) : ∀ {m : Nat} {l : List Nat}, m ≤ isq n + 1 → sqD rec k n m = some l → ∀ M, m ≤ M + 1 → IsSq (j + 1) n M l
  | 0, l, _, h, _, _ => by cases h
  | m + 1, l, hm, h, M, hM => by
    simp only [sqD] at h
    split at h
    · split at h
      · rename_i l' hl'
        cases h
        have s := hr _ _ _ hl'
        have hmm : m * m ≤ n := Nat.le_trans (Nat.mul_le_mul (show m ≤ isq n by omega) (show m ≤ isq n by omega)) (isq_spec n).1
        refine ⟨by simp [s.len], by simp only [sqs, s.sum]; omega, List.pairwise_cons.2 ⟨fun x hx => s.top x hx, s.ord⟩, fun x hx => ?_⟩
        rcases List.mem_cons.1 hx with rfl | hx
        · omega
        · have := s.top x hx; omega
      · exact sqD_sound hr (by omega) h M (by omega)
    · cases h
theorem sqF_sound : ∀ {k n most : Nat} {l : List Nat}, sqF k n most = some l → IsSq k n most l
  | 0, n, most, l, h => by
    simp only [sqF] at h
    split at h
    · cases h; exact ⟨rfl, by simp [sqs]; omega, List.Pairwise.nil, by simp⟩
    · cases h
  | k + 1, n, most, l, h => by
    simp only [sqF] at h
    exact sqD_sound (fun a b l hl => sqF_sound hl) (by omega) h most (by omega)
theorem sqs_le {a : Nat} : ∀ {l : List Nat}, (∀ x ∈ l, x ≤ a) → sqs l ≤ l.length * (a * a)
  | [], _ => by simp [sqs]
  | x :: l, h => by
    have h1 := sqs_le (a := a) (l := l) (fun y hy => h y (by simp [hy]))
    have h2 := h x (by simp)
    have h3 := Nat.mul_le_mul h2 h2
    simp only [sqs, List.length_cons, Nat.add_mul, Nat.one_mul]
    omega
theorem isq_max {a n : Nat} (h : a * a ≤ n) : a ≤ isq n := by
  rcases Nat.lt_or_ge (isq n) a with h1 | h1
  · have := Nat.mul_le_mul (show isq n + 1 ≤ a by omega) (show isq n + 1 ≤ a by omega)
    have := (isq_spec n).2
    omega
  · exact h1
theorem sqD_complete {rec : Nat → Nat → Option (List Nat)} {k n a : Nat} (hr : rec (n - a * a) a ≠ none) (hn : n ≤ (k + 1) * (a * a)) : ∀ {m : Nat}, a + 1 ≤ m → sqD rec k n m ≠ none
  | 0, h => by omega
  | m + 1, h => by
    have hm : a * a ≤ m * m := Nat.mul_le_mul (by omega) (by omega)
    have h2 : n ≤ (k + 1) * m * m := by
      rw [Nat.mul_assoc]
      exact Nat.le_trans hn (Nat.mul_le_mul_left _ hm)
    simp only [sqD, if_pos h2]
    cases hs : rec (n - m * m) m with
    | some l => simp
    | none =>
      simp only
      rcases (by omega : a = m ∨ a + 1 ≤ m) with rfl | h3
      · exact absurd hs hr
      · exact sqD_complete hr hn h3
theorem sqF_complete : ∀ {k n most : Nat} {l : List Nat}, IsSq k n most l → sqF k n most ≠ none
  | 0, n, most, l, s => by
    have := List.length_eq_zero_iff.1 s.len
    subst this
    have := s.sum
    simp only [sqs] at this
    simp [sqF, ← this]
  | k + 1, n, most, l, s => by
    match l, s with
    | [], s => have := s.len; simp at this
    | a :: l, s =>
      have ho := List.pairwise_cons.1 s.ord
      have hs := s.sum
      simp only [sqs] at hs
      have hl : l.length = k := by have := s.len; simpa using this
      have hb := sqs_le (a := a) ho.1
      rw [hl] at hb
      have ha := isq_max (a := a) (n := n) (by omega)
      have ht := s.top a (by simp)
      simp only [sqF]
      refine sqD_complete (a := a) (sqF_complete (l := l) ⟨hl, by omega, ho.2, ho.1⟩) ?_ (by omega)
      rw [Nat.add_mul, Nat.one_mul]
      omega
/-- Any squares, in any order. -/
theorem sqs_perm {l m : List Nat} (h : l.Perm m) : sqs l = sqs m := by
  induction h with
  | nil => rfl
  | cons x _ ih => simp only [sqs, ih]
  | swap x y l => simp only [sqs]; omega
  | trans _ _ h1 h2 => rw [h1, h2]
theorem sqF_any {k n : Nat} {l : List Nat} (hl : l.length = k) (hs : sqs l = n) : sqF k n n ≠ none := by
  have hp := List.mergeSort_perm l (fun a b => decide (b ≤ a))
  have ho := List.pairwise_mergeSort (le := fun a b : Nat => decide (b ≤ a)) (fun a b c h1 h2 => by simp at *; omega) (fun a b => by simp; omega) l
  refine sqF_complete (l := l.mergeSort (fun a b => decide (b ≤ a))) ⟨by rw [hp.length_eq, hl], by rw [sqs_perm hp, hs], ho.imp (fun h => by simpa using h), fun x hx => ?_⟩
  have hx' : x ∈ l := hp.mem_iff.1 hx
  have : ∀ {l : List Nat}, x ∈ l → x * x ≤ sqs l := fun {l} => by
    induction l with
    | nil => intro h; cases h
    | cons y l ih =>
      intro h
      simp only [sqs]
      rcases List.mem_cons.1 h with rfl | h
      · omega
      · have := ih h; omega
  have h1 := this hx'
  have h2 := sq_ge (d := x)
  omega
/-- The numbers that are sums of k squares, as bits. -/
def sbits : Nat → Nat
  | 0 => 1
  | k + 1 => (List.range 101).foldl (fun acc a => acc ||| (sbits k <<< (a * a))) 0
theorem fold_bit {f : Nat → Nat} {n : Nat} : ∀ {l : List Nat} {acc : Nat}, (l.foldl (fun acc a => acc ||| f a) acc).testBit n = true → acc.testBit n = true ∨ ∃ a ∈ l, (f a).testBit n = true
  | [], acc, h => .inl h
  | b :: l, acc, h => by
    rcases fold_bit (l := l) h with h1 | ⟨a, ha, h1⟩
    · rw [Nat.testBit_or, Bool.or_eq_true] at h1
      rcases h1 with h1 | h1
      · exact .inl h1
      · exact .inr ⟨b, by simp, h1⟩
    · exact .inr ⟨a, by simp [ha], h1⟩
theorem sbits_list : ∀ {k n : Nat}, (sbits k).testBit n = true → ∃ l : List Nat, l.length = k ∧ sqs l = n
  | 0, n, h => by
    have : n = 0 := by
      rcases Nat.eq_zero_or_pos n with h0 | h0
      · exact h0
      · rw [sbits, show (1 : Nat) = 2 ^ 0 from rfl, Nat.testBit_two_pow] at h
        simp at h; omega
    exact ⟨[], rfl, by simp [sqs, this]⟩
  | k + 1, n, h => by
    simp only [sbits] at h
    rcases fold_bit (f := fun a => sbits k <<< (a * a)) h with h1 | ⟨a, _, h1⟩
    · simp at h1
    · rw [Nat.testBit_shiftLeft] at h1
      simp only [Bool.and_eq_true, decide_eq_true_eq] at h1
      obtain ⟨l, h2, h3⟩ := sbits_list h1.2
      exact ⟨a :: l, by simp [h2], by simp only [sqs, h3]; omega⟩
set_option maxRecDepth 100000 in
theorem four_bits : (List.range 10001).all (fun n => (sbits 4).testBit n) = true := by decide +kernel
/-- Lagrange, up to 10000. -/
theorem four_sq_ex {n : Nat} (h : n ≤ 10000) : sqF 4 n n ≠ none := by
  have h1 := List.all_eq_true.1 four_bits n (List.mem_range.2 (by omega))
  obtain ⟨l, h2, h3⟩ := sbits_list h1
  exact sqF_any h2 h3
/-- Without its factors 4. -/
def red : Nat → Nat → Nat
  | 0, k => k
  | f + 1, k => if 0 < k ∧ k % 4 = 0 then red f (k / 4) else k
def three? (n : Nat) : Bool := red 7 n % 8 == 7
set_option maxRecDepth 100000 in
theorem three_bits : (List.range 10001).all (fun n => three? n || (sbits 3).testBit n) = true := by decide +kernel
theorem three_ex {n : Nat} (h : n ≤ 10000) (h3 : three? n = false) : sqF 3 n n ≠ none := by
  have h1 := List.all_eq_true.1 three_bits n (List.mem_range.2 (by omega))
  rw [h3, Bool.false_or] at h1
  obtain ⟨l, h2, h3⟩ := sbits_list h1
  exact sqF_any h2 h3
theorem mod8 (x : Nat) : x * x % 8 = 0 ∨ x * x % 8 = 1 ∨ x * x % 8 = 4 := by
  rw [Nat.mul_mod]
  have := Nat.mod_lt x (show 0 < 8 by omega)
  generalize x % 8 = r at *
  rcases (by omega : r = 0 ∨ r = 1 ∨ r = 2 ∨ r = 3 ∨ r = 4 ∨ r = 5 ∨ r = 6 ∨ r = 7) with rfl | rfl | rfl | rfl | rfl | rfl | rfl | rfl <;> simp
theorem mod4 (x : Nat) : (x % 2 = 0 ∧ x * x = 4 * ((x / 2) * (x / 2))) ∨ x * x % 4 = 1 := by
  rcases (by omega : x % 2 = 0 ∨ x % 2 = 1) with h | h
  · left
    refine ⟨h, ?_⟩
    obtain ⟨y, rfl⟩ : ∃ y, x = 2 * y := ⟨x / 2, by omega⟩
    rw [show 2 * y / 2 = y by omega]
    grind
  · right
    obtain ⟨y, rfl⟩ : ∃ y, x = 2 * y + 1 := ⟨x / 2, by omega⟩
    have : (2 * y + 1) * (2 * y + 1) = 4 * (y * y + y) + 1 := by grind
    omega
theorem three_no : ∀ {f n : Nat} {x y z : Nat}, x * x + y * y + z * z = n → red f n % 8 ≠ 7
  | 0, n, x, y, z, h => by
    have := mod8 x
    have := mod8 y
    have := mod8 z
    simp only [red]
    omega
  | f + 1, n, x, y, z, h => by
    simp only [red]
    split
    · rename_i h4
      have hx := mod4 x
      have hy := mod4 y
      have hz := mod4 z
      refine three_no (x := x / 2) (y := y / 2) (z := z / 2) ?_
      omega
    · have := mod8 x
      have := mod8 y
      have := mod8 z
      omega
/-- Legendre, up to 10000. -/
theorem three_none {n : Nat} (h : n ≤ 10000) : sqF 3 n n = none ↔ three? n = true := by
  constructor
  · intro hs
    cases h3 : three? n with
    | true => rfl
    | false => exact absurd hs (three_ex h h3)
  · intro h3
    cases hs : sqF 3 n n with
    | none => rfl
    | some l =>
      exfalso
      have s := sqF_sound hs
      match l, s with
      | [x, y, z], s =>
        have hh := s.sum
        simp only [sqs] at hh
        have := three_no (f := 7) (n := n) (x := x) (y := y) (z := z) (by omega)
        simp [three?] at h3
        exact this h3
      | [], s => have := s.len; simp at this
      | [_], s => have := s.len; simp at this
      | [_, _], s => have := s.len; simp at this
      | _ :: _ :: _ :: _ :: _, s => have := s.len; simp at this
end Go.Nm
