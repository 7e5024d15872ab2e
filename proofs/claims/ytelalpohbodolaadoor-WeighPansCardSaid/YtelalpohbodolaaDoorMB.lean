/- The parts of n places in the order of their indices. -/
import Derived.Test.YtelalpohbodolaaDoorMA
set_option linter.unusedVariables false
set_option linter.unusedSimpArgs false
namespace Go.Wg
/- How many bits a number has. -/
def blen : Nat → Nat := fun s => if s = 0 then 0 else Nat.log2 s + 1
theorem blen_0 : blen 0 = 0 := rfl
theorem blen_add {p a : Nat} (h : p < 2 ^ a) : blen (p + 2 ^ a) = a + 1 := by
  have h0 : 0 < 2 ^ a := Nat.two_pow_pos a
  unfold blen
  rw [if_neg (by omega)]
  congr 1
  rw [Nat.log2_eq_iff (by omega), Nat.pow_succ]
  omega
theorem blen_le {s n : Nat} : blen s ≤ n ↔ s < 2 ^ n := by
  unfold blen
  by_cases h : s = 0
  · subst h; simp [Nat.two_pow_pos]
  · rw [if_neg h, ← Nat.log2_lt h]; omega
theorem blen_pos {s : Nat} (h : s ≠ 0) : ∃ a p, s = p + 2 ^ a ∧ p < 2 ^ a ∧ blen s = a + 1 := by
  have h1 := Nat.log2_self_le h
  have h2 := Nat.lt_log2_self (n := s)
  rw [Nat.pow_succ] at h2
  refine ⟨Nat.log2 s, s - 2 ^ Nat.log2 s, by omega, by omega, ?_⟩
  unfold blen
  rw [if_neg h]
theorem or_top {p a : Nat} (h : p < 2 ^ a) : p ||| 2 ^ a = p + 2 ^ a := by
  have := Nat.two_pow_add_eq_or_of_lt h 1
  rw [Nat.mul_one] at this
  rw [Nat.or_comm, ← this]
  omega
theorem xor_top {p a : Nat} (h : p < 2 ^ a) : (p + 2 ^ a) ^^^ 2 ^ a = p := by
  have e : p + 2 ^ a = p ^^^ 2 ^ a := by
    rw [← or_top h]
    apply Nat.eq_of_testBit_eq
    intro i
    rw [Nat.testBit_or, Nat.testBit_xor, Nat.testBit_two_pow]
    by_cases hi : a = i
    · subst hi
      simp [Nat.testBit_lt_two_pow h]
    · simp [hi]
  rw [e, Nat.xor_assoc, Nat.xor_self, Nat.xor_zero]
/- The parts of n places as numbers, in the order of their indices. -/
def TL : Nat → Nat → List Nat
  | 0, _ => []
  | k + 1, lo => (2 ^ lo :: (TL k (lo + 1)).map (2 ^ lo + ·)) ++ TL k (lo + 1)
def LL (n : Nat) : List Nat := 0 :: TL n 0
/- What the iterator does. -/
def nxt (n s : Nat) : Option Nat :=
  if blen s = n then
    (if s ^^^ 2 ^ (n - 1) = 0 then none
    else some (((s ^^^ 2 ^ (n - 1)) ^^^ 2 ^ (blen (s ^^^ 2 ^ (n - 1)) - 1)) ||| 2 ^ blen (s ^^^ 2 ^ (n - 1))))
  else some (s ||| 2 ^ blen s)
def Ln (n : Nat) : Option Nat → List Nat → Option Nat → Prop
  | o, [], e => o = e
  | o, t :: l, e => o = some t ∧ Ln n (nxt n t) l e
theorem Ln.app {n : Nat} : ∀ {l m : List Nat} {o d e : Option Nat}, Ln n o l d → Ln n d m e → Ln n o (l ++ m) e
  | [], m, o, d, e, h1, h2 => by cases h1; exact h2
  | t :: l, m, o, d, e, h1, h2 => ⟨h1.1, Ln.app h1.2 h2⟩
theorem ln_TL (n : Nat) : ∀ (k lo p : Nat), k + 1 + lo = n → p < 2 ^ lo → Ln n (some (p + 2 ^ lo)) ((TL (k + 1) lo).map (p + ·)) (nxt n (p + 2 ^ (n - 1)))
  | 0, lo, p, h, hp => by
    have e : lo = n - 1 := by omega
    subst e
    exact ⟨rfl, rfl⟩
  | k + 1, lo, p, h, hp => by
    rw [TL]
    simp only [List.map_append, List.map_cons, List.map_map]
    have h2 : p + 2 ^ lo < 2 ^ (lo + 1) := by rw [Nat.pow_succ]; omega
    have i1 := ln_TL n k (lo + 1) (p + 2 ^ lo) (by omega) h2
    have i2 := ln_TL n k (lo + 1) p (by omega) (by omega)
    have e1 : nxt n (p + 2 ^ lo) = some (p + 2 ^ lo + 2 ^ (lo + 1)) := by
      unfold nxt
      rw [blen_add hp, if_neg (by omega), or_top h2]
    have h3 : p + 2 ^ lo < 2 ^ (n - 1) := Nat.lt_of_lt_of_le h2 (Nat.pow_le_pow_right (by omega) (by omega))
    have e2 : nxt n (p + 2 ^ lo + 2 ^ (n - 1)) = some (p + 2 ^ (lo + 1)) := by
      have h0 : 0 < 2 ^ lo := Nat.two_pow_pos lo
      unfold nxt
      rw [blen_add h3, if_pos (by omega), xor_top h3, if_neg (by omega), blen_add hp, Nat.add_sub_cancel, xor_top hp, or_top (by rw [Nat.pow_succ]; omega)]
    rw [← e1] at i1
    rw [e2] at i1
    have em : (TL (k + 1) (lo + 1)).map ((fun x => p + x) ∘ fun x => 2 ^ lo + x) = (TL (k + 1) (lo + 1)).map (p + 2 ^ lo + ·) := by
      apply List.map_congr_left
      intro x _
      simp only [Function.comp]
      omega
    rw [em]
    exact ⟨rfl, Ln.app i1 i2⟩
theorem ln_LL {n : Nat} (hn : 0 < n) : Ln n (some 0) (LL n) none := by
  obtain ⟨k, rfl⟩ : ∃ k, n = k + 1 := ⟨n - 1, by omega⟩
  have h := ln_TL (k + 1) k 0 0 rfl (by simp)
  have e1 : nxt (k + 1) 0 = some (0 + 2 ^ 0) := by
    unfold nxt
    rw [blen_0, if_neg (by omega)]
    rfl
  have e2 : nxt (k + 1) (0 + 2 ^ (k + 1 - 1)) = none := by
    unfold nxt
    rw [blen_add (by rw [Nat.add_sub_cancel]; exact Nat.two_pow_pos k), Nat.add_sub_cancel, if_pos rfl, Nat.zero_add, Nat.xor_self, if_pos rfl]
  rw [e2, ← e1] at h
  have em : (TL (k + 1) 0).map (fun x => 0 + x) = TL (k + 1) 0 := by simp
  rw [em] at h
  exact ⟨rfl, h⟩
theorem TL_scale : ∀ (k lo : Nat), TL k lo = (TL k 0).map (2 ^ lo * ·)
  | 0, lo => rfl
  | k + 1, lo => by
    rw [TL, TL, TL_scale k (lo + 1), TL_scale k (0 + 1)]
    simp only [List.map_append, List.map_cons, List.map_map, Nat.pow_zero, Nat.mul_one, Nat.zero_add]
    have e : ∀ x, 2 ^ (lo + 1) * x = 2 ^ lo * (2 ^ 1 * x) := fun x => by rw [Nat.pow_succ, Nat.mul_assoc]
    congr 1
    · congr 1
      apply List.map_congr_left
      intro x _
      simp only [Function.comp, e, Nat.mul_add, Nat.mul_one]
    · apply List.map_congr_left
      intro x _
      simp only [Function.comp, e]
theorem TL_suc (k : Nat) : TL (k + 1) 0 = (LL k).map (fun t => 1 + 2 * t) ++ (TL k 0).map (2 * ·) := by
  rw [TL, TL_scale k (0 + 1), LL]
  simp only [List.map_cons, List.map_map, Nat.zero_add, Nat.pow_zero, Nat.pow_one, Nat.mul_zero, Nat.add_zero]
  rfl
theorem LL_suc (k : Nat) : LL (k + 1) = 0 :: ((LL k).map (fun t => 1 + 2 * t) ++ (TL k 0).map (2 * ·)) := by rw [LL, TL_suc]
theorem mem_LL : ∀ {n s : Nat}, s ∈ LL n ↔ s < 2 ^ n
  | 0, s => by simp [LL, TL]
  | n + 1, s => by
    have ih := fun s => mem_LL (n := n) (s := s)
    have iT : ∀ s, s ∈ TL n 0 ∨ s = 0 ↔ s < 2 ^ n := fun s => by rw [← ih, LL, List.mem_cons, or_comm]
    rw [LL_suc, List.mem_cons, List.mem_append, List.mem_map, List.mem_map, Nat.pow_succ]
    constructor
    · rintro (rfl | ⟨t, ht, rfl⟩ | ⟨t, ht, rfl⟩)
      · have := Nat.two_pow_pos n; omega
      · have := (ih t).1 ht; omega
      · have := (iT t).1 (.inl ht); omega
    · intro h
      rcases Nat.mod_two_eq_zero_or_one s with e | e
      · rcases (iT (s / 2)).2 (by omega) with h1 | h1
        · exact .inr (.inr ⟨s / 2, h1, by omega⟩)
        · exact .inl (by omega)
      · exact .inr (.inl ⟨s / 2, (ih _).2 (by omega), by omega⟩)
theorem LL_len : ∀ n : Nat, (LL n).length = 2 ^ n
  | 0 => rfl
  | n + 1 => by
    have ih := LL_len n
    rw [LL_suc]
    rw [LL, List.length_cons] at ih
    simp only [LL, List.length_cons, List.length_append, List.length_map]
    omega
/- The sum of a part. -/
def msum : List Int → Nat → Int
  | [], _ => 0
  | a :: l, s => (if s % 2 = 1 then a else 0) + msum l (s / 2)
theorem msum_odd (a : Int) (l : List Int) (t : Nat) : msum (a :: l) (1 + 2 * t) = a + msum l t := by
  rw [msum, if_pos (by omega), show (1 + 2 * t) / 2 = t by omega]
theorem msum_even (a : Int) (l : List Int) (t : Nat) : msum (a :: l) (2 * t) = msum l t := by
  rw [msum, if_neg (by omega), show 2 * t / 2 = t by omega]; omega
theorem msum_0 : ∀ l : List Int, msum l 0 = 0
  | [] => rfl
  | a :: l => by have := msum_even a l 0; rw [Nat.mul_zero] at this; rw [this, msum_0 l]
theorem msum_snoc (a : Int) : ∀ (l : List Int) (s : Nat), msum (l ++ [a]) s = msum l s + if s / 2 ^ l.length % 2 = 1 then a else 0
  | [], s => by simp [msum]
  | b :: l, s => by
    rw [List.cons_append, msum, msum, msum_snoc a l, List.length_cons, Nat.pow_succ, Nat.mul_comm (2 ^ l.length), ← Nat.div_div_eq_div_mul]
    omega
theorem sums_perm : ∀ (l : List Int), ((LL l.length).map (msum l)).Perm (SS l)
  | [] => by simp [LL, TL, msum, SS]
  | a :: l => by
    have ih := sums_perm l
    rw [List.length_cons, LL_suc]
    simp only [List.map_cons, List.map_append, List.map_map, SS]
    have e1 : (LL l.length).map (msum (a :: l) ∘ fun t => 1 + 2 * t) = ((LL l.length).map (msum l)).map (a + ·) := by
      rw [List.map_map]
      exact List.map_congr_left fun t _ => msum_odd a l t
    have e2 : (TL l.length 0).map (msum (a :: l) ∘ fun t => 2 * t) = (TL l.length 0).map (msum l) := List.map_congr_left fun t _ => msum_even a l t
    rw [e1, e2]
    have e3 : (LL l.length).map (msum l) = 0 :: (TL l.length 0).map (msum l) := by rw [LL, List.map_cons, msum_0]
    refine List.Perm.trans ?_ (ih.append (ih.map _))
    rw [msum_0]
    generalize hX : (LL l.length).map (msum l) = X at *
    rw [e3]
    generalize (TL l.length 0).map (msum l) = Y
    rw [List.cons_append]
    exact List.Perm.cons _ List.perm_append_comm
end Go.Wg
