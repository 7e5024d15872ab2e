/- Floyd and Warshall's matrix, an entry at a time. -/
import Derived.Test.YtihadgkgogfhcaaRD
set_option linter.unusedSimpArgs false
set_option linter.unusedVariables false
namespace Go.Ro
open Go.Pa
def fwRow (M : Nat → Nat → Int) (k a : Nat) : Nat → Nat → Nat → Int
  | 0 => M
  | b + 1 => stepM (fwRow M k a b) k a b
def fwAll (M : Nat → Nat → Int) (k n : Nat) : Nat → Nat → Nat → Int
  | 0 => M
  | a + 1 => fwRow (fwAll M k n a) k a n
def fw (M : Nat → Nat → Int) (n : Nat) : Nat → Nat → Nat → Int
  | 0 => M
  | k + 1 => fwAll (fw M n k) k n n
section
variable {E : List (Int × Int)} {n k : Nat} {M0 : Nat → Nat → Int}
theorem fwRow_mid {M : Nat → Nat → Int} {a : Nat} (ha : a < n) (hk : k < n) (H : Mid E n k M0 M fun x y => x < a ∧ y < n) : ∀ b, b ≤ n → Mid E n k M0 (fwRow M k a b) fun x y => (x < a ∧ y < n) ∨ (x = a ∧ y < b)
  | 0, _ => H.imp fun x y h => by omega
  | b + 1, hb => ((fwRow_mid ha hk H b (by omega)).step ha (by omega) hk).imp fun x y h => by
    by_cases h1 : x = a
    · by_cases h2 : y = b
      · exact .inr ⟨h1, h2⟩
      · exact .inl (by omega)
    · exact .inl (by omega)
theorem fwAll_mid {M : Nat → Nat → Int} (hk : k < n) (H : Mid E n k M0 M fun _ _ => False) : ∀ a, a ≤ n → Mid E n k M0 (fwAll M k n a) fun x y => x < a ∧ y < n
  | 0, _ => H.imp fun x y h => by omega
  | a + 1, ha => (fwRow_mid (by omega) hk (fwAll_mid hk H a (by omega)) n (Nat.le_refl _)).imp fun x y h => by omega
theorem fw_dist (hE : EdgeOK n E) : ∀ k, k ≤ n → Dist E n k (fw (M1 E n) n k)
  | 0, _ => Dist.start hE
  | k + 1, hk => Mid.dist (fw_dist hE k (by omega)) (by omega) ((fwAll_mid (by omega) (fw_dist hE k (by omega)).mid n (Nat.le_refl _)).imp fun x y h => h)
theorem fwRow_bd {M : Nat → Nat → Int} {a : Nat} (H : ∀ x y, 0 ≤ M x y ∧ M x y ≤ 8) : ∀ b x y, 0 ≤ fwRow M k a b x y ∧ fwRow M k a b x y ≤ 8
  | 0, x, y => H x y
  | b + 1, x, y => by
    have ih := fwRow_bd (a := a) H b
    have h1 := ih x y
    have h2 := ih a b
    have h3 := ih a k
    have h4 := ih k b
    simp only [fwRow, stepM]
    split <;> omega
theorem fwAll_bd {M : Nat → Nat → Int} (H : ∀ x y, 0 ≤ M x y ∧ M x y ≤ 8) : ∀ a x y, 0 ≤ fwAll M k n a x y ∧ fwAll M k n a x y ≤ 8
  | 0, x, y => H x y
  | a + 1, x, y => fwRow_bd (fwAll_bd H a) n x y
theorem M1_bd {a b : Nat} : 0 ≤ M1 E n a b ∧ M1 E n a b ≤ 8 := by
  unfold M1
  split
  · omega
  · split <;> omega
theorem fw_bd : ∀ k x y, 0 ≤ fw (M1 E n) n k x y ∧ fw (M1 E n) n k x y ≤ 8
  | 0, x, y => M1_bd
  | k + 1, x, y => fwAll_bd (fw_bd k) n x y
end
/- The matrix as a list. -/
def flat (M : Nat → Nat → Int) (i : Nat) : Int := M (i / 8) (i % 8)
theorem flat_at {M : Nat → Nat → Int} {a b : Nat} (hb : b < 8) : flat M (a * 8 + b) = M a b := by
  unfold flat
  congr 1 <;> omega
theorem flat_upd {M : Nat → Nat → Int} {a b : Nat} {v : Int} (hb : b < 8) (i : Nat) : (if i = a * 8 + b then v else flat M i) = flat (fun x y => if x = a ∧ y = b then v else M x y) i := by
  unfold flat
  show _ = if i / 8 = a ∧ i % 8 = b then v else M (i / 8) (i % 8)
  by_cases h : i = a * 8 + b
  · rw [if_pos h, if_pos (by omega)]
  · rw [if_neg h, if_neg (by omega)]
/- The first loop. -/
def M0 (n a b : Nat) (x y : Nat) : Int := if y < n ∧ (x < a ∨ (x = a ∧ y < b)) ∧ x ≠ y then 8 else 0
theorem M0_step {n a b x y : Nat} (hb : b < n) (hne : a ≠ b) : (if x = a ∧ y = b then 8 else M0 n a b x y) = M0 n a (b + 1) x y := by
  unfold M0
  by_cases h : x = a ∧ y = b
  · rw [if_pos h, if_pos (by omega)]
  · rw [if_neg h]
    by_cases h2 : y < n ∧ (x < a ∨ (x = a ∧ y < b)) ∧ x ≠ y
    · rw [if_pos h2, if_pos (by omega)]
    · rw [if_neg h2, if_neg (by omega)]
theorem M0_skip {n a x y : Nat} : M0 n a a x y = M0 n a (a + 1) x y := by
  unfold M0
  by_cases h2 : y < n ∧ (x < a ∨ (x = a ∧ y < a)) ∧ x ≠ y
  · rw [if_pos h2, if_pos (by omega)]
  · rw [if_neg h2, if_neg (by omega)]
theorem M0_row {n a x y : Nat} : M0 n a n x y = M0 n (a + 1) 0 x y := by
  unfold M0
  by_cases h2 : y < n ∧ (x < a ∨ (x = a ∧ y < n)) ∧ x ≠ y
  · rw [if_pos h2, if_pos (by omega)]
  · rw [if_neg h2, if_neg (by omega)]
theorem M0_end {n x y : Nat} : M0 n n 0 x y = M1 [] n x y := by
  unfold M0 M1
  have h0 : ¬ adjE [] x y := by simp [adjE]
  rw [if_neg h0]
  by_cases h2 : y < n ∧ (x < n ∨ (x = n ∧ y < 0)) ∧ x ≠ y
  · rw [if_pos h2, if_pos (by omega)]
  · rw [if_neg h2, if_neg (by omega)]
theorem M1_step {n : Nat} {E : List (Int × Int)} {a b x y : Nat} : (if x = b ∧ y = a then 1 else if x = a ∧ y = b then 1 else M1 E n x y) = M1 (E ++ [((a : Int), (b : Int))]) n x y := by
  have hadj : adjE (E ++ [((a : Int), (b : Int))]) x y ↔ (x = b ∧ y = a) ∨ (x = a ∧ y = b) ∨ adjE E x y := by
    simp only [adjE, List.mem_append, List.mem_singleton, Prod.mk.injEq]
    constructor
    · rintro ((h | h) | (h | h))
      · exact .inr (.inr (.inl h))
      · exact .inr (.inl (by omega))
      · exact .inr (.inr (.inr h))
      · exact .inl (by omega)
    · rintro (h | h | h | h)
      · exact .inr (.inr (by omega))
      · exact .inl (.inr (by omega))
      · exact .inl (.inl h)
      · exact .inr (.inl h)
  unfold M1
  by_cases h1 : x = b ∧ y = a
  · rw [if_pos h1, if_pos (hadj.2 (.inl h1))]
  · rw [if_neg h1]
    by_cases h2 : x = a ∧ y = b
    · rw [if_pos h2, if_pos (hadj.2 (.inr (.inl h2)))]
    · rw [if_neg h2]
      by_cases h3 : adjE E x y
      · rw [if_pos h3, if_pos (hadj.2 (.inr (.inr h3)))]
      · rw [if_neg h3, if_neg fun h => (hadj.1 h).elim h1 fun h => h.elim h2 h3]
/- The greatest distance. -/
def gdRow (M : Nat → Nat → Int) (a : Nat) (m : Int) : Nat → Int
  | 0 => m
  | b + 1 => max (gdRow M a m b) (M a b)
def gdAll (M : Nat → Nat → Int) (n : Nat) : Nat → Int
  | 0 => 0
  | a + 1 => gdRow M a (gdAll M n a) n
theorem gdRow_ge {M : Nat → Nat → Int} {a : Nat} {m : Int} : ∀ {n b : Nat}, m ≤ gdRow M a m n ∧ (b < n → M a b ≤ gdRow M a m n)
  | 0, b => by simp [gdRow]
  | n + 1, b => by
    have h1 := gdRow_ge (M := M) (a := a) (m := m) (n := n) (b := b)
    simp only [gdRow]
    refine ⟨by omega, fun hb => ?_⟩
    by_cases e : b = n
    · subst e; omega
    · have := h1.2 (by omega); omega
theorem gdRow_hit {M : Nat → Nat → Int} {a : Nat} {m : Int} : ∀ n, gdRow M a m n = m ∨ ∃ b, b < n ∧ gdRow M a m n = M a b
  | 0 => .inl rfl
  | n + 1 => by
    simp only [gdRow]
    by_cases h : gdRow M a m n ≤ M a n
    · exact .inr ⟨n, by omega, by omega⟩
    · rcases gdRow_hit (M := M) (a := a) (m := m) n with e | ⟨b, hb, e⟩
      · left; omega
      · exact .inr ⟨b, by omega, by omega⟩
theorem gdAll_ge {M : Nat → Nat → Int} {n : Nat} : ∀ {m a b : Nat}, a < m → b < n → M a b ≤ gdAll M n m
  | m + 1, a, b, ha, hb => by
    simp only [gdAll]
    by_cases e : a = m
    · subst e; exact gdRow_ge.2 hb
    · exact Int.le_trans (gdAll_ge (by omega) hb) (gdRow_ge (b := 0)).1
theorem gdAll_hit {M : Nat → Nat → Int} {n : Nat} : ∀ m, gdAll M n m = 0 ∨ ∃ a b, a < m ∧ b < n ∧ gdAll M n m = M a b
  | 0 => .inl rfl
  | m + 1 => by
    simp only [gdAll]
    rcases gdRow_hit (M := M) (a := m) (m := gdAll M n m) n with e | ⟨b, hb, e⟩
    · rw [e]
      rcases gdAll_hit (M := M) (n := n) m with h | ⟨a, b, ha, hb, h⟩
      · exact .inl h
      · exact .inr ⟨a, b, by omega, hb, h⟩
    · exact .inr ⟨m, b, by omega, hb, e⟩
theorem gdAll_bd {M : Nat → Nat → Int} {n m : Nat} (H : ∀ x y, 0 ≤ M x y ∧ M x y ≤ 8) : 0 ≤ gdAll M n m ∧ gdAll M n m ≤ 8 := by
  rcases gdAll_hit (M := M) (n := n) m with h | ⟨a, b, _, _, h⟩
  · omega
  · have := H a b; omega
theorem gdRow_bd {M : Nat → Nat → Int} {a : Nat} {m : Int} (H : ∀ x y, 0 ≤ M x y ∧ M x y ≤ 8) (hm : 0 ≤ m ∧ m ≤ 8) (n : Nat) : 0 ≤ gdRow M a m n ∧ gdRow M a m n ≤ 8 := by
  rcases gdRow_hit (M := M) (a := a) (m := m) n with h | ⟨b, _, h⟩
  · omega
  · have := H a b; omega
end Go.Ro
