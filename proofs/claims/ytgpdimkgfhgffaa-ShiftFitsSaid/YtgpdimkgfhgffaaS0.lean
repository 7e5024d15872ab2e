/- Intervals: what the functions compute. -/
import Derived.Test.YtgpdimkgfhgffaaB
set_option linter.unusedSimpArgs false
set_option linter.unusedVariables false

namespace Go.Sh


abbrev Span := Int × Int
def ov (s t : Span) : Bool := decide (max s.1 t.1 < min s.2 t.2)
def ins (s : Span) (p : Int) : Bool := decide (s.1 ≤ p ∧ p < s.2)
def sg (l : List Span) (i : Nat) : Span := l.getD i (0, 0)
def okS (s : Span) : Bool := decide (0 ≤ s.1 ∧ s.1 < s.2 ∧ s.2 ≤ 1000)

/-- How many of the first ones contain a number. -/
def cntU (l : List Span) (p : Int) : Nat → Int
  | 0 => 0
  | i + 1 => if ins (sg l i) p = true then cntU l p i + 1 else cntU l p i
def cnt (l : List Span) (p : Int) : Int := cntU l p l.length

theorem cntU_bd (l : List Span) (p : Int) : ∀ i, 0 ≤ cntU l p i ∧ cntU l p i ≤ i
  | 0 => by simp [cntU]
  | i + 1 => by
    have := cntU_bd l p i
    simp only [cntU]
    split <;> omega

/-- The deepest place among the first ones' beginnings, and how deep it is. -/
def deepU (l : List Span) : Nat → Int × Int
  | 0 => (0, 0)
  | i + 1 => if (deepU l i).2 < cnt l (sg l i).1 ∨ (cnt l (sg l i).1 = (deepU l i).2 ∧ (sg l i).1 < (deepU l i).1) then ((sg l i).1, cnt l (sg l i).1) else deepU l i
def deep (l : List Span) : Int × Int := deepU l l.length

/-- The numbers of those among the first ones that overlap one. -/
def takenU (s : Span) (l : List Span) (ns : List Int) : Nat → List Int
  | 0 => []
  | i + 1 => if ov s (sg l i) = true then takenU s l ns i ++ [ns.getD i 0] else takenU s l ns i
def taken (s : Span) (l : List Span) (ns : List Int) : List Int := takenU s l ns l.length
theorem takenU_len (s : Span) (l : List Span) (ns : List Int) : ∀ i, (takenU s l ns i).length ≤ i
  | 0 => by simp [takenU]
  | i + 1 => by
    have := takenU_len s l ns i
    simp only [takenU]
    split
    · simp; omega
    · omega

/-- Those among the first ones whose level is at most k. -/
def uptoU (k : Int) (l : List Span) (ns : List Int) : Nat → List Span
  | 0 => []
  | i + 1 => if ns.getD i 0 ≤ k then uptoU k l ns i ++ [sg l i] else uptoU k l ns i
def upto (k : Int) (l : List Span) (ns : List Int) : List Span := uptoU k l ns l.length
theorem uptoU_len (k : Int) (l : List Span) (ns : List Int) : ∀ i, (uptoU k l ns i).length ≤ i
  | 0 => by simp [uptoU]
  | i + 1 => by
    have := uptoU_len k l ns i
    simp only [uptoU]
    split
    · simp; omega
    · omega

/-- What an interval has in common with the first ones, itself before them. -/
def partsU (s : Span) (l : List Span) : Nat → List Span
  | 0 => [s]
  | i + 1 => if ov s (sg l i) = true then partsU s l i ++ [(max s.1 (sg l i).1, min s.2 (sg l i).2)] else partsU s l i
def within (s : Span) (l : List Span) : Int := (deep (partsU s l l.length)).2
theorem partsU_len (s : Span) (l : List Span) : ∀ i, (partsU s l i).length ≤ i + 1
  | 0 => by simp [partsU]
  | i + 1 => by
    have := partsU_len s l i
    simp only [partsU]
    split
    · simp; omega
    · omega

/-- The least number from low on that is not in a list. -/
def mexF (l : List Int) : Nat → Int → Int
  | 0, low => low
  | n + 1, low => if low ∈ l then mexF l n (low + 1) else low
def mex (low : Int) (l : List Int) : Int := mexF l (l.length + 1) low

/-- How many numbers of a list are at least low. -/
def abv (l : List Int) (low : Int) : Nat := (l.filter fun x => decide (low ≤ x)).length
theorem abv_le (l : List Int) (low : Int) : abv l low ≤ l.length := List.length_filter_le _ _
theorem abv_lt {l : List Int} {low : Int} (h : low ∈ l) : abv l (low + 1) < abv l low := by
  unfold abv
  induction l with
  | nil => simp at h
  | cons x r ih =>
    have key : (r.filter fun x => decide (low + 1 ≤ x)).length ≤ (r.filter fun x => decide (low ≤ x)).length := by
      clear ih h
      induction r with
      | nil => simp
      | cons y r ih =>
        by_cases h1 : low + 1 ≤ y
        · rw [List.filter_cons_of_pos (by simpa using h1), List.filter_cons_of_pos (by simp; omega)]; simp; exact ih
        · rw [List.filter_cons_of_neg (by simpa using h1)]
          by_cases h2 : low ≤ y
          · rw [List.filter_cons_of_pos (by simpa using h2)]; simp; omega
          · rw [List.filter_cons_of_neg (by simpa using h2)]; exact ih
    rcases List.mem_cons.1 h with rfl | h
    · rw [List.filter_cons_of_neg (by simp; omega), List.filter_cons_of_pos (by simp)]
      simp
      omega
    · have := ih h
      by_cases h1 : low + 1 ≤ x
      · rw [List.filter_cons_of_pos (by simpa using h1), List.filter_cons_of_pos (by simp; omega)]; simp; exact this
      · rw [List.filter_cons_of_neg (by simpa using h1)]
        by_cases h2 : low ≤ x
        · rw [List.filter_cons_of_pos (by simpa using h2)]; simp; omega
        · rw [List.filter_cons_of_neg (by simpa using h2)]; exact this

theorem mexF_spec (l : List Int) : ∀ (n : Nat) (low : Int), abv l low < n → low ≤ mexF l n low ∧ mexF l n low ∉ l ∧ ∀ x, low ≤ x → x < mexF l n low → x ∈ l
  | 0, low, h => by omega
  | n + 1, low, h => by
    simp only [mexF]
    split
    · rename_i hm
      obtain ⟨h1, h2, h3⟩ := mexF_spec l n (low + 1) (by have := abv_lt hm; omega)
      refine ⟨by omega, h2, fun x hx1 hx2 => ?_⟩
      by_cases e : x = low
      · subst e; exact hm
      · exact h3 x (by omega) hx2
    · rename_i hm
      exact ⟨Int.le_refl _, hm, fun x h1 h2 => by omega⟩
theorem mex_spec (l : List Int) (low : Int) : low ≤ mex low l ∧ mex low l ∉ l ∧ ∀ x, low ≤ x → x < mex low l → x ∈ l := mexF_spec l _ _ (by have := abv_le l low; omega)
theorem mex_eq {l : List Int} {low m : Int} (h1 : low ≤ m) (h2 : m ∉ l) (h3 : ∀ x, low ≤ x → x < m → x ∈ l) : mex low l = m := by
  obtain ⟨k1, k2, k3⟩ := mex_spec l low
  rcases Int.lt_trichotomy (mex low l) m with h | h | h
  · exact absurd (h3 _ k1 h) k2
  · exact h
  · exact absurd (k3 _ h1 h) h2
theorem mex_congr {l m : List Int} {low : Int} (h : ∀ x, x ∈ l ↔ x ∈ m) : mex low l = mex low m := by
  obtain ⟨k1, k2, k3⟩ := mex_spec m low
  exact mex_eq k1 (fun e => k2 ((h _).1 e)) fun x h1 h2 => (h _).2 (k3 x h1 h2)
theorem mexF_lt (l : List Int) : ∀ (n : Nat) (low : Int), mexF l n low ≤ low + n
  | 0, low => by simp [mexF]
  | n + 1, low => by
    simp only [mexF]
    split
    · have := mexF_lt l n (low + 1)
      omega
    · omega
theorem mex_lt (l : List Int) (low : Int) : mex low l ≤ low + l.length + 1 := by
  have := mexF_lt l (l.length + 1) low
  unfold mex
  omega

/-- A rule for each interval as it arrives. -/
abbrev Rule := Span → List Span → List Int → Int
def onl (r : Rule) (l : List Span) : Nat → List Int
  | 0 => []
  | i + 1 => onl r l i ++ [r (sg l i) (l.take i) (onl r l i)]
theorem onl_len (r : Rule) (l : List Span) : ∀ i, (onl r l i).length = i
  | 0 => rfl
  | i + 1 => by simp [onl, onl_len r l i]

def fitR : Rule := fun s b ns => mex 0 (taken s b ns)
/-- The least level at which an interval is not too deep. -/
def levF (s : Span) (b : List Span) (ns : List Int) : Nat → Int → Int
  | 0, k => k
  | n + 1, k => if k < within s (upto k b ns) then levF s b ns n (k + 1) else k
def levR : Rule := fun s b ns => levF s b ns (b.length + 2) 1
def troR (lv : List Int) : Rule := fun s b ns => mex (max 0 (3 * lv.getD b.length 0 - 5)) (taken s b ns)

def fit (l : List Span) : List Int := onl fitR l l.length
def leveled (l : List Span) : List Int := onl levR l l.length
def trotter (l : List Span) : List Int := onl (troR (leveled l)) l l.length

theorem deepU_bd (l : List Span) : ∀ i, 0 ≤ (deepU l i).2 ∧ (deepU l i).2 ≤ l.length
  | 0 => by simp [deepU]
  | i + 1 => by
    have := deepU_bd l i
    have := cntU_bd l (sg l i).1 l.length
    simp only [deepU]
    split
    · exact this
    · assumption
theorem within_bd (s : Span) (l : List Span) : 0 ≤ within s l ∧ within s l ≤ l.length + 1 := by
  have := deepU_bd (partsU s l l.length) (partsU s l l.length).length
  have := partsU_len s l l.length
  unfold within deep
  omega
theorem upto_len (k : Int) (l : List Span) (ns : List Int) : (upto k l ns).length ≤ l.length := uptoU_len k l ns _

theorem levF_ge (s : Span) (b : List Span) (ns : List Int) : ∀ (n : Nat) (k : Int), k ≤ levF s b ns n k ∧ levF s b ns n k ≤ k + n
  | 0, k => by simp [levF]
  | n + 1, k => by
    simp only [levF]
    split
    · have := levF_ge s b ns n (k + 1)
      omega
    · omega

end Go.Sh

