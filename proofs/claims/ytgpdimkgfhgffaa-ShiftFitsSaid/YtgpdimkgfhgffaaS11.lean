/- Intervals: the levels of Kierstead and Trotter. -/
import Derived.Test.YtgpdimkgfhgffaaS9
set_option linter.unusedSimpArgs false
set_option linter.unusedVariables false

namespace Go.Sh


/- Counting indices. -/
def cntN (P : Nat → Bool) : Nat → Nat
  | 0 => 0
  | n + 1 => if P n = true then cntN P n + 1 else cntN P n
theorem cntN_zero {P : Nat → Bool} : ∀ {n : Nat}, (∀ a, a < n → P a = false) → cntN P n = 0
  | 0, _ => rfl
  | n + 1, h => by
    rw [cntN, h n (by omega), cntN_zero fun a ha => h a (by omega)]
    rfl
theorem cntN_one {P : Nat → Bool} : ∀ {n : Nat}, (∀ a b, a < n → b < n → P a = true → P b = true → a = b) → cntN P n ≤ 1
  | 0, _ => by simp [cntN]
  | n + 1, h => by
    rw [cntN]
    split
    · rename_i hn
      rw [cntN_zero fun a ha => by
        cases e : P a
        · rfl
        · have := h a n (by omega) (by omega) e hn
          omega]
      omega
    · exact cntN_one fun a b ha hb => h a b (by omega) (by omega)
theorem cntN_or {P Q R : Nat → Bool} : ∀ {n : Nat}, (∀ a, a < n → P a = true → Q a = true ∨ R a = true) → cntN P n ≤ cntN Q n + cntN R n
  | 0, _ => by simp [cntN]
  | n + 1, h => by
    have ih := cntN_or (n := n) (P := P) (Q := Q) (R := R) fun a ha => h a (by omega)
    have hn := h n (by omega)
    simp only [cntN]
    by_cases e : P n = true
    · rw [if_pos e]
      rcases hn e with e2 | e2
      · rw [if_pos e2]; split <;> omega
      · rw [if_pos e2]; split <;> omega
    · rw [if_neg e]
      split <;> split <;> omega
theorem cntN_mono {P Q : Nat → Bool} : ∀ {n : Nat}, (∀ a, a < n → P a = true → Q a = true) → cntN P n ≤ cntN Q n
  | 0, _ => by simp [cntN]
  | n + 1, h => by
    have ih := cntN_mono (n := n) (P := P) (Q := Q) fun a ha => h a (by omega)
    simp only [cntN]
    by_cases e : P n = true
    · rw [if_pos e, if_pos (h n (by omega) e)]; omega
    · rw [if_neg e]; split <;> omega
theorem cntN_le (P : Nat → Bool) : ∀ {n m : Nat}, n ≤ m → cntN P n ≤ cntN P m
  | n, 0, h => by
    have : n = 0 := by omega
    subst this
    exact Nat.le_refl _
  | n, m + 1, h => by
    by_cases e : n = m + 1
    · subst e; exact Nat.le_refl _
    · have := cntN_le P (n := n) (m := m) (by omega)
      rw [cntN]
      split <;> omega

/- What the levels are. -/
theorem levF_spec (s : Span) (b : List Span) (ns : List Int) : ∀ (n : Nat) (k : Int), (b.length : Int) + 1 ≤ k + n →
    ¬ (levF s b ns n k < within s (upto (levF s b ns n k) b ns)) ∧ (k < levF s b ns n k → levF s b ns n k - 1 < within s (upto (levF s b ns n k - 1) b ns))
  | 0, k, h => by
    have h1 := within_bd s (upto k b ns)
    have h2 := upto_len k b ns
    simp only [levF]
    exact ⟨by omega, by omega⟩
  | n + 1, k, h => by
    simp only [levF]
    by_cases c : k < within s (upto k b ns)
    · rw [if_pos c]
      obtain ⟨h1, h2⟩ := levF_spec s b ns n (k + 1) (by omega)
      refine ⟨h1, fun h3 => ?_⟩
      by_cases e : levF s b ns n (k + 1) = k + 1
      · rw [e, show k + 1 - 1 = k by omega]; exact c
      · have := levF_ge s b ns n (k + 1)
        exact h2 (by omega)
    · rw [if_neg c]
      exact ⟨c, by omega⟩

abbrev lv (l : List Span) (i : Nat) : Int := (leveled l).getD i 0
theorem cntK_congr {l : List Span} {ns ms : List Int} {k p : Int} : ∀ {i : Nat}, (∀ j, j < i → ns.getD j 0 = ms.getD j 0) → cntK l ns k p i = cntK l ms k p i
  | 0, _ => rfl
  | i + 1, h => by rw [cntK, cntK, h i (by omega), cntK_congr fun j hj => h j (by omega)]
theorem lv_eq {l : List Span} {i : Nat} (hi : i < l.length) : lv l i = levR (sg l i) (l.take i) (onl levR l i) := onl_get levR l hi
theorem lv_pre {l : List Span} {i j : Nat} (hi : i ≤ l.length) (hj : j < i) : (onl levR l i).getD j 0 = lv l j := by
  rw [onl_get levR l hj]
  exact (onl_get levR l (by omega)).symm
theorem lv_pos {l : List Span} {i : Nat} (hi : i < l.length) : 1 ≤ lv l i := by
  rw [lv_eq hi]
  exact (levF_ge _ _ _ _ 1).1
theorem lev_A {l : List Span} {i : Nat} (hi : i < l.length) (hs : (sg l i).1 < (sg l i).2) {p : Int} (hp : ins (sg l i) p = true) : 1 + cntK l (leveled l) (lv l i) p i ≤ lv l i := by
  have hlt : (l.take i).length = i := by simp; omega
  have h1 := (levF_spec (sg l i) (l.take i) (onl levR l i) ((l.take i).length + 2) 1 (by omega)).1
  have h2 := (within_spec hi (onl levR l i) (lv l i) hs).1 p hp
  rw [cntK_congr (ms := leveled l) fun j hj => lv_pre (by omega) hj] at h2
  have h3 : lv l i = levF (sg l i) (l.take i) (onl levR l i) ((l.take i).length + 2) 1 := lv_eq hi
  rw [← h3] at h1
  omega
theorem lev_B {l : List Span} {i : Nat} (hi : i < l.length) (hs : (sg l i).1 < (sg l i).2) : ∃ p, ins (sg l i) p = true ∧ lv l i - 1 ≤ cntK l (leveled l) (lv l i - 1) p i := by
  have hlt : (l.take i).length = i := by simp; omega
  have h1 := (levF_spec (sg l i) (l.take i) (onl levR l i) ((l.take i).length + 2) 1 (by omega)).2
  have h3 : lv l i = levF (sg l i) (l.take i) (onl levR l i) ((l.take i).length + 2) 1 := lv_eq hi
  rw [← h3] at h1
  have h4 := lv_pos hi
  by_cases e : 1 < lv l i
  · obtain ⟨p, hp, h2⟩ := (within_spec hi (onl levR l i) (lv l i - 1) hs).2
    rw [cntK_congr (ms := leveled l) fun j hj => lv_pre (by omega) hj] at h2
    have := h1 e
    exact ⟨p, hp, by omega⟩
  · refine ⟨(sg l i).1, by simp [ins]; omega, ?_⟩
    have := cntK_bd l (leveled l) (lv l i - 1) (sg l i).1 i
    omega

theorem cntK_up (l : List Span) (ns : List Int) (k p : Int) : ∀ {i m : Nat}, i ≤ m → cntK l ns k p i ≤ cntK l ns k p m
  | i, 0, h => by
    have : i = 0 := by omega
    subst this
    exact Int.le_refl _
  | i, m + 1, h => by
    by_cases e : i = m + 1
    · subst e; exact Int.le_refl _
    · have := cntK_up l ns k p (i := i) (m := m) (by omega)
      rw [cntK]
      split <;> omega
theorem cntK_k (l : List Span) (ns : List Int) (k p : Int) : ∀ i, cntK l ns (k - 1) p i ≤ cntK l ns k p i
  | 0 => by simp [cntK]
  | i + 1 => by
    have := cntK_k l ns k p i
    simp only [cntK]
    by_cases e : ns.getD i 0 ≤ k - 1 ∧ ins (sg l i) p = true
    · rw [if_pos e, if_pos ⟨by omega, e.2⟩]; omega
    · rw [if_neg e]; split <;> omega
theorem cntK_lt {l : List Span} {ns : List Int} {k p : Int} {j : Nat} (hj : ns.getD j 0 = k) (hp : ins (sg l j) p = true) : ∀ {i : Nat}, j < i → cntK l ns (k - 1) p i + 1 ≤ cntK l ns k p i
  | 0, h => by omega
  | i + 1, h => by
    simp only [cntK]
    by_cases e : j = i
    · subst e
      have := cntK_k l ns k p j
      rw [if_neg (by omega), if_pos ⟨by omega, hp⟩]
      omega
    · have := cntK_lt hj hp (i := i) (by omega)
      by_cases e : ns.getD i 0 ≤ k - 1 ∧ ins (sg l i) p = true
      · rw [if_pos e, if_pos ⟨by omega, e.2⟩]; omega
      · rw [if_neg e]; split <;> omega
theorem cntK_cntU (l : List Span) (ns : List Int) (k p : Int) : ∀ i, cntK l ns k p i ≤ cntU l p i
  | 0 => by simp [cntK, cntU]
  | i + 1 => by
    have := cntK_cntU l ns k p i
    simp only [cntK, cntU]
    by_cases e : ns.getD i 0 ≤ k ∧ ins (sg l i) p = true
    · rw [if_pos e, if_pos e.2]; omega
    · rw [if_neg e]; split <;> omega
theorem cntU_up (l : List Span) (p : Int) : ∀ {i m : Nat}, i ≤ m → cntU l p i ≤ cntU l p m
  | i, 0, h => by
    have : i = 0 := by omega
    subst this
    exact Int.le_refl _
  | i, m + 1, h => by
    by_cases e : i = m + 1
    · subst e; exact Int.le_refl _
    · have := cntU_up l p (i := i) (m := m) (by omega)
      rw [cntU]
      split <;> omega

theorem lev_depth {l : List Span} {i : Nat} (hi : i < l.length) (hs : (sg l i).1 < (sg l i).2) : lv l i ≤ (deep l).2 := by
  obtain ⟨p, hp, h⟩ := lev_B hi hs
  have h1 := cntK_cntU l (leveled l) (lv l i - 1) p i
  have h2 : cntU l p (i + 1) = cntU l p i + 1 := by rw [cntU, if_pos hp]
  have h3 : cntU l p (i + 1) ≤ cnt l p := cntU_up l p (by omega)
  have h4 := deep_ge l p
  omega

/-- A place of an interval where enough lower ones are is in no other one of its level. -/
theorem kt_point {l : List Span} (hok : ∀ s ∈ l, s.1 < s.2) {i j : Nat} (hi : i < l.length) (hj : j < l.length) (hne : j ≠ i) (he : lv l j = lv l i) {p : Int} (hp : ins (sg l i) p = true)
    (hc : lv l i - 1 ≤ cntK l (leveled l) (lv l i - 1) p i) : ins (sg l j) p = false := by
  cases hq : ins (sg l j) p with
  | false => rfl
  | true =>
    exfalso
    rcases Nat.lt_or_ge j i with h | h
    · have h1 := cntK_lt (l := l) (ns := leveled l) (k := lv l i) (p := p) he hq h
      have h2 := lev_A hi (hok _ (sg_mem hi)) hp
      omega
    · have h1 := cntK_lt (l := l) (ns := leveled l) (k := lv l i) (p := p) (j := i) rfl hp (i := j) (by omega)
      have h2 := lev_A hj (hok _ (sg_mem hj)) hq
      have h3 := cntK_up l (leveled l) (lv l i - 1) p (i := i) (m := j) h
      rw [he] at h2
      omega
theorem kt_one {l : List Span} (hok : ∀ s ∈ l, s.1 < s.2) {i j : Nat} (hi : i < l.length) (hj : j < l.length) (hne : j ≠ i) (he : lv l j = lv l i) (h1 : lv l i = 1) : ov (sg l i) (sg l j) = false := by
  cases hq : ov (sg l i) (sg l j) with
  | false => rfl
  | true =>
    obtain ⟨p, h2, h3⟩ := ov_iff.1 hq
    have := cntK_bd l (leveled l) (lv l i - 1) p i
    rw [kt_point hok hi hj hne he h2 (by omega)] at h3
    cases h3

/-- An interval overlaps at most two others of its level. -/
def nearB (l : List Span) (i : Nat) (j : Nat) : Bool := decide (j ≠ i) && decide (lv l j = lv l i) && ov (sg l i) (sg l j)
theorem kt_near {l : List Span} (hok : ∀ s ∈ l, s.1 < s.2) {i : Nat} (hi : i < l.length) : cntN (nearB l i) l.length ≤ 2 := by
  have pts : ∀ j, ∃ p, j < l.length → ins (sg l j) p = true ∧ ∀ m, m < l.length → m ≠ j → lv l m = lv l j → ins (sg l m) p = false := fun j => by
    by_cases hj : j < l.length
    · obtain ⟨p, h1, h2⟩ := lev_B hj (hok _ (sg_mem hj))
      exact ⟨p, fun _ => ⟨h1, fun m hm hne he => kt_point hok hj hm hne he h1 h2⟩⟩
    · exact ⟨0, fun h => absurd h hj⟩
  obtain ⟨pt, hpt⟩ := Classical.skolem.1 pts
  have hsplit : ∀ a, a < l.length → nearB l i a = true → (nearB l i a && decide (pt a < (sg l i).1)) = true ∨ (nearB l i a && decide ((sg l i).2 ≤ pt a)) = true := fun a ha h => by
    have h' := h
    simp only [nearB, Bool.and_eq_true, decide_eq_true_eq] at h'
    have := (hpt a ha).2 i hi (fun e => h'.1.1 e.symm) h'.1.2.symm
    simp only [ins, decide_eq_false_iff_not] at this
    rw [h]
    simp only [Bool.true_and, decide_eq_true_eq]
    omega
  have hle := cntN_or hsplit
  have q1 : cntN (fun a => nearB l i a && decide (pt a < (sg l i).1)) l.length ≤ 1 := cntN_one fun a b ha hb h1 h2 => by
    simp only [nearB, Bool.and_eq_true, decide_eq_true_eq] at h1 h2
    by_cases e : a = b
    · exact e
    exfalso
    have k1 := (hpt a ha).2 b hb (fun x => e x.symm) (by omega)
    have k2 := (hpt b hb).2 a ha e (by omega)
    have k3 := (hpt a ha).1
    have k4 := (hpt b hb).1
    have k5 := h1.1.2
    have k6 := h2.1.2
    simp only [ins, ov, decide_eq_false_iff_not, decide_eq_true_eq] at k1 k2 k3 k4 k5 k6
    omega
  have q2 : cntN (fun a => nearB l i a && decide ((sg l i).2 ≤ pt a)) l.length ≤ 1 := cntN_one fun a b ha hb h1 h2 => by
    simp only [nearB, Bool.and_eq_true, decide_eq_true_eq] at h1 h2
    by_cases e : a = b
    · exact e
    exfalso
    have k1 := (hpt a ha).2 b hb (fun x => e x.symm) (by omega)
    have k2 := (hpt b hb).2 a ha e (by omega)
    have k3 := (hpt a ha).1
    have k4 := (hpt b hb).1
    have k5 := h1.1.2
    have k6 := h2.1.2
    simp only [ins, ov, decide_eq_false_iff_not, decide_eq_true_eq] at k1 k2 k3 k4 k5 k6
    omega
  omega

/- The colouring by levels. -/
theorem mexF_abv (l : List Int) : ∀ (n : Nat) (low : Int), mexF l n low ≤ low + abv l low
  | 0, low => by simp only [mexF]; omega
  | n + 1, low => by
    simp only [mexF]
    split
    · rename_i h
      have := mexF_abv l n (low + 1)
      have := abv_lt h
      omega
    · omega
theorem mex_le (l : List Int) (low : Int) : mex low l ≤ low + l.length := by
  have := mexF_abv l (l.length + 1) low
  have := abv_le l low
  unfold mex
  omega
theorem mex_sub {A B : List Int} {low : Int} (h1 : ∀ x ∈ B, x ∈ A) (h2 : ∀ x ∈ A, low ≤ x → x ≤ low + B.length → x ∈ B) : mex low A = mex low B := by
  obtain ⟨k1, k2, k3⟩ := mex_spec B low
  have := mex_le B low
  exact mex_eq k1 (fun h => k2 (h2 _ h k1 this)) fun x h3 h4 => h1 _ (k3 x h3 h4)
theorem mem_takenU {s : Span} {l : List Span} {ns : List Int} {x : Int} : ∀ {n : Nat}, x ∈ takenU s l ns n ↔ ∃ j, j < n ∧ ov s (sg l j) = true ∧ ns.getD j 0 = x
  | 0 => by simp [takenU]
  | n + 1 => by
    rw [takenU]
    constructor
    · intro h
      split at h
      · rename_i ho
        rcases List.mem_append.1 h with h | h
        · obtain ⟨j, hj, h1⟩ := mem_takenU.1 h
          exact ⟨j, by omega, h1⟩
        · exact ⟨n, by omega, ho, (List.mem_singleton.1 h).symm⟩
      · obtain ⟨j, hj, h1⟩ := mem_takenU.1 h
        exact ⟨j, by omega, h1⟩
    · rintro ⟨j, hj, h1, h2⟩
      by_cases e : j = n
      · subst e
        rw [if_pos h1]
        exact List.mem_append.2 (.inr (List.mem_singleton.2 h2.symm))
      · have := mem_takenU.2 ⟨j, (by omega : j < n), h1, h2⟩
        split
        · exact List.mem_append.2 (.inl this)
        · exact this
theorem mem_rtU {l : List Span} {lvs out : List Int} {i : Nat} {x : Int} : ∀ {n : Nat}, x ∈ rtU l lvs out i n ↔ ∃ j, j < n ∧ lvs.getD j 0 = lvs.getD i 0 ∧ ov (sg l i) (sg l j) = true ∧ out.getD j 0 = x
  | 0 => by simp [rtU]
  | n + 1 => by
    rw [rtU]
    constructor
    · intro h
      split at h
      · rename_i ho
        rcases List.mem_append.1 h with h | h
        · obtain ⟨j, hj, h1⟩ := mem_rtU.1 h
          exact ⟨j, by omega, h1⟩
        · exact ⟨n, by omega, ho.1, ho.2, (List.mem_singleton.1 h).symm⟩
      · obtain ⟨j, hj, h1⟩ := mem_rtU.1 h
        exact ⟨j, by omega, h1⟩
    · rintro ⟨j, hj, h1, h2, h3⟩
      by_cases e : j = n
      · subst e
        rw [if_pos ⟨h1, h2⟩]
        exact List.mem_append.2 (.inr (List.mem_singleton.2 h3.symm))
      · have := mem_rtU.2 ⟨j, (by omega : j < n), h1, h2, h3⟩
        split
        · exact List.mem_append.2 (.inl this)
        · exact this
theorem rtU_cntN (l : List Span) (out : List Int) (i : Nat) : ∀ {n : Nat}, n ≤ i → (rtU l (leveled l) out i n).length ≤ cntN (nearB l i) n
  | 0, _ => by simp [rtU]
  | n + 1, h => by
    have := rtU_cntN l out i (n := n) (by omega)
    rw [rtU, cntN]
    split
    · rename_i hh
      rw [if_pos (by simp only [nearB, hh.2, Bool.and_true, Bool.and_eq_true, decide_eq_true_eq]; exact ⟨by omega, hh.1⟩)]
      simp
      omega
    · split <;> omega

/-- The numbers of one level are apart from those of the others. -/
def InLevel (k c : Int) : Prop := max 0 (3 * k - 5) ≤ c ∧ c ≤ if k = 1 then 0 else 3 * k - 3
theorem kt_color {l : List Span} (hok : ∀ s ∈ l, s.1 < s.2) : ∀ i, i ≤ l.length →
    (∀ j, j < i → InLevel (lv l j) ((onl (troR (leveled l)) l i).getD j 0)) ∧ onl (troR (leveled l)) l i = rtr l (leveled l) i
  | 0, _ => ⟨fun j hj => by omega, rfl⟩
  | i + 1, h => by
    obtain ⟨ih1, ih2⟩ := kt_color hok i (by omega)
    have hi : i < l.length := by omega
    have hlt : (l.take i).length = i := by simp; omega
    have hp := lv_pos hi
    have hB : ∃ B, B = rtU l (leveled l) (onl (troR (leveled l)) l i) i i := ⟨_, rfl⟩
    obtain ⟨B, eB⟩ := hB
    have hA : ∃ A, A = Sh.taken (sg l i) (l.take i) (onl (troR (leveled l)) l i) := ⟨_, rfl⟩
    obtain ⟨A, eA⟩ := hA
    have eA' : A = takenU (sg l i) l (onl (troR (leveled l)) l i) i := by rw [eA, Sh.taken, hlt, takenU_take _ _ _ _ (Nat.le_refl _)]
    have hlow : ∃ low, low = max 0 (3 * lv l i - 5) := ⟨_, rfl⟩
    obtain ⟨low, elow⟩ := hlow
    have hBl : B.length ≤ if lv l i = 1 then 0 else 2 := by
      have h1 := rtU_cntN l (onl (troR (leveled l)) l i) i (n := i) (Nat.le_refl _)
      have h2 := cntN_le (nearB l i) (n := i) (m := l.length) (by omega)
      rw [← eB] at h1
      split
      · rename_i h3
        rw [cntN_zero (n := l.length) fun a ha => ?_] at h2
        · omega
        · by_cases e : a = i
          · simp [nearB, e]
          · by_cases e2 : lv l a = lv l i
            · simp [nearB, kt_one hok hi ha e e2 h3]
            · simp only [nearB, e2, decide_false, Bool.and_false, Bool.false_and]
      · have := kt_near hok hi
        omega
    have em : mex low A = mex low B := by
      refine mex_sub (fun x hx => ?_) fun x hx h1 h2 => ?_
      · rw [eB] at hx
        rw [eA']
        obtain ⟨j, h1, h2, h3, h4⟩ := mem_rtU.1 hx
        exact mem_takenU.2 ⟨j, h1, h3, h4⟩
      · rw [eA'] at hx
        rw [eB]
        obtain ⟨j, h3, h4, h5⟩ := mem_takenU.1 hx
        refine mem_rtU.2 ⟨j, h3, ?_, h4, h5⟩
        have h6 := ih1 j h3
        have h7 := lv_pos (l := l) (i := j) (by omega)
        rw [h5] at h6
        unfold InLevel at h6
        show lv l j = lv l i
        split at hBl <;> split at h6 <;> omega
    have last : (onl (troR (leveled l)) l (i + 1)).getD i 0 = mex low A := by
      rw [onl_get _ _ (by omega), eA, elow]
      simp only [troR, hlt]
    constructor
    · intro j hj
      by_cases e : j = i
      · subst e
        rw [last, em]
        have h1 := (mex_spec B low).1
        have h2 := mex_le B low
        unfold InLevel
        split at hBl <;> rename_i h3
        · rw [if_pos h3]; omega
        · rw [if_neg h3]; omega
      · have : (onl (troR (leveled l)) l (i + 1)).getD j 0 = (onl (troR (leveled l)) l i).getD j 0 := by
          rw [onl_get _ _ (by omega), onl_get _ _ (by omega)]
        rw [this]
        exact ih1 j (by omega)
    · rw [onl, rtr, ← ih2, ← eB]
      congr 2
      show mex (max 0 (3 * (leveled l).getD (l.take i).length 0 - 5)) (Sh.taken (sg l i) (l.take i) (onl (troR (leveled l)) l i)) = _
      rw [hlt, ← eA]
      rw [elow] at em
      exact em
theorem trotter_in {l : List Span} (hok : ∀ s ∈ l, s.1 < s.2) {i : Nat} (hi : i < l.length) : InLevel (lv l i) ((trotter l).getD i 0) := (kt_color hok l.length (Nat.le_refl _)).1 i hi
theorem trotter_rtr {l : List Span} (hok : ∀ s ∈ l, s.1 < s.2) : trotter l = rtr l (leveled l) l.length := (kt_color hok l.length (Nat.le_refl _)).2

end Go.Sh

