/- Intervals: the mathematics of depths, levels and colourings. -/
import Derived.Test.YtgpdimkgfhgffaaS7
set_option linter.unusedSimpArgs false
set_option linter.unusedVariables false

namespace Go.Sh


theorem sg_take {l : List Span} {i n : Nat} (h : i < n) : sg (l.take n) i = sg l i := by
  simp [sg, List.getD_eq_getElem?_getD, List.getElem?_take_of_lt h]

theorem ov_iff {s t : Span} : ov s t = true ↔ ∃ p, ins s p = true ∧ ins t p = true := by
  simp only [ov, ins, decide_eq_true_eq]
  constructor
  · intro h
    exact ⟨max s.1 t.1, by omega, by omega⟩
  · rintro ⟨p, h1, h2⟩
    omega

/- Counting. -/
theorem cntU_mono (l : List Span) (p q : Int) : ∀ i, (∀ j, j < i → ins (sg l j) p = true → ins (sg l j) q = true) → cntU l p i ≤ cntU l q i
  | 0, _ => by simp [cntU]
  | i + 1, h => by
    have ih := cntU_mono l p q i fun j hj => h j (by omega)
    simp only [cntU]
    by_cases h1 : ins (sg l i) p = true
    · rw [if_pos h1, if_pos (h i (by omega) h1)]
      omega
    · rw [if_neg h1]
      split <;> omega

theorem cntU_pos {l : List Span} {p : Int} : ∀ {i : Nat}, 0 < cntU l p i → ∃ j, j < i ∧ ins (sg l j) p = true
  | 0, h => by simp [cntU] at h
  | i + 1, h => by
    simp only [cntU] at h
    by_cases h1 : ins (sg l i) p = true
    · exact ⟨i, by omega, h1⟩
    · rw [if_neg h1] at h
      obtain ⟨j, hj, e⟩ := cntU_pos h
      exact ⟨j, by omega, e⟩

/-- The last beginning at or before a place. -/
theorem last_begin (l : List Span) (p : Int) : ∀ i, 0 < cntU l p i → ∃ j, j < i ∧ ins (sg l j) p = true ∧ ∀ k, k < i → ins (sg l k) p = true → (sg l k).1 ≤ (sg l j).1
  | 0, h => by simp [cntU] at h
  | i + 1, h => by
    simp only [cntU] at h
    by_cases h1 : ins (sg l i) p = true
    · by_cases h0 : 0 < cntU l p i
      · obtain ⟨j, hj, e1, e2⟩ := last_begin l p i h0
        by_cases hc : (sg l i).1 ≤ (sg l j).1
        · refine ⟨j, by omega, e1, fun k hk hp => ?_⟩
          by_cases hki : k = i
          · subst hki; exact hc
          · exact e2 k (by omega) hp
        · refine ⟨i, by omega, h1, fun k hk hp => ?_⟩
          by_cases hki : k = i
          · subst hki; exact Int.le_refl _
          · have := e2 k (by omega) hp; omega
      · refine ⟨i, by omega, h1, fun k hk hp => ?_⟩
        by_cases hki : k = i
        · subst hki; exact Int.le_refl _
        · exfalso
          apply h0
          have : ∀ m, k < m → 0 < cntU l p m := fun m => by
            induction m with
            | zero => intro h; omega
            | succ m ih =>
              intro hkm
              have := cntU_bd l p m
              simp only [cntU]
              by_cases e : k = m
              · subst e; rw [if_pos hp]; omega
              · have := ih (by omega)
                split <;> omega
          exact this i (by omega)
    · rw [if_neg h1] at h
      obtain ⟨j, hj, e1, e2⟩ := last_begin l p i h
      refine ⟨j, by omega, e1, fun k hk hp => ?_⟩
      by_cases hki : k = i
      · subst hki; exact absurd hp h1
      · exact e2 k (by omega) hp

theorem cnt_begin {l : List Span} {p : Int} (h : 0 < cnt l p) : ∃ j, j < l.length ∧ (sg l j).1 ≤ p ∧ cnt l p ≤ cnt l (sg l j).1 := by
  obtain ⟨j, hj, e1, e2⟩ := last_begin l p _ h
  simp only [ins, decide_eq_true_eq] at e1
  refine ⟨j, hj, e1.1, cntU_mono l p _ _ fun k hk hp => ?_⟩
  have := e2 k hk hp
  simp only [ins, decide_eq_true_eq] at hp ⊢
  omega

theorem deepU_ge (l : List Span) : ∀ i j, j < i → cnt l (sg l j).1 ≤ (deepU l i).2
  | 0, j, h => by omega
  | i + 1, j, h => by
    simp only [deepU]
    by_cases e : j = i
    · subst e
      split
      · exact Int.le_refl _
      · omega
    · have := deepU_ge l i j (by omega)
      split
      · simp only
        omega
      · exact this

theorem deepU_at (l : List Span) : ∀ i, (deepU l i = (0, 0)) ∨ ∃ j, j < i ∧ (deepU l i).1 = (sg l j).1 ∧ (deepU l i).2 = cnt l (sg l j).1
  | 0 => .inl rfl
  | i + 1 => by
    simp only [deepU]
    split
    · exact .inr ⟨i, by omega, rfl, rfl⟩
    · rcases deepU_at l i with h | ⟨j, hj, h⟩
      · exact .inl h
      · exact .inr ⟨j, by omega, h⟩

theorem deepU_least (l : List Span) : ∀ i j, j < i → cnt l (sg l j).1 = (deepU l i).2 → 0 < (deepU l i).2 → (deepU l i).1 ≤ (sg l j).1
  | 0, j, h, _, _ => by omega
  | i + 1, j, h, he, hp => by
    simp only [deepU] at he hp ⊢
    by_cases e : j = i
    · subst e
      split
      · exact Int.le_refl _
      · rename_i hn
        rw [if_neg hn] at he hp
        omega
    · split
      · rename_i hn
        rw [if_pos hn] at he hp
        simp only at he hp ⊢
        have h1 := deepU_ge l i j (by omega)
        rcases hn with hn | ⟨hn1, hn2⟩
        · omega
        · have := deepU_least l i j (by omega) (by omega) (by omega)
          omega
      · rename_i hn
        rw [if_neg hn] at he hp
        exact deepU_least l i j (by omega) he hp

/-- The depth is the most at any place. -/
theorem deep_ge (l : List Span) (p : Int) : cnt l p ≤ (deep l).2 := by
  by_cases h : 0 < cnt l p
  · obtain ⟨j, hj, _, h2⟩ := cnt_begin h
    have := deepU_ge l l.length j hj
    unfold deep
    omega
  · have := deepU_bd l l.length
    unfold deep
    omega
theorem deep_nn (l : List Span) : 0 ≤ (deep l).2 ∧ (deep l).2 ≤ l.length := deepU_bd l l.length
theorem deep_at (l : List Span) (h : 0 < (deep l).2) : cnt l (deep l).1 = (deep l).2 ∧ ∃ j, j < l.length ∧ (deep l).1 = (sg l j).1 := by
  rcases deepU_at l l.length with e | ⟨j, hj, e1, e2⟩
  · unfold deep at h
    rw [e] at h
    simp at h
  · unfold deep
    exact ⟨by rw [e1, e2], j, hj, e1⟩
/-- .. and its place is the least such. -/
theorem deep_least (l : List Span) (h : 0 < (deep l).2) {p : Int} (hp : cnt l p = (deep l).2) : (deep l).1 ≤ p := by
  obtain ⟨j, hj, h1, h2⟩ := cnt_begin (l := l) (p := p) (by omega)
  have h3 := deep_ge l (sg l j).1
  have := deepU_least l l.length j hj (by unfold deep at *; omega) (by unfold deep at h; exact h)
  unfold deep
  omega
theorem cnt_self {l : List Span} {i : Nat} (hi : i < l.length) (hs : (sg l i).1 < (sg l i).2) : 0 < cnt l (sg l i).1 := by
  have : ∀ m, i < m → 0 < cntU l (sg l i).1 m := fun m => by
    induction m with
    | zero => intro h; omega
    | succ m ih =>
      intro him
      have := cntU_bd l (sg l i).1 m
      simp only [cntU]
      by_cases e : i = m
      · subst e; rw [if_pos (by simp [ins]; omega)]; omega
      · have := ih (by omega)
        split <;> omega
  exact this _ hi
theorem deep_pos {l : List Span} (hn : l ≠ []) (hok : ∀ s ∈ l, s.1 < s.2) : 0 < (deep l).2 := by
  have hl := List.length_pos_iff.2 hn
  have := cnt_self hl (hok _ (sg_mem hl))
  have := deep_ge l (sg l 0).1
  omega
theorem deep_eq {l : List Span} {d : Int} (h1 : ∀ p, cnt l p ≤ d) (h2 : d = 0 ∨ ∃ p, cnt l p = d) : (deep l).2 = d := by
  have h3 := deep_nn l
  rcases h2 with rfl | ⟨p, hp⟩
  · by_cases h : 0 < (deep l).2
    · have := (deep_at l h).1
      have := h1 (deep l).1
      omega
    · omega
  · have := deep_ge l p
    by_cases h : 0 < (deep l).2
    · have := (deep_at l h).1
      have := h1 (deep l).1
      omega
    · have := cnt_bd l p
      omega

/-- The reference's depth over a range. -/
theorem rdU_ge (l : List Span) (lo : Int) : ∀ n j, j < n → cnt l (lo + (j : Nat)) ≤ (rdU l lo n).1
  | 0, j, h => by omega
  | n + 1, j, h => by
    simp only [rdU]
    by_cases e : j = n
    · subst e
      split
      · exact Int.le_refl _
      · omega
    · have := rdU_ge l lo n j (by omega)
      split
      · simp only; omega
      · exact this
theorem rdU_at (l : List Span) (lo : Int) : ∀ n, (rdU l lo n = (0, 0)) ∨ ∃ j, j < n ∧ (rdU l lo n).2 = lo + (j : Nat) ∧ (rdU l lo n).1 = cnt l (lo + (j : Nat)) ∧ ∀ i, i < j → cnt l (lo + (i : Nat)) < (rdU l lo n).1
  | 0 => .inl rfl
  | n + 1 => by
    simp only [rdU]
    split
    · rename_i h
      refine .inr ⟨n, by omega, rfl, rfl, fun i hi => ?_⟩
      have := rdU_ge l lo n i hi
      simp only
      omega
    · rcases rdU_at l lo n with h | ⟨j, hj, h⟩
      · exact .inl h
      · exact .inr ⟨j, by omega, h⟩

/-- Over all numbers, both find the same. -/
theorem rd_all {l : List Span} (hok : ∀ s ∈ l, 0 ≤ s.1 ∧ s.1 < s.2 ∧ s.2 ≤ 1000) : (rd l (0, 1000)).1 = (deep l).2 ∧ (l ≠ [] → (rd l (0, 1000)).2 = (deep l).1) := by
  have hlen : ((1000 : Int) - 0).toNat = 1000 := rfl
  have hle : (rd l (0, 1000)).1 ≤ (deep l).2 := by
    rcases rdU_at l 0 1000 with h | ⟨j, _, _, h, _⟩
    · have := deep_nn l
      simp only [rd, hlen, h]
      exact this.1
    · simp only [rd, hlen, h]
      exact deep_ge l _
  have hge : (deep l).2 ≤ (rd l (0, 1000)).1 := by
    by_cases h : 0 < (deep l).2
    · obtain ⟨h1, j, hj, h2⟩ := deep_at l h
      have := hok _ (sg_mem hj)
      have hg := rdU_ge l 0 1000 (deep l).1.toNat (by omega)
      rw [show (0 : Int) + ((deep l).1.toNat : Nat) = (deep l).1 by omega, h1] at hg
      simp only [rd, hlen]
      exact hg
    · have := rdU_bd l 0 1000
      simp only [rd, hlen]
      omega
  refine ⟨by omega, fun hn => ?_⟩
  have h := deep_pos hn fun s hs => (hok s hs).2.1
  obtain ⟨h1, j, hj, h2⟩ := deep_at l h
  have hj' := hok _ (sg_mem hj)
  simp only [rd, hlen] at hle hge ⊢
  rcases rdU_at l 0 1000 with e | ⟨i, hi, e1, e2, e3⟩
  · rw [e] at hge
    simp only at hge
    omega
  · have := deep_least l h (p := 0 + (i : Nat)) (by omega)
    by_cases hlt : (deep l).1 < 0 + (i : Nat)
    · have := e3 (deep l).1.toNat (by omega)
      rw [show (0 : Int) + ((deep l).1.toNat : Nat) = (deep l).1 by omega] at this
      omega
    · omega

/- The depth at an interval, among those before it of a level at most k. -/
def cntK (l : List Span) (ns : List Int) (k p : Int) : Nat → Int
  | 0 => 0
  | i + 1 => if ns.getD i 0 ≤ k ∧ ins (sg l i) p = true then cntK l ns k p i + 1 else cntK l ns k p i
theorem cntK_bd (l : List Span) (ns : List Int) (k p : Int) : ∀ i, 0 ≤ cntK l ns k p i ∧ cntK l ns k p i ≤ i
  | 0 => by simp [cntK]
  | i + 1 => by
    have := cntK_bd l ns k p i
    simp only [cntK]
    split <;> omega
theorem cnt_app (l : List Span) (s : Span) (p : Int) : cnt (l ++ [s]) p = cnt l p + if ins s p = true then 1 else 0 := by
  have key : ∀ m, m ≤ l.length → cntU (l ++ [s]) p m = cntU l p m := fun m => by
    induction m with
    | zero => intro _; rfl
    | succ m ih =>
      intro hm
      have : sg (l ++ [s]) m = sg l m := by simp [sg, List.getD_eq_getElem?_getD, List.getElem?_append_left (show m < l.length by omega)]
      simp only [cntU, this, ih (by omega)]
  have hs : sg (l ++ [s]) l.length = s := by simp [sg, List.getD_eq_getElem?_getD]
  unfold cnt
  rw [List.length_append, List.length_singleton]
  simp only [cntU, hs, key _ (Nat.le_refl _)]
  split <;> omega
theorem cnt_nil (p : Int) : cnt [] p = 0 := rfl
theorem cnt_upto (k : Int) (l : List Span) (ns : List Int) (p : Int) : ∀ i, cnt (uptoU k l ns i) p = cntK l ns k p i
  | 0 => rfl
  | i + 1 => by
    simp only [uptoU, cntK]
    by_cases h : ns.getD i 0 ≤ k
    · rw [if_pos h, cnt_app, cnt_upto k l ns p i]
      by_cases h2 : ins (sg l i) p = true
      · rw [if_pos h2, if_pos ⟨h, h2⟩]
      · rw [if_neg h2, if_neg fun e => h2 e.2]
        omega
    · rw [if_neg h, if_neg fun e => h e.1, cnt_upto k l ns p i]
theorem cnt_cons (s : Span) (l : List Span) (p : Int) : cnt (s :: l) p = (if ins s p = true then 1 else 0) + cnt l p := by
  have key : ∀ m, cntU (s :: l) p (m + 1) = (if ins s p = true then 1 else 0) + cntU l p m := fun m => by
    induction m with
    | zero =>
      simp only [cntU, sg, List.getD_cons_zero]
      split <;> omega
    | succ m ih =>
      rw [cntU, ih, cntU]
      have : sg (s :: l) (m + 1) = sg l m := by simp [sg]
      rw [this]
      split <;> omega
  exact key l.length
theorem cnt_low (l : List Span) (i : Nat) (ns : List Int) (k p : Int) (hp : ins (sg l i) p = true) : cnt (lowU l i ns k i) p = 1 + cntK l ns k p i := by
  rw [lowU, cnt_cons, if_pos hp, cnt_upto]
theorem cnt_parts (s : Span) (l : List Span) (p : Int) : ∀ i, cnt (partsU s l i) p = if ins s p = true then 1 + cntU l p i else 0
  | 0 => by
    rw [partsU, cnt_cons, cnt_nil]
    simp only [cntU]
    split <;> omega
  | i + 1 => by
    have ih := cnt_parts s l p i
    simp only [partsU, cntU]
    by_cases h : ov s (sg l i) = true
    · rw [if_pos h, cnt_app, ih]
      by_cases h1 : ins s p = true
      · rw [if_pos h1, if_pos h1]
        have : ins (max s.1 (sg l i).1, min s.2 (sg l i).2) p = ins (sg l i) p := by
          simp only [ins, decide_eq_true_eq, decide_eq_decide] at h1 ⊢
          omega
        rw [this]
        split <;> omega
      · rw [if_neg h1, if_neg h1]
        have : ins (max s.1 (sg l i).1, min s.2 (sg l i).2) p = false := by
          simp only [ins, decide_eq_true_eq, decide_eq_false_iff_not] at h1 ⊢
          omega
        rw [this]
        simp
    · rw [if_neg h, ih]
      by_cases h1 : ins s p = true
      · rw [if_pos h1, if_pos h1, if_neg]
        intro h2
        exact h (ov_iff.2 ⟨p, h1, h2⟩)
      · rw [if_neg h1, if_neg h1]

theorem cntU_take (l : List Span) (p : Int) {n : Nat} : ∀ i, i ≤ n → cntU (l.take n) p i = cntU l p i
  | 0, _ => rfl
  | i + 1, h => by rw [cntU, cntU, sg_take (by omega), cntU_take l p i (by omega)]
theorem cntK_take (l : List Span) (ns : List Int) (k p : Int) {n : Nat} : ∀ i, i ≤ n → cntK (l.take n) ns k p i = cntK l ns k p i
  | 0, _ => rfl
  | i + 1, h => by rw [cntK, cntK, sg_take (by omega), cntK_take l ns k p i (by omega)]

/-- What 'within' is: the most at a place of the interval. -/
theorem within_spec {l : List Span} {i : Nat} (hi : i < l.length) (ns : List Int) (k : Int) (hs : (sg l i).1 < (sg l i).2) :
    (∀ p, ins (sg l i) p = true → 1 + cntK l ns k p i ≤ within (sg l i) (upto k (l.take i) ns)) ∧ ∃ p, ins (sg l i) p = true ∧ 1 + cntK l ns k p i = within (sg l i) (upto k (l.take i) ns) := by
  have hlt : (l.take i).length = i := by simp; omega
  have e : ∀ p, cnt (partsU (sg l i) (upto k (l.take i) ns) (upto k (l.take i) ns).length) p = if ins (sg l i) p = true then 1 + cntK l ns k p i else 0 := fun p => by
    rw [cnt_parts]
    have : cntU (upto k (l.take i) ns) p (upto k (l.take i) ns).length = cntK l ns k p i := by
      have := cnt_upto k (l.take i) ns p (l.take i).length
      rw [hlt, cntK_take l ns k p i (Nat.le_refl _)] at this
      unfold upto
      rw [hlt]
      exact this
    rw [this]
  constructor
  · intro p hp
    have := deep_ge (partsU (sg l i) (upto k (l.take i) ns) (upto k (l.take i) ns).length) p
    rw [e, if_pos hp] at this
    exact this
  · have hp : ins (sg l i) (sg l i).1 = true := by simp [ins]; omega
    have h1 := deep_ge (partsU (sg l i) (upto k (l.take i) ns) (upto k (l.take i) ns).length) (sg l i).1
    rw [e, if_pos hp] at h1
    have h2 := cntK_bd l ns k (sg l i).1 i
    have h3 := (deep_at (partsU (sg l i) (upto k (l.take i) ns) (upto k (l.take i) ns).length) (by omega)).1
    rw [e] at h3
    split at h3
    · rename_i h4
      exact ⟨_, h4, h3⟩
    · omega

theorem within_eq {l : List Span} {i : Nat} (hi : i < l.length) (ns : List Int) (k : Int) (hs : (sg l i).1 < (sg l i).2) {d : Int}
    (h1 : ∀ p, ins (sg l i) p = true → 1 + cntK l ns k p i ≤ d) (h2 : ∃ p, ins (sg l i) p = true ∧ 1 + cntK l ns k p i = d) : within (sg l i) (upto k (l.take i) ns) = d := by
  obtain ⟨k1, p, hp, k2⟩ := within_spec hi ns k hs
  obtain ⟨q, hq, h3⟩ := h2
  have := h1 p hp
  have := k1 q hq
  omega

/-- The reference's depth at an interval is the same. -/
theorem rd_low {l : List Span} {i : Nat} (hi : i < l.length) (ns : List Int) (k : Int) (hs : (sg l i).1 < (sg l i).2) : (rd (lowU l i ns k i) (sg l i)).1 = within (sg l i) (upto k (l.take i) ns) := by
  symm
  have inr : ∀ j : Nat, j < ((sg l i).2 - (sg l i).1).toNat → ins (sg l i) ((sg l i).1 + j) = true := fun j hj => by simp [ins]; omega
  refine within_eq hi ns k hs (fun p hp => ?_) ?_
  · have hp' := hp
    simp only [ins, decide_eq_true_eq] at hp'
    have := rdU_ge (lowU l i ns k i) (sg l i).1 ((sg l i).2 - (sg l i).1).toNat (p - (sg l i).1).toNat (by omega)
    rw [show (sg l i).1 + ((p - (sg l i).1).toNat : Nat) = p by omega, cnt_low l i ns k p hp] at this
    exact this
  · rcases rdU_at (lowU l i ns k i) (sg l i).1 ((sg l i).2 - (sg l i).1).toNat with e | ⟨j, hj, e1, e2, _⟩
    · exfalso
      have := rdU_ge (lowU l i ns k i) (sg l i).1 ((sg l i).2 - (sg l i).1).toNat 0 (by omega)
      rw [e, show (sg l i).1 + ((0 : Nat) : Int) = (sg l i).1 by omega, cnt_low l i ns k _ (by simp [ins]; omega)] at this
      have := cntK_bd l ns k (sg l i).1 i
      simp only at *
      omega
    · refine ⟨_, inr j hj, ?_⟩
      rw [rd, e2, cnt_low l i ns k _ (inr j hj)]

end Go.Sh

