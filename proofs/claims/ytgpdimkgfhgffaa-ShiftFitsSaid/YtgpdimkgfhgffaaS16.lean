/- Intervals: what First Fit uses. -/
import Derived.Test.YtgpdimkgfhgffaaS11
set_option linter.unusedSimpArgs false
set_option linter.unusedVariables false

namespace Go.Sh


/- More counting. -/
theorem cntN_len (P : Nat → Bool) : ∀ n, cntN P n ≤ n
  | 0 => by simp [cntN]
  | n + 1 => by
    have := cntN_len P n
    rw [cntN]
    split <;> omega
theorem cntN_pos {P : Nat → Bool} : ∀ {n a : Nat}, a < n → P a = true → 1 ≤ cntN P n
  | 0, a, h, _ => by omega
  | n + 1, a, h, e => by
    rw [cntN]
    by_cases e2 : a = n
    · subst e2; rw [if_pos e]; omega
    · have := cntN_pos (n := n) (by omega) e
      split <;> omega
theorem cntN_add {P Q R : Nat → Bool} : ∀ {n : Nat}, (∀ a, a < n → R a = (P a || Q a)) → (∀ a, a < n → P a = true → Q a = true → False) → cntN R n = cntN P n + cntN Q n
  | 0, _, _ => rfl
  | n + 1, h1, h2 => by
    have ih := cntN_add (n := n) (P := P) (Q := Q) (R := R) (fun a ha => h1 a (by omega)) fun a ha => h2 a (by omega)
    have e1 := h1 n (by omega)
    have e2 := h2 n (by omega)
    simp only [cntN, ih, e1]
    cases eP : P n <;> cases eQ : Q n
    · simp
    · simp; omega
    · simp; omega
    · exact (e2 eP eQ).elim
theorem cntN_two {P : Nat → Bool} {n a b : Nat} (ha : a < n) (hb : b < n) (hne : a ≠ b) (pa : P a = true) (pb : P b = true) : 2 ≤ cntN P n := by
  have h := cntN_add (n := n) (R := P) (P := fun x => P x && decide (x = a)) (Q := fun x => P x && decide (x ≠ a)) (fun x _ => by by_cases e : x = a <;> simp [e]) (fun x _ h1 h2 => by simp at h1 h2; exact h2.2 h1.2)
  have h1 := cntN_pos (P := fun x => P x && decide (x = a)) ha (by simp [pa])
  have h2 := cntN_pos (P := fun x => P x && decide (x ≠ a)) hb (by simp [pb]; omega)
  omega
theorem cntN_three {P : Nat → Bool} {n a b c : Nat} (ha : a < n) (hb : b < n) (hc : c < n) (h1 : a ≠ b) (h2 : a ≠ c) (h3 : b ≠ c) (pa : P a = true) (pb : P b = true) (pc : P c = true) : 3 ≤ cntN P n := by
  have h := cntN_add (n := n) (R := P) (P := fun x => P x && decide (x = a)) (Q := fun x => P x && decide (x ≠ a)) (fun x _ => by by_cases e : x = a <;> simp [e]) (fun x _ h1 h2 => by simp at h1 h2; exact h2.2 h1.2)
  have k1 := cntN_pos (P := fun x => P x && decide (x = a)) ha (by simp [pa])
  have k2 := cntN_two (P := fun x => P x && decide (x ≠ a)) hb hc h3 (by simp [pb]; omega) (by simp [pc]; omega)
  omega
theorem cntN_cntU {l : List Span} {p : Int} {P : Nat → Bool} : ∀ {n : Nat}, (∀ j, j < n → P j = true → ins (sg l j) p = true) → (cntN P n : Int) ≤ cntU l p n
  | 0, _ => by simp [cntN, cntU]
  | n + 1, h => by
    have ih := cntN_cntU (n := n) (P := P) fun j hj => h j (by omega)
    simp only [cntN, cntU]
    by_cases e : P n = true
    · rw [if_pos e, if_pos (h n (by omega) e)]; omega
    · rw [if_neg e]; split <;> omega
theorem max_left {l : List Span} {P : Nat → Bool} : ∀ {n : Nat}, 0 < cntN P n → ∃ j, j < n ∧ P j = true ∧ ∀ k, k < n → P k = true → (sg l k).1 ≤ (sg l j).1
  | 0, h => by simp [cntN] at h
  | n + 1, h => by
    by_cases e : P n = true
    · by_cases h0 : 0 < cntN P n
      · obtain ⟨j, hj, e1, e2⟩ := max_left (l := l) h0
        by_cases hc : (sg l n).1 ≤ (sg l j).1
        · refine ⟨j, by omega, e1, fun k hk hp => ?_⟩
          by_cases hki : k = n
          · subst hki; exact hc
          · exact e2 k (by omega) hp
        · refine ⟨n, by omega, e, fun k hk hp => ?_⟩
          by_cases hki : k = n
          · subst hki; exact Int.le_refl _
          · have := e2 k (by omega) hp; omega
      · refine ⟨n, by omega, e, fun k hk hp => ?_⟩
        by_cases hki : k = n
        · subst hki; exact Int.le_refl _
        · have := cntN_pos (n := n) (a := k) (by omega) hp
          omega
    · rw [cntN, if_neg e] at h
      obtain ⟨j, hj, e1, e2⟩ := max_left (l := l) h
      refine ⟨j, by omega, e1, fun k hk hp => ?_⟩
      by_cases hki : k = n
      · subst hki; exact absurd hp e
      · exact e2 k (by omega) hp

/- Lists of different numbers. -/
theorem nodup_sub {L M : List Int} (hL : L.Nodup) (h : ∀ x ∈ L, x ∈ M) : L.length ≤ M.length := by
  induction L generalizing M with
  | nil => simp
  | cons x L ih =>
    rw [List.nodup_cons] at hL
    have hx := h x (List.mem_cons_self ..)
    have := ih (M := M.erase x) hL.2 fun y hy => (List.mem_erase_of_ne (fun e => hL.1 (by rw [← e]; exact hy))).2 (h y (List.mem_cons_of_mem _ hy))
    have h2 := List.length_erase_of_mem hx
    have h3 := List.length_pos_of_mem hx
    simp only [List.length_cons]
    omega
def upN : Nat → List Int
  | 0 => []
  | n + 1 => (n : Int) :: upN n
theorem mem_upN {x : Int} : ∀ {n : Nat}, x ∈ upN n ↔ 0 ≤ x ∧ x < n
  | 0 => by simp only [upN, List.not_mem_nil, false_iff]; omega
  | n + 1 => by
    rw [upN, List.mem_cons, mem_upN]
    omega
theorem upN_nodup : ∀ n, (upN n).Nodup
  | 0 => by simp [upN]
  | n + 1 => by
    rw [upN, List.nodup_cons]
    exact ⟨fun h => by have := mem_upN.1 h; omega, upN_nodup n⟩
theorem upN_len : ∀ n, (upN n).length = n
  | 0 => rfl
  | n + 1 => by rw [upN, List.length_cons, upN_len n]

/- What 'most' counts. -/
theorem mem_seenU {l : List Int} {x : Int} : ∀ {n : Nat}, x ∈ seenU l n ↔ ∃ j, j < n ∧ l.getD j 0 = x
  | 0 => by simp [seenU]
  | n + 1 => by
    rw [seenU]
    constructor
    · intro h
      split at h
      · obtain ⟨j, hj, e⟩ := mem_seenU.1 h
        exact ⟨j, by omega, e⟩
      · rcases List.mem_append.1 h with h | h
        · obtain ⟨j, hj, e⟩ := mem_seenU.1 h
          exact ⟨j, by omega, e⟩
        · exact ⟨n, by omega, (List.mem_singleton.1 h).symm⟩
    · rintro ⟨j, hj, e⟩
      by_cases e2 : j = n
      · subst e2
        split
        · rename_i h; rw [← e]; exact h
        · exact List.mem_append.2 (.inr (List.mem_singleton.2 e.symm))
      · have := mem_seenU.2 ⟨j, (by omega : j < n), e⟩
        split
        · exact this
        · exact List.mem_append.2 (.inl this)
theorem seenU_nodup (l : List Int) : ∀ n, (seenU l n).Nodup
  | 0 => by simp [seenU]
  | n + 1 => by
    rw [seenU]
    split
    · exact seenU_nodup l n
    · rename_i h
      rw [List.nodup_append]
      refine ⟨seenU_nodup l n, by simp, fun a ha b hb => ?_⟩
      rw [List.mem_singleton] at hb
      subst hb
      exact fun e => h (e ▸ ha)
theorem topU_ge (l : List Int) : ∀ n j, j < n → l.getD j 0 + 1 ≤ topU l n
  | 0, j, h => by omega
  | n + 1, j, h => by
    rw [topU]
    by_cases e : j = n
    · subst e; omega
    · have := topU_ge l n j (by omega)
      omega
theorem topU_at (l : List Int) : ∀ n, topU l n = 0 ∨ ∃ j, j < n ∧ topU l n = l.getD j 0 + 1
  | 0 => .inl rfl
  | n + 1 => by
    rw [topU]
    by_cases h : topU l n ≤ l.getD n 0 + 1
    · exact .inr ⟨n, by omega, by omega⟩
    · rw [show max (topU l n) (l.getD n 0 + 1) = topU l n by omega]
      rcases topU_at l n with h | ⟨j, hj, h⟩
      · exact .inl h
      · exact .inr ⟨j, by omega, h⟩
theorem topU_nn (l : List Int) : ∀ n, 0 ≤ topU l n
  | 0 => Int.le_refl _
  | n + 1 => by have := topU_nn l n; rw [topU]; omega
/-- If each number below the greatest one is there, they are as many as the greatest one says. -/
theorem seen_top {F : List Int} {n : Nat} (h0 : ∀ j, j < n → 0 ≤ F.getD j 0) (hd : ∀ i, i < n → ∀ c, 0 ≤ c → c < F.getD i 0 → ∃ j, j < n ∧ F.getD j 0 = c) : ((seenU F n).length : Int) = topU F n := by
  have hn := topU_nn F n
  have h1 := nodup_sub (L := seenU F n) (M := upN (topU F n).toNat) (seenU_nodup F n) fun x hx => by
    obtain ⟨j, hj, e⟩ := mem_seenU.1 hx
    have := h0 j hj
    have := topU_ge F n j hj
    exact mem_upN.2 (by omega)
  have h2 := nodup_sub (L := upN (topU F n).toNat) (M := seenU F n) (upN_nodup _) fun x hx => by
    have hx := mem_upN.1 hx
    rcases topU_at F n with e | ⟨j, hj, e⟩
    · omega
    · by_cases hc : x = F.getD j 0
      · exact mem_seenU.2 ⟨j, hj, hc.symm⟩
      · obtain ⟨k, hk, e2⟩ := hd j hj x hx.1 (by omega)
        exact mem_seenU.2 ⟨k, hk, e2⟩
  rw [upN_len] at h1 h2
  omega

/-- The numbers of the intervals at a place. -/
def colU (l : List Span) (F : List Int) (p : Int) : Nat → List Int
  | 0 => []
  | n + 1 => if ins (sg l n) p = true then F.getD n 0 :: colU l F p n else colU l F p n
theorem colU_len (l : List Span) (F : List Int) (p : Int) : ∀ n, ((colU l F p n).length : Int) = cntU l p n
  | 0 => rfl
  | n + 1 => by
    have := colU_len l F p n
    simp only [colU, cntU]
    split
    · simp; omega
    · exact this
theorem mem_colU {l : List Span} {F : List Int} {p x : Int} : ∀ {n : Nat}, x ∈ colU l F p n → ∃ j, j < n ∧ ins (sg l j) p = true ∧ F.getD j 0 = x
  | 0, h => by simp [colU] at h
  | n + 1, h => by
    rw [colU] at h
    split at h
    · rename_i e
      rcases List.mem_cons.1 h with h | h
      · exact ⟨n, by omega, e, h.symm⟩
      · obtain ⟨j, hj, e⟩ := mem_colU h
        exact ⟨j, by omega, e⟩
    · obtain ⟨j, hj, e⟩ := mem_colU h
      exact ⟨j, by omega, e⟩
/-- A colouring is proper. -/
def IsProper (l : List Span) (F : List Int) : Prop := ∀ i j, i < l.length → j < i → ov (sg l i) (sg l j) = true → F.getD j 0 ≠ F.getD i 0
theorem colU_nodup {l : List Span} {F : List Int} (hp : IsProper l F) (p : Int) : ∀ n, n ≤ l.length → (colU l F p n).Nodup
  | 0, _ => by simp [colU]
  | n + 1, h => by
    rw [colU]
    split
    · rename_i e
      rw [List.nodup_cons]
      refine ⟨fun hm => ?_, colU_nodup hp p n (by omega)⟩
      obtain ⟨j, hj, e1, e2⟩ := mem_colU hm
      exact hp n j (by omega) hj (ov_iff.2 ⟨p, e, e1⟩) e2
    · exact colU_nodup hp p n (by omega)
/-- A proper colouring uses at least as many numbers as the depth says. -/
theorem depth_seen {l : List Span} {F : List Int} (hp : IsProper l F) : (deep l).2 ≤ (seenU F l.length).length := by
  by_cases h : 0 < (deep l).2
  · have h1 := (deep_at l h).1
    have h2 := colU_len l F (deep l).1 l.length
    have h3 := nodup_sub (colU_nodup hp (deep l).1 l.length (Nat.le_refl _)) (M := seenU F l.length) fun x hx => by
      obtain ⟨j, hj, _, e⟩ := mem_colU hx
      exact mem_seenU.2 ⟨j, hj, e⟩
    unfold cnt at h1
    omega
  · omega

/- First Fit. -/
abbrev fc (l : List Span) (i : Nat) : Int := (fit l).getD i 0
theorem fc_eq {l : List Span} {i : Nat} (hi : i < l.length) : fc l i = mex 0 (takenU (sg l i) l (onl fitR l i) i) := by
  have hlt : (l.take i).length = i := by simp; omega
  have := onl_get fitR l hi
  show (onl fitR l l.length).getD i 0 = _
  rw [this]
  show mex 0 (Sh.taken (sg l i) (l.take i) (onl fitR l i)) = _
  rw [Sh.taken, hlt, takenU_take _ _ _ _ (Nat.le_refl _)]
theorem fc_mem {l : List Span} {i : Nat} (hi : i < l.length) {x : Int} : x ∈ takenU (sg l i) l (onl fitR l i) i ↔ ∃ j, j < i ∧ ov (sg l i) (sg l j) = true ∧ fc l j = x := by
  rw [mem_takenU]
  have : ∀ j, j < i → (onl fitR l i).getD j 0 = fc l j := fun j hj => by
    rw [onl_get fitR l hj]
    exact (onl_get fitR l (show j < l.length by omega)).symm
  constructor
  · rintro ⟨j, hj, h1, h2⟩
    exact ⟨j, hj, h1, by rw [← this j hj]; exact h2⟩
  · rintro ⟨j, hj, h1, h2⟩
    exact ⟨j, hj, h1, by rw [this j hj]; exact h2⟩
theorem fc_nn {l : List Span} {i : Nat} (hi : i < l.length) : 0 ≤ fc l i ∧ fc l i ≤ i := by
  rw [fc_eq hi]
  have h1 := (mex_spec (takenU (sg l i) l (onl fitR l i) i) 0).1
  have h2 := mex_le (takenU (sg l i) l (onl fitR l i) i) 0
  have h3 := takenU_len (sg l i) l (onl fitR l i) i
  omega
theorem fc_lt {l : List Span} {i : Nat} (hi : i < l.length) {c : Int} (h0 : 0 ≤ c) (hc : c < fc l i) : ∃ j, j < i ∧ ov (sg l i) (sg l j) = true ∧ fc l j = c := by
  rw [fc_eq hi] at hc
  exact (fc_mem hi).1 ((mex_spec _ 0).2.2 c h0 hc)
theorem fit_proper (l : List Span) : IsProper l (fit l) := fun i j hi hj ho he => by
  have h1 := (mex_spec (takenU (sg l i) l (onl fitR l i) i) 0).2.1
  rw [← fc_eq hi] at h1
  exact h1 ((fc_mem hi).2 ⟨j, hj, ho, he⟩)
theorem fit_seen (l : List Span) : ((seenU (fit l) l.length).length : Int) = topU (fit l) l.length :=
  seen_top (fun j hj => (fc_nn hj).1) fun i hi c h0 hc => by
    obtain ⟨j, hj, _, e⟩ := fc_lt hi h0 hc
    exact ⟨j, by omega, e⟩

theorem fit_one {l : List Span} (hd : (deep l).2 ≤ 1) {i : Nat} (hi : i < l.length) : fc l i ≤ 0 := by
  by_cases h : fc l i ≤ 0
  · exact h
  · exfalso
    obtain ⟨j, hj, ho, _⟩ := fc_lt hi (c := 0) (by omega) (by omega)
    obtain ⟨p, h1, h2⟩ := ov_iff.1 ho
    have h3 := cntN_two (P := fun x => ins (sg l x) p) (n := l.length) hi (by omega : j < l.length) (by omega) h1 h2
    have h4 := cntN_cntU (l := l) (p := p) (P := fun x => ins (sg l x) p) (n := l.length) fun _ _ h => h
    have h5 := deep_ge l p
    unfold cnt at h5
    omega
theorem three_at {l : List Span} (hd : (deep l).2 ≤ 2) {a b c : Nat} (ha : a < l.length) (hb : b < l.length) (hc : c < l.length) (h1 : a ≠ b) (h2 : a ≠ c) (h3 : b ≠ c) {p : Int} (pa : ins (sg l a) p = true) (pb : ins (sg l b) p = true) (pc : ins (sg l c) p = true) : False := by
  have h3 := cntN_three (P := fun x => ins (sg l x) p) (n := l.length) ha hb hc h1 h2 h3 pa pb pc
  have h4 := cntN_cntU (l := l) (p := p) (P := fun x => ins (sg l x) p) (n := l.length) fun _ _ h => h
  have h5 := deep_ge l p
  unfold cnt at h5
  omega
theorem fit_two {l : List Span} (hok : ∀ s ∈ l, s.1 < s.2) (hd : (deep l).2 ≤ 2) {i : Nat} (hi : i < l.length) : fc l i ≤ 3 := by
  by_cases h : fc l i ≤ 3
  · exact h
  exfalso
  have out : ∀ j, j < i → ov (sg l i) (sg l j) = true → 1 ≤ fc l j → fc l j < fc l i → (sg l j).1 < (sg l i).1 ∨ (sg l i).2 < (sg l j).2 := fun j hj ho h1 h2 => by
    by_cases hc : (sg l j).1 < (sg l i).1 ∨ (sg l i).2 < (sg l j).2
    · exact hc
    exfalso
    obtain ⟨m, hm, ho2, e2⟩ := fc_lt (l := l) (i := j) (by omega) (c := 0) (by omega) (by omega)
    obtain ⟨p, p1, p2⟩ := ov_iff.1 ho2
    have p3 : ins (sg l i) p = true := by
      simp only [ins, decide_eq_true_eq] at p1 ⊢
      omega
    exact three_at hd hi (by omega : j < l.length) (by omega : m < l.length) (by omega) (by omega) (by omega) p3 p1 p2
  have left : ∀ j k, j < i → k < i → j ≠ k → ov (sg l i) (sg l j) = true → ov (sg l i) (sg l k) = true → (sg l j).1 < (sg l i).1 → (sg l k).1 < (sg l i).1 → False := fun j k hj hk hne o1 o2 h1 h2 => by
    have hsi := hok _ (sg_mem hi)
    simp only [ov, decide_eq_true_eq] at o1 o2
    exact three_at hd hi (by omega : j < l.length) (by omega : k < l.length) (by omega) (by omega) hne (p := (sg l i).1) (by simp [ins]; omega) (by simp [ins]; omega) (by simp [ins]; omega)
  have right : ∀ j k, j < i → k < i → j ≠ k → ov (sg l i) (sg l j) = true → ov (sg l i) (sg l k) = true → (sg l i).2 < (sg l j).2 → (sg l i).2 < (sg l k).2 → False := fun j k hj hk hne o1 o2 h1 h2 => by
    have hsi := hok _ (sg_mem hi)
    simp only [ov, decide_eq_true_eq] at o1 o2
    exact three_at hd hi (by omega : j < l.length) (by omega : k < l.length) (by omega) (by omega) hne (p := (sg l i).2 - 1) (by simp [ins]; omega) (by simp [ins]; omega) (by simp [ins]; omega)
  obtain ⟨a, ha, oa, ea⟩ := fc_lt hi (c := 1) (by omega) (by omega)
  obtain ⟨b, hb, ob, eb⟩ := fc_lt hi (c := 2) (by omega) (by omega)
  obtain ⟨c, hc, oc, ec⟩ := fc_lt hi (c := 3) (by omega) (by omega)
  have nab : a ≠ b := fun e => by subst e; omega
  have nac : a ≠ c := fun e => by subst e; omega
  have nbc : b ≠ c := fun e => by subst e; omega
  rcases out a ha oa (by omega) (by omega) with h1 | h1 <;> rcases out b hb ob (by omega) (by omega) with h2 | h2 <;> rcases out c hc oc (by omega) (by omega) with h3 | h3
  · exact left a b ha hb nab oa ob h1 h2
  · exact left a b ha hb nab oa ob h1 h2
  · exact left a c ha hc nac oa oc h1 h3
  · exact right b c hb hc nbc ob oc h2 h3
  · exact left b c hb hc nbc ob oc h2 h3
  · exact right a c ha hc nac oa oc h1 h3
  · exact right a b ha hb nab oa ob h1 h2
  · exact right a b ha hb nab oa ob h1 h2

/- A number that one interval alone has. -/
def single (l : List Span) (j : Nat) : Bool := decide (cntN (fun x => decide (fc l x = fc l j)) l.length = 1)
theorem single_eq {l : List Span} {j k : Nat} (hj : j < l.length) (hk : k < l.length) (h : single l j = true) (he : fc l k = fc l j) : k = j := by
  by_cases e : k = j
  · exact e
  · have := cntN_two (P := fun x => decide (fc l x = fc l j)) hj hk (fun x => e x.symm) (decide_eq_true rfl) (decide_eq_true he)
    simp only [single, decide_eq_true_eq] at h
    omega
theorem single_ov {l : List Span} {j k : Nat} (hj : j < l.length) (hk : k < l.length) (hne : j ≠ k) (h1 : single l j = true) (h2 : single l k = true) : ov (sg l j) (sg l k) = true := by
  have sym : ∀ s t, ov s t = ov t s := fun s t => by simp only [ov, Int.max_comm, Int.min_comm]
  rcases Int.lt_trichotomy (fc l j) (fc l k) with h | h | h
  · obtain ⟨x, hx, ho, e⟩ := fc_lt hk (fc_nn hj).1 h
    have := single_eq hj (by omega) h1 e
    subst this
    rw [sym]; exact ho
  · exact absurd (single_eq hk hj h2 h) hne
  · obtain ⟨x, hx, ho, e⟩ := fc_lt hj (fc_nn hk).1 h
    have := single_eq hk (by omega) h2 e
    subst this
    exact ho
theorem single_le {l : List Span} (hok : ∀ s ∈ l, s.1 < s.2) : (cntN (single l) l.length : Int) ≤ (deep l).2 := by
  by_cases h0 : 0 < cntN (single l) l.length
  · obtain ⟨j, hj, e1, e2⟩ := max_left (l := l) h0
    have h1 := cntN_cntU (l := l) (p := (sg l j).1) (P := single l) (n := l.length) fun k hk e => by
      have h3 := e2 k hk e
      by_cases hkj : k = j
      · subst hkj
        have := hok _ (sg_mem hj)
        simp [ins]; omega
      · have := single_ov hk hj hkj e e1
        simp only [ov, ins, decide_eq_true_eq] at this ⊢
        omega
    have h2 := deep_ge l (sg l j).1
    unfold cnt at h2
    omega
  · have := deep_nn l
    omega
theorem two_each (l : List Span) : ∀ C : Nat, (C : Int) ≤ topU (fit l) l.length → 2 * C ≤ cntN (fun j => decide (fc l j < C)) l.length + cntN (fun j => single l j && decide (fc l j < C)) l.length
  | 0, _ => by omega
  | C + 1, h => by
    have ih := two_each l C (by omega)
    have e1 := cntN_add (n := l.length) (R := fun j => decide (fc l j < ((C + 1 : Nat) : Int))) (P := fun j => decide (fc l j < (C : Int))) (Q := fun j => decide (fc l j = (C : Int)))
      (fun a _ => by rw [Bool.eq_iff_iff]; simp only [Bool.or_eq_true, decide_eq_true_eq]; omega) (fun a _ h1 h2 => by simp only [decide_eq_true_eq] at h1 h2; omega)
    have e2 := cntN_add (n := l.length) (R := fun j => single l j && decide (fc l j < ((C + 1 : Nat) : Int))) (P := fun j => single l j && decide (fc l j < (C : Int))) (Q := fun j => single l j && decide (fc l j = (C : Int)))
      (fun a _ => by
        cases hs : single l a
        · simp
        · simp only [Bool.true_and]; rw [Bool.eq_iff_iff]; simp only [Bool.or_eq_true, decide_eq_true_eq]; omega) (fun a _ h1 h2 => by simp only [Bool.and_eq_true, decide_eq_true_eq] at h1 h2; omega)
    have hC : ∃ j, j < l.length ∧ fc l j = C := by
      rcases topU_at (fit l) l.length with e | ⟨j, hj, e⟩
      · omega
      · by_cases hc : fc l j = C
        · exact ⟨j, hj, hc⟩
        · have e' : topU (fit l) l.length = fc l j + 1 := e
          obtain ⟨k, hk, _, e2⟩ := fc_lt hj (c := C) (by omega) (by omega)
          exact ⟨k, by omega, e2⟩
    obtain ⟨j, hj, ej⟩ := hC
    have h1 := cntN_pos (P := fun x => decide (fc l x = (C : Int))) hj (by simpa using ej)
    rw [e1, e2]
    by_cases h2 : cntN (fun x => decide (fc l x = (C : Int))) l.length = 1
    · have h3 := cntN_pos (P := fun x => single l x && decide (fc l x = (C : Int))) hj (by
        simp only [single, ej, Bool.and_eq_true, decide_eq_true_eq]
        exact ⟨h2, trivial⟩)
      omega
    · omega
/-- First Fit uses at most 8 d numbers: for at most 40 intervals. -/
theorem fit_8d {l : List Span} (hok : ∀ s ∈ l, s.1 < s.2) (hl : l.length ≤ 40) : topU (fit l) l.length ≤ 8 * (deep l).2 := by
  have hdn := deep_nn l
  rcases topU_at (fit l) l.length with e | ⟨j, hj, e⟩
  · omega
  have e' : topU (fit l) l.length = fc l j + 1 := e
  have hpos : 0 < (deep l).2 := deep_pos (fun h => by subst h; simp at hj) hok
  by_cases h1 : (deep l).2 ≤ 1
  · have := fit_one h1 hj
    omega
  by_cases h2 : (deep l).2 ≤ 2
  · have := fit_two hok h2 hj
    omega
  have hn := topU_nn (fit l) l.length
  have h3 := two_each l (topU (fit l) l.length).toNat (by omega)
  have h4 := cntN_len (fun j => decide (fc l j < ((topU (fit l) l.length).toNat : Int))) l.length
  have h5 := cntN_mono (P := fun j => single l j && decide (fc l j < ((topU (fit l) l.length).toNat : Int))) (Q := single l) (n := l.length) fun a _ h => by simp only [Bool.and_eq_true] at h; exact h.1
  have h6 := single_le hok
  omega

end Go.Sh

