/- Smooth words: reversed, exchanged, parts; Kolakoski's sequence is smooth. -/
import Derived.Test.YtogfojkjocbahaaE12
import Derived.Test.YtogfojkjocbahaaE8
set_option linter.unusedSimpArgs false
set_option linter.unusedVariables false
set_option maxHeartbeats 4000000
namespace Go.Proofs.Ytogfojkjocbahaa
open Go Go.Abs

theorem rl_cons (v : Int) : ∀ zs : List Int, zs ≠ [] → (v ≠ zs.getD 0 0 → rl (v :: zs) = 1 :: rl zs) ∧ (v = zs.getD 0 0 → ∀ k r, rl zs = k :: r → rl (v :: zs) = (k + 1) :: r) :=
  snoc_ind (fun h => absurd rfl h) fun l a ih _ => by
    by_cases hl : l = []
    · subst hl
      refine ⟨fun h => ?_, fun h k r hk => ?_⟩
      · simp at h
        simp [rl, runsUpto]
        intro h'
        exact absurd h'.symm h
      · simp at h
        subst h
        simp [rl, runsUpto] at hk ⊢
        obtain ⟨rfl, rfl⟩ := hk
        simp
    · have hp := List.length_pos_iff.2 hl
      obtain ⟨i1, i2⟩ := ih hl
      have e0 : (l ++ [a]).getD 0 0 = l.getD 0 0 := getD_left hp
      have e1 : (v :: l).getD ((v :: l).length - 1) 0 = l.getD (l.length - 1) 0 := by
        obtain ⟨n, hn⟩ : ∃ n, l.length = n + 1 := ⟨l.length - 1, by omega⟩
        simp [List.getD_eq_getElem?_getD, hn]
      rw [e0]
      obtain ⟨s, j, hs, _, _, _⟩ := rl_split hl
      by_cases ha : l.getD (l.length - 1) 0 = a
      · have f1 : rl (l ++ [a]) = s ++ [j + 1] := rl_more hl ha hs
        have f2 : ∀ s' j', rl (v :: l) = s' ++ [j'] → rl (v :: (l ++ [a])) = s' ++ [j' + 1] := fun s' j' h => by
          have := rl_more (zs := v :: l) (v := a) (by simp) (by rw [e1]; exact ha) h
          simpa using this
        refine ⟨fun h => ?_, fun h k r hk => ?_⟩
        · have := f2 (1 :: s) j (by rw [i1 h, hs]; simp)
          rw [this, f1]; simp
        · rw [f1] at hk
          cases s with
          | nil =>
            simp at hk
            obtain ⟨rfl, rfl⟩ := hk
            have := f2 [] (j + 1) (by rw [i2 h j [] (by rw [hs]; simp)]; simp)
            rw [this]; simp
          | cons x s' =>
            simp at hk
            obtain ⟨rfl, rfl⟩ := hk
            have := f2 ((x + 1) :: s') j (by rw [i2 h x (s' ++ [j]) (by rw [hs]; simp)]; simp)
            rw [this]; simp
      · have f1 : rl (l ++ [a]) = rl l ++ [1] := rl_new (.inr ha)
        have f2 : rl (v :: (l ++ [a])) = rl (v :: l) ++ [1] := by
          have := rl_new (zs := v :: l) (v := a) (.inr (by rw [e1]; exact ha))
          simpa using this
        refine ⟨fun h => ?_, fun h k r hk => ?_⟩
        · rw [f2, i1 h, f1]; simp
        · rw [f1, hs] at hk
          rw [f2]
          cases s with
          | nil =>
            simp at hk
            obtain ⟨rfl, rfl⟩ := hk
            rw [i2 h j [] (by rw [hs]; simp)]; simp
          | cons x s' =>
            simp at hk
            obtain ⟨rfl, rfl⟩ := hk
            rw [i2 h x (s' ++ [j]) (by rw [hs]; simp)]; simp

theorem rl_rev : ∀ zs : List Int, rl zs.reverse = (rl zs).reverse :=
  snoc_ind (by simp [rl, runsUpto]) fun l a ih => by
    by_cases hl : l = []
    · subst hl; simp [rl, runsUpto]
    · have hp := List.length_pos_iff.2 hl
      have hr : l.reverse ≠ [] := by simpa using hl
      have e0 : l.reverse.getD 0 0 = l.getD (l.length - 1) 0 := by
        simp [List.getD_eq_getElem?_getD, List.getElem?_reverse hp]
      obtain ⟨c1, c2⟩ := rl_cons a l.reverse hr
      rw [e0] at c1 c2
      rw [show (l ++ [a]).reverse = a :: l.reverse by simp]
      by_cases ha : l.getD (l.length - 1) 0 = a
      · obtain ⟨s, j, hs, _, _, _⟩ := rl_split hl
        rw [rl_more hl ha hs, c2 ha.symm j s.reverse (by rw [ih, hs]; simp)]
        simp
      · rw [rl_new (.inr ha), c1 (fun h => ha h.symm), ih]
        simp

theorem trimL_rev (r : List Int) : trimL r.reverse = (trimR r).reverse := by
  rcases List.eq_nil_or_concat r with e | ⟨l, a, e⟩
  · subst e; simp [trimL, trimR]
  · rw [List.concat_eq_append] at e
    subst e
    rw [trimR_app]
    by_cases ha : a = 1
    · subst ha; simp [trimL]
    · simp [trimL, ha]

theorem trimR_rev (r : List Int) : trimR r.reverse = (trimL r).reverse := by
  have := trimL_rev r.reverse
  rw [List.reverse_reverse] at this
  rw [this, List.reverse_reverse]

theorem trim_comm (r : List Int) : trimL (trimR r) = trimR (trimL r) := by
  rcases List.eq_nil_or_concat r with e | ⟨l, a, e⟩
  · subst e; simp [trimL, trimR]
  · rw [List.concat_eq_append] at e
    subst e
    by_cases hl : l = []
    · subst hl
      by_cases ha : a = 1
      · subst ha; simp [trimL, trimR]
      · simp [trimL, trimR, ha]
    · rw [trimR_app, trimL_app hl, trimR_app]
      split
      · rfl
      · exact trimL_app hl

theorem le2_rev {r : List Int} : le2 r.reverse ↔ le2 r := by simp [le2]

theorem sm_rev : ∀ (n : Nat) (zs : List Int), zs.length ≤ n → sm zs → sm zs.reverse
  | 0, zs, hn, h => by
    have : zs = [] := List.length_eq_zero_iff.1 (by omega)
    subst this
    exact sm_nil
  | n + 1, zs, hn, h => by
    by_cases hz : zs = []
    · subst hz; exact sm_nil
    · have h0 := h
      rw [sm_iff hz] at h
      rw [sm_iff (by simpa using hz), rl_rev, le2_rev, trimL_rev, trimR_rev, trim_comm]
      have := deriv_len hz (deriv_some h.1)
      exact ⟨h.1, sm_rev n _ (by omega) h.2⟩

theorem sm_suf {xs ys : List Int} (h : sm (xs ++ ys)) : sm ys := by
  have h1 := sm_rev _ _ (Nat.le_refl _) h
  rw [List.reverse_append] at h1
  have h2 := sm_rev _ _ (Nat.le_refl _) (sm_pre h1)
  rwa [List.reverse_reverse] at h2

/-- Parts of smooth words are smooth. -/
theorem sm_part {zs : List Int} (h : sm zs) (i j : Nat) : sm ((zs.drop i).take j) := by
  rw [← List.take_append_drop i zs] at h
  have h1 := sm_suf h
  rw [← List.take_append_drop j (zs.drop i)] at h1
  exact sm_pre h1

theorem runs_map {zs : List Int} : ∀ i, i ≤ zs.length → runsUpto (zs.map (3 - ·)) i = runsUpto zs i
  | 0, _ => rfl
  | i + 1, h => by
    have ih := runs_map (zs := zs) i (by omega)
    have e : ∀ j, j < zs.length → (zs.map (3 - ·)).getD j 0 = 3 - zs.getD j 0 := fun j hj => by simp [List.getD_eq_getElem?_getD, List.getElem?_eq_getElem hj]
    rw [runsUpto, runsUpto, ih]
    by_cases h0 : i = 0
    · rw [if_pos (.inl h0), if_pos (.inl h0)]
    · rw [e i (by omega), e (i - 1) (by omega)]
      by_cases h1 : zs.getD i 0 = zs.getD (i - 1) 0
      · rw [if_neg (by rw [h1]; simp [h0]), if_neg (by rintro (h | h); exact h0 h; exact h h1)]
      · rw [if_pos (.inr (by omega)), if_pos (.inr h1)]

theorem sm_map {zs : List Int} (h : sm zs) : sm (zs.map (3 - ·)) := by
  by_cases hz : zs = []
  · subst hz; exact sm_nil
  · rw [sm_iff hz] at h
    rw [sm_iff (by simpa using hz)]
    have : rl (zs.map (3 - ·)) = rl zs := by
      unfold rl
      rw [List.length_map]
      exact runs_map _ (Nat.le_refl _)
    rw [this]
    exact h

/-! ### Kolakoski's sequence -/
theorem kol_len {a b : Int} (ha : 1 ≤ a ∧ a ≤ 9) (hb : 1 ≤ b ∧ b ≤ 9) (hab : a ≠ b) (n : Nat) : (kol a b n).length = n := by
  rcases Nat.eq_zero_or_pos n with rfl | hn
  · simp [kol]
  · obtain ⟨t, x, y, r, _, k1, k2, k3⟩ := kloop_last (n := n) n [] a b 0 ⟨⟨by simp, ha, hb⟩, rfl, Nat.le_refl _, .inl rfl, hab⟩ hn (by simp)
    rw [kol, k2, List.length_take]
    omega

theorem sum_ge {l : List Int} (h : ∀ x ∈ l, 1 ≤ x) : (l.length : Int) ≤ l.sum := by
  induction l with
  | nil => simp
  | cons b l ih =>
    have := h b (by simp)
    have := ih fun x hx => h x (by simp [hx])
    simp only [List.length_cons, List.sum_cons]
    omega

theorem sm_kol : ∀ (m n : Nat), n ≤ m → sm (kol 1 2 n)
  | 0, n, hm => by
    have : n = 0 := by omega
    subst this
    exact sm_nil
  | m + 1, n, hm => by
    have one : (1 : Int) ≤ 1 ∧ (1 : Int) ≤ 9 := by decide
    have two : (1 : Int) ≤ 2 ∧ (2 : Int) ≤ 9 := by decide
    rcases Nat.lt_or_ge n 3 with h3 | h3
    · have hk : kol 1 2 2 = [1, 2] := by simp [kol, kloop, kstep]
      have hs : sm [1, 2] := by
        have : rl [1, 2] = [1, 1] := by simp [rl, runsUpto]
        rw [sm_iff (by simp), this]
        have h2 : trimR (trimL [1, 1]) = [] := by simp [trimL, trimR]
        rw [h2]
        exact ⟨by simp [le2], sm_nil⟩
      have := kol_take (a := 1) (b := 2) one two (show n ≤ 2 by omega)
      rw [← this, hk]
      have := sm_part hs 0 n
      simpa using this
    · obtain ⟨t, x, y, r, H, k1, k2, k3⟩ := kloop_last (n := n) n [] 1 2 0 ⟨⟨by simp, one, two⟩, rfl, Nat.le_refl _, .inl rfl, by decide⟩ (by simp; omega) (by simp)
      obtain ⟨j1, j2, j3, j4, j5⟩ := H.step
      obtain ⟨i1, i2, i3, i4, i5⟩ := H
      have hkn : kol 1 2 n = (kstep t x r).take n := by rw [kol, k2]
      have hpre : ∀ i, i ≤ n → (kstep t x r).take i = kol 1 2 i := fun i hi => by
        have := kol_take (a := 1) (b := 2) one two hi
        rw [hkn, List.take_take, Nat.min_eq_left hi] at this
        exact this
      -- the last state's runs are a shorter beginning
      have hlt : r + 1 < n := by
        rcases Nat.lt_or_ge (r + 1) n with h | h
        · exact h
        · exfalso
          have hr : r = t.length := by omega
          have htl : t.length = n - 1 := by omega
          have ht : t = kol 1 2 (n - 1) := by
            rw [← hpre (n - 1) (by omega), ← htl, kstep, List.take_append_of_le_length (Nat.le_refl _), List.take_length]
          have hs := (runs_isRuns t t.length).2.1
          rw [i2, hr, List.take_length] at hs
          have hk2 : t.take 2 = [1, 2] := by
            rw [ht, kol_take one two (show 2 ≤ n - 1 by omega)]
            simp [kol, kloop, kstep]
          have hd : ∀ z ∈ t.drop 2, 1 ≤ z := fun z hz => (i1.1 z (List.mem_of_mem_drop hz)).1
          have h4 := sum_ge hd
          have h5 : t.sum = (t.take 2).sum + (t.drop 2).sum := by rw [← List.sum_append, List.take_append_drop]
          rw [hk2] at h5
          simp at h5 h4
          omega
      have hrl : rl (kstep t x r) = kol 1 2 (r + 1) := by
        rw [← hpre (r + 1) (by omega)]
        exact j2
      have hp := sm_kol m (r + 1) (by omega)
      have hle : le2 (kol 1 2 (r + 1)) := by
        rw [le2, List.all_eq_true]
        intro z hz
        rcases kol_mem z hz with h | h <;> simp [h]
      have hne : kstep t x r ≠ [] := by
        intro h
        rw [h] at k3
        simp at k3
        omega
      have hsm : sm (kstep t x r) := by
        rw [sm_iff hne, hrl]
        refine ⟨hle, ?_⟩
        have h1 : ∃ i j, trimR (trimL (kol 1 2 (r + 1))) = ((kol 1 2 (r + 1)).drop i).take j := by
          generalize kol 1 2 (r + 1) = p
          have hL : ∃ i, trimL p = p.drop i := by
            unfold trimL
            split
            · exact ⟨1, rfl⟩
            · exact ⟨0, by simp⟩
          obtain ⟨i, hi⟩ := hL
          rw [hi]
          unfold trimR
          split
          · exact ⟨i, _, rfl⟩
          · exact ⟨i, (p.drop i).length, by rw [List.take_length]⟩
        obtain ⟨i, j, hij⟩ := h1
        rw [hij]
        exact sm_part hp i j
      rw [hkn]
      have := sm_part hsm 0 n
      simpa using this

end Go.Proofs.Ytogfojkjocbahaa
