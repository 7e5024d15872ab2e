/- Indices, sums, sorted sums. -/
import Derived.Test.YtelalpohbodolaaDoorMB
set_option linter.unusedVariables false
set_option linter.unusedSimpArgs false
namespace Go.Wg
/- The indices of a part. -/
def bt (s i : Nat) : Bool := decide (s / 2 ^ i % 2 = 1)
def fl (n s : Nat) : List Int := ((List.range n).filter fun i => bt s i).map fun i : Nat => (i : Int)
theorem fl_0 (s : Nat) : fl 0 s = [] := rfl
theorem fl_suc (n s : Nat) : fl (n + 1) s = fl n s ++ (if bt s n = true then [(n : Int)] else []) := by
  unfold fl
  rw [List.range_succ, List.filter_append, List.map_append]
  congr 1
  by_cases h : bt s n = true
  · rw [if_pos h]; simp [h]
  · rw [if_neg h]; simp [h]
theorem bt_small {s n : Nat} (h : s < 2 ^ n) : bt s n = false := by
  unfold bt
  rw [Nat.div_eq_of_lt h]
  rfl
theorem fl_more {s n : Nat} (h : s < 2 ^ n) : ∀ k, fl (n + k) s = fl n s
  | 0 => rfl
  | k + 1 => by
    rw [← Nat.add_assoc, fl_suc, fl_more h k, bt_small (Nat.lt_of_lt_of_le h (Nat.pow_le_pow_right (by omega) (by omega)))]
    simp
theorem fl_blen {s n : Nat} (h : s < 2 ^ n) : fl (blen s) s = fl n s := by
  have h1 : s < 2 ^ blen s := blen_le.1 (Nat.le_refl _)
  have h2 : blen s ≤ n := blen_le.2 h
  rw [show n = blen s + (n - blen s) by omega, fl_more h1]
theorem fl_odd (n t : Nat) : fl (n + 1) (1 + 2 * t) = 0 :: (fl n t).map (· + 1) := by
  unfold fl
  rw [List.range_succ_eq_map, List.filter_cons, if_pos (by unfold bt; rw [Nat.pow_zero, Nat.div_one]; simp)]
  simp only [List.map_cons, List.filter_map, List.map_map]
  congr 1
  have e : (fun i => bt (1 + 2 * t) i) ∘ Nat.succ = fun i => bt t i := by
    funext i
    simp only [Function.comp, bt, Nat.succ_eq_add_one, Nat.pow_succ, Nat.mul_comm (2 ^ i)]
    rw [← Nat.div_div_eq_div_mul, show (1 + 2 * t) / 2 = t by omega]
  rw [e]
  apply List.map_congr_left
  intro x _
  simp
theorem fl_even (n t : Nat) : fl (n + 1) (2 * t) = (fl n t).map (· + 1) := by
  unfold fl
  rw [List.range_succ_eq_map, List.filter_cons, if_neg (by unfold bt; rw [Nat.pow_zero, Nat.div_one]; simp)]
  simp only [List.filter_map, List.map_map]
  have e : (fun i => bt (2 * t) i) ∘ Nat.succ = fun i => bt t i := by
    funext i
    simp only [Function.comp, bt, Nat.succ_eq_add_one, Nat.pow_succ, Nat.mul_comm (2 ^ i)]
    rw [← Nat.div_div_eq_div_mul, show (2 * t) / 2 = t by omega]
  rw [e]
  apply List.map_congr_left
  intro x _
  simp
theorem up_lt : ∀ {xs ys : List Int}, xs < ys → xs.map (· + 1) < ys.map (· + 1)
  | [], [], h => absurd h (List.lt_irrefl _)
  | [], y :: ys, _ => List.nil_lt_cons _ _
  | x :: xs, [], h => absurd h (List.not_lt_nil _)
  | x :: xs, y :: ys, h => by
    rw [List.map_cons, List.map_cons, List.cons_lt_cons_iff]
    rw [List.cons_lt_cons_iff] at h
    rcases h with h | ⟨rfl, h⟩
    · exact .inl (by omega)
    · exact .inr ⟨rfl, up_lt h⟩
theorem fl_ne {n s : Nat} (h : s < 2 ^ n) (h0 : s ≠ 0) : ∃ a r, fl n s = a :: r ∧ 0 ≤ a := by
  cases e : fl n s with
  | nil =>
    exfalso
    obtain ⟨a, p, rfl, hp, _⟩ := blen_pos h0
    have ha : a < n := by
      rcases Nat.lt_or_ge a n with h1 | h1
      · exact h1
      · have := Nat.pow_le_pow_right (n := 2) (by omega) h1; omega
    have hm : ((a : Nat) : Int) ∈ fl n (p + 2 ^ a) := by
      unfold fl
      rw [List.mem_map]
      refine ⟨a, List.mem_filter.2 ⟨List.mem_range.2 ha, ?_⟩, rfl⟩
      unfold bt
      rw [Nat.add_div_right _ (Nat.two_pow_pos a), Nat.div_eq_of_lt hp]
      rfl
    rw [e] at hm
    cases hm
  | cons a r =>
    refine ⟨a, r, rfl, ?_⟩
    have : a ∈ fl n s := by rw [e]; simp
    unfold fl at this
    rw [List.mem_map] at this
    obtain ⟨i, _, rfl⟩ := this
    omega
theorem TL_pos : ∀ {n s : Nat}, s ∈ TL n 0 → s ≠ 0
  | 0, s, h => by cases h
  | n + 1, s, h => by
    rw [TL_suc, List.mem_append, List.mem_map, List.mem_map] at h
    rcases h with ⟨t, ht, rfl⟩ | ⟨t, ht, rfl⟩
    · omega
    · have := TL_pos ht; omega
theorem fl_odds {n : Nat} (l : List Nat) : (l.map (fun t => 1 + 2 * t)).map (fl (n + 1)) = ((l.map (fl n)).map (·.map (· + 1))).map (0 :: ·) := by
  simp only [List.map_map]
  exact List.map_congr_left fun t _ => fl_odd n t
/- The list is in the order of the indices. -/
theorem LL_sorted : ∀ n : Nat, ((LL n).map (fl n)).Pairwise (· < ·)
  | 0 => by simp [LL, TL]
  | n + 1 => by
    have ih := LL_sorted n
    rw [LL_suc, List.map_cons, List.pairwise_cons, List.map_append, List.pairwise_append]
    have hb : ∀ s ∈ TL n 0, s < 2 ^ n := fun s h => mem_LL.1 (List.mem_cons_of_mem _ h)
    refine ⟨fun y hy => ?_, ?_, ?_, ?_⟩
    · have e0 : fl (n + 1) 0 = [] := by
        have h := fl_blen (s := 0) (n := n + 1) (Nat.two_pow_pos _)
        rw [← h, blen_0, fl_0]
      rw [e0]
      rw [← List.map_append, List.mem_map] at hy
      obtain ⟨s, hs, rfl⟩ := hy
      have h1 : s ∈ TL (n + 1) 0 := by rw [TL_suc]; exact hs
      have h2 : s ∈ LL (n + 1) := List.mem_cons_of_mem _ h1
      obtain ⟨a, r, e, _⟩ := fl_ne (mem_LL.1 h2) (TL_pos h1)
      rw [e]
      exact List.nil_lt_cons _ _
    · rw [List.map_map, List.pairwise_map]
      rw [List.pairwise_map] at ih
      refine ih.imp fun {s t} h => ?_
      simp only [Function.comp, fl_odd]
      rw [List.cons_lt_cons_iff]
      exact .inr ⟨rfl, up_lt h⟩
    · rw [List.map_map, List.pairwise_map]
      rw [LL, List.map_cons, List.pairwise_cons, List.pairwise_map] at ih
      refine ih.2.imp fun {s t} h => ?_
      simp only [Function.comp, fl_even]
      exact up_lt h
    · intro x hx y hy
      rw [List.map_map, List.mem_map] at hx hy
      obtain ⟨s, hs, rfl⟩ := hx
      obtain ⟨t, ht, rfl⟩ := hy
      simp only [Function.comp, fl_odd, fl_even]
      obtain ⟨a, r, e, ha⟩ := fl_ne (hb t ht) (TL_pos ht)
      rw [e, List.map_cons, List.cons_lt_cons_iff]
      exact .inl (by omega)
theorem msum_take (l : List Int) (s : Nat) {i : Nat} (h : i < l.length) : msum (l.take (i + 1)) s = msum (l.take i) s + if bt s i = true then l.getD i 0 else 0 := by
  rw [List.take_succ_eq_append_getElem h, msum_snoc, List.length_take, show min i l.length = i by omega]
  unfold bt
  simp only [decide_eq_true_eq, List.getD_eq_getElem?_getD, List.getElem?_eq_getElem h, Option.getD_some]
theorem msum_bound {l : List Int} {W : Int} (hW : 0 ≤ W) (h : ∀ a ∈ l, 0 ≤ a ∧ a ≤ W) : ∀ s, 0 ≤ msum l s ∧ msum l s ≤ W * l.length := by
  induction l with
  | nil => intro s; simp [msum]
  | cons a l ih =>
    intro s
    have ih := ih (fun b hb => h b (List.mem_cons_of_mem _ hb)) (s / 2)
    have h0 := h a (by simp)
    rw [msum, List.length_cons]
    have e : W * ((l.length + 1 : Nat) : Int) = W * (l.length : Int) + W := by
      rw [show ((l.length + 1 : Nat) : Int) = (l.length : Int) + 1 by omega, Int.mul_add, Int.mul_one]
    rw [e]
    split <;> omega
/- Sorting, and leaving out what is there twice. -/
def cmpL : List Int → List Int
  | [] => []
  | [a] => [a]
  | a :: b :: l => if a = b then cmpL (b :: l) else a :: cmpL (b :: l)
theorem cmpL_len : ∀ (l : List Int), (cmpL l).length ≤ l.length ∧ (l.Pairwise (· ≤ ·) → ((cmpL l).length = l.length ↔ l.Nodup))
  | [] => by simp [cmpL]
  | [a] => by simp [cmpL]
  | a :: b :: l => by
    have ih := cmpL_len (b :: l)
    rw [cmpL]
    by_cases h : a = b
    · subst h
      rw [if_pos rfl]
      refine ⟨by have := ih.1; simp only [List.length_cons] at *; omega, fun _ => ⟨fun e => ?_, fun hn => ?_⟩⟩
      · have := ih.1; simp only [List.length_cons] at *; omega
      · simp at hn
    · rw [if_neg h]
      refine ⟨by have := ih.1; simp only [List.length_cons] at *; omega, fun hp => ?_⟩
      rw [List.pairwise_cons] at hp
      have hlt : ∀ c ∈ b :: l, a < c := by
        intro c hc
        have h1 := hp.1 b (by simp)
        rcases List.mem_cons.1 hc with rfl | hc
        · omega
        · have := (List.pairwise_cons.1 hp.2).1 c hc; omega
      rw [List.nodup_cons, List.length_cons, List.length_cons, Nat.add_right_cancel_iff, ih.2 hp.2]
      constructor
      · intro hn
        exact ⟨fun hm => by have := hlt a hm; omega, hn⟩
      · exact fun hn => hn.2
theorem distinct_iff (l : List Int) : (cmpL (((LL l.length).map (msum l)).mergeSort fun x y => decide (x ≤ y))).length = 2 ^ l.length ↔ Dist l := by
  have hp := ((LL l.length).map (msum l)).mergeSort_perm (fun x y => decide (x ≤ y))
  have hs : ((LL l.length).map (msum l)).mergeSort (fun x y => decide (x ≤ y)) |>.Pairwise (fun a b => decide (a ≤ b) = true) := List.pairwise_mergeSort (fun a b c h1 h2 => by simp at *; omega) (fun a b => by simp; omega) _
  generalize ((LL l.length).map (msum l)).mergeSort (fun x y => decide (x ≤ y)) = m at *
  have hl : m.length = 2 ^ l.length := by rw [hp.length_eq, List.length_map, LL_len]
  rw [← hl, (cmpL_len m).2 (hs.imp fun h => by simpa using h), hp.nodup_iff, (sums_perm l).nodup_iff]
  rfl
end Go.Wg
