/- What colourings have none of the patterns. -/
import Derived.Test.YtpclkcamfainiaaP19
import Derived.Test.YtpclkcamfainiaaP17
set_option linter.unusedSimpArgs false
set_option linter.unusedVariables false
set_option maxHeartbeats 1000000
namespace Go.Pt
open Go Go.Abs Go.Proofs.Ytpclkcamfainiaa
theorem colsL_iff {F : List Int → Bool} {A : List Int → List (List Int)} {zs x : List Int} : ∀ {k i : Nat}, x ∈ colsL F A zs k i ↔ ∃ c : Nat, i ≤ c ∧ c < i + k ∧ F (zs ++ [(c : Int)]) = true ∧ x ∈ A (zs ++ [(c : Int)])
  | 0, i => by
    simp only [colsL, List.not_mem_nil, false_iff]
    rintro ⟨c, h1, h2, _⟩
    omega
  | k + 1, i => by
    rw [colsL, List.mem_append, colsL_iff]
    constructor
    · rintro (h | ⟨c, h1, h2, h3⟩)
      · by_cases hF : F (zs ++ [(i : Int)]) = true
        · rw [if_pos hF] at h; exact ⟨i, Nat.le_refl _, by omega, hF, h⟩
        · rw [if_neg hF] at h; simp at h
      · exact ⟨c, by omega, by omega, h3⟩
    · rintro ⟨c, h1, h2, h3, h4⟩
      by_cases e : c = i
      · subst e
        left
        rw [if_pos h3]
        exact h4
      · exact .inr ⟨c, by omega, by omega, h3, h4⟩
theorem allC_iff {F : List Int → Bool} {r : Nat} : ∀ {f : Nat} {zs x : List Int}, x ∈ allC F r f zs ↔ ∃ ys : List Int, x = zs ++ ys ∧ ys.length = f ∧ (∀ y ∈ ys, 0 ≤ y ∧ y < r) ∧ ∀ m, 0 < m → m ≤ f → F (zs ++ ys.take m) = true
  | 0, zs, x => by
    simp only [allC, List.mem_singleton]
    constructor
    · rintro rfl
      exact ⟨[], by simp, rfl, by simp, fun m h1 h2 => by omega⟩
    · rintro ⟨ys, rfl, h, _⟩
      rw [List.length_eq_zero_iff.1 h, List.append_nil]
  | f + 1, zs, x => by
    rw [allC, colsL_iff]
    constructor
    · rintro ⟨c, _, hc, hF, h⟩
      obtain ⟨ys, rfl, hl, hy, hm⟩ := allC_iff.1 h
      refine ⟨(c : Int) :: ys, by simp, by simp [hl], fun y hy' => ?_, fun m h1 h2 => ?_⟩
      · rcases List.mem_cons.1 hy' with rfl | hy'
        · omega
        · exact hy y hy'
      · obtain ⟨m, rfl⟩ : ∃ j, m = j + 1 := ⟨m - 1, by omega⟩
        rw [List.take_succ_cons]
        by_cases e : m = 0
        · subst e
          simpa using hF
        · have := hm m (by omega) (by omega)
          rwa [List.append_assoc] at this
    · rintro ⟨ys, rfl, hl, hy, hm⟩
      cases ys with
      | nil => simp at hl
      | cons y ys =>
        have h0 := hy y (by simp)
        have ey : ((y.toNat : Nat) : Int) = y := by omega
        refine ⟨y.toNat, Nat.zero_le _, by omega, ?_, ?_⟩
        · have := hm 1 (by omega) (by omega)
          rw [ey]
          simpa using this
        · rw [ey, allC_iff]
          refine ⟨ys, by simp, by simpa using hl, fun z hz => hy z (by simp [hz]), fun m h1 h2 => ?_⟩
          have := hm (m + 1) (by omega) (by omega)
          rw [List.take_succ_cons] at this
          rwa [List.append_assoc]
theorem all_iff {F : List Int → Bool} {r f : Nat} {x : List Int} : x ∈ allC F r f [] ↔ x.length = f ∧ (∀ y ∈ x, 0 ≤ y ∧ y < r) ∧ ∀ m, 0 < m → m ≤ f → F (x.take m) = true := by
  rw [allC_iff]
  constructor
  · rintro ⟨ys, rfl, h1, h2, h3⟩
    exact ⟨h1, h2, fun m a b => by have := h3 m a b; rwa [List.nil_append] at this⟩
  · rintro ⟨h1, h2, h3⟩
    exact ⟨x, by simp, h1, h2, fun m a b => by rw [List.nil_append]; exact h3 m a b⟩
theorem getD_take {x : List Int} {m i : Nat} (h : i < m) : (x.take m).getD i 0 = x.getD i 0 := by
  simp only [List.getD_eq_getElem?_getD]
  rw [List.getElem?_take_of_lt h]
/-- The pairs' colour. -/
abbrev RC (n : Nat) (zs : List Int) (c : Int) (v w : Nat) : Bool := col n zs v w == c
theorem gr_none {n s f v : Nat} {zs : List Int} {c : Int} {cl : List Nat} (hl : cl.length ≤ s) : gr (joins n zs c) s f cl v = none ↔ ¬ GX (RC n zs c) s f cl v := by
  have := @gr_iff (RC n zs c) s f v cl hl
  rw [show (joins n zs c) = (fun cl v => cl.all ((RC n zs c) v)) from rfl, ← this]
  cases gr (fun cl v => cl.all ((RC n zs c) v)) s f cl v <;> simp
theorem pix_pr' : ∀ n, n ≤ 8 → ∀ b, b < n → ∀ a, a < b → prAt n (pix n a b) = (a, b) := by decide +kernel
theorem pix_pr {n a b : Nat} (hn : n ≤ 8) (h1 : a < b) (h2 : b < n) : prAt n (pix n a b) = (a, b) := pix_pr' n hn b h2 a h1
theorem pix_tri {n a b : Nat} (hn : n ≤ 8) (h1 : a < b) (h2 : b < n) : pix n a b < tri n := pix_lt n hn b h2 a h1
theorem len2 {l : List Nat} (h : l.length = 2) : ∃ a b, l = [a, b] := by
  match l, h with
  | [a, b], _ => exact ⟨a, b, rfl⟩
theorem col_take {n m u w : Nat} {x : List Int} (h : pix n (min u w) (max u w) < m) : col n (x.take m) u w = col n x u w := by rw [col, col, getD_take h]
theorem noCl_iff {n k l : Nat} {x : List Int} (hn : n ≤ 8) (hx : x.length = tri n) (hc : ∀ z ∈ x, 0 ≤ z ∧ z < 2) (hk : 2 ≤ k) (hl : 2 ≤ l) :
    (∀ m, 0 < m → m ≤ tri n → clF n k l (x.take m) = true) ↔ ¬ GX (RC n x 0) k n [] 0 ∧ ¬ GX (RC n x 1) l n [] 0 := by
  have key : ∀ (c : Int) (s : Nat), 2 ≤ s → (∀ m, 0 < m → m ≤ tri n → x.getD (m - 1) 0 = c → ¬ GX (RC n (x.take m) c) s (prAt n (m - 1)).1 [(prAt n (m - 1)).1, (prAt n (m - 1)).2] 0) → ¬ GX (RC n x c) s n [] 0 := by
    rintro c s hs H ⟨us, h1, h2, h3, _⟩
    simp only [List.length_nil, Nat.add_zero] at h1
    obtain ⟨A, B, eAB⟩ := len2 (l := us.drop (s - 2)) (by simp; omega)
    have eus : us = us.take (s - 2) ++ [A, B] := by rw [← eAB, List.take_append_drop]
    rw [eus, List.pairwise_append] at h2
    obtain ⟨p1, p2, p3⟩ := h2
    have pAB : A < B ∧ RC n x c B A = true := by simpa using p2
    have bA := h3 A (by rw [eus]; simp)
    have bB := h3 B (by rw [eus]; simp)
    have hp := pix_pr hn pAB.1 (show B < n by omega)
    have ht := pix_tri hn pAB.1 (show B < n by omega)
    have cAB : col n x A B = c := by have := pAB.2; rw [RC, col_comm] at this; simpa using this
    refine H (pix n A B + 1) (by omega) (by omega) ?_ ?_
    · rw [Nat.add_sub_cancel, ← cAB, col, Nat.min_eq_left (by omega), Nat.max_eq_right (by omega)]
    · rw [Nat.add_sub_cancel, hp]
      have ltA : ∀ u ∈ us.take (s - 2), u < A := fun u hu => (p3 u hu A (by simp)).1
      refine ⟨us.take (s - 2), by simp; omega, ?_, fun u hu => by have := ltA u hu; omega, fun u hu w hw => ?_⟩
      · refine List.Pairwise.imp_of_mem (fun {a b} ha hb h => ⟨h.1, ?_⟩) p1
        have := ltA b hb
        have lx := (pix_lex (a := a) (b := b) hn h.1 (by omega) pAB.1 (show B < n by omega)).2 (.inl (by omega))
        show (col n _ b a == c) = true
        rw [col_take (by rw [Nat.min_eq_right (by omega), Nat.max_eq_left (by omega)]; omega)]
        exact h.2
      · have hu' := ltA u hu
        simp only [List.mem_cons, List.not_mem_nil, or_false] at hw
        have hm : ∀ w, A ≤ w → w ≤ B → RC n x c w u = true → RC n (x.take (pix n A B + 1)) c u w = true := fun w hw1 hw2 h => by
          have lx := (pix_lex (a := u) (b := w) hn (by omega) (by omega) pAB.1 (show B < n by omega)).2 (.inl (by omega))
          show (col n _ u w == c) = true
          rw [col_take (by rw [Nat.min_eq_left (by omega), Nat.max_eq_right (by omega)]; omega), col_comm]
          exact h
        rcases hw with rfl | rfl
        · exact hm w (by omega) (by omega) (p3 u hu w (by simp)).2
        · exact hm w (by omega) (by omega) (p3 u hu w (by simp)).2
  have back : ∀ (c : Int) (s m : Nat), 2 ≤ s → 0 < m → m ≤ tri n → x.getD (m - 1) 0 = c → GX (RC n (x.take m) c) s (prAt n (m - 1)).1 [(prAt n (m - 1)).1, (prAt n (m - 1)).2] 0 → GX (RC n x c) s n [] 0 := by
    rintro c s m hs hm1 hm2 hcm ⟨vs, h1, h2, h3, h4⟩
    have pk := prAt_ok (i := m - 1) hn (by omega)
    generalize (prAt n (m - 1)).1 = A at pk h1 h2 h3 h4
    generalize (prAt n (m - 1)).2 = B at pk h1 h2 h3 h4
    obtain ⟨q1, q2, q3⟩ := pk
    refine ⟨vs ++ [A, B], by simp at h1 ⊢; omega, List.pairwise_append.2 ⟨?_, ?_, ?_⟩, fun u hu => ?_, by simp⟩
    · refine List.Pairwise.imp_of_mem (fun {a b} ha hb h => ⟨h.1, ?_⟩) h2
      have := h3 b hb
      have lx := (pix_lex (a := a) (b := b) hn h.1 (by omega) q1 q2).2 (.inl (by omega))
      have := h.2
      rw [RC, col_take (by rw [Nat.min_eq_right (by omega), Nat.max_eq_left (by omega)]; omega)] at this
      exact this
    · have : col n x B A = c := by rw [col_comm, col, Nat.min_eq_left (by omega), Nat.max_eq_right (by omega), q3, hcm]
      simp [q1, this]
    · intro u hu w hw
      have hu3 := h3 u hu
      have hw4 := h4 u hu w hw
      have hwb : A ≤ w ∧ w ≤ B := by
        simp only [List.mem_cons, List.not_mem_nil, or_false] at hw
        rcases hw with rfl | rfl <;> omega
      have lx := (pix_lex (a := u) (b := w) hn (by omega) (by omega) q1 q2).2 (.inl (by omega))
      refine ⟨by omega, ?_⟩
      rw [RC, col_take (by rw [Nat.min_eq_left (by omega), Nat.max_eq_right (by omega)]; omega), col_comm] at hw4
      exact hw4
    · simp only [List.mem_append, List.mem_cons, List.not_mem_nil, or_false] at hu
      rcases hu with hu | rfl | rfl
      · have := h3 u hu; omega
      · omega
      · omega
  have cl : ∀ m, 0 < m → m ≤ tri n → (clF n k l (x.take m) = true ↔ ¬ GX (RC n (x.take m) (x.getD (m - 1) 0)) (if (x.getD (m - 1) 0 == 1) = true then l else k) (prAt n (m - 1)).1 [(prAt n (m - 1)).1, (prAt n (m - 1)).2] 0) := fun m h1 h2 => by
    have hlen : (x.take m).length = m := by simp; omega
    rw [clF, hlen, getD_take (by omega), Option.isNone_iff_eq_none, gr_none]
    simp only [List.length_cons, List.length_nil]
    split <;> omega
  constructor
  · intro H
    refine ⟨key 0 k hk fun m h1 h2 h3 => ?_, key 1 l hl fun m h1 h2 h3 => ?_⟩
    · have := (cl m h1 h2).1 (H m h1 h2)
      rw [h3] at this
      exact this
    · have := (cl m h1 h2).1 (H m h1 h2)
      rw [h3] at this
      exact this
  · rintro ⟨H0, H1⟩ m h1 h2
    rw [cl m h1 h2]
    intro G
    have hm : x.getD (m - 1) 0 ∈ x := by
      simp only [List.getD_eq_getElem?_getD]
      rw [List.getElem?_eq_getElem (by omega)]
      exact List.getElem_mem _
    have hb := hc _ hm
    by_cases e : x.getD (m - 1) 0 = 1
    · rw [e] at G
      exact H1 (back 1 l m hl h1 h2 e G)
    · have e0 : x.getD (m - 1) 0 = 0 := by omega
      rw [e0] at G
      exact H0 (back 0 k m hk h1 h2 e0 G)
theorem av_iff {n k l : Nat} {x : List Int} (hn : n ≤ 8) (hk : 2 ≤ k) (hl : 2 ≤ l) :
    x ∈ avA n k l ↔ x.length = tri n ∧ (∀ z ∈ x, 0 ≤ z ∧ z < 2) ∧ ¬ GX (RC n x 0) k n [] 0 ∧ ¬ GX (RC n x 1) l n [] 0 := by
  rw [avA, all_iff]
  constructor
  · rintro ⟨h1, h2, h3⟩
    exact ⟨h1, h2, (noCl_iff hn h1 h2 hk hl).1 h3⟩
  · rintro ⟨h1, h2, h3⟩
    exact ⟨h1, h2, (noCl_iff hn h1 h2 hk hl).2 h3⟩
theorem sp_take {x : List Int} {m a b : Nat} (ha : 1 ≤ a) (hb : 1 ≤ b) (h : a + b ≤ m) : sp (x.take m) a b = sp x a b := by
  rw [sp, sp, getD_take (by omega), getD_take (by omega), getD_take (by omega)]
theorem sm_iff {r n : Nat} {x : List Int} : x ∈ allC lsF r n [] ↔ x.length = n ∧ (∀ z ∈ x, 0 ≤ z ∧ z < r) ∧ sumO x = none := by
  rw [all_iff]
  have : x.length = n → ((∀ m, 0 < m → m ≤ n → lsF (x.take m) = true) ↔ sumO x = none) := fun hx => by
    rw [sumO_none, hx]
    constructor
    · intro H a b h1 h2 h3
      have := lsF_true.1 (H (a + b) (by omega) h3) a h1
      rw [List.length_take, Nat.min_eq_left (by omega)] at this
      have := this (by omega)
      rwa [show a + b - a = b by omega, sp_take h1 (by omega) (Nat.le_refl _)] at this
    · intro H m h1 h2
      rw [lsF_true]
      intro a h3 h4
      rw [List.length_take, Nat.min_eq_left (by omega)] at h4 ⊢
      rw [sp_take h3 (by omega) (by omega)]
      exact H a (m - a) h3 (by omega) (by omega)
  constructor
  · rintro ⟨h1, h2, h3⟩; exact ⟨h1, h2, (this h1).1 h3⟩
  · rintro ⟨h1, h2, h3⟩; exact ⟨h1, h2, (this h1).2 h3⟩
theorem pg_take {x : List Int} {m k a d : Nat} (ha : 1 ≤ a) (h : a + (k - 1) * d ≤ m) : pg (x.take m) k a d = pg x k a d := by
  rw [pg, pg, Bool.eq_iff_iff, List.all_eq_true, List.all_eq_true]
  refine forall_congr' fun i => forall_congr' fun hi => ?_
  have := term_le (d := d) (List.mem_range.1 hi)
  rw [getD_take (by omega), getD_take (by omega)]
theorem st_iff {r n k : Nat} {x : List Int} (hk : 2 ≤ k) : x ∈ allC (lpF k) r n [] ↔ x.length = n ∧ (∀ z ∈ x, 0 ≤ z ∧ z < r) ∧ prgO x k = none := by
  rw [all_iff]
  have : x.length = n → ((∀ m, 0 < m → m ≤ n → lpF k (x.take m) = true) ↔ prgO x k = none) := fun hx => by
    rw [prgO_none hk, hx]
    constructor
    · intro H a d h1 h2 h3
      have := (lpF_true hk).1 (H (a + (k - 1) * d) (by omega) h3) d h2
      rw [List.length_take, Nat.min_eq_left (by omega)] at this
      have := this (by omega)
      rwa [show a + (k - 1) * d - (k - 1) * d = a by omega, pg_take h1 (Nat.le_refl _)] at this
    · intro H m h1 h2
      rw [lpF_true hk]
      intro d h3 h4
      rw [List.length_take, Nat.min_eq_left (by omega)] at h4 ⊢
      rw [pg_take (by omega) (by omega)]
      exact H _ d (by omega) h3 (by omega)
  constructor
  · rintro ⟨h1, h2, h3⟩; exact ⟨h1, h2, (this h1).1 h3⟩
  · rintro ⟨h1, h2, h3⟩; exact ⟨h1, h2, (this h1).2 h3⟩
/-- The restriction to the first vertices. -/
def rsV (n : Nat) (x : List Int) : List Int := (prN (n - 1)).map fun p => x.getD (pix n p.1 p.2) 0
theorem rsV_len {n : Nat} {x : List Int} (hn : n ≤ 8) : (rsV n x).length = tri (n - 1) := by rw [rsV, List.length_map, prN_len (by omega)]
theorem rsV_get {n a b : Nat} {x : List Int} (hn : n ≤ 8) (h1 : a < b) (h2 : b < n - 1) : (rsV n x).getD (pix (n - 1) a b) 0 = x.getD (pix n a b) 0 := by
  have hp := pix_pr (n := n - 1) (by omega) h1 h2
  have ht := pix_tri (n := n - 1) (by omega) h1 h2
  have hl : pix (n - 1) a b < (prN (n - 1)).length := by rw [prN_len (by omega)]; exact ht
  rw [prAt, List.getD_eq_getElem?_getD, List.getElem?_eq_getElem hl, Option.getD_some] at hp
  rw [rsV, List.getD_eq_getElem?_getD, List.getElem?_map, List.getElem?_eq_getElem hl, Option.map_some, Option.getD_some, hp]
theorem rsV_col {n a b : Nat} {x : List Int} (hn : n ≤ 8) (h0 : a ≠ b) (h1 : a < n - 1) (h2 : b < n - 1) : col (n - 1) (rsV n x) a b = col n x a b := by
  rw [col, col, rsV_get hn (by omega) (by omega)]
theorem rsV_GX {n s : Nat} {x : List Int} {c : Int} (hn : n ≤ 8) (H : GX (RC (n - 1) (rsV n x) c) s (n - 1) [] 0) : GX (RC n x c) s n [] 0 := by
  obtain ⟨us, h1, h2, h3, h4⟩ := H
  refine ⟨us, h1, List.Pairwise.imp_of_mem (fun {a b} ha hb h => ⟨h.1, ?_⟩) h2, fun u hu => by have := h3 u hu; omega, by simp⟩
  have := h3 a ha
  have := h3 b hb
  have e := h.2
  rw [RC, rsV_col hn (by omega) (by omega) (by omega)] at e
  exact e
theorem rsV_bound {n : Nat} {x : List Int} (hc : ∀ z ∈ x, 0 ≤ z ∧ z < 2) : ∀ z ∈ rsV n x, 0 ≤ z ∧ z < 2 := fun z hz => by
  rw [rsV, List.mem_map] at hz
  obtain ⟨p, _, rfl⟩ := hz
  rw [List.getD_eq_getElem?_getD]
  by_cases h : pix n p.1 p.2 < x.length
  · rw [List.getElem?_eq_getElem h]
    exact hc _ (List.getElem_mem h)
  · rw [List.getElem?_eq_none (by omega)]
    simp
theorem rsV_av {n k l : Nat} {x : List Int} (hn : n ≤ 8) (hk : 2 ≤ k) (hl : 2 ≤ l) (H : x ∈ avA n k l) : rsV n x ∈ avA (n - 1) k l := by
  obtain ⟨h1, h2, h3, h4⟩ := (av_iff hn hk hl).1 H
  exact (av_iff (by omega) hk hl).2 ⟨rsV_len hn, rsV_bound h2, fun G => h3 (rsV_GX hn G), fun G => h4 (rsV_GX hn G)⟩
end Go.Pt
