/- Intervals: levels by the reference, beginnings, similar lists. -/
import Derived.Test.YtgpdimkgfhgffaaS8
set_option linter.unusedSimpArgs false
set_option linter.unusedVariables false

namespace Go.Sh


/-- Both levels are the same. -/
theorem levF_rl {l : List Span} {i : Nat} (hi : i < l.length) (ns : List Int) (hs : (sg l i).1 < (sg l i).2) : ∀ (n : Nat) (k : Int), levF (sg l i) (l.take i) ns n k = rlF l i ns n k
  | 0, k => rfl
  | n + 1, k => by
    simp only [levF, rlF, rd_low hi ns k hs]
    by_cases h : k < within (sg l i) (upto k (l.take i) ns)
    · rw [if_pos h, if_neg (by omega), levF_rl hi ns hs n]
    · rw [if_neg h, if_pos (by omega)]
theorem lev_rl {l : List Span} (hok : ∀ s ∈ l, s.1 < s.2) : ∀ i, i ≤ l.length → onl levR l i = rlU l i
  | 0, _ => rfl
  | i + 1, h => by
    have ih := lev_rl hok i (by omega)
    have hlt : (l.take i).length = i := by simp; omega
    rw [onl, rlU, ih]
    congr 2
    show levF (sg l i) (l.take i) (rlU l i) ((l.take i).length + 2) 1 = _
    rw [hlt]
    exact levF_rl (by omega) _ (hok _ (sg_mem (by omega))) _ _
theorem leveled_rl {l : List Span} (hok : ∀ s ∈ l, s.1 < s.2) : leveled l = rlU l l.length := lev_rl hok _ (Nat.le_refl _)

/- Beginnings. -/
theorem onl_take (r : Rule) (l : List Span) {n : Nat} : ∀ i, i ≤ n → onl r (l.take n) i = onl r l i
  | 0, _ => rfl
  | i + 1, h => by
    rw [onl, onl, onl_take r l i (by omega), sg_take (by omega), List.take_take, Nat.min_eq_left (by omega)]
theorem onl_pre (r : Rule) (l : List Span) {n : Nat} : ∀ m, n ≤ m → (onl r l m).take n = onl r l n
  | 0, h => by
    have : n = 0 := by omega
    subst this
    rfl
  | m + 1, h => by
    by_cases e : n = m + 1
    · subst e
      rw [List.take_of_length_le (by rw [onl_len]; exact Nat.le_refl _)]
    · rw [onl, List.take_append_of_le_length (by rw [onl_len]; omega), onl_pre r l m (by omega)]
theorem onl_get (r : Rule) (l : List Span) {j m : Nat} (h : j < m) : (onl r l m).getD j 0 = r (sg l j) (l.take j) (onl r l j) := by
  have h1 : (onl r l m).take (j + 1) = onl r l (j + 1) := onl_pre r l m (by omega)
  have h2 : (onl r l m).getD j 0 = ((onl r l m).take (j + 1)).getD j 0 := by
    simp [List.getD_eq_getElem?_getD, List.getElem?_take_of_lt (show j < j + 1 by omega)]
  rw [h2, h1, onl]
  simp [List.getD_eq_getElem?_getD, onl_len]
theorem onl_congr {r r' : Rule} {l : List Span} {n : Nat} (h : ∀ i, i < n → ∀ ns, r (sg l i) (l.take i) ns = r' (sg l i) (l.take i) ns) : ∀ i, i ≤ n → onl r l i = onl r' l i
  | 0, _ => rfl
  | i + 1, hi => by rw [onl, onl, onl_congr h i (by omega), h i (by omega)]
theorem fit_take (l : List Span) {n : Nat} (h : n ≤ l.length) : fit (l.take n) = (fit l).take n := by
  unfold fit
  rw [onl_pre _ _ _ h, List.length_take, Nat.min_eq_left h, onl_take _ _ _ (Nat.le_refl _)]
theorem leveled_take (l : List Span) {n : Nat} (h : n ≤ l.length) : leveled (l.take n) = (leveled l).take n := by
  unfold leveled
  rw [onl_pre _ _ _ h, List.length_take, Nat.min_eq_left h, onl_take _ _ _ (Nat.le_refl _)]
theorem trotter_take (l : List Span) {n : Nat} (h : n ≤ l.length) : trotter (l.take n) = (trotter l).take n := by
  unfold trotter
  rw [onl_pre _ _ _ h, List.length_take, Nat.min_eq_left h, onl_take _ _ _ (Nat.le_refl _)]
  refine onl_congr (n := n) (fun i hi ns => ?_) n (Nat.le_refl _)
  have hlt : (l.take i).length = i := by simp; omega
  simp only [troR, hlt, leveled_take l h]
  have : ((leveled l).take n).getD i 0 = (leveled l).getD i 0 := by simp [List.getD_eq_getElem?_getD, List.getElem?_take_of_lt hi]
  rw [this]

/- Similar lists. -/
structure Sim (l m : List Span) : Prop where
  len : m.length = l.length
  fwd : ∀ p, ∃ q, ∀ j, j < l.length → ins (sg l j) p = ins (sg m j) q
  bwd : ∀ q, ∃ p, ∀ j, j < l.length → ins (sg m j) q = ins (sg l j) p

theorem cntU_sim {l m : List Span} {p q : Int} : ∀ i, (∀ j, j < i → ins (sg l j) p = ins (sg m j) q) → cntU l p i = cntU m q i
  | 0, _ => rfl
  | i + 1, h => by rw [cntU, cntU, h i (by omega), cntU_sim i fun j hj => h j (by omega)]
theorem cntK_sim {l m : List Span} {ns : List Int} {k p q : Int} : ∀ i, (∀ j, j < i → ins (sg l j) p = ins (sg m j) q) → cntK l ns k p i = cntK m ns k q i
  | 0, _ => rfl
  | i + 1, h => by rw [cntK, cntK, h i (by omega), cntK_sim i fun j hj => h j (by omega)]

theorem Sim.ov {l m : List Span} (S : Sim l m) {i j : Nat} (hi : i < l.length) (hj : j < l.length) : Sh.ov (sg l i) (sg l j) = Sh.ov (sg m i) (sg m j) := by
  rw [Bool.eq_iff_iff, ov_iff, ov_iff]
  constructor
  · rintro ⟨p, h1, h2⟩
    obtain ⟨q, hq⟩ := S.fwd p
    exact ⟨q, by rw [← hq i hi]; exact h1, by rw [← hq j hj]; exact h2⟩
  · rintro ⟨q, h1, h2⟩
    obtain ⟨p, hp⟩ := S.bwd q
    exact ⟨p, by rw [← hp i hi]; exact h1, by rw [← hp j hj]; exact h2⟩

theorem Sim.depth {l m : List Span} (S : Sim l m) : (deep l).2 = (deep m).2 := by
  have c1 : ∀ p, ∃ q, cnt l p = cnt m q := fun p => by
    obtain ⟨q, hq⟩ := S.fwd p
    exact ⟨q, by unfold cnt; rw [S.len]; exact cntU_sim _ hq⟩
  have c2 : ∀ q, ∃ p, cnt m q = cnt l p := fun q => by
    obtain ⟨p, hp⟩ := S.bwd q
    exact ⟨p, by unfold cnt; rw [S.len]; exact cntU_sim _ hp⟩
  refine deep_eq (fun p => ?_) ?_
  · obtain ⟨q, hq⟩ := c1 p
    rw [hq]
    exact deep_ge m q
  · by_cases h : 0 < (deep m).2
    · right
      obtain ⟨p, hp⟩ := c2 (deep m).1
      exact ⟨p, by rw [← hp, (deep_at m h).1]⟩
    · have := deep_nn m
      left
      omega

theorem takenU_sim {l m : List Span} {ns : List Int} {s t : Span} : ∀ i, (∀ j, j < i → Sh.ov s (sg l j) = Sh.ov t (sg m j)) → takenU s l ns i = takenU t m ns i
  | 0, _ => rfl
  | i + 1, h => by rw [takenU, takenU, h i (by omega), takenU_sim i fun j hj => h j (by omega)]
theorem takenU_take (s : Span) (l : List Span) (ns : List Int) {n : Nat} : ∀ i, i ≤ n → takenU s (l.take n) ns i = takenU s l ns i
  | 0, _ => rfl
  | i + 1, h => by rw [takenU, takenU, sg_take (by omega), takenU_take s l ns i (by omega)]

theorem Sim.taken {l m : List Span} (S : Sim l m) {i : Nat} (hi : i < l.length) (ns : List Int) : Sh.taken (sg l i) (l.take i) ns = Sh.taken (sg m i) (m.take i) ns := by
  have h1 : (l.take i).length = i := by simp; omega
  have h2 : (m.take i).length = i := by have := S.len; simp; omega
  unfold Sh.taken
  rw [h1, h2, takenU_take _ _ _ _ (Nat.le_refl _), takenU_take _ _ _ _ (Nat.le_refl _)]
  exact takenU_sim i fun j hj => S.ov hi (by omega)

theorem Sim.within {l m : List Span} (S : Sim l m) {i : Nat} (hi : i < l.length) (h1 : (sg l i).1 < (sg l i).2) (h2 : (sg m i).1 < (sg m i).2) (ns : List Int) (k : Int) :
    Sh.within (sg l i) (upto k (l.take i) ns) = Sh.within (sg m i) (upto k (m.take i) ns) := by
  have him : i < m.length := by rw [S.len]; exact hi
  obtain ⟨k1, q, hq, k2⟩ := within_spec him ns k h2
  refine within_eq hi ns k h1 (fun p hp => ?_) ?_
  · obtain ⟨q', hq'⟩ := S.fwd p
    rw [cntK_sim i fun j hj => hq' j (by omega)]
    exact k1 q' (by rw [← hq' i hi]; exact hp)
  · obtain ⟨p, hp⟩ := S.bwd q
    exact ⟨p, by rw [← hp i hi]; exact hq, by rw [cntK_sim i fun j hj => (hp j (by omega)).symm]; exact k2⟩

theorem Sim.onl {l m : List Span} (S : Sim l m) {r r' : Rule} (h : ∀ i, i < l.length → ∀ ns, r (sg l i) (l.take i) ns = r' (sg m i) (m.take i) ns) : ∀ i, i ≤ l.length → Sh.onl r l i = Sh.onl r' m i
  | 0, _ => rfl
  | i + 1, hi => by rw [Sh.onl, Sh.onl, S.onl h i (by omega), h i (by omega)]

theorem Sim.fit {l m : List Span} (S : Sim l m) : Sh.fit l = Sh.fit m := by
  unfold Sh.fit
  rw [S.len]
  exact S.onl (fun i hi ns => by simp only [fitR, S.taken hi]) _ (Nat.le_refl _)

theorem Sim.leveled {l m : List Span} (S : Sim l m) (h1 : ∀ s ∈ l, s.1 < s.2) (h2 : ∀ s ∈ m, s.1 < s.2) : Sh.leveled l = Sh.leveled m := by
  unfold Sh.leveled
  rw [S.len]
  refine S.onl (fun i hi ns => ?_) _ (Nat.le_refl _)
  have hlt : (l.take i).length = i := by simp; omega
  have hlm : (m.take i).length = i := by have := S.len; simp; omega
  have : ∀ n k, levF (sg l i) (l.take i) ns n k = levF (sg m i) (m.take i) ns n k := fun n => by
    induction n with
    | zero => intro k; rfl
    | succ n ih =>
      intro k
      simp only [levF, S.within hi (h1 _ (sg_mem hi)) (h2 _ (sg_mem (by rw [S.len]; exact hi))) ns k, ih]
  show levF (sg l i) (l.take i) ns ((l.take i).length + 2) 1 = levF (sg m i) (m.take i) ns ((m.take i).length + 2) 1
  rw [hlt, hlm]
  exact this _ _

theorem Sim.trotter {l m : List Span} (S : Sim l m) (h1 : ∀ s ∈ l, s.1 < s.2) (h2 : ∀ s ∈ m, s.1 < s.2) : Sh.trotter l = Sh.trotter m := by
  unfold Sh.trotter
  rw [S.len, S.leveled h1 h2]
  refine S.onl (fun i hi ns => ?_) _ (Nat.le_refl _)
  have hlt : (l.take i).length = i := by simp; omega
  have hlm : (m.take i).length = i := by have := S.len; simp; omega
  simp only [troR, hlt, hlm, S.taken hi]

theorem sg_map {f : Span → Span} {l : List Span} {j : Nat} (h : j < l.length) : sg (l.map f) j = f (sg l j) := by
  simp [sg, List.getD_eq_getElem?_getD, List.getElem?_eq_getElem h]

/-- Mirrored. -/
def mir (l : List Span) : List Span := l.map fun s => (1000 - s.2, 1000 - s.1)
theorem mir_sim (l : List Span) : Sim l (mir l) := by
  have key : ∀ j, j < l.length → ∀ p, ins (sg l j) p = ins (sg (mir l) j) (999 - p) := fun j hj p => by
    simp only [mir, sg_map hj, ins, decide_eq_decide]
    omega
  refine ⟨by simp [mir], fun p => ⟨999 - p, fun j hj => key j hj p⟩, fun q => ⟨999 - q, fun j hj => ?_⟩⟩
  rw [key j hj]
  congr 1
  omega
/-- Stretched. -/
def str (k : Int) (l : List Span) : List Span := l.map fun s => (s.1 * k, s.2 * k)
theorem str_sim {k : Int} (hk : 1 ≤ k) (l : List Span) : Sim l (str k l) := by
  have key : ∀ j, j < l.length → ∀ q, ins (sg (str k l) j) q = ins (sg l j) (q / k) := fun j hj q => by
    simp only [str, sg_map hj, ins, decide_eq_decide]
    rw [Int.le_ediv_iff_mul_le (by omega), Int.ediv_lt_iff_lt_mul (by omega)]
  refine ⟨by simp [str], fun p => ⟨p * k, fun j hj => ?_⟩, fun q => ⟨q / k, fun j hj => key j hj q⟩⟩
  rw [key j hj, Int.mul_ediv_cancel _ (by omega)]

end Go.Sh

