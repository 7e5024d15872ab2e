/- The sums of the parts of a list: Erdős and Moser. -/
import Derived.KernelRfl
set_option linter.unusedVariables false
set_option linter.unusedSimpArgs false
namespace Go.Wg
/- The sums of all parts of a list. -/
def SS : List Int → List Int
  | [] => [0]
  | a :: l => SS l ++ (SS l).map (a + ·)
def Dist (l : List Int) : Prop := (SS l).Nodup
theorem SS_len : ∀ (l : List Int), (SS l).length = 2 ^ l.length
  | [] => rfl
  | a :: l => by simp only [SS, List.length_append, List.length_map, SS_len l, List.length_cons]; omega
theorem SS_sub {l' l : List Int} (h : l'.Sublist l) : (SS l').Sublist (SS l) := by
  induction h with
  | slnil => exact List.Sublist.refl _
  | cons a _ ih => exact ih.trans (List.sublist_append_left _ _)
  | cons_cons a _ ih => exact ih.append (ih.map _)
theorem Dist.sub {l' l : List Int} (h : Dist l) (s : l'.Sublist l) : Dist l' := List.Sublist.nodup (SS_sub s) h
theorem SS_scale (c : Int) : ∀ (l : List Int), SS (l.map (· * c)) = (SS l).map (· * c)
  | [] => by simp [SS]
  | a :: l => by
    simp only [List.map_cons, SS, SS_scale c l, List.map_append, List.map_map]
    congr 1
    apply List.map_congr_left
    intro x _
    simp only [Function.comp]
    grind
theorem nodup_map_iff {α β : Type} {f : α → β} (hf : ∀ x y, f x = f y → x = y) : ∀ {l : List α}, (l.map f).Nodup ↔ l.Nodup
  | [] => by simp
  | a :: l => by
    rw [List.map_cons, List.nodup_cons, List.nodup_cons, nodup_map_iff hf]
    constructor
    · rintro ⟨h1, h2⟩
      exact ⟨fun h => h1 (List.mem_map_of_mem h), h2⟩
    · rintro ⟨h1, h2⟩
      refine ⟨fun h => ?_, h2⟩
      rw [List.mem_map] at h
      obtain ⟨x, hx, e⟩ := h
      exact h1 (hf _ _ e ▸ hx)
theorem Dist.scale {c : Int} (hc : 0 < c) (l : List Int) : Dist (l.map (· * c)) ↔ Dist l := by
  unfold Dist
  rw [SS_scale]
  exact nodup_map_iff fun x y h => Int.eq_of_mul_eq_mul_right (by omega) h
theorem SS_perm {l l' : List Int} (h : l.Perm l') : (SS l).Perm (SS l') := by
  induction h with
  | nil => exact List.Perm.refl _
  | cons a _ ih => exact ih.append (ih.map _)
  | swap a b l =>
    simp only [SS, List.map_append, List.map_map, List.append_assoc]
    have e : (SS l).map ((fun x => a + x) ∘ fun x => b + x) = (SS l).map ((fun x => b + x) ∘ fun x => a + x) := by
      apply List.map_congr_left
      intro x _
      simp only [Function.comp]
      omega
    rw [e]
    refine List.Perm.append_left _ ?_
    rw [← List.append_assoc, ← List.append_assoc]
    exact List.Perm.append_right _ List.perm_append_comm
  | trans _ _ h1 h2 => exact h1.trans h2
theorem Dist.perm {l l' : List Int} (h : l.Perm l') (d : Dist l) : Dist l' := (SS_perm h).nodup_iff.1 d
theorem SS_ge {l : List Int} (h : ∀ a ∈ l, 0 ≤ a) : ∀ x ∈ SS l, 0 ≤ x ∧ x ≤ l.sum := by
  induction l with
  | nil => intro x hx; simp [SS] at hx; simp [hx]
  | cons a l ih =>
    intro x hx
    have ih := ih fun b hb => h b (List.mem_cons_of_mem _ hb)
    have h0 := h a (by simp)
    simp only [SS, List.mem_append, List.mem_map] at hx
    rw [List.sum_cons]
    rcases hx with hx | ⟨y, hy, rfl⟩
    · have := ih x hx; omega
    · have := ih y hy; omega
/- Each more than the sum of all before. -/
theorem Dist.more {l : List Int} {b : Int} (h : ∀ a ∈ l, 0 ≤ a) (d : Dist l) (hb : l.sum < b) : Dist (l ++ [b]) := by
  refine Dist.perm (l := b :: l) (List.perm_append_singleton b l).symm ?_
  unfold Dist
  simp only [SS]
  rw [List.nodup_append]
  refine ⟨d, (nodup_map_iff fun x y h => by omega).2 d, fun x hx y hy => ?_⟩
  rw [List.mem_map] at hy
  obtain ⟨z, hz, rfl⟩ := hy
  have := SS_ge h x hx
  have := SS_ge h z hz
  omega
/- The sum of squares of numbers that are two apart. -/
def sq2 (f : Nat → Int) (a : Nat) : Nat → Int
  | 0 => 0
  | n + 1 => sq2 f a n + f (a + n) * f (a + n)
theorem sq2_left (f : Nat → Int) (a : Nat) : ∀ n, sq2 f a (n + 1) = f a * f a + sq2 f (a + 1) n
  | 0 => by simp [sq2]
  | n + 1 => by
    rw [sq2, sq2_left f a n, sq2, show a + (n + 1) = a + 1 + n by omega]
    omega
theorem gap (f : Nat → Int) (a : Nat) : ∀ n, (∀ i, a ≤ i → i < a + n → f i + 2 ≤ f (i + 1)) → f a + 2 * n ≤ f (a + n)
  | 0, _ => by simp
  | n + 1, h => by
    have := gap f a n fun i h1 h2 => h i h1 (by omega)
    have := h (a + n) (by omega) (by omega)
    rw [show a + (n + 1) = a + n + 1 by omega]
    omega
theorem sq2_ge (f : Nat → Int) : ∀ (k n a : Nat), n ≤ k → (∀ i, a ≤ i → i + 1 < a + n → f i + 2 ≤ f (i + 1)) → (n : Int) * (n * n - 1) ≤ 3 * sq2 f a n
  | _, 0, a, _, _ => by simp [sq2]
  | _, 1, a, _, _ => by
    simp only [sq2]
    have : 0 ≤ f a * f a := by
      rcases Int.le_total 0 (f a) with h | h
      · exact Int.mul_nonneg h h
      · exact Int.mul_nonneg_of_nonpos_of_nonpos h h
    simp
    omega
  | 0, n + 2, a, hk, h => by omega
  | k + 1, n + 2, a, hk, h => by
    have ih := sq2_ge f k n (a + 1) (by omega) fun i h1 h2 => h i (by omega) (by omega)
    have g := gap f a (n + 1) fun i h1 h2 => h i h1 (by omega)
    rw [sq2, sq2_left]
    rw [show a + (n + 1) = a + (n + 1) from rfl]
    generalize hx : f a = x at *
    generalize hy : f (a + (n + 1)) = y at *
    generalize hs : sq2 f (a + 1) n = S at *
    have h1 : 2 * ((n : Int) + 1) ≤ y - x := by omega
    have h2 : (2 * ((n : Int) + 1)) * (2 * ((n : Int) + 1)) ≤ (y - x) * (y - x) := Int.mul_le_mul h1 h1 (by omega) (by omega)
    have h3 : (y - x) * (y - x) ≤ 2 * (x * x + y * y) := by
      have : 0 ≤ (x + y) * (x + y) := by
        rcases Int.le_total 0 (x + y) with h | h
        · exact Int.mul_nonneg h h
        · exact Int.mul_nonneg_of_nonpos_of_nonpos h h
      grind
    have e1 : ((n + 2 : Nat) : Int) = (n : Int) + 2 := by omega
    rw [e1]
    generalize (n : Int) = N at *
    grind
/- All sums with signs. -/
def VV : List Int → List Int
  | [] => [0]
  | a :: l => (VV l).map (· - a) ++ (VV l).map (· + a)
theorem VV_SS : ∀ (l : List Int), VV l = (SS l).map (fun s => 2 * s - l.sum)
  | [] => by simp [VV, SS]
  | a :: l => by
    simp only [VV, SS, VV_SS l, List.map_append, List.map_map, List.sum_cons]
    congr 1
    · apply List.map_congr_left
      intro x _
      simp only [Function.comp]
      omega
    · apply List.map_congr_left
      intro x _
      simp only [Function.comp]
      omega
def sqs (l : List Int) : Int := (l.map fun x => x * x).sum
theorem sqs_app (l m : List Int) : sqs (l ++ m) = sqs l + sqs m := by simp [sqs]
theorem sqs_shift (a : Int) : ∀ l : List Int, sqs (l.map (· - a)) + sqs (l.map (· + a)) = 2 * sqs l + 2 * (a * a) * l.length
  | [] => by simp [sqs]
  | x :: l => by
    have ih := sqs_shift a l
    simp only [sqs, List.map_cons, List.sum_cons, List.length_cons] at *
    have e : ((l.length + 1 : Nat) : Int) = (l.length : Int) + 1 := by omega
    rw [e]
    generalize (l.length : Int) = n at *
    grind
theorem VV_len : ∀ (l : List Int), (VV l).length = 2 ^ l.length
  | [] => rfl
  | a :: l => by simp only [VV, List.length_append, List.length_map, VV_len l, List.length_cons]; omega
theorem sqs_VV : ∀ (l : List Int), sqs (VV l) = ((2 ^ l.length : Nat) : Int) * sqs l
  | [] => by simp [VV, sqs]
  | a :: l => by
    have ih := sqs_VV l
    have h := sqs_shift a (VV l)
    rw [VV_len] at h
    rw [VV, sqs_app, h, ih]
    have e : ((2 ^ (a :: l).length : Nat) : Int) = 2 * ((2 ^ l.length : Nat) : Int) := by
      rw [List.length_cons, Nat.pow_succ]; omega
    have e2 : sqs (a :: l) = a * a + sqs l := by simp [sqs]
    rw [e, e2]
    generalize ((2 ^ l.length : Nat) : Int) = N
    grind
theorem sqs_perm {l m : List Int} (h : l.Perm m) : sqs l = sqs m := by
  unfold sqs
  induction h with
  | nil => rfl
  | cons a _ ih => simp only [List.map_cons, List.sum_cons, ih]
  | swap a b l => simp only [List.map_cons, List.sum_cons]; omega
  | trans _ _ h1 h2 => exact h1.trans h2
theorem sqs_sq2 (d : List Int) : ∀ n, n ≤ d.length → sqs (d.take n) = sq2 (fun i => d.getD i 0) 0 n
  | 0, _ => by simp [sqs, sq2]
  | n + 1, h => by
    rw [List.take_succ_eq_append_getElem (by omega), sqs_app, sqs_sq2 d n (by omega), sq2]
    simp only [Nat.zero_add, sqs, List.map_cons, List.map_nil, List.sum_cons, List.sum_nil, Int.add_zero, List.getD_eq_getElem?_getD, List.getElem?_eq_getElem (show n < d.length by omega), Option.getD_some]
/- Erdős and Moser. -/
theorem erdos {l : List Int} (d : Dist l) : ((4 ^ l.length : Nat) : Int) - 1 ≤ 3 * sqs l := by
  have hp := (SS l).mergeSort_perm (fun x y => decide (x ≤ y))
  have hs : (SS l).mergeSort (fun x y => decide (x ≤ y)) |>.Pairwise (fun a b => decide (a ≤ b) = true) := List.pairwise_mergeSort (fun a b c h1 h2 => by simp at *; omega) (fun a b => by simp; omega) _
  generalize (SS l).mergeSort (fun x y => decide (x ≤ y)) = m at *
  have hn : m.Nodup := hp.nodup_iff.2 d
  have hl : m.length = 2 ^ l.length := by rw [hp.length_eq, SS_len]
  have hq : sqs (VV l) = sqs (m.map fun s => 2 * s - l.sum) := by
    rw [VV_SS]
    exact sqs_perm (hp.symm.map _)
  have e1 := sqs_sq2 (m.map fun s => 2 * s - l.sum) m.length (by simp)
  rw [List.take_of_length_le (by simp)] at e1
  have e2 := sq2_ge (fun i => (m.map fun s => 2 * s - l.sum).getD i 0) m.length m.length 0 (Nat.le_refl _) (fun i _ hi => by
    have h1 : i < m.length := by omega
    have h2 : i + 1 < m.length := by omega
    simp only [List.getD_eq_getElem?_getD, List.getElem?_map, List.getElem?_eq_getElem h1, List.getElem?_eq_getElem h2, Option.map_some, Option.getD_some]
    have a1 := List.pairwise_iff_getElem.1 hs i (i + 1) h1 h2 (by omega)
    have a2 := List.pairwise_iff_getElem.1 hn i (i + 1) h1 h2 (by omega)
    simp at a1
    omega)
  rw [← e1, ← hq, sqs_VV, hl] at e2
  have h4 : (4 ^ l.length : Nat) = 2 ^ l.length * 2 ^ l.length := by rw [← Nat.mul_pow]
  rw [h4]
  have hN : 0 < ((2 ^ l.length : Nat) : Int) := by have := Nat.two_pow_pos l.length; omega
  generalize 2 ^ l.length = N at *
  have e3 : (N : Int) * ((N : Int) * N - 1) ≤ N * (3 * sqs l) := by grind
  have := Int.le_of_mul_le_mul_left e3 hN
  rw [Int.natCast_mul]
  exact this
end Go.Wg
