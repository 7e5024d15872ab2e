/- The measures of an order, as mathematics: positions, lengths, cuts. -/
import Derived.Test.YtihadgkgogfhcaaRA
set_option linter.unusedSimpArgs false
set_option linter.unusedVariables false
namespace Go.Ro
open Go.Pa
/- The position of a vertex in the beginning of an order: the others are behind it. -/
def pos (zs : List Int) (v : Int) : Int := (zs.idxOf v : Int)
theorem pos_lt {zs : List Int} {v : Int} (h : v ∈ zs) : 0 ≤ pos zs v ∧ pos zs v < zs.length := by
  have := List.idxOf_lt_length_of_mem h
  unfold pos
  omega
theorem pos_no {zs : List Int} {v : Int} (h : v ∉ zs) : pos zs v = zs.length := by
  unfold pos
  rw [List.idxOf_eq_length h]
theorem pos_le {zs : List Int} {v : Int} : 0 ≤ pos zs v ∧ pos zs v ≤ zs.length := by
  have := List.idxOf_le_length (a := v) (l := zs)
  unfold pos
  omega
theorem pos_pre {zs ys : List Int} (h : zs <+: ys) (v : Int) : pos zs v = min (pos ys v) zs.length := by
  obtain ⟨r, rfl⟩ := h
  by_cases hv : v ∈ zs
  · have := pos_lt hv
    unfold pos at this ⊢
    rw [List.idxOf_append, if_pos hv]
    omega
  · rw [pos_no hv]
    unfold pos
    rw [List.idxOf_append, if_neg hv]
    omega
theorem pos_at {zs : List Int} (h : zs.Nodup) {i : Nat} (hi : i < zs.length) : pos zs (zs.getD i 0) = i := by
  unfold pos
  rw [getD_at hi, h.idxOf_getElem i hi]
/- The ends of an edge. -/
def lo (p : Int → Int) (e : Int × Int) : Int := min (p e.1) (p e.2)
def hi (p : Int → Int) (e : Int × Int) : Int := max (p e.1) (p e.2)
def len (p : Int → Int) (e : Int × Int) : Int := hi p e - lo p e
def band (p : Int → Int) : List (Int × Int) → Int
  | [] => 0
  | e :: E => max (len p e) (band p E)
def total (p : Int → Int) : List (Int × Int) → Int
  | [] => 0
  | e :: E => len p e + total p E
def cut (p : Int → Int) (q : Int) : List (Int × Int) → Int
  | [] => 0
  | e :: E => (if lo p e ≤ q ∧ q < hi p e then 1 else 0) + cut p q E
def cutsU (p : Int → Int) (E : List (Int × Int)) (n : Nat) : List Int := (List.range n).map fun q : Nat => cut p q E
def mxL : List Int → Int
  | [] => 0
  | z :: zs => max z (mxL zs)
theorem mxL_ge : ∀ {zs : List Int} {z : Int}, z ∈ zs → z ≤ mxL zs
  | x :: zs, z, h => by
    rcases List.mem_cons.1 h with rfl | h
    · simp only [mxL]; omega
    · have := mxL_ge h; simp only [mxL]; omega
theorem mxL_nonneg : ∀ {zs : List Int}, 0 ≤ mxL zs
  | [] => by simp [mxL]
  | x :: zs => by have := mxL_nonneg (zs := zs); simp only [mxL]; omega
theorem mxL_hit : ∀ {zs : List Int}, mxL zs = 0 ∨ mxL zs ∈ zs
  | [] => .inl rfl
  | x :: zs => by
    simp only [mxL]
    rcases mxL_hit (zs := zs) with h | h
    · by_cases hx : 0 ≤ x
      · right; rw [h, Int.max_eq_left hx]; simp
      · left; omega
    · by_cases hx : mxL zs ≤ x
      · right; rw [Int.max_eq_left hx]; simp
      · right; rw [Int.max_eq_right (by omega)]; simp [h]
theorem mxL_le {zs : List Int} {m : Int} (h0 : 0 ≤ m) (h : ∀ z ∈ zs, z ≤ m) : mxL zs ≤ m := by
  rcases mxL_hit (zs := zs) with e | e
  · omega
  · exact h _ e
theorem mxL_app : ∀ {xs ys : List Int}, mxL (xs ++ ys) = max (mxL xs) (mxL ys)
  | [], ys => by have := mxL_nonneg (zs := ys); simp only [List.nil_append, mxL]; omega
  | x :: xs, ys => by simp only [List.cons_append, mxL, mxL_app (xs := xs)]; omega
def width (p : Int → Int) (E : List (Int × Int)) : Int := mxL (cutsU p E 8)
theorem len_nonneg {p : Int → Int} {e : Int × Int} : 0 ≤ len p e := by simp only [len, hi, lo]; omega
theorem band_nonneg {p : Int → Int} : ∀ {E}, 0 ≤ band p E
  | [] => by simp [band]
  | e :: E => by have := band_nonneg (p := p) (E := E); simp only [band]; omega
theorem total_nonneg {p : Int → Int} : ∀ {E}, 0 ≤ total p E
  | [] => by simp [total]
  | e :: E => by have := total_nonneg (p := p) (E := E); have := len_nonneg (p := p) (e := e); simp only [total]; omega
theorem cut_nonneg {p : Int → Int} {q : Int} : ∀ {E}, 0 ≤ cut p q E
  | [] => by simp [cut]
  | e :: E => by have := cut_nonneg (p := p) (q := q) (E := E); simp only [cut]; split <;> omega
theorem cut_le {p : Int → Int} {q : Int} : ∀ {E : List (Int × Int)}, cut p q E ≤ E.length
  | [] => by simp [cut]
  | e :: E => by have := cut_le (p := p) (q := q) (E := E); simp only [cut, List.length_cons]; split <;> omega
theorem width_le {p : Int → Int} {E : List (Int × Int)} : width p E ≤ E.length := mxL_le (by omega) fun z hz => by
  obtain ⟨q, _, rfl⟩ := List.mem_map.1 hz
  exact cut_le
/- With an edge more. -/
theorem band_app {p : Int → Int} : ∀ {E F : List (Int × Int)}, band p (E ++ F) = max (band p E) (band p F)
  | [], F => by have := band_nonneg (p := p) (E := F); simp only [List.nil_append, band]; omega
  | e :: E, F => by simp only [List.cons_append, band, band_app (E := E)]; omega
theorem total_app {p : Int → Int} : ∀ {E F : List (Int × Int)}, total p (E ++ F) = total p E + total p F
  | [], F => by simp [total]
  | e :: E, F => by simp only [List.cons_append, total, total_app (E := E)]; omega
theorem cut_app {p : Int → Int} {q : Int} : ∀ {E F : List (Int × Int)}, cut p q (E ++ F) = cut p q E + cut p q F
  | [], F => by simp [cut]
  | e :: E, F => by simp only [List.cons_append, cut, cut_app (E := E)]; omega
/- What doesn't become less along an order. -/
theorem len_mono {p p' : Int → Int} {L : Int} (h : ∀ v, p v = min (p' v) L) (e : Int × Int) : len p e ≤ len p' e := by
  simp only [len, hi, lo, h]; omega
theorem band_mono {p p' : Int → Int} {L : Int} (h : ∀ v, p v = min (p' v) L) : ∀ E, band p E ≤ band p' E
  | [] => by simp [band]
  | e :: E => by have := band_mono h E; have := len_mono h e; simp only [band]; omega
theorem total_mono {p p' : Int → Int} {L : Int} (h : ∀ v, p v = min (p' v) L) : ∀ E, total p E ≤ total p' E
  | [] => by simp [total]
  | e :: E => by have := total_mono h E; have := len_mono h e; simp only [total]; omega
theorem cut_mono {p p' : Int → Int} {L : Int} (h : ∀ v, p v = min (p' v) L) (q : Int) : ∀ E, cut p q E ≤ cut p' q E
  | [] => by simp [cut]
  | e :: E => by
    have := cut_mono h q E
    simp only [cut]
    by_cases h1 : lo p e ≤ q ∧ q < hi p e
    · have h2 : lo p' e ≤ q ∧ q < hi p' e := by
        simp only [hi, lo, h] at h1 ⊢
        omega
      rw [if_pos h1, if_pos h2]; omega
    · rw [if_neg h1]
      split <;> omega
theorem mxL_mono {xs ys : List Int} (hl : xs.length = ys.length) (h : ∀ i, i < xs.length → xs.getD i 0 ≤ ys.getD i 0) : mxL xs ≤ mxL ys := mxL_le mxL_nonneg fun z hz => by
  obtain ⟨i, hi, rfl⟩ := List.getElem_of_mem hz
  have := h i hi
  rw [getD_at hi, getD_at (by omega)] at this
  exact Int.le_trans this (mxL_ge (List.getElem_mem _))
theorem cutsU_at {p : Int → Int} {E : List (Int × Int)} {n i : Nat} (h : i < n) : (cutsU p E n).getD i 0 = cut p i E := by
  simp [cutsU, List.getD_eq_getElem?_getD, h]
theorem cutsU_len {p : Int → Int} {E : List (Int × Int)} {n : Nat} : (cutsU p E n).length = n := by simp [cutsU]
theorem width_mono {p p' : Int → Int} {E E' : List (Int × Int)} (h : ∀ q, cut p q E ≤ cut p' q E') : width p E ≤ width p' E' :=
  mxL_mono (by simp [cutsU]) fun i hi => by
    rw [cutsU_len] at hi
    rw [cutsU_at hi, cutsU_at hi]
    exact h _
/- The three costs of an order. -/
def cBand (E : List (Int × Int)) (zs : List Int) : Int := band (pos zs) E
def cCut (E : List (Int × Int)) (zs : List Int) : Int := width (pos zs) E
def cSum (E : List (Int × Int)) (zs : List Int) : Int := total (pos zs) E
def Mono (c : List Int → Int) : Prop := ∀ zs ys, zs <+: ys → c zs ≤ c ys
theorem cBand_mono {E : List (Int × Int)} : Mono (cBand E) := fun zs ys h => band_mono (pos_pre h) E
theorem cCut_mono {E : List (Int × Int)} : Mono (cCut E) := fun zs ys h => width_mono fun q => cut_mono (pos_pre h) q E
theorem cSum_mono {E : List (Int × Int)} : Mono (cSum E) := fun zs ys h => total_mono (pos_pre h) E
/- How large they are. -/
def EdgeOK (n : Nat) (E : List (Int × Int)) : Prop := ∀ e ∈ E, (0 ≤ e.1 ∧ e.1 < n) ∧ (0 ≤ e.2 ∧ e.2 < n) ∧ e.1 ≠ e.2
theorem len_le {zs : List Int} {e : Int × Int} : len (pos zs) e ≤ zs.length := by
  have h1 := pos_le (zs := zs) (v := e.1)
  have h2 := pos_le (zs := zs) (v := e.2)
  simp only [len, hi, lo]; omega
theorem band_le {zs : List Int} : ∀ {E}, band (pos zs) E ≤ zs.length
  | [] => by simp [band]
  | e :: E => by have := band_le (zs := zs) (E := E); have := len_le (zs := zs) (e := e); simp only [band]; omega
theorem total_le {zs : List Int} : ∀ {E : List (Int × Int)}, total (pos zs) E ≤ zs.length * E.length
  | [] => by simp [total]
  | e :: E => by
    have := total_le (zs := zs) (E := E)
    have := len_le (zs := zs) (e := e)
    simp only [total, List.length_cons, Int.natCast_add, Int.mul_add]
    simp only [Int.natCast_one, Int.mul_one] at *
    omega
/- The sum of the cuts. -/
def sumL : List Int → Int
  | [] => 0
  | z :: zs => z + sumL zs
theorem sumL_app : ∀ {xs ys : List Int}, sumL (xs ++ ys) = sumL xs + sumL ys
  | [], ys => by simp [sumL]
  | x :: xs, ys => by simp only [List.cons_append, sumL, sumL_app (xs := xs)]; omega
theorem cutsU_succ {p : Int → Int} {E : List (Int × Int)} {n : Nat} : cutsU p E (n + 1) = cutsU p E n ++ [cut p n E] := by
  simp [cutsU, List.range_succ]
theorem sum_one {a b : Int} (h0 : 0 ≤ a) (h1 : a ≤ b) : ∀ n : Nat, sumL ((List.range n).map fun q : Nat => (if a ≤ (q : Int) ∧ (q : Int) < b then (1 : Int) else 0)) = min b n - min a n
  | 0 => by simp [sumL]; omega
  | n + 1 => by
    rw [List.range_succ, List.map_append, sumL_app, sum_one h0 h1 n]
    simp only [List.map_cons, List.map_nil, sumL]
    split <;> omega
theorem sum_cuts {p : Int → Int} {n : Nat} : ∀ {E : List (Int × Int)}, (∀ e ∈ E, (0 ≤ p e.1 ∧ p e.1 ≤ n) ∧ (0 ≤ p e.2 ∧ p e.2 ≤ n)) → sumL (cutsU p E n) = total p E
  | [], _ => by
    have : ∀ n : Nat, sumL (cutsU p [] n) = 0 := fun n => by
      induction n with
      | zero => rfl
      | succ n ih => rw [cutsU_succ, sumL_app, ih]; simp [sumL, cut]
    rw [this]; rfl
  | e :: E, h => by
    have ih := sum_cuts (E := E) fun x hx => h x (by simp [hx])
    have he := h e (by simp)
    have one := sum_one (a := lo p e) (b := hi p e) (by simp only [lo]; omega) (by simp only [lo, hi]; omega) n
    have split : ∀ m : Nat, sumL (cutsU p (e :: E) m) = sumL ((List.range m).map fun q : Nat => (if lo p e ≤ (q : Int) ∧ (q : Int) < hi p e then (1 : Int) else 0)) + sumL (cutsU p E m) := fun m => by
      induction m with
      | zero => rfl
      | succ m ihm =>
        rw [cutsU_succ, cutsU_succ, List.range_succ, List.map_append, sumL_app, sumL_app, sumL_app, ihm]
        simp only [List.map_cons, List.map_nil, sumL, cut]
        omega
    rw [split, ih, one]
    simp only [total, len]
    simp only [hi, lo] at *
    omega
/- Behind the last position there is no cut. -/
theorem cut_end {p : Int → Int} {q : Int} : ∀ {E : List (Int × Int)}, (∀ e ∈ E, p e.1 ≤ q ∧ p e.2 ≤ q) → cut p q E = 0
  | [], _ => rfl
  | e :: E, h => by
    have := h e (by simp)
    simp only [cut, cut_end (E := E) fun x hx => h x (by simp [hx])]
    rw [if_neg]
    · rfl
    · simp only [hi, lo]; omega
theorem mxL_cuts {p : Int → Int} {E : List (Int × Int)} {n : Nat} (h : ∀ e ∈ E, p e.1 ≤ n ∧ p e.2 ≤ n) : ∀ k, mxL (cutsU p E (n + k)) = mxL (cutsU p E n)
  | 0 => rfl
  | k + 1 => by
    rw [← Nat.add_assoc, cutsU_succ, mxL_app, mxL_cuts h k, cut_end fun e he => by have := h e he; omega]
    have := mxL_nonneg (zs := cutsU p E n)
    simp only [mxL]
    omega
theorem width_cuts {p : Int → Int} {E : List (Int × Int)} {n : Nat} (hn : n ≤ 8) (h : ∀ e ∈ E, p e.1 ≤ n ∧ p e.2 ≤ n) : width p E = mxL (cutsU p E n) := by
  have := mxL_cuts h (8 - n)
  rwa [show n + (8 - n) = 8 by omega] at this
/- In an order every vertex has a position. -/
theorem perm_mem {n : Nat} {zs : List Int} (h : PermI n zs) {v : Int} (h0 : 0 ≤ v) (h1 : v < n) : v ∈ zs := by
  have hl : zs.length = n := PermI.len h
  refine Classical.byContradiction fun hv => ?_
  have key : ∀ (m : Nat) (l : List Int), l.Nodup → (∀ z ∈ l, 0 ≤ z ∧ z < (m : Int)) → l.length ≤ m := fun m => by
    induction m with
    | zero =>
      intro l hd hr
      cases l with
      | nil => simp
      | cons z l => have := hr z (by simp); omega
    | succ m ih =>
      intro l hd hr
      have h2 := ih (l.erase (m : Int)) (hd.erase _) fun z hz => by
        have h3 := hr z (List.mem_of_mem_erase hz)
        have h4 : z ≠ m := fun e => by
          rw [e] at hz
          exact absurd rfl ((hd.mem_erase_iff).1 hz).1
        omega
      have := List.length_erase (a := (m : Int)) (l := l)
      split at this <;> omega
  have := key n (v :: zs) (List.nodup_cons.2 ⟨hv, h.2.2⟩) fun z hz => by
    rcases List.mem_cons.1 hz with rfl | hz
    · exact ⟨h0, h1⟩
    · exact h.2.1 z hz
  simp only [List.length_cons] at this
  omega
theorem pos_ok {n : Nat} {E : List (Int × Int)} {zs : List Int} (h : PermI n zs) (hE : EdgeOK n E) : ∀ e ∈ E, (0 ≤ pos zs e.1 ∧ pos zs e.1 < n) ∧ (0 ≤ pos zs e.2 ∧ pos zs e.2 < n) := fun e he => by
  have h1 := hE e he
  have h2 := pos_lt (perm_mem h h1.1.1 h1.1.2)
  have h3 := pos_lt (perm_mem h h1.2.1.1 h1.2.1.2)
  rw [PermI.len h] at h2 h3
  exact ⟨h2, h3⟩
end Go.Ro
