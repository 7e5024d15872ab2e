/- Orders that are reversed, vertices that are renamed, graphs with all edges, or one more. -/
import Derived.Test.YtihadgkgogfhcaaRB
set_option linter.unusedSimpArgs false
set_option linter.unusedVariables false
namespace Go.Ro
open Go.Pa
/- Measures by lengths and cuts. -/
theorem band_congr {p p' : Int → Int} : ∀ {E : List (Int × Int)}, (∀ e ∈ E, len p e = len p' e) → band p E = band p' E
  | [], _ => rfl
  | e :: E, h => by simp only [band, h e (by simp), band_congr (E := E) fun x hx => h x (by simp [hx])]
theorem total_congr {p p' : Int → Int} : ∀ {E : List (Int × Int)}, (∀ e ∈ E, len p e = len p' e) → total p E = total p' E
  | [], _ => rfl
  | e :: E, h => by simp only [total, h e (by simp), total_congr (E := E) fun x hx => h x (by simp [hx])]
theorem cut_congr {p p' : Int → Int} {q q' : Int} : ∀ {E : List (Int × Int)}, (∀ e ∈ E, (lo p e ≤ q ∧ q < hi p e) ↔ (lo p' e ≤ q' ∧ q' < hi p' e)) → cut p q E = cut p' q' E
  | [], _ => rfl
  | e :: E, h => by
    have he := h e (by simp)
    simp only [cut, cut_congr (E := E) fun x hx => h x (by simp [hx])]
    by_cases h1 : lo p e ≤ q ∧ q < hi p e
    · rw [if_pos h1, if_pos (he.1 h1)]
    · rw [if_neg h1, if_neg fun h2 => h1 (he.2 h2)]
/- The other end. -/
theorem perm_rev {n : Nat} {zs : List Int} (h : PermI n zs) : PermI n zs.reverse := ⟨by rw [List.length_reverse]; exact h.1, fun z hz => h.2.1 z (List.mem_reverse.1 hz), by rw [List.Nodup, List.pairwise_reverse]; exact h.2.2.imp fun h e => h e.symm⟩
theorem pos_rev {zs : List Int} (hd : zs.Nodup) {v : Int} (h : v ∈ zs) : pos zs.reverse v = zs.length - 1 - pos zs v := by
  obtain ⟨i, hi, rfl⟩ := List.getElem_of_mem h
  have e1 := pos_at hd hi
  rw [getD_at hi] at e1
  have hr : (zs.reverse).Nodup := by rw [List.Nodup, List.pairwise_reverse]; exact hd.imp fun h e => h e.symm
  have hj : zs.length - 1 - i < zs.reverse.length := by rw [List.length_reverse]; omega
  have e2 := pos_at hr hj
  rw [getD_at hj, List.getElem_reverse] at e2
  have e3 : zs[zs.length - 1 - (zs.length - 1 - i)]'(by omega) = zs[i] := by congr 1; omega
  rw [e3] at e2
  rw [e1, e2]
  omega
section
variable {n : Nat} {E : List (Int × Int)} {zs : List Int}
theorem rev_lohi (h : PermI n zs) (hE : EdgeOK n E) : ∀ e ∈ E, lo (pos zs.reverse) e = n - 1 - hi (pos zs) e ∧ hi (pos zs.reverse) e = n - 1 - lo (pos zs) e := fun e he => by
  have h1 := hE e he
  have h2 := pos_rev h.2.2 (perm_mem h h1.1.1 h1.1.2)
  have h3 := pos_rev h.2.2 (perm_mem h h1.2.1.1 h1.2.1.2)
  rw [PermI.len h] at h2 h3
  simp only [lo, hi, h2, h3]
  omega
theorem band_rev (h : PermI n zs) (hE : EdgeOK n E) : band (pos zs.reverse) E = band (pos zs) E := band_congr fun e he => by
  have := rev_lohi h hE e he
  simp only [len]; omega
theorem total_rev (h : PermI n zs) (hE : EdgeOK n E) : total (pos zs.reverse) E = total (pos zs) E := total_congr fun e he => by
  have := rev_lohi h hE e he
  simp only [len]; omega
theorem cut_rev (h : PermI n zs) (hE : EdgeOK n E) (q : Int) : cut (pos zs.reverse) q E = cut (pos zs) (n - 2 - q) E := cut_congr fun e he => by
  have := rev_lohi h hE e he
  omega
theorem cuts_rev (h : PermI n zs) (hE : EdgeOK n E) : cutsU (pos zs) E (n - 1) = (cutsU (pos zs.reverse) E (n - 1)).reverse := by
  refine List.ext_getElem (by simp [cutsU]) fun i h1 h2 => ?_
  rw [cutsU_len] at h1
  simp only [List.getElem_reverse, cutsU_len]
  have e1 := cutsU_at (p := pos zs) (E := E) h1
  have e2 := cutsU_at (p := pos zs.reverse) (E := E) (n := n - 1) (i := n - 1 - 1 - i) (by omega)
  rw [getD_at (by rw [cutsU_len]; exact h1)] at e1
  rw [getD_at (by rw [cutsU_len]; omega)] at e2
  rw [e1, e2, cut_rev h hE]
  congr 1
  omega
theorem mxL_rev : ∀ {zs : List Int}, mxL zs.reverse = mxL zs
  | [] => rfl
  | z :: zs => by
    rw [List.reverse_cons, mxL_app, mxL_rev]
    have := mxL_nonneg (zs := zs)
    simp only [mxL]
    omega
theorem width_perm (h : PermI n zs) (hE : EdgeOK n E) (hn : n ≤ 8) : width (pos zs) E = mxL (cutsU (pos zs) E (n - 1)) := width_cuts (by omega) fun e he => by
  have := pos_ok h hE e he
  omega
theorem width_rev (h : PermI n zs) (hE : EdgeOK n E) (hn : n ≤ 8) : width (pos zs.reverse) E = width (pos zs) E := by
  rw [width_perm h hE hn, width_perm (perm_rev h) hE hn, cuts_rev h hE, mxL_rev]
theorem total_cuts (h : PermI n zs) (hE : EdgeOK n E) : sumL (cutsU (pos zs) E (n - 1)) = total (pos zs) E := sum_cuts fun e he => by
  have := pos_ok h hE e he
  omega
/- Between. -/
theorem band_lt (h : PermI n zs) (hE : EdgeOK n E) (hn : 0 < n) : band (pos zs) E ≤ n - 1 := by
  have h1 := pos_ok h hE
  clear hE
  induction E with
  | nil => simp only [band]; omega
  | cons e E ih =>
    have := ih fun x hx => h1 x (by simp [hx])
    have := h1 e (by simp)
    simp only [band, len, lo, hi]
    omega
theorem pos_inj {v w : Int} (hv : v ∈ zs) (e : pos zs v = pos zs w) : v = w := by
  have h1 := pos_lt hv
  have hw : w ∈ zs := Classical.byContradiction fun hw => by
    have := pos_no hw
    omega
  unfold pos at e
  have e' : zs.idxOf v = zs.idxOf w := by omega
  have a := List.getElem_idxOf (List.idxOf_lt_length_of_mem hv)
  have b := List.getElem_idxOf (List.idxOf_lt_length_of_mem hw)
  rw [← a, ← b]
  congr 1
theorem len_pos (h : PermI n zs) (hE : EdgeOK n E) : ∀ e ∈ E, 1 ≤ len (pos zs) e := fun e he => by
  have h1 := hE e he
  have h2 : pos zs e.1 ≠ pos zs e.2 := fun h3 => h1.2.2 (pos_inj (perm_mem h h1.1.1 h1.1.2) h3)
  simp only [len, lo, hi]
  omega
theorem total_ge (h : PermI n zs) (hE : EdgeOK n E) : (E.length : Int) ≤ total (pos zs) E := by
  have h1 := len_pos h hE
  clear hE
  induction E with
  | nil => simp [total]
  | cons e E ih =>
    have := ih fun x hx => h1 x (by simp [hx])
    have := h1 e (by simp)
    simp only [total, List.length_cons]
    omega
theorem sumL_le {m : Int} : ∀ {l : List Int}, (∀ z ∈ l, z ≤ m) → sumL l ≤ l.length * m
  | [], _ => by simp [sumL]
  | z :: l, h => by
    have := sumL_le (l := l) fun x hx => h x (by simp [hx])
    have := h z (by simp)
    simp only [sumL, List.length_cons, Int.natCast_add, Int.add_mul]
    simp only [Int.natCast_one, Int.one_mul]
    omega
theorem total_width (h : PermI n zs) (hE : EdgeOK n E) (hn : n ≤ 8) (h0 : 0 < n) : total (pos zs) E ≤ (n - 1) * width (pos zs) E := by
  have := sumL_le (l := cutsU (pos zs) E (n - 1)) (m := width (pos zs) E) fun z hz => by
    rw [width_perm h hE hn]
    exact mxL_ge hz
  rw [total_cuts h hE, cutsU_len] at this
  rw [show ((n - 1 : Nat) : Int) = (n : Int) - 1 by omega] at this
  exact this
end
/- Other names. -/
def nameE (f : Int → Int) (E : List (Int × Int)) : List (Int × Int) := (E.map fun e => (f e.2, f e.1)).reverse
theorem band_rv {p : Int → Int} : ∀ {E : List (Int × Int)}, band p E.reverse = band p E
  | [] => rfl
  | e :: E => by
    have := band_nonneg (p := p) (E := E)
    have := len_nonneg (p := p) (e := e)
    simp only [List.reverse_cons, band_app, band_rv (E := E), band]
    omega
theorem total_rv {p : Int → Int} : ∀ {E : List (Int × Int)}, total p E.reverse = total p E
  | [] => rfl
  | e :: E => by simp only [List.reverse_cons, total_app, total_rv (E := E), total]; omega
theorem cut_rv {p : Int → Int} {q : Int} : ∀ {E : List (Int × Int)}, cut p q E.reverse = cut p q E
  | [] => rfl
  | e :: E => by simp only [List.reverse_cons, cut_app, cut_rv (E := E), cut]; omega
theorem lohi_name {p : Int → Int} {f : Int → Int} {e : Int × Int} : lo p (f e.2, f e.1) = lo (fun v => p (f v)) e ∧ hi p (f e.2, f e.1) = hi (fun v => p (f v)) e := by
  simp only [lo, hi]; omega
theorem band_name {p f : Int → Int} {E : List (Int × Int)} : band p (nameE f E) = band (fun v => p (f v)) E := by
  unfold nameE
  rw [band_rv]
  induction E with
  | nil => rfl
  | cons e E ih => simp only [List.map_cons, band, len, ih, lohi_name]
theorem total_name {p f : Int → Int} {E : List (Int × Int)} : total p (nameE f E) = total (fun v => p (f v)) E := by
  unfold nameE
  rw [total_rv]
  induction E with
  | nil => rfl
  | cons e E ih => simp only [List.map_cons, total, len, ih, lohi_name]
theorem cut_name {p f : Int → Int} {q : Int} {E : List (Int × Int)} : cut p q (nameE f E) = cut (fun v => p (f v)) q E := by
  unfold nameE
  rw [cut_rv]
  induction E with
  | nil => rfl
  | cons e E ih => simp only [List.map_cons, cut, len, ih, lohi_name]
theorem width_name {p f : Int → Int} {E : List (Int × Int)} : width p (nameE f E) = width (fun v => p (f v)) E := by
  unfold width cutsU
  congr 1
  exact List.map_congr_left fun q _ => cut_name
theorem pos_map {f : Int → Int} : ∀ {l : List Int} {v : Int}, (∀ x ∈ l, f x = f v → x = v) → pos (l.map f) (f v) = pos l v
  | [], v, _ => rfl
  | x :: l, v, h => by
    have ih := pos_map (l := l) (v := v) fun y hy => h y (by simp [hy])
    unfold pos at ih ⊢
    rw [List.map_cons, List.idxOf_cons, List.idxOf_cons]
    by_cases e : x = v
    · subst e
      simp
    · have e' : ¬ f x = f v := fun h' => e (h x (by simp) h')
      rw [beq_false_of_ne e, beq_false_of_ne e']
      simp only [cond_false]
      omega
/- A renaming by an order. -/
def nm (o : List Int) (v : Int) : Int := o.getD v.toNat 0
section
variable {n : Nat} {E : List (Int × Int)} {o : List Int}
theorem nm_ok (h : PermI n o) {v : Int} (h0 : 0 ≤ v) (h1 : v < n) : 0 ≤ nm o v ∧ nm o v < n := by
  have := PermI.len h
  unfold nm
  rw [getD_at (by omega)]
  exact h.2.1 _ (List.getElem_mem _)
theorem pos_nm (h : PermI n o) {v : Int} (h0 : 0 ≤ v) (h1 : v < n) : pos o (nm o v) = v := by
  have := PermI.len h
  unfold nm
  rw [pos_at h.2.2 (by omega)]
  omega
theorem nm_inj (h : PermI n o) {v w : Int} (h0 : 0 ≤ v) (h1 : v < n) (k0 : 0 ≤ w) (k1 : w < n) (e : nm o v = nm o w) : v = w := by
  rw [← pos_nm h h0 h1, ← pos_nm h k0 k1, e]
theorem nameE_ok (h : PermI n o) (hE : EdgeOK n E) : EdgeOK n (nameE (nm o) E) := fun e he => by
  obtain ⟨x, hx, rfl⟩ := List.mem_map.1 (List.mem_reverse.1 he)
  have h1 := hE x hx
  exact ⟨nm_ok h h1.2.1.1 h1.2.1.2, nm_ok h h1.1.1 h1.1.2, fun e => h1.2.2 (nm_inj h h1.1.1 h1.1.2 h1.2.1.1 h1.2.1.2 e.symm)⟩
theorem perm_nm {zs : List Int} (h : PermI n o) (hz : PermI n zs) : PermI n (zs.map (nm o)) := ⟨by rw [List.length_map]; exact hz.1, fun z hm => by
    obtain ⟨x, hx, rfl⟩ := List.mem_map.1 hm
    have := hz.2.1 x hx
    exact nm_ok h this.1 this.2, by
    rw [List.Nodup, List.pairwise_map]
    refine List.Pairwise.imp_of_mem (fun {x y} hx hy hne e => hne ?_) hz.2.2
    have h1 := hz.2.1 x hx
    have h2 := hz.2.1 y hy
    exact nm_inj h h1.1 h1.2 h2.1 h2.2 e⟩
theorem perm_pos {zs : List Int} (h : PermI n o) (hz : PermI n zs) : PermI n (zs.map (pos o)) := ⟨by rw [List.length_map]; exact hz.1, fun z hm => by
    obtain ⟨x, hx, rfl⟩ := List.mem_map.1 hm
    have h1 := hz.2.1 x hx
    have := pos_lt (perm_mem h h1.1 h1.2)
    rw [PermI.len h] at this
    exact this, by
    rw [List.Nodup, List.pairwise_map]
    refine List.Pairwise.imp_of_mem (fun {x y} hx hy hne e => hne ?_) hz.2.2
    have h1 := hz.2.1 x hx
    exact pos_inj (perm_mem h h1.1 h1.2) e⟩
theorem pos_nm_map {zs : List Int} (h : PermI n o) (hz : PermI n zs) {v : Int} (h0 : 0 ≤ v) (h1 : v < n) : pos (zs.map (nm o)) (nm o v) = pos zs v :=
  pos_map fun x hx e => by
    have := hz.2.1 x hx
    exact nm_inj h this.1 this.2 h0 h1 e
theorem pos_pos_map {zs : List Int} (h : PermI n o) (hz : PermI n zs) {v : Int} (h0 : 0 ≤ v) (h1 : v < n) : pos (zs.map (pos o)) v = pos zs (nm o v) := by
  have := pos_map (f := pos o) (l := zs) (v := nm o v) fun x hx e => by
    have h2 := hz.2.1 x hx
    exact pos_inj (perm_mem h h2.1 h2.2) e
  rw [pos_nm h h0 h1] at this
  exact this
/- A cost that looks at lengths or cuts alone has the same least value. -/
theorem name_eq {c c' : List Int → Int} {v w : Int} {xs ys : List Int} (h : PermI n o) (hE : EdgeOK n E)
    (H : ∀ zs ws, PermI n zs → PermI n ws → (∀ e ∈ E, (pos zs e.1 = pos ws (nm o e.1)) ∧ (pos zs e.2 = pos ws (nm o e.2))) → c zs = c' ws)
    (A : Least n c v xs) (B : Least n c' w ys) : v = w := by
  have a := A.low (ys.map (pos o)) (perm_pos h B.perm) trivial
  have b := B.low (xs.map (nm o)) (perm_nm h A.perm) trivial
  rw [H _ ys (perm_pos h B.perm) B.perm fun e he => ⟨pos_pos_map h B.perm (hE e he).1.1 (hE e he).1.2, pos_pos_map h B.perm (hE e he).2.1.1 (hE e he).2.1.2⟩, B.cost] at a
  rw [← H xs _ A.perm (perm_nm h A.perm) fun e he => ⟨(pos_nm_map h A.perm (hE e he).1.1 (hE e he).1.2).symm, (pos_nm_map h A.perm (hE e he).2.1.1 (hE e he).2.1.2).symm⟩, A.cost] at b
  omega
theorem lohi_eq {p p' : Int → Int} {e : Int × Int} (h : p e.1 = p' e.1 ∧ p e.2 = p' e.2) : lo p e = lo p' e ∧ hi p e = hi p' e := by simp only [lo, hi, h.1, h.2, and_self]
theorem name_band {v w : Int} {xs ys : List Int} (h : PermI n o) (hE : EdgeOK n E) (A : Least n (cBand E) v xs) (B : Least n (cBand (nameE (nm o) E)) w ys) : v = w :=
  name_eq h hE (fun zs ws _ _ hp => by
    unfold cBand
    rw [band_name]
    exact band_congr fun e he => by have := lohi_eq (p' := fun v => pos ws (nm o v)) (hp e he); simp only [len]; omega) A B
theorem name_total {v w : Int} {xs ys : List Int} (h : PermI n o) (hE : EdgeOK n E) (A : Least n (cSum E) v xs) (B : Least n (cSum (nameE (nm o) E)) w ys) : v = w :=
  name_eq h hE (fun zs ws _ _ hp => by
    unfold cSum
    rw [total_name]
    exact total_congr fun e he => by have := lohi_eq (p' := fun v => pos ws (nm o v)) (hp e he); simp only [len]; omega) A B
theorem name_width {v w : Int} {xs ys : List Int} (h : PermI n o) (hE : EdgeOK n E) (A : Least n (cCut E) v xs) (B : Least n (cCut (nameE (nm o) E)) w ys) : v = w :=
  name_eq h hE (fun zs ws _ _ hp => by
    unfold cCut
    rw [width_name]
    unfold width cutsU
    congr 1
    refine List.map_congr_left fun q _ => ?_
    exact cut_congr fun e he => by have := lohi_eq (p' := fun v => pos ws (nm o v)) (hp e he); rw [this.1, this.2]) A B
end
/- An edge more. -/
theorem more_band {n : Nat} {E : List (Int × Int)} {e : Int × Int} {v w : Int} {xs ys : List Int} (A : Least n (cBand E) v xs) (B : Least n (cBand (E ++ [e])) w ys) : v ≤ w := by
  have a := A.low ys B.perm trivial
  have b := B.cost
  unfold cBand at a b
  rw [band_app] at b
  omega
theorem more_width {n : Nat} {E : List (Int × Int)} {e : Int × Int} {v w : Int} {xs ys : List Int} (A : Least n (cCut E) v xs) (B : Least n (cCut (E ++ [e])) w ys) : v ≤ w := by
  have a := A.low ys B.perm trivial
  have b := B.cost
  unfold cCut at a b
  have := width_mono (p := pos ys) (p' := pos ys) (E := E) (E' := E ++ [e]) fun q => by
    rw [cut_app]
    have := cut_nonneg (p := pos ys) (q := q) (E := [e])
    omega
  omega
theorem more_total {n : Nat} {E : List (Int × Int)} {e : Int × Int} {v w : Int} {xs ys : List Int} (hE : EdgeOK n (E ++ [e])) (A : Least n (cSum E) v xs) (B : Least n (cSum (E ++ [e])) w ys) : v < w := by
  have a := A.low ys B.perm trivial
  have b := B.cost
  have c := len_pos B.perm hE e (by simp)
  unfold cSum at a b
  rw [total_app] at b
  simp only [total] at b
  omega
/- All edges. -/
def rowC (o : List Int) (i m : Nat) : List (Int × Int) := (List.range m).map fun j : Nat => (o.getD i 0, o.getD j 0)
def allC (o : List Int) : Nat → List (Int × Int)
  | 0 => []
  | i + 1 => allC o i ++ rowC o i i
def cnt (p : Int → Int) (q : Int) (o : List Int) : Nat → Nat
  | 0 => 0
  | i + 1 => cnt p q o i + (if p (o.getD i 0) ≤ q then 1 else 0)
theorem cnt_le {p : Int → Int} {q : Int} {o : List Int} : ∀ n, cnt p q o n ≤ n
  | 0 => Nat.le_refl _
  | n + 1 => by have := cnt_le (p := p) (q := q) (o := o) n; simp only [cnt]; split <;> omega
theorem rowC_succ {o : List Int} {i m : Nat} : rowC o i (m + 1) = rowC o i m ++ [(o.getD i 0, o.getD m 0)] := by simp [rowC, List.range_succ]
theorem cut_row {p : Int → Int} {q : Int} {o : List Int} {i : Nat} : ∀ m, cut p q (rowC o i m) = if p (o.getD i 0) ≤ q then (m : Int) - cnt p q o m else cnt p q o m
  | 0 => by simp [rowC, cut, cnt]
  | m + 1 => by
    rw [rowC_succ, cut_app, cut_row m]
    have iff : (lo p (o.getD i 0, o.getD m 0) ≤ q ∧ q < hi p (o.getD i 0, o.getD m 0)) ↔ ¬ (p (o.getD i 0) ≤ q ↔ p (o.getD m 0) ≤ q) := by simp only [lo, hi]; omega
    simp only [cut, cnt]
    by_cases h1 : p (o.getD i 0) ≤ q
    · by_cases h2 : p (o.getD m 0) ≤ q
      · have n3 := fun h => (iff.1 h) ⟨fun _ => h2, fun _ => h1⟩
        rw [if_pos h1, if_neg n3, if_pos h1, if_pos h2]; omega
      · have n3 := iff.2 fun h => h2 (h.1 h1)
        rw [if_pos h1, if_pos n3, if_pos h1, if_neg h2]; omega
    · by_cases h2 : p (o.getD m 0) ≤ q
      · have n3 := iff.2 fun h => h1 (h.2 h2)
        rw [if_neg h1, if_pos n3, if_neg h1, if_pos h2]; omega
      · have n3 := fun h => (iff.1 h) ⟨fun h => absurd h h1, fun h => absurd h h2⟩
        rw [if_neg h1, if_neg n3, if_neg h1, if_neg h2]; omega
theorem cut_all {p : Int → Int} {q : Int} {o : List Int} : ∀ n : Nat, cut p q (allC o n) = (cnt p q o n : Int) * ((n : Int) - cnt p q o n)
  | 0 => by simp [allC, cut, cnt]
  | n + 1 => by
    rw [allC, cut_app, cut_all n, cut_row]
    simp only [cnt]
    generalize cnt p q o n = c
    by_cases h1 : p (o.getD n 0) ≤ q
    · rw [if_pos h1, if_pos h1]
      simp only [Int.natCast_add, Int.natCast_one]
      rw [show (n : Int) + 1 - ((c : Int) + 1) = (n : Int) - c by omega, Int.add_mul, Int.one_mul]
    · rw [if_neg h1, if_neg h1]
      simp only [Int.natCast_add, Int.natCast_one, Nat.add_zero]
      rw [show (n : Int) + 1 - (c : Int) = ((n : Int) - c) + 1 by omega, Int.mul_add, Int.mul_one]
theorem cnt_countP {p : Int → Int} {q : Int} {o : List Int} : ∀ {n : Nat}, n ≤ o.length → cnt p q o n = (o.take n).countP (fun v => decide (p v ≤ q))
  | 0, _ => rfl
  | n + 1, h => by
    rw [cnt, cnt_countP (by omega), List.take_succ_eq_append_getElem (by omega), List.countP_append, getD_at (by omega)]
    simp [List.countP_singleton]
theorem perm_perm {n : Nat} {xs ys : List Int} (h : PermI n xs) (k : PermI n ys) : xs.Perm ys :=
  (List.perm_ext_iff_of_nodup h.2.2 k.2.2).2 fun v => ⟨fun hv => perm_mem k (h.2.1 v hv).1 (h.2.1 v hv).2, fun hv => perm_mem h (k.2.1 v hv).1 (k.2.1 v hv).2⟩
theorem cnt_self {ys : List Int} (hd : ys.Nodup) {q : Nat} : ∀ {n : Nat}, n ≤ ys.length → cnt (pos ys) q ys n = min n (q + 1)
  | 0, _ => by simp [cnt]
  | n + 1, h => by
    rw [cnt, cnt_self hd (by omega), pos_at hd (by omega)]
    split <;> omega
theorem cnt_perm {n q : Nat} {o ys : List Int} (h : PermI n o) (k : PermI n ys) : cnt (pos ys) q o n = min n (q + 1) := by
  have e := (perm_perm h k).countP_eq (fun v => decide (pos ys v ≤ (q : Int)))
  have h1 := cnt_countP (p := pos ys) (q := q) (o := o) (n := n) (by rw [PermI.len h]; omega)
  have h2 := cnt_countP (p := pos ys) (q := q) (o := ys) (n := n) (by rw [PermI.len k]; omega)
  rw [List.take_of_length_le (by rw [PermI.len h]; omega)] at h1
  rw [List.take_of_length_le (by rw [PermI.len k]; omega)] at h2
  rw [h1, e, ← h2, cnt_self k.2.2 (by rw [PermI.len k]; omega)]
theorem cuts_all {n m : Nat} {o ys : List Int} (h : PermI n o) (k : PermI n ys) : cutsU (pos ys) (allC o n) m = (List.range m).map fun q : Nat => ((min n (q + 1) : Nat) : Int) * ((n : Int) - (min n (q + 1) : Nat)) := by
  unfold cutsU
  refine List.map_congr_left fun q _ => ?_
  rw [cut_all, cnt_perm h k]
theorem mem_row {o : List Int} {i m : Nat} {e : Int × Int} : e ∈ rowC o i m ↔ ∃ j, j < m ∧ e = (o.getD i 0, o.getD j 0) := by
  simp only [rowC, List.mem_map, List.mem_range, eq_comm]
theorem mem_all {o : List Int} {e : Int × Int} : ∀ {n : Nat}, e ∈ allC o n ↔ ∃ i j, j < i ∧ i < n ∧ e = (o.getD i 0, o.getD j 0)
  | 0 => by simp [allC]
  | n + 1 => by
    rw [allC, List.mem_append, mem_all, mem_row]
    constructor
    · rintro (⟨i, j, h1, h2, rfl⟩ | ⟨j, h1, rfl⟩)
      · exact ⟨i, j, h1, by omega, rfl⟩
      · exact ⟨n, j, h1, by omega, rfl⟩
    · rintro ⟨i, j, h1, h2, rfl⟩
      by_cases e : i = n
      · subst e; exact .inr ⟨j, h1, rfl⟩
      · exact .inl ⟨i, j, h1, by omega, rfl⟩
theorem allC_ok {n : Nat} {o : List Int} (h : PermI n o) : EdgeOK n (allC o n) := fun e he => by
  obtain ⟨i, j, h1, h2, rfl⟩ := mem_all.1 he
  have hl := PermI.len h
  rw [getD_at (by omega), getD_at (by omega)]
  refine ⟨h.2.1 _ (List.getElem_mem _), h.2.1 _ (List.getElem_mem _), fun e => ?_⟩
  have a := pos_at h.2.2 (i := i) (by omega)
  have b := pos_at h.2.2 (i := j) (by omega)
  rw [getD_at (by omega)] at a b
  simp only at e
  rw [e] at a
  omega
theorem allC_len {o : List Int} : ∀ n : Nat, (allC o n).length * 2 = n * (n - 1)
  | 0 => rfl
  | n + 1 => by
    rw [allC, List.length_append, Nat.add_mul, allC_len n]
    simp only [rowC, List.length_map, List.length_range, Nat.add_sub_cancel]
    cases n with
    | zero => rfl
    | succ n => simp only [Nat.add_sub_cancel, Nat.add_mul, Nat.mul_add]; omega
theorem band_ge {p : Int → Int} : ∀ {E : List (Int × Int)} {e : Int × Int}, e ∈ E → len p e ≤ band p E
  | x :: E, e, h => by
    rcases List.mem_cons.1 h with rfl | h
    · simp only [band]; omega
    · have := band_ge (p := p) h; simp only [band]; omega
theorem all_band {n : Nat} {o ys : List Int} (h : PermI n o) (k : PermI n ys) (h0 : 0 < n) : band (pos ys) (allC o n) = n - 1 := by
  have h1 := band_lt k (allC_ok h) h0
  by_cases e : n = 1
  · have := band_nonneg (p := pos ys) (E := allC o n); omega
  have hl := PermI.len h
  have kl := PermI.len k
  have a0 := pos_at k.2.2 (i := 0) (by omega)
  have a1 := pos_at k.2.2 (i := n - 1) (by omega)
  have i0 := perm_mem h (k.2.1 _ (List.getElem_mem (show 0 < ys.length by omega))).1 (k.2.1 _ (List.getElem_mem (show 0 < ys.length by omega))).2
  have i1 := perm_mem h (k.2.1 _ (List.getElem_mem (show n - 1 < ys.length by omega))).1 (k.2.1 _ (List.getElem_mem (show n - 1 < ys.length by omega))).2
  rw [← getD_at] at i0 i1
  obtain ⟨x, hx, ex⟩ := List.getElem_of_mem i0
  obtain ⟨y, hy, ey⟩ := List.getElem_of_mem i1
  rw [← getD_at] at ex ey
  have hne : x ≠ y := fun e => by
    subst e
    rw [← ex] at a0
    rw [← ey] at a1
    omega
  rw [← ex] at a0
  rw [← ey] at a1
  rcases Nat.lt_or_gt_of_ne hne with hlt | hlt
  · have := band_ge (p := pos ys) (mem_all.2 ⟨y, x, hlt, by omega, rfl⟩ : _ ∈ allC o n)
    simp only [len, lo, hi, a0, a1] at this
    omega
  · have := band_ge (p := pos ys) (mem_all.2 ⟨x, y, hlt, by omega, rfl⟩ : _ ∈ allC o n)
    simp only [len, lo, hi, a0, a1] at this
    omega
theorem small {n : Nat} (h0 : 0 < n) (h8 : n ≤ 8) : n = 1 ∨ n = 2 ∨ n = 3 ∨ n = 4 ∨ n = 5 ∨ n = 6 ∨ n = 7 ∨ n = 8 := by omega
theorem all_width {n : Nat} {o ys : List Int} (h : PermI n o) (k : PermI n ys) (h0 : 0 < n) (h8 : n ≤ 8) : width (pos ys) (allC o n) = ((n * n / 4 : Nat) : Int) := by
  unfold width
  rw [cuts_all h k]
  rcases small h0 h8 with rfl | rfl | rfl | rfl | rfl | rfl | rfl | rfl <;> decide
theorem all_total {n : Nat} {o ys : List Int} (h : PermI n o) (k : PermI n ys) (h0 : 0 < n) (h8 : n ≤ 8) : total (pos ys) (allC o n) = (((n + 1) * n * (n - 1) / 6 : Nat) : Int) := by
  rw [← total_cuts k (allC_ok h), cuts_all h k]
  rcases small h0 h8 with rfl | rfl | rfl | rfl | rfl | rfl | rfl | rfl <;> decide
end Go.Ro
