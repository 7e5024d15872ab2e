/- Sorting in place: by insertion, by symmetric merging. -/
import Derived.Test.YtgpdimkgfhgffaaS16
set_option linter.unusedSimpArgs false
set_option linter.unusedVariables false

namespace Go.Sh


/-- z comes before w: by a key, and then by itself. -/
def Bef (K : Int → Int) (z w : Int) : Prop := K z < K w ∨ (K z = K w ∧ z < w)
theorem Bef.trans {K : Int → Int} {x y z : Int} (h : Bef K x y) (h' : Bef K y z) : Bef K x z := by
  unfold Bef at *
  omega
theorem Bef.irrefl {K : Int → Int} {x : Int} (h : Bef K x x) : False := by
  unfold Bef at h
  omega
/-- What a comparison of keys says of numbers of which one is greater. -/
theorem bef_lt {K : Int → Int} {x y : Int} (h : x < y) : K y < K x ↔ Bef K y x := by unfold Bef; omega
theorem bef_ge {K : Int → Int} {x y : Int} (h : x < y) : ¬ K y < K x ↔ Bef K x y := by unfold Bef; omega

abbrev gz (zs : List Int) (i : Nat) : Int := zs.getD i 0
def Srt (K : Int → Int) (zs : List Int) (a b : Nat) : Prop := ∀ i j, a ≤ i → i < j → j < b → Bef K (gz zs i) (gz zs j)
structure Shuf (a b : Nat) (zs zs' : List Int) : Prop where
  len : zs'.length = zs.length
  out : ∀ i, i < a ∨ b ≤ i → gz zs' i = gz zs i
  mem : ∀ i, a ≤ i → i < b → ∃ k, a ≤ k ∧ k < b ∧ gz zs' i = gz zs k
theorem Shuf.refl (a b : Nat) (zs : List Int) : Shuf a b zs zs := ⟨rfl, fun _ _ => rfl, fun i h1 h2 => ⟨i, h1, h2, rfl⟩⟩
theorem Shuf.trans {a b : Nat} {x y z : List Int} (h : Shuf a b x y) (h' : Shuf a b y z) : Shuf a b x z :=
  ⟨h'.len.trans h.len, fun i hi => (h'.out i hi).trans (h.out i hi), fun i h1 h2 => by
    obtain ⟨k, k1, k2, e⟩ := h'.mem i h1 h2
    obtain ⟨m, m1, m2, e2⟩ := h.mem k k1 k2
    exact ⟨m, m1, m2, e.trans e2⟩⟩
theorem Shuf.wide {a b a' b' : Nat} {x y : List Int} (h : Shuf a b x y) (h1 : a' ≤ a) (h2 : b ≤ b') : Shuf a' b' x y :=
  ⟨h.len, fun i hi => h.out i (by omega), fun i k1 k2 => by
    by_cases e : a ≤ i ∧ i < b
    · obtain ⟨k, k3, k4, e2⟩ := h.mem i e.1 e.2
      exact ⟨k, by omega, by omega, e2⟩
    · exact ⟨i, k1, k2, h.out i (by omega)⟩⟩
theorem Shuf.inside {a b c d : Nat} {x y : List Int} (h : Shuf a b x y) (h1 : c ≤ a) (h2 : b ≤ d) {i : Nat} (hi : c ≤ i) (hd : i < d) : ∃ k, c ≤ k ∧ k < d ∧ gz y i = gz x k := (h.wide h1 h2).mem i hi hd

/- A swap. -/
def sw (zs : List Int) (i j : Nat) : List Int := (zs.set i (gz zs j)).set j (gz zs i)
theorem sw_len (zs : List Int) (i j : Nat) : (sw zs i j).length = zs.length := by simp [sw]
theorem gz_set {zs : List Int} {i x : Nat} {v : Int} (hi : i < zs.length) : gz (zs.set i v) x = if x = i then v else gz zs x := by
  simp only [gz, List.getD_eq_getElem?_getD, List.getElem?_set]
  by_cases e : i = x
  · subst e; simp [hi]
  · simp [e, Ne.symm e]
theorem gz_sw {zs : List Int} {i j x : Nat} (hi : i < zs.length) (hj : j < zs.length) : gz (sw zs i j) x = if x = j then gz zs i else if x = i then gz zs j else gz zs x := by
  rw [sw, gz_set (by simpa using hj), gz_set hi]

/- Swapping two blocks. -/
def swr (zs : List Int) (A B : Nat) : Nat → List Int
  | 0 => zs
  | n + 1 => sw (swr zs A B n) (A + n) (B + n)
theorem swr_len (zs : List Int) (A B : Nat) : ∀ n, (swr zs A B n).length = zs.length
  | 0 => rfl
  | n + 1 => by rw [swr, sw_len, swr_len zs A B n]
theorem gz_swr {zs : List Int} {A B y : Nat} : ∀ {n : Nat}, A + n ≤ B → B + n ≤ zs.length →
    gz (swr zs A B n) y = if A ≤ y ∧ y < A + n then gz zs (y - A + B) else if B ≤ y ∧ y < B + n then gz zs (y - B + A) else gz zs y
  | 0, _, _ => by rw [if_neg (by omega), if_neg (by omega)]; rfl
  | n + 1, h1, h2 => by
    have hl := swr_len zs A B n
    rw [swr, gz_sw (by omega) (by omega), gz_swr (by omega) (by omega), gz_swr (by omega) (by omega), gz_swr (by omega) (by omega)]
    by_cases e1 : y = B + n
    · subst e1
      rw [if_pos rfl, if_neg (by omega), if_neg (by omega), if_neg (by omega), if_pos (by omega)]
      congr 1; omega
    · rw [if_neg e1]
      by_cases e2 : y = A + n
      · subst e2
        rw [if_pos rfl, if_neg (by omega), if_neg (by omega), if_pos (by omega)]
        congr 1; omega
      · rw [if_neg e2]
        by_cases e3 : A ≤ y ∧ y < A + n
        · rw [if_pos e3, if_pos (by omega)]
        · rw [if_neg e3, if_neg (c := A ≤ y ∧ y < A + (n + 1)) (by omega)]
          by_cases e4 : B ≤ y ∧ y < B + n
          · rw [if_pos e4, if_pos (by omega)]
          · rw [if_neg e4, if_neg (by omega)]

/- Rotating. -/
def rotT (zs : List Int) (a m b y : Nat) : Int := if y < a ∨ b ≤ y then gz zs y else if y < a + (b - m) then gz zs (y - a + m) else gz zs (y - (b - m))
structure Rot (zs : List Int) (a m b : Nat) (cur : List Int) (i j : Nat) : Prop where
  len : cur.length = zs.length
  i1 : 1 ≤ i ∧ i ≤ m - a
  j1 : 1 ≤ j ∧ j ≤ b - m
  out : ∀ y, y < m - i ∨ m + j ≤ y → gz cur y = rotT zs a m b y
  right : ∀ x, x < j → rotT zs a m b (m - i + x) = gz cur (m + x)
  left : ∀ x, x < i → rotT zs a m b (m - i + j + x) = gz cur (m - i + x)
theorem Rot.start {zs : List Int} {a m b : Nat} (h1 : a < m) (h2 : m < b) (h3 : b ≤ zs.length) : Rot zs a m b zs (m - a) (b - m) :=
  ⟨rfl, by omega, by omega, fun y hy => by rw [rotT, if_pos (by omega)],
   fun x hx => by rw [rotT, if_neg (by omega), if_pos (by omega)]; congr 1; omega,
   fun x hx => by rw [rotT, if_neg (by omega), if_neg (by omega)]; congr 1; omega⟩
theorem Rot.gt {zs cur : List Int} {a m b i j : Nat} (R : Rot zs a m b cur i j) (hm : a < m ∧ m < b ∧ b ≤ zs.length) (h : j < i) : Rot zs a m b (swr cur (m - i) m j) (i - j) j := by
  obtain ⟨l, i1, j1, o, r, f⟩ := R
  refine ⟨by rw [swr_len]; exact l, by omega, j1, fun y hy => ?_, fun x hx => ?_, fun x hx => ?_⟩
  · rw [gz_swr (by omega) (by omega)]
    by_cases e : m - i ≤ y ∧ y < m - i + j
    · rw [if_pos e]
      have := r (y - (m - i)) (by omega)
      rw [show m - i + (y - (m - i)) = y by omega] at this
      rw [this]; congr 1; omega
    · rw [if_neg e, if_neg (by omega)]
      exact o y (by omega)
  · rw [gz_swr (by omega) (by omega), if_neg (by omega), if_pos (by omega)]
    have := f x (by omega)
    rw [show m - (i - j) + x = m - i + j + x by omega, this]; congr 1; omega
  · rw [gz_swr (by omega) (by omega), if_neg (by omega), if_neg (by omega)]
    have := f (j + x) (by omega)
    rw [show m - (i - j) + j + x = m - i + j + (j + x) by omega, this]; congr 1; omega
theorem Rot.lt {zs cur : List Int} {a m b i j : Nat} (R : Rot zs a m b cur i j) (hm : a < m ∧ m < b ∧ b ≤ zs.length) (h : i < j) : Rot zs a m b (swr cur (m - i) (m + j - i) i) i (j - i) := by
  obtain ⟨l, i1, j1, o, r, f⟩ := R
  refine ⟨by rw [swr_len]; exact l, i1, by omega, fun y hy => ?_, fun x hx => ?_, fun x hx => ?_⟩
  · rw [gz_swr (by omega) (by omega), if_neg (by omega)]
    by_cases e : m + j - i ≤ y ∧ y < m + j - i + i
    · rw [if_pos e]
      have := f (y - (m + j - i)) (by omega)
      rw [show m - i + j + (y - (m + j - i)) = y by omega] at this
      rw [this]; congr 1; omega
    · rw [if_neg e]
      exact o y (by omega)
  · rw [gz_swr (by omega) (by omega), if_neg (by omega), if_neg (by omega)]
    exact r x (by omega)
  · rw [gz_swr (by omega) (by omega), if_pos (by omega)]
    have := r (j - i + x) (by omega)
    rw [show m - i + (j - i) + x = m - i + (j - i + x) by omega, this]; congr 1; omega
theorem Rot.fin {zs cur : List Int} {a m b i : Nat} (R : Rot zs a m b cur i i) (hm : a < m ∧ m < b ∧ b ≤ zs.length) : ∀ y, gz (swr cur (m - i) m i) y = rotT zs a m b y := fun y => by
  obtain ⟨l, i1, j1, o, r, f⟩ := R
  rw [gz_swr (by omega) (by omega)]
  by_cases e : m - i ≤ y ∧ y < m - i + i
  · rw [if_pos e]
    have := r (y - (m - i)) (by omega)
    rw [show m - i + (y - (m - i)) = y by omega] at this
    rw [this]; congr 1; omega
  · rw [if_neg e]
    by_cases e2 : m ≤ y ∧ y < m + i
    · rw [if_pos e2]
      have := f (y - m) (by omega)
      rw [show m - i + i + (y - m) = y by omega] at this
      rw [this]; congr 1; omega
    · rw [if_neg e2]
      exact o y (by omega)

/- Moving one number down to its place. -/
def downT (zs : List Int) (j i y : Nat) : Int := if j < y ∧ y ≤ i then gz zs (y - 1) else if y = j then gz zs i else gz zs y
theorem down_step {zs cur : List Int} {i j : Nat} (h0 : 0 < j) (hj : j ≤ i) (hi : i < zs.length) (hl : cur.length = zs.length) (h : ∀ y, gz cur y = downT zs j i y) : ∀ y, gz (sw cur j (j - 1)) y = downT zs (j - 1) i y := fun y => by
  rw [gz_sw (by omega) (by omega), h, h, h]
  unfold downT
  by_cases e1 : y = j - 1
  · rw [if_pos e1, if_neg (by omega), if_pos rfl, if_neg (by omega), if_pos e1]
  · rw [if_neg e1]
    by_cases e2 : y = j
    · rw [if_pos e2, if_neg (by omega), if_neg (by omega), if_pos (by omega), e2]
    · rw [if_neg e2]
      by_cases e3 : j < y ∧ y ≤ i
      · rw [if_pos e3, if_pos (by omega)]
      · rw [if_neg e3, if_neg e2, if_neg (by omega), if_neg e1]
/- .. and up. -/
def upT (zs : List Int) (a k y : Nat) : Int := if a ≤ y ∧ y < k then gz zs (y + 1) else if y = k then gz zs a else gz zs y
theorem up_step {zs cur : List Int} {a k : Nat} (hk : a ≤ k) (hi : k + 1 < zs.length) (hl : cur.length = zs.length) (h : ∀ y, gz cur y = upT zs a k y) : ∀ y, gz (sw cur k (k + 1)) y = upT zs a (k + 1) y := fun y => by
  rw [gz_sw (by omega) (by omega), h, h, h]
  unfold upT
  by_cases e1 : y = k + 1
  · rw [if_pos e1, if_neg (by omega), if_pos rfl, if_neg (by omega), if_pos e1]
  · rw [if_neg e1]
    by_cases e2 : y = k
    · rw [if_pos e2, if_neg (by omega), if_neg (by omega), if_pos (by omega), e2]
    · rw [if_neg e2]
      by_cases e3 : a ≤ y ∧ y < k
      · rw [if_pos e3, if_pos (by omega)]
      · rw [if_neg e3, if_neg e2, if_neg (by omega), if_neg e1]

/-- The numbers rise. -/
def Inc (zs : List Int) (a b : Nat) : Prop := ∀ i j, a ≤ i → i < j → j < b → gz zs i < gz zs j

/- Insertion: the numbers up to i are sorted; the i-th has come down to j. -/
theorem ins_end {K : Int → Int} {zs cur cur2 : List Int} {a i j : Nat} (ha : a ≤ j) (hj : j ≤ i) (hl : cur2.length = cur.length) (S : Shuf a i zs cur) (T : Srt K cur a i) (h : ∀ y, gz cur2 y = downT cur j i y)
    (h1 : ∀ x, j ≤ x → x < i → Bef K (gz cur i) (gz cur x)) (h2 : a < j → Bef K (gz cur (j - 1)) (gz cur i)) : Shuf a (i + 1) zs cur2 ∧ Srt K cur2 a (i + 1) := by
  constructor
  · refine ⟨hl.trans S.len, fun y hy => ?_, fun y k1 k2 => ?_⟩
    · rw [h, downT, if_neg (by omega), if_neg (by omega)]
      exact S.out y (by omega)
    · rw [h, downT]
      split
      · obtain ⟨k, q1, q2, e⟩ := S.mem (y - 1) (by omega) (by omega)
        exact ⟨k, q1, by omega, e⟩
      · split
        · exact ⟨i, by omega, by omega, S.out i (by omega)⟩
        · obtain ⟨k, q1, q2, e⟩ := (S.wide (Nat.le_refl a) (Nat.le_succ i)).mem y k1 (by omega)
          exact ⟨k, q1, q2, e⟩
  · intro x y k1 k2 k3
    rw [h, h, downT, downT]
    by_cases e1 : j < x ∧ x ≤ i
    · rw [if_pos e1, if_pos (by omega)]
      exact T _ _ (by omega) (by omega) (by omega)
    · rw [if_neg e1]
      by_cases e2 : x = j
      · rw [if_pos e2, if_pos (by omega)]
        exact h1 _ (by omega) (by omega)
      · rw [if_neg e2]
        by_cases e3 : j < y ∧ y ≤ i
        · rw [if_pos e3]
          by_cases e4 : x = y - 1
          · omega
          · exact T _ _ (by omega) (by omega) (by omega)
        · rw [if_neg e3]
          by_cases e4 : y = j
          · rw [if_pos e4]
            have := h2 (by omega)
            by_cases e5 : x = j - 1
            · rw [e5]; exact this
            · exact (T x (j - 1) (by omega) (by omega) (by omega)).trans this
          · rw [if_neg e4]
            exact T _ _ (by omega) (by omega) (by omega)

/- Merging one number before the others. -/
theorem one_left {K : Int → Int} {zs cur : List Int} {a i b : Nat} (hb : b ≤ zs.length) (hi : a < i ∧ i ≤ b) (hl : cur.length = zs.length) (T : Srt K zs (a + 1) b)
    (h1 : ∀ x, a < x → x < i → Bef K (gz zs x) (gz zs a)) (h2 : ∀ x, i ≤ x → x < b → Bef K (gz zs a) (gz zs x)) (h : ∀ y, gz cur y = upT zs a (i - 1) y) : Shuf a b zs cur ∧ Srt K cur a b := by
  constructor
  · refine ⟨hl, fun y hy => ?_, fun y k1 k2 => ?_⟩
    · rw [h, upT, if_neg (by omega), if_neg (by omega)]
    · rw [h, upT]
      split
      · exact ⟨y + 1, by omega, by omega, rfl⟩
      · split
        · exact ⟨a, by omega, by omega, rfl⟩
        · exact ⟨y, k1, k2, rfl⟩
  · intro x y k1 k2 k3
    rw [h, h, upT, upT]
    by_cases e1 : a ≤ x ∧ x < i - 1
    · rw [if_pos e1]
      by_cases e2 : a ≤ y ∧ y < i - 1
      · rw [if_pos e2]; exact T _ _ (by omega) (by omega) (by omega)
      · rw [if_neg e2]
        by_cases e3 : y = i - 1
        · rw [if_pos e3]; exact h1 _ (by omega) (by omega)
        · rw [if_neg e3]; exact T _ _ (by omega) (by omega) (by omega)
    · rw [if_neg e1]
      rw [if_neg (c := a ≤ y ∧ y < i - 1) (by omega), if_neg (c := y = i - 1) (by omega)]
      by_cases e3 : x = i - 1
      · rw [if_pos e3]; exact h2 _ (by omega) (by omega)
      · rw [if_neg e3]; exact T _ _ (by omega) (by omega) (by omega)
/- .. behind the others. -/
theorem one_right {K : Int → Int} {zs cur : List Int} {a i m : Nat} (hb : m < zs.length) (hi : a ≤ i ∧ i ≤ m) (hl : cur.length = zs.length) (T : Srt K zs a m)
    (h1 : ∀ x, a ≤ x → x < i → Bef K (gz zs x) (gz zs m)) (h2 : ∀ x, i ≤ x → x < m → Bef K (gz zs m) (gz zs x)) (h : ∀ y, gz cur y = downT zs i m y) : Shuf a (m + 1) zs cur ∧ Srt K cur a (m + 1) :=
  ins_end hi.1 hi.2 hl (Shuf.refl a m zs) T h h2 fun hh => h1 _ (by omega) (by omega)

/- The symmetric search, and what the merge of both parts gives. -/
theorem sym_left {K : Int → Int} {zs zs1 : List Int} {a m b s e mid : Nat} (h1 : ∀ y, gz zs1 y = rotT zs s m e y) (hs : a ≤ s ∧ s ≤ m ∧ m ≤ e ∧ e ≤ b) (he : s + e = mid + m) (U : Srt K zs a m) (V : Srt K zs m b) :
    Srt K zs1 a s ∧ Srt K zs1 s mid ∧ Srt K zs1 mid e ∧ Srt K zs1 e b := by
  refine ⟨fun x y k1 k2 k3 => ?_, fun x y k1 k2 k3 => ?_, fun x y k1 k2 k3 => ?_, fun x y k1 k2 k3 => ?_⟩
  · rw [h1, h1, rotT, rotT, if_pos (by omega), if_pos (by omega)]
    exact U _ _ (by omega) (by omega) (by omega)
  · rw [h1, h1, rotT, rotT, if_neg (by omega), if_pos (by omega), if_neg (by omega), if_pos (by omega)]
    exact V _ _ (by omega) (by omega) (by omega)
  · rw [h1, h1, rotT, rotT, if_neg (by omega), if_neg (by omega), if_neg (by omega), if_neg (by omega)]
    exact U _ _ (by omega) (by omega) (by omega)
  · rw [h1, h1, rotT, rotT, if_pos (by omega), if_pos (by omega)]
    exact V _ _ (by omega) (by omega) (by omega)
theorem sym_cross {K : Int → Int} {zs zs1 : List Int} {a m b s e mid : Nat} (h1 : ∀ y, gz zs1 y = rotT zs s m e y) (hs : a ≤ s ∧ s ≤ m ∧ m ≤ e ∧ e ≤ b) (he : s + e = mid + m) (U : Srt K zs a m) (V : Srt K zs m b)
    (c1 : ∀ x y, a ≤ x → x < s → e ≤ y → y < b → Bef K (gz zs x) (gz zs y)) (c2 : ∀ x y, s ≤ x → x < m → m ≤ y → y < e → Bef K (gz zs y) (gz zs x)) :
    ∀ x y, a ≤ x → x < mid → mid ≤ y → y < b → Bef K (gz zs1 x) (gz zs1 y) := fun x y k1 k2 k3 k4 => by
  rw [h1, h1, rotT, rotT]
  by_cases e1 : x < s
  · rw [if_pos (.inl e1)]
    by_cases e2 : e ≤ y
    · rw [if_pos (.inr e2)]; exact c1 _ _ k1 e1 e2 k4
    · rw [if_neg (by omega), if_neg (by omega)]; exact U _ _ k1 (by omega) (by omega)
  · rw [if_neg (by omega), if_pos (by omega)]
    by_cases e2 : e ≤ y
    · rw [if_pos (.inr e2)]; exact V _ _ (by omega) (by omega) k4
    · rw [if_neg (by omega), if_neg (by omega)]; exact c2 _ _ (by omega) (by omega) (by omega) (by omega)
theorem sym_shuf {zs zs1 : List Int} {a m b s e : Nat} (hl : zs1.length = zs.length) (h1 : ∀ y, gz zs1 y = rotT zs s m e y) (hs : a ≤ s ∧ s ≤ m ∧ m ≤ e ∧ e ≤ b) : Shuf a b zs zs1 :=
  ⟨hl, fun y hy => by rw [h1, rotT, if_pos (by omega)], fun y k1 k2 => by
    rw [h1, rotT]
    split
    · exact ⟨y, k1, k2, rfl⟩
    · split
      · exact ⟨_, by omega, by omega, rfl⟩
      · exact ⟨_, by omega, by omega, rfl⟩⟩
/-- If both halves are sorted then, so is the whole. -/
theorem sym_end {K : Int → Int} {zs zs1 zs2 zs3 : List Int} {a mid b : Nat} (hm : a ≤ mid ∧ mid ≤ b) (S : Shuf a b zs zs1) (X : ∀ x y, a ≤ x → x < mid → mid ≤ y → y < b → Bef K (gz zs1 x) (gz zs1 y))
    (S1 : Shuf a mid zs1 zs2) (T1 : Srt K zs2 a mid) (S2 : Shuf mid b zs2 zs3) (T2 : Srt K zs3 mid b) : Shuf a b zs zs3 ∧ Srt K zs3 a b := by
  refine ⟨S.trans ((S1.wide (Nat.le_refl _) hm.2).trans (S2.wide hm.1 (Nat.le_refl _))), fun x y k1 k2 k3 => ?_⟩
  by_cases e1 : mid ≤ x
  · exact T2 _ _ e1 k2 k3
  · rw [S2.out x (by omega)]
    by_cases e2 : y < mid
    · rw [S2.out y (by omega)]
      exact T1 _ _ k1 k2 e2
    · obtain ⟨k, q1, q2, ek⟩ := S1.mem x k1 (by omega)
      obtain ⟨j, p1, p2, ej⟩ := S2.mem y (by omega) k3
      rw [ek, ej, S1.out j (by omega)]
      exact X _ _ q1 q2 p1 p2

end Go.Sh

