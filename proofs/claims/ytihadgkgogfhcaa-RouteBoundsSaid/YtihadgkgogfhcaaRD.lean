/- Walks in graphs: the shortest ones by Floyd and Warshall, and by rounds. -/
import Derived.Test.YtihadgkgogfhcaaRC
set_option linter.unusedSimpArgs false
set_option linter.unusedVariables false
namespace Go.Ro
open Go.Pa
def adjE (E : List (Int × Int)) (a b : Nat) : Prop := ((a : Int), (b : Int)) ∈ E ∨ ((b : Int), (a : Int)) ∈ E
instance (E : List (Int × Int)) (a b : Nat) : Decidable (adjE E a b) := inferInstanceAs (Decidable (_ ∨ _))
theorem adjE.symm {E : List (Int × Int)} {a b : Nat} (h : adjE E a b) : adjE E b a := h.elim .inr .inl
/- A walk whose inner vertices are less than k. -/
inductive Wk (E : List (Int × Int)) (k : Nat) : Nat → Nat → Nat → Prop
  | nil (a : Nat) : Wk E k a a 0
  | one {a b : Nat} (h : adjE E a b) : Wk E k a b 1
  | comp {a b c l m : Nat} (h : Wk E k a c l) (hc : c < k) (h' : Wk E k c b m) : Wk E k a b (l + m)
theorem Wk.succ {E : List (Int × Int)} {k : Nat} {a b l : Nat} (h : Wk E k a b l) : Wk E (k + 1) a b l := by
  induction h with
  | nil a => exact .nil a
  | one h => exact .one h
  | comp _ hc _ ih ih' => exact .comp ih (by omega) ih'
theorem Wk.split {E : List (Int × Int)} {k : Nat} {a b l : Nat} (h : Wk E (k + 1) a b l) : Wk E k a b l ∨ ∃ x y, Wk E k a k x ∧ Wk E k k b y ∧ x + y ≤ l := by
  induction h with
  | nil a => exact .inl (.nil a)
  | one h => exact .inl (.one h)
  | @comp a b c l m _ hc _ ih ih' =>
    by_cases ec : c = k
    · subst ec
      right
      have h1 : ∃ x, Wk E c a c x ∧ x ≤ l := by
        rcases ih with h | ⟨x, y, h1, h2, h3⟩
        · exact ⟨l, h, Nat.le_refl _⟩
        · exact ⟨x, h1, by omega⟩
      have h2 : ∃ y, Wk E c c b y ∧ y ≤ m := by
        rcases ih' with h | ⟨x, y, h1, h2, h3⟩
        · exact ⟨m, h, Nat.le_refl _⟩
        · exact ⟨y, h2, by omega⟩
      obtain ⟨x, hx, lx⟩ := h1
      obtain ⟨y, hy, ly⟩ := h2
      exact ⟨x, y, hx, hy, by omega⟩
    · have hck : c < k := by omega
      rcases ih with h | ⟨x, y, h1, h2, h3⟩
      · rcases ih' with h' | ⟨x', y', h1', h2', h3'⟩
        · exact .inl (.comp h hck h')
        · exact .inr ⟨l + x', y', .comp h hck h1', h2', by omega⟩
      · rcases ih' with h' | ⟨x', y', h1', h2', h3'⟩
        · exact .inr ⟨x, y + m, h1, .comp h2 hck h', by omega⟩
        · exact .inr ⟨x, y', h1, h2', by omega⟩
theorem Wk.zero {E : List (Int × Int)} {a b l : Nat} (h : Wk E 0 a b l) : (a = b ∧ l = 0) ∨ (adjE E a b ∧ l = 1) := by
  cases h with
  | nil => exact .inl ⟨rfl, rfl⟩
  | one h => exact .inr ⟨h, rfl⟩
  | comp _ hc _ => omega
/- Walks, an edge at a time. -/
inductive Wa (E : List (Int × Int)) (a : Nat) : Nat → Nat → Prop
  | nil : Wa E a a 0
  | step {b c l : Nat} (h : Wa E a b l) (e : adjE E b c) : Wa E a c (l + 1)
theorem Wa.append {E : List (Int × Int)} {a b c l m : Nat} (h : Wa E a b l) (h' : Wa E b c m) : Wa E a c (l + m) := by
  induction h' with
  | nil => exact h
  | step _ e ih => exact .step ih e
theorem Wk.wa {E : List (Int × Int)} {k a b l : Nat} (h : Wk E k a b l) : Wa E a b l := by
  induction h with
  | nil a => exact .nil
  | one h => exact .step .nil h
  | comp _ _ _ ih ih' => exact ih.append ih'
theorem adj_lt {n : Nat} {E : List (Int × Int)} (hE : EdgeOK n E) {a b : Nat} (h : adjE E a b) : a < n ∧ b < n ∧ a ≠ b := by
  rcases h with h | h <;> have := hE _ h <;> simp only at this <;> omega
theorem Wa.lt {n : Nat} {E : List (Int × Int)} (hE : EdgeOK n E) {a b l : Nat} (ha : a < n) (h : Wa E a b l) : b < n := by
  cases h with
  | nil => exact ha
  | step _ e => exact (adj_lt hE e).2.1
theorem Wa.wk {n : Nat} {E : List (Int × Int)} (hE : EdgeOK n E) {a b l : Nat} (ha : a < n) (h : Wa E a b l) : Wk E n a b l := by
  induction h with
  | nil => exact .nil a
  | step h e ih => exact .comp ih (h.lt hE ha) (.one e)
/- A shortest walk. -/
def Exact (E : List (Int × Int)) (a b l : Nat) : Prop := Wa E a b l ∧ ∀ m, m < l → ¬ Wa E a b m
theorem Wa.exact {E : List (Int × Int)} {a b : Nat} : ∀ {l : Nat}, Wa E a b l → ∃ m, m ≤ l ∧ Exact E a b m := fun {l} => by
  induction l using Nat.strongRecOn with
  | ind l ih =>
    intro h
    by_cases hs : ∃ m, m < l ∧ Wa E a b m
    · obtain ⟨m, hm, hw⟩ := hs
      obtain ⟨j, hj, he⟩ := ih m hm hw
      exact ⟨j, by omega, he⟩
    · exact ⟨l, Nat.le_refl _, h, fun m hm hw => hs ⟨m, hm, hw⟩⟩
theorem Exact.back {E : List (Int × Int)} {a b l : Nat} (h : Exact E a b (l + 1)) : ∃ c, Exact E a c l ∧ adjE E c b := by
  obtain ⟨h, hm⟩ := h
  cases h with
  | step h e => exact ⟨_, ⟨h, fun m hl hw => hm (m + 1) (by omega) (.step hw e)⟩, e⟩
theorem Exact.uniq {E : List (Int × Int)} {a b l m : Nat} (h : Exact E a b l) (h' : Exact E a b m) : l = m := by
  rcases Nat.lt_trichotomy l m with hlt | rfl | hlt
  · exact absurd h.1 (h'.2 _ hlt)
  · rfl
  · exact absurd h'.1 (h.2 _ hlt)
theorem Exact.list {E : List (Int × Int)} {a : Nat} : ∀ {l b : Nat}, Exact E a b l → ∃ L : List Nat, L.length = l + 1 ∧ L.Nodup ∧ ∀ x ∈ L, ∃ m, m ≤ l ∧ Exact E a x m
  | 0, b, h => ⟨[b], rfl, by simp, fun x hx => ⟨0, Nat.le_refl _, by rw [List.mem_singleton.1 hx]; exact h⟩⟩
  | l + 1, b, h => by
    obtain ⟨c, hc, _⟩ := h.back
    obtain ⟨L, h1, h2, h3⟩ := hc.list
    refine ⟨b :: L, by simp [h1], List.nodup_cons.2 ⟨fun hb => ?_, h2⟩, fun x hx => ?_⟩
    · obtain ⟨m, hm, he⟩ := h3 b hb
      have := he.uniq h
      omega
    · rcases List.mem_cons.1 hx with rfl | hx
      · exact ⟨l + 1, Nat.le_refl _, h⟩
      · obtain ⟨m, hm, he⟩ := h3 x hx
        exact ⟨m, by omega, he⟩
theorem nodup_le : ∀ (n : Nat) (L : List Nat), L.Nodup → (∀ x ∈ L, x < n) → L.length ≤ n
  | 0, L, _, h => by
    cases L with
    | nil => simp
    | cons x L => have := h x (by simp); omega
  | n + 1, L, hd, h => by
    have h2 := nodup_le n (L.erase n) (hd.erase _) fun z hz => by
      have h3 := h z (List.mem_of_mem_erase hz)
      have h4 : z ≠ n := fun e => by
        rw [e] at hz
        exact absurd rfl ((hd.mem_erase_iff).1 hz).1
      omega
    have := List.length_erase (a := n) (l := L)
    split at this <;> omega
theorem Exact.le {n : Nat} {E : List (Int × Int)} (hE : EdgeOK n E) {a b l : Nat} (ha : a < n) (h : Exact E a b l) : l + 1 ≤ n := by
  obtain ⟨L, h1, h2, h3⟩ := h.list
  rw [← h1]
  exact nodup_le n L h2 fun x hx => by
    obtain ⟨m, _, he⟩ := h3 x hx
    exact he.1.lt hE ha
/- The matrix of distances: 8 where there is none. -/
structure Dist (E : List (Int × Int)) (n k : Nat) (M : Nat → Nat → Int) : Prop where
  nonneg : ∀ a b, 0 ≤ M a b
  le : ∀ a b, M a b ≤ 8
  sound : ∀ a b, a < n → b < n → M a b < 8 → ∃ l : Nat, M a b = l ∧ Wa E a b l
  full : ∀ a b l, a < n → b < n → Wk E k a b l → M a b ≤ l
def stepM (M : Nat → Nat → Int) (k a b : Nat) : Nat → Nat → Int := fun x y => if x = a ∧ y = b then min (M a b) (M a k + M k b) else M x y
/- While the vertex k is let on the walks: the places before (a, b) are done. -/
structure Mid (E : List (Int × Int)) (n k : Nat) (M0 M : Nat → Nat → Int) (D : Nat → Nat → Prop) : Prop where
  nonneg : ∀ a b, 0 ≤ M a b
  less : ∀ a b, M a b ≤ M0 a b
  sound : ∀ a b, a < n → b < n → M a b < 8 → ∃ l : Nat, M a b = l ∧ Wa E a b l
  done : ∀ a b, D a b → M a b ≤ M0 a k + M0 k b
theorem Dist.mid {E : List (Int × Int)} {n k : Nat} {M : Nat → Nat → Int} (H : Dist E n k M) : Mid E n k M M fun _ _ => False := ⟨H.nonneg, fun _ _ => Int.le_refl _, H.sound, fun _ _ h => h.elim⟩
theorem Mid.step {E : List (Int × Int)} {n k : Nat} {M0 M : Nat → Nat → Int} {D : Nat → Nat → Prop} (H : Mid E n k M0 M D) {a b : Nat} (ha : a < n) (hb : b < n) (hk : k < n) : Mid E n k M0 (stepM M k a b) fun x y => D x y ∨ (x = a ∧ y = b) := by
  have g1 := H.nonneg a b
  have g2 := H.nonneg a k
  have g3 := H.nonneg k b
  refine ⟨fun x y => ?_, fun x y => ?_, fun x y hx hy => ?_, fun x y h => ?_⟩
  · unfold stepM
    split
    · omega
    · exact H.nonneg x y
  · unfold stepM
    split
    · rename_i e
      obtain ⟨rfl, rfl⟩ := e
      have := H.less x y
      omega
    · exact H.less x y
  · unfold stepM
    split
    · rename_i e
      obtain ⟨rfl, rfl⟩ := e
      intro h
      by_cases hle : M x y ≤ M x k + M k y
      · rw [Int.min_eq_left hle] at h ⊢
        exact H.sound x y hx hy h
      · rw [Int.min_eq_right (by omega)] at h ⊢
        obtain ⟨l, e1, w1⟩ := H.sound x k hx hk (by omega)
        obtain ⟨m, e2, w2⟩ := H.sound k y hk hy (by omega)
        exact ⟨l + m, by omega, w1.append w2⟩
    · exact H.sound x y hx hy
  · have l1 := H.less a k
    have l2 := H.less k b
    unfold stepM
    split
    · rename_i e
      obtain ⟨rfl, rfl⟩ := e
      omega
    · rename_i e
      exact h.elim (H.done x y) fun h => absurd h e
theorem Mid.imp {E : List (Int × Int)} {n k : Nat} {M0 M : Nat → Nat → Int} {D D' : Nat → Nat → Prop} (H : Mid E n k M0 M D) (h : ∀ a b, D' a b → D a b) : Mid E n k M0 M D' := ⟨H.nonneg, H.less, H.sound, fun a b hd => H.done a b (h a b hd)⟩
theorem Mid.dist {E : List (Int × Int)} {n k : Nat} {M0 M : Nat → Nat → Int} (H0 : Dist E n k M0) (hk : k < n) (H : Mid E n k M0 M fun x y => x < n ∧ y < n) : Dist E n (k + 1) M := by
  refine ⟨H.nonneg, fun a b => Int.le_trans (H.less a b) (H0.le a b), H.sound, fun a b l ha hb w => ?_⟩
  rcases w.split with w | ⟨x, y, w1, w2, hl⟩
  · exact Int.le_trans (H.less a b) (H0.full a b l ha hb w)
  · have h1 := H.done a b ⟨ha, hb⟩
    have h2 := H0.full a k x ha hk w1
    have h3 := H0.full k b y hk hb w2
    omega
/- The beginning. -/
def M1 (E : List (Int × Int)) (n : Nat) (a b : Nat) : Int := if adjE E a b then 1 else if a < n ∧ b < n ∧ a ≠ b then 8 else 0
theorem Dist.start {n : Nat} {E : List (Int × Int)} (hE : EdgeOK n E) : Dist E n 0 (M1 E n) := by
  refine ⟨fun a b => ?_, fun a b => ?_, fun a b ha hb h => ?_, fun a b l ha hb w => ?_⟩
  · unfold M1; split <;> try split
    all_goals omega
  · unfold M1; split <;> try split
    all_goals omega
  · unfold M1 at h ⊢
    split
    · rename_i h1; exact ⟨1, rfl, .step .nil h1⟩
    · rename_i h1
      rw [if_neg h1] at h
      split at h
      · omega
      · rename_i h2
        have e : a = b := Classical.byContradiction fun h => h2 ⟨ha, hb, h⟩
        subst e
        rw [if_neg h2]
        exact ⟨0, rfl, .nil⟩
  · unfold M1
    rcases w.zero with ⟨rfl, rfl⟩ | ⟨h, rfl⟩
    · rw [if_neg fun h => (adj_lt hE h).2.2 rfl, if_neg (by omega)]
      omega
    · rw [if_pos h]
      omega
/- What the matrix says at the end. -/
section
variable {n : Nat} {E : List (Int × Int)} {M : Nat → Nat → Int}
theorem Dist.exact (hE : EdgeOK n E) (H : Dist E n n M) {a b l : Nat} (ha : a < n) (h : Exact E a b l) (hn : n ≤ 8) : M a b = l := by
  have hb := h.1.lt hE ha
  have hl := h.le hE ha
  have h1 := H.full a b l ha hb (h.1.wk hE ha)
  obtain ⟨m, e, w⟩ := H.sound a b ha hb (by omega)
  have : ¬ m < l := fun hm => h.2 m hm w
  omega
theorem Dist.reached (hE : EdgeOK n E) (H : Dist E n n M) {a b : Nat} (ha : a < n) (hb : b < n) (h : M a b < 8) : ∃ l : Nat, M a b = l ∧ Exact E a b l := by
  obtain ⟨l, e, w⟩ := H.sound a b ha hb h
  obtain ⟨m, hm, he⟩ := w.exact
  have := H.full a b m ha hb (he.1.wk hE ha)
  have e2 : m = l := by omega
  subst e2
  exact ⟨m, e, he⟩
theorem Dist.one (hE : EdgeOK n E) (H : Dist E n n M) {a b : Nat} (ha : a < n) (hb : b < n) : M a b = 1 ↔ adjE E a b := by
  constructor
  · intro h
    obtain ⟨l, e, w⟩ := H.sound a b ha hb (by omega)
    have : l = 1 := by omega
    subst this
    cases w with
    | step h e =>
      cases h
      exact e
  · intro h
    have h1 := H.full a b 1 ha hb (.one h)
    have h2 := H.nonneg a b
    have : M a b ≠ 0 := fun h0 => by
      obtain ⟨l, e, w⟩ := H.sound a b ha hb (by omega)
      have : l = 0 := by omega
      subst this
      cases w
      exact (adj_lt hE h).2.2 rfl
    omega
end
/- The greatest distance. -/
def mxM (M : Nat → Nat → Int) (n : Nat) : List Int := (List.range n).flatMap fun a => (List.range n).map fun b => M a b
/- How many neighbours there are. -/
def nb (E : List (Int × Int)) (v : Nat) : Nat → Nat
  | 0 => 0
  | w + 1 => nb E v w + (if adjE E v w then 1 else 0)
theorem nb_le {E : List (Int × Int)} {v : Nat} : ∀ w, nb E v w ≤ w
  | 0 => by simp [nb]
  | w + 1 => by have := nb_le (E := E) (v := v) w; simp only [nb]; split <;> omega
def mxN (E : List (Int × Int)) (n : Nat) : Nat → Nat
  | 0 => 0
  | v + 1 => max (mxN E n v) (nb E v n)
theorem mxN_le {E : List (Int × Int)} {n : Nat} : ∀ v, mxN E n v ≤ n
  | 0 => by simp [mxN]
  | v + 1 => by have := mxN_le (E := E) (n := n) v; have := nb_le (E := E) (v := v) n; simp only [mxN]; omega
theorem mxN_ge {E : List (Int × Int)} {n : Nat} : ∀ {m v : Nat}, v < m → nb E v n ≤ mxN E n m
  | m + 1, v, h => by
    simp only [mxN]
    by_cases e : v = m
    · subst e; omega
    · have := mxN_ge (E := E) (n := n) (m := m) (v := v) (by omega); omega
theorem mxN_hit {E : List (Int × Int)} {n : Nat} : ∀ m, mxN E n m = 0 ∨ ∃ v, v < m ∧ mxN E n m = nb E v n
  | 0 => .inl rfl
  | m + 1 => by
    simp only [mxN]
    by_cases h : mxN E n m ≤ nb E m n
    · exact .inr ⟨m, by omega, by omega⟩
    · rcases mxN_hit (E := E) (n := n) m with e | ⟨v, hv, e⟩
      · omega
      · exact .inr ⟨v, by omega, by omega⟩
/- Chvatal's bounds. -/
theorem walk_band {E : List (Int × Int)} {p : Int → Int} {B : Int} (hB : ∀ e ∈ E, len p e ≤ B) {a b l : Nat} (h : Wa E a b l) : p b - p a ≤ l * B ∧ p a - p b ≤ l * B := by
  induction h with
  | nil => simp
  | @step b c l _ e ih =>
    have hl : p c - p b ≤ B ∧ p b - p c ≤ B := by
      rcases e with e | e <;> have := hB _ e <;> simp only [len, Ro.lo, Ro.hi] at this <;> omega
    rw [show ((l + 1 : Nat) : Int) * B = l * B + B by rw [Int.natCast_add, Int.add_mul]; simp]
    omega
theorem bound_dist {n D : Nat} {E : List (Int × Int)} {zs : List Int} {v : Int} (hn : 2 ≤ n) (hE : EdgeOK n E) (hp : PermI n zs) (hv : cBand E zs = v) (hD : ∀ a b, a < n → b < n → ∃ l, l ≤ D ∧ Wa E a b l) : (n : Int) - 1 ≤ D * v := by
  have hl := PermI.len hp
  have hx := hp.2.1 _ (List.getElem_mem (show 0 < zs.length by omega))
  have hy := hp.2.1 _ (List.getElem_mem (show n - 1 < zs.length by omega))
  obtain ⟨x, ex⟩ : ∃ x : Nat, zs[0]'(by omega) = x := ⟨(zs[0]'(by omega)).toNat, by omega⟩
  obtain ⟨y, ey⟩ : ∃ y : Nat, zs[n - 1]'(by omega) = y := ⟨(zs[n - 1]'(by omega)).toNat, by omega⟩
  obtain ⟨l, hlD, w⟩ := hD x y (by omega) (by omega)
  have := (walk_band (p := pos zs) (B := v) (fun e he => by rw [← hv]; exact band_ge he) w).1
  have p0 := pos_at hp.2.2 (i := 0) (by omega)
  have p1 := pos_at hp.2.2 (i := n - 1) (by omega)
  rw [getD_at (by omega), ex] at p0
  rw [getD_at (by omega), ey] at p1
  have v0 : 0 ≤ v := by rw [← hv]; exact band_nonneg
  have : (l : Int) * v ≤ D * v := Int.mul_le_mul_of_nonneg_right (by omega) v0
  omega
/- At most 2 B numbers are within B of one, but it. -/
theorem near_le {n : Nat} {E : List (Int × Int)} {zs : List Int} {v : Int} (hE : EdgeOK n E) (hp : PermI n zs) (hv : cBand E zs = v) {u : Nat} (hu : u < n) : (nb E u n : Int) ≤ 2 * v := by
  have v0 : 0 ≤ v := by rw [← hv]; exact band_nonneg
  have len_nb : ∀ w, nb E u w = ((List.range w).filter fun x => decide (adjE E u x)).length := fun w => by
    induction w with
    | zero => rfl
    | succ w ih =>
      rw [nb, ih, List.range_succ, List.filter_append, List.length_append]
      by_cases h : adjE E u w
      · simp [h]
      · simp [h]
  obtain ⟨c, hc⟩ : ∃ c : Nat, pos zs u = c := ⟨(pos zs u).toNat, by have := pos_le (zs := zs) (v := (u : Int)); omega⟩
  obtain ⟨B, rfl⟩ : ∃ B : Nat, v = B := ⟨v.toNat, by omega⟩
  -- the places of the neighbours, without that of the vertex itself
  have hmap : (((List.range n).filter fun x => decide (adjE E u x)).map fun x : Nat => (let q := (pos zs x).toNat + B - c; if q < B then q else q - 1)).length ≤ 2 * B := by
    have mem : ∀ x, x ∈ (List.range n).filter (fun x => decide (adjE E u x)) → ∃ q : Nat, pos zs x = q ∧ q ≤ c + B ∧ c ≤ q + B ∧ q ≠ c ∧ x < n := fun x hx => by
      obtain ⟨h1, h2⟩ := List.mem_filter.1 hx
      have h2 : adjE E u x := of_decide_eq_true h2
      have hxn := List.mem_range.1 h1
      have hle : pos zs x - pos zs u ≤ B ∧ pos zs u - pos zs x ≤ B := by
        rcases h2 with e | e <;> have := band_ge (p := pos zs) e <;> rw [show band (pos zs) E = (B : Int) from hv] at this <;> simp only [len, Ro.lo, Ro.hi] at this <;> omega
      have h3 := pos_le (zs := zs) (v := (x : Int))
      have hne : pos zs x ≠ pos zs u := fun e => by
        have := pos_inj (perm_mem hp (by omega) (by omega)) e
        exact (adj_lt hE h2).2.2 (by omega)
      exact ⟨(pos zs x).toNat, by omega, by omega, by omega, by omega, hxn⟩
    refine nodup_le _ _ ?_ fun y hy => ?_
    · rw [List.Nodup, List.pairwise_map]
      refine List.Pairwise.imp_of_mem (fun {x y} hx hy hne e => hne ?_) (List.nodup_range.filter _)
      obtain ⟨q, e1, q1, q2, q3, xn⟩ := mem x hx
      obtain ⟨r, e2, r1, r2, r3, yn⟩ := mem y hy
      simp only [e1, e2, Int.toNat_natCast] at e
      have hqr : q = r := by split at e <;> split at e <;> omega
      have := pos_inj (perm_mem hp (v := (x : Int)) (by omega) (by omega)) (w := (y : Int)) (by rw [e1, e2, hqr])
      omega
    · obtain ⟨x, hx, rfl⟩ := List.mem_map.1 hy
      obtain ⟨q, e1, q1, q2, q3, xn⟩ := mem x hx
      simp only [e1, Int.toNat_natCast]
      split <;> omega
  rw [List.length_map] at hmap
  rw [len_nb]
  omega
end Go.Ro
