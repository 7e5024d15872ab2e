/- Colourings of the edges of bipartite multigraphs: Konig's theorem, and the search for the first colouring. -/
set_option linter.unusedSimpArgs false
set_option linter.unusedVariables false
namespace Go.Pa

/- A list that has all numbers below d is at least that long. -/
theorem pigeon : ∀ (d : Nat) (L : List Nat), (∀ a, a < d → a ∈ L) → d ≤ L.length
  | 0, L, _ => Nat.zero_le _
  | d + 1, L, h => by
    have hm : d ∈ L := h d (by omega)
    have ih := pigeon d (L.erase d) fun a ha => (List.mem_erase_of_ne (by omega)).2 (h a (by omega))
    rw [List.length_erase_of_mem hm] at ih
    have : 0 < L.length := List.length_pos_of_mem hm
    omega

def deg (A : Nat → Int) (n : Nat) (x : Int) : Nat := ((List.range n).filter fun i => decide (A i = x)).length
theorem deg_succ (A : Nat → Int) (n : Nat) (x : Int) : deg A (n + 1) x = deg A n x + if A n = x then 1 else 0 := by
  simp only [deg, List.range_succ, List.filter_append, List.length_append, List.filter_cons, List.filter_nil]
  by_cases h : A n = x <;> simp [h]
theorem deg_mono (A : Nat → Int) (x : Int) {n m : Nat} (h : n ≤ m) : deg A n x ≤ deg A m x := by
  induction m with
  | zero => rw [show n = 0 by omega]; exact Nat.le_refl _
  | succ m ih =>
    by_cases e : n = m + 1
    · rw [e]; exact Nat.le_refl _
    · have := ih (by omega)
      rw [deg_succ]
      omega

/- A colour that no edge at a vertex has. -/
theorem missing {A : Nat → Int} {n D : Nat} {c : Nat → Nat} {x : Int} (h : deg A n x < D) : ∃ a, a < D ∧ ∀ i, i < n → A i = x → c i ≠ a := by
  refine Classical.byContradiction fun hc => ?_
  have : D ≤ (((List.range n).filter fun i => decide (A i = x)).map c).length := pigeon _ _ fun a ha => by
    refine Classical.byContradiction fun hn => hc ⟨a, ha, fun i hi hx e => hn ?_⟩
    exact List.mem_map.2 ⟨i, List.mem_filter.2 ⟨List.mem_range.2 hi, by simp [hx]⟩, e⟩
  rw [List.length_map] at this
  unfold deg at h
  omega

/- What is reached from v by the colours a and b in turns. -/
inductive Rch (A B : Nat → Int) (c : Nat → Nat) (n a b : Nat) (v : Int) : Bool → Int → Prop
  | base : Rch A B c n a b v true v
  | toA {i : Nat} : i < n → Rch A B c n a b v true (B i) → c i = a → Rch A B c n a b v false (A i)
  | toB {i : Nat} : i < n → Rch A B c n a b v false (A i) → c i = b → Rch A B c n a b v true (B i)

theorem Rch.invA {A B : Nat → Int} {c : Nat → Nat} {n a b : Nat} {v x : Int} (h : Rch A B c n a b v false x) : ∃ j, j < n ∧ A j = x ∧ Rch A B c n a b v true (B j) ∧ c j = a := by
  cases h with
  | toA hi hr hc => exact ⟨_, hi, rfl, hr, hc⟩
theorem Rch.invB {A B : Nat → Int} {c : Nat → Nat} {n a b : Nat} {v x : Int} (h : Rch A B c n a b v true x) : x = v ∨ ∃ j, j < n ∧ B j = x ∧ Rch A B c n a b v false (A j) ∧ c j = b := by
  cases h with
  | base => exact .inl rfl
  | toB hi hr hc => exact .inr ⟨_, hi, rfl, hr, hc⟩

def sw (a b x : Nat) : Nat := if x = a then b else if x = b then a else x

def Good (A B : Nat → Int) (n D : Nat) (c : Nat → Nat) : Prop := (∀ i, i < n → c i < D) ∧ ∀ i k, i < n → k < n → i ≠ k → (A i = A k ∨ B i = B k) → c i ≠ c k

theorem konig_step {A B : Nat → Int} {n D : Nat} {c : Nat → Nat} (H : Good A B n D c) (hA : deg A (n + 1) (A n) ≤ D) (hB : deg B (n + 1) (B n) ≤ D) : ∃ c', Good A B (n + 1) D c' := by
  classical
  rw [deg_succ, if_pos rfl] at hA hB
  obtain ⟨a, ha, ma⟩ := missing (c := c) (show deg A n (A n) < D by omega)
  obtain ⟨b, hb, mb⟩ := missing (c := c) (show deg B n (B n) < D by omega)
  obtain ⟨h1, h2⟩ := H
  let R := Rch A B c n a b (B n)
  have uA : ∀ i j, i < n → j < n → A i = A j → c i = c j → i = j := fun i j hi hj e ec => Classical.byContradiction fun hne => h2 i j hi hj hne (.inl e) ec
  have uB : ∀ i j, i < n → j < n → B i = B j → c i = c j → i = j := fun i j hi hj e ec => Classical.byContradiction fun hne => h2 i j hi hj hne (.inr e) ec
  have fa : ∀ i, i < n → c i = a → (R false (A i) ↔ R true (B i)) := fun i hi e => ⟨fun h => by
    obtain ⟨j, hj, ej, hr, hc⟩ := h.invA
    have := uA j i hj hi ej (by omega)
    subst this
    exact hr, fun h => .toA hi h e⟩
  have fb : ∀ i, i < n → c i = b → (R false (A i) ↔ R true (B i)) := fun i hi e => ⟨fun h => .toB hi h e, fun h => by
    rcases h.invB with h | ⟨j, hj, ej, hr, hc⟩
    · exact absurd e (mb i hi h)
    · have := uB j i hj hi ej (by omega)
      subst this
      exact hr⟩
  have fu : ¬ R false (A n) := fun h => by
    obtain ⟨j, hj, ej, hr, hc⟩ := h.invA
    exact ma j hj ej hc
  let c' : Nat → Nat := fun i => if i = n then a else if R false (A i) then sw a b (c i) else c i
  have eA : ∀ i, i < n → c' i = if R false (A i) then sw a b (c i) else c i := fun i hi => by simp only [c', if_neg (show ¬ i = n by omega)]
  have eB : ∀ i, i < n → c' i = if R true (B i) then sw a b (c i) else c i := fun i hi => by
    rw [eA i hi]
    by_cases e1 : c i = a
    · simp only [fa i hi e1]
    · by_cases e2 : c i = b
      · simp only [fb i hi e2]
      · have : sw a b (c i) = c i := by simp [sw, e1, e2]
        rw [this]
        simp
  have inj : ∀ x y, sw a b x = sw a b y → x = y := fun x y h => by
    simp only [sw] at h
    split at h <;> split at h <;> (try split at h) <;> (try split at h) <;> omega
  have lt : ∀ x, x < D → sw a b x < D := fun x h => by
    simp only [sw]
    split
    · exact hb
    · split
      · exact ha
      · exact h
  have en : c' n = a := by simp [c']
  have nA : ∀ i, i < n → A i = A n → c' i ≠ a := fun i hi e => by
    rw [eA i hi, e, if_neg fu]
    exact ma i hi e
  have nB : ∀ i, i < n → B i = B n → c' i ≠ a := fun i hi e => by
    rw [eB i hi, e, if_pos Rch.base]
    have := mb i hi e
    simp only [sw]
    split <;> (try split) <;> omega
  refine ⟨c', fun i hi => ?_, fun i k hi hk hne hadj => ?_⟩
  · by_cases e : i = n
    · rw [e, en]; exact ha
    · rw [eA i (by omega)]
      split
      · exact lt _ (h1 i (by omega))
      · exact h1 i (by omega)
  · by_cases e : i = n
    · subst e
      rw [en]
      rcases hadj with h | h
      · exact fun x => nA k (by omega) h.symm x.symm
      · exact fun x => nB k (by omega) h.symm x.symm
    · by_cases e' : k = n
      · subst e'
        rw [en]
        rcases hadj with h | h
        · exact nA i (by omega) h
        · exact nB i (by omega) h
      · have hc := h2 i k (by omega) (by omega) hne hadj
        rcases hadj with h | h
        · rw [eA i (by omega), eA k (by omega), h]
          split
          · exact fun x => hc (inj _ _ x)
          · exact hc
        · rw [eB i (by omega), eB k (by omega), h]
          split
          · exact fun x => hc (inj _ _ x)
          · exact hc

/- Konig: as many colours as the greatest degree are enough. -/
theorem konig {A B : Nat → Int} {D : Nat} : ∀ n, (∀ x, deg A n x ≤ D) → (∀ x, deg B n x ≤ D) → ∃ c, Good A B n D c
  | 0, _, _ => ⟨fun _ => 0, fun i h => absurd h (by omega), fun i k h => absurd h (by omega)⟩
  | n + 1, hA, hB => by
    obtain ⟨c, H⟩ := konig n (fun x => Nat.le_trans (deg_mono A x (Nat.le_succ n)) (hA x)) fun x => Nat.le_trans (deg_mono B x (Nat.le_succ n)) (hB x)
    exact konig_step H (hA _) (hB _)

/- Edges, numbers. -/
def eg (E : List (Int × Int)) (i : Nat) : Int × Int := E.getD i (0, 0)
def cl (zs : List Int) (i : Nat) : Int := zs.getD i 0
def adj (e f : Int × Int) : Prop := e.1 = f.1 ∨ e.2 = f.2
instance (e f : Int × Int) : Decidable (adj e f) := inferInstanceAs (Decidable (e.1 = f.1 ∨ e.2 = f.2))
/- The first edges, with numbers, let e have x. -/
def Fr (E : List (Int × Int)) (zs : List Int) (x : Int) (e : Int × Int) : Prop := ∀ i, i < zs.length → ¬ (cl zs i = x ∧ adj (eg E i) e)
instance (E : List (Int × Int)) (zs : List Int) (x : Int) (e : Int × Int) : Decidable (Fr E zs x e) := inferInstanceAs (Decidable (∀ i, i < zs.length → ¬ (cl zs i = x ∧ adj (eg E i) e)))
def Prp (E : List (Int × Int)) (zs : List Int) : Prop := ∀ i, i < zs.length → ∀ k, k < i → ¬ (cl zs i = cl zs k ∧ adj (eg E i) (eg E k))
instance (E : List (Int × Int)) (zs : List Int) : Decidable (Prp E zs) := inferInstanceAs (Decidable (∀ i, i < zs.length → ∀ k, k < i → ¬ (cl zs i = cl zs k ∧ adj (eg E i) (eg E k))))

theorem cl_app_lt {zs ys : List Int} {i : Nat} (h : i < zs.length) : cl (zs ++ ys) i = cl zs i := by
  simp [cl, List.getD_eq_getElem?_getD, List.getElem?_append_left h]
theorem cl_app_at {zs : List Int} {x : Int} : cl (zs ++ [x]) zs.length = x := by
  simp [cl, List.getD_eq_getElem?_getD]
theorem adj_symm {e f : Int × Int} : adj e f ↔ adj f e := by simp only [adj, eq_comm]
theorem prp_nil {E : List (Int × Int)} : Prp E [] := fun i h => absurd h (by simp)
theorem prp_app {E : List (Int × Int)} {zs : List Int} {x : Int} : Prp E (zs ++ [x]) ↔ Prp E zs ∧ Fr E zs x (eg E zs.length) := by
  constructor
  · intro H
    refine ⟨fun i hi k hk h => ?_, fun i hi h => ?_⟩
    · have := H i (by simp; omega) k hk
      rw [cl_app_lt hi, cl_app_lt (by omega)] at this
      exact this h
    · have := H zs.length (by simp) i hi
      rw [cl_app_at, cl_app_lt hi] at this
      exact this ⟨h.1.symm, adj_symm.1 h.2⟩
  · intro ⟨H, F⟩ i hi k hk h
    rw [List.length_append, List.length_singleton] at hi
    by_cases e : i = zs.length
    · subst e
      rw [cl_app_at, cl_app_lt hk] at h
      exact F k hk ⟨h.1.symm, adj_symm.1 h.2⟩
    · rw [cl_app_lt (by omega), cl_app_lt (by omega)] at h
      exact H i (by omega) k hk h
theorem prp_pre {E : List (Int × Int)} {zs ys : List Int} (H : Prp E (zs ++ ys)) : Prp E zs := fun i hi k hk h => by
  have := H i (by simp; omega) k hk
  rw [cl_app_lt hi, cl_app_lt (by omega)] at this
  exact this h

/- The first that is found. -/
def firstS {α : Type} (g : Nat → Option α) : Nat → Nat → Option α
  | 0, _ => none
  | n + 1, k => match g k with
    | some x => some x
    | none => firstS g n (k + 1)
theorem firstS_congr {α : Type} {g g' : Nat → Option α} (h : ∀ k, g k = g' k) : ∀ n k, firstS g n k = firstS g' n k
  | 0, k => rfl
  | n + 1, k => by simp only [firstS, h, firstS_congr h n (k + 1)]
theorem firstS_some {α : Type} {g : Nat → Option α} {x : α} : ∀ {n k}, firstS g n k = some x → ∃ j, k ≤ j ∧ j < k + n ∧ g j = some x
  | 0, k, h => by cases h
  | n + 1, k, h => by
    simp only [firstS] at h
    cases e : g k with
    | some y =>
      rw [e] at h
      cases h
      exact ⟨k, Nat.le_refl _, by omega, e⟩
    | none =>
      rw [e] at h
      obtain ⟨j, h1, h2, h3⟩ := firstS_some h
      exact ⟨j, by omega, by omega, h3⟩
theorem firstS_ex {α : Type} {g : Nat → Option α} : ∀ {n k j}, k ≤ j → j < k + n → g j ≠ none → firstS g n k ≠ none
  | 0, k, j, h1, h2, _ => by omega
  | n + 1, k, j, h1, h2, h3 => by
    simp only [firstS]
    cases e : g k with
    | some y => simp
    | none =>
      by_cases ej : j = k
      · subst ej
        exact absurd e h3
      · exact firstS_ex (by omega) (by omega) h3

/- The first colouring that begins with some numbers: f are left. -/
def ext (E : List (Int × Int)) (limit : Nat) : Nat → List Int → Option (List Int)
  | 0, zs => some zs
  | f + 1, zs => firstS (fun k => if Fr E zs k (eg E zs.length) then ext E limit f (zs ++ [(k : Int)]) else none) limit 0
/- The reference's. -/
def rfE (E : List (Int × Int)) (few : Nat) : Nat → List Int → Option (List Int)
  | 0, zs => if Prp E zs then some zs else none
  | f + 1, zs => if Prp E zs then firstS (fun k => rfE E few f (zs ++ [(k : Int)])) few 0 else none

theorem rfE_ext {E : List (Int × Int)} {few : Nat} : ∀ {f : Nat} {zs : List Int}, rfE E few f zs = if Prp E zs then ext E few f zs else none
  | 0, zs => rfl
  | f + 1, zs => by
    simp only [rfE, ext]
    by_cases h : Prp E zs
    · rw [if_pos h, if_pos h]
      refine firstS_congr (fun k => ?_) _ _
      rw [rfE_ext]
      have : Prp E (zs ++ [(k : Int)]) ↔ Fr E zs k (eg E zs.length) := ⟨fun x => (prp_app.1 x).2, fun x => prp_app.2 ⟨h, x⟩⟩
      simp only [this]
    · rw [if_neg h, if_neg h]

theorem ext_sound {E : List (Int × Int)} {limit : Nat} : ∀ {f : Nat} {zs ys : List Int}, ext E limit f zs = some ys → Prp E zs → (∀ z ∈ zs, 0 ≤ z ∧ z < limit) →
    Prp E ys ∧ ys.length = zs.length + f ∧ (∀ z ∈ ys, 0 ≤ z ∧ z < limit) ∧ ∃ t, ys = zs ++ t
  | 0, zs, ys, h, hp, hr => by
    cases h
    exact ⟨hp, rfl, hr, [], by simp⟩
  | f + 1, zs, ys, h, hp, hr => by
    obtain ⟨j, h1, h2, h3⟩ := firstS_some h
    by_cases hF : Fr E zs (j : Int) (eg E zs.length)
    · simp only [if_pos hF] at h3
      obtain ⟨a, b, c, t, d⟩ := ext_sound h3 (prp_app.2 ⟨hp, hF⟩) fun z hz => by
        rcases List.mem_append.1 hz with hz | hz
        · exact hr z hz
        · rw [List.mem_singleton] at hz
          omega
      exact ⟨a, by rw [b, List.length_append, List.length_singleton]; omega, c, _, by rw [d, List.append_assoc]⟩
    · rw [if_neg hF] at h3
      cases h3
theorem ext_complete {E : List (Int × Int)} {limit : Nat} : ∀ {f : Nat} {zs t : List Int}, t.length = f → Prp E (zs ++ t) → (∀ z ∈ t, 0 ≤ z ∧ z < limit) → ext E limit f zs ≠ none
  | 0, zs, t, _, _, _ => by simp [ext]
  | f + 1, zs, [], h, _, _ => by simp at h
  | f + 1, zs, x :: t, h, hp, hr => by
    have e : zs ++ x :: t = (zs ++ [x]) ++ t := by simp
    rw [e] at hp
    have hx := hr x (by simp)
    refine firstS_ex (j := x.toNat) (by omega) (by omega) ?_
    have hxe : ((x.toNat : Nat) : Int) = x := by omega
    simp only [hxe]
    rw [if_pos (prp_app.1 (prp_pre hp)).2]
    exact ext_complete (by simpa using h) hp fun z hz => hr z (by simp [hz])

def degA (E : List (Int × Int)) (x : Int) : Nat := deg (fun i => (eg E i).1) E.length x
def degB (E : List (Int × Int)) (x : Int) : Nat := deg (fun i => (eg E i).2) E.length x

theorem konigL {E : List (Int × Int)} {D : Nat} (hA : ∀ x, degA E x ≤ D) (hB : ∀ x, degB E x ≤ D) : ∃ zs : List Int, zs.length = E.length ∧ Prp E zs ∧ ∀ z ∈ zs, 0 ≤ z ∧ z < D := by
  obtain ⟨c, h1, h2⟩ := konig E.length hA hB
  have hc : ∀ i, i < E.length → cl ((List.range E.length).map fun i => (c i : Int)) i = c i := fun i hi => by simp [cl, List.getD_eq_getElem?_getD, hi]
  refine ⟨(List.range E.length).map fun i => (c i : Int), by simp, fun i hi k hk h => ?_, fun z hz => ?_⟩
  · rw [List.length_map, List.length_range] at hi
    rw [hc i hi, hc k (by omega)] at h
    exact h2 i k hi (by omega) (by omega) h.2 (by omega)
  · obtain ⟨i, hi, rfl⟩ := List.mem_map.1 hz
    have := h1 i (List.mem_range.1 hi)
    omega

/- So the search finds a colouring. -/
theorem ext_konig {E : List (Int × Int)} {D limit : Nat} (hA : ∀ x, degA E x ≤ D) (hB : ∀ x, degB E x ≤ D) (hl : D ≤ limit) : ∃ ys, ext E limit E.length [] = some ys ∧ Prp E ys ∧ ys.length = E.length ∧ ∀ z ∈ ys, 0 ≤ z ∧ z < limit := by
  obtain ⟨zs, h1, h2, h3⟩ := konigL hA hB
  have := ext_complete (E := E) (limit := limit) (zs := []) h1 (by simpa using h2) fun z hz => ⟨(h3 z hz).1, by have := (h3 z hz).2; omega⟩
  obtain ⟨ys, e⟩ := Option.ne_none_iff_exists'.1 this
  obtain ⟨a, b, c, _⟩ := ext_sound e prp_nil (by simp)
  exact ⟨ys, e, a, by simpa using b, c⟩
end Go.Pa
