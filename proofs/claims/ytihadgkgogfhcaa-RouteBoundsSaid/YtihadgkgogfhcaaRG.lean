/- Sets of vertices as numbers: what is reached in so many rounds. -/
import Derived.Test.YtihadgkgogfhcaaRE
set_option linter.unusedSimpArgs false
set_option linter.unusedVariables false
namespace Go.Ro
open Go.Pa
/- What is reached from a vertex in r rounds. -/
def Rch (E : List (Int × Int)) (v r w : Nat) : Prop := ∃ l, l ≤ r ∧ Wa E v w l
structure Rset (E : List (Int × Int)) (n v r R : Nat) : Prop where
  lt : R < 2 ^ n
  bit : ∀ w, w < n → (R.testBit w = true ↔ Rch E v r w)
theorem bit_div {R a : Nat} : (R / 2 ^ a) % 2 = 1 ↔ R.testBit a = true := by
  rw [Nat.testBit_eq_decide_div_mod_eq, decide_eq_true_eq]
theorem or_mod {p q : Nat} : (p ||| q) % 2 = 1 ↔ p % 2 = 1 ∨ q % 2 = 1 := by simp
theorem Rset.start {E : List (Int × Int)} {n v : Nat} (hv : v < n) : Rset E n v 0 (2 ^ v) := by
  refine ⟨Nat.pow_lt_pow_right (by omega) hv, fun w _ => ?_⟩
  rw [Nat.testBit_two_pow]
  constructor
  · intro h
    have : v = w := by simpa using h
    subst this
    exact ⟨0, Nat.le_refl _, .nil⟩
  · rintro ⟨l, hl, h⟩
    have : l = 0 := by omega
    subst this
    cases h
    simp
/- A round under way. -/
structure Mset (E : List (Int × Int)) (n R i X : Nat) : Prop where
  lt : X < 2 ^ n
  bit : ∀ w : Nat, w < n → (X.testBit w = true ↔ R.testBit w = true ∨ ∃ a b : Nat, ((a : Int), (b : Int)) ∈ E.take i ∧ (R.testBit a = true ∨ R.testBit b = true) ∧ (w = a ∨ w = b))
theorem Mset.start {E : List (Int × Int)} {n R : Nat} (h : R < 2 ^ n) : Mset E n R 0 R := ⟨h, fun w _ => by simp⟩
theorem Mset.hit {E : List (Int × Int)} {n R i X a b : Nat} (H : Mset E n R i X) (hi : E.take (i + 1) = E.take i ++ [((a : Int), (b : Int))]) (ha : a < n) (hb : b < n) (h : R.testBit a = true ∨ R.testBit b = true) : Mset E n R (i + 1) (X ||| (2 ^ a ||| 2 ^ b)) := by
  refine ⟨Nat.or_lt_two_pow H.lt (Nat.or_lt_two_pow (Nat.pow_lt_pow_right (by omega) ha) (Nat.pow_lt_pow_right (by omega) hb)), fun w hw => ?_⟩
  have e1 : (X ||| (2 ^ a ||| 2 ^ b)).testBit w = true ↔ X.testBit w = true ∨ w = a ∨ w = b := by
    simp only [Nat.testBit_or, Nat.testBit_two_pow, Bool.or_eq_true, decide_eq_true_eq]
    constructor
    · rintro (h | h | h)
      · exact .inl h
      · exact .inr (.inl h.symm)
      · exact .inr (.inr h.symm)
    · rintro (h | h | h)
      · exact .inl h
      · exact .inr (.inl h.symm)
      · exact .inr (.inr h.symm)
  rw [e1, H.bit w hw, hi]
  constructor
  · rintro ((h' | ⟨p, q, h1, h2⟩) | h')
    · exact .inl h'
    · exact .inr ⟨p, q, List.mem_append.2 (.inl h1), h2⟩
    · exact .inr ⟨a, b, List.mem_append.2 (.inr (List.mem_singleton.2 rfl)), h, h'⟩
  · rintro (h' | ⟨p, q, h1, h2, h3⟩)
    · exact .inl (.inl h')
    · rcases List.mem_append.1 h1 with h1 | h1
      · exact .inl (.inr ⟨p, q, h1, h2, h3⟩)
      · rw [List.mem_singleton, Prod.mk.injEq] at h1
        right
        omega
theorem Mset.miss {E : List (Int × Int)} {n R i X a b : Nat} (H : Mset E n R i X) (hi : E.take (i + 1) = E.take i ++ [((a : Int), (b : Int))]) (h : ¬ (R.testBit a = true ∨ R.testBit b = true)) : Mset E n R (i + 1) X := by
  refine ⟨H.lt, fun w hw => ?_⟩
  rw [H.bit w hw, hi]
  constructor
  · rintro (h' | ⟨p, q, h1, h2⟩)
    · exact .inl h'
    · exact .inr ⟨p, q, List.mem_append.2 (.inl h1), h2⟩
  · rintro (h' | ⟨p, q, h1, h2, h3⟩)
    · exact .inl h'
    · rcases List.mem_append.1 h1 with h1 | h1
      · exact .inr ⟨p, q, h1, h2, h3⟩
      · rw [List.mem_singleton, Prod.mk.injEq] at h1
        have e1 : p = a := by omega
        have e2 : q = b := by omega
        subst e1; subst e2
        exact absurd h2 h
theorem Mset.done {E : List (Int × Int)} {n v r R X : Nat} (hE : EdgeOK n E) (hv : v < n) (K : Rset E n v r R) (H : Mset E n R E.length X) : Rset E n v (r + 1) X := by
  refine ⟨H.lt, fun w hw => ?_⟩
  rw [H.bit w hw, List.take_length]
  constructor
  · rintro (h | ⟨a, b, h1, h2, h3⟩)
    · obtain ⟨l, hl, hw'⟩ := (K.bit w hw).1 h
      exact ⟨l, by omega, hw'⟩
    · have hab := adj_lt hE (.inl h1 : adjE E a b)
      rcases h2 with h2 | h2
      · obtain ⟨l, hl, w1⟩ := (K.bit a hab.1).1 h2
        rcases h3 with rfl | rfl
        · exact ⟨l, by omega, w1⟩
        · exact ⟨l + 1, by omega, .step w1 (.inl h1)⟩
      · obtain ⟨l, hl, w1⟩ := (K.bit b hab.2.1).1 h2
        rcases h3 with rfl | rfl
        · exact ⟨l + 1, by omega, .step w1 (.inr h1)⟩
        · exact ⟨l, by omega, w1⟩
  · rintro ⟨l, hl, h⟩
    by_cases hlr : l ≤ r
    · exact .inl ((K.bit w hw).2 ⟨l, hlr, h⟩)
    · have : l = r + 1 := by omega
      subst this
      cases h with
      | @step b _ _ h e =>
        have hb := h.lt hE hv
        have hbit := (K.bit b hb).2 ⟨r, Nat.le_refl _, h⟩
        rcases e with e | e
        · exact .inr ⟨b, w, e, .inl hbit, .inr rfl⟩
        · exact .inr ⟨w, b, e, .inr hbit, .inl rfl⟩
theorem bits_eq {n X R : Nat} (hX : X < 2 ^ n) (hR : R < 2 ^ n) (h : ∀ w, w < n → X.testBit w = R.testBit w) : X = R := Nat.eq_of_testBit_eq fun w => by
  by_cases hw : w < n
  · exact h w hw
  · have hp : 2 ^ n ≤ 2 ^ w := Nat.pow_le_pow_right (by omega) (by omega)
    rw [Nat.testBit_lt_two_pow (by omega), Nat.testBit_lt_two_pow (by omega)]
theorem Rset.new {E : List (Int × Int)} {n v r R X : Nat} (K : Rset E n v r R) (K' : Rset E n v (r + 1) X) : X ≠ R ↔ ∃ w, w < n ∧ Exact E v w (r + 1) := by
  constructor
  · intro hne
    refine Classical.byContradiction fun hno => hne (bits_eq K'.lt K.lt fun w hw => ?_)
    rw [Bool.eq_iff_iff, K'.bit w hw, K.bit w hw]
    constructor
    · rintro ⟨l, hl, h⟩
      obtain ⟨m, hm, he⟩ := h.exact
      by_cases e : m = r + 1
      · subst e; exact absurd ⟨w, hw, he⟩ hno
      · exact ⟨m, by omega, he.1⟩
    · rintro ⟨l, hl, h⟩
      exact ⟨l, by omega, h⟩
  · rintro ⟨w, hw, he⟩ e
    subst e
    obtain ⟨l, hl, h⟩ := (K.bit w hw).1 ((K'.bit w hw).2 ⟨r + 1, Nat.le_refl _, he.1⟩)
    exact he.2 l (by omega) h
theorem Rset.full {E : List (Int × Int)} {n v r R : Nat} (K : Rset E n v r R) : R = 2 ^ n - 1 ↔ ∀ w, w < n → Rch E v r w := by
  constructor
  · intro e w hw
    rw [← K.bit w hw, e, Nat.testBit_two_pow_sub_one]
    simpa using hw
  · intro h
    refine bits_eq K.lt (by have := Nat.two_pow_pos n; omega) fun w hw => ?_
    rw [(K.bit w hw).2 (h w hw), Nat.testBit_two_pow_sub_one]
    simpa using hw
/- The greatest distance so far. -/
structure Dia (E : List (Int × Int)) (n v r d : Nat) : Prop where
  le : d ≤ n
  hit : d = 0 ∨ ∃ a b, a < n ∧ b < n ∧ Exact E a b d
  top : ∀ a b l, a < n → (a < v ∨ (a = v ∧ l ≤ r)) → Exact E a b l → l ≤ d
theorem Dia.start {E : List (Int × Int)} {n : Nat} : Dia E n 0 0 0 := ⟨by omega, .inl rfl, fun a b l _ h _ => by omega⟩
theorem Dia.more {E : List (Int × Int)} {n v r d w : Nat} (hE : EdgeOK n E) (H : Dia E n v r d) (hv : v < n) (hw : w < n) (he : Exact E v w (r + 1)) : Dia E n v (r + 1) (max d (r + 1)) := by
  have hl := he.le hE hv
  have h1 := H.le
  refine ⟨by omega, ?_, fun a b l ha h e => ?_⟩
  · by_cases hd : d ≤ r + 1
    · rw [Nat.max_eq_right hd]; exact .inr ⟨v, w, hv, hw, he⟩
    · rw [Nat.max_eq_left (by omega)]; exact H.hit
  · by_cases h2 : a < v ∨ (a = v ∧ l ≤ r)
    · have := H.top a b l ha h2 e; omega
    · omega
theorem Dia.same {E : List (Int × Int)} {n v r d : Nat} (hE : EdgeOK n E) (H : Dia E n v r d) (hn : ¬ ∃ w, w < n ∧ Exact E v w (r + 1)) : Dia E n v (r + 1) d :=
  ⟨H.le, H.hit, fun a b l ha h e => by
    by_cases h2 : a < v ∨ (a = v ∧ l ≤ r)
    · exact H.top a b l ha h2 e
    · have e1 : a = v := by omega
      have e2 : l = r + 1 := by omega
      subst e1; subst e2
      exact absurd ⟨b, e.1.lt hE ha, e⟩ hn⟩
theorem Dia.next {E : List (Int × Int)} {n v d : Nat} (hE : EdgeOK n E) (H : Dia E n v n d) : Dia E n (v + 1) 0 d :=
  ⟨H.le, H.hit, fun a b l ha h e => by
    by_cases h2 : a < v
    · exact H.top a b l ha (.inl h2) e
    · have hl := e.le hE ha
      by_cases e1 : a = v
      · exact H.top a b l ha (.inr ⟨e1, by omega⟩) e
      · have : l = 0 := by omega
        omega⟩
/- What it says of the matrix. -/
section
variable {n : Nat} {E : List (Int × Int)} {M : Nat → Nat → Int}
theorem far_off (hE : EdgeOK n E) (h8 : n ≤ 8) (D : Dist E n n M) {v : Nat} (hv : v < n) (h : ¬ ∀ w, w < n → Rch E v n w) : gdAll M n n = 8 := by
  obtain ⟨w, hw, hn⟩ : ∃ w, w < n ∧ ¬ Rch E v n w := Classical.byContradiction fun hno => h fun w hw => Classical.byContradiction fun hr => hno ⟨w, hw, hr⟩
  have h1 : M v w = 8 := by
    have := D.le v w
    refine Classical.byContradiction fun hne => ?_
    obtain ⟨l, e, he⟩ := D.reached hE hv hw (by omega)
    have := he.le hE hv
    exact hn ⟨l, by omega, he.1⟩
  have h2 := gdAll_ge (M := M) (n := n) (m := n) hv hw
  have h3 : gdAll M n n ≤ 8 := by
    rcases gdAll_hit (M := M) (n := n) n with e | ⟨a, b, _, _, e⟩
    · omega
    · have := D.le a b; omega
  omega
theorem dia_eq (hE : EdgeOK n E) (h8 : n ≤ 8) (h0 : 0 < n) (D : Dist E n n M) (hall : ∀ v, v < n → ∀ w, w < n → Rch E v n w) {d : Nat} (H : Dia E n n 0 d) : gdAll M n n = d ∧ d < 8 := by
  have ex : ∀ a b, a < n → b < n → ∃ l : Nat, M a b = l ∧ Exact E a b l := fun a b ha hb => by
    obtain ⟨l, hl, w⟩ := hall a ha b hb
    obtain ⟨m, hm, he⟩ := w.exact
    exact ⟨m, D.exact hE ha he h8, he⟩
  have top : ∀ a b, a < n → b < n → M a b ≤ d := fun a b ha hb => by
    obtain ⟨l, e, he⟩ := ex a b ha hb
    have := H.top a b l ha (.inl ha) he
    omega
  have hle : gdAll M n n ≤ d := by
    rcases gdAll_hit (M := M) (n := n) n with e | ⟨a, b, ha, hb, e⟩
    · omega
    · have := top a b ha hb; omega
  rcases H.hit with e | ⟨a, b, ha, hb, he⟩
  · subst e
    have := gdAll_ge (M := M) (n := n) (m := n) h0 h0
    have := D.nonneg 0 0
    omega
  · have h1 := D.exact hE ha he h8
    have h2 := gdAll_ge (M := M) (n := n) (m := n) ha hb
    have h3 := he.le hE ha
    omega
end
end Go.Ro
