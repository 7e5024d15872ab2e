/- How many permutations omega networks pass: a quick count. -/
import Derived.Test.YtpfkmdbdafpadaaDoorKD
set_option linter.unusedSimpArgs false
set_option linter.unusedVariables false
namespace Go.Pa
def lin (k j s t : Nat) : Nat := (s % 2 ^ (k - j)) * 2 ^ j + t / 2 ^ (k - j)
def Inj (ln : Nat → Nat) (n : Nat) : Prop := ∀ i, i < n → ∀ s, s < i → ln s ≠ ln i
instance (ln : Nat → Nat) (n : Nat) : Decidable (Inj ln n) := inferInstanceAs (Decidable (∀ i, i < n → ∀ s, s < i → ln s ≠ ln i))
theorem inj_succ {ln : Nat → Nat} {n : Nat} : Inj ln (n + 1) ↔ Inj ln n ∧ ∀ s, s < n → ln s ≠ ln n := by
  constructor
  · exact fun H => ⟨fun i hi s hs => H i (by omega) s hs, fun s hs => H n (by omega) s hs⟩
  · intro ⟨H, G⟩ i hi s hs
    by_cases e : i = n
    · subst e; exact G s hs
    · exact H i (by omega) s hs
theorem inj_nodup {ln : Nat → Nat} : ∀ n, Inj ln n ↔ ((List.range n).map ln).Nodup
  | 0 => by simp [Inj]
  | n + 1 => by
    rw [inj_succ, inj_nodup n, List.range_succ, List.map_append, List.nodup_append]
    constructor
    · intro ⟨h1, h2⟩
      refine ⟨h1, by simp, fun a ha b hb => ?_⟩
      obtain ⟨s, hs, rfl⟩ := List.mem_map.1 ha
      simp only [List.map_cons, List.map_nil, List.mem_singleton] at hb
      rw [hb]
      exact h2 s (List.mem_range.1 hs)
    · intro ⟨h1, _, h2⟩
      exact ⟨h1, fun s hs => h2 _ (List.mem_map.2 ⟨s, List.mem_range.2 hs, rfl⟩) _ (by simp)⟩
/- Lines, one after the other. -/
def lins (k j : Nat) : List Nat → Nat → List Nat
  | [], _ => []
  | t :: l, s => lin k j s t :: lins k j l (s + 1)
theorem lins_eq {k j : Nat} : ∀ {l : List Nat} {s : Nat}, lins k j l s = (List.range l.length).map fun i => lin k j (s + i) (l.getD i 0)
  | [], s => rfl
  | t :: l, s => by
    rw [lins, lins_eq (l := l), List.length_cons, List.range_succ_eq_map, List.map_cons, List.map_map]
    congr 1
    refine List.map_congr_left fun i _ => ?_
    simp only [Function.comp, List.getD_cons_succ]
    congr 1
    omega
def msk : List Nat → Nat → Bool
  | [], _ => true
  | x :: l, m => bif Nat.testBit m x then false else msk l (m ||| 2 ^ x)
theorem msk_iff : ∀ {l : List Nat} {m : Nat}, msk l m = true ↔ (∀ x ∈ l, Nat.testBit m x = false) ∧ l.Nodup
  | [], m => by simp [msk]
  | x :: l, m => by
    simp only [msk]
    cases hb : Nat.testBit m x
    · simp only [cond_false, msk_iff (l := l), List.nodup_cons, List.mem_cons, Nat.testBit_or, Nat.testBit_two_pow, Bool.or_eq_false_iff, decide_eq_false_iff_not]
      constructor
      · rintro ⟨h1, h2⟩
        exact ⟨fun y hy => hy.elim (fun e => by rw [e]; exact hb) fun hy => (h1 y hy).1, fun hx => (h1 x hx).2 rfl, h2⟩
      · rintro ⟨h1, h2, h3⟩
        exact ⟨fun y hy => ⟨h1 y (.inr hy), fun e => h2 (by rw [e]; exact hy)⟩, h3⟩
    · simp only [cond_true]
      constructor
      · intro h; cases h
      · intro ⟨h, _⟩
        rw [h x (by simp)] at hb
        cases hb
def omq (k : Nat) (l : List Nat) : Bool := (List.range k).all fun j => msk (lins k (j + 1) l 0) 0
theorem omq_iff {k : Nat} {l : List Nat} : omq k l = true ↔ ∀ j, j < k → Inj (fun s => lin k (j + 1) s (l.getD s 0)) l.length := by
  unfold omq
  rw [List.all_eq_true]
  constructor
  · intro H j hj
    have := (msk_iff.1 (H j (List.mem_range.2 hj))).2
    rw [lins_eq] at this
    rw [inj_nodup]
    simpa using this
  · intro H j hj
    rw [msk_iff, lins_eq]
    refine ⟨fun x _ => Nat.zero_testBit _, ?_⟩
    have := (inj_nodup _).1 (H j (List.mem_range.1 hj))
    simpa using this
/- The digits of a number, and what is left. -/
def rst (p : Nat) : Nat → Nat
  | 0 => p
  | i + 1 => rst p i / (i + 1)
def dgts (p : Nat) : Nat → List Nat
  | 0 => []
  | i + 1 => dgts p i ++ [rst p i % (i + 1)]
theorem dgts_len {p : Nat} : ∀ i, (dgts p i).length = i
  | 0 => rfl
  | i + 1 => by rw [dgts, List.length_append, dgts_len i]; rfl
theorem dgts_at {p : Nat} : ∀ {n i : Nat}, i < n → (dgts p n).getD i 0 = rst p i % (i + 1)
  | 0, i, h => absurd h (by omega)
  | n + 1, i, h => by
    have hl := dgts_len (p := p) n
    rw [dgts]
    by_cases e : i < n
    · have := dgts_at (p := p) e
      rw [← this]
      simp only [List.getD_eq_getElem?_getD]
      rw [List.getElem?_append_left (by omega)]
    · have e' : i = n := by omega
      subst e'
      simp only [List.getD_eq_getElem?_getD]
      rw [List.getElem?_append_right (by omega), hl, Nat.sub_self]
      rfl
def nq (p : Nat) : Nat → List Nat
  | 0 => []
  | i + 1 => insP (nq p i) (rst p i % (i + 1)) i
theorem nq_eq {p n : Nat} : ∀ i, i ≤ n → nthC (dgts p n) i = nq p i
  | 0, _ => rfl
  | i + 1, h => by
    rw [nthC, nq, nq_eq i (by omega), dgts_at (by omega), Nat.mod_mod]
/- Quick: forward. -/
def nf : Nat → Nat → Nat → List Nat → List Nat
  | 0, _, _, o => o
  | f + 1, i, r, o => nf f (i + 1) (r / (i + 1)) (insP o (r % (i + 1)) i)
theorem nf_eq {p : Nat} : ∀ f i, nf f i (rst p i) (nq p i) = nq p (i + f)
  | 0, i => rfl
  | f + 1, i => by
    rw [nf]
    have := nf_eq (p := p) f (i + 1)
    rw [show i + 1 + f = i + (f + 1) by omega] at this
    exact this
def cnt (k : Nat) : Nat → Nat
  | 0 => 0
  | p + 1 => cnt k p + if omq k (nq p (2 ^ k)) = true then 1 else 0
def cf (k n : Nat) : Nat → Nat → Nat → Nat
  | 0, _, acc => acc
  | f + 1, p, acc => cf k n f (p + 1) (bif omq k (nf n 0 p []) then acc + 1 else acc)
theorem cf_eq {k : Nat} : ∀ f p acc, acc = cnt k p → cf k (2 ^ k) f p acc = cnt k (p + f)
  | 0, p, acc, h => h
  | f + 1, p, acc, h => by
    rw [cf, cf_eq f (p + 1), show p + 1 + f = p + (f + 1) by omega]
    have e : nf (2 ^ k) 0 p [] = nq p (2 ^ k) := by
      have := nf_eq (p := p) (2 ^ k) 0
      rw [Nat.zero_add] at this
      exact this
    rw [cnt, e, h]
    cases omq k (nq p (2 ^ k)) <;> simp
/- A part of the count. -/
theorem cf_part {k a b c f : Nat} (h : cf k (2 ^ k) f a 0 = c) (ha : cnt k a = b) : cnt k (a + f) = b + c := by
  have key : ∀ f p acc d, cf k (2 ^ k) f p (acc + d) = cf k (2 ^ k) f p acc + d := by
    intro f
    induction f with
    | zero => intro p acc d; rfl
    | succ f ih =>
      intro p acc d
      rw [cf, cf]
      cases omq k (nf (2 ^ k) 0 p []) with
      | true =>
        simp only [cond_true]
        rw [show acc + d + 1 = acc + 1 + d by omega, ih]
      | false =>
        simp only [cond_false]
        rw [ih]
  have := cf_eq f a (0 + b) (by rw [ha]; omega)
  rw [key, h] at this
  omega
end Go.Pa
