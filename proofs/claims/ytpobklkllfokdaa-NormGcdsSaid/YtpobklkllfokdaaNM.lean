/- The reference's division: the best of 32 candidates. -/
import Derived.Test.YtpobklkllfokdaaNH
set_option linter.unusedSimpArgs false
set_option linter.unusedVariables false
set_option maxHeartbeats 1000000
namespace Go.Nm
def belI (p n b : Int) : Int := if (p / n) % 2 = b then p / n else p / n - 1
def candI (p n b : Int) (u k : Nat) : Int := belI p n b + 2 * ((u : Int) / 2 ^ k % 2)
def candQ (s : Qt) (n : Int) (m : Nat) : Qt :=
  ⟨candI s.a n ((m / 16 : Nat) : Int) (m % 16) 0, candI s.b n ((m / 16 : Nat) : Int) (m % 16) 1, candI s.c n ((m / 16 : Nat) : Int) (m % 16) 2, candI s.d n ((m / 16 : Nat) : Int) (m % 16) 3⟩
def bestQ (s : Qt) (n : Int) : Nat → Qt
  | 0 => ⟨0, 0, 0, 0⟩
  | m + 1 => if m = 0 ∨ s.gap n (candQ s n m) < s.gap n (bestQ s n m) ∨ (s.gap n (candQ s n m) = s.gap n (bestQ s n m) ∧ (candQ s n m).lst < (bestQ s n m).lst) then candQ s n m else bestQ s n m
def leQ (s : Qt) (n : Int) (x y : Qt) : Prop := s.gap n x < s.gap n y ∨ (s.gap n x = s.gap n y ∧ x.lst ≤ y.lst)
theorem leQ_trans {s : Qt} {n : Int} {x y z : Qt} (h1 : leQ s n x y) (h2 : leQ s n y z) : leQ s n x z := by
  unfold leQ at *
  rcases h1 with h1 | ⟨h1, h3⟩ <;> rcases h2 with h2 | ⟨h2, h4⟩
  · left; omega
  · left; omega
  · left; omega
  · exact .inr ⟨by omega, List.le_trans h3 h4⟩
theorem leQ_anti {s : Qt} {n : Int} {x y : Qt} (h1 : leQ s n x y) (h2 : leQ s n y x) : x = y := by
  unfold leQ at *
  have h : x.lst ≤ y.lst ∧ y.lst ≤ x.lst := by
    rcases h1 with h1 | ⟨h1, h3⟩ <;> rcases h2 with h2 | ⟨h2, h4⟩
    · exfalso; omega
    · exfalso; omega
    · exfalso; omega
    · exact ⟨h3, h4⟩
  have e := List.le_antisymm h.1 h.2
  cases x; cases y
  simpa [Qt.lst] using e
theorem leQ_refl {s : Qt} {n : Int} {x : Qt} : leQ s n x x := .inr ⟨rfl, List.le_refl _⟩
theorem bestQ_min {s : Qt} {n : Int} : ∀ {m : Nat}, 0 < m → (∃ i, i < m ∧ bestQ s n m = candQ s n i) ∧ ∀ j, j < m → leQ s n (bestQ s n m) (candQ s n j)
  | 0, h => absurd h (by omega)
  | 1, _ => by
    have e : bestQ s n 1 = candQ s n 0 := by rw [bestQ, if_pos (.inl rfl)]
    rw [e]
    refine ⟨⟨0, by omega, rfl⟩, fun j hj => ?_⟩
    rw [show j = 0 by omega]
    exact leQ_refl
  | m + 2, _ => by
    obtain ⟨⟨i, hi, hb⟩, h2⟩ := bestQ_min (s := s) (n := n) (m := m + 1) (by omega)
    rw [bestQ]
    split
    · rename_i h
      have hl : leQ s n (candQ s n (m + 1)) (bestQ s n (m + 1)) := by
        rcases h with h | h | h
        · exact absurd h (by omega)
        · exact .inl h
        · exact .inr ⟨h.1, List.le_of_lt h.2⟩
      refine ⟨⟨m + 1, by omega, rfl⟩, fun j hj => ?_⟩
      rcases (by omega : j < m + 1 ∨ j = m + 1) with hj | rfl
      · exact leQ_trans hl (h2 j hj)
      · exact leQ_refl
    · rename_i h
      refine ⟨⟨i, by omega, hb⟩, fun j hj => ?_⟩
      rcases (by omega : j < m + 1 ∨ j = m + 1) with hj | rfl
      · exact h2 j hj
      · rcases Int.lt_trichotomy (s.gap n (bestQ s n (m + 1))) (s.gap n (candQ s n (m + 1))) with g | g | g
        · exact .inl g
        · exact .inr ⟨g, fun hl => h (.inr (.inr ⟨g.symm, hl⟩))⟩
        · exact absurd (.inr (.inl g)) h
theorem sq_mono {a b : Int} (h1 : -b ≤ a) (h2 : a ≤ b) : sqr a ≤ sqr b := by
  unfold sqr
  have := Int.mul_nonneg (show 0 ≤ b - a by omega) (show 0 ≤ b + a by omega)
  grind
theorem sq_monoS {a b : Int} (h1 : -b < a) (h2 : a < b) : sqr a < sqr b := by
  unfold sqr
  have := Int.mul_pos (show 0 < b - a by omega) (show 0 < b + a by omega)
  grind
theorem sqr_neg {a : Int} : sqr (-a) = sqr a := by unfold sqr; exact Int.neg_mul_neg a a
theorem belI_spec {p n b : Int} (hn : 1 ≤ n) (hb : b = 0 ∨ b = 1) : n * belI p n b ≤ p ∧ p < n * belI p n b + 2 * n ∧ belI p n b % 2 = b := by
  have h1 := Int.emod_nonneg p (by omega : n ≠ 0)
  have h2 := Int.emod_lt_of_pos p (show 0 < n by omega)
  have h3 := Int.mul_ediv_add_emod p n
  unfold belI
  split
  · rename_i h; exact ⟨by omega, by omega, h⟩
  · rename_i h
    rw [Int.mul_sub, Int.mul_one]
    exact ⟨by omega, by omega, by omega⟩
theorem near_cand {p n b : Int} (hn : 1 ≤ n) (hb : b = 0 ∨ b = 1) :
    (near1 p n b = belI p n b ∨ near1 p n b = belI p n b + 2) ∧ (∀ v : Int, v = belI p n b ∨ v = belI p n b + 2 → sqr (p - n * near1 p n b) ≤ sqr (p - n * v) ∧ (sqr (p - n * near1 p n b) = sqr (p - n * v) → near1 p n b ≤ v)) := by
  obtain ⟨c1, c2, c3⟩ := belI_spec (p := p) hn hb
  obtain ⟨e0, e1, e2⟩ := rnd_near (a := p - b * n) (b := 2 * n) (by omega) (by omega)
  rw [show 2 * n / 2 = n by omega] at e0 e1 e2
  have x0 : near1 p n b % 2 = b := by unfold near1; omega
  have x1 : n * near1 p n b = 2 * n * rnd (p - b * n) (2 * n) + b * n := by unfold near1; grind
  rw [show 2 * n * rnd (p - b * n) (2 * n) = n * near1 p n b - b * n by omega] at e0 e1 e2
  generalize near1 p n b = w at *
  generalize belI p n b = v at *
  have d1 : w < v + 3 := by
    rcases Int.lt_or_le w (v + 3) with h | h
    · exact h
    · have := Int.mul_le_mul_of_nonneg_left h (show 0 ≤ n by omega)
      rw [Int.mul_add] at this
      omega
  have d2 : v - 2 < w := by
    rcases Int.lt_or_le (v - 2) w with h | h
    · exact h
    · have := Int.mul_le_mul_of_nonneg_left h (show 0 ≤ n by omega)
      rw [Int.mul_sub] at this
      omega
  have d3 : w = v ∨ w = v + 2 := by omega
  refine ⟨d3, fun u hu => ?_⟩
  have f2 : n * (v + 2) = n * v + 2 * n := by grind
  rcases d3 with rfl | rfl
  · rcases hu with rfl | rfl
    · exact ⟨Int.le_refl _, fun _ => Int.le_refl _⟩
    · rw [f2, ← sqr_neg (a := p - (n * w + 2 * n))]
      exact ⟨sq_mono (by omega) (by omega), fun _ => by omega⟩
  · rcases hu with rfl | rfl
    · rw [f2] at *
      have := sq_monoS (a := p - (n * u + 2 * n)) (b := p - n * u) (by omega) (by omega)
      exact ⟨by omega, fun h => by omega⟩
    · exact ⟨Int.le_refl _, fun _ => Int.le_refl _⟩
theorem le4 {a b c d a' b' c' d' : Int} (h1 : a ≤ a') (h2 : b ≤ b') (h3 : c ≤ c') (h4 : d ≤ d') : [a, b, c, d] ≤ [a', b', c', d'] := by
  simp only [List.cons_le_cons_iff]
  rcases (by omega : a < a' ∨ a = a') with h | h
  · exact .inl h
  refine .inr ⟨h, ?_⟩
  rcases (by omega : b < b' ∨ b = b') with h | h
  · exact .inl h
  refine .inr ⟨h, ?_⟩
  rcases (by omega : c < c' ∨ c = c') with h | h
  · exact .inl h
  refine .inr ⟨h, ?_⟩
  rcases (by omega : d < d' ∨ d = d') with h | h
  · exact .inl h
  exact .inr ⟨h, List.le_refl _⟩
theorem candI_or {p n b : Int} {u k : Nat} : candI p n b u k = belI p n b ∨ candI p n b u k = belI p n b + 2 := by
  unfold candI
  omega
theorem near_le {s : Qt} {n : Int} (hn : 1 ≤ n) {m : Nat} (hm : m < 32) : leQ s n (s.near n ((m / 16 : Nat) : Int)) (candQ s n m) := by
  have hb : ((m / 16 : Nat) : Int) = 0 ∨ ((m / 16 : Nat) : Int) = 1 := by omega
  obtain ⟨a1, a2⟩ := (near_cand (p := s.a) hn hb).2 _ (candI_or (u := m % 16) (k := 0))
  obtain ⟨b1, b2⟩ := (near_cand (p := s.b) hn hb).2 _ (candI_or (u := m % 16) (k := 1))
  obtain ⟨c1, c2⟩ := (near_cand (p := s.c) hn hb).2 _ (candI_or (u := m % 16) (k := 2))
  obtain ⟨d1, d2⟩ := (near_cand (p := s.d) hn hb).2 _ (candI_or (u := m % 16) (k := 3))
  unfold leQ
  simp only [Qt.gap, Qt.near, candQ, Qt.lst]
  rcases Int.lt_or_le (sqr (s.a - n * near1 s.a n ((m / 16 : Nat) : Int)) + sqr (s.b - n * near1 s.b n ((m / 16 : Nat) : Int)) + sqr (s.c - n * near1 s.c n ((m / 16 : Nat) : Int)) + sqr (s.d - n * near1 s.d n ((m / 16 : Nat) : Int)))
    (sqr (s.a - n * candI s.a n ((m / 16 : Nat) : Int) (m % 16) 0) + sqr (s.b - n * candI s.b n ((m / 16 : Nat) : Int) (m % 16) 1) + sqr (s.c - n * candI s.c n ((m / 16 : Nat) : Int) (m % 16) 2) + sqr (s.d - n * candI s.d n ((m / 16 : Nat) : Int) (m % 16) 3)) with h | h
  · exact .inl h
  · exact .inr ⟨by omega, le4 (a2 (by omega)) (b2 (by omega)) (c2 (by omega)) (d2 (by omega))⟩
theorem near_is {s : Qt} {n : Int} (hn : 1 ≤ n) {b : Nat} (hb : b < 2) : ∃ m, m < 32 ∧ s.near n (b : Int) = candQ s n m := by
  have hb' : (b : Int) = 0 ∨ (b : Int) = 1 := by omega
  have pick : ∀ p : Int, ∃ j : Nat, j < 2 ∧ near1 p n b = belI p n b + 2 * j := fun p => by
    rcases (near_cand (p := p) hn hb').1 with h | h
    · exact ⟨0, by omega, by omega⟩
    · exact ⟨1, by omega, by omega⟩
  obtain ⟨j0, l0, h0⟩ := pick s.a
  obtain ⟨j1, l1, h1⟩ := pick s.b
  obtain ⟨j2, l2, h2⟩ := pick s.c
  obtain ⟨j3, l3, h3⟩ := pick s.d
  refine ⟨16 * b + (j0 + 2 * j1 + 4 * j2 + 8 * j3), by omega, ?_⟩
  have e1 : (16 * b + (j0 + 2 * j1 + 4 * j2 + 8 * j3)) / 16 = b := by omega
  have e2 : (16 * b + (j0 + 2 * j1 + 4 * j2 + 8 * j3)) % 16 = j0 + 2 * j1 + 4 * j2 + 8 * j3 := by omega
  simp only [candQ, Qt.near, e1, e2, candI, h0, h1, h2, h3, Qt.mk.injEq]
  refine ⟨?_, ?_, ?_, ?_⟩ <;> simp only [Int.reducePow] <;> omega
theorem bestQ_quo {x y : Qt} (hn : 1 ≤ y.nrm) : bestQ (x.mul y.conj) y.nrm 32 = x.quo y := by
  obtain ⟨⟨i, hi, hb⟩, hmin⟩ := bestQ_min (s := x.mul y.conj) (n := y.nrm) (m := 32) (by omega)
  have hq : (∃ m, m < 32 ∧ x.quo y = candQ (x.mul y.conj) y.nrm m) ∧ leQ (x.mul y.conj) y.nrm (x.quo y) ((x.mul y.conj).near y.nrm 0) ∧ leQ (x.mul y.conj) y.nrm (x.quo y) ((x.mul y.conj).near y.nrm 1) := by
    unfold Qt.quo
    simp only
    split
    · rename_i h
      refine ⟨near_is hn (b := 1) (by omega), ?_, leQ_refl⟩
      rcases h with h | h
      · exact .inl h
      · exact .inr ⟨h.1, List.le_of_lt (cmpL_neg.1 h.2)⟩
    · rename_i h
      refine ⟨near_is hn (b := 0) (by omega), leQ_refl, ?_⟩
      rcases Int.lt_trichotomy ((x.mul y.conj).gap y.nrm ((x.mul y.conj).near y.nrm 0)) ((x.mul y.conj).gap y.nrm ((x.mul y.conj).near y.nrm 1)) with g | g | g
      · exact .inl g
      · exact .inr ⟨g, fun hl => h (.inr ⟨g.symm, cmpL_neg.2 hl⟩)⟩
      · exact absurd (.inl g) h
  obtain ⟨⟨k, hk, ek⟩, q0, q1⟩ := hq
  refine leQ_anti (s := x.mul y.conj) (n := y.nrm) (by rw [ek]; exact hmin k hk) ?_
  rw [hb]
  have := near_le (s := x.mul y.conj) hn hi
  rcases (by omega : i / 16 = 0 ∨ i / 16 = 1) with h | h
  · rw [h] at this; exact leQ_trans q0 this
  · rw [h] at this; exact leQ_trans q1 this
end Go.Nm
namespace Go.Proofs.Ytpobklkllfokdaa
open Go Go.Abs Go.Nm

theorem f54 (p n b : Int) (h : Hp) (hk : Hok h) (hp : -67108864 ≤ p ∧ p ≤ 67108864) (hn : 1 ≤ n ∧ n ≤ 8388608) (hb : b = 0 ∨ b = 1) :
    Evals Try.prog tab false (.func 54) [.int .i64 p, .int .i64 n, .int .i64 b] h (.int .i64 (belI p n b), h) := by
  refine evals_pure c54 rfl hk ?_
  simp only [sf54, initS_cons, initS_nil]
  have ht : p.tdiv n = p / n ∨ p.tdiv n = p / n + 1 := by
    rw [Int.tdiv_eq_ediv, Int.sign_eq_one_of_pos (by omega)]
    split <;> omega
  have hB : belI p n b = p / n ∨ belI p n b = p / n - 1 := by unfold belI; split <;> omega
  have hpar := (belI_spec (p := p) hn.1 hb).2.2
  have hd1 : -67108864 ≤ p / n := (Int.le_ediv_iff_mul_le (by omega)).2 (by omega)
  have hd2 : p / n < 67108865 := Int.ediv_lt_of_lt_mul (by omega) (by omega)
  simp (disch := first|(simp only [Nat.reduceBEq,wE];done)|((repeat' (first|assumption|exact mAx _|refine mBx ?_ ?_|exact mCx (by assumption)|refine mDx ?_|refine mEx ?_ ?_ ?_|exact mFx|refine mGx ?_ ?_ ?_|exact mHx|exact mIx _|(simp only [wM,Nat.reduceAdd,Nat.reduceLT,Nat.reduceLeDiff];done)));done)|omega|decide) only [sBin_quoL, ↓wA,wB,wL,resOf,Nat.reduceBEq,Int.reduceBEq,Int.reduceBNe,Int.reduceLT,Int.reduceLE,Int.reduceAdd,Int.reduceSub,Int.reduceMul,Int.reduceToNat]
  refine wloop (fun mm ss => ∃ (q : Int) (u6 u21 : AV), (mm = (q - belI p n b).toNat) ∧ (belI p n b ≤ q ∧ q ≤ p / n + 1) ∧ ss = { fr := [(0, .int .i64 p), (1, .int .i64 n), (2, .int .i64 b), (6, u6), (7, .int .i64 q), (21, u21)], hp := { next := h.next, blks := h.blks, loops := h.loops, base := h.next, esc := false } }) ((p.tdiv n - belI p n b).toNat) ?_ ?_
  ·
    refine ⟨p.tdiv n, _, _, rfl, ⟨by omega, by omega⟩, rfl⟩
  rintro nA sA ⟨q, u6, u21, hnA, ⟨hq, hq2⟩, rfl⟩
  have hm := Nm.mul_bd 67108866 8388608 (x := q) (y := n) (by omega) (by omega)
  have hiff : q ≤ p / n ↔ q * n ≤ p := Int.le_ediv_iff_mul_le (by omega)
  simp (disch := first|(simp only [Nat.reduceBEq,wE];done)|((repeat' (first|assumption|exact mAx _|refine mBx ?_ ?_|exact mCx (by assumption)|refine mDx ?_|refine mEx ?_ ?_ ?_|exact mFx|refine mGx ?_ ?_ ?_|exact mHx|exact mIx _|(simp only [wM,Nat.reduceAdd,Nat.reduceLT,Nat.reduceLeDiff];done)));done)|omega|decide) only [↓wA,wB,wL,resOf,Nat.reduceBEq,Int.reduceBEq,Int.reduceBNe,Int.reduceLT,Int.reduceLE,Int.reduceAdd,Int.reduceSub,Int.reduceMul,Int.reduceToNat]
  by_cases g1 : p < q * n
  · simp (disch := first|(simp only [Nat.reduceBEq,wE];done)|((repeat' (first|assumption|exact mAx _|refine mBx ?_ ?_|exact mCx (by assumption)|refine mDx ?_|refine mEx ?_ ?_ ?_|exact mFx|refine mGx ?_ ?_ ?_|exact mHx|exact mIx _|(simp only [wM,Nat.reduceAdd,Nat.reduceLT,Nat.reduceLeDiff];done)));done)|omega|decide) only [decide_eq_true g1, ↓wA,wB,wL,resOf,Nat.reduceBEq,Int.reduceBEq,Int.reduceBNe,Int.reduceLT,Int.reduceLE,Int.reduceAdd,Int.reduceSub,Int.reduceMul,Int.reduceToNat]
    refine ⟨_, ?_, q - 1, _, _, rfl, ?_, rfl⟩
    · omega
    exact ⟨by omega, by omega⟩
  · by_cases g2 : q % 2 = b
    · have g2' : (q % 2 != b) = false := by simp [g2]
      simp (disch := first|(simp only [Nat.reduceBEq,wE];done)|((repeat' (first|assumption|exact mAx _|refine mBx ?_ ?_|exact mCx (by assumption)|refine mDx ?_|refine mEx ?_ ?_ ?_|exact mFx|refine mGx ?_ ?_ ?_|exact mHx|exact mIx _|(simp only [wM,Nat.reduceAdd,Nat.reduceLT,Nat.reduceLeDiff];done)));done)|omega|decide) only [decide_eq_false g1, g2', ↓wA,wB,wL,resOf,Nat.reduceBEq,Int.reduceBEq,Int.reduceBNe,Int.reduceLT,Int.reduceLE,Int.reduceAdd,Int.reduceSub,Int.reduceMul,Int.reduceToNat]
      exact ⟨_, rfl, by rw [show belI p n b = q by omega], by (repeat' (first|assumption|exact mAx _|refine mBx ?_ ?_|exact mCx (by assumption)|refine mDx ?_|refine mEx ?_ ?_ ?_|exact mFx|refine mGx ?_ ?_ ?_|exact mHx|exact mIx _|(simp only [wM,Nat.reduceAdd,Nat.reduceLT,Nat.reduceLeDiff];done)))⟩
    · have g2' : (q % 2 != b) = true := by simp [g2]
      simp (disch := first|(simp only [Nat.reduceBEq,wE];done)|((repeat' (first|assumption|exact mAx _|refine mBx ?_ ?_|exact mCx (by assumption)|refine mDx ?_|refine mEx ?_ ?_ ?_|exact mFx|refine mGx ?_ ?_ ?_|exact mHx|exact mIx _|(simp only [wM,Nat.reduceAdd,Nat.reduceLT,Nat.reduceLeDiff];done)));done)|omega|decide) only [decide_eq_false g1, g2', ↓wA,wB,wL,resOf,Nat.reduceBEq,Int.reduceBEq,Int.reduceBNe,Int.reduceLT,Int.reduceLE,Int.reduceAdd,Int.reduceSub,Int.reduceMul,Int.reduceToNat]
      refine ⟨_, ?_, q - 1, _, _, rfl, ?_, rfl⟩
      · omega
      exact ⟨by omega, by omega⟩
end Go.Proofs.Ytpobklkllfokdaa
