/- Division of quaternions, mathematics: the remainder's norm is at most half of the divisor's; Euclid's algorithm. Division. Euclid's algorithm in norm. -/
import Derived.Test.YthalpbiifpfagaaNB
import Derived.Test.YthalpbiifpfagaaNA
set_option linter.unusedSimpArgs false
set_option linter.unusedVariables false
set_option maxHeartbeats 1000000

namespace Go.Nm

theorem Qt.ext' {x y : Qt} (h1 : x.a = y.a) (h2 : x.b = y.b) (h3 : x.c = y.c) (h4 : x.d = y.d) : x = y := by
  cases x; cases y; simp only at h1 h2 h3 h4; subst h1 h2 h3 h4; rfl
theorem Qt.mul_assoc {x y z : Qt} (hx : x.int) (hy : y.int) (hz : z.int) : (x.mul y).mul z = x.mul (y.mul z) := by
  obtain ⟨a1, a2, a3, a4⟩ := Qt.mul_two hx hy
  obtain ⟨b1, b2, b3, b4⟩ := Qt.mul_two hy hz
  have ixy := (Qt.mul_int hx hy).2.2.2.2
  have iyz := (Qt.mul_int hy hz).2.2.2.2
  obtain ⟨c1, c2, c3, c4⟩ := Qt.mul_two ixy hz
  obtain ⟨d1, d2, d3, d4⟩ := Qt.mul_two hx iyz
  generalize (x.mul y).mul z = l at *
  generalize x.mul (y.mul z) = r at *
  generalize x.mul y = m at *
  generalize y.mul z = k at *
  simp only [Qt.sa, Qt.sb, Qt.sc, Qt.sd] at *
  apply Qt.ext'
  · have : 4 * l.a = 4 * r.a := by
      have e1 : 4 * l.a = (2 * m.a) * z.a - (2 * m.b) * z.b - (2 * m.c) * z.c - (2 * m.d) * z.d := by grind
      have e2 : 4 * r.a = x.a * (2 * k.a) - x.b * (2 * k.b) - x.c * (2 * k.c) - x.d * (2 * k.d) := by grind
      rw [e1, e2, a1, a2, a3, a4, b1, b2, b3, b4]
      grind
    omega
  · have : 4 * l.b = 4 * r.b := by
      have e1 : 4 * l.b = (2 * m.a) * z.b + (2 * m.b) * z.a + (2 * m.c) * z.d - (2 * m.d) * z.c := by grind
      have e2 : 4 * r.b = x.a * (2 * k.b) + x.b * (2 * k.a) + x.c * (2 * k.d) - x.d * (2 * k.c) := by grind
      rw [e1, e2, a1, a2, a3, a4, b1, b2, b3, b4]
      grind
    omega
  · have : 4 * l.c = 4 * r.c := by
      have e1 : 4 * l.c = (2 * m.a) * z.c - (2 * m.b) * z.d + (2 * m.c) * z.a + (2 * m.d) * z.b := by grind
      have e2 : 4 * r.c = x.a * (2 * k.c) - x.b * (2 * k.d) + x.c * (2 * k.a) + x.d * (2 * k.b) := by grind
      rw [e1, e2, a1, a2, a3, a4, b1, b2, b3, b4]
      grind
    omega
  · have : 4 * l.d = 4 * r.d := by
      have e1 : 4 * l.d = (2 * m.a) * z.d + (2 * m.b) * z.c - (2 * m.c) * z.b + (2 * m.d) * z.a := by grind
      have e2 : 4 * r.d = x.a * (2 * k.d) + x.b * (2 * k.c) - x.c * (2 * k.b) + x.d * (2 * k.a) := by grind
      rw [e1, e2, a1, a2, a3, a4, b1, b2, b3, b4]
      grind
    omega
theorem Qt.sub_int {x y : Qt} (hx : x.int) (hy : y.int) : (x.sub y).int := by
  obtain ⟨h1, h2, h3⟩ := hx
  obtain ⟨g1, g2, g3⟩ := hy
  simp only [Qt.int, Qt.sub]
  omega
theorem Qt.sub_mul {x y z : Qt} (hx : x.int) (hy : y.int) (hz : z.int) : (x.sub y).mul z = (x.mul z).sub (y.mul z) := by
  obtain ⟨a1, a2, a3, a4⟩ := Qt.mul_two hx hz
  obtain ⟨b1, b2, b3, b4⟩ := Qt.mul_two hy hz
  obtain ⟨c1, c2, c3, c4⟩ := Qt.mul_two (Qt.sub_int hx hy) hz
  generalize (x.sub y).mul z = l at *
  generalize x.mul z = m at *
  generalize y.mul z = k at *
  simp only [Qt.sa, Qt.sb, Qt.sc, Qt.sd, Qt.sub] at *
  apply Qt.ext' <;> simp only <;> grind
theorem Qt.conj_mul_self {x : Qt} (hx : x.int) : x.conj.mul x = ⟨2 * x.nrm, 0, 0, 0⟩ := by
  have h := Qt.sq_four hx
  have e1 : x.conj.sa x = x.sq := by simp only [Qt.sa, Qt.conj, Qt.sq]; grind
  have e2 : x.conj.sb x = 0 := by simp only [Qt.sb, Qt.conj]; grind
  have e3 : x.conj.sc x = 0 := by simp only [Qt.sc, Qt.conj]; grind
  have e4 : x.conj.sd x = 0 := by simp only [Qt.sd, Qt.conj]; grind
  simp only [Qt.mul, e1, e2, e3, e4, Qt.mk.injEq]
  omega
theorem Qt.mul_real {q : Qt} {n : Int} : q.mul ⟨2 * n, 0, 0, 0⟩ = ⟨n * q.a, n * q.b, n * q.c, n * q.d⟩ := by
  have e1 : q.sa ⟨2 * n, 0, 0, 0⟩ = 2 * (n * q.a) := by simp only [Qt.sa]; grind
  have e2 : q.sb ⟨2 * n, 0, 0, 0⟩ = 2 * (n * q.b) := by simp only [Qt.sb]; grind
  have e3 : q.sc ⟨2 * n, 0, 0, 0⟩ = 2 * (n * q.c) := by simp only [Qt.sc]; grind
  have e4 : q.sd ⟨2 * n, 0, 0, 0⟩ = 2 * (n * q.d) := by simp only [Qt.sd]; grind
  simp only [Qt.mul, e1, e2, e3, e4, Qt.mk.injEq]
  omega
theorem Qt.conj_nrm {x : Qt} : x.conj.nrm = x.nrm := by
  simp only [Qt.nrm, Qt.sq, Qt.conj, Int.neg_mul_neg]
theorem Qt.real_int {n : Int} : (⟨2 * n, 0, 0, 0⟩ : Qt).int := by simp only [Qt.int]; omega
/-- What is left of x, times the conjugate. -/
theorem Qt.rest_gap {x y q : Qt} (hx : x.int) (hy : y.int) (hq : q.int) : 4 * ((x.sub (q.mul y)).nrm * y.nrm) = (x.mul y.conj).gap y.nrm q := by
  have iqy := (Qt.mul_int hq hy).2.2.2.2
  have hr := Qt.sub_int hx iqy
  have hc := Qt.conj_int hy
  have e1 := Qt.nrm_mul hr hc
  rw [Qt.conj_nrm] at e1
  rw [← e1, ← Qt.sq_four (Qt.mul_int hr hc).2.2.2.2, Qt.sub_mul hx iqy hc, Qt.mul_assoc hq hy hc, Qt.mul_conj hy, Qt.mul_real]
  simp only [Qt.sq, Qt.sub, Qt.gap, sqr]
theorem near_two {p n : Int} (hn : 1 ≤ n) : sqr (p - n * near1 p n 0) + sqr (p - n * near1 p n 1) ≤ n * n := by
  obtain ⟨_, e1, e2⟩ := rnd_near (a := p - 0 * n) (b := 2 * n) (by omega) (by omega)
  obtain ⟨_, o1, o2⟩ := rnd_near (a := p - 1 * n) (b := 2 * n) (by omega) (by omega)
  rw [show 2 * n / 2 = n by omega] at e1 e2 o1 o2
  unfold near1 sqr
  generalize rnd (p - 0 * n) (2 * n) = e at *
  generalize rnd (p - 1 * n) (2 * n) = o at *
  have x1 : n * (2 * e + 0) = 2 * n * e := by grind
  have x2 : n * (2 * o + 1) = 2 * n * o + n := by grind
  rw [x1, x2]
  obtain ⟨E, hE⟩ : ∃ E, E = 2 * n * e := ⟨_, rfl⟩
  obtain ⟨O, hO⟩ : ∃ O, O = 2 * n * o := ⟨_, rfl⟩
  rw [← hE] at e1 e2 ⊢
  rw [← hO] at o1 o2 ⊢
  have d : O = E ∨ O = E - 2 * n := by
    have h1 : O - E < 2 * n ∧ -(4 * n) < O - E := by omega
    have h2 : O - E = 2 * n * (o - e) := by grind
    have h3 : o - e < 1 := by
      rcases Int.lt_or_le (o - e) 1 with h | h
      · exact h
      · have := Int.mul_le_mul_of_nonneg_left h (show 0 ≤ 2 * n by omega)
        omega
    have h4 : -2 < o - e := by
      rcases Int.lt_or_le (-2) (o - e) with h | h
      · exact h
      · have := Int.mul_le_mul_of_nonneg_left h (show 0 ≤ 2 * n by omega)
        omega
    rcases (by omega : o - e = 0 ∨ o - e = -1) with h | h
    · left; rw [h] at h2; omega
    · right; rw [h] at h2; omega
  have key : ∀ u v : Int, 0 ≤ u → 0 ≤ v → u + v = n → u * u + v * v ≤ n * n := fun u v hu hv h => by
    have := Int.mul_nonneg hu hv
    subst h
    grind
  rcases d with d | d
  · have := key (p - E) (E + n - p) (by omega) (by omega) (by omega)
    have e : (p - (O + n)) * (p - (O + n)) = (E + n - p) * (E + n - p) := by rw [d]; grind
    omega
  · have := key (E - p) (p - (E - n)) (by omega) (by omega) (by omega)
    have e : (p - (O + n)) * (p - (O + n)) = (p - (E - n)) * (p - (E - n)) := by rw [d]; grind
    have e' : (p - E) * (p - E) = (E - p) * (E - p) := by grind
    omega
theorem Qt.quo_gap {x y : Qt} (hn : 1 ≤ y.nrm) : (x.mul y.conj).gap y.nrm (x.quo y) ≤ 2 * (y.nrm * y.nrm) := by
  have h1 := near_two (p := (x.mul y.conj).a) hn
  have h2 := near_two (p := (x.mul y.conj).b) hn
  have h3 := near_two (p := (x.mul y.conj).c) hn
  have h4 := near_two (p := (x.mul y.conj).d) hn
  have hs : (x.mul y.conj).gap y.nrm ((x.mul y.conj).near y.nrm 0) + (x.mul y.conj).gap y.nrm ((x.mul y.conj).near y.nrm 1) ≤ 4 * (y.nrm * y.nrm) := by
    simp only [Qt.gap, Qt.near]
    omega
  unfold Qt.quo
  simp only
  split <;> omega
/-- D2. -/
theorem Qt.rem_nrm {x y : Qt} (hx : x.int) (hy : y.int) (h0 : y ≠ ⟨0, 0, 0, 0⟩) : 2 * (x.rem y).nrm ≤ y.nrm := by
  have hn := Qt.nrm_pos hy h0
  have h1 := Qt.rest_gap hx hy (q := x.quo y) Qt.quo_int
  have h2 := Qt.quo_gap (x := x) hn
  have h3 : (x.rem y).nrm * y.nrm * 2 ≤ y.nrm * y.nrm := by
    unfold Qt.rem
    omega
  rcases Int.lt_or_le y.nrm (2 * (x.rem y).nrm) with h | h
  · exfalso
    have := Int.mul_le_mul_of_nonneg_right (show y.nrm + 1 ≤ 2 * (x.rem y).nrm by omega) (show 0 ≤ y.nrm by omega)
    have e1 : (y.nrm + 1) * y.nrm = y.nrm * y.nrm + y.nrm := by grind
    have e2 : 2 * (x.rem y).nrm * y.nrm = (x.rem y).nrm * y.nrm * 2 := by grind
    omega
  · exact h
theorem Qt.rem_int {x y : Qt} (hx : x.int) (hy : y.int) : (x.rem y).int := Qt.sub_int hx (Qt.mul_int Qt.quo_int hy).2.2.2.2
theorem Qt.nrm_nonneg {x : Qt} : 0 ≤ x.nrm := (Qt.nrm_bd (M := x.a.natAbs + x.b.natAbs + x.c.natAbs + x.d.natAbs) ⟨by omega, by omega, by omega, by omega⟩).1
theorem Qt.bd_nrm {x : Qt} (hx : x.int) (h : x.nrm ≤ 1000000) : x.bd 2000 := by
  have h4 := Qt.sq_four hx
  have ha := sq_le (a := x.a) (M := x.a.natAbs) (by omega)
  have hb := sq_le (a := x.b) (M := x.b.natAbs) (by omega)
  have hc := sq_le (a := x.c) (M := x.c.natAbs) (by omega)
  have hd := sq_le (a := x.d) (M := x.d.natAbs) (by omega)
  have hsq : x.sq = x.a * x.a + x.b * x.b + x.c * x.c + x.d * x.d := rfl
  have key : ∀ a : Int, a * a ≤ 4000000 → -2000 ≤ a ∧ a ≤ 2000 := fun a h => by
    rcases Int.lt_or_le a (-2000) with h1 | h1
    · exfalso
      have := Int.mul_le_mul_of_nonneg_left (show 2001 ≤ -a by omega) (show 0 ≤ -a by omega)
      rw [Int.neg_mul_neg] at this
      omega
    · rcases Int.lt_or_le 2000 a with h2 | h2
      · exfalso
        have := Int.mul_le_mul_of_nonneg_left (show 2001 ≤ a by omega) (show 0 ≤ a by omega)
        omega
      · exact ⟨h1, h2⟩
  exact ⟨key _ (by omega), key _ (by omega), key _ (by omega), key _ (by omega)⟩

/-- Euclid's algorithm. -/
def gcdN : Nat → Qt → Qt → Qt
  | 0, x, _ => x
  | k + 1, x, y => if y = ⟨0, 0, 0, 0⟩ then x else gcdN k y (x.rem y)
def Qt.gcd (x y : Qt) : Qt := gcdN (y.nrm.toNat + 1) x y
theorem gcdN_fuel : ∀ {k k' : Nat} {x y : Qt}, x.int → y.int → y.nrm.toNat < k → y.nrm.toNat < k' → gcdN k x y = gcdN k' x y
  | 0, _, _, _, _, _, h, _ => by omega
  | _, 0, _, _, _, _, _, h => by omega
  | k + 1, k' + 1, x, y, hx, hy, h, h' => by
    simp only [gcdN]
    by_cases h0 : y = ⟨0, 0, 0, 0⟩
    · rw [if_pos h0, if_pos h0]
    · rw [if_neg h0, if_neg h0]
      have := Qt.rem_nrm hx hy h0
      have := Qt.nrm_pos hy h0
      have := Qt.nrm_nonneg (x := x.rem y)
      exact gcdN_fuel hy (Qt.rem_int hx hy) (by omega) (by omega)
theorem Qt.gcd_zero {x : Qt} : x.gcd ⟨0, 0, 0, 0⟩ = x := by simp [Qt.gcd, gcdN]
theorem Qt.gcd_step {x y : Qt} (hx : x.int) (hy : y.int) (h0 : y ≠ ⟨0, 0, 0, 0⟩) : x.gcd y = y.gcd (x.rem y) := by
  have := Qt.rem_nrm hx hy h0
  have := Qt.nrm_pos hy h0
  have := Qt.nrm_nonneg (x := x.rem y)
  unfold Qt.gcd
  rw [show gcdN (y.nrm.toNat + 1) x y = gcdN y.nrm.toNat y (x.rem y) by simp only [gcdN, if_neg h0]]
  exact gcdN_fuel hy (Qt.rem_int hx hy) (by omega) (by omega)
theorem Qt.gcd_int {x y : Qt} (hx : x.int) (hy : y.int) : (x.gcd y).int := by
  unfold Qt.gcd
  generalize y.nrm.toNat + 1 = k
  induction k generalizing x y with
  | zero => exact hx
  | succ k ih =>
    simp only [gcdN]
    split
    · exact hx
    · exact ih hy (Qt.rem_int hx hy)
theorem Qt.gcd_nrm {x y : Qt} (hx : x.int) (hy : y.int) (nx : x.nrm ≤ 1000000) (ny : y.nrm ≤ 1000000) : (x.gcd y).nrm ≤ 1000000 := by
  unfold Qt.gcd
  generalize y.nrm.toNat + 1 = k
  induction k generalizing x y with
  | zero => exact nx
  | succ k ih =>
    simp only [gcdN]
    split
    · exact nx
    · rename_i h0
      have := Qt.rem_nrm hx hy h0
      have := Qt.nrm_nonneg (x := x.rem y)
      exact ih hy (Qt.rem_int hx hy) ny (by omega)

end Go.Nm


set_option linter.unusedSimpArgs false
set_option linter.unusedVariables false
set_option maxHeartbeats 1000000

namespace Go.Proofs.Ythalpbiifpfagaa

open Go Go.Abs Go.Nm

theorem pairQ {bs : List (Nat × Blk)} {n : Nat} {x y : Qt} : Quads ((n, { cells := [.int .i64 x.a, .int .i64 x.b, .int .i64 x.c, .int .i64 x.d, .int .i64 y.a, .int .i64 y.b, .int .i64 y.c, .int .i64 y.d], ch := n, wr := true }) :: bs) (.sl n 0 2 (some 2) 4) [x, y] :=
  Quads.top (l := [x, y]) rfl (Nat.le_refl 2)

set_option maxRecDepth 100000 in
set_option maxHeartbeats 4000000 in
theorem f31 (x y : Qt) (h : Hp) (hk : Hok h) (hx : x.bd 2000) (hy : y.bd 2000) (ix : x.int) (iy : y.int) (h0 : y ≠ ⟨0, 0, 0, 0⟩) :
    Evals Try.prog tab false (.func 31) [(AV.ag [.int .i64 x.a, .int .i64 x.b, .int .i64 x.c, .int .i64 x.d]), (AV.ag [.int .i64 y.a, .int .i64 y.b, .int .i64 y.c, .int .i64 y.d])] h (.tu [(AV.ag [.int .i64 ((x.quo y)).a, .int .i64 ((x.quo y)).b, .int .i64 ((x.quo y)).c, .int .i64 ((x.quo y)).d]), (AV.ag [.int .i64 ((x.rem y)).a, .int .i64 ((x.rem y)).b, .int .i64 ((x.rem y)).c, .int .i64 ((x.rem y)).d])], h) := by
  refine evals_pure c31 rfl hk ?_
  simp only [sf31, initS_cons, initS_nil]
  have hn : 1 ≤ y.nrm ∧ y.nrm ≤ 8388608 := ⟨Qt.nrm_pos iy h0, by have := Qt.nrm_bd hy; omega⟩
  have hs : (x.mul y.conj).bd 67108864 := Qt.bd_mono (Qt.mul_bd hx (Qt.conj_bd hy)) (by omega)
  have hq : (x.quo y).bd 16777216 := Qt.bd_mono (Qt.quo_bd hn.1 (Qt.mul_bd hx (Qt.conj_bd hy))) (by omega)
  have hp : ((x.quo y).mul y).bd 1000000000000 := Qt.bd_mono (Qt.mul_bd (Qt.quo_bd hn.1 (Qt.mul_bd hx (Qt.conj_bd hy))) hy) (by omega)
  have iq : (x.quo y).int := Qt.quo_int
  simp (disch := first|(simp only [Nat.reduceBEq,wE];done)|((repeat' (first|assumption|exact mAx _|refine mBx ?_ ?_|exact mCx (by assumption)|refine mDx ?_|refine mEx ?_ ?_ ?_|exact mFx|refine mGx ?_ ?_ ?_|exact mHx|exact mIx _|(simp only [wM,Nat.reduceAdd,Nat.reduceLT,Nat.reduceLeDiff];done)));done)|omega|decide) only [↓wA,wB,wL,resOf,Nat.reduceBEq,Int.reduceBEq,Int.reduceBNe,Int.reduceLT,Int.reduceLE,Int.reduceAdd,Int.reduceSub,Int.reduceMul,Int.reduceToNat]
  refine callP (f25 _ _ (by (repeat' (first|assumption|exact mAx _|refine mBx ?_ ?_|exact mCx (by assumption)|refine mDx ?_|refine mEx ?_ ?_ ?_|exact mFx|refine mGx ?_ ?_ ?_|exact mHx|exact mIx _|(simp only [wM,Nat.reduceAdd,Nat.reduceLT,Nat.reduceLeDiff];done)))) (Qt.bd_mono hy (by omega))) ?_
  simp (disch := first|(simp only [Nat.reduceBEq,wE];done)|((repeat' (first|assumption|exact mAx _|refine mBx ?_ ?_|exact mCx (by assumption)|refine mDx ?_|refine mEx ?_ ?_ ?_|exact mFx|refine mGx ?_ ?_ ?_|exact mHx|exact mIx _|(simp only [wM,Nat.reduceAdd,Nat.reduceLT,Nat.reduceLeDiff];done)));done)|omega|decide) only [↓wA,wB,wL,resOf,Nat.reduceBEq,Int.reduceBEq,Int.reduceBNe,Int.reduceLT,Int.reduceLE,Int.reduceAdd,Int.reduceSub,Int.reduceMul,Int.reduceToNat]
  refine callP (f39 _ _ (by (repeat' (first|assumption|exact mAx _|refine mBx ?_ ?_|exact mCx (by assumption)|refine mDx ?_|refine mEx ?_ ?_ ?_|exact mFx|refine mGx ?_ ?_ ?_|exact mHx|exact mIx _|(simp only [wM,Nat.reduceAdd,Nat.reduceLT,Nat.reduceLeDiff];done)))) (Qt.bd_mono hy (by omega))) ?_
  simp (disch := first|(simp only [Nat.reduceBEq,wE];done)|((repeat' (first|assumption|exact mAx _|refine mBx ?_ ?_|exact mCx (by assumption)|refine mDx ?_|refine mEx ?_ ?_ ?_|exact mFx|refine mGx ?_ ?_ ?_|exact mHx|exact mIx _|(simp only [wM,Nat.reduceAdd,Nat.reduceLT,Nat.reduceLeDiff];done)));done)|omega|decide) only [↓wA,wB,wL,resOf,Nat.reduceBEq,Int.reduceBEq,Int.reduceBNe,Int.reduceLT,Int.reduceLE,Int.reduceAdd,Int.reduceSub,Int.reduceMul,Int.reduceToNat]
  refine callP (f22 _ x y.conj _ (by (repeat' (first|assumption|exact mAx _|refine mBx ?_ ?_|exact mCx (by assumption)|refine mDx ?_|refine mEx ?_ ?_ ?_|exact mFx|refine mGx ?_ ?_ ?_|exact mHx|exact mIx _|(simp only [wM,Nat.reduceAdd,Nat.reduceLT,Nat.reduceLeDiff];done)))) pairQ (Qt.bd_mono hx (by omega)) (Qt.conj_bd (Qt.bd_mono hy (by omega))) ix (Qt.conj_int iy)) ?_
  simp (disch := first|(simp only [Nat.reduceBEq,wE];done)|((repeat' (first|assumption|exact mAx _|refine mBx ?_ ?_|exact mCx (by assumption)|refine mDx ?_|refine mEx ?_ ?_ ?_|exact mFx|refine mGx ?_ ?_ ?_|exact mHx|exact mIx _|(simp only [wM,Nat.reduceAdd,Nat.reduceLT,Nat.reduceLeDiff];done)));done)|omega|decide) only [↓wA,wB,wL,resOf,Nat.reduceBEq,Int.reduceBEq,Int.reduceBNe,Int.reduceLT,Int.reduceLE,Int.reduceAdd,Int.reduceSub,Int.reduceMul,Int.reduceToNat]
  refine callP (f40 _ _ _ _ (by (repeat' (first|assumption|exact mAx _|refine mBx ?_ ?_|exact mCx (by assumption)|refine mDx ?_|refine mEx ?_ ?_ ?_|exact mFx|refine mGx ?_ ?_ ?_|exact mHx|exact mIx _|(simp only [wM,Nat.reduceAdd,Nat.reduceLT,Nat.reduceLeDiff];done)))) hs hn (.inl rfl)) ?_
  simp (disch := first|(simp only [Nat.reduceBEq,wE];done)|((repeat' (first|assumption|exact mAx _|refine mBx ?_ ?_|exact mCx (by assumption)|refine mDx ?_|refine mEx ?_ ?_ ?_|exact mFx|refine mGx ?_ ?_ ?_|exact mHx|exact mIx _|(simp only [wM,Nat.reduceAdd,Nat.reduceLT,Nat.reduceLeDiff];done)));done)|omega|decide) only [↓wA,wB,wL,resOf,Nat.reduceBEq,Int.reduceBEq,Int.reduceBNe,Int.reduceLT,Int.reduceLE,Int.reduceAdd,Int.reduceSub,Int.reduceMul,Int.reduceToNat]
  refine callP (f40 _ _ _ _ (by (repeat' (first|assumption|exact mAx _|refine mBx ?_ ?_|exact mCx (by assumption)|refine mDx ?_|refine mEx ?_ ?_ ?_|exact mFx|refine mGx ?_ ?_ ?_|exact mHx|exact mIx _|(simp only [wM,Nat.reduceAdd,Nat.reduceLT,Nat.reduceLeDiff];done)))) hs hn (.inr rfl)) ?_
  simp (disch := first|(simp only [Nat.reduceBEq,wE];done)|((repeat' (first|assumption|exact mAx _|refine mBx ?_ ?_|exact mCx (by assumption)|refine mDx ?_|refine mEx ?_ ?_ ?_|exact mFx|refine mGx ?_ ?_ ?_|exact mHx|exact mIx _|(simp only [wM,Nat.reduceAdd,Nat.reduceLT,Nat.reduceLeDiff];done)));done)|omega|decide) only [↓wA,wB,wL,resOf,Nat.reduceBEq,Int.reduceBEq,Int.reduceBNe,Int.reduceLT,Int.reduceLE,Int.reduceAdd,Int.reduceSub,Int.reduceMul,Int.reduceToNat]
  have fin : ∀ q : Qt, x.quo y = q → q.bd 16777216 ∧ q.int ∧ (q.mul y).bd 1000000000000 ∧ x.rem y = x.sub (q.mul y) := fun q e => by
    subst e
    exact ⟨hq, iq, hp, rfl⟩
  by_cases g1 : (x.mul y.conj).gap y.nrm ((x.mul y.conj).near y.nrm 1) < (x.mul y.conj).gap y.nrm ((x.mul y.conj).near y.nrm 0)
  · have e1 : x.quo y = (x.mul y.conj).near y.nrm 1 := by unfold Qt.quo; exact if_pos (.inl g1)
    obtain ⟨q1, q2, q3, q4⟩ := fin _ e1
    rw [q4, e1]
    simp (disch := first|(simp only [Nat.reduceBEq,wE];done)|((repeat' (first|assumption|exact mAx _|refine mBx ?_ ?_|exact mCx (by assumption)|refine mDx ?_|refine mEx ?_ ?_ ?_|exact mFx|refine mGx ?_ ?_ ?_|exact mHx|exact mIx _|(simp only [wM,Nat.reduceAdd,Nat.reduceLT,Nat.reduceLeDiff];done)));done)|omega|decide) only [decide_eq_true g1, ↓wA,wB,wL,resOf,Nat.reduceBEq,Int.reduceBEq,Int.reduceBNe,Int.reduceLT,Int.reduceLE,Int.reduceAdd,Int.reduceSub,Int.reduceMul,Int.reduceToNat]
    refine callP (f22 _ _ y _ (by (repeat' (first|assumption|exact mAx _|refine mBx ?_ ?_|exact mCx (by assumption)|refine mDx ?_|refine mEx ?_ ?_ ?_|exact mFx|refine mGx ?_ ?_ ?_|exact mHx|exact mIx _|(simp only [wM,Nat.reduceAdd,Nat.reduceLT,Nat.reduceLeDiff];done)))) pairQ q1 (Qt.bd_mono hy (by omega)) q2 iy) ?_
    simp (disch := first|(simp only [Nat.reduceBEq,wE];done)|((repeat' (first|assumption|exact mAx _|refine mBx ?_ ?_|exact mCx (by assumption)|refine mDx ?_|refine mEx ?_ ?_ ?_|exact mFx|refine mGx ?_ ?_ ?_|exact mHx|exact mIx _|(simp only [wM,Nat.reduceAdd,Nat.reduceLT,Nat.reduceLeDiff];done)));done)|omega|decide) only [↓wA,wB,wL,resOf,Nat.reduceBEq,Int.reduceBEq,Int.reduceBNe,Int.reduceLT,Int.reduceLE,Int.reduceAdd,Int.reduceSub,Int.reduceMul,Int.reduceToNat]
    refine callP (f41 x _ _ (by (repeat' (first|assumption|exact mAx _|refine mBx ?_ ?_|exact mCx (by assumption)|refine mDx ?_|refine mEx ?_ ?_ ?_|exact mFx|refine mGx ?_ ?_ ?_|exact mHx|exact mIx _|(simp only [wM,Nat.reduceAdd,Nat.reduceLT,Nat.reduceLeDiff];done)))) (Qt.bd_mono hx (by omega)) q3) ?_
    simp (disch := first|(simp only [Nat.reduceBEq,wE];done)|((repeat' (first|assumption|exact mAx _|refine mBx ?_ ?_|exact mCx (by assumption)|refine mDx ?_|refine mEx ?_ ?_ ?_|exact mFx|refine mGx ?_ ?_ ?_|exact mHx|exact mIx _|(simp only [wM,Nat.reduceAdd,Nat.reduceLT,Nat.reduceLeDiff];done)));done)|omega|decide) only [↓wA,wB,wL,resOf,Nat.reduceBEq,Int.reduceBEq,Int.reduceBNe,Int.reduceLT,Int.reduceLE,Int.reduceAdd,Int.reduceSub,Int.reduceMul,Int.reduceToNat]
    exact ⟨_, rfl, rfl, by (repeat' (first|assumption|exact mAx _|refine mBx ?_ ?_|exact mCx (by assumption)|refine mDx ?_|refine mEx ?_ ?_ ?_|exact mFx|refine mGx ?_ ?_ ?_|exact mHx|exact mIx _|(simp only [wM,Nat.reduceAdd,Nat.reduceLT,Nat.reduceLeDiff];done)))⟩
  · by_cases g2 : (x.mul y.conj).gap y.nrm ((x.mul y.conj).near y.nrm 1) = (x.mul y.conj).gap y.nrm ((x.mul y.conj).near y.nrm 0)
    · have g2' : ((x.mul y.conj).gap y.nrm ((x.mul y.conj).near y.nrm 1) == (x.mul y.conj).gap y.nrm ((x.mul y.conj).near y.nrm 0)) = true := by simp [g2]
      simp (disch := first|(simp only [Nat.reduceBEq,wE];done)|((repeat' (first|assumption|exact mAx _|refine mBx ?_ ?_|exact mCx (by assumption)|refine mDx ?_|refine mEx ?_ ?_ ?_|exact mFx|refine mGx ?_ ?_ ?_|exact mHx|exact mIx _|(simp only [wM,Nat.reduceAdd,Nat.reduceLT,Nat.reduceLeDiff];done)));done)|omega|decide) only [decide_eq_false g1, g2', ↓wA,wB,wL,resOf,Nat.reduceBEq,Int.reduceBEq,Int.reduceBNe,Int.reduceLT,Int.reduceLE,Int.reduceAdd,Int.reduceSub,Int.reduceMul,Int.reduceToNat]
      refine callP (f38 _ _ _ (by (repeat' (first|assumption|exact mAx _|refine mBx ?_ ?_|exact mCx (by assumption)|refine mDx ?_|refine mEx ?_ ?_ ?_|exact mFx|refine mGx ?_ ?_ ?_|exact mHx|exact mIx _|(simp only [wM,Nat.reduceAdd,Nat.reduceLT,Nat.reduceLeDiff];done))))) ?_
      by_cases g3 : ((x.mul y.conj).near y.nrm 1).cmp ((x.mul y.conj).near y.nrm 0) < 0
      · have e1 : x.quo y = (x.mul y.conj).near y.nrm 1 := by unfold Qt.quo; exact if_pos (.inr ⟨g2, g3⟩)
        obtain ⟨q1, q2, q3, q4⟩ := fin _ e1
        rw [q4, e1]
        simp (disch := first|(simp only [Nat.reduceBEq,wE];done)|((repeat' (first|assumption|exact mAx _|refine mBx ?_ ?_|exact mCx (by assumption)|refine mDx ?_|refine mEx ?_ ?_ ?_|exact mFx|refine mGx ?_ ?_ ?_|exact mHx|exact mIx _|(simp only [wM,Nat.reduceAdd,Nat.reduceLT,Nat.reduceLeDiff];done)));done)|omega|decide) only [decide_eq_true g3, decide_eq_false g1, g2', ↓wA,wB,wL,resOf,Nat.reduceBEq,Int.reduceBEq,Int.reduceBNe,Int.reduceLT,Int.reduceLE,Int.reduceAdd,Int.reduceSub,Int.reduceMul,Int.reduceToNat]
        refine callP (f22 _ _ y _ (by (repeat' (first|assumption|exact mAx _|refine mBx ?_ ?_|exact mCx (by assumption)|refine mDx ?_|refine mEx ?_ ?_ ?_|exact mFx|refine mGx ?_ ?_ ?_|exact mHx|exact mIx _|(simp only [wM,Nat.reduceAdd,Nat.reduceLT,Nat.reduceLeDiff];done)))) pairQ q1 (Qt.bd_mono hy (by omega)) q2 iy) ?_
        simp (disch := first|(simp only [Nat.reduceBEq,wE];done)|((repeat' (first|assumption|exact mAx _|refine mBx ?_ ?_|exact mCx (by assumption)|refine mDx ?_|refine mEx ?_ ?_ ?_|exact mFx|refine mGx ?_ ?_ ?_|exact mHx|exact mIx _|(simp only [wM,Nat.reduceAdd,Nat.reduceLT,Nat.reduceLeDiff];done)));done)|omega|decide) only [↓wA,wB,wL,resOf,Nat.reduceBEq,Int.reduceBEq,Int.reduceBNe,Int.reduceLT,Int.reduceLE,Int.reduceAdd,Int.reduceSub,Int.reduceMul,Int.reduceToNat]
        refine callP (f41 x _ _ (by (repeat' (first|assumption|exact mAx _|refine mBx ?_ ?_|exact mCx (by assumption)|refine mDx ?_|refine mEx ?_ ?_ ?_|exact mFx|refine mGx ?_ ?_ ?_|exact mHx|exact mIx _|(simp only [wM,Nat.reduceAdd,Nat.reduceLT,Nat.reduceLeDiff];done)))) (Qt.bd_mono hx (by omega)) q3) ?_
        simp (disch := first|(simp only [Nat.reduceBEq,wE];done)|((repeat' (first|assumption|exact mAx _|refine mBx ?_ ?_|exact mCx (by assumption)|refine mDx ?_|refine mEx ?_ ?_ ?_|exact mFx|refine mGx ?_ ?_ ?_|exact mHx|exact mIx _|(simp only [wM,Nat.reduceAdd,Nat.reduceLT,Nat.reduceLeDiff];done)));done)|omega|decide) only [↓wA,wB,wL,resOf,Nat.reduceBEq,Int.reduceBEq,Int.reduceBNe,Int.reduceLT,Int.reduceLE,Int.reduceAdd,Int.reduceSub,Int.reduceMul,Int.reduceToNat]
        exact ⟨_, rfl, rfl, by (repeat' (first|assumption|exact mAx _|refine mBx ?_ ?_|exact mCx (by assumption)|refine mDx ?_|refine mEx ?_ ?_ ?_|exact mFx|refine mGx ?_ ?_ ?_|exact mHx|exact mIx _|(simp only [wM,Nat.reduceAdd,Nat.reduceLT,Nat.reduceLeDiff];done)))⟩
      · have e1 : x.quo y = (x.mul y.conj).near y.nrm 0 := by
          unfold Qt.quo
          exact if_neg (fun h => by rcases h with h | h; exact g1 h; exact g3 h.2)
        obtain ⟨q1, q2, q3, q4⟩ := fin _ e1
        rw [q4, e1]
        simp (disch := first|(simp only [Nat.reduceBEq,wE];done)|((repeat' (first|assumption|exact mAx _|refine mBx ?_ ?_|exact mCx (by assumption)|refine mDx ?_|refine mEx ?_ ?_ ?_|exact mFx|refine mGx ?_ ?_ ?_|exact mHx|exact mIx _|(simp only [wM,Nat.reduceAdd,Nat.reduceLT,Nat.reduceLeDiff];done)));done)|omega|decide) only [decide_eq_false g3, decide_eq_false g1, g2', ↓wA,wB,wL,resOf,Nat.reduceBEq,Int.reduceBEq,Int.reduceBNe,Int.reduceLT,Int.reduceLE,Int.reduceAdd,Int.reduceSub,Int.reduceMul,Int.reduceToNat]
        refine callP (f22 _ _ y _ (by (repeat' (first|assumption|exact mAx _|refine mBx ?_ ?_|exact mCx (by assumption)|refine mDx ?_|refine mEx ?_ ?_ ?_|exact mFx|refine mGx ?_ ?_ ?_|exact mHx|exact mIx _|(simp only [wM,Nat.reduceAdd,Nat.reduceLT,Nat.reduceLeDiff];done)))) pairQ q1 (Qt.bd_mono hy (by omega)) q2 iy) ?_
        simp (disch := first|(simp only [Nat.reduceBEq,wE];done)|((repeat' (first|assumption|exact mAx _|refine mBx ?_ ?_|exact mCx (by assumption)|refine mDx ?_|refine mEx ?_ ?_ ?_|exact mFx|refine mGx ?_ ?_ ?_|exact mHx|exact mIx _|(simp only [wM,Nat.reduceAdd,Nat.reduceLT,Nat.reduceLeDiff];done)));done)|omega|decide) only [↓wA,wB,wL,resOf,Nat.reduceBEq,Int.reduceBEq,Int.reduceBNe,Int.reduceLT,Int.reduceLE,Int.reduceAdd,Int.reduceSub,Int.reduceMul,Int.reduceToNat]
        refine callP (f41 x _ _ (by (repeat' (first|assumption|exact mAx _|refine mBx ?_ ?_|exact mCx (by assumption)|refine mDx ?_|refine mEx ?_ ?_ ?_|exact mFx|refine mGx ?_ ?_ ?_|exact mHx|exact mIx _|(simp only [wM,Nat.reduceAdd,Nat.reduceLT,Nat.reduceLeDiff];done)))) (Qt.bd_mono hx (by omega)) q3) ?_
        simp (disch := first|(simp only [Nat.reduceBEq,wE];done)|((repeat' (first|assumption|exact mAx _|refine mBx ?_ ?_|exact mCx (by assumption)|refine mDx ?_|refine mEx ?_ ?_ ?_|exact mFx|refine mGx ?_ ?_ ?_|exact mHx|exact mIx _|(simp only [wM,Nat.reduceAdd,Nat.reduceLT,Nat.reduceLeDiff];done)));done)|omega|decide) only [↓wA,wB,wL,resOf,Nat.reduceBEq,Int.reduceBEq,Int.reduceBNe,Int.reduceLT,Int.reduceLE,Int.reduceAdd,Int.reduceSub,Int.reduceMul,Int.reduceToNat]
        exact ⟨_, rfl, rfl, by (repeat' (first|assumption|exact mAx _|refine mBx ?_ ?_|exact mCx (by assumption)|refine mDx ?_|refine mEx ?_ ?_ ?_|exact mFx|refine mGx ?_ ?_ ?_|exact mHx|exact mIx _|(simp only [wM,Nat.reduceAdd,Nat.reduceLT,Nat.reduceLeDiff];done)))⟩
    · have g2' : ((x.mul y.conj).gap y.nrm ((x.mul y.conj).near y.nrm 1) == (x.mul y.conj).gap y.nrm ((x.mul y.conj).near y.nrm 0)) = false := by simp [g2]
      have e1 : x.quo y = (x.mul y.conj).near y.nrm 0 := by
        unfold Qt.quo
        exact if_neg (fun h => by rcases h with h | h; exact g1 h; exact g2 h.1)
      obtain ⟨q1, q2, q3, q4⟩ := fin _ e1
      rw [q4, e1]
      simp (disch := first|(simp only [Nat.reduceBEq,wE];done)|((repeat' (first|assumption|exact mAx _|refine mBx ?_ ?_|exact mCx (by assumption)|refine mDx ?_|refine mEx ?_ ?_ ?_|exact mFx|refine mGx ?_ ?_ ?_|exact mHx|exact mIx _|(simp only [wM,Nat.reduceAdd,Nat.reduceLT,Nat.reduceLeDiff];done)));done)|omega|decide) only [decide_eq_false g1, g2', ↓wA,wB,wL,resOf,Nat.reduceBEq,Int.reduceBEq,Int.reduceBNe,Int.reduceLT,Int.reduceLE,Int.reduceAdd,Int.reduceSub,Int.reduceMul,Int.reduceToNat]
      refine callP (f22 _ _ y _ (by (repeat' (first|assumption|exact mAx _|refine mBx ?_ ?_|exact mCx (by assumption)|refine mDx ?_|refine mEx ?_ ?_ ?_|exact mFx|refine mGx ?_ ?_ ?_|exact mHx|exact mIx _|(simp only [wM,Nat.reduceAdd,Nat.reduceLT,Nat.reduceLeDiff];done)))) pairQ q1 (Qt.bd_mono hy (by omega)) q2 iy) ?_
      simp (disch := first|(simp only [Nat.reduceBEq,wE];done)|((repeat' (first|assumption|exact mAx _|refine mBx ?_ ?_|exact mCx (by assumption)|refine mDx ?_|refine mEx ?_ ?_ ?_|exact mFx|refine mGx ?_ ?_ ?_|exact mHx|exact mIx _|(simp only [wM,Nat.reduceAdd,Nat.reduceLT,Nat.reduceLeDiff];done)));done)|omega|decide) only [↓wA,wB,wL,resOf,Nat.reduceBEq,Int.reduceBEq,Int.reduceBNe,Int.reduceLT,Int.reduceLE,Int.reduceAdd,Int.reduceSub,Int.reduceMul,Int.reduceToNat]
      refine callP (f41 x _ _ (by (repeat' (first|assumption|exact mAx _|refine mBx ?_ ?_|exact mCx (by assumption)|refine mDx ?_|refine mEx ?_ ?_ ?_|exact mFx|refine mGx ?_ ?_ ?_|exact mHx|exact mIx _|(simp only [wM,Nat.reduceAdd,Nat.reduceLT,Nat.reduceLeDiff];done)))) (Qt.bd_mono hx (by omega)) q3) ?_
      simp (disch := first|(simp only [Nat.reduceBEq,wE];done)|((repeat' (first|assumption|exact mAx _|refine mBx ?_ ?_|exact mCx (by assumption)|refine mDx ?_|refine mEx ?_ ?_ ?_|exact mFx|refine mGx ?_ ?_ ?_|exact mHx|exact mIx _|(simp only [wM,Nat.reduceAdd,Nat.reduceLT,Nat.reduceLeDiff];done)));done)|omega|decide) only [↓wA,wB,wL,resOf,Nat.reduceBEq,Int.reduceBEq,Int.reduceBNe,Int.reduceLT,Int.reduceLE,Int.reduceAdd,Int.reduceSub,Int.reduceMul,Int.reduceToNat]
      exact ⟨_, rfl, rfl, by (repeat' (first|assumption|exact mAx _|refine mBx ?_ ?_|exact mCx (by assumption)|refine mDx ?_|refine mEx ?_ ?_ ?_|exact mFx|refine mGx ?_ ?_ ?_|exact mHx|exact mIx _|(simp only [wM,Nat.reduceAdd,Nat.reduceLT,Nat.reduceLeDiff];done)))⟩

end Go.Proofs.Ythalpbiifpfagaa


set_option linter.unusedSimpArgs false
set_option linter.unusedVariables false
set_option maxHeartbeats 1000000

namespace Go.Proofs.Ythalpbiifpfagaa

open Go Go.Abs Go.Nm

set_option maxRecDepth 100000 in
set_option maxHeartbeats 4000000 in
theorem f29 (x y : Qt) (h : Hp) (hk : Hok h) (ix : x.int) (iy : y.int) (nx : x.nrm ≤ 1000000) (ny : y.nrm ≤ 1000000) :
    Evals Try.prog tab false (.func 29) [(AV.ag [.int .i64 x.a, .int .i64 x.b, .int .i64 x.c, .int .i64 x.d]), (AV.ag [.int .i64 y.a, .int .i64 y.b, .int .i64 y.c, .int .i64 y.d])] h ((AV.ag [.int .i64 ((x.gcd y)).a, .int .i64 ((x.gcd y)).b, .int .i64 ((x.gcd y)).c, .int .i64 ((x.gcd y)).d]), h) := by
  refine evals_pure c29 rfl hk ?_
  simp only [sf29, initS_cons, initS_nil]
  simp (disch := first|(simp only [Nat.reduceBEq,wE];done)|((repeat' (first|assumption|exact mAx _|refine mBx ?_ ?_|exact mCx (by assumption)|refine mDx ?_|refine mEx ?_ ?_ ?_|exact mFx|refine mGx ?_ ?_ ?_|exact mHx|exact mIx _|(simp only [wM,Nat.reduceAdd,Nat.reduceLT,Nat.reduceLeDiff];done)));done)|omega|decide) only [↓wA,wB,wL,resOf,Nat.reduceBEq,Int.reduceBEq,Int.reduceBNe,Int.reduceLT,Int.reduceLE,Int.reduceAdd,Int.reduceSub,Int.reduceMul,Int.reduceToNat]
  refine wloop (fun mm ss => ∃ (u : Qt) (v : Qt) (nx : Nat) (bs : List (Nat × Blk)) (u6 u9 : AV), (mm = v.nrm.toNat) ∧ (u.int ∧ v.int ∧ u.nrm ≤ 1000000 ∧ v.nrm ≤ 1000000 ∧ u.gcd v = x.gcd y ∧ h.next + 3 ≤ nx ∧ GrownR h nx bs h.loops ∧ Var bs h.next [.int .i64 u.a, .int .i64 u.b, .int .i64 u.c, .int .i64 u.d] ∧ Var bs (h.next + 1) [.int .i64 v.a, .int .i64 v.b, .int .i64 v.c, .int .i64 v.d] ∧ Var bs (h.next + 1 + 1) [.int .i64 0, .int .i64 0, .int .i64 0, .int .i64 0]) ∧ ss = { fr := [(0, (AV.ag [.int .i64 x.a, .int .i64 x.b, .int .i64 x.c, .int .i64 x.d])), (1, (AV.ag [.int .i64 y.a, .int .i64 y.b, .int .i64 y.c, .int .i64 y.d])), (2, .ptr h.next 0), (3, .ptr (h.next + 1) 0), (4, .ptr (h.next + 1 + 1) 0), (6, u6), (9, u9)], hp := { next := nx, blks := bs, loops := h.loops, base := h.next, esc := false } }) (y.nrm.toNat) ?_ ?_
  ·
    refine ⟨x, y, _, _, _, _, rfl, ⟨ix, iy, nx, ny, rfl, Nat.le_refl _, by (repeat' (first|assumption|exact mAx _|refine mBx ?_ ?_|exact mCx (by assumption)|refine mDx ?_|refine mEx ?_ ?_ ?_|exact mFx|refine mGx ?_ ?_ ?_|exact mHx|exact mIx _|(simp only [wM,Nat.reduceAdd,Nat.reduceLT,Nat.reduceLeDiff];done))), Var.push (Var.push Var.top (by omega)) (by omega), Var.push Var.top (by omega), Var.top⟩, rfl⟩
  rintro nA sA ⟨u, v, nx, bs, u6, u9, hnA, ⟨iu, iv, nu, nv, hg, hnx, g, V1, V2, V3⟩, rfl⟩
  have hK := g.ok hk
  by_cases h0 : v = ⟨0, 0, 0, 0⟩
  · simp (disch := first|(simp only [Nat.reduceBEq,wE];done)|((repeat' (first|assumption|exact mAx _|refine mBx ?_ ?_|exact mCx (by assumption)|refine mDx ?_|refine mEx ?_ ?_ ?_|exact mFx|refine mGx ?_ ?_ ?_|exact mHx|exact mIx _|(simp only [wM,Nat.reduceAdd,Nat.reduceLT,Nat.reduceLeDiff];done)));done)|omega|decide) only [V2.ld, agz_t h0, ↓wA,wB,wL,resOf,Nat.reduceBEq,Int.reduceBEq,Int.reduceBNe,Int.reduceLT,Int.reduceLE,Int.reduceAdd,Int.reduceSub,Int.reduceMul,Int.reduceToNat]
    rw [h0, Qt.gcd_zero] at hg
    simp (disch := first|(simp only [Nat.reduceBEq,wE];done)|((repeat' (first|assumption|exact mAx _|refine mBx ?_ ?_|exact mCx (by assumption)|refine mDx ?_|refine mEx ?_ ?_ ?_|exact mFx|refine mGx ?_ ?_ ?_|exact mHx|exact mIx _|(simp only [wM,Nat.reduceAdd,Nat.reduceLT,Nat.reduceLeDiff];done)));done)|omega|decide) only [V1.ld, ↓wA,wB,wL,resOf,Nat.reduceBEq,Int.reduceBEq,Int.reduceBNe,Int.reduceLT,Int.reduceLE,Int.reduceAdd,Int.reduceSub,Int.reduceMul,Int.reduceToNat]
    refine stA hk g V3 (by omega) rfl rfl rfl rfl rfl ?_
    intro bs1 W1 g1 K1 S1
    simp (disch := first|(simp only [Nat.reduceBEq,wE];done)|((repeat' (first|assumption|exact mAx _|refine mBx ?_ ?_|exact mCx (by assumption)|refine mDx ?_|refine mEx ?_ ?_ ?_|exact mFx|refine mGx ?_ ?_ ?_|exact mHx|exact mIx _|(simp only [wM,Nat.reduceAdd,Nat.reduceLT,Nat.reduceLeDiff];done)));done)|omega|decide) only [W1.ld, ↓wA,wB,wL,resOf,Nat.reduceBEq,Int.reduceBEq,Int.reduceBNe,Int.reduceLT,Int.reduceLE,Int.reduceAdd,Int.reduceSub,Int.reduceMul,Int.reduceToNat]
    exact ⟨_, rfl, by rw [← hg], by (repeat' (first|assumption|exact mAx _|refine mBx ?_ ?_|exact mCx (by assumption)|refine mDx ?_|refine mEx ?_ ?_ ?_|exact mFx|refine mGx ?_ ?_ ?_|exact mHx|exact mIx _|(simp only [wM,Nat.reduceAdd,Nat.reduceLT,Nat.reduceLeDiff];done)))⟩
  · simp (disch := first|(simp only [Nat.reduceBEq,wE];done)|((repeat' (first|assumption|exact mAx _|refine mBx ?_ ?_|exact mCx (by assumption)|refine mDx ?_|refine mEx ?_ ?_ ?_|exact mFx|refine mGx ?_ ?_ ?_|exact mHx|exact mIx _|(simp only [wM,Nat.reduceAdd,Nat.reduceLT,Nat.reduceLeDiff];done)));done)|omega|decide) only [V2.ld, agz_f h0, V1.ld, ↓wA,wB,wL,resOf,Nat.reduceBEq,Int.reduceBEq,Int.reduceBNe,Int.reduceLT,Int.reduceLE,Int.reduceAdd,Int.reduceSub,Int.reduceMul,Int.reduceToNat]
    refine callP (f31 u v _ (by exact hK) (Qt.bd_nrm iu nu) (Qt.bd_nrm iv nv) iu iv h0) ?_
    simp (disch := first|(simp only [Nat.reduceBEq,wE];done)|((repeat' (first|assumption|exact mAx _|refine mBx ?_ ?_|exact mCx (by assumption)|refine mDx ?_|refine mEx ?_ ?_ ?_|exact mFx|refine mGx ?_ ?_ ?_|exact mHx|exact mIx _|(simp only [wM,Nat.reduceAdd,Nat.reduceLT,Nat.reduceLeDiff];done)));done)|omega|decide) only [V2.ld, V1.ld, ↓wA,wB,wL,resOf,Nat.reduceBEq,Int.reduceBEq,Int.reduceBNe,Int.reduceLT,Int.reduceLE,Int.reduceAdd,Int.reduceSub,Int.reduceMul,Int.reduceToNat]
    rw [andT_pushB, andT_pushB]
    refine stA hk g V1 (by omega) rfl rfl rfl rfl rfl ?_
    intro bs1 W1 g1 K1 S1
    have W2 := K1.var V2 (by omega)
    have W3 := K1.var V3 (by omega)
    have hK1 := g1.ok hk
    simp (disch := first|(simp only [Nat.reduceBEq,wE];done)|((repeat' (first|assumption|exact mAx _|refine mBx ?_ ?_|exact mCx (by assumption)|refine mDx ?_|refine mEx ?_ ?_ ?_|exact mFx|refine mGx ?_ ?_ ?_|exact mHx|exact mIx _|(simp only [wM,Nat.reduceAdd,Nat.reduceLT,Nat.reduceLeDiff];done)));done)|omega|decide) only [W2.ld, W1.ld, ↓wA,wB,wL,resOf,Nat.reduceBEq,Int.reduceBEq,Int.reduceBNe,Int.reduceLT,Int.reduceLE,Int.reduceAdd,Int.reduceSub,Int.reduceMul,Int.reduceToNat]
    rw [andT_pushB, andT_pushB]
    refine stA hk g1 W2 (by omega) rfl rfl rfl rfl rfl ?_
    intro bs2 X2 g2 K2 S2
    have X1 := K2.var W1 (by omega)
    have X3 := K2.var W3 (by omega)
    have hr := Qt.rem_nrm iu iv h0
    have hp := Qt.nrm_pos iv h0
    have h4 := Qt.nrm_nonneg (x := u.rem v)
    simp (disch := first|(simp only [Nat.reduceBEq,wE];done)|((repeat' (first|assumption|exact mAx _|refine mBx ?_ ?_|exact mCx (by assumption)|refine mDx ?_|refine mEx ?_ ?_ ?_|exact mFx|refine mGx ?_ ?_ ?_|exact mHx|exact mIx _|(simp only [wM,Nat.reduceAdd,Nat.reduceLT,Nat.reduceLeDiff];done)));done)|omega|decide) only [X2.ld, X1.ld, W2.ld, W1.ld, V2.ld, V1.ld, ↓wA,wB,wL,resOf,Nat.reduceBEq,Int.reduceBEq,Int.reduceBNe,Int.reduceLT,Int.reduceLE,Int.reduceAdd,Int.reduceSub,Int.reduceMul,Int.reduceToNat]
    refine ⟨_, ?_, v, u.rem v, _, _, _, _, rfl, ?_, rfl⟩
    · omega
    exact ⟨iv, Qt.rem_int iu iv, nv, by omega, by rw [← hg, Qt.gcd_step iu iv h0], by omega, by (repeat' (first|assumption|exact mAx _|refine mBx ?_ ?_|exact mCx (by assumption)|refine mDx ?_|refine mEx ?_ ?_ ?_|exact mFx|refine mGx ?_ ?_ ?_|exact mHx|exact mIx _|(simp only [wM,Nat.reduceAdd,Nat.reduceLT,Nat.reduceLeDiff];done))), Var.push (Var.push X1 (by omega)) (by omega), Var.push (Var.push X2 (by omega)) (by omega), Var.push (Var.push X3 (by omega)) (by omega)⟩

end Go.Proofs.Ythalpbiifpfagaa

