/- Products, conjugates, norms, quotients, divisors for callers. Numbers in norm: primes, roots, divisors, sums of squares. Sums of squares. -/
import Derived.Test.YthalpbiifpfagaaND
set_option linter.unusedSimpArgs false
set_option linter.unusedVariables false
set_option maxHeartbeats 1000000

namespace Go.Nm

theorem errOf_0 {l : List Qt} : errOf l = 0 ↔ (∀ q ∈ l, q.int) ∧ (∀ q ∈ l, q.bd 1000) := by
  unfold errOf
  by_cases h1 : ∀ q ∈ l, q.int
  · rw [if_pos h1]
    by_cases h2 : ∀ q ∈ l, q.bd 1000
    · rw [if_pos h2]; exact ⟨fun _ => ⟨h1, h2⟩, fun _ => rfl⟩
    · rw [if_neg h2]; exact ⟨fun h => by omega, fun h => absurd h.2 h2⟩
  · rw [if_neg h1]; exact ⟨fun h => by omega, fun h => absurd h.1 h1⟩
abbrev zq : Qt := ⟨0, 0, 0, 0⟩
def okQ (l : List Qt) (r : Qt) : Qt := if errOf l = 0 then r else zq

end Go.Nm


namespace Go.Proofs.Ythalpbiifpfagaa

open Go Go.Abs Go.Nm

theorem oneQ {bs : List (Nat × Blk)} {n : Nat} {x : Qt} : Quads ((n, { cells := [.int .i64 x.a, .int .i64 x.b, .int .i64 x.c, .int .i64 x.d], ch := n, wr := true }) :: bs) (.sl n 0 1 (some 1) 4) [x] :=
  Quads.top (l := [x]) rfl (Nat.le_refl 1)

set_option maxRecDepth 100000 in
theorem f12 (x y : Qt) (h : Hp) (hk : Hok h) :
    Evals Try.prog tab false (.func 12) [(AV.ag [.int .i64 x.a, .int .i64 x.b, .int .i64 x.c, .int .i64 x.d]), (AV.ag [.int .i64 y.a, .int .i64 y.b, .int .i64 y.c, .int .i64 y.d])] h (.tu [(AV.ag [.int .i64 ((okQ [x, y] (x.mul y))).a, .int .i64 ((okQ [x, y] (x.mul y))).b, .int .i64 ((okQ [x, y] (x.mul y))).c, .int .i64 ((okQ [x, y] (x.mul y))).d]), .int .i64 (errOf [x, y])], h) := by
  refine evals_pure c12 rfl hk ?_
  simp only [sf12, initS_cons, initS_nil]
  simp (disch := first|(simp only [Nat.reduceBEq,wE];done)|((repeat' (first|assumption|exact mAx _|refine mBx ?_ ?_|exact mCx (by assumption)|refine mDx ?_|refine mEx ?_ ?_ ?_|exact mFx|refine mGx ?_ ?_ ?_|exact mHx|exact mIx _|(simp only [wM,Nat.reduceAdd,Nat.reduceLT,Nat.reduceLeDiff];done)));done)|omega|decide) only [↓wA,wB,wL,resOf,Nat.reduceBEq,Int.reduceBEq,Int.reduceBNe,Int.reduceLT,Int.reduceLE,Int.reduceAdd,Int.reduceSub,Int.reduceMul,Int.reduceToNat]
  refine callP (f21 _ [x, y] _ (by (repeat' (first|assumption|exact mAx _|refine mBx ?_ ?_|exact mCx (by assumption)|refine mDx ?_|refine mEx ?_ ?_ ?_|exact mFx|refine mGx ?_ ?_ ?_|exact mHx|exact mIx _|(simp only [wM,Nat.reduceAdd,Nat.reduceLT,Nat.reduceLeDiff];done)))) pairQ (by simp)) ?_
  by_cases he : errOf [x, y] = 0
  · have e1 : okQ [x, y] (x.mul y) = x.mul y := if_pos he
    have e2 : (errOf [x, y] != 0) = false := by simp [he]
    obtain ⟨hi, hb⟩ := errOf_0.1 he
    have hx := hb x (by simp)
    have hy := hb y (by simp)
    rw [e1]
    simp (disch := first|(simp only [Nat.reduceBEq,wE];done)|((repeat' (first|assumption|exact mAx _|refine mBx ?_ ?_|exact mCx (by assumption)|refine mDx ?_|refine mEx ?_ ?_ ?_|exact mFx|refine mGx ?_ ?_ ?_|exact mHx|exact mIx _|(simp only [wM,Nat.reduceAdd,Nat.reduceLT,Nat.reduceLeDiff];done)));done)|omega|decide) only [e2, ↓wA,wB,wL,resOf,Nat.reduceBEq,Int.reduceBEq,Int.reduceBNe,Int.reduceLT,Int.reduceLE,Int.reduceAdd,Int.reduceSub,Int.reduceMul,Int.reduceToNat]
    refine callP (f23 _ _ (by (repeat' (first|assumption|exact mAx _|refine mBx ?_ ?_|exact mCx (by assumption)|refine mDx ?_|refine mEx ?_ ?_ ?_|exact mFx|refine mGx ?_ ?_ ?_|exact mHx|exact mIx _|(simp only [wM,Nat.reduceAdd,Nat.reduceLT,Nat.reduceLeDiff];done))))) ?_
    simp (disch := first|(simp only [Nat.reduceBEq,wE];done)|((repeat' (first|assumption|exact mAx _|refine mBx ?_ ?_|exact mCx (by assumption)|refine mDx ?_|refine mEx ?_ ?_ ?_|exact mFx|refine mGx ?_ ?_ ?_|exact mHx|exact mIx _|(simp only [wM,Nat.reduceAdd,Nat.reduceLT,Nat.reduceLeDiff];done)));done)|omega|decide) only [↓wA,wB,wL,resOf,Nat.reduceBEq,Int.reduceBEq,Int.reduceBNe,Int.reduceLT,Int.reduceLE,Int.reduceAdd,Int.reduceSub,Int.reduceMul,Int.reduceToNat]
    refine callP (f23 _ _ (by (repeat' (first|assumption|exact mAx _|refine mBx ?_ ?_|exact mCx (by assumption)|refine mDx ?_|refine mEx ?_ ?_ ?_|exact mFx|refine mGx ?_ ?_ ?_|exact mHx|exact mIx _|(simp only [wM,Nat.reduceAdd,Nat.reduceLT,Nat.reduceLeDiff];done))))) ?_
    simp (disch := first|(simp only [Nat.reduceBEq,wE];done)|((repeat' (first|assumption|exact mAx _|refine mBx ?_ ?_|exact mCx (by assumption)|refine mDx ?_|refine mEx ?_ ?_ ?_|exact mFx|refine mGx ?_ ?_ ?_|exact mHx|exact mIx _|(simp only [wM,Nat.reduceAdd,Nat.reduceLT,Nat.reduceLeDiff];done)));done)|omega|decide) only [↓wA,wB,wL,resOf,Nat.reduceBEq,Int.reduceBEq,Int.reduceBNe,Int.reduceLT,Int.reduceLE,Int.reduceAdd,Int.reduceSub,Int.reduceMul,Int.reduceToNat]
    refine callP (f22 _ x y _ (by (repeat' (first|assumption|exact mAx _|refine mBx ?_ ?_|exact mCx (by assumption)|refine mDx ?_|refine mEx ?_ ?_ ?_|exact mFx|refine mGx ?_ ?_ ?_|exact mHx|exact mIx _|(simp only [wM,Nat.reduceAdd,Nat.reduceLT,Nat.reduceLeDiff];done)))) pairQ (Qt.bd_mono hx (by omega)) (Qt.bd_mono hy (by omega)) (hi x (by simp)) (hi y (by simp))) ?_
    simp (disch := first|(simp only [Nat.reduceBEq,wE];done)|((repeat' (first|assumption|exact mAx _|refine mBx ?_ ?_|exact mCx (by assumption)|refine mDx ?_|refine mEx ?_ ?_ ?_|exact mFx|refine mGx ?_ ?_ ?_|exact mHx|exact mIx _|(simp only [wM,Nat.reduceAdd,Nat.reduceLT,Nat.reduceLeDiff];done)));done)|omega|decide) only [↓wA,wB,wL,resOf,Nat.reduceBEq,Int.reduceBEq,Int.reduceBNe,Int.reduceLT,Int.reduceLE,Int.reduceAdd,Int.reduceSub,Int.reduceMul,Int.reduceToNat]
    refine callP (f24 _ _ (by (repeat' (first|assumption|exact mAx _|refine mBx ?_ ?_|exact mCx (by assumption)|refine mDx ?_|refine mEx ?_ ?_ ?_|exact mFx|refine mGx ?_ ?_ ?_|exact mHx|exact mIx _|(simp only [wM,Nat.reduceAdd,Nat.reduceLT,Nat.reduceLeDiff];done))))) ?_
    simp (disch := first|(simp only [Nat.reduceBEq,wE];done)|((repeat' (first|assumption|exact mAx _|refine mBx ?_ ?_|exact mCx (by assumption)|refine mDx ?_|refine mEx ?_ ?_ ?_|exact mFx|refine mGx ?_ ?_ ?_|exact mHx|exact mIx _|(simp only [wM,Nat.reduceAdd,Nat.reduceLT,Nat.reduceLeDiff];done)));done)|omega|decide) only [↓wA,wB,wL,resOf,Nat.reduceBEq,Int.reduceBEq,Int.reduceBNe,Int.reduceLT,Int.reduceLE,Int.reduceAdd,Int.reduceSub,Int.reduceMul,Int.reduceToNat]
    exact ⟨_, rfl, by rw [he], by (repeat' (first|assumption|exact mAx _|refine mBx ?_ ?_|exact mCx (by assumption)|refine mDx ?_|refine mEx ?_ ?_ ?_|exact mFx|refine mGx ?_ ?_ ?_|exact mHx|exact mIx _|(simp only [wM,Nat.reduceAdd,Nat.reduceLT,Nat.reduceLeDiff];done)))⟩
  · have e1 : okQ [x, y] (x.mul y) = zq := if_neg he
    have e2 : (errOf [x, y] != 0) = true := by simp [he]
    rw [e1]
    simp (disch := first|(simp only [Nat.reduceBEq,wE];done)|((repeat' (first|assumption|exact mAx _|refine mBx ?_ ?_|exact mCx (by assumption)|refine mDx ?_|refine mEx ?_ ?_ ?_|exact mFx|refine mGx ?_ ?_ ?_|exact mHx|exact mIx _|(simp only [wM,Nat.reduceAdd,Nat.reduceLT,Nat.reduceLeDiff];done)));done)|omega|decide) only [e2, ↓wA,wB,wL,resOf,Nat.reduceBEq,Int.reduceBEq,Int.reduceBNe,Int.reduceLT,Int.reduceLE,Int.reduceAdd,Int.reduceSub,Int.reduceMul,Int.reduceToNat]
    exact ⟨_, rfl, rfl, by (repeat' (first|assumption|exact mAx _|refine mBx ?_ ?_|exact mCx (by assumption)|refine mDx ?_|refine mEx ?_ ?_ ?_|exact mFx|refine mGx ?_ ?_ ?_|exact mHx|exact mIx _|(simp only [wM,Nat.reduceAdd,Nat.reduceLT,Nat.reduceLeDiff];done)))⟩

set_option maxRecDepth 100000 in
theorem f13 (x : Qt) (h : Hp) (hk : Hok h) :
    Evals Try.prog tab false (.func 13) [(AV.ag [.int .i64 x.a, .int .i64 x.b, .int .i64 x.c, .int .i64 x.d])] h (.tu [.int .i64 (if errOf [x] = 0 then x.nrm else 0), .int .i64 (errOf [x])], h) := by
  refine evals_pure c13 rfl hk ?_
  simp only [sf13, initS_cons, initS_nil]
  simp (disch := first|(simp only [Nat.reduceBEq,wE];done)|((repeat' (first|assumption|exact mAx _|refine mBx ?_ ?_|exact mCx (by assumption)|refine mDx ?_|refine mEx ?_ ?_ ?_|exact mFx|refine mGx ?_ ?_ ?_|exact mHx|exact mIx _|(simp only [wM,Nat.reduceAdd,Nat.reduceLT,Nat.reduceLeDiff];done)));done)|omega|decide) only [↓wA,wB,wL,resOf,Nat.reduceBEq,Int.reduceBEq,Int.reduceBNe,Int.reduceLT,Int.reduceLE,Int.reduceAdd,Int.reduceSub,Int.reduceMul,Int.reduceToNat]
  refine callP (f21 _ [x] _ (by (repeat' (first|assumption|exact mAx _|refine mBx ?_ ?_|exact mCx (by assumption)|refine mDx ?_|refine mEx ?_ ?_ ?_|exact mFx|refine mGx ?_ ?_ ?_|exact mHx|exact mIx _|(simp only [wM,Nat.reduceAdd,Nat.reduceLT,Nat.reduceLeDiff];done)))) oneQ (by simp)) ?_
  by_cases he : errOf [x] = 0
  · have e2 : (errOf [x] != 0) = false := by simp [he]
    obtain ⟨hi, hb⟩ := errOf_0.1 he
    have hx := hb x (by simp)
    rw [if_pos he]
    simp (disch := first|(simp only [Nat.reduceBEq,wE];done)|((repeat' (first|assumption|exact mAx _|refine mBx ?_ ?_|exact mCx (by assumption)|refine mDx ?_|refine mEx ?_ ?_ ?_|exact mFx|refine mGx ?_ ?_ ?_|exact mHx|exact mIx _|(simp only [wM,Nat.reduceAdd,Nat.reduceLT,Nat.reduceLeDiff];done)));done)|omega|decide) only [e2, ↓wA,wB,wL,resOf,Nat.reduceBEq,Int.reduceBEq,Int.reduceBNe,Int.reduceLT,Int.reduceLE,Int.reduceAdd,Int.reduceSub,Int.reduceMul,Int.reduceToNat]
    refine callP (f23 _ _ (by (repeat' (first|assumption|exact mAx _|refine mBx ?_ ?_|exact mCx (by assumption)|refine mDx ?_|refine mEx ?_ ?_ ?_|exact mFx|refine mGx ?_ ?_ ?_|exact mHx|exact mIx _|(simp only [wM,Nat.reduceAdd,Nat.reduceLT,Nat.reduceLeDiff];done))))) ?_
    simp (disch := first|(simp only [Nat.reduceBEq,wE];done)|((repeat' (first|assumption|exact mAx _|refine mBx ?_ ?_|exact mCx (by assumption)|refine mDx ?_|refine mEx ?_ ?_ ?_|exact mFx|refine mGx ?_ ?_ ?_|exact mHx|exact mIx _|(simp only [wM,Nat.reduceAdd,Nat.reduceLT,Nat.reduceLeDiff];done)));done)|omega|decide) only [↓wA,wB,wL,resOf,Nat.reduceBEq,Int.reduceBEq,Int.reduceBNe,Int.reduceLT,Int.reduceLE,Int.reduceAdd,Int.reduceSub,Int.reduceMul,Int.reduceToNat]
    refine callP (f25 _ _ (by (repeat' (first|assumption|exact mAx _|refine mBx ?_ ?_|exact mCx (by assumption)|refine mDx ?_|refine mEx ?_ ?_ ?_|exact mFx|refine mGx ?_ ?_ ?_|exact mHx|exact mIx _|(simp only [wM,Nat.reduceAdd,Nat.reduceLT,Nat.reduceLeDiff];done)))) (Qt.bd_mono hx (by omega))) ?_
    simp (disch := first|(simp only [Nat.reduceBEq,wE];done)|((repeat' (first|assumption|exact mAx _|refine mBx ?_ ?_|exact mCx (by assumption)|refine mDx ?_|refine mEx ?_ ?_ ?_|exact mFx|refine mGx ?_ ?_ ?_|exact mHx|exact mIx _|(simp only [wM,Nat.reduceAdd,Nat.reduceLT,Nat.reduceLeDiff];done)));done)|omega|decide) only [↓wA,wB,wL,resOf,Nat.reduceBEq,Int.reduceBEq,Int.reduceBNe,Int.reduceLT,Int.reduceLE,Int.reduceAdd,Int.reduceSub,Int.reduceMul,Int.reduceToNat]
    exact ⟨_, rfl, by rw [he], by (repeat' (first|assumption|exact mAx _|refine mBx ?_ ?_|exact mCx (by assumption)|refine mDx ?_|refine mEx ?_ ?_ ?_|exact mFx|refine mGx ?_ ?_ ?_|exact mHx|exact mIx _|(simp only [wM,Nat.reduceAdd,Nat.reduceLT,Nat.reduceLeDiff];done)))⟩
  · have e2 : (errOf [x] != 0) = true := by simp [he]
    rw [if_neg he]
    simp (disch := first|(simp only [Nat.reduceBEq,wE];done)|((repeat' (first|assumption|exact mAx _|refine mBx ?_ ?_|exact mCx (by assumption)|refine mDx ?_|refine mEx ?_ ?_ ?_|exact mFx|refine mGx ?_ ?_ ?_|exact mHx|exact mIx _|(simp only [wM,Nat.reduceAdd,Nat.reduceLT,Nat.reduceLeDiff];done)));done)|omega|decide) only [e2, ↓wA,wB,wL,resOf,Nat.reduceBEq,Int.reduceBEq,Int.reduceBNe,Int.reduceLT,Int.reduceLE,Int.reduceAdd,Int.reduceSub,Int.reduceMul,Int.reduceToNat]
    exact ⟨_, rfl, rfl, by (repeat' (first|assumption|exact mAx _|refine mBx ?_ ?_|exact mCx (by assumption)|refine mDx ?_|refine mEx ?_ ?_ ?_|exact mFx|refine mGx ?_ ?_ ?_|exact mHx|exact mIx _|(simp only [wM,Nat.reduceAdd,Nat.reduceLT,Nat.reduceLeDiff];done)))⟩

theorem nrm_1000 {x : Qt} (h : x.bd 1000) : x.nrm ≤ 1000000 := by have := Qt.nrm_bd h; omega

/-- What Divide answers: the error. -/
def errD (x y : Qt) : Int := if errOf [x, y] = 0 then (if y = zq then 5 else 0) else errOf [x, y]

set_option maxRecDepth 100000 in
set_option maxHeartbeats 4000000 in
theorem f18 (x y : Qt) (h : Hp) (hk : Hok h) :
    Evals Try.prog tab false (.func 18) [(AV.ag [.int .i64 x.a, .int .i64 x.b, .int .i64 x.c, .int .i64 x.d]), (AV.ag [.int .i64 y.a, .int .i64 y.b, .int .i64 y.c, .int .i64 y.d])] h (.tu [(AV.ag [.int .i64 ((if errD x y = 0 then x.quo y else zq)).a, .int .i64 ((if errD x y = 0 then x.quo y else zq)).b, .int .i64 ((if errD x y = 0 then x.quo y else zq)).c, .int .i64 ((if errD x y = 0 then x.quo y else zq)).d]), (AV.ag [.int .i64 ((if errD x y = 0 then x.rem y else zq)).a, .int .i64 ((if errD x y = 0 then x.rem y else zq)).b, .int .i64 ((if errD x y = 0 then x.rem y else zq)).c, .int .i64 ((if errD x y = 0 then x.rem y else zq)).d]), .int .i64 (errD x y)], h) := by
  refine evals_pure c18 rfl hk ?_
  simp only [sf18, initS_cons, initS_nil]
  simp (disch := first|(simp only [Nat.reduceBEq,wE];done)|((repeat' (first|assumption|exact mAx _|refine mBx ?_ ?_|exact mCx (by assumption)|refine mDx ?_|refine mEx ?_ ?_ ?_|exact mFx|refine mGx ?_ ?_ ?_|exact mHx|exact mIx _|(simp only [wM,Nat.reduceAdd,Nat.reduceLT,Nat.reduceLeDiff];done)));done)|omega|decide) only [↓wA,wB,wL,resOf,Nat.reduceBEq,Int.reduceBEq,Int.reduceBNe,Int.reduceLT,Int.reduceLE,Int.reduceAdd,Int.reduceSub,Int.reduceMul,Int.reduceToNat]
  refine callP (f21 _ [x, y] _ (by (repeat' (first|assumption|exact mAx _|refine mBx ?_ ?_|exact mCx (by assumption)|refine mDx ?_|refine mEx ?_ ?_ ?_|exact mFx|refine mGx ?_ ?_ ?_|exact mHx|exact mIx _|(simp only [wM,Nat.reduceAdd,Nat.reduceLT,Nat.reduceLeDiff];done)))) pairQ (by simp)) ?_
  by_cases he : errOf [x, y] = 0
  · have e2 : (errOf [x, y] != 0) = false := by simp [he]
    obtain ⟨hi, hb⟩ := errOf_0.1 he
    have hx := hb x (by simp)
    have hy := hb y (by simp)
    have ix := hi x (by simp)
    have iy := hi y (by simp)
    simp (disch := first|(simp only [Nat.reduceBEq,wE];done)|((repeat' (first|assumption|exact mAx _|refine mBx ?_ ?_|exact mCx (by assumption)|refine mDx ?_|refine mEx ?_ ?_ ?_|exact mFx|refine mGx ?_ ?_ ?_|exact mHx|exact mIx _|(simp only [wM,Nat.reduceAdd,Nat.reduceLT,Nat.reduceLeDiff];done)));done)|omega|decide) only [e2, ↓wA,wB,wL,resOf,Nat.reduceBEq,Int.reduceBEq,Int.reduceBNe,Int.reduceLT,Int.reduceLE,Int.reduceAdd,Int.reduceSub,Int.reduceMul,Int.reduceToNat]
    refine callP (f23 _ _ (by (repeat' (first|assumption|exact mAx _|refine mBx ?_ ?_|exact mCx (by assumption)|refine mDx ?_|refine mEx ?_ ?_ ?_|exact mFx|refine mGx ?_ ?_ ?_|exact mHx|exact mIx _|(simp only [wM,Nat.reduceAdd,Nat.reduceLT,Nat.reduceLeDiff];done))))) ?_
    by_cases h0 : y = zq
    · have e3 : errD x y = 5 := by rw [errD, if_pos he, if_pos h0]
      rw [e3]
      simp (disch := first|(simp only [Nat.reduceBEq,wE];done)|((repeat' (first|assumption|exact mAx _|refine mBx ?_ ?_|exact mCx (by assumption)|refine mDx ?_|refine mEx ?_ ?_ ?_|exact mFx|refine mGx ?_ ?_ ?_|exact mHx|exact mIx _|(simp only [wM,Nat.reduceAdd,Nat.reduceLT,Nat.reduceLeDiff];done)));done)|omega|decide) only [agz_t h0, ↓wA,wB,wL,resOf,Nat.reduceBEq,Int.reduceBEq,Int.reduceBNe,Int.reduceLT,Int.reduceLE,Int.reduceAdd,Int.reduceSub,Int.reduceMul,Int.reduceToNat]
      exact ⟨_, rfl, rfl, by (repeat' (first|assumption|exact mAx _|refine mBx ?_ ?_|exact mCx (by assumption)|refine mDx ?_|refine mEx ?_ ?_ ?_|exact mFx|refine mGx ?_ ?_ ?_|exact mHx|exact mIx _|(simp only [wM,Nat.reduceAdd,Nat.reduceLT,Nat.reduceLeDiff];done)))⟩
    · have e3 : errD x y = 0 := by rw [errD, if_pos he, if_neg h0]
      rw [if_pos e3, if_pos e3, e3]
      simp (disch := first|(simp only [Nat.reduceBEq,wE];done)|((repeat' (first|assumption|exact mAx _|refine mBx ?_ ?_|exact mCx (by assumption)|refine mDx ?_|refine mEx ?_ ?_ ?_|exact mFx|refine mGx ?_ ?_ ?_|exact mHx|exact mIx _|(simp only [wM,Nat.reduceAdd,Nat.reduceLT,Nat.reduceLeDiff];done)));done)|omega|decide) only [agz_f h0, ↓wA,wB,wL,resOf,Nat.reduceBEq,Int.reduceBEq,Int.reduceBNe,Int.reduceLT,Int.reduceLE,Int.reduceAdd,Int.reduceSub,Int.reduceMul,Int.reduceToNat]
      refine callP (f23 _ _ (by (repeat' (first|assumption|exact mAx _|refine mBx ?_ ?_|exact mCx (by assumption)|refine mDx ?_|refine mEx ?_ ?_ ?_|exact mFx|refine mGx ?_ ?_ ?_|exact mHx|exact mIx _|(simp only [wM,Nat.reduceAdd,Nat.reduceLT,Nat.reduceLeDiff];done))))) ?_
      simp (disch := first|(simp only [Nat.reduceBEq,wE];done)|((repeat' (first|assumption|exact mAx _|refine mBx ?_ ?_|exact mCx (by assumption)|refine mDx ?_|refine mEx ?_ ?_ ?_|exact mFx|refine mGx ?_ ?_ ?_|exact mHx|exact mIx _|(simp only [wM,Nat.reduceAdd,Nat.reduceLT,Nat.reduceLeDiff];done)));done)|omega|decide) only [↓wA,wB,wL,resOf,Nat.reduceBEq,Int.reduceBEq,Int.reduceBNe,Int.reduceLT,Int.reduceLE,Int.reduceAdd,Int.reduceSub,Int.reduceMul,Int.reduceToNat]
      refine callP (f23 _ _ (by (repeat' (first|assumption|exact mAx _|refine mBx ?_ ?_|exact mCx (by assumption)|refine mDx ?_|refine mEx ?_ ?_ ?_|exact mFx|refine mGx ?_ ?_ ?_|exact mHx|exact mIx _|(simp only [wM,Nat.reduceAdd,Nat.reduceLT,Nat.reduceLeDiff];done))))) ?_
      simp (disch := first|(simp only [Nat.reduceBEq,wE];done)|((repeat' (first|assumption|exact mAx _|refine mBx ?_ ?_|exact mCx (by assumption)|refine mDx ?_|refine mEx ?_ ?_ ?_|exact mFx|refine mGx ?_ ?_ ?_|exact mHx|exact mIx _|(simp only [wM,Nat.reduceAdd,Nat.reduceLT,Nat.reduceLeDiff];done)));done)|omega|decide) only [↓wA,wB,wL,resOf,Nat.reduceBEq,Int.reduceBEq,Int.reduceBNe,Int.reduceLT,Int.reduceLE,Int.reduceAdd,Int.reduceSub,Int.reduceMul,Int.reduceToNat]
      refine callP (f31 x y _ (by (repeat' (first|assumption|exact mAx _|refine mBx ?_ ?_|exact mCx (by assumption)|refine mDx ?_|refine mEx ?_ ?_ ?_|exact mFx|refine mGx ?_ ?_ ?_|exact mHx|exact mIx _|(simp only [wM,Nat.reduceAdd,Nat.reduceLT,Nat.reduceLeDiff];done)))) (Qt.bd_mono hx (by omega)) (Qt.bd_mono hy (by omega)) ix iy h0) ?_
      simp (disch := first|(simp only [Nat.reduceBEq,wE];done)|((repeat' (first|assumption|exact mAx _|refine mBx ?_ ?_|exact mCx (by assumption)|refine mDx ?_|refine mEx ?_ ?_ ?_|exact mFx|refine mGx ?_ ?_ ?_|exact mHx|exact mIx _|(simp only [wM,Nat.reduceAdd,Nat.reduceLT,Nat.reduceLeDiff];done)));done)|omega|decide) only [↓wA,wB,wL,resOf,Nat.reduceBEq,Int.reduceBEq,Int.reduceBNe,Int.reduceLT,Int.reduceLE,Int.reduceAdd,Int.reduceSub,Int.reduceMul,Int.reduceToNat]
      refine callP (f24 _ _ (by (repeat' (first|assumption|exact mAx _|refine mBx ?_ ?_|exact mCx (by assumption)|refine mDx ?_|refine mEx ?_ ?_ ?_|exact mFx|refine mGx ?_ ?_ ?_|exact mHx|exact mIx _|(simp only [wM,Nat.reduceAdd,Nat.reduceLT,Nat.reduceLeDiff];done))))) ?_
      simp (disch := first|(simp only [Nat.reduceBEq,wE];done)|((repeat' (first|assumption|exact mAx _|refine mBx ?_ ?_|exact mCx (by assumption)|refine mDx ?_|refine mEx ?_ ?_ ?_|exact mFx|refine mGx ?_ ?_ ?_|exact mHx|exact mIx _|(simp only [wM,Nat.reduceAdd,Nat.reduceLT,Nat.reduceLeDiff];done)));done)|omega|decide) only [↓wA,wB,wL,resOf,Nat.reduceBEq,Int.reduceBEq,Int.reduceBNe,Int.reduceLT,Int.reduceLE,Int.reduceAdd,Int.reduceSub,Int.reduceMul,Int.reduceToNat]
      refine callP (f24 _ _ (by (repeat' (first|assumption|exact mAx _|refine mBx ?_ ?_|exact mCx (by assumption)|refine mDx ?_|refine mEx ?_ ?_ ?_|exact mFx|refine mGx ?_ ?_ ?_|exact mHx|exact mIx _|(simp only [wM,Nat.reduceAdd,Nat.reduceLT,Nat.reduceLeDiff];done))))) ?_
      simp (disch := first|(simp only [Nat.reduceBEq,wE];done)|((repeat' (first|assumption|exact mAx _|refine mBx ?_ ?_|exact mCx (by assumption)|refine mDx ?_|refine mEx ?_ ?_ ?_|exact mFx|refine mGx ?_ ?_ ?_|exact mHx|exact mIx _|(simp only [wM,Nat.reduceAdd,Nat.reduceLT,Nat.reduceLeDiff];done)));done)|omega|decide) only [↓wA,wB,wL,resOf,Nat.reduceBEq,Int.reduceBEq,Int.reduceBNe,Int.reduceLT,Int.reduceLE,Int.reduceAdd,Int.reduceSub,Int.reduceMul,Int.reduceToNat]
      exact ⟨_, rfl, rfl, by (repeat' (first|assumption|exact mAx _|refine mBx ?_ ?_|exact mCx (by assumption)|refine mDx ?_|refine mEx ?_ ?_ ?_|exact mFx|refine mGx ?_ ?_ ?_|exact mHx|exact mIx _|(simp only [wM,Nat.reduceAdd,Nat.reduceLT,Nat.reduceLeDiff];done)))⟩
  · have e2 : (errOf [x, y] != 0) = true := by simp [he]
    have e3 : errD x y = errOf [x, y] := by rw [errD, if_neg he]
    rw [e3, if_neg he, if_neg he]
    simp (disch := first|(simp only [Nat.reduceBEq,wE];done)|((repeat' (first|assumption|exact mAx _|refine mBx ?_ ?_|exact mCx (by assumption)|refine mDx ?_|refine mEx ?_ ?_ ?_|exact mFx|refine mGx ?_ ?_ ?_|exact mHx|exact mIx _|(simp only [wM,Nat.reduceAdd,Nat.reduceLT,Nat.reduceLeDiff];done)));done)|omega|decide) only [e2, ↓wA,wB,wL,resOf,Nat.reduceBEq,Int.reduceBEq,Int.reduceBNe,Int.reduceLT,Int.reduceLE,Int.reduceAdd,Int.reduceSub,Int.reduceMul,Int.reduceToNat]
    exact ⟨_, rfl, rfl, by (repeat' (first|assumption|exact mAx _|refine mBx ?_ ?_|exact mCx (by assumption)|refine mDx ?_|refine mEx ?_ ?_ ?_|exact mFx|refine mGx ?_ ?_ ?_|exact mHx|exact mIx _|(simp only [wM,Nat.reduceAdd,Nat.reduceLT,Nat.reduceLeDiff];done)))⟩

def errG (x y : Qt) : Int := if errOf [x, y] = 0 then (if x.gcd y = zq then 5 else 0) else errOf [x, y]

set_option maxRecDepth 100000 in
set_option maxHeartbeats 4000000 in
theorem f17 (x y : Qt) (h : Hp) (hk : Hok h) :
    Evals Try.prog tab false (.func 17) [(AV.ag [.int .i64 x.a, .int .i64 x.b, .int .i64 x.c, .int .i64 x.d]), (AV.ag [.int .i64 y.a, .int .i64 y.b, .int .i64 y.c, .int .i64 y.d])] h (.tu [(AV.ag [.int .i64 ((if errG x y = 0 then (x.gcd y).great else zq)).a, .int .i64 ((if errG x y = 0 then (x.gcd y).great else zq)).b, .int .i64 ((if errG x y = 0 then (x.gcd y).great else zq)).c, .int .i64 ((if errG x y = 0 then (x.gcd y).great else zq)).d]), .int .i64 (errG x y)], h) := by
  refine evals_pure c17 rfl hk ?_
  simp only [sf17, initS_cons, initS_nil]
  simp (disch := first|(simp only [Nat.reduceBEq,wE];done)|((repeat' (first|assumption|exact mAx _|refine mBx ?_ ?_|exact mCx (by assumption)|refine mDx ?_|refine mEx ?_ ?_ ?_|exact mFx|refine mGx ?_ ?_ ?_|exact mHx|exact mIx _|(simp only [wM,Nat.reduceAdd,Nat.reduceLT,Nat.reduceLeDiff];done)));done)|omega|decide) only [↓wA,wB,wL,resOf,Nat.reduceBEq,Int.reduceBEq,Int.reduceBNe,Int.reduceLT,Int.reduceLE,Int.reduceAdd,Int.reduceSub,Int.reduceMul,Int.reduceToNat]
  refine callP (f21 _ [x, y] _ (by (repeat' (first|assumption|exact mAx _|refine mBx ?_ ?_|exact mCx (by assumption)|refine mDx ?_|refine mEx ?_ ?_ ?_|exact mFx|refine mGx ?_ ?_ ?_|exact mHx|exact mIx _|(simp only [wM,Nat.reduceAdd,Nat.reduceLT,Nat.reduceLeDiff];done)))) pairQ (by simp)) ?_
  by_cases he : errOf [x, y] = 0
  · have e2 : (errOf [x, y] != 0) = false := by simp [he]
    obtain ⟨hi, hb⟩ := errOf_0.1 he
    have hx := nrm_1000 (hb x (by simp))
    have hy := nrm_1000 (hb y (by simp))
    have ix := hi x (by simp)
    have iy := hi y (by simp)
    have ig := Qt.gcd_int ix iy
    have ng := Qt.gcd_nrm ix iy hx hy
    simp (disch := first|(simp only [Nat.reduceBEq,wE];done)|((repeat' (first|assumption|exact mAx _|refine mBx ?_ ?_|exact mCx (by assumption)|refine mDx ?_|refine mEx ?_ ?_ ?_|exact mFx|refine mGx ?_ ?_ ?_|exact mHx|exact mIx _|(simp only [wM,Nat.reduceAdd,Nat.reduceLT,Nat.reduceLeDiff];done)));done)|omega|decide) only [e2, ↓wA,wB,wL,resOf,Nat.reduceBEq,Int.reduceBEq,Int.reduceBNe,Int.reduceLT,Int.reduceLE,Int.reduceAdd,Int.reduceSub,Int.reduceMul,Int.reduceToNat]
    refine callP (f23 _ _ (by (repeat' (first|assumption|exact mAx _|refine mBx ?_ ?_|exact mCx (by assumption)|refine mDx ?_|refine mEx ?_ ?_ ?_|exact mFx|refine mGx ?_ ?_ ?_|exact mHx|exact mIx _|(simp only [wM,Nat.reduceAdd,Nat.reduceLT,Nat.reduceLeDiff];done))))) ?_
    simp (disch := first|(simp only [Nat.reduceBEq,wE];done)|((repeat' (first|assumption|exact mAx _|refine mBx ?_ ?_|exact mCx (by assumption)|refine mDx ?_|refine mEx ?_ ?_ ?_|exact mFx|refine mGx ?_ ?_ ?_|exact mHx|exact mIx _|(simp only [wM,Nat.reduceAdd,Nat.reduceLT,Nat.reduceLeDiff];done)));done)|omega|decide) only [↓wA,wB,wL,resOf,Nat.reduceBEq,Int.reduceBEq,Int.reduceBNe,Int.reduceLT,Int.reduceLE,Int.reduceAdd,Int.reduceSub,Int.reduceMul,Int.reduceToNat]
    refine callP (f23 _ _ (by (repeat' (first|assumption|exact mAx _|refine mBx ?_ ?_|exact mCx (by assumption)|refine mDx ?_|refine mEx ?_ ?_ ?_|exact mFx|refine mGx ?_ ?_ ?_|exact mHx|exact mIx _|(simp only [wM,Nat.reduceAdd,Nat.reduceLT,Nat.reduceLeDiff];done))))) ?_
    simp (disch := first|(simp only [Nat.reduceBEq,wE];done)|((repeat' (first|assumption|exact mAx _|refine mBx ?_ ?_|exact mCx (by assumption)|refine mDx ?_|refine mEx ?_ ?_ ?_|exact mFx|refine mGx ?_ ?_ ?_|exact mHx|exact mIx _|(simp only [wM,Nat.reduceAdd,Nat.reduceLT,Nat.reduceLeDiff];done)));done)|omega|decide) only [↓wA,wB,wL,resOf,Nat.reduceBEq,Int.reduceBEq,Int.reduceBNe,Int.reduceLT,Int.reduceLE,Int.reduceAdd,Int.reduceSub,Int.reduceMul,Int.reduceToNat]
    refine callP (f29 x y _ (by (repeat' (first|assumption|exact mAx _|refine mBx ?_ ?_|exact mCx (by assumption)|refine mDx ?_|refine mEx ?_ ?_ ?_|exact mFx|refine mGx ?_ ?_ ?_|exact mHx|exact mIx _|(simp only [wM,Nat.reduceAdd,Nat.reduceLT,Nat.reduceLeDiff];done)))) ix iy hx hy) ?_
    by_cases h0 : x.gcd y = zq
    · have e3 : errG x y = 5 := by rw [errG, if_pos he, if_pos h0]
      rw [e3]
      simp (disch := first|(simp only [Nat.reduceBEq,wE];done)|((repeat' (first|assumption|exact mAx _|refine mBx ?_ ?_|exact mCx (by assumption)|refine mDx ?_|refine mEx ?_ ?_ ?_|exact mFx|refine mGx ?_ ?_ ?_|exact mHx|exact mIx _|(simp only [wM,Nat.reduceAdd,Nat.reduceLT,Nat.reduceLeDiff];done)));done)|omega|decide) only [agz_t h0, ↓wA,wB,wL,resOf,Nat.reduceBEq,Int.reduceBEq,Int.reduceBNe,Int.reduceLT,Int.reduceLE,Int.reduceAdd,Int.reduceSub,Int.reduceMul,Int.reduceToNat]
      exact ⟨_, rfl, rfl, by (repeat' (first|assumption|exact mAx _|refine mBx ?_ ?_|exact mCx (by assumption)|refine mDx ?_|refine mEx ?_ ?_ ?_|exact mFx|refine mGx ?_ ?_ ?_|exact mHx|exact mIx _|(simp only [wM,Nat.reduceAdd,Nat.reduceLT,Nat.reduceLeDiff];done)))⟩
    · have e3 : errG x y = 0 := by rw [errG, if_pos he, if_neg h0]
      rw [if_pos e3, e3]
      simp (disch := first|(simp only [Nat.reduceBEq,wE];done)|((repeat' (first|assumption|exact mAx _|refine mBx ?_ ?_|exact mCx (by assumption)|refine mDx ?_|refine mEx ?_ ?_ ?_|exact mFx|refine mGx ?_ ?_ ?_|exact mHx|exact mIx _|(simp only [wM,Nat.reduceAdd,Nat.reduceLT,Nat.reduceLeDiff];done)));done)|omega|decide) only [agz_f h0, ↓wA,wB,wL,resOf,Nat.reduceBEq,Int.reduceBEq,Int.reduceBNe,Int.reduceLT,Int.reduceLE,Int.reduceAdd,Int.reduceSub,Int.reduceMul,Int.reduceToNat]
      refine callP (f30 _ _ (by (repeat' (first|assumption|exact mAx _|refine mBx ?_ ?_|exact mCx (by assumption)|refine mDx ?_|refine mEx ?_ ?_ ?_|exact mFx|refine mGx ?_ ?_ ?_|exact mHx|exact mIx _|(simp only [wM,Nat.reduceAdd,Nat.reduceLT,Nat.reduceLeDiff];done)))) ig (Qt.bd_nrm ig ng)) ?_
      simp (disch := first|(simp only [Nat.reduceBEq,wE];done)|((repeat' (first|assumption|exact mAx _|refine mBx ?_ ?_|exact mCx (by assumption)|refine mDx ?_|refine mEx ?_ ?_ ?_|exact mFx|refine mGx ?_ ?_ ?_|exact mHx|exact mIx _|(simp only [wM,Nat.reduceAdd,Nat.reduceLT,Nat.reduceLeDiff];done)));done)|omega|decide) only [↓wA,wB,wL,resOf,Nat.reduceBEq,Int.reduceBEq,Int.reduceBNe,Int.reduceLT,Int.reduceLE,Int.reduceAdd,Int.reduceSub,Int.reduceMul,Int.reduceToNat]
      refine callP (f24 _ _ (by (repeat' (first|assumption|exact mAx _|refine mBx ?_ ?_|exact mCx (by assumption)|refine mDx ?_|refine mEx ?_ ?_ ?_|exact mFx|refine mGx ?_ ?_ ?_|exact mHx|exact mIx _|(simp only [wM,Nat.reduceAdd,Nat.reduceLT,Nat.reduceLeDiff];done))))) ?_
      simp (disch := first|(simp only [Nat.reduceBEq,wE];done)|((repeat' (first|assumption|exact mAx _|refine mBx ?_ ?_|exact mCx (by assumption)|refine mDx ?_|refine mEx ?_ ?_ ?_|exact mFx|refine mGx ?_ ?_ ?_|exact mHx|exact mIx _|(simp only [wM,Nat.reduceAdd,Nat.reduceLT,Nat.reduceLeDiff];done)));done)|omega|decide) only [↓wA,wB,wL,resOf,Nat.reduceBEq,Int.reduceBEq,Int.reduceBNe,Int.reduceLT,Int.reduceLE,Int.reduceAdd,Int.reduceSub,Int.reduceMul,Int.reduceToNat]
      exact ⟨_, rfl, rfl, by (repeat' (first|assumption|exact mAx _|refine mBx ?_ ?_|exact mCx (by assumption)|refine mDx ?_|refine mEx ?_ ?_ ?_|exact mFx|refine mGx ?_ ?_ ?_|exact mHx|exact mIx _|(simp only [wM,Nat.reduceAdd,Nat.reduceLT,Nat.reduceLeDiff];done)))⟩
  · have e2 : (errOf [x, y] != 0) = true := by simp [he]
    have e3 : errG x y = errOf [x, y] := by rw [errG, if_neg he]
    rw [e3, if_neg he]
    simp (disch := first|(simp only [Nat.reduceBEq,wE];done)|((repeat' (first|assumption|exact mAx _|refine mBx ?_ ?_|exact mCx (by assumption)|refine mDx ?_|refine mEx ?_ ?_ ?_|exact mFx|refine mGx ?_ ?_ ?_|exact mHx|exact mIx _|(simp only [wM,Nat.reduceAdd,Nat.reduceLT,Nat.reduceLeDiff];done)));done)|omega|decide) only [e2, ↓wA,wB,wL,resOf,Nat.reduceBEq,Int.reduceBEq,Int.reduceBNe,Int.reduceLT,Int.reduceLE,Int.reduceAdd,Int.reduceSub,Int.reduceMul,Int.reduceToNat]
    exact ⟨_, rfl, rfl, by (repeat' (first|assumption|exact mAx _|refine mBx ?_ ?_|exact mCx (by assumption)|refine mDx ?_|refine mEx ?_ ?_ ?_|exact mFx|refine mGx ?_ ?_ ?_|exact mHx|exact mIx _|(simp only [wM,Nat.reduceAdd,Nat.reduceLT,Nat.reduceLeDiff];done)))⟩

end Go.Proofs.Ythalpbiifpfagaa


set_option linter.unusedSimpArgs false
set_option linter.unusedVariables false
set_option maxHeartbeats 1000000

namespace Go.Nm

/-- The greatest number whose square is at most n. -/
def isq : Nat → Nat
  | 0 => 0
  | n + 1 => if (isq n + 1) * (isq n + 1) ≤ n + 1 then isq n + 1 else isq n
theorem isq_spec : ∀ n : Nat, isq n * isq n ≤ n ∧ n < (isq n + 1) * (isq n + 1)
  | 0 => by simp [isq]
  | n + 1 => by
    obtain ⟨h1, h2⟩ := isq_spec n
    simp only [isq]
    split
    · rename_i h
      refine ⟨h, ?_⟩
      have e : (isq n + 1 + 1) * (isq n + 1 + 1) = (isq n + 1) * (isq n + 1) + 2 * (isq n + 1) + 1 := by grind
      omega
    · omega
theorem isq_unique {n r : Nat} (h1 : r * r ≤ n) (h2 : n < (r + 1) * (r + 1)) : r = isq n := by
  obtain ⟨g1, g2⟩ := isq_spec n
  rcases Nat.lt_trichotomy r (isq n) with h | h | h
  · have := Nat.mul_le_mul (show r + 1 ≤ isq n by omega) (show r + 1 ≤ isq n by omega)
    omega
  · exact h
  · have := Nat.mul_le_mul (show isq n + 1 ≤ r by omega) (show isq n + 1 ≤ r by omega)
    omega
theorem isq_le {n : Nat} : isq n ≤ n := by
  obtain ⟨g1, g2⟩ := isq_spec n
  rcases Nat.eq_zero_or_pos (isq n) with h | h
  · omega
  · have := Nat.mul_le_mul_right (isq n) h
    omega
theorem isq_100 {n : Nat} (h : n ≤ 10000) : isq n ≤ 100 := by
  obtain ⟨g1, g2⟩ := isq_spec n
  rcases Nat.lt_or_ge 100 (isq n) with h1 | h1
  · have := Nat.mul_le_mul (show 101 ≤ isq n by omega) (show 101 ≤ isq n by omega)
    omega
  · exact h1
/-- Has n a divisor from d on whose square is at most n? -/
def noDiv : Nat → Nat → Nat → Bool
  | 0, _, _ => true
  | k + 1, n, d => if d * d ≤ n then (if n % d = 0 then false else noDiv k n (d + 1)) else true
def prime (n : Nat) : Bool := noDiv n n 2 && decide (2 ≤ n)
theorem noDiv_end {k n d : Nat} (h : ¬ d * d ≤ n) : noDiv k n d = true := by
  cases k
  · rfl
  · simp only [noDiv, if_neg h]
theorem sq_ge {d : Nat} : d ≤ d * d := by
  rcases Nat.eq_zero_or_pos d with h | h
  · omega
  · have := Nat.mul_le_mul_right d h; omega
theorem noDiv_fuel : ∀ {k n d : Nat}, n < k + d → noDiv (k + 1) n d = noDiv k n d
  | 0, n, d, h => by
    have := sq_ge (d := d)
    rw [noDiv_end (by omega)]; rfl
  | k + 1, n, d, h => by
    rw [noDiv]
    simp only [noDiv_fuel (k := k) (n := n) (d := d + 1) (by omega)]
    rw [noDiv]
/-- The sum of the divisors that are at most d and no multiples of m. -/
def sigmaN (n m : Nat) : Nat → Nat
  | 0 => 0
  | d + 1 => sigmaN n m d + (if n % (d + 1) = 0 ∧ (d + 1) % m ≠ 0 then d + 1 else 0)
theorem sigmaN_le {n m : Nat} : ∀ {d : Nat}, sigmaN n m d ≤ d * d
  | 0 => by simp [sigmaN]
  | d + 1 => by
    have := sigmaN_le (n := n) (m := m) (d := d)
    have e : (d + 1) * (d + 1) = d * d + d + d + 1 := by grind
    simp only [sigmaN]
    split <;> omega

end Go.Nm


namespace Go.Proofs.Ythalpbiifpfagaa

open Go Go.Abs Go.Nm

theorem f27 (n : Nat) (h : Hp) (hk : Hok h) (hn : n ≤ 1000000000) :
    Evals Try.prog tab false (.func 27) [.int .i64 n] h (.bool (prime n), h) := by
  refine evals_pure c27 rfl hk ?_
  simp only [sf27, initS_cons, initS_nil]
  simp (disch := first|(simp only [Nat.reduceBEq,wE];done)|((repeat' (first|assumption|exact mAx _|refine mBx ?_ ?_|exact mCx (by assumption)|refine mDx ?_|refine mEx ?_ ?_ ?_|exact mFx|refine mGx ?_ ?_ ?_|exact mHx|exact mIx _|(simp only [wM,Nat.reduceAdd,Nat.reduceLT,Nat.reduceLeDiff];done)));done)|omega|decide) only [↓wA,wB,wL,resOf,Nat.reduceBEq,Int.reduceBEq,Int.reduceBNe,Int.reduceLT,Int.reduceLE,Int.reduceAdd,Int.reduceSub,Int.reduceMul,Int.reduceToNat]
  refine wloop (fun mm ss => ∃ (d : Nat) (u8 u14 : AV), (mm = n + 2 - d) ∧ (2 ≤ d ∧ d ≤ n + 2 ∧ noDiv n n 2 = noDiv (n + 2 - d) n d) ∧ ss = { fr := [(0, .int .i64 n), (2, .bool false), (3, .int .i64 d), (8, u8), (14, u14)], hp := { next := h.next, blks := h.blks, loops := h.loops, base := h.next, esc := false } }) (n) ?_ ?_
  ·
    refine ⟨2, _, _, by omega, ⟨by omega, by omega, rfl⟩, rfl⟩
  rintro nA sA ⟨d, u8, u14, hnA, ⟨hd, hd2, hv⟩, rfl⟩
  have hb := Nm.mul_bd 2000000000 2000000000 (x := (d : Int)) (y := d) (by omega) (by omega)
  simp (disch := first|(simp only [Nat.reduceBEq,wE];done)|((repeat' (first|assumption|exact mAx _|refine mBx ?_ ?_|exact mCx (by assumption)|refine mDx ?_|refine mEx ?_ ?_ ?_|exact mFx|refine mGx ?_ ?_ ?_|exact mHx|exact mIx _|(simp only [wM,Nat.reduceAdd,Nat.reduceLT,Nat.reduceLeDiff];done)));done)|omega|decide) only [↓wA,wB,wL,resOf,Nat.reduceBEq,Int.reduceBEq,Int.reduceBNe,Int.reduceLT,Int.reduceLE,Int.reduceAdd,Int.reduceSub,Int.reduceMul,Int.reduceToNat]
  have ec : ((d : Int) * d ≤ n) ↔ d * d ≤ n := by rw [← Int.natCast_mul]; omega
  refine ifThen_intro (fun e => ?_) (fun e => ?_) <;> have eq := e <;> try simp [-List.getD_eq_getElem?_getD] at eq
  · have e' : d * d ≤ n := by
      have : (d : Int) * d ≤ n := by simpa using e
      exact ec.1 this
    have := sq_ge (d := d)
    obtain ⟨k, hkk⟩ : ∃ k, n + 2 - d = k + 1 := ⟨n + 1 - d, by omega⟩
    rw [hkk, noDiv, if_pos e'] at hv
    simp (disch := first|(simp only [Nat.reduceBEq,wE];done)|((repeat' (first|assumption|exact mAx _|refine mBx ?_ ?_|exact mCx (by assumption)|refine mDx ?_|refine mEx ?_ ?_ ?_|exact mFx|refine mGx ?_ ?_ ?_|exact mHx|exact mIx _|(simp only [wM,Nat.reduceAdd,Nat.reduceLT,Nat.reduceLeDiff];done)));done)|omega|decide) only [e, e, sBin_rem, ↓wA,wB,wL,resOf,Nat.reduceBEq,Int.reduceBEq,Int.reduceBNe,Int.reduceLT,Int.reduceLE,Int.reduceAdd,Int.reduceSub,Int.reduceMul,Int.reduceToNat]
    by_cases hm : n % d = 0
    · have e3 : ((n : Int) % d == 0) = true := by rw [← Int.natCast_emod, hm]; rfl
      rw [if_pos hm] at hv
      simp (disch := first|(simp only [Nat.reduceBEq,wE];done)|((repeat' (first|assumption|exact mAx _|refine mBx ?_ ?_|exact mCx (by assumption)|refine mDx ?_|refine mEx ?_ ?_ ?_|exact mFx|refine mGx ?_ ?_ ?_|exact mHx|exact mIx _|(simp only [wM,Nat.reduceAdd,Nat.reduceLT,Nat.reduceLeDiff];done)));done)|omega|decide) only [e, e3, ↓wA,wB,wL,resOf,Nat.reduceBEq,Int.reduceBEq,Int.reduceBNe,Int.reduceLT,Int.reduceLE,Int.reduceAdd,Int.reduceSub,Int.reduceMul,Int.reduceToNat]
      refine ⟨_, rfl, ?_, by (repeat' (first|assumption|exact mAx _|refine mBx ?_ ?_|exact mCx (by assumption)|refine mDx ?_|refine mEx ?_ ?_ ?_|exact mFx|refine mGx ?_ ?_ ?_|exact mHx|exact mIx _|(simp only [wM,Nat.reduceAdd,Nat.reduceLT,Nat.reduceLeDiff];done)))⟩
      simp [prime, hv]
    · have e3 : ((n : Int) % d == 0) = false := by
        rw [← Int.natCast_emod]
        simp
        omega
      rw [if_neg hm] at hv
      simp (disch := first|(simp only [Nat.reduceBEq,wE];done)|((repeat' (first|assumption|exact mAx _|refine mBx ?_ ?_|exact mCx (by assumption)|refine mDx ?_|refine mEx ?_ ?_ ?_|exact mFx|refine mGx ?_ ?_ ?_|exact mHx|exact mIx _|(simp only [wM,Nat.reduceAdd,Nat.reduceLT,Nat.reduceLeDiff];done)));done)|omega|decide) only [e, e3, ↓wA,wB,wL,resOf,Nat.reduceBEq,Int.reduceBEq,Int.reduceBNe,Int.reduceLT,Int.reduceLE,Int.reduceAdd,Int.reduceSub,Int.reduceMul,Int.reduceToNat]
      refine ⟨_, ?_, d + 1, _, _, rfl, ?_, rfl⟩
      · omega
      exact ⟨by omega, by omega, by rw [hv, show n + 2 - (d + 1) = k by omega]⟩
  · have e' : ¬ d * d ≤ n := fun hh => by
      have h2 := ec.2 hh
      have : ¬ ((d : Int) * d ≤ n) := by simpa using e
      exact this h2
    rw [noDiv_end e'] at hv
    simp (disch := first|(simp only [Nat.reduceBEq,wE];done)|((repeat' (first|assumption|exact mAx _|refine mBx ?_ ?_|exact mCx (by assumption)|refine mDx ?_|refine mEx ?_ ?_ ?_|exact mFx|refine mGx ?_ ?_ ?_|exact mHx|exact mIx _|(simp only [wM,Nat.reduceAdd,Nat.reduceLT,Nat.reduceLeDiff];done)));done)|omega|decide) only [e, e, ↓wA,wB,wL,resOf,Nat.reduceBEq,Int.reduceBEq,Int.reduceBNe,Int.reduceLT,Int.reduceLE,Int.reduceAdd,Int.reduceSub,Int.reduceMul,Int.reduceToNat]
    refine ⟨_, rfl, ?_, by (repeat' (first|assumption|exact mAx _|refine mBx ?_ ?_|exact mCx (by assumption)|refine mDx ?_|refine mEx ?_ ?_ ?_|exact mFx|refine mGx ?_ ?_ ?_|exact mHx|exact mIx _|(simp only [wM,Nat.reduceAdd,Nat.reduceLT,Nat.reduceLeDiff];done)))⟩
    simp only [prime, hv, Bool.true_and]
    congr 1
    simp
    omega

theorem f35 (n : Nat) (h : Hp) (hk : Hok h) (hn : n ≤ 1000000000) :
    Evals Try.prog tab false (.func 35) [.int .i64 n] h (.int .i64 (isq n), h) := by
  refine evals_pure c35 rfl hk ?_
  simp only [sf35, initS_cons, initS_nil]
  simp (disch := first|(simp only [Nat.reduceBEq,wE];done)|((repeat' (first|assumption|exact mAx _|refine mBx ?_ ?_|exact mCx (by assumption)|refine mDx ?_|refine mEx ?_ ?_ ?_|exact mFx|refine mGx ?_ ?_ ?_|exact mHx|exact mIx _|(simp only [wM,Nat.reduceAdd,Nat.reduceLT,Nat.reduceLeDiff];done)));done)|omega|decide) only [↓wA,wB,wL,resOf,Nat.reduceBEq,Int.reduceBEq,Int.reduceBNe,Int.reduceLT,Int.reduceLE,Int.reduceAdd,Int.reduceSub,Int.reduceMul,Int.reduceToNat]
  refine wloop (fun mm ss => ∃ (r : Nat) (u10 : AV), (mm = n + 1 - r) ∧ (r * r ≤ n) ∧ ss = { fr := [(0, .int .i64 n), (2, .int .i64 0), (3, .int .i64 r), (10, u10)], hp := { next := h.next, blks := h.blks, loops := h.loops, base := h.next, esc := false } }) (n + 1) ?_ ?_
  ·
    refine ⟨0, _, by omega, by omega, rfl⟩
  rintro nA sA ⟨r, u10, hnA, hr, rfl⟩
  have := sq_ge (d := r)
  have hb := Nm.mul_bd 2000000000 2000000000 (x := (r : Int) + 1) (y := (r : Int) + 1) (by omega) (by omega)
  simp (disch := first|(simp only [Nat.reduceBEq,wE];done)|((repeat' (first|assumption|exact mAx _|refine mBx ?_ ?_|exact mCx (by assumption)|refine mDx ?_|refine mEx ?_ ?_ ?_|exact mFx|refine mGx ?_ ?_ ?_|exact mHx|exact mIx _|(simp only [wM,Nat.reduceAdd,Nat.reduceLT,Nat.reduceLeDiff];done)));done)|omega|decide) only [↓wA,wB,wL,resOf,Nat.reduceBEq,Int.reduceBEq,Int.reduceBNe,Int.reduceLT,Int.reduceLE,Int.reduceAdd,Int.reduceSub,Int.reduceMul,Int.reduceToNat]
  have ec : (((r : Int) + 1) * (r + 1) ≤ n) ↔ (r + 1) * (r + 1) ≤ n := by
    have : ((r : Int) + 1) * (r + 1) = (((r + 1) * (r + 1) : Nat) : Int) := by push_cast; rfl
    rw [this]; omega
  refine ifThen_intro (fun e => ?_) (fun e => ?_) <;> have eq := e <;> try simp [-List.getD_eq_getElem?_getD] at eq
  · have e' : (r + 1) * (r + 1) ≤ n := by
      have : ((r : Int) + 1) * (r + 1) ≤ n := by simpa using e
      exact ec.1 this
    simp (disch := first|(simp only [Nat.reduceBEq,wE];done)|((repeat' (first|assumption|exact mAx _|refine mBx ?_ ?_|exact mCx (by assumption)|refine mDx ?_|refine mEx ?_ ?_ ?_|exact mFx|refine mGx ?_ ?_ ?_|exact mHx|exact mIx _|(simp only [wM,Nat.reduceAdd,Nat.reduceLT,Nat.reduceLeDiff];done)));done)|omega|decide) only [e, e, ↓wA,wB,wL,resOf,Nat.reduceBEq,Int.reduceBEq,Int.reduceBNe,Int.reduceLT,Int.reduceLE,Int.reduceAdd,Int.reduceSub,Int.reduceMul,Int.reduceToNat]
    have := sq_ge (d := r + 1)
    refine ⟨_, ?_, r + 1, _, rfl, ?_, rfl⟩
    · omega
    exact e'
  · have e' : ¬ (r + 1) * (r + 1) ≤ n := fun hh => by
      have h2 := ec.2 hh
      have : ¬ (((r : Int) + 1) * (r + 1) ≤ n) := by simpa using e
      exact this h2
    simp (disch := first|(simp only [Nat.reduceBEq,wE];done)|((repeat' (first|assumption|exact mAx _|refine mBx ?_ ?_|exact mCx (by assumption)|refine mDx ?_|refine mEx ?_ ?_ ?_|exact mFx|refine mGx ?_ ?_ ?_|exact mHx|exact mIx _|(simp only [wM,Nat.reduceAdd,Nat.reduceLT,Nat.reduceLeDiff];done)));done)|omega|decide) only [e, e, ↓wA,wB,wL,resOf,Nat.reduceBEq,Int.reduceBEq,Int.reduceBNe,Int.reduceLT,Int.reduceLE,Int.reduceAdd,Int.reduceSub,Int.reduceMul,Int.reduceToNat]
    refine ⟨_, rfl, ?_, by (repeat' (first|assumption|exact mAx _|refine mBx ?_ ?_|exact mCx (by assumption)|refine mDx ?_|refine mEx ?_ ?_ ?_|exact mFx|refine mGx ?_ ?_ ?_|exact mHx|exact mIx _|(simp only [wM,Nat.reduceAdd,Nat.reduceLT,Nat.reduceLeDiff];done)))⟩
    rw [isq_unique hr (by omega)]

theorem f11 (n m : Nat) (h : Hp) (hk : Hok h) (hn : n ≤ 10000) (hm : 0 < m ∧ m ≤ 10000) :
    Evals Try.prog tab false (.func 11) [.int .i64 n, .int .i64 m] h (.int .i64 (sigmaN n m n), h) := by
  refine evals_pure c11 rfl hk ?_
  simp only [sf11, initS_cons, initS_nil]
  simp (disch := first|(simp only [Nat.reduceBEq,wE];done)|((repeat' (first|assumption|exact mAx _|refine mBx ?_ ?_|exact mCx (by assumption)|refine mDx ?_|refine mEx ?_ ?_ ?_|exact mFx|refine mGx ?_ ?_ ?_|exact mHx|exact mIx _|(simp only [wM,Nat.reduceAdd,Nat.reduceLT,Nat.reduceLeDiff];done)));done)|omega|decide) only [↓wA,wB,wL,resOf,Nat.reduceBEq,Int.reduceBEq,Int.reduceBNe,Int.reduceLT,Int.reduceLE,Int.reduceAdd,Int.reduceSub,Int.reduceMul,Int.reduceToNat]
  refine wloop (fun mm ss => ∃ (d : Nat) (u9 u21 : AV), (mm = n - d) ∧ (d ≤ n) ∧ ss = { fr := [(0, .int .i64 n), (1, .int .i64 m), (4, .int .i64 0), (5, .int .i64 (sigmaN n m d)), (6, .int .i64 (d + 1)), (9, u9), (21, u21)], hp := { next := h.next, blks := h.blks, loops := h.loops, base := h.next, esc := false } }) (n) ?_ ?_
  ·
    refine ⟨0, _, _, by omega, by omega, rfl⟩
  rintro nA sA ⟨d, u9, u21, hnA, hd, rfl⟩
  simp (disch := first|(simp only [Nat.reduceBEq,wE];done)|((repeat' (first|assumption|exact mAx _|refine mBx ?_ ?_|exact mCx (by assumption)|refine mDx ?_|refine mEx ?_ ?_ ?_|exact mFx|refine mGx ?_ ?_ ?_|exact mHx|exact mIx _|(simp only [wM,Nat.reduceAdd,Nat.reduceLT,Nat.reduceLeDiff];done)));done)|omega|decide) only [↓wA,wB,wL,resOf,Nat.reduceBEq,Int.reduceBEq,Int.reduceBNe,Int.reduceLT,Int.reduceLE,Int.reduceAdd,Int.reduceSub,Int.reduceMul,Int.reduceToNat]
  refine ifThen_intro (fun e => ?_) (fun e => ?_) <;> have eq := e <;> try simp [-List.getD_eq_getElem?_getD] at eq
  · have hs := sigmaN_le (n := n) (m := m) (d := d)
    have hdd : d * d ≤ 10000 * 10000 := Nat.mul_le_mul (by omega) (by omega)
    simp (disch := first|(simp only [Nat.reduceBEq,wE];done)|((repeat' (first|assumption|exact mAx _|refine mBx ?_ ?_|exact mCx (by assumption)|refine mDx ?_|refine mEx ?_ ?_ ?_|exact mFx|refine mGx ?_ ?_ ?_|exact mHx|exact mIx _|(simp only [wM,Nat.reduceAdd,Nat.reduceLT,Nat.reduceLeDiff];done)));done)|omega|decide) only [e, e, sBin_rem, ↓wA,wB,wL,resOf,Nat.reduceBEq,Int.reduceBEq,Int.reduceBNe,Int.reduceLT,Int.reduceLE,Int.reduceAdd,Int.reduceSub,Int.reduceMul,Int.reduceToNat]
    have c1 : ((n : Int) % (d + 1) == 0) = decide (n % (d + 1) = 0) := by
      rw [show ((d : Int) + 1) = ((d + 1 : Nat) : Int) from rfl, ← Int.natCast_emod]
      by_cases hh : n % (d + 1) = 0
      · rw [hh]; rfl
      · rw [decide_eq_false hh]; exact beq_eq_false_iff_ne.2 (by omega)
    have c2 : (((d : Int) + 1) % m != 0) = decide ((d + 1) % m ≠ 0) := by
      rw [show ((d : Int) + 1) = ((d + 1 : Nat) : Int) from rfl, ← Int.natCast_emod]
      by_cases hh : (d + 1) % m = 0
      · rw [hh]; rfl
      · rw [decide_eq_true hh]; exact bne_iff_ne.2 (by omega)
    have ss : sigmaN n m (d + 1) = sigmaN n m d + (if n % (d + 1) = 0 ∧ (d + 1) % m ≠ 0 then d + 1 else 0) := rfl
    by_cases g1 : n % (d + 1) = 0
    · by_cases g2 : (d + 1) % m ≠ 0
      · rw [if_pos ⟨g1, g2⟩] at ss
        rw [decide_eq_true g1] at c1
        rw [decide_eq_true g2] at c2
        have ev : ((sigmaN n m d : Nat) : Int) + (d + 1) = ((sigmaN n m (d + 1) : Nat) : Int) := by rw [ss]; push_cast; rfl
        simp (disch := first|(simp only [Nat.reduceBEq,wE];done)|((repeat' (first|assumption|exact mAx _|refine mBx ?_ ?_|exact mCx (by assumption)|refine mDx ?_|refine mEx ?_ ?_ ?_|exact mFx|refine mGx ?_ ?_ ?_|exact mHx|exact mIx _|(simp only [wM,Nat.reduceAdd,Nat.reduceLT,Nat.reduceLeDiff];done)));done)|omega|decide) only [e, c1, c2, sBin_rem, ev, ↓wA,wB,wL,resOf,Nat.reduceBEq,Int.reduceBEq,Int.reduceBNe,Int.reduceLT,Int.reduceLE,Int.reduceAdd,Int.reduceSub,Int.reduceMul,Int.reduceToNat]
        refine ⟨_, ?_, d + 1, _, _, rfl, ?_, rfl⟩
        · omega
        omega
      · rw [if_neg (fun hh => g2 hh.2)] at ss
        rw [decide_eq_true g1] at c1
        rw [decide_eq_false g2] at c2
        have ev : sigmaN n m d = sigmaN n m (d + 1) := by rw [ss]; rfl
        simp (disch := first|(simp only [Nat.reduceBEq,wE];done)|((repeat' (first|assumption|exact mAx _|refine mBx ?_ ?_|exact mCx (by assumption)|refine mDx ?_|refine mEx ?_ ?_ ?_|exact mFx|refine mGx ?_ ?_ ?_|exact mHx|exact mIx _|(simp only [wM,Nat.reduceAdd,Nat.reduceLT,Nat.reduceLeDiff];done)));done)|omega|decide) only [e, c1, c2, sBin_rem, ev, ↓wA,wB,wL,resOf,Nat.reduceBEq,Int.reduceBEq,Int.reduceBNe,Int.reduceLT,Int.reduceLE,Int.reduceAdd,Int.reduceSub,Int.reduceMul,Int.reduceToNat]
        refine ⟨_, ?_, d + 1, _, _, rfl, ?_, rfl⟩
        · omega
        omega
    · rw [if_neg (fun hh => g1 hh.1)] at ss
      rw [decide_eq_false g1] at c1
      have ev : sigmaN n m d = sigmaN n m (d + 1) := by rw [ss]; rfl
      simp (disch := first|(simp only [Nat.reduceBEq,wE];done)|((repeat' (first|assumption|exact mAx _|refine mBx ?_ ?_|exact mCx (by assumption)|refine mDx ?_|refine mEx ?_ ?_ ?_|exact mFx|refine mGx ?_ ?_ ?_|exact mHx|exact mIx _|(simp only [wM,Nat.reduceAdd,Nat.reduceLT,Nat.reduceLeDiff];done)));done)|omega|decide) only [e, c1, sBin_rem, ev, ↓wA,wB,wL,resOf,Nat.reduceBEq,Int.reduceBEq,Int.reduceBNe,Int.reduceLT,Int.reduceLE,Int.reduceAdd,Int.reduceSub,Int.reduceMul,Int.reduceToNat]
      refine ⟨_, ?_, d + 1, _, _, rfl, ?_, rfl⟩
      · omega
      omega
  · simp (disch := first|(simp only [Nat.reduceBEq,wE];done)|((repeat' (first|assumption|exact mAx _|refine mBx ?_ ?_|exact mCx (by assumption)|refine mDx ?_|refine mEx ?_ ?_ ?_|exact mFx|refine mGx ?_ ?_ ?_|exact mHx|exact mIx _|(simp only [wM,Nat.reduceAdd,Nat.reduceLT,Nat.reduceLeDiff];done)));done)|omega|decide) only [e, e, ↓wA,wB,wL,resOf,Nat.reduceBEq,Int.reduceBEq,Int.reduceBNe,Int.reduceLT,Int.reduceLE,Int.reduceAdd,Int.reduceSub,Int.reduceMul,Int.reduceToNat]
    refine ⟨_, rfl, ?_, by (repeat' (first|assumption|exact mAx _|refine mBx ?_ ?_|exact mCx (by assumption)|refine mDx ?_|refine mEx ?_ ?_ ?_|exact mFx|refine mGx ?_ ?_ ?_|exact mHx|exact mIx _|(simp only [wM,Nat.reduceAdd,Nat.reduceLT,Nat.reduceLeDiff];done)))⟩
    rw [show d = n by omega]

end Go.Proofs.Ythalpbiifpfagaa


set_option linter.unusedSimpArgs false
set_option linter.unusedVariables false
set_option maxHeartbeats 1000000

namespace Go.Nm

def sqD (rec : Nat → Nat → Option (List Nat)) (k n : Nat) : Nat → Option (List Nat)
  | 0 => none
  | m + 1 => if n ≤ (k + 1) * m * m then (match rec (n - m * m) m with | some l => some (m :: l) | none => sqD rec k n m) else none
/-- The lexicographically greatest sum of k squares. -/
def sqF : Nat → Nat → Nat → Option (List Nat)
  | 0, n, _ => if n = 0 then some [] else none
  | k + 1, n, most => sqD (sqF k) k n (min most (isq n) + 1)
def iv (l : List Nat) : List Int := l.map fun x : Nat => (x : Int)
theorem sqD_len {rec : Nat → Nat → Option (List Nat)} {k n j : Nat} (hr : ∀ a b l, rec a b = some l → l.length = j) : ∀ {m : Nat} {l : List Nat}, sqD rec k n m = some l → l.length = j + 1
  | 0, l, h => by cases h
  | m + 1, l, h => by
    simp only [sqD] at h
    split at h
    · split at h
      · rename_i l' hl'
        cases h
        rw [List.length_cons, hr _ _ _ hl']
      · exact sqD_len hr h
    · cases h
theorem sqF_len : ∀ {k n most : Nat} {l : List Nat}, sqF k n most = some l → l.length = k
  | 0, n, most, l, h => by
    simp only [sqF] at h
    split at h
    · cases h; rfl
    · cases h
  | k + 1, n, most, l, h => sqD_len (fun a b l hl => sqF_len hl) h

end Go.Nm


namespace Go.Abs

open Go Go.Nm
/-- An empty list, or a whole block of one's own, of unknown capacity. -/
def OwnN (c : Nat) (bs : List (Nat × Blk)) (s : AV) (zs : List Int) : Prop :=
  (zs = [] ∧ s = .nilsl) ∨ (∃ id b, s = .sl id 0 zs.length none 1 ∧ lkB bs id = some b ∧ b.cells = ints .i64 zs ∧ c ≤ id ∧ c ≤ b.ch ∧ b.wr = true ∧ 0 < zs.length)
theorem OwnN.nil {c : Nat} {bs : List (Nat × Blk)} : OwnN c bs .nilsl [] := .inl ⟨rfl, rfl⟩
theorem OwnN.own {c : Nat} {bs : List (Nat × Blk)} {s : AV} {zs : List Int} (O : OwnN c bs s zs) : Own c bs .i64 s zs := by
  refine ⟨by simp [ints_len], ?_⟩
  obtain ⟨rfl, rfl⟩ | ⟨id, b, rfl, h1, h2, h3, h4, h5, h6⟩ := O
  · exact .inl ⟨rfl, rfl⟩
  · exact .inr ⟨id, b, none, rfl, h1, by rw [h2, List.take_of_length_le (by simp [ints_len])], h3, h4, h5, h6, by rw [h2]; simp [ints_len]⟩
theorem OwnN.sub {c : Nat} {bs bs' : List (Nat × Blk)} {s : AV} {zs : List Int} (O : OwnN c bs s zs) (t : Sub bs bs') : OwnN c bs' s zs := by
  obtain O | ⟨id, b, rfl, h1, h2⟩ := O
  · exact .inl O
  · exact .inr ⟨id, b, rfl, t _ _ h1, h2⟩
theorem OwnN.le {c c' : Nat} {bs : List (Nat × Blk)} {s : AV} {zs : List Int} (O : OwnN c bs s zs) (h : c' ≤ c) : OwnN c' bs s zs := by
  obtain O | ⟨id, b, rfl, h1, h2, h3, h4, h5⟩ := O
  · exact .inl O
  · exact .inr ⟨id, b, rfl, h1, h2, by omega, by omega, h5⟩
theorem OwnN.leave {h : Hp} {bs bs' : List (Nat × Blk)} {s : AV} {zs : List Int} (O : OwnN h.next bs s zs) (hr : refOK h.next s = true) : OwnN h.next bs' s zs := by
  obtain O | ⟨id, b, rfl, h1, h2, h3, h4, h5⟩ := O
  · exact .inl O
  · simp only [refOK, Nat.blt_eq] at hr
    omega

theorem ins_own {h0 h1 : Hp} (ho : Hok h0) (g : Grown h0 h1) {v : AV} {l : List Int} {x : Int} (O : OwnN h0.next h1.blks v l) (hl : l.length ≤ 1000) :
    ∃ v' h', insA [v, .int .i64 0, .sl h1.next 0 1 (some 1) 1] { next := h1.next + 1, blks := (h1.next, { cells := [.int .i64 x], ch := h1.next, wr := true }) :: h1.blks, loops := h1.loops, base := h1.base, esc := h1.esc } = some (v', h') ∧
      Grown h0 h' ∧ OwnN h0.next h'.blks v' (x :: l) := by
  have k1 := g.ok ho
  have g1 : Grown h0 (h1.pu [.int .i64 x]) := g.pu rfl
  obtain ⟨rfl, rfl⟩ | ⟨id, b, rfl, h2, h3, h4, h5, h6, h7⟩ := O
  · refine ⟨.sl (h1.next + 1) 0 1 none 1, _, by simp [insA, lkB, AV.isCell]; rfl, ?_, .inr ⟨_, _, rfl, lkB_top, rfl, by have := g.next; omega, by have := g.next; simp only; omega, rfl, by simp⟩⟩
    exact GrownR.push g1 rfl (Nat.le_refl _)
  · have hid := (k1.get h2)
    have hlk : lkB ((h1.next, { cells := [.int .i64 x], ch := h1.next, wr := true }) :: h1.blks) id = some b := by rw [lkB_push (by omega)]; exact h2
    have hlx : lkB ((h1.next, { cells := [.int .i64 x], ch := h1.next, wr := true }) :: h1.blks) h1.next = some { cells := [.int .i64 x], ch := h1.next, wr := true } := lkB_top
    have c1 : Nat.beq b.ch h1.next = false := nb (by omega)
    have c2 : b.cells.all AV.isCell = true := by rw [h3]; exact all_cell_ints
    have c3 : b.cells.length = l.length := by rw [h3, ints_len]
    have c4 : b.cells.take l.length = b.cells := List.take_of_length_le (by omega)
    obtain ⟨new, en, fn⟩ := g1.blks
    obtain ⟨new', en', f1⟩ := @trunc_app b.ch (h1.next + 1) 0 h0.next h0.blks (fun x hx => (ho.blk hx).1) h5 new fn
    have gt : GrownR h0 (h1.next + 1) (Abs.trunc ((h1.next, { cells := [.int .i64 x], ch := h1.next, wr := true }) :: h1.blks) b.ch (h1.next + 1) 0) h1.loops :=
      ⟨⟨new', by rw [← en']; exact congrArg (fun z => Abs.trunc z b.ch (h1.next + 1) 0) en, f1⟩, g1.next, fun _ => (g1.ok ho).trunc, g1.loops⟩
    refine ⟨.sl (h1.next + 1) 0 (l.length + 1) none 1, { next := h1.next + 1 + 1, blks := (h1.next + 1, { cells := .int .i64 x :: ints .i64 l, ch := b.ch, wr := true }) :: Abs.trunc ((h1.next, { cells := [.int .i64 x], ch := h1.next, wr := true }) :: h1.blks) b.ch (h1.next + 1) 0, loops := h1.loops, base := h1.base, esc := h1.esc }, ?_, gt.push (cs := .int .i64 x :: ints .i64 l) (c := b.ch) (w := true) (by rw [refsOK_cons]; simp [refOK, refsOK_ints]) (by omega), .inr ⟨h1.next + 1, { cells := .int .i64 x :: ints .i64 l, ch := b.ch, wr := true }, by simp, lkB_top, by simp [ints], by have := g.next; omega, h5, rfl, by simp⟩⟩
    simp only [insA, hlk, hlx, Int.toNat_zero, List.take_zero, List.nil_append, List.drop_zero, c4, h6, c1, c2]
    have d1 : Nat.blt 0 l.length = true := by simpa [Nat.blt_eq] using h7
    have d2 : Nat.ble (l.length + 1) 1048576 = true := Nat.ble_eq_true_of_le (by omega)
    have d3 : Nat.ble l.length b.cells.length = true := Nat.ble_eq_true_of_le (by omega)
    have d4 : Nat.ble l.length (ints .i64 l).length = true := by rw [← h3]; exact d3
    simp [d1, d2, d4, h3, AV.isCell, show Nat.blt 0 1 = true from rfl, show Nat.ble 1 1 = true from rfl]

end Go.Abs



namespace Go.Proofs.Ythalpbiifpfagaa

open Go Go.Abs Go.Nm

set_option maxRecDepth 100000 in
set_option maxHeartbeats 4000000 in
theorem f28 : ∀ (k n most : Nat) (h : Hp) (hk : Hok h) (h4 : k ≤ 4) (hn : n ≤ 10000) (hm : most ≤ 10000),
    ∃ v h', Evals Try.prog tab false (.func 28) [.int .i64 k, .int .i64 n, .int .i64 most] h (v, h') ∧ Grown h h' ∧ ∃ v0, v = .tu [v0, .bool (sqF k n most).isSome] ∧ OwnN h.next h'.blks v0 (iv ((sqF k n most).getD []))
  | 0, n, most, h, hk, h4, hn, hm => by
    refine evals_q c28 (fun v h' => ∃ v0, v = .tu [v0, .bool (sqF 0 n most).isSome] ∧ OwnN h.next h'.blks v0 (iv ((sqF 0 n most).getD []))) rfl hk ?_ (fun v h1 g ⟨v0, e, O⟩ => ⟨fun hr => ⟨v0, e, O.leave (by subst e; simpa [refOK, refsOK] using hr)⟩, fun _ => ⟨v0, e, O⟩⟩)
    simp only [sf28, initS_cons, initS_nil]
    simp (disch := first|(simp only [Nat.reduceBEq,wE];done)|((repeat' (first|assumption|exact mAx _|refine mBx ?_ ?_|exact mCx (by assumption)|refine mDx ?_|refine mEx ?_ ?_ ?_|exact mFx|refine mGx ?_ ?_ ?_|exact mHx|exact mIx _|(simp only [wM,Nat.reduceAdd,Nat.reduceLT,Nat.reduceLeDiff];done)));done)|omega|decide) only [↓wA,wB,wL,resOf,Nat.reduceBEq,Int.reduceBEq,Int.reduceBNe,Int.reduceLT,Int.reduceLE,Int.reduceAdd,Int.reduceSub,Int.reduceMul,Int.reduceToNat]
    refine ⟨_, rfl, by (repeat' (first|assumption|exact mAx _|refine mBx ?_ ?_|exact mCx (by assumption)|refine mDx ?_|refine mEx ?_ ?_ ?_|exact mFx|refine mGx ?_ ?_ ?_|exact mHx|exact mIx _|(simp only [wM,Nat.reduceAdd,Nat.reduceLT,Nat.reduceLeDiff];done))), .nilsl, ?_, ?_⟩
    · by_cases h0 : n = 0
      · subst h0; rfl
      · have : ((n : Int) == 0) = false := beq_eq_false_iff_ne.2 (by omega)
        rw [this]
        simp [sqF, h0]
    · by_cases h0 : n = 0
      · subst h0; exact OwnN.nil
      · simp only [sqF, h0, if_false]; exact OwnN.nil
  | k + 1, n, most, h, hk, h4, hn, hm => by
    refine evals_q c28 (fun v h' => ∃ v0, v = .tu [v0, .bool (sqF (k + 1) n most).isSome] ∧ OwnN h.next h'.blks v0 (iv ((sqF (k + 1) n most).getD []))) rfl hk ?_ (fun v h1 g ⟨v0, e, O⟩ => ⟨fun hr => ⟨v0, e, O.leave (by subst e; simpa [refOK, refsOK] using hr)⟩, fun _ => ⟨v0, e, O⟩⟩)
    simp only [sf28, initS_cons, initS_nil]
    have ek : (((k + 1 : Nat) : Int) == 0) = false := beq_eq_false_iff_ne.2 (by omega)
    have ek1 : ((k + 1 : Nat) : Int) - 1 = k := by omega
    obtain ⟨M, hM⟩ : ∃ M, M = min most (isq n) := ⟨_, rfl⟩
    have hq := isq_100 hn
    have eM : min (most : Int) (isq n) = (M : Int) := by omega
    have hMn : M ≤ isq n := by omega
    have hss := isq_spec n
    have hF : sqF (k + 1) n most = sqD (sqF k) k n (M + 1) := by rw [sqF, hM]
    simp (disch := first|(simp only [Nat.reduceBEq,wE];done)|((repeat' (first|assumption|exact mAx _|refine mBx ?_ ?_|exact mCx (by assumption)|refine mDx ?_|refine mEx ?_ ?_ ?_|exact mFx|refine mGx ?_ ?_ ?_|exact mHx|exact mIx _|(simp only [wM,Nat.reduceAdd,Nat.reduceLT,Nat.reduceLeDiff];done)));done)|omega|decide) only [ek, ↓wA,wB,wL,resOf,Nat.reduceBEq,Int.reduceBEq,Int.reduceBNe,Int.reduceLT,Int.reduceLE,Int.reduceAdd,Int.reduceSub,Int.reduceMul,Int.reduceToNat]
    refine callP (f35 n _ (by (repeat' (first|assumption|exact mAx _|refine mBx ?_ ?_|exact mCx (by assumption)|refine mDx ?_|refine mEx ?_ ?_ ?_|exact mFx|refine mGx ?_ ?_ ?_|exact mHx|exact mIx _|(simp only [wM,Nat.reduceAdd,Nat.reduceLT,Nat.reduceLeDiff];done)))) (by omega)) ?_
    simp (disch := first|(simp only [Nat.reduceBEq,wE];done)|((repeat' (first|assumption|exact mAx _|refine mBx ?_ ?_|exact mCx (by assumption)|refine mDx ?_|refine mEx ?_ ?_ ?_|exact mFx|refine mGx ?_ ?_ ?_|exact mHx|exact mIx _|(simp only [wM,Nat.reduceAdd,Nat.reduceLT,Nat.reduceLeDiff];done)));done)|omega|decide) only [eM, ↓wA,wB,wL,resOf,Nat.reduceBEq,Int.reduceBEq,Int.reduceBNe,Int.reduceLT,Int.reduceLE,Int.reduceAdd,Int.reduceSub,Int.reduceMul,Int.reduceToNat]
    refine wloop (fun mm ss => ∃ (m : Nat) (h1 : Hp) (u9 u10 u12 u29 u44 : AV), (mm = m) ∧ (m ≤ M + 1 ∧ Grown h h1 ∧ sqD (sqF k) k n (M + 1) = sqD (sqF k) k n m) ∧ ss = { fr := [(0, .int .i64 (k + 1 : Nat)), (1, .int .i64 n), (2, .int .i64 most), (6, .nilsl), (7, .bool false), (8, .int .i64 ((m : Int) - 1)), (9, u9), (10, u10), (12, u12), (29, u29), (44, u44)], hp := h1 }) (M + 1) ?_ ?_
    ·
      refine ⟨M + 1, h.en, ?_⟩
      have e8 : ((M + 1 : Nat) : Int) - 1 = M := by omega
      rw [e8]
      exact ⟨_, _, _, _, _, rfl, ⟨Nat.le_refl _, by (repeat' (first|assumption|exact mAx _|refine mBx ?_ ?_|exact mCx (by assumption)|refine mDx ?_|refine mEx ?_ ?_ ?_|exact mFx|refine mGx ?_ ?_ ?_|exact mHx|exact mIx _|(simp only [wM,Nat.reduceAdd,Nat.reduceLT,Nat.reduceLeDiff];done))), rfl⟩, rfl⟩
    rintro nA sA ⟨m, h1, u9, u10, u12, u29, u44, hnA, ⟨hm1, g1, hd⟩, rfl⟩
    have k1 := g1.ok hk
    have fin : sqD (sqF k) k n m = none → sqF (k + 1) n most = none := fun hh => by rw [hF, hd, hh]
    cases m with
    | zero =>
      simp (disch := first|(simp only [Nat.reduceBEq,wE];done)|((repeat' (first|assumption|exact mAx _|refine mBx ?_ ?_|exact mCx (by assumption)|refine mDx ?_|refine mEx ?_ ?_ ?_|exact mFx|refine mGx ?_ ?_ ?_|exact mHx|exact mIx _|(simp only [wM,Nat.reduceAdd,Nat.reduceLT,Nat.reduceLeDiff];done)));done)|omega|decide) only [↓wA,wB,wL,resOf,Nat.reduceBEq,Int.reduceBEq,Int.reduceBNe,Int.reduceLT,Int.reduceLE,Int.reduceAdd,Int.reduceSub,Int.reduceMul,Int.reduceToNat]
      refine ⟨_, rfl, g1, .nilsl, ?_, ?_⟩
      · rw [fin rfl]; rfl
      · rw [fin rfl]; exact OwnN.nil
    | succ m =>
      have em : ((m + 1 : Nat) : Int) - 1 = m := by omega
      have hmm : m * m ≤ n := Nat.le_trans (Nat.mul_le_mul (show m ≤ isq n by omega) (show m ≤ isq n by omega)) hss.1
      have b1 := Nm.mul_bd 100 100 (x := ((k + 1 : Nat) : Int)) (y := m) (by omega) (by omega)
      have b2 := Nm.mul_bd 10000 100 (x := ((k + 1 : Nat) : Int) * m) (y := m) (by omega) (by omega)
      have b3 := Nm.mul_bd 100 100 (x := (m : Int)) (y := m) (by omega) (by omega)
      have e0 : decide ((0 : Int) ≤ m) = true := decide_eq_true (by omega)
      have es : (n : Int) - m * m = ((n - m * m : Nat) : Int) := by rw [← Int.natCast_mul]; omega
      have et : decide ((n : Int) ≤ ((k + 1 : Nat) : Int) * m * m) = decide (n ≤ (k + 1) * m * m) := by
        rw [← Int.natCast_mul, ← Int.natCast_mul]
        by_cases hh : n ≤ (k + 1) * m * m
        · rw [decide_eq_true hh]; exact decide_eq_true (by omega)
        · rw [decide_eq_false hh]; exact decide_eq_false (by omega)
      by_cases hh : n ≤ (k + 1) * m * m
      · rw [decide_eq_true hh] at et
        simp (disch := first|(simp only [Nat.reduceBEq,wE];done)|((repeat' (first|assumption|exact mAx _|refine mBx ?_ ?_|exact mCx (by assumption)|refine mDx ?_|refine mEx ?_ ?_ ?_|exact mFx|refine mGx ?_ ?_ ?_|exact mHx|exact mIx _|(simp only [wM,Nat.reduceAdd,Nat.reduceLT,Nat.reduceLeDiff];done)));done)|omega|decide) only [em, e0, et, ↓wA,wB,wL,resOf,Nat.reduceBEq,Int.reduceBEq,Int.reduceBNe,Int.reduceLT,Int.reduceLE,Int.reduceAdd,Int.reduceSub,Int.reduceMul,Int.reduceToNat]
        simp (disch := first|(simp only [Nat.reduceBEq,wE];done)|((repeat' (first|assumption|exact mAx _|refine mBx ?_ ?_|exact mCx (by assumption)|refine mDx ?_|refine mEx ?_ ?_ ?_|exact mFx|refine mGx ?_ ?_ ?_|exact mHx|exact mIx _|(simp only [wM,Nat.reduceAdd,Nat.reduceLT,Nat.reduceLeDiff];done)));done)|omega|decide) only [em, es, ek1, ↓wA,wB,wL,resOf,Nat.reduceBEq,Int.reduceBEq,Int.reduceBNe,Int.reduceLT,Int.reduceLE,Int.reduceAdd,Int.reduceSub,Int.reduceMul,Int.reduceToNat]
        refine callE (f28 k (n - m * m) m h1 k1 (by omega) (by omega) (by omega)) ?_
        rintro v h2 ⟨g2, v0, rfl, o2⟩
        have g2' : Grown h h2 := GrownR.trans g1 g2
        have k2 := g2'.ok hk
        have hd2 : sqD (sqF k) k n (m + 1) = (match sqF k (n - m * m) m with | some l => some (m :: l) | none => sqD (sqF k) k n m) := by simp only [sqD, if_pos hh]
        rw [hd2] at hd
        cases hs : sqF k (n - m * m) m with
        | none =>
          simp only [hs] at hd
          rw [hs] at o2
          simp (disch := first|(simp only [Nat.reduceBEq,wE];done)|((repeat' (first|assumption|exact mAx _|refine mBx ?_ ?_|exact mCx (by assumption)|refine mDx ?_|refine mEx ?_ ?_ ?_|exact mFx|refine mGx ?_ ?_ ?_|exact mHx|exact mIx _|(simp only [wM,Nat.reduceAdd,Nat.reduceLT,Nat.reduceLeDiff];done)));done)|omega|decide) only [Option.isSome_none, em, ↓wA,wB,wL,resOf,Nat.reduceBEq,Int.reduceBEq,Int.reduceBNe,Int.reduceLT,Int.reduceLE,Int.reduceAdd,Int.reduceSub,Int.reduceMul,Int.reduceToNat]
          refine ⟨_, ?_, m, h2, _, _, _, _, _, rfl, ?_, rfl⟩
          · omega
          exact ⟨by omega, g2', hd⟩
        | some l =>
          simp only [hs] at hd
          rw [hs] at o2
          have hl := sqF_len hs
          obtain ⟨v', h', i1, i2, i3⟩ := ins_own (x := (m : Int)) hk g2' (o2.le g1.next) (by simp [iv, hl]; omega)
          simp (disch := first|(simp only [Nat.reduceBEq,wE];done)|((repeat' (first|assumption|exact mAx _|refine mBx ?_ ?_|exact mCx (by assumption)|refine mDx ?_|refine mEx ?_ ?_ ?_|exact mFx|refine mGx ?_ ?_ ?_|exact mHx|exact mIx _|(simp only [wM,Nat.reduceAdd,Nat.reduceLT,Nat.reduceLeDiff];done)));done)|omega|decide) only [Option.isSome_some, em, ↓wA,wB,wL,resOf,Nat.reduceBEq,Int.reduceBEq,Int.reduceBNe,Int.reduceLT,Int.reduceLE,Int.reduceAdd,Int.reduceSub,Int.reduceMul,Int.reduceToNat]
          refine callP (evals_tab i1) ?_
          simp (disch := first|(simp only [Nat.reduceBEq,wE];done)|((repeat' (first|assumption|exact mAx _|refine mBx ?_ ?_|exact mCx (by assumption)|refine mDx ?_|refine mEx ?_ ?_ ?_|exact mFx|refine mGx ?_ ?_ ?_|exact mHx|exact mIx _|(simp only [wM,Nat.reduceAdd,Nat.reduceLT,Nat.reduceLeDiff];done)));done)|omega|decide) only [↓wA,wB,wL,resOf,Nat.reduceBEq,Int.reduceBEq,Int.reduceBNe,Int.reduceLT,Int.reduceLE,Int.reduceAdd,Int.reduceSub,Int.reduceMul,Int.reduceToNat]
          refine ⟨_, rfl, i2, v', ?_, ?_⟩
          · rw [hF, hd]; rfl
          · rw [hF, hd]; exact i3
      · rw [decide_eq_false hh] at et
        simp (disch := first|(simp only [Nat.reduceBEq,wE];done)|((repeat' (first|assumption|exact mAx _|refine mBx ?_ ?_|exact mCx (by assumption)|refine mDx ?_|refine mEx ?_ ?_ ?_|exact mFx|refine mGx ?_ ?_ ?_|exact mHx|exact mIx _|(simp only [wM,Nat.reduceAdd,Nat.reduceLT,Nat.reduceLeDiff];done)));done)|omega|decide) only [em, e0, et, ↓wA,wB,wL,resOf,Nat.reduceBEq,Int.reduceBEq,Int.reduceBNe,Int.reduceLT,Int.reduceLE,Int.reduceAdd,Int.reduceSub,Int.reduceMul,Int.reduceToNat]
        have hz : sqF (k + 1) n most = none := fin (by rw [sqD, if_neg hh])
        refine ⟨_, rfl, g1, .nilsl, ?_, ?_⟩
        · rw [hz]; rfl
        · rw [hz]; exact OwnN.nil

end Go.Proofs.Ythalpbiifpfagaa

