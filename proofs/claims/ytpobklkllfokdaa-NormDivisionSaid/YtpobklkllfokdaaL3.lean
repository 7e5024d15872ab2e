/- NormDivision. -/
import Derived.Test.YtpobklkllfokdaaNH
import Derived.Test.YtpobklkllfokdaaFNormDivision
set_option linter.unusedSimpArgs false
set_option linter.unusedVariables false
set_option maxHeartbeats 1000000
namespace Go.Nm
theorem Qt.bd_nrm' {x : Qt} (hx : x.int) (h : x.nrm ≤ 250000) : x.bd 1000 := by
  have h4 := Qt.sq_four hx
  have ha := sq_le (a := x.a) (M := x.a.natAbs) (by omega)
  have hb := sq_le (a := x.b) (M := x.b.natAbs) (by omega)
  have hc := sq_le (a := x.c) (M := x.c.natAbs) (by omega)
  have hd := sq_le (a := x.d) (M := x.d.natAbs) (by omega)
  have hsq : x.sq = x.a * x.a + x.b * x.b + x.c * x.c + x.d * x.d := rfl
  have key : ∀ a : Int, a * a ≤ 1000000 → -1000 ≤ a ∧ a ≤ 1000 := fun a h => by
    rcases Int.lt_or_le a (-1000) with h1 | h1
    · exfalso
      have := Int.mul_le_mul_of_nonneg_left (show 1001 ≤ -a by omega) (show 0 ≤ -a by omega)
      rw [Int.neg_mul_neg] at this
      omega
    · rcases Int.lt_or_le 1000 a with h2 | h2
      · exfalso
        have := Int.mul_le_mul_of_nonneg_left (show 1001 ≤ a by omega) (show 0 ≤ a by omega)
        omega
      · exact ⟨h1, h2⟩
  exact ⟨key _ (by omega), key _ (by omega), key _ (by omega), key _ (by omega)⟩
theorem Qt.add_rem {x y : Qt} : ((x.quo y).mul y).a + (x.rem y).a = x.a ∧ ((x.quo y).mul y).b + (x.rem y).b = x.b ∧ ((x.quo y).mul y).c + (x.rem y).c = x.c ∧ ((x.quo y).mul y).d + (x.rem y).d = x.d := by
  simp only [Qt.rem, Qt.sub]
  omega
end Go.Nm
namespace Go.Proofs.Ytpobklkllfokdaa
open Go Go.Abs Go.Nm
set_option maxRecDepth 100000 in
set_option maxHeartbeats 8000000 in
theorem f10 (a b c d a' b' c' d' : Int) (h : Hp) (hk : Hok h) (b0 : -32768 ≤ a ∧ a ≤ 32767) (b1 : -32768 ≤ b ∧ b ≤ 32767) (b2 : -32768 ≤ c ∧ c ≤ 32767) (b3 : -32768 ≤ d ∧ d ≤ 32767)
    (b0' : -32768 ≤ a' ∧ a' ≤ 32767) (b1' : -32768 ≤ b' ∧ b' ≤ 32767) (b2' : -32768 ≤ c' ∧ c' ≤ 32767) (b3' : -32768 ≤ d' ∧ d' ≤ 32767) :
    ∃ h', Evals Try.prog tab false (.func 10) [.ag [.int .i16 a, .int .i16 b, .int .i16 c, .int .i16 d], .ag [.int .i16 a', .int .i16 b', .int .i16 c', .int .i16 d']] h (.bool true, h') := by
  refine ⟨h, evals_pure c10 rfl hk ?_⟩
  simp only [sf10, initS_cons, initS_nil]
  simp (disch := first|(simp only [Nat.reduceBEq,wE];done)|((repeat' (first|assumption|exact mAx _|refine mBx ?_ ?_|exact mCx (by assumption)|refine mDx ?_|refine mEx ?_ ?_ ?_|exact mFx|refine mGx ?_ ?_ ?_|exact mHx|exact mIx _|(simp only [wM,Nat.reduceAdd,Nat.reduceLT,Nat.reduceLeDiff];done)));done)|omega|decide) only [↓wA,wB,wL,resOf,Nat.reduceBEq,Int.reduceBEq,Int.reduceBNe,Int.reduceLT,Int.reduceLE,Int.reduceAdd,Int.reduceSub,Int.reduceMul,Int.reduceToNat]
  refine callE (madeE a b c d 1000 _ (by (repeat' (first|assumption|exact mAx _|refine mBx ?_ ?_|exact mCx (by assumption)|refine mDx ?_|refine mEx ?_ ?_ ?_|exact mFx|refine mGx ?_ ?_ ?_|exact mHx|exact mIx _|(simp only [wM,Nat.reduceAdd,Nat.reduceLT,Nat.reduceLeDiff];done)))) b0 b1 b2 b3 (by omega)) ?_
  rintro _ _ ⟨rfl, p, rfl, ip, bp⟩
  simp (disch := first|(simp only [Nat.reduceBEq,wE];done)|((repeat' (first|assumption|exact mAx _|refine mBx ?_ ?_|exact mCx (by assumption)|refine mDx ?_|refine mEx ?_ ?_ ?_|exact mFx|refine mGx ?_ ?_ ?_|exact mHx|exact mIx _|(simp only [wM,Nat.reduceAdd,Nat.reduceLT,Nat.reduceLeDiff];done)));done)|omega|decide) only [↓wA,wB,wL,resOf,Nat.reduceBEq,Int.reduceBEq,Int.reduceBNe,Int.reduceLT,Int.reduceLE,Int.reduceAdd,Int.reduceSub,Int.reduceMul,Int.reduceToNat]
  refine callE (madeE a' b' c' d' 40 _ (by (repeat' (first|assumption|exact mAx _|refine mBx ?_ ?_|exact mCx (by assumption)|refine mDx ?_|refine mEx ?_ ?_ ?_|exact mFx|refine mGx ?_ ?_ ?_|exact mHx|exact mIx _|(simp only [wM,Nat.reduceAdd,Nat.reduceLT,Nat.reduceLeDiff];done)))) b0' b1' b2' b3' (by omega)) ?_
  rintro _ _ ⟨rfl, q, rfl, iq, bq⟩
  have bq' : q.bd 1000 := Qt.bd_mono bq (by omega)
  by_cases h0 : q = zq
  · have ed : errD p q = 5 := by rw [errD, if_pos (err2 ip bp iq bq'), if_pos h0]
    have ed0 : ¬ errD p q = 0 := by omega
    simp (disch := first|(simp only [Nat.reduceBEq,wE];done)|((repeat' (first|assumption|exact mAx _|refine mBx ?_ ?_|exact mCx (by assumption)|refine mDx ?_|refine mEx ?_ ?_ ?_|exact mFx|refine mGx ?_ ?_ ?_|exact mHx|exact mIx _|(simp only [wM,Nat.reduceAdd,Nat.reduceLT,Nat.reduceLeDiff];done)));done)|omega|decide) only [agz_t h0, ↓wA,wB,wL,resOf,Nat.reduceBEq,Int.reduceBEq,Int.reduceBNe,Int.reduceLT,Int.reduceLE,Int.reduceAdd,Int.reduceSub,Int.reduceMul,Int.reduceToNat]
    refine callP (f25 p q _ (by (repeat' (first|assumption|exact mAx _|refine mBx ?_ ?_|exact mCx (by assumption)|refine mDx ?_|refine mEx ?_ ?_ ?_|exact mFx|refine mGx ?_ ?_ ?_|exact mHx|exact mIx _|(simp only [wM,Nat.reduceAdd,Nat.reduceLT,Nat.reduceLeDiff];done))))) ?_
    rw [if_neg ed0, if_neg ed0, ed]
    simp (disch := first|(simp only [Nat.reduceBEq,wE];done)|((repeat' (first|assumption|exact mAx _|refine mBx ?_ ?_|exact mCx (by assumption)|refine mDx ?_|refine mEx ?_ ?_ ?_|exact mFx|refine mGx ?_ ?_ ?_|exact mHx|exact mIx _|(simp only [wM,Nat.reduceAdd,Nat.reduceLT,Nat.reduceLeDiff];done)));done)|omega|decide) only [↓wA,wB,wL,resOf,Nat.reduceBEq,Int.reduceBEq,Int.reduceBNe,Int.reduceLT,Int.reduceLE,Int.reduceAdd,Int.reduceSub,Int.reduceMul,Int.reduceToNat]
    refine callP (f23 _ (by (repeat' (first|assumption|exact mAx _|refine mBx ?_ ?_|exact mCx (by assumption)|refine mDx ?_|refine mEx ?_ ?_ ?_|exact mFx|refine mGx ?_ ?_ ?_|exact mHx|exact mIx _|(simp only [wM,Nat.reduceAdd,Nat.reduceLT,Nat.reduceLeDiff];done))))) ?_
    simp (disch := first|(simp only [Nat.reduceBEq,wE];done)|((repeat' (first|assumption|exact mAx _|refine mBx ?_ ?_|exact mCx (by assumption)|refine mDx ?_|refine mEx ?_ ?_ ?_|exact mFx|refine mGx ?_ ?_ ?_|exact mHx|exact mIx _|(simp only [wM,Nat.reduceAdd,Nat.reduceLT,Nat.reduceLeDiff];done)));done)|omega|decide) only [↓wA,wB,wL,resOf,Nat.reduceBEq,Int.reduceBEq,Int.reduceBNe,Int.reduceLT,Int.reduceLE,Int.reduceAdd,Int.reduceSub,Int.reduceMul,Int.reduceToNat]
    exact ⟨_, rfl, rfl, by (repeat' (first|assumption|exact mAx _|refine mBx ?_ ?_|exact mCx (by assumption)|refine mDx ?_|refine mEx ?_ ?_ ?_|exact mFx|refine mGx ?_ ?_ ?_|exact mHx|exact mIx _|(simp only [wM,Nat.reduceAdd,Nat.reduceLT,Nat.reduceLeDiff];done)))⟩
  · have ed : errD p q = 0 := by rw [errD, if_pos (err2 ip bp iq bq'), if_neg h0]
    have iqq : (p.quo q).int := Qt.quo_int
    have ir : (p.rem q).int := Qt.rem_int ip iq
    have hn := Qt.nrm_pos iq h0
    have nq := Qt.nrm_bd bq
    have nr := Qt.rem_nrm ip iq h0
    have br : (p.rem q).bd 1000 := Qt.bd_nrm' ir (by omega)
    have bqq : (p.quo q).bd 16777216 := Qt.bd_mono (Qt.quo_bd hn (Qt.mul_bd bp (Qt.conj_bd bq))) (by omega)
    have bm : ((p.quo q).mul q).bd 1000000000000 := Qt.bd_mono (Qt.mul_bd (Qt.quo_bd hn (Qt.mul_bd bp (Qt.conj_bd bq))) bq) (by omega)
    obtain ⟨m1, m2, m3, m4⟩ := bm
    obtain ⟨r1, r2, r3, r4⟩ := br
    have br : (p.rem q).bd 1000 := ⟨r1, r2, r3, r4⟩
    obtain ⟨s1, s2, s3, s4⟩ := Qt.add_rem (x := p) (y := q)
    obtain ⟨t1, t2, t3⟩ := iqq
    have nn := Qt.nrm_nonneg (x := p.rem q)
    have ele : decide (2 * (p.rem q).nrm ≤ q.nrm) = true := decide_eq_true nr
    have e1 : ((p.quo q).a % 2 == (p.quo q).b % 2) = true := beq_iff_eq.2 t1.symm
    have e2 : ((p.quo q).a % 2 == (p.quo q).c % 2) = true := beq_iff_eq.2 t2.symm
    have e3 : ((p.quo q).a % 2 == (p.quo q).d % 2) = true := beq_iff_eq.2 t3.symm
    simp (disch := first|(simp only [Nat.reduceBEq,wE];done)|((repeat' (first|assumption|exact mAx _|refine mBx ?_ ?_|exact mCx (by assumption)|refine mDx ?_|refine mEx ?_ ?_ ?_|exact mFx|refine mGx ?_ ?_ ?_|exact mHx|exact mIx _|(simp only [wM,Nat.reduceAdd,Nat.reduceLT,Nat.reduceLeDiff];done)));done)|omega|decide) only [agz_f h0, ↓wA,wB,wL,resOf,Nat.reduceBEq,Int.reduceBEq,Int.reduceBNe,Int.reduceLT,Int.reduceLE,Int.reduceAdd,Int.reduceSub,Int.reduceMul,Int.reduceToNat]
    refine callP (f25 p q _ (by (repeat' (first|assumption|exact mAx _|refine mBx ?_ ?_|exact mCx (by assumption)|refine mDx ?_|refine mEx ?_ ?_ ?_|exact mFx|refine mGx ?_ ?_ ?_|exact mHx|exact mIx _|(simp only [wM,Nat.reduceAdd,Nat.reduceLT,Nat.reduceLeDiff];done))))) ?_
    rw [if_pos ed, if_pos ed, ed]
    simp (disch := first|(simp only [Nat.reduceBEq,wE];done)|((repeat' (first|assumption|exact mAx _|refine mBx ?_ ?_|exact mCx (by assumption)|refine mDx ?_|refine mEx ?_ ?_ ?_|exact mFx|refine mGx ?_ ?_ ?_|exact mHx|exact mIx _|(simp only [wM,Nat.reduceAdd,Nat.reduceLT,Nat.reduceLeDiff];done)));done)|omega|decide) only [↓wA,wB,wL,resOf,Nat.reduceBEq,Int.reduceBEq,Int.reduceBNe,Int.reduceLT,Int.reduceLE,Int.reduceAdd,Int.reduceSub,Int.reduceMul,Int.reduceToNat]
    refine callP (f20 _ [p.rem q] _ (by (repeat' (first|assumption|exact mAx _|refine mBx ?_ ?_|exact mCx (by assumption)|refine mDx ?_|refine mEx ?_ ?_ ?_|exact mFx|refine mGx ?_ ?_ ?_|exact mHx|exact mIx _|(simp only [wM,Nat.reduceAdd,Nat.reduceLT,Nat.reduceLeDiff];done)))) oneQ (by simp)) ?_
    rw [err1 ir br]
    simp (disch := first|(simp only [Nat.reduceBEq,wE];done)|((repeat' (first|assumption|exact mAx _|refine mBx ?_ ?_|exact mCx (by assumption)|refine mDx ?_|refine mEx ?_ ?_ ?_|exact mFx|refine mGx ?_ ?_ ?_|exact mHx|exact mIx _|(simp only [wM,Nat.reduceAdd,Nat.reduceLT,Nat.reduceLeDiff];done)));done)|omega|decide) only [↓wA,wB,wL,resOf,Nat.reduceBEq,Int.reduceBEq,Int.reduceBNe,Int.reduceLT,Int.reduceLE,Int.reduceAdd,Int.reduceSub,Int.reduceMul,Int.reduceToNat]
    refine callP (f23 _ (by (repeat' (first|assumption|exact mAx _|refine mBx ?_ ?_|exact mCx (by assumption)|refine mDx ?_|refine mEx ?_ ?_ ?_|exact mFx|refine mGx ?_ ?_ ?_|exact mHx|exact mIx _|(simp only [wM,Nat.reduceAdd,Nat.reduceLT,Nat.reduceLeDiff];done))))) ?_
    simp (disch := first|(simp only [Nat.reduceBEq,wE];done)|((repeat' (first|assumption|exact mAx _|refine mBx ?_ ?_|exact mCx (by assumption)|refine mDx ?_|refine mEx ?_ ?_ ?_|exact mFx|refine mGx ?_ ?_ ?_|exact mHx|exact mIx _|(simp only [wM,Nat.reduceAdd,Nat.reduceLT,Nat.reduceLeDiff];done)));done)|omega|decide) only [↓wA,wB,wL,resOf,Nat.reduceBEq,Int.reduceBEq,Int.reduceBNe,Int.reduceLT,Int.reduceLE,Int.reduceAdd,Int.reduceSub,Int.reduceMul,Int.reduceToNat]
    refine callP (f24 (p.quo q) q _ (by (repeat' (first|assumption|exact mAx _|refine mBx ?_ ?_|exact mCx (by assumption)|refine mDx ?_|refine mEx ?_ ?_ ?_|exact mFx|refine mGx ?_ ?_ ?_|exact mHx|exact mIx _|(simp only [wM,Nat.reduceAdd,Nat.reduceLT,Nat.reduceLeDiff];done)))) bqq (Qt.bd_mono bq (by omega)) Qt.quo_int iq) ?_
    simp (disch := first|(simp only [Nat.reduceBEq,wE];done)|((repeat' (first|assumption|exact mAx _|refine mBx ?_ ?_|exact mCx (by assumption)|refine mDx ?_|refine mEx ?_ ?_ ?_|exact mFx|refine mGx ?_ ?_ ?_|exact mHx|exact mIx _|(simp only [wM,Nat.reduceAdd,Nat.reduceLT,Nat.reduceLeDiff];done)));done)|omega|decide) only [e1, e2, e3, s1, s2, s3, s4, ↓wA,wB,wL,resOf,Nat.reduceBEq,Int.reduceBEq,Int.reduceBNe,Int.reduceLT,Int.reduceLE,Int.reduceAdd,Int.reduceSub,Int.reduceMul,Int.reduceToNat]
    refine callP (f22 (p.rem q) _ (by (repeat' (first|assumption|exact mAx _|refine mBx ?_ ?_|exact mCx (by assumption)|refine mDx ?_|refine mEx ?_ ?_ ?_|exact mFx|refine mGx ?_ ?_ ?_|exact mHx|exact mIx _|(simp only [wM,Nat.reduceAdd,Nat.reduceLT,Nat.reduceLeDiff];done)))) (Qt.bd_mono br (by omega))) ?_
    simp (disch := first|(simp only [Nat.reduceBEq,wE];done)|((repeat' (first|assumption|exact mAx _|refine mBx ?_ ?_|exact mCx (by assumption)|refine mDx ?_|refine mEx ?_ ?_ ?_|exact mFx|refine mGx ?_ ?_ ?_|exact mHx|exact mIx _|(simp only [wM,Nat.reduceAdd,Nat.reduceLT,Nat.reduceLeDiff];done)));done)|omega|decide) only [↓wA,wB,wL,resOf,Nat.reduceBEq,Int.reduceBEq,Int.reduceBNe,Int.reduceLT,Int.reduceLE,Int.reduceAdd,Int.reduceSub,Int.reduceMul,Int.reduceToNat]
    refine callP (f22 q _ (by (repeat' (first|assumption|exact mAx _|refine mBx ?_ ?_|exact mCx (by assumption)|refine mDx ?_|refine mEx ?_ ?_ ?_|exact mFx|refine mGx ?_ ?_ ?_|exact mHx|exact mIx _|(simp only [wM,Nat.reduceAdd,Nat.reduceLT,Nat.reduceLeDiff];done)))) (Qt.bd_mono bq (by omega))) ?_
    simp (disch := first|(simp only [Nat.reduceBEq,wE];done)|((repeat' (first|assumption|exact mAx _|refine mBx ?_ ?_|exact mCx (by assumption)|refine mDx ?_|refine mEx ?_ ?_ ?_|exact mFx|refine mGx ?_ ?_ ?_|exact mHx|exact mIx _|(simp only [wM,Nat.reduceAdd,Nat.reduceLT,Nat.reduceLeDiff];done)));done)|omega|decide) only [ele, ↓wA,wB,wL,resOf,Nat.reduceBEq,Int.reduceBEq,Int.reduceBNe,Int.reduceLT,Int.reduceLE,Int.reduceAdd,Int.reduceSub,Int.reduceMul,Int.reduceToNat]
    exact ⟨_, rfl, rfl, by (repeat' (first|assumption|exact mAx _|refine mBx ?_ ?_|exact mCx (by assumption)|refine mDx ?_|refine mEx ?_ ?_ ?_|exact mFx|refine mGx ?_ ?_ ?_|exact mHx|exact mIx _|(simp only [wM,Nat.reduceAdd,Nat.reduceLT,Nat.reduceLeDiff];done)))⟩
end Go.Proofs.Ytpobklkllfokdaa
