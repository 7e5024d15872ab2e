/- Sums of squares, counts, primes, splits, units for callers. Units, Split. The references' common functions. The examples of the document hold. -/
import Derived.Test.YthalpbiifpfagaaNE
import Derived.Test.YthalpbiifpfagaaSN
import Derived.Test.YthalpbiifpfagaaSW
set_option linter.unusedSimpArgs false
set_option linter.unusedVariables false
set_option maxHeartbeats 1000000

namespace Go.Nm

def sqR (k : Nat) (n : Int) : List Nat × Int := if 0 ≤ n ∧ n ≤ 10000 then (match sqF k n.toNat n.toNat with | some l => (l, 0) | none => ([], 5)) else ([], 1)
def cntR (n : Int) : Int × Int := if 0 ≤ n ∧ n ≤ 10000 then (if n = 0 then (1, 0) else (8 * ((sigmaN n.toNat 4 n.toNat : Nat) : Int), 0)) else (0, 1)
def hurR (n : Int) : Int × Int := if 1 ≤ n ∧ n ≤ 10000 then (24 * ((sigmaN n.toNat 2 n.toNat : Nat) : Int), 0) else (0, 1)

end Go.Nm


namespace Go.Proofs.Ythalpbiifpfagaa

open Go Go.Abs Go.Nm

theorem f26 (k : Nat) (n : Int) (h : Hp) (hk : Hok h) (h4 : k ≤ 4) :
    ∃ v h', Evals Try.prog tab false (.func 26) [.int .i64 k, .int .i64 n] h (v, h') ∧ Grown h h' ∧ ∃ v0, v = .tu [v0, .int .i64 (sqR k n).2] ∧ OwnN h.next h'.blks v0 (iv (sqR k n).1) := by
  refine evals_q c26 (fun v h' => ∃ v0, v = .tu [v0, .int .i64 (sqR k n).2] ∧ OwnN h.next h'.blks v0 (iv (sqR k n).1)) rfl hk ?_ (fun v h1 g ⟨v0, e, O⟩ => ⟨fun hr => ⟨v0, e, O.leave (by subst e; simpa [refOK, refsOK] using hr)⟩, fun _ => ⟨v0, e, O⟩⟩)
  simp only [sf26, initS_cons, initS_nil]
  simp (disch := first|(simp only [Nat.reduceBEq,wE];done)|((repeat' (first|assumption|exact mAx _|refine mBx ?_ ?_|exact mCx (by assumption)|refine mDx ?_|refine mEx ?_ ?_ ?_|exact mFx|refine mGx ?_ ?_ ?_|exact mHx|exact mIx _|(simp only [wM,Nat.reduceAdd,Nat.reduceLT,Nat.reduceLeDiff];done)));done)|omega|decide) only [↓wA,wB,wL,resOf,Nat.reduceBEq,Int.reduceBEq,Int.reduceBNe,Int.reduceLT,Int.reduceLE,Int.reduceAdd,Int.reduceSub,Int.reduceMul,Int.reduceToNat]
  refine callP (f10 _ _ _ _ (by (repeat' (first|assumption|exact mAx _|refine mBx ?_ ?_|exact mCx (by assumption)|refine mDx ?_|refine mEx ?_ ?_ ?_|exact mFx|refine mGx ?_ ?_ ?_|exact mHx|exact mIx _|(simp only [wM,Nat.reduceAdd,Nat.reduceLT,Nat.reduceLeDiff];done))))) ?_
  by_cases hn : 0 ≤ n ∧ n ≤ 10000
  · obtain ⟨m, rfl⟩ : ∃ m : Nat, n = m := ⟨n.toNat, by omega⟩
    simp (disch := first|(simp only [Nat.reduceBEq,wE];done)|((repeat' (first|assumption|exact mAx _|refine mBx ?_ ?_|exact mCx (by assumption)|refine mDx ?_|refine mEx ?_ ?_ ?_|exact mFx|refine mGx ?_ ?_ ?_|exact mHx|exact mIx _|(simp only [wM,Nat.reduceAdd,Nat.reduceLT,Nat.reduceLeDiff];done)));done)|omega|decide) only [decide_eq_true hn, ↓wA,wB,wL,resOf,Nat.reduceBEq,Int.reduceBEq,Int.reduceBNe,Int.reduceLT,Int.reduceLE,Int.reduceAdd,Int.reduceSub,Int.reduceMul,Int.reduceToNat]
    refine callE (f28 k m m _ (by (repeat' (first|assumption|exact mAx _|refine mBx ?_ ?_|exact mCx (by assumption)|refine mDx ?_|refine mEx ?_ ?_ ?_|exact mFx|refine mGx ?_ ?_ ?_|exact mHx|exact mIx _|(simp only [wM,Nat.reduceAdd,Nat.reduceLT,Nat.reduceLeDiff];done)))) h4 (by omega) (by omega)) ?_
    rintro v h2 ⟨g2, v0, rfl, o2⟩
    cases hs : sqF k m m with
    | none =>
      have e1 : sqR k m = ([], 5) := by simp only [sqR, if_pos hn, Int.toNat_natCast, hs]
      rw [e1]
      simp (disch := first|(simp only [Nat.reduceBEq,wE];done)|((repeat' (first|assumption|exact mAx _|refine mBx ?_ ?_|exact mCx (by assumption)|refine mDx ?_|refine mEx ?_ ?_ ?_|exact mFx|refine mGx ?_ ?_ ?_|exact mHx|exact mIx _|(simp only [wM,Nat.reduceAdd,Nat.reduceLT,Nat.reduceLeDiff];done)));done)|omega|decide) only [Option.isSome_none, ↓wA,wB,wL,resOf,Nat.reduceBEq,Int.reduceBEq,Int.reduceBNe,Int.reduceLT,Int.reduceLE,Int.reduceAdd,Int.reduceSub,Int.reduceMul,Int.reduceToNat]
      exact ⟨_, rfl, GrownR.of_en g2, _, rfl, OwnN.nil⟩
    | some l =>
      have e1 : sqR k m = (l, 0) := by simp only [sqR, if_pos hn, Int.toNat_natCast, hs]
      rw [e1]
      rw [hs] at o2
      simp (disch := first|(simp only [Nat.reduceBEq,wE];done)|((repeat' (first|assumption|exact mAx _|refine mBx ?_ ?_|exact mCx (by assumption)|refine mDx ?_|refine mEx ?_ ?_ ?_|exact mFx|refine mGx ?_ ?_ ?_|exact mHx|exact mIx _|(simp only [wM,Nat.reduceAdd,Nat.reduceLT,Nat.reduceLeDiff];done)));done)|omega|decide) only [Option.isSome_some, ↓wA,wB,wL,resOf,Nat.reduceBEq,Int.reduceBEq,Int.reduceBNe,Int.reduceLT,Int.reduceLE,Int.reduceAdd,Int.reduceSub,Int.reduceMul,Int.reduceToNat]
      exact ⟨_, rfl, GrownR.of_en g2, _, rfl, o2⟩
  · have e1 : sqR k n = ([], 1) := by simp only [sqR, if_neg hn]
    rw [e1]
    simp (disch := first|(simp only [Nat.reduceBEq,wE];done)|((repeat' (first|assumption|exact mAx _|refine mBx ?_ ?_|exact mCx (by assumption)|refine mDx ?_|refine mEx ?_ ?_ ?_|exact mFx|refine mGx ?_ ?_ ?_|exact mHx|exact mIx _|(simp only [wM,Nat.reduceAdd,Nat.reduceLT,Nat.reduceLeDiff];done)));done)|omega|decide) only [decide_eq_false hn, ↓wA,wB,wL,resOf,Nat.reduceBEq,Int.reduceBEq,Int.reduceBNe,Int.reduceLT,Int.reduceLE,Int.reduceAdd,Int.reduceSub,Int.reduceMul,Int.reduceToNat]
    exact ⟨_, rfl, by (repeat' (first|assumption|exact mAx _|refine mBx ?_ ?_|exact mCx (by assumption)|refine mDx ?_|refine mEx ?_ ?_ ?_|exact mFx|refine mGx ?_ ?_ ?_|exact mHx|exact mIx _|(simp only [wM,Nat.reduceAdd,Nat.reduceLT,Nat.reduceLeDiff];done))), _, rfl, OwnN.nil⟩

theorem f14 (n : Int) (h : Hp) (hk : Hok h) :
    ∃ v h', Evals Try.prog tab false (.func 14) [.int .i64 n] h (v, h') ∧ Grown h h' ∧ ∃ v0, v = .tu [v0, .int .i64 (sqR 4 n).2] ∧ OwnN h.next h'.blks v0 (iv (sqR 4 n).1) := by
  refine evals_q c14 (fun v h' => ∃ v0, v = .tu [v0, .int .i64 (sqR 4 n).2] ∧ OwnN h.next h'.blks v0 (iv (sqR 4 n).1)) rfl hk ?_ (fun v h1 g ⟨v0, e, O⟩ => ⟨fun hr => ⟨v0, e, O.leave (by subst e; simpa [refOK, refsOK] using hr)⟩, fun _ => ⟨v0, e, O⟩⟩)
  simp only [sf14, initS_cons, initS_nil]
  simp (disch := first|(simp only [Nat.reduceBEq,wE];done)|((repeat' (first|assumption|exact mAx _|refine mBx ?_ ?_|exact mCx (by assumption)|refine mDx ?_|refine mEx ?_ ?_ ?_|exact mFx|refine mGx ?_ ?_ ?_|exact mHx|exact mIx _|(simp only [wM,Nat.reduceAdd,Nat.reduceLT,Nat.reduceLeDiff];done)));done)|omega|decide) only [↓wA,wB,wL,resOf,Nat.reduceBEq,Int.reduceBEq,Int.reduceBNe,Int.reduceLT,Int.reduceLE,Int.reduceAdd,Int.reduceSub,Int.reduceMul,Int.reduceToNat]
  refine callE (f26 4 n _ (by (repeat' (first|assumption|exact mAx _|refine mBx ?_ ?_|exact mCx (by assumption)|refine mDx ?_|refine mEx ?_ ?_ ?_|exact mFx|refine mGx ?_ ?_ ?_|exact mHx|exact mIx _|(simp only [wM,Nat.reduceAdd,Nat.reduceLT,Nat.reduceLeDiff];done)))) (by omega)) ?_
  rintro v h2 ⟨g2, v0, rfl, o2⟩
  simp (disch := first|(simp only [Nat.reduceBEq,wE];done)|((repeat' (first|assumption|exact mAx _|refine mBx ?_ ?_|exact mCx (by assumption)|refine mDx ?_|refine mEx ?_ ?_ ?_|exact mFx|refine mGx ?_ ?_ ?_|exact mHx|exact mIx _|(simp only [wM,Nat.reduceAdd,Nat.reduceLT,Nat.reduceLeDiff];done)));done)|omega|decide) only [↓wA,wB,wL,resOf,Nat.reduceBEq,Int.reduceBEq,Int.reduceBNe,Int.reduceLT,Int.reduceLE,Int.reduceAdd,Int.reduceSub,Int.reduceMul,Int.reduceToNat]
  exact ⟨_, rfl, GrownR.of_en g2, _, rfl, o2⟩

theorem f15 (n : Int) (h : Hp) (hk : Hok h) :
    ∃ v h', Evals Try.prog tab false (.func 15) [.int .i64 n] h (v, h') ∧ Grown h h' ∧ ∃ v0, v = .tu [v0, .int .i64 (sqR 3 n).2] ∧ OwnN h.next h'.blks v0 (iv (sqR 3 n).1) := by
  refine evals_q c15 (fun v h' => ∃ v0, v = .tu [v0, .int .i64 (sqR 3 n).2] ∧ OwnN h.next h'.blks v0 (iv (sqR 3 n).1)) rfl hk ?_ (fun v h1 g ⟨v0, e, O⟩ => ⟨fun hr => ⟨v0, e, O.leave (by subst e; simpa [refOK, refsOK] using hr)⟩, fun _ => ⟨v0, e, O⟩⟩)
  simp only [sf15, initS_cons, initS_nil]
  simp (disch := first|(simp only [Nat.reduceBEq,wE];done)|((repeat' (first|assumption|exact mAx _|refine mBx ?_ ?_|exact mCx (by assumption)|refine mDx ?_|refine mEx ?_ ?_ ?_|exact mFx|refine mGx ?_ ?_ ?_|exact mHx|exact mIx _|(simp only [wM,Nat.reduceAdd,Nat.reduceLT,Nat.reduceLeDiff];done)));done)|omega|decide) only [↓wA,wB,wL,resOf,Nat.reduceBEq,Int.reduceBEq,Int.reduceBNe,Int.reduceLT,Int.reduceLE,Int.reduceAdd,Int.reduceSub,Int.reduceMul,Int.reduceToNat]
  refine callE (f26 3 n _ (by (repeat' (first|assumption|exact mAx _|refine mBx ?_ ?_|exact mCx (by assumption)|refine mDx ?_|refine mEx ?_ ?_ ?_|exact mFx|refine mGx ?_ ?_ ?_|exact mHx|exact mIx _|(simp only [wM,Nat.reduceAdd,Nat.reduceLT,Nat.reduceLeDiff];done)))) (by omega)) ?_
  rintro v h2 ⟨g2, v0, rfl, o2⟩
  simp (disch := first|(simp only [Nat.reduceBEq,wE];done)|((repeat' (first|assumption|exact mAx _|refine mBx ?_ ?_|exact mCx (by assumption)|refine mDx ?_|refine mEx ?_ ?_ ?_|exact mFx|refine mGx ?_ ?_ ?_|exact mHx|exact mIx _|(simp only [wM,Nat.reduceAdd,Nat.reduceLT,Nat.reduceLeDiff];done)));done)|omega|decide) only [↓wA,wB,wL,resOf,Nat.reduceBEq,Int.reduceBEq,Int.reduceBNe,Int.reduceLT,Int.reduceLE,Int.reduceAdd,Int.reduceSub,Int.reduceMul,Int.reduceToNat]
  exact ⟨_, rfl, GrownR.of_en g2, _, rfl, o2⟩

theorem sigma_bd {n m : Nat} (hn : n ≤ 10000) : sigmaN n m n ≤ 100000000 := Nat.le_trans sigmaN_le (Nat.le_trans (Nat.mul_le_mul hn hn) (by omega))

theorem f4 (n : Int) (h : Hp) (hk : Hok h) : Evals Try.prog tab false (.func 4) [.int .i64 n] h (.tu [.int .i64 (cntR n).1, .int .i64 (cntR n).2], h) := by
  refine evals_pure c4 rfl hk ?_
  simp only [sf4, initS_cons, initS_nil]
  simp (disch := first|(simp only [Nat.reduceBEq,wE];done)|((repeat' (first|assumption|exact mAx _|refine mBx ?_ ?_|exact mCx (by assumption)|refine mDx ?_|refine mEx ?_ ?_ ?_|exact mFx|refine mGx ?_ ?_ ?_|exact mHx|exact mIx _|(simp only [wM,Nat.reduceAdd,Nat.reduceLT,Nat.reduceLeDiff];done)));done)|omega|decide) only [↓wA,wB,wL,resOf,Nat.reduceBEq,Int.reduceBEq,Int.reduceBNe,Int.reduceLT,Int.reduceLE,Int.reduceAdd,Int.reduceSub,Int.reduceMul,Int.reduceToNat]
  refine callP (f10 _ _ _ _ (by (repeat' (first|assumption|exact mAx _|refine mBx ?_ ?_|exact mCx (by assumption)|refine mDx ?_|refine mEx ?_ ?_ ?_|exact mFx|refine mGx ?_ ?_ ?_|exact mHx|exact mIx _|(simp only [wM,Nat.reduceAdd,Nat.reduceLT,Nat.reduceLeDiff];done))))) ?_
  by_cases hn : 0 ≤ n ∧ n ≤ 10000
  · obtain ⟨m, rfl⟩ : ∃ m : Nat, n = m := ⟨n.toNat, by omega⟩
    by_cases h0 : (m : Int) = 0
    · have e1 : cntR m = (1, 0) := by simp only [cntR, if_pos hn, if_pos h0]
      rw [e1, h0]
      simp (disch := first|(simp only [Nat.reduceBEq,wE];done)|((repeat' (first|assumption|exact mAx _|refine mBx ?_ ?_|exact mCx (by assumption)|refine mDx ?_|refine mEx ?_ ?_ ?_|exact mFx|refine mGx ?_ ?_ ?_|exact mHx|exact mIx _|(simp only [wM,Nat.reduceAdd,Nat.reduceLT,Nat.reduceLeDiff];done)));done)|omega|decide) only [decide_eq_true hn, ↓wA,wB,wL,resOf,Nat.reduceBEq,Int.reduceBEq,Int.reduceBNe,Int.reduceLT,Int.reduceLE,Int.reduceAdd,Int.reduceSub,Int.reduceMul,Int.reduceToNat]
      exact ⟨_, rfl, rfl, by (repeat' (first|assumption|exact mAx _|refine mBx ?_ ?_|exact mCx (by assumption)|refine mDx ?_|refine mEx ?_ ?_ ?_|exact mFx|refine mGx ?_ ?_ ?_|exact mHx|exact mIx _|(simp only [wM,Nat.reduceAdd,Nat.reduceLT,Nat.reduceLeDiff];done)))⟩
    · have e1 : cntR m = (8 * ((sigmaN m 4 m : Nat) : Int), 0) := by simp only [cntR, if_pos hn, if_neg h0, Int.toNat_natCast]
      have e2 : ((m : Int) == 0) = false := beq_eq_false_iff_ne.2 h0
      have hb := sigma_bd (n := m) (m := 4) (by omega)
      rw [e1]
      simp (disch := first|(simp only [Nat.reduceBEq,wE];done)|((repeat' (first|assumption|exact mAx _|refine mBx ?_ ?_|exact mCx (by assumption)|refine mDx ?_|refine mEx ?_ ?_ ?_|exact mFx|refine mGx ?_ ?_ ?_|exact mHx|exact mIx _|(simp only [wM,Nat.reduceAdd,Nat.reduceLT,Nat.reduceLeDiff];done)));done)|omega|decide) only [decide_eq_true hn, e2, ↓wA,wB,wL,resOf,Nat.reduceBEq,Int.reduceBEq,Int.reduceBNe,Int.reduceLT,Int.reduceLE,Int.reduceAdd,Int.reduceSub,Int.reduceMul,Int.reduceToNat]
      refine callP (f11 m 4 _ (by (repeat' (first|assumption|exact mAx _|refine mBx ?_ ?_|exact mCx (by assumption)|refine mDx ?_|refine mEx ?_ ?_ ?_|exact mFx|refine mGx ?_ ?_ ?_|exact mHx|exact mIx _|(simp only [wM,Nat.reduceAdd,Nat.reduceLT,Nat.reduceLeDiff];done)))) (by omega) (by omega)) ?_
      simp (disch := first|(simp only [Nat.reduceBEq,wE];done)|((repeat' (first|assumption|exact mAx _|refine mBx ?_ ?_|exact mCx (by assumption)|refine mDx ?_|refine mEx ?_ ?_ ?_|exact mFx|refine mGx ?_ ?_ ?_|exact mHx|exact mIx _|(simp only [wM,Nat.reduceAdd,Nat.reduceLT,Nat.reduceLeDiff];done)));done)|omega|decide) only [↓wA,wB,wL,resOf,Nat.reduceBEq,Int.reduceBEq,Int.reduceBNe,Int.reduceLT,Int.reduceLE,Int.reduceAdd,Int.reduceSub,Int.reduceMul,Int.reduceToNat]
      exact ⟨_, rfl, rfl, by (repeat' (first|assumption|exact mAx _|refine mBx ?_ ?_|exact mCx (by assumption)|refine mDx ?_|refine mEx ?_ ?_ ?_|exact mFx|refine mGx ?_ ?_ ?_|exact mHx|exact mIx _|(simp only [wM,Nat.reduceAdd,Nat.reduceLT,Nat.reduceLeDiff];done)))⟩
  · have e1 : cntR n = (0, 1) := by simp only [cntR, if_neg hn]
    rw [e1]
    simp (disch := first|(simp only [Nat.reduceBEq,wE];done)|((repeat' (first|assumption|exact mAx _|refine mBx ?_ ?_|exact mCx (by assumption)|refine mDx ?_|refine mEx ?_ ?_ ?_|exact mFx|refine mGx ?_ ?_ ?_|exact mHx|exact mIx _|(simp only [wM,Nat.reduceAdd,Nat.reduceLT,Nat.reduceLeDiff];done)));done)|omega|decide) only [decide_eq_false hn, ↓wA,wB,wL,resOf,Nat.reduceBEq,Int.reduceBEq,Int.reduceBNe,Int.reduceLT,Int.reduceLE,Int.reduceAdd,Int.reduceSub,Int.reduceMul,Int.reduceToNat]
    exact ⟨_, rfl, rfl, by (repeat' (first|assumption|exact mAx _|refine mBx ?_ ?_|exact mCx (by assumption)|refine mDx ?_|refine mEx ?_ ?_ ?_|exact mFx|refine mGx ?_ ?_ ?_|exact mHx|exact mIx _|(simp only [wM,Nat.reduceAdd,Nat.reduceLT,Nat.reduceLeDiff];done)))⟩

theorem f5 (n : Int) (h : Hp) (hk : Hok h) : Evals Try.prog tab false (.func 5) [.int .i64 n] h (.tu [.int .i64 (hurR n).1, .int .i64 (hurR n).2], h) := by
  refine evals_pure c5 rfl hk ?_
  simp only [sf5, initS_cons, initS_nil]
  simp (disch := first|(simp only [Nat.reduceBEq,wE];done)|((repeat' (first|assumption|exact mAx _|refine mBx ?_ ?_|exact mCx (by assumption)|refine mDx ?_|refine mEx ?_ ?_ ?_|exact mFx|refine mGx ?_ ?_ ?_|exact mHx|exact mIx _|(simp only [wM,Nat.reduceAdd,Nat.reduceLT,Nat.reduceLeDiff];done)));done)|omega|decide) only [↓wA,wB,wL,resOf,Nat.reduceBEq,Int.reduceBEq,Int.reduceBNe,Int.reduceLT,Int.reduceLE,Int.reduceAdd,Int.reduceSub,Int.reduceMul,Int.reduceToNat]
  refine callP (f10 _ _ _ _ (by (repeat' (first|assumption|exact mAx _|refine mBx ?_ ?_|exact mCx (by assumption)|refine mDx ?_|refine mEx ?_ ?_ ?_|exact mFx|refine mGx ?_ ?_ ?_|exact mHx|exact mIx _|(simp only [wM,Nat.reduceAdd,Nat.reduceLT,Nat.reduceLeDiff];done))))) ?_
  by_cases hn : 1 ≤ n ∧ n ≤ 10000
  · obtain ⟨m, rfl⟩ : ∃ m : Nat, n = m := ⟨n.toNat, by omega⟩
    have e1 : hurR m = (24 * ((sigmaN m 2 m : Nat) : Int), 0) := by simp only [hurR, if_pos hn, Int.toNat_natCast]
    have hb := sigma_bd (n := m) (m := 2) (by omega)
    rw [e1]
    simp (disch := first|(simp only [Nat.reduceBEq,wE];done)|((repeat' (first|assumption|exact mAx _|refine mBx ?_ ?_|exact mCx (by assumption)|refine mDx ?_|refine mEx ?_ ?_ ?_|exact mFx|refine mGx ?_ ?_ ?_|exact mHx|exact mIx _|(simp only [wM,Nat.reduceAdd,Nat.reduceLT,Nat.reduceLeDiff];done)));done)|omega|decide) only [decide_eq_true hn, ↓wA,wB,wL,resOf,Nat.reduceBEq,Int.reduceBEq,Int.reduceBNe,Int.reduceLT,Int.reduceLE,Int.reduceAdd,Int.reduceSub,Int.reduceMul,Int.reduceToNat]
    refine callP (f11 m 2 _ (by (repeat' (first|assumption|exact mAx _|refine mBx ?_ ?_|exact mCx (by assumption)|refine mDx ?_|refine mEx ?_ ?_ ?_|exact mFx|refine mGx ?_ ?_ ?_|exact mHx|exact mIx _|(simp only [wM,Nat.reduceAdd,Nat.reduceLT,Nat.reduceLeDiff];done)))) (by omega) (by omega)) ?_
    simp (disch := first|(simp only [Nat.reduceBEq,wE];done)|((repeat' (first|assumption|exact mAx _|refine mBx ?_ ?_|exact mCx (by assumption)|refine mDx ?_|refine mEx ?_ ?_ ?_|exact mFx|refine mGx ?_ ?_ ?_|exact mHx|exact mIx _|(simp only [wM,Nat.reduceAdd,Nat.reduceLT,Nat.reduceLeDiff];done)));done)|omega|decide) only [↓wA,wB,wL,resOf,Nat.reduceBEq,Int.reduceBEq,Int.reduceBNe,Int.reduceLT,Int.reduceLE,Int.reduceAdd,Int.reduceSub,Int.reduceMul,Int.reduceToNat]
    exact ⟨_, rfl, rfl, by (repeat' (first|assumption|exact mAx _|refine mBx ?_ ?_|exact mCx (by assumption)|refine mDx ?_|refine mEx ?_ ?_ ?_|exact mFx|refine mGx ?_ ?_ ?_|exact mHx|exact mIx _|(simp only [wM,Nat.reduceAdd,Nat.reduceLT,Nat.reduceLeDiff];done)))⟩
  · have e1 : hurR n = (0, 1) := by simp only [hurR, if_neg hn]
    rw [e1]
    simp (disch := first|(simp only [Nat.reduceBEq,wE];done)|((repeat' (first|assumption|exact mAx _|refine mBx ?_ ?_|exact mCx (by assumption)|refine mDx ?_|refine mEx ?_ ?_ ?_|exact mFx|refine mGx ?_ ?_ ?_|exact mHx|exact mIx _|(simp only [wM,Nat.reduceAdd,Nat.reduceLT,Nat.reduceLeDiff];done)));done)|omega|decide) only [decide_eq_false hn, ↓wA,wB,wL,resOf,Nat.reduceBEq,Int.reduceBEq,Int.reduceBNe,Int.reduceLT,Int.reduceLE,Int.reduceAdd,Int.reduceSub,Int.reduceMul,Int.reduceToNat]
    exact ⟨_, rfl, rfl, by (repeat' (first|assumption|exact mAx _|refine mBx ?_ ?_|exact mCx (by assumption)|refine mDx ?_|refine mEx ?_ ?_ ?_|exact mFx|refine mGx ?_ ?_ ?_|exact mHx|exact mIx _|(simp only [wM,Nat.reduceAdd,Nat.reduceLT,Nat.reduceLeDiff];done)))⟩

end Go.Proofs.Ythalpbiifpfagaa


set_option linter.unusedSimpArgs false
set_option linter.unusedVariables false
set_option maxHeartbeats 1000000

namespace Go.Nm

def splitQ (l : List Nat) : Qt := ⟨2 * ((l.getD 0 0 : Nat) : Int), 2 * ((l.getD 1 0 : Nat) : Int), 2 * ((l.getD 2 0 : Nat) : Int), 2 * ((l.getD 3 0 : Nat) : Int)⟩
def splitOK (p : Int) : Prop := (2 ≤ p ∧ p ≤ 10000) ∧ prime p.toNat = true
instance (p : Int) : Decidable (splitOK p) := by unfold splitOK; infer_instance
def sqL (k n : Nat) : List Nat := (sqF k n n).getD []
theorem sqD_bd {rec : Nat → Nat → Option (List Nat)} {k n M : Nat} (hr : ∀ a b l, b ≤ M → rec a b = some l → ∀ x ∈ l, x ≤ M) : ∀ {m : Nat} {l : List Nat}, m ≤ M + 1 → sqD rec k n m = some l → ∀ x ∈ l, x ≤ M
  | 0, l, _, h => by cases h
  | m + 1, l, hm, h => by
    simp only [sqD] at h
    split at h
    · split at h
      · rename_i l' hl'
        cases h
        intro x hx
        rcases List.mem_cons.1 hx with rfl | hx
        · omega
        · exact hr _ _ _ (by omega) hl' x hx
      · exact sqD_bd hr (by omega) h
    · cases h
theorem sqF_bd : ∀ {k n most : Nat} {l : List Nat}, sqF k n most = some l → ∀ x ∈ l, x ≤ most
  | 0, n, most, l, h => by
    simp only [sqF] at h
    split at h
    · cases h; simp
    · cases h
  | k + 1, n, most, l, h => fun x hx => by
    have := sqD_bd (M := min most (isq n)) (fun a b l hb hl x hx => Nat.le_trans (sqF_bd hl x hx) hb) (Nat.le_refl _) h x hx
    omega
theorem sqL_bd {k n : Nat} (hn : n ≤ 10000) : (∀ x ∈ sqL k n, x ≤ 10000) ∧ ((sqL k n).length = k ∨ sqL k n = []) := by
  unfold sqL
  cases hs : sqF k n n with
  | none => simp
  | some l => exact ⟨fun x hx => Nat.le_trans (sqF_bd hs x hx) hn, .inl (sqF_len hs)⟩

end Go.Nm


namespace Go.Proofs.Ythalpbiifpfagaa

open Go Go.Abs Go.Nm

def splitC (l : List Nat) : Nat → List AV
  | 0 => [.int .i64 0, .int .i64 0, .int .i64 0, .int .i64 0]
  | 1 => [.int .i64 (2 * ((l.getD 0 0 : Nat) : Int)), .int .i64 0, .int .i64 0, .int .i64 0]
  | 2 => [.int .i64 (2 * ((l.getD 0 0 : Nat) : Int)), .int .i64 (2 * ((l.getD 1 0 : Nat) : Int)), .int .i64 0, .int .i64 0]
  | 3 => [.int .i64 (2 * ((l.getD 0 0 : Nat) : Int)), .int .i64 (2 * ((l.getD 1 0 : Nat) : Int)), .int .i64 (2 * ((l.getD 2 0 : Nat) : Int)), .int .i64 0]
  | _ => [.int .i64 (2 * ((l.getD 0 0 : Nat) : Int)), .int .i64 (2 * ((l.getD 1 0 : Nat) : Int)), .int .i64 (2 * ((l.getD 2 0 : Nat) : Int)), .int .i64 (2 * ((l.getD 3 0 : Nat) : Int))]

theorem iv_getD {l : List Nat} {i : Nat} : (iv l).getD i 0 = ((l.getD i 0 : Nat) : Int) := by
  simp only [iv, List.getD_eq_getElem?_getD, List.getElem?_map]
  cases l[i]? <;> rfl
theorem iv_len {l : List Nat} : (iv l).length = l.length := by simp [iv]

set_option maxRecDepth 100000 in
set_option maxHeartbeats 4000000 in
theorem f16 (p : Int) (h : Hp) (hk : Hok h) :
    Evals Try.prog tab false (.func 16) [.int .i64 p] h (.tu [(AV.ag [.int .i64 ((if splitOK p then splitQ (sqL 4 p.toNat) else zq)).a, .int .i64 ((if splitOK p then splitQ (sqL 4 p.toNat) else zq)).b, .int .i64 ((if splitOK p then splitQ (sqL 4 p.toNat) else zq)).c, .int .i64 ((if splitOK p then splitQ (sqL 4 p.toNat) else zq)).d]), .int .i64 (if splitOK p then 0 else 1)], h) := by
  refine evals_pure c16 rfl hk ?_
  simp only [sf16, initS_cons, initS_nil]
  simp (disch := first|(simp only [Nat.reduceBEq,wE];done)|((repeat' (first|assumption|exact mAx _|refine mBx ?_ ?_|exact mCx (by assumption)|refine mDx ?_|refine mEx ?_ ?_ ?_|exact mFx|refine mGx ?_ ?_ ?_|exact mHx|exact mIx _|(simp only [wM,Nat.reduceAdd,Nat.reduceLT,Nat.reduceLeDiff];done)));done)|omega|decide) only [↓wA,wB,wL,resOf,Nat.reduceBEq,Int.reduceBEq,Int.reduceBNe,Int.reduceLT,Int.reduceLE,Int.reduceAdd,Int.reduceSub,Int.reduceMul,Int.reduceToNat]
  refine callP (f10 _ _ _ _ (by (repeat' (first|assumption|exact mAx _|refine mBx ?_ ?_|exact mCx (by assumption)|refine mDx ?_|refine mEx ?_ ?_ ?_|exact mFx|refine mGx ?_ ?_ ?_|exact mHx|exact mIx _|(simp only [wM,Nat.reduceAdd,Nat.reduceLT,Nat.reduceLeDiff];done))))) ?_
  by_cases hn : 2 ≤ p ∧ p ≤ 10000
  · obtain ⟨m, rfl⟩ : ∃ m : Nat, p = m := ⟨p.toNat, by omega⟩
    simp (disch := first|(simp only [Nat.reduceBEq,wE];done)|((repeat' (first|assumption|exact mAx _|refine mBx ?_ ?_|exact mCx (by assumption)|refine mDx ?_|refine mEx ?_ ?_ ?_|exact mFx|refine mGx ?_ ?_ ?_|exact mHx|exact mIx _|(simp only [wM,Nat.reduceAdd,Nat.reduceLT,Nat.reduceLeDiff];done)));done)|omega|decide) only [decide_eq_true hn, ↓wA,wB,wL,resOf,Nat.reduceBEq,Int.reduceBEq,Int.reduceBNe,Int.reduceLT,Int.reduceLE,Int.reduceAdd,Int.reduceSub,Int.reduceMul,Int.reduceToNat]
    refine callP (f27 m _ (by (repeat' (first|assumption|exact mAx _|refine mBx ?_ ?_|exact mCx (by assumption)|refine mDx ?_|refine mEx ?_ ?_ ?_|exact mFx|refine mGx ?_ ?_ ?_|exact mHx|exact mIx _|(simp only [wM,Nat.reduceAdd,Nat.reduceLT,Nat.reduceLeDiff];done)))) (by omega)) ?_
    cases hp : prime m with
    | false =>
      have hs : ¬ splitOK m := fun hh => by have := hh.2; rw [Int.toNat_natCast, hp] at this; cases this
      rw [if_neg hs, if_neg hs]
      simp (disch := first|(simp only [Nat.reduceBEq,wE];done)|((repeat' (first|assumption|exact mAx _|refine mBx ?_ ?_|exact mCx (by assumption)|refine mDx ?_|refine mEx ?_ ?_ ?_|exact mFx|refine mGx ?_ ?_ ?_|exact mHx|exact mIx _|(simp only [wM,Nat.reduceAdd,Nat.reduceLT,Nat.reduceLeDiff];done)));done)|omega|decide) only [decide_eq_true hn, ↓wA,wB,wL,resOf,Nat.reduceBEq,Int.reduceBEq,Int.reduceBNe,Int.reduceLT,Int.reduceLE,Int.reduceAdd,Int.reduceSub,Int.reduceMul,Int.reduceToNat]
      exact ⟨_, rfl, rfl, by (repeat' (first|assumption|exact mAx _|refine mBx ?_ ?_|exact mCx (by assumption)|refine mDx ?_|refine mEx ?_ ?_ ?_|exact mFx|refine mGx ?_ ?_ ?_|exact mHx|exact mIx _|(simp only [wM,Nat.reduceAdd,Nat.reduceLT,Nat.reduceLeDiff];done)))⟩
    | true =>
      have hs : splitOK m := ⟨hn, by rw [Int.toNat_natCast, hp]⟩
      rw [if_pos hs, if_pos hs]
      try simp only [Int.toNat_natCast]
      simp (disch := first|(simp only [Nat.reduceBEq,wE];done)|((repeat' (first|assumption|exact mAx _|refine mBx ?_ ?_|exact mCx (by assumption)|refine mDx ?_|refine mEx ?_ ?_ ?_|exact mFx|refine mGx ?_ ?_ ?_|exact mHx|exact mIx _|(simp only [wM,Nat.reduceAdd,Nat.reduceLT,Nat.reduceLeDiff];done)));done)|omega|decide) only [decide_eq_true hn, ↓wA,wB,wL,resOf,Nat.reduceBEq,Int.reduceBEq,Int.reduceBNe,Int.reduceLT,Int.reduceLE,Int.reduceAdd,Int.reduceSub,Int.reduceMul,Int.reduceToNat]
      refine callE (f28 4 m m _ (by (repeat' (first|assumption|exact mAx _|refine mBx ?_ ?_|exact mCx (by assumption)|refine mDx ?_|refine mEx ?_ ?_ ?_|exact mFx|refine mGx ?_ ?_ ?_|exact mHx|exact mIx _|(simp only [wM,Nat.reduceAdd,Nat.reduceLT,Nat.reduceLeDiff];done)))) (by omega) (by omega) (by omega)) ?_
      rintro v h2 ⟨g2, v0, rfl, o2⟩
      change OwnN _ h2.blks v0 (iv (sqL 4 m)) at o2
      have s2 := g2.sub (by (repeat' (first|assumption|exact mAx _|refine mBx ?_ ?_|exact mCx (by assumption)|refine mDx ?_|refine mEx ?_ ?_ ?_|exact mFx|refine mGx ?_ ?_ ?_|exact mHx|exact mIx _|(simp only [wM,Nat.reduceAdd,Nat.reduceLT,Nat.reduceLeDiff];done))))
      have gh : Grown h h2 := GrownR.trans (by (repeat' (first|assumption|exact mAx _|refine mBx ?_ ?_|exact mCx (by assumption)|refine mDx ?_|refine mEx ?_ ?_ ?_|exact mFx|refine mGx ?_ ?_ ?_|exact mHx|exact mIx _|(simp only [wM,Nat.reduceAdd,Nat.reduceLT,Nat.reduceLeDiff];done)))) g2
      have k2 := gh.ok hk
      have V := Var.sub (Var.top (bs := h.blks) (id := h.next) (cs := [.int .i64 0, .int .i64 0, .int .i64 0, .int .i64 0])) s2
      obtain ⟨hb, hlen⟩ := sqL_bd (k := 4) (n := m) (by omega)
      obtain ⟨l, hl⟩ : ∃ l, l = sqL 4 m := ⟨_, rfl⟩
      rw [← hl] at o2 hb hlen ⊢
      have hl4 : l.length ≤ 4 := by rcases hlen with h | h <;> simp [h]
      have gb : ∀ i : Nat, 0 ≤ ((l.getD i 0 : Nat) : Int) ∧ ((l.getD i 0 : Nat) : Int) ≤ 10000 := fun i => by
        refine ⟨by omega, ?_⟩
        rw [List.getD_eq_getElem?_getD]
        cases hx : l[i]? with
        | none => simp
        | some x =>
          have := hb x (List.mem_of_getElem? hx)
          simp only [Option.getD_some]
          omega
      have oi := o2.own.ints
      simp (disch := first|(simp only [Nat.reduceBEq,wE];done)|((repeat' (first|assumption|exact mAx _|refine mBx ?_ ?_|exact mCx (by assumption)|refine mDx ?_|refine mEx ?_ ?_ ?_|exact mFx|refine mGx ?_ ?_ ?_|exact mHx|exact mIx _|(simp only [wM,Nat.reduceAdd,Nat.reduceLT,Nat.reduceLeDiff];done)));done)|omega|decide) only [oi.len, iv_len, ↓wA,wB,wL,resOf,Nat.reduceBEq,Int.reduceBEq,Int.reduceBNe,Int.reduceLT,Int.reduceLE,Int.reduceAdd,Int.reduceSub,Int.reduceMul,Int.reduceToNat]
      refine wloop (fun mm ss => ∃ (i : Nat) (u7 u8 u16 u27 : AV), (mm = l.length - i) ∧ (i ≤ l.length) ∧ ss = { fr := [(0, .int .i64 m), (2, .ptr h.next 0), (3, .int .i64 0), (4, v0), (6, .ptr h2.next 0), (7, u7), (8, u8), (16, u16), (24, v0), (25, .int .i64 l.length), (26, .int .i64 i), (27, u27)], hp := { next := h2.next + 1, blks := (h2.next, { cells := splitC l i, ch := h2.next, wr := true }) :: h2.blks, loops := h2.loops, base := h2.base, esc := h2.esc } }) (l.length) ?_ ?_
      ·
        refine ⟨0, _, _, _, _, by omega, by omega, rfl⟩
      rintro nA sA ⟨i, u7, u8, u16, u27, hnA, hi, rfl⟩
      have gd : (i : Int) < l.length ↔ i < l.length := by omega
      have hil := iv_len (l := l)
      by_cases he : i < l.length
      · have e : decide ((i : Int) < l.length) = true := decide_eq_true (by omega)
        have b0 := gb 0
        have b1 := gb 1
        have b2 := gb 2
        have b3 := gb 3
        rcases (by omega : i = 0 ∨ i = 1 ∨ i = 2 ∨ i = 3) with rfl | rfl | rfl | rfl
        · have e' : decide ((0 : Int) < l.length) = true := e
          simp (disch := first|(simp only [Nat.reduceBEq,wE];done)|((repeat' (first|assumption|exact mAx _|refine mBx ?_ ?_|exact mCx (by assumption)|refine mDx ?_|refine mEx ?_ ?_ ?_|exact mFx|refine mGx ?_ ?_ ?_|exact mHx|exact mIx _|(simp only [wM,Nat.reduceAdd,Nat.reduceLT,Nat.reduceLeDiff];done)));done)|omega|decide) only [e', oi.ix, oi.ld, iv_getD, splitC, ↓wA,wB,wL,resOf,Nat.reduceBEq,Int.reduceBEq,Int.reduceBNe,Int.reduceLT,Int.reduceLE,Int.reduceAdd,Int.reduceSub,Int.reduceMul,Int.reduceToNat]
          refine ⟨_, ?_, 1, _, _, _, _, rfl, ?_, rfl⟩
          · omega
          omega
        · have e' : decide ((1 : Int) < l.length) = true := e
          simp (disch := first|(simp only [Nat.reduceBEq,wE];done)|((repeat' (first|assumption|exact mAx _|refine mBx ?_ ?_|exact mCx (by assumption)|refine mDx ?_|refine mEx ?_ ?_ ?_|exact mFx|refine mGx ?_ ?_ ?_|exact mHx|exact mIx _|(simp only [wM,Nat.reduceAdd,Nat.reduceLT,Nat.reduceLeDiff];done)));done)|omega|decide) only [e', oi.ix, oi.ld, iv_getD, splitC, ↓wA,wB,wL,resOf,Nat.reduceBEq,Int.reduceBEq,Int.reduceBNe,Int.reduceLT,Int.reduceLE,Int.reduceAdd,Int.reduceSub,Int.reduceMul,Int.reduceToNat]
          refine ⟨_, ?_, 2, _, _, _, _, rfl, ?_, rfl⟩
          · omega
          omega
        · have e' : decide ((2 : Int) < l.length) = true := e
          simp (disch := first|(simp only [Nat.reduceBEq,wE];done)|((repeat' (first|assumption|exact mAx _|refine mBx ?_ ?_|exact mCx (by assumption)|refine mDx ?_|refine mEx ?_ ?_ ?_|exact mFx|refine mGx ?_ ?_ ?_|exact mHx|exact mIx _|(simp only [wM,Nat.reduceAdd,Nat.reduceLT,Nat.reduceLeDiff];done)));done)|omega|decide) only [e', oi.ix, oi.ld, iv_getD, splitC, ↓wA,wB,wL,resOf,Nat.reduceBEq,Int.reduceBEq,Int.reduceBNe,Int.reduceLT,Int.reduceLE,Int.reduceAdd,Int.reduceSub,Int.reduceMul,Int.reduceToNat]
          refine ⟨_, ?_, 3, _, _, _, _, rfl, ?_, rfl⟩
          · omega
          omega
        · have e' : decide ((3 : Int) < l.length) = true := e
          simp (disch := first|(simp only [Nat.reduceBEq,wE];done)|((repeat' (first|assumption|exact mAx _|refine mBx ?_ ?_|exact mCx (by assumption)|refine mDx ?_|refine mEx ?_ ?_ ?_|exact mFx|refine mGx ?_ ?_ ?_|exact mHx|exact mIx _|(simp only [wM,Nat.reduceAdd,Nat.reduceLT,Nat.reduceLeDiff];done)));done)|omega|decide) only [e', oi.ix, oi.ld, iv_getD, splitC, ↓wA,wB,wL,resOf,Nat.reduceBEq,Int.reduceBEq,Int.reduceBNe,Int.reduceLT,Int.reduceLE,Int.reduceAdd,Int.reduceSub,Int.reduceMul,Int.reduceToNat]
          refine ⟨_, ?_, 4, _, _, _, _, rfl, ?_, rfl⟩
          · omega
          omega
      · have e : decide ((i : Int) < l.length) = false := decide_eq_false (by omega)
        have hc : splitC l i = [.int .i64 (splitQ l).a, .int .i64 (splitQ l).b, .int .i64 (splitQ l).c, .int .i64 (splitQ l).d] := by
          rcases hlen with h4 | h0
          · rw [show i = 4 by omega]; rfl
          · subst h0; rw [show i = 0 by simp at he hi; exact hi]; rfl
        have hv : h.next < h2.next := by have := g2.next; simp only at this; omega
        simp (disch := first|(simp only [Nat.reduceBEq,wE];done)|((repeat' (first|assumption|exact mAx _|refine mBx ?_ ?_|exact mCx (by assumption)|refine mDx ?_|refine mEx ?_ ?_ ?_|exact mFx|refine mGx ?_ ?_ ?_|exact mHx|exact mIx _|(simp only [wM,Nat.reduceAdd,Nat.reduceLT,Nat.reduceLeDiff];done)));done)|omega|decide) only [e, hc, ↓wA,wB,wL,resOf,Nat.reduceBEq,Int.reduceBEq,Int.reduceBNe,Int.reduceLT,Int.reduceLE,Int.reduceAdd,Int.reduceSub,Int.reduceMul,Int.reduceToNat]
        refine callP (f24 (splitQ l) _ (by (repeat' (first|assumption|exact mAx _|refine mBx ?_ ?_|exact mCx (by assumption)|refine mDx ?_|refine mEx ?_ ?_ ?_|exact mFx|refine mGx ?_ ?_ ?_|exact mHx|exact mIx _|(simp only [wM,Nat.reduceAdd,Nat.reduceLT,Nat.reduceLeDiff];done))))) ?_
        simp (disch := first|(simp only [Nat.reduceBEq,wE];done)|((repeat' (first|assumption|exact mAx _|refine mBx ?_ ?_|exact mCx (by assumption)|refine mDx ?_|refine mEx ?_ ?_ ?_|exact mFx|refine mGx ?_ ?_ ?_|exact mHx|exact mIx _|(simp only [wM,Nat.reduceAdd,Nat.reduceLT,Nat.reduceLeDiff];done)));done)|omega|decide) only [↓wA,wB,wL,resOf,Nat.reduceBEq,Int.reduceBEq,Int.reduceBNe,Int.reduceLT,Int.reduceLE,Int.reduceAdd,Int.reduceSub,Int.reduceMul,Int.reduceToNat]
        rw [andT_pushB]
        refine stA hk gh V (by omega) rfl rfl rfl rfl rfl ?_
        intro bs1 W1 g3 K1 S1
        have k3 := g3.ok hk
        have hnx := gh.next
        simp (disch := first|(simp only [Nat.reduceBEq,wE];done)|((repeat' (first|assumption|exact mAx _|refine mBx ?_ ?_|exact mCx (by assumption)|refine mDx ?_|refine mEx ?_ ?_ ?_|exact mFx|refine mGx ?_ ?_ ?_|exact mHx|exact mIx _|(simp only [wM,Nat.reduceAdd,Nat.reduceLT,Nat.reduceLeDiff];done)));done)|omega|decide) only [W1.ld, ↓wA,wB,wL,resOf,Nat.reduceBEq,Int.reduceBEq,Int.reduceBNe,Int.reduceLT,Int.reduceLE,Int.reduceAdd,Int.reduceSub,Int.reduceMul,Int.reduceToNat]
        exact ⟨_, rfl, rfl, by (repeat' (first|assumption|exact mAx _|refine mBx ?_ ?_|exact mCx (by assumption)|refine mDx ?_|refine mEx ?_ ?_ ?_|exact mFx|refine mGx ?_ ?_ ?_|exact mHx|exact mIx _|(simp only [wM,Nat.reduceAdd,Nat.reduceLT,Nat.reduceLeDiff];done)))⟩
  · have hs : ¬ splitOK p := fun hh => hn hh.1
    rw [if_neg hs, if_neg hs]
    simp (disch := first|(simp only [Nat.reduceBEq,wE];done)|((repeat' (first|assumption|exact mAx _|refine mBx ?_ ?_|exact mCx (by assumption)|refine mDx ?_|refine mEx ?_ ?_ ?_|exact mFx|refine mGx ?_ ?_ ?_|exact mHx|exact mIx _|(simp only [wM,Nat.reduceAdd,Nat.reduceLT,Nat.reduceLeDiff];done)));done)|omega|decide) only [decide_eq_false hn, ↓wA,wB,wL,resOf,Nat.reduceBEq,Int.reduceBEq,Int.reduceBNe,Int.reduceLT,Int.reduceLE,Int.reduceAdd,Int.reduceSub,Int.reduceMul,Int.reduceToNat]
    exact ⟨_, rfl, rfl, by (repeat' (first|assumption|exact mAx _|refine mBx ?_ ?_|exact mCx (by assumption)|refine mDx ?_|refine mEx ?_ ?_ ?_|exact mFx|refine mGx ?_ ?_ ?_|exact mHx|exact mIx _|(simp only [wM,Nat.reduceAdd,Nat.reduceLT,Nat.reduceLeDiff];done)))⟩

end Go.Proofs.Ythalpbiifpfagaa


set_option linter.unusedSimpArgs false
set_option linter.unusedVariables false
set_option maxHeartbeats 1000000

namespace Go.Proofs.Ythalpbiifpfagaa

open Go Go.Abs

theorem f6 (a b c : Int) (h : Hp) (hk : Hok h) : Evals Try.prog tab false (.func 6) [.int .i64 a, .int .i64 b, .int .i64 c] h (.bool (decide (b ≤ a ∧ a ≤ c)), h) := by
  refine evals_pure c6 rfl hk ?_
  simp only [sf6, initS_cons, initS_nil]
  simp only [↓wA,wB,wL,resOf,Nat.reduceBEq,Int.reduceBEq,Int.reduceBNe,Int.reduceLT,Int.reduceLE,Int.reduceAdd,Int.reduceSub,Int.reduceMul,Int.reduceToNat]
  refine ifThen_intro (fun e => ?_) (fun e => ?_) <;> have eq := e <;> try simp [-List.getD_eq_getElem?_getD] at eq <;> simp only [e, ↓wA,wB,wL,resOf,Nat.reduceBEq,Int.reduceBEq,Int.reduceBNe,Int.reduceLT,Int.reduceLE,Int.reduceAdd,Int.reduceSub,Int.reduceMul,Int.reduceToNat] <;> refine ⟨_, rfl, ?_, by (repeat' (first|assumption|exact mAx _|refine mBx ?_ ?_|exact mCx (by assumption)|refine mDx ?_|refine mEx ?_ ?_ ?_|exact mFx|refine mGx ?_ ?_ ?_|exact mHx|exact mIx _|(simp only [wM,Nat.reduceAdd,Nat.reduceLT,Nat.reduceLeDiff];done)))⟩ <;> simp <;> omega

theorem lt_split {xs ys : List Int} {i : Nat} (hall : xs.take i = ys.take i) : xs < ys ↔ xs.drop i < ys.drop i := by
  conv => lhs; rw [← List.take_append_drop i xs, ← List.take_append_drop i ys, hall]
  generalize ys.take i = p
  induction p with
  | nil => simp
  | cons a p ih => simp [List.cons_lt_cons_iff, ih]

theorem lt_at {xs ys : List Int} {i : Nat} (h1 : i < xs.length) (h2 : i < ys.length) (hall : xs.take i = ys.take i) (hne : ¬ xs.getD i 0 = ys.getD i 0) : xs < ys ↔ xs.getD i 0 < ys.getD i 0 := by
  rw [lt_split hall, List.drop_eq_getElem_cons h1, List.drop_eq_getElem_cons h2, List.cons_lt_cons_iff]
  simp only [List.getD_eq_getElem?_getD, List.getElem?_eq_getElem h1, List.getElem?_eq_getElem h2, Option.getD_some] at hne ⊢
  simp [hne]

theorem take_step {xs ys : List Int} {i : Nat} (h1 : i < xs.length) (h2 : i < ys.length) (hall : xs.take i = ys.take i) (he : xs.getD i 0 = ys.getD i 0) : xs.take (i + 1) = ys.take (i + 1) := by
  simp only [List.getD_eq_getElem?_getD, List.getElem?_eq_getElem h1, List.getElem?_eq_getElem h2, Option.getD_some] at he
  rw [List.take_add_one, List.take_add_one, hall, List.getElem?_eq_getElem h1, List.getElem?_eq_getElem h2, he]

theorem lt_end2 {xs ys : List Int} {i : Nat} (h2 : ys.length ≤ i) (hall : xs.take i = ys.take i) (hj : i ≤ ys.length) : xs.length < ys.length ↔ xs < ys := by
  rw [lt_split hall, List.drop_of_length_le h2]
  simp only [List.not_lt_nil, iff_false]
  have := congrArg List.length hall
  simp only [List.length_take] at this
  have h3 : i = ys.length := by omega
  omega

theorem lt_end1 {xs ys : List Int} {i : Nat} (h1 : xs.length ≤ i) (hall : xs.take i = ys.take i) (hj : i ≤ xs.length) : xs.length < ys.length ↔ xs < ys := by
  rw [lt_split hall, List.drop_of_length_le h1]
  by_cases h : i < ys.length
  · rw [List.drop_eq_getElem_cons h]
    simp only [List.nil_lt_cons, iff_true]
    omega
  · rw [List.drop_of_length_le (by omega)]
    simp only [List.not_lt_nil, iff_false]
    omega

theorem f32 (a b : AV) (xs ys : List Int) (h : Hp) (hk : Hok h) (ha : Ints h.blks .i64 a xs) (hb : Ints h.blks .i64 b ys) (hx : xs.length < 2 ^ 62) (hy : ys.length < 2 ^ 62) :
    Evals Try.prog tab false (.func 32) [a, b] h (.bool (decide (xs < ys)), h) := by
  refine evals_pure c32 rfl hk ?_
  simp only [sf32, initS_cons, initS_nil]
  simp (disch := first|(simp only [Nat.reduceBEq,wE];done)|((repeat' (first|assumption|exact mAx _|refine mBx ?_ ?_|exact mCx (by assumption)|refine mDx ?_|refine mEx ?_ ?_ ?_|exact mFx|refine mGx ?_ ?_ ?_|exact mHx|exact mIx _|(simp only [wM,Nat.reduceAdd,Nat.reduceLT,Nat.reduceLeDiff];done)));done)|omega|decide) only [↓wA,wB,wL,resOf,Nat.reduceBEq,Int.reduceBEq,Int.reduceBNe,Int.reduceLT,Int.reduceLE,Int.reduceAdd,Int.reduceSub,Int.reduceMul,Int.reduceToNat]
  refine wloop (fun mm ss => ∃ (i : Nat) (u15 u26 : AV), (mm = xs.length - i) ∧ (i ≤ xs.length ∧ i ≤ ys.length ∧ xs.take i = ys.take i) ∧ ss = { fr := [(0, a), (1, b), (4, .bool false), (5, .int .i64 i), (15, u15), (26, u26)], hp := h.en }) (xs.length) ?_ ?_
  ·
    refine ⟨0, _, _, by omega, ⟨by omega, by omega, by simp⟩, rfl⟩
  rintro nA sA ⟨i, u15, u26, hnA, ⟨hi, hj, hall⟩, rfl⟩
  simp (disch := first|(simp only [Nat.reduceBEq,wE];done)|((repeat' (first|assumption|exact mAx _|refine mBx ?_ ?_|exact mCx (by assumption)|refine mDx ?_|refine mEx ?_ ?_ ?_|exact mFx|refine mGx ?_ ?_ ?_|exact mHx|exact mIx _|(simp only [wM,Nat.reduceAdd,Nat.reduceLT,Nat.reduceLeDiff];done)));done)|omega|decide) only [ha.len, hb.len, ↓wA,wB,wL,resOf,Nat.reduceBEq,Int.reduceBEq,Int.reduceBNe,Int.reduceLT,Int.reduceLE,Int.reduceAdd,Int.reduceSub,Int.reduceMul,Int.reduceToNat]
  refine ifThen_intro (fun e1 => ?_) (fun e1 => ?_) <;> have e1q := e1 <;> try simp [-List.getD_eq_getElem?_getD] at e1q
  · simp (disch := first|(simp only [Nat.reduceBEq,wE];done)|((repeat' (first|assumption|exact mAx _|refine mBx ?_ ?_|exact mCx (by assumption)|refine mDx ?_|refine mEx ?_ ?_ ?_|exact mFx|refine mGx ?_ ?_ ?_|exact mHx|exact mIx _|(simp only [wM,Nat.reduceAdd,Nat.reduceLT,Nat.reduceLeDiff];done)));done)|omega|decide) only [e1, ha.len, hb.len, ↓wA,wB,wL,resOf,Nat.reduceBEq,Int.reduceBEq,Int.reduceBNe,Int.reduceLT,Int.reduceLE,Int.reduceAdd,Int.reduceSub,Int.reduceMul,Int.reduceToNat]
    refine ifThen_intro (fun e2 => ?_) (fun e2 => ?_) <;> have e2q := e2 <;> try simp [-List.getD_eq_getElem?_getD] at e2q
    · simp (disch := first|(simp only [Nat.reduceBEq,wE];done)|((repeat' (first|assumption|exact mAx _|refine mBx ?_ ?_|exact mCx (by assumption)|refine mDx ?_|refine mEx ?_ ?_ ?_|exact mFx|refine mGx ?_ ?_ ?_|exact mHx|exact mIx _|(simp only [wM,Nat.reduceAdd,Nat.reduceLT,Nat.reduceLeDiff];done)));done)|omega|decide) only [e1, e2, ha.ix, ha.ld, hb.ix, hb.ld, ↓wA,wB,wL,resOf,Nat.reduceBEq,Int.reduceBEq,Int.reduceBNe,Int.reduceLT,Int.reduceLE,Int.reduceAdd,Int.reduceSub,Int.reduceMul,Int.reduceToNat]
      refine ifThen_intro (fun e3 => ?_) (fun e3 => ?_) <;> have e3q := e3 <;> try simp [-List.getD_eq_getElem?_getD] at e3q
      · simp (disch := first|(simp only [Nat.reduceBEq,wE];done)|((repeat' (first|assumption|exact mAx _|refine mBx ?_ ?_|exact mCx (by assumption)|refine mDx ?_|refine mEx ?_ ?_ ?_|exact mFx|refine mGx ?_ ?_ ?_|exact mHx|exact mIx _|(simp only [wM,Nat.reduceAdd,Nat.reduceLT,Nat.reduceLeDiff];done)));done)|omega|decide) only [e1, e2, e3, ha.ix, ha.ld, hb.ix, hb.ld, ↓wA,wB,wL,resOf,Nat.reduceBEq,Int.reduceBEq,Int.reduceBNe,Int.reduceLT,Int.reduceLE,Int.reduceAdd,Int.reduceSub,Int.reduceMul,Int.reduceToNat]
        refine ⟨_, rfl, ?_, by (repeat' (first|assumption|exact mAx _|refine mBx ?_ ?_|exact mCx (by assumption)|refine mDx ?_|refine mEx ?_ ?_ ?_|exact mFx|refine mGx ?_ ?_ ?_|exact mHx|exact mIx _|(simp only [wM,Nat.reduceAdd,Nat.reduceLT,Nat.reduceLeDiff];done)))⟩
        simp only [AV.bool.injEq, decide_eq_decide]
        exact (lt_at e1q e2q hall e3q).symm
      · simp (disch := first|(simp only [Nat.reduceBEq,wE];done)|((repeat' (first|assumption|exact mAx _|refine mBx ?_ ?_|exact mCx (by assumption)|refine mDx ?_|refine mEx ?_ ?_ ?_|exact mFx|refine mGx ?_ ?_ ?_|exact mHx|exact mIx _|(simp only [wM,Nat.reduceAdd,Nat.reduceLT,Nat.reduceLeDiff];done)));done)|omega|decide) only [e1, e2, e3, ↓wA,wB,wL,resOf,Nat.reduceBEq,Int.reduceBEq,Int.reduceBNe,Int.reduceLT,Int.reduceLE,Int.reduceAdd,Int.reduceSub,Int.reduceMul,Int.reduceToNat]
        refine ⟨_, ?_, i + 1, _, _, rfl, ?_, rfl⟩
        · omega
        exact ⟨by omega, by omega, take_step e1q e2q hall e3q⟩
    · simp (disch := first|(simp only [Nat.reduceBEq,wE];done)|((repeat' (first|assumption|exact mAx _|refine mBx ?_ ?_|exact mCx (by assumption)|refine mDx ?_|refine mEx ?_ ?_ ?_|exact mFx|refine mGx ?_ ?_ ?_|exact mHx|exact mIx _|(simp only [wM,Nat.reduceAdd,Nat.reduceLT,Nat.reduceLeDiff];done)));done)|omega|decide) only [e1, e2, ha.len, hb.len, ↓wA,wB,wL,resOf,Nat.reduceBEq,Int.reduceBEq,Int.reduceBNe,Int.reduceLT,Int.reduceLE,Int.reduceAdd,Int.reduceSub,Int.reduceMul,Int.reduceToNat]
      refine ⟨_, rfl, ?_, by (repeat' (first|assumption|exact mAx _|refine mBx ?_ ?_|exact mCx (by assumption)|refine mDx ?_|refine mEx ?_ ?_ ?_|exact mFx|refine mGx ?_ ?_ ?_|exact mHx|exact mIx _|(simp only [wM,Nat.reduceAdd,Nat.reduceLT,Nat.reduceLeDiff];done)))⟩
      simp only [AV.bool.injEq, decide_eq_decide]
      exact (by omega : (xs.length : Int) < ys.length ↔ xs.length < ys.length).trans (lt_end2 e2q hall hj)
  · simp (disch := first|(simp only [Nat.reduceBEq,wE];done)|((repeat' (first|assumption|exact mAx _|refine mBx ?_ ?_|exact mCx (by assumption)|refine mDx ?_|refine mEx ?_ ?_ ?_|exact mFx|refine mGx ?_ ?_ ?_|exact mHx|exact mIx _|(simp only [wM,Nat.reduceAdd,Nat.reduceLT,Nat.reduceLeDiff];done)));done)|omega|decide) only [e1, ha.len, hb.len, ↓wA,wB,wL,resOf,Nat.reduceBEq,Int.reduceBEq,Int.reduceBNe,Int.reduceLT,Int.reduceLE,Int.reduceAdd,Int.reduceSub,Int.reduceMul,Int.reduceToNat]
    refine ⟨_, rfl, ?_, by (repeat' (first|assumption|exact mAx _|refine mBx ?_ ?_|exact mCx (by assumption)|refine mDx ?_|refine mEx ?_ ?_ ?_|exact mFx|refine mGx ?_ ?_ ?_|exact mHx|exact mIx _|(simp only [wM,Nat.reduceAdd,Nat.reduceLT,Nat.reduceLeDiff];done)))⟩
    simp only [AV.bool.injEq, decide_eq_decide]
    exact (by omega : (xs.length : Int) < ys.length ↔ xs.length < ys.length).trans (lt_end1 e1q hall hi)

theorem f19 (a b : AV) (xs ys : List Int) (h : Hp) (hk : Hok h) (ha : Ints h.blks .i64 a xs) (hb : Ints h.blks .i64 b ys) (hx : xs.length < 2 ^ 62) (hy : ys.length < 2 ^ 62) :
    Evals Try.prog tab false (.func 19) [a, b] h (.bool (decide (xs = ys)), h) := by
  refine evals_pure c19 rfl hk ?_
  simp only [sf19, initS_cons, initS_nil]
  have tri : xs = ys ↔ ¬ xs < ys ∧ ¬ ys < xs := ⟨fun e => by subst e; exact ⟨List.lt_irrefl _, List.lt_irrefl _⟩, fun ⟨h1, h2⟩ => List.le_antisymm (List.not_lt.1 h2) (List.not_lt.1 h1)⟩
  simp (disch := first|(simp only [Nat.reduceBEq,wE];done)|((repeat' (first|assumption|exact mAx _|refine mBx ?_ ?_|exact mCx (by assumption)|refine mDx ?_|refine mEx ?_ ?_ ?_|exact mFx|refine mGx ?_ ?_ ?_|exact mHx|exact mIx _|(simp only [wM,Nat.reduceAdd,Nat.reduceLT,Nat.reduceLeDiff];done)));done)|omega|decide) only [callT (f32 a b xs ys h.en hk ha hb hx hy), ↓wA,wB,wL,resOf,Nat.reduceBEq,Int.reduceBEq,Int.reduceBNe,Int.reduceLT,Int.reduceLE,Int.reduceAdd,Int.reduceSub,Int.reduceMul,Int.reduceToNat]
  refine ifThen_intro (fun e1 => ?_) (fun e1 => ?_) <;> have e1q := e1 <;> try simp [-List.getD_eq_getElem?_getD] at e1q
  · simp (disch := first|(simp only [Nat.reduceBEq,wE];done)|((repeat' (first|assumption|exact mAx _|refine mBx ?_ ?_|exact mCx (by assumption)|refine mDx ?_|refine mEx ?_ ?_ ?_|exact mFx|refine mGx ?_ ?_ ?_|exact mHx|exact mIx _|(simp only [wM,Nat.reduceAdd,Nat.reduceLT,Nat.reduceLeDiff];done)));done)|omega|decide) only [e1, callT (f32 b a ys xs h.en hk hb ha hy hx), ↓wA,wB,wL,resOf,Nat.reduceBEq,Int.reduceBEq,Int.reduceBNe,Int.reduceLT,Int.reduceLE,Int.reduceAdd,Int.reduceSub,Int.reduceMul,Int.reduceToNat]
    have e2 : ¬ xs < ys := by simpa using e1
    refine ⟨_, rfl, congrArg AV.bool ?_, by (repeat' (first|assumption|exact mAx _|refine mBx ?_ ?_|exact mCx (by assumption)|refine mDx ?_|refine mEx ?_ ?_ ?_|exact mFx|refine mGx ?_ ?_ ?_|exact mHx|exact mIx _|(simp only [wM,Nat.reduceAdd,Nat.reduceLT,Nat.reduceLeDiff];done)))⟩
    rw [Bool.eq_iff_iff]
    simp only [tri, Bool.not_eq_true', decide_eq_false_iff_not, decide_eq_true_eq]
    exact ⟨fun h => ⟨e2, h⟩, fun h => h.2⟩
  · simp (disch := first|(simp only [Nat.reduceBEq,wE];done)|((repeat' (first|assumption|exact mAx _|refine mBx ?_ ?_|exact mCx (by assumption)|refine mDx ?_|refine mEx ?_ ?_ ?_|exact mFx|refine mGx ?_ ?_ ?_|exact mHx|exact mIx _|(simp only [wM,Nat.reduceAdd,Nat.reduceLT,Nat.reduceLeDiff];done)));done)|omega|decide) only [e1, ↓wA,wB,wL,resOf,Nat.reduceBEq,Int.reduceBEq,Int.reduceBNe,Int.reduceLT,Int.reduceLE,Int.reduceAdd,Int.reduceSub,Int.reduceMul,Int.reduceToNat]
    refine ⟨_, rfl, ?_, by (repeat' (first|assumption|exact mAx _|refine mBx ?_ ?_|exact mCx (by assumption)|refine mDx ?_|refine mEx ?_ ?_ ?_|exact mFx|refine mGx ?_ ?_ ?_|exact mHx|exact mIx _|(simp only [wM,Nat.reduceAdd,Nat.reduceLT,Nat.reduceLeDiff];done)))⟩
    simp only [AV.bool.injEq, tri]
    simp [e1q]

end Go.Proofs.Ythalpbiifpfagaa


set_option linter.unusedSimpArgs false
set_option linter.unusedVariables false
set_option maxHeartbeats 1000000

namespace Go.Abs

variable {h : Hp} {k : IntKind} {a b : Int} {x y z u : AV}
theorem sBuild_4b : sBuild [x, y, z, u] [(0, 1), (1, 1), (2, 1), (3, 1)] [(1, .int k a)] = some (.ag [x, .int k a, z, u]) := rfl
theorem sBuild_4c : sBuild [x, y, z, u] [(0, 1), (1, 1), (2, 1), (3, 1)] [(2, .int k a)] = some (.ag [x, y, .int k a, u]) := rfl
theorem sBuild_4d : sBuild [x, y, z, u] [(0, 1), (1, 1), (2, 1), (3, 1)] [(3, .int k a)] = some (.ag [x, y, z, .int k a]) := rfl
theorem sBuild_4ab : sBuild [x, y, z, u] [(0, 1), (1, 1), (2, 1), (3, 1)] [(0, .int k a), (1, .int k b)] = some (.ag [.int k a, .int k b, z, u]) := rfl
theorem sBS_i4 {a b c d : Int} : sBS [.int k 0] 4 1 h [(0, .int k a), (1, .int k b), (2, .int k c), (3, .int k d)] =
    some (.sl h.next 0 4 (some 4) 1, { next := h.next + 1, blks := (h.next, { cells := [.int k a, .int k b, .int k c, .int k d], ch := h.next, wr := true }) :: h.blks, loops := h.loops, base := h.base, esc := h.esc }) := rfl

end Go.Abs


namespace Go.Proofs.Ythalpbiifpfagaa

open Go Go.Abs Go.Nm
theorem l_mul : errOf [⟨0, 2, 0, 0⟩, ⟨0, 0, 2, 0⟩] = 0 ∧ okQ [⟨0, 2, 0, 0⟩, ⟨0, 0, 2, 0⟩] ((⟨0, 2, 0, 0⟩ : Qt).mul ⟨0, 0, 2, 0⟩) = ⟨0, 0, 0, 2⟩ := by decide +kernel
theorem l_nrm : errOf [⟨1, 1, 1, 1⟩] = 0 ∧ (⟨1, 1, 1, 1⟩ : Qt).nrm = 1 := by decide +kernel
theorem l_four : sqR 4 7 = ([2, 1, 1, 1], 0) ∧ sqR 3 7 = ([], 5) := by decide +kernel
theorem l_cnt : cntR 4 = (24, 0) ∧ hurR 2 = (24, 0) := by decide +kernel
theorem l_spl : splitOK 5 ∧ splitQ (sqL 4 (Int.toNat 5)) = ⟨4, 2, 0, 0⟩ := by decide +kernel
theorem l_gcd : errG ⟨4, 0, 0, 0⟩ ⟨2, 2, 0, 0⟩ = 0 ∧ ((⟨4, 0, 0, 0⟩ : Qt).gcd ⟨2, 2, 0, 0⟩).great = ⟨2, 2, 0, 0⟩ := by decide +kernel
theorem l_div : errD ⟨4, 0, 0, 0⟩ ⟨2, 2, 0, 0⟩ = 0 ∧ (⟨4, 0, 0, 0⟩ : Qt).quo ⟨2, 2, 0, 0⟩ = ⟨2, -2, 0, 0⟩ ∧ (⟨4, 0, 0, 0⟩ : Qt).rem ⟨2, 2, 0, 0⟩ = ⟨0, 0, 0, 0⟩ := by decide +kernel

set_option maxRecDepth 100000 in
set_option maxHeartbeats 4000000 in
theorem f7 (h : Hp) (hk : Hok h) : Evals Try.prog tab false (.func 7) [] h (.bool true, h) := by
  refine evals_pure c7 rfl hk ?_
  simp only [sf7, initS_cons, initS_nil]
  simp (disch := first|(simp only [Nat.reduceBEq,wE];done)|((repeat' (first|assumption|exact mAx _|refine mBx ?_ ?_|exact mCx (by assumption)|refine mDx ?_|refine mEx ?_ ?_ ?_|exact mFx|refine mGx ?_ ?_ ?_|exact mHx|exact mIx _|(simp only [wM,Nat.reduceAdd,Nat.reduceLT,Nat.reduceLeDiff];done)));done)|omega|decide) only [sBuild_4b, sBuild_4c, ↓wA,wB,wL,resOf,Nat.reduceBEq,Int.reduceBEq,Int.reduceBNe,Int.reduceLT,Int.reduceLE,Int.reduceAdd,Int.reduceSub,Int.reduceMul,Int.reduceToNat]
  refine callP (f12 ⟨0, 2, 0, 0⟩ ⟨0, 0, 2, 0⟩ _ (by (repeat' (first|assumption|exact mAx _|refine mBx ?_ ?_|exact mCx (by assumption)|refine mDx ?_|refine mEx ?_ ?_ ?_|exact mFx|refine mGx ?_ ?_ ?_|exact mHx|exact mIx _|(simp only [wM,Nat.reduceAdd,Nat.reduceLT,Nat.reduceLeDiff];done))))) ?_
  rw [l_mul.1, l_mul.2]
  simp (disch := first|(simp only [Nat.reduceBEq,wE];done)|((repeat' (first|assumption|exact mAx _|refine mBx ?_ ?_|exact mCx (by assumption)|refine mDx ?_|refine mEx ?_ ?_ ?_|exact mFx|refine mGx ?_ ?_ ?_|exact mHx|exact mIx _|(simp only [wM,Nat.reduceAdd,Nat.reduceLT,Nat.reduceLeDiff];done)));done)|omega|decide) only [↓wA,wB,wL,resOf,Nat.reduceBEq,Int.reduceBEq,Int.reduceBNe,Int.reduceLT,Int.reduceLE,Int.reduceAdd,Int.reduceSub,Int.reduceMul,Int.reduceToNat]
  refine callP (f13 ⟨1, 1, 1, 1⟩ _ (by (repeat' (first|assumption|exact mAx _|refine mBx ?_ ?_|exact mCx (by assumption)|refine mDx ?_|refine mEx ?_ ?_ ?_|exact mFx|refine mGx ?_ ?_ ?_|exact mHx|exact mIx _|(simp only [wM,Nat.reduceAdd,Nat.reduceLT,Nat.reduceLeDiff];done))))) ?_
  rw [if_pos l_nrm.1, l_nrm.1, l_nrm.2]
  simp (disch := first|(simp only [Nat.reduceBEq,wE];done)|((repeat' (first|assumption|exact mAx _|refine mBx ?_ ?_|exact mCx (by assumption)|refine mDx ?_|refine mEx ?_ ?_ ?_|exact mFx|refine mGx ?_ ?_ ?_|exact mHx|exact mIx _|(simp only [wM,Nat.reduceAdd,Nat.reduceLT,Nat.reduceLeDiff];done)));done)|omega|decide) only [↓wA,wB,wL,resOf,Nat.reduceBEq,Int.reduceBEq,Int.reduceBNe,Int.reduceLT,Int.reduceLE,Int.reduceAdd,Int.reduceSub,Int.reduceMul,Int.reduceToNat]
  refine callE (f14 7 _ (by (repeat' (first|assumption|exact mAx _|refine mBx ?_ ?_|exact mCx (by assumption)|refine mDx ?_|refine mEx ?_ ?_ ?_|exact mFx|refine mGx ?_ ?_ ?_|exact mHx|exact mIx _|(simp only [wM,Nat.reduceAdd,Nat.reduceLT,Nat.reduceLeDiff];done))))) ?_
  rintro v2 h2 ⟨g2, w2, rfl, o2⟩
  rw [l_four.1] at o2 ⊢
  have s2 := g2.sub (by (repeat' (first|assumption|exact mAx _|refine mBx ?_ ?_|exact mCx (by assumption)|refine mDx ?_|refine mEx ?_ ?_ ?_|exact mFx|refine mGx ?_ ?_ ?_|exact mHx|exact mIx _|(simp only [wM,Nat.reduceAdd,Nat.reduceLT,Nat.reduceLeDiff];done))))
  have gh2 : Grown h h2 := GrownR.trans (by (repeat' (first|assumption|exact mAx _|refine mBx ?_ ?_|exact mCx (by assumption)|refine mDx ?_|refine mEx ?_ ?_ ?_|exact mFx|refine mGx ?_ ?_ ?_|exact mHx|exact mIx _|(simp only [wM,Nat.reduceAdd,Nat.reduceLT,Nat.reduceLeDiff];done)))) g2
  have k2 := gh2.ok hk
  have V1 := Var.sub (Var.top (bs := h.blks) (id := h.next) (cs := [.int .i64 0, .int .i64 0, .int .i64 0, .int .i64 2])) s2
  have hn2 : h.next < h2.next := by have := g2.next; simp only at this; omega
  clear g2 s2
  simp (disch := first|(simp only [Nat.reduceBEq,wE];done)|((repeat' (first|assumption|exact mAx _|refine mBx ?_ ?_|exact mCx (by assumption)|refine mDx ?_|refine mEx ?_ ?_ ?_|exact mFx|refine mGx ?_ ?_ ?_|exact mHx|exact mIx _|(simp only [wM,Nat.reduceAdd,Nat.reduceLT,Nat.reduceLeDiff];done)));done)|omega|decide) only [↓wA,wB,wL,resOf,Nat.reduceBEq,Int.reduceBEq,Int.reduceBNe,Int.reduceLT,Int.reduceLE,Int.reduceAdd,Int.reduceSub,Int.reduceMul,Int.reduceToNat]
  refine callE (f15 7 _ k2) ?_
  rintro v3 h3 ⟨g3, w3, rfl, o3⟩
  rw [l_four.2]
  have s3 := g3.sub k2
  have gh3 : Grown h h3 := GrownR.trans gh2 g3
  have k3 := gh3.ok hk
  replace V1 := V1.sub s3
  replace o2 := o2.sub s3
  have hn3 : h.next < h3.next := by have := g3.next; omega
  clear g3 s3 o3
  simp (disch := first|(simp only [Nat.reduceBEq,wE];done)|((repeat' (first|assumption|exact mAx _|refine mBx ?_ ?_|exact mCx (by assumption)|refine mDx ?_|refine mEx ?_ ?_ ?_|exact mFx|refine mGx ?_ ?_ ?_|exact mHx|exact mIx _|(simp only [wM,Nat.reduceAdd,Nat.reduceLT,Nat.reduceLeDiff];done)));done)|omega|decide) only [↓wA,wB,wL,resOf,Nat.reduceBEq,Int.reduceBEq,Int.reduceBNe,Int.reduceLT,Int.reduceLE,Int.reduceAdd,Int.reduceSub,Int.reduceMul,Int.reduceToNat]
  refine callP (f4 4 _ k3) ?_
  rw [l_cnt.1]
  simp (disch := first|(simp only [Nat.reduceBEq,wE];done)|((repeat' (first|assumption|exact mAx _|refine mBx ?_ ?_|exact mCx (by assumption)|refine mDx ?_|refine mEx ?_ ?_ ?_|exact mFx|refine mGx ?_ ?_ ?_|exact mHx|exact mIx _|(simp only [wM,Nat.reduceAdd,Nat.reduceLT,Nat.reduceLeDiff];done)));done)|omega|decide) only [↓wA,wB,wL,resOf,Nat.reduceBEq,Int.reduceBEq,Int.reduceBNe,Int.reduceLT,Int.reduceLE,Int.reduceAdd,Int.reduceSub,Int.reduceMul,Int.reduceToNat]
  refine callP (f5 2 _ k3) ?_
  rw [l_cnt.2]
  simp (disch := first|(simp only [Nat.reduceBEq,wE];done)|((repeat' (first|assumption|exact mAx _|refine mBx ?_ ?_|exact mCx (by assumption)|refine mDx ?_|refine mEx ?_ ?_ ?_|exact mFx|refine mGx ?_ ?_ ?_|exact mHx|exact mIx _|(simp only [wM,Nat.reduceAdd,Nat.reduceLT,Nat.reduceLeDiff];done)));done)|omega|decide) only [↓wA,wB,wL,resOf,Nat.reduceBEq,Int.reduceBEq,Int.reduceBNe,Int.reduceLT,Int.reduceLE,Int.reduceAdd,Int.reduceSub,Int.reduceMul,Int.reduceToNat]
  refine callP (f16 5 _ k3) ?_
  rw [if_pos l_spl.1, if_pos l_spl.1, l_spl.2]
  simp (disch := first|(simp only [Nat.reduceBEq,wE];done)|((repeat' (first|assumption|exact mAx _|refine mBx ?_ ?_|exact mCx (by assumption)|refine mDx ?_|refine mEx ?_ ?_ ?_|exact mFx|refine mGx ?_ ?_ ?_|exact mHx|exact mIx _|(simp only [wM,Nat.reduceAdd,Nat.reduceLT,Nat.reduceLeDiff];done)));done)|omega|decide) only [sBuild_4ab, ↓wA,wB,wL,resOf,Nat.reduceBEq,Int.reduceBEq,Int.reduceBNe,Int.reduceLT,Int.reduceLE,Int.reduceAdd,Int.reduceSub,Int.reduceMul,Int.reduceToNat]
  refine callP (f17 ⟨4, 0, 0, 0⟩ ⟨2, 2, 0, 0⟩ _ (by (repeat' (first|assumption|exact mAx _|refine mBx ?_ ?_|exact mCx (by assumption)|refine mDx ?_|refine mEx ?_ ?_ ?_|exact mFx|refine mGx ?_ ?_ ?_|exact mHx|exact mIx _|(simp only [wM,Nat.reduceAdd,Nat.reduceLT,Nat.reduceLeDiff];done))))) ?_
  rw [if_pos l_gcd.1, l_gcd.1, l_gcd.2]
  simp (disch := first|(simp only [Nat.reduceBEq,wE];done)|((repeat' (first|assumption|exact mAx _|refine mBx ?_ ?_|exact mCx (by assumption)|refine mDx ?_|refine mEx ?_ ?_ ?_|exact mFx|refine mGx ?_ ?_ ?_|exact mHx|exact mIx _|(simp only [wM,Nat.reduceAdd,Nat.reduceLT,Nat.reduceLeDiff];done)));done)|omega|decide) only [sBuild_4ab, ↓wA,wB,wL,resOf,Nat.reduceBEq,Int.reduceBEq,Int.reduceBNe,Int.reduceLT,Int.reduceLE,Int.reduceAdd,Int.reduceSub,Int.reduceMul,Int.reduceToNat]
  refine callP (f18 ⟨4, 0, 0, 0⟩ ⟨2, 2, 0, 0⟩ _ (by (repeat' (first|assumption|exact mAx _|refine mBx ?_ ?_|exact mCx (by assumption)|refine mDx ?_|refine mEx ?_ ?_ ?_|exact mFx|refine mGx ?_ ?_ ?_|exact mHx|exact mIx _|(simp only [wM,Nat.reduceAdd,Nat.reduceLT,Nat.reduceLeDiff];done))))) ?_
  rw [if_pos l_div.1, if_pos l_div.1, l_div.1, l_div.2.1, l_div.2.2]
  simp (disch := first|(simp only [Nat.reduceBEq,wE];done)|((repeat' (first|assumption|exact mAx _|refine mBx ?_ ?_|exact mCx (by assumption)|refine mDx ?_|refine mEx ?_ ?_ ?_|exact mFx|refine mGx ?_ ?_ ?_|exact mHx|exact mIx _|(simp only [wM,Nat.reduceAdd,Nat.reduceLT,Nat.reduceLeDiff];done)));done)|omega|decide) only [sBuild_4d, V1.ld, sBS_i4, ↓wA,wB,wL,resOf,Nat.reduceBEq,Int.reduceBEq,Int.reduceBNe,Int.reduceLT,Int.reduceLE,Int.reduceAdd,Int.reduceSub,Int.reduceMul,Int.reduceToNat]
  refine callP (f19 _ _ (iv [2, 1, 1, 1]) [2, 1, 1, 1] _ (by (repeat' (first|assumption|exact mAx _|refine mBx ?_ ?_|exact mCx (by assumption)|refine mDx ?_|refine mEx ?_ ?_ ?_|exact mFx|refine mGx ?_ ?_ ?_|exact mHx|exact mIx _|(simp only [wM,Nat.reduceAdd,Nat.reduceLT,Nat.reduceLeDiff];done)))) (Ints.sub o2.own.ints (by (repeat' (first|assumption|exact mAx _|refine mBx ?_ ?_|exact mCx (by assumption)|refine mDx ?_|refine mEx ?_ ?_ ?_|exact mFx|refine mGx ?_ ?_ ?_|exact mHx|exact mIx _|(simp only [wM,Nat.reduceAdd,Nat.reduceLT,Nat.reduceLeDiff];done))))) (Ints.top (zs := [2, 1, 1, 1]) (len := 4) (cap := some 4) rfl (Nat.le_refl 4)) (by simp [iv]) (by simp)) ?_
  have es : decide (iv [2, 1, 1, 1] = [2, 1, 1, 1]) = true := by decide
  rw [es]
  simp (disch := first|(simp only [Nat.reduceBEq,wE];done)|((repeat' (first|assumption|exact mAx _|refine mBx ?_ ?_|exact mCx (by assumption)|refine mDx ?_|refine mEx ?_ ?_ ?_|exact mFx|refine mGx ?_ ?_ ?_|exact mHx|exact mIx _|(simp only [wM,Nat.reduceAdd,Nat.reduceLT,Nat.reduceLeDiff];done)));done)|omega|decide) only [sBuild_4ab, ↓wA,wB,wL,resOf,Nat.reduceBEq,Int.reduceBEq,Int.reduceBNe,Int.reduceLT,Int.reduceLE,Int.reduceAdd,Int.reduceSub,Int.reduceMul,Int.reduceToNat]
  exact ⟨_, rfl, rfl, by (repeat' (first|assumption|exact mAx _|refine mBx ?_ ?_|exact mCx (by assumption)|refine mDx ?_|refine mEx ?_ ?_ ?_|exact mFx|refine mGx ?_ ?_ ?_|exact mHx|exact mIx _|(simp only [wM,Nat.reduceAdd,Nat.reduceLT,Nat.reduceLeDiff];done)))⟩

end Go.Proofs.Ythalpbiifpfagaa

