/- Numbers of settings, of switches; networks that never block. -/
import Derived.Test.YtpfkmdbdafpadaaDoorPO
set_option linter.unusedSimpArgs false
set_option linter.unusedVariables false
set_option maxHeartbeats 4000000
set_option maxRecDepth 20000
namespace Go.Proofs.YtpfkmdbdafpadaaDoor
open Go Go.Abs Go.Pa

theorem pow_sw {k : Nat} (h : 1 ≤ k ∧ k ≤ 2) : 2 ^ swc k ≤ 64 ∧ swc k ≤ 6 := by
  have : k = 1 ∨ k = 2 := by omega
  rcases this with rfl | rfl <;> decide

theorem Ways_arg (k : Int) (a : AV) (h : Hp) (hk : Hok h) (hc : ¬ (1 ≤ k ∧ k ≤ 2)) : Evals Tryd.prog tab false (.func 22) [.int .i64 k, a] h (.tu [.int .i64 0, .int .i64 1], h) := by
  refine evals_pure c22 rfl hk ?_
  simp only [sf22, initS_cons, initS_nil]
  simp (disch := first|(simp only [Nat.reduceBEq,wE];done)|((repeat' (first|assumption|exact mAx _|refine mBx ?_ ?_|exact mCx (by assumption)|refine mDx ?_|refine mEx ?_ ?_ ?_|exact mFx|refine mGx ?_ ?_ ?_|exact mHx|exact mIx _|(simp only [wM,Nat.reduceAdd,Nat.reduceLT,Nat.reduceLeDiff];done)));done)|omega|decide) only [callT (Checked_arg k 2 a h.en hk hc), ↓wA,wB,wL,resOf,Nat.reduceBEq,Int.reduceBEq,Int.reduceBNe,Int.reduceLT,Int.reduceLE,Int.reduceAdd,Int.reduceSub,Int.reduceMul,Int.reduceToNat]
  exact ⟨_, rfl, rfl, by (repeat' (first|assumption|exact mAx _|refine mBx ?_ ?_|exact mCx (by assumption)|refine mDx ?_|refine mEx ?_ ?_ ?_|exact mFx|refine mGx ?_ ?_ ?_|exact mHx|exact mIx _|(simp only [wM,Nat.reduceAdd,Nat.reduceLT,Nat.reduceLeDiff];done)))⟩
theorem Ways_form (k : Nat) (a : AV) (zs : List Int) (h : Hp) (hk : Hok h) (hc : 1 ≤ k ∧ k ≤ 2) (ha : Ints h.blks .i64 a zs) (hz : zs.length ≤ 1000) (hp : ¬ PermI (2 ^ k : Nat) zs) : Evals Tryd.prog tab false (.func 22) [.int .i64 k, a] h (.tu [.int .i64 0, .int .i64 2], h) := by
  refine evals_pure c22 rfl hk ?_
  simp only [sf22, initS_cons, initS_nil]
  simp (disch := first|(simp only [Nat.reduceBEq,wE];done)|((repeat' (first|assumption|exact mAx _|refine mBx ?_ ?_|exact mCx (by assumption)|refine mDx ?_|refine mEx ?_ ?_ ?_|exact mFx|refine mGx ?_ ?_ ?_|exact mHx|exact mIx _|(simp only [wM,Nat.reduceAdd,Nat.reduceLT,Nat.reduceLeDiff];done)));done)|omega|decide) only [callT (Checked_form k 2 a zs h.en hk (by omega) (by omega) ha hz hp), ↓wA,wB,wL,resOf,Nat.reduceBEq,Int.reduceBEq,Int.reduceBNe,Int.reduceLT,Int.reduceLE,Int.reduceAdd,Int.reduceSub,Int.reduceMul,Int.reduceToNat]
  exact ⟨_, rfl, rfl, by (repeat' (first|assumption|exact mAx _|refine mBx ?_ ?_|exact mCx (by assumption)|refine mDx ?_|refine mEx ?_ ?_ ?_|exact mFx|refine mGx ?_ ?_ ?_|exact mHx|exact mIx _|(simp only [wM,Nat.reduceAdd,Nat.reduceLT,Nat.reduceLeDiff];done)))⟩
theorem Ways_ok (k : Nat) (a : AV) (zs : List Int) (h : Hp) (hk : Hok h) (hc : 1 ≤ k ∧ k ≤ 2) (ha : Ints h.blks .i64 a zs) (hz : zs.length ≤ 1000) (hp : PermI (2 ^ k : Nat) zs) : Evals Tryd.prog tab false (.func 22) [.int .i64 k, a] h (.tu [.int .i64 (waysN k zs (2 ^ swc k)), .int .i64 0], h) := by
  refine evals_pure c22 rfl hk ?_
  simp only [sf22, initS_cons, initS_nil]
  obtain ⟨q1, q2⟩ := pow_sw hc
  have SW := f36 k h.en hk (by omega)
  have s1 := sBin_shl1 (j := swc k) (by omega)
  obtain ⟨m, em⟩ : ∃ m, m = 2 ^ swc k := ⟨_, rfl⟩
  rw [← em] at s1 q1
  rw [← em]
  simp (disch := first|(simp only [Nat.reduceBEq,wE];done)|((repeat' (first|assumption|exact mAx _|refine mBx ?_ ?_|exact mCx (by assumption)|refine mDx ?_|refine mEx ?_ ?_ ?_|exact mFx|refine mGx ?_ ?_ ?_|exact mHx|exact mIx _|(simp only [wM,Nat.reduceAdd,Nat.reduceLT,Nat.reduceLeDiff];done)));done)|omega|decide) only [callT (Checked_ok k 2 a zs h.en hk (by omega) (by omega) ha hz hp), callT SW, s1, ↓wA,wB,wL,resOf,Nat.reduceBEq,Int.reduceBEq,Int.reduceBNe,Int.reduceLT,Int.reduceLE,Int.reduceAdd,Int.reduceSub,Int.reduceMul,Int.reduceToNat]
  refine wloop (fun mm ss => ∃ (x n : Nat) (h1 : Hp) (u4 u5 u6 u8 u13 u19 u27 : AV), (mm = m - x) ∧ (x ≤ m ∧ Grown h h1 ∧ n = waysN k zs x) ∧ ss = { fr := [(0, .int .i64 k), (1, a), (4, u4), (5, u5), (6, u6), (7, .int .i64 n), (8, u8), (13, u13), (17, .int .i64 m), (18, .int .i64 x), (19, u19), (27, u27)], hp := h1 }) (m) ?_ ?_
  ·
    refine ⟨0, 0, h.en, _, _, _, _, _, _, _, by omega, ⟨by omega, Grown.en, rfl⟩, rfl⟩
  rintro nA sA ⟨x, n, h1, u4, u5, u6, u8, u13, u19, u27, hnA, ⟨hx, g1, hn⟩, rfl⟩
  have k1 := g1.ok hk
  simp (disch := first|(simp only [Nat.reduceBEq,wE];done)|((repeat' (first|assumption|exact mAx _|refine mBx ?_ ?_|exact mCx (by assumption)|refine mDx ?_|refine mEx ?_ ?_ ?_|exact mFx|refine mGx ?_ ?_ ?_|exact mHx|exact mIx _|(simp only [wM,Nat.reduceAdd,Nat.reduceLT,Nat.reduceLeDiff];done)));done)|omega|decide) only [↓wA,wB,wL,resOf,Nat.reduceBEq,Int.reduceBEq,Int.reduceBNe,Int.reduceLT,Int.reduceLE,Int.reduceAdd,Int.reduceSub,Int.reduceMul,Int.reduceToNat]
  refine ifThen_intro (fun e => ?_) (fun e => ?_) <;> have eq := e <;> try simp [-List.getD_eq_getElem?_getD] at eq
  · have SN := f38 k x h1 k1 (by omega) (by omega)
    obtain ⟨v, h2, ev, g2, o2⟩ := f34 k (dig x (swc k)) h1 hc.1 (by omega) dig_len dig_bits k1
    have k2 := g2.ok k1
    have lo : (ofN (outs k (dig x (swc k)))).length ≤ 1000 := by rw [ofN_len, outs_len hc.1]; have := pow8 (show k ≤ 3 by omega); omega
    have EQ := f37 v a _ zs h2 k2 o2.ints ((ha.sub (g1.sub hk)).sub (g2.sub k1)) lo hz
    have wl := waysN_le (k := k) (zs := zs) x
    by_cases c : ofN (outs k (dig x (swc k))) = zs
    · rw [decide_eq_true c] at EQ
      simp (disch := first|(simp only [Nat.reduceBEq,wE];done)|((repeat' (first|assumption|exact mAx _|refine mBx ?_ ?_|exact mCx (by assumption)|refine mDx ?_|refine mEx ?_ ?_ ?_|exact mFx|refine mGx ?_ ?_ ?_|exact mHx|exact mIx _|(simp only [wM,Nat.reduceAdd,Nat.reduceLT,Nat.reduceLeDiff];done)));done)|omega|decide) only [e, callT SN, callT ev, callT EQ, ↓wA,wB,wL,resOf,Nat.reduceBEq,Int.reduceBEq,Int.reduceBNe,Int.reduceLT,Int.reduceLE,Int.reduceAdd,Int.reduceSub,Int.reduceMul,Int.reduceToNat]
      refine ⟨_, ?_, x + 1, n + 1, h2, _, _, _, _, _, _, _, rfl, ?_, rfl⟩
      · omega
      exact ⟨by omega, GrownR.trans g1 g2, by rw [waysN, if_pos c, hn]⟩
    · rw [decide_eq_false c] at EQ
      simp (disch := first|(simp only [Nat.reduceBEq,wE];done)|((repeat' (first|assumption|exact mAx _|refine mBx ?_ ?_|exact mCx (by assumption)|refine mDx ?_|refine mEx ?_ ?_ ?_|exact mFx|refine mGx ?_ ?_ ?_|exact mHx|exact mIx _|(simp only [wM,Nat.reduceAdd,Nat.reduceLT,Nat.reduceLeDiff];done)));done)|omega|decide) only [e, callT SN, callT ev, callT EQ, ↓wA,wB,wL,resOf,Nat.reduceBEq,Int.reduceBEq,Int.reduceBNe,Int.reduceLT,Int.reduceLE,Int.reduceAdd,Int.reduceSub,Int.reduceMul,Int.reduceToNat]
      refine ⟨_, ?_, x + 1, n, h2, _, _, _, _, _, _, _, rfl, ?_, rfl⟩
      · omega
      exact ⟨by omega, GrownR.trans g1 g2, by rw [waysN, if_neg c, hn]; rfl⟩
  · simp (disch := first|(simp only [Nat.reduceBEq,wE];done)|((repeat' (first|assumption|exact mAx _|refine mBx ?_ ?_|exact mCx (by assumption)|refine mDx ?_|refine mEx ?_ ?_ ?_|exact mFx|refine mGx ?_ ?_ ?_|exact mHx|exact mIx _|(simp only [wM,Nat.reduceAdd,Nat.reduceLT,Nat.reduceLeDiff];done)));done)|omega|decide) only [e, ↓wA,wB,wL,resOf,Nat.reduceBEq,Int.reduceBEq,Int.reduceBNe,Int.reduceLT,Int.reduceLE,Int.reduceAdd,Int.reduceSub,Int.reduceMul,Int.reduceToNat]
    refine ⟨_, rfl, ?_, g1⟩
    rw [hn, show m = x by omega]

theorem Waksman_arg (k : Int) (h : Hp) (hk : Hok h) (hc : ¬ (1 ≤ k ∧ k ≤ 20)) : Evals Tryd.prog tab false (.func 23) [.int .i64 k] h (.tu [.int .i64 0, .int .i64 1], h) := by
  refine evals_pure c23 rfl hk ?_
  simp only [sf23, initS_cons, initS_nil]
  simp (disch := first|(simp only [Nat.reduceBEq,wE];done)|((repeat' (first|assumption|exact mAx _|refine mBx ?_ ?_|exact mCx (by assumption)|refine mDx ?_|refine mEx ?_ ?_ ?_|exact mFx|refine mGx ?_ ?_ ?_|exact mHx|exact mIx _|(simp only [wM,Nat.reduceAdd,Nat.reduceLT,Nat.reduceLeDiff];done)));done)|omega|decide) only [callT (f26 _ _ _ _ _), decide_eq_false hc, ↓wA,wB,wL,resOf,Nat.reduceBEq,Int.reduceBEq,Int.reduceBNe,Int.reduceLT,Int.reduceLE,Int.reduceAdd,Int.reduceSub,Int.reduceMul,Int.reduceToNat]
  exact ⟨_, rfl, rfl, by (repeat' (first|assumption|exact mAx _|refine mBx ?_ ?_|exact mCx (by assumption)|refine mDx ?_|refine mEx ?_ ?_ ?_|exact mFx|refine mGx ?_ ?_ ?_|exact mHx|exact mIx _|(simp only [wM,Nat.reduceAdd,Nat.reduceLT,Nat.reduceLeDiff];done)))⟩
theorem mul_pow20 {a k : Nat} (ha : a ≤ 20) (hk : k ≤ 20) : a * 2 ^ k ≤ 20 * 1048576 := by
  have h2 : 2 ^ k ≤ 2 ^ 20 := Nat.pow_le_pow_right (by omega) hk
  exact Nat.mul_le_mul ha h2
theorem Waksman_ok (k : Nat) (h : Hp) (hk : Hok h) (hc : 1 ≤ k ∧ k ≤ 20) : Evals Tryd.prog tab false (.func 23) [.int .i64 k] h (.tu [.int .i64 (((k - 1) * 2 ^ k + 1 : Nat) : Int), .int .i64 0], h) := by
  refine evals_pure c23 rfl hk ?_ rfl
  simp only [sf23, initS_cons, initS_nil]
  have hc' : 1 ≤ (k : Int) ∧ (k : Int) ≤ 20 := by omega
  have e1 : (k : Int) - 1 = ((k - 1 : Nat) : Int) := by omega
  have mp := mul_pow20 (show k - 1 ≤ 20 by omega) hc.2
  have s1 := sBin_shlN (a := k - 1) (j := k) (by omega) (by omega)
  obtain ⟨z, ez⟩ : ∃ z, z = (k - 1) * 2 ^ k := ⟨_, rfl⟩
  rw [← ez] at s1 mp
  rw [← ez]
  have e2 : (z : Int) + 1 = ((z + 1 : Nat) : Int) := by omega
  simp (disch := first|(simp only [Nat.reduceBEq,wE];done)|((repeat' (first|assumption|exact mAx _|refine mBx ?_ ?_|exact mCx (by assumption)|refine mDx ?_|refine mEx ?_ ?_ ?_|exact mFx|refine mGx ?_ ?_ ?_|exact mHx|exact mIx _|(simp only [wM,Nat.reduceAdd,Nat.reduceLT,Nat.reduceLeDiff];done)));done)|omega|decide) only [callT (f26 _ _ _ _ _), decide_eq_true hc', e1, s1, e2, ↓wA,wB,wL,resOf,Nat.reduceBEq,Int.reduceBEq,Int.reduceBNe,Int.reduceLT,Int.reduceLE,Int.reduceAdd,Int.reduceSub,Int.reduceMul,Int.reduceToNat]
  exact ⟨_, rfl, rfl, by (repeat' (first|assumption|exact mAx _|refine mBx ?_ ?_|exact mCx (by assumption)|refine mDx ?_|refine mEx ?_ ?_ ?_|exact mFx|refine mGx ?_ ?_ ?_|exact mHx|exact mIx _|(simp only [wM,Nat.reduceAdd,Nat.reduceLT,Nat.reduceLeDiff];done)))⟩

theorem Strict_arg (n r m : Int) (h : Hp) (hk : Hok h) (hc : ¬ Clos n r m) : Evals Tryd.prog tab false (.func 13) [.int .i64 n, .int .i64 r, .int .i64 m] h (.tu [.bool false, .int .i64 1], h) := by
  refine evals_pure c13 rfl hk ?_
  simp only [sf13, initS_cons, initS_nil]
  simp (disch := first|(simp only [Nat.reduceBEq,wE];done)|((repeat' (first|assumption|exact mAx _|refine mBx ?_ ?_|exact mCx (by assumption)|refine mDx ?_|refine mEx ?_ ?_ ?_|exact mFx|refine mGx ?_ ?_ ?_|exact mHx|exact mIx _|(simp only [wM,Nat.reduceAdd,Nat.reduceLT,Nat.reduceLeDiff];done)));done)|omega|decide) only [callT (f15 n r m h.en hk), decide_eq_false hc, ↓wA,wB,wL,resOf,Nat.reduceBEq,Int.reduceBEq,Int.reduceBNe,Int.reduceLT,Int.reduceLE,Int.reduceAdd,Int.reduceSub,Int.reduceMul,Int.reduceToNat]
  exact ⟨_, rfl, rfl, by (repeat' (first|assumption|exact mAx _|refine mBx ?_ ?_|exact mCx (by assumption)|refine mDx ?_|refine mEx ?_ ?_ ?_|exact mFx|refine mGx ?_ ?_ ?_|exact mHx|exact mIx _|(simp only [wM,Nat.reduceAdd,Nat.reduceLT,Nat.reduceLeDiff];done)))⟩
def StrictP (n r m : Nat) : Prop := 2 * n - 1 ≤ m ∨ (r = 1 ∧ n ≤ m)
instance (n r m : Nat) : Decidable (StrictP n r m) := inferInstanceAs (Decidable (_ ∨ _))
theorem Strict_ok (n r m : Nat) (h : Hp) (hk : Hok h) (hc : Clos n r m) : Evals Tryd.prog tab false (.func 13) [.int .i64 n, .int .i64 r, .int .i64 m] h (.tu [.bool (decide (StrictP n r m)), .int .i64 0], h) := by
  refine evals_pure c13 rfl hk ?_
  simp only [sf13, initS_cons, initS_nil]
  have cc := decide_eq_true hc
  obtain ⟨h1, h2, h3, h4⟩ := hc
  by_cases c1 : 2 * n - 1 ≤ m
  · have d1 : decide ((m : Int) ≥ 2 * (n : Int) - 1) = true := decide_eq_true (by omega)
    have F : StrictP n r m := .inl c1
    simp (disch := first|(simp only [Nat.reduceBEq,wE];done)|((repeat' (first|assumption|exact mAx _|refine mBx ?_ ?_|exact mCx (by assumption)|refine mDx ?_|refine mEx ?_ ?_ ?_|exact mFx|refine mGx ?_ ?_ ?_|exact mHx|exact mIx _|(simp only [wM,Nat.reduceAdd,Nat.reduceLT,Nat.reduceLeDiff];done)));done)|omega|decide) only [callT (f15 n r m h.en hk), cc, d1, ↓wA,wB,wL,resOf,Nat.reduceBEq,Int.reduceBEq,Int.reduceBNe,Int.reduceLT,Int.reduceLE,Int.reduceAdd,Int.reduceSub,Int.reduceMul,Int.reduceToNat]
    refine ⟨_, rfl, ?_, by (repeat' (first|assumption|exact mAx _|refine mBx ?_ ?_|exact mCx (by assumption)|refine mDx ?_|refine mEx ?_ ?_ ?_|exact mFx|refine mGx ?_ ?_ ?_|exact mHx|exact mIx _|(simp only [wM,Nat.reduceAdd,Nat.reduceLT,Nat.reduceLeDiff];done)))⟩
    rw [decide_eq_true F]
  · have d1 : decide ((m : Int) ≥ 2 * (n : Int) - 1) = false := decide_eq_false (by omega)
    by_cases c2 : r = 1
    · have d2 : ((r : Int) == 1) = true := by simp; omega
      by_cases c3 : n ≤ m
      · have d3 : decide ((m : Int) ≥ (n : Int)) = true := decide_eq_true (by omega)
        have F : StrictP n r m := .inr ⟨c2, c3⟩
        simp (disch := first|(simp only [Nat.reduceBEq,wE];done)|((repeat' (first|assumption|exact mAx _|refine mBx ?_ ?_|exact mCx (by assumption)|refine mDx ?_|refine mEx ?_ ?_ ?_|exact mFx|refine mGx ?_ ?_ ?_|exact mHx|exact mIx _|(simp only [wM,Nat.reduceAdd,Nat.reduceLT,Nat.reduceLeDiff];done)));done)|omega|decide) only [callT (f15 n r m h.en hk), cc, d1, d2, d3, ↓wA,wB,wL,resOf,Nat.reduceBEq,Int.reduceBEq,Int.reduceBNe,Int.reduceLT,Int.reduceLE,Int.reduceAdd,Int.reduceSub,Int.reduceMul,Int.reduceToNat]
        refine ⟨_, rfl, ?_, by (repeat' (first|assumption|exact mAx _|refine mBx ?_ ?_|exact mCx (by assumption)|refine mDx ?_|refine mEx ?_ ?_ ?_|exact mFx|refine mGx ?_ ?_ ?_|exact mHx|exact mIx _|(simp only [wM,Nat.reduceAdd,Nat.reduceLT,Nat.reduceLeDiff];done)))⟩
        rw [decide_eq_true F]
      · have d3 : decide ((m : Int) ≥ (n : Int)) = false := decide_eq_false (by omega)
        have F : ¬ StrictP n r m := fun h => h.elim c1 fun h => c3 h.2
        simp (disch := first|(simp only [Nat.reduceBEq,wE];done)|((repeat' (first|assumption|exact mAx _|refine mBx ?_ ?_|exact mCx (by assumption)|refine mDx ?_|refine mEx ?_ ?_ ?_|exact mFx|refine mGx ?_ ?_ ?_|exact mHx|exact mIx _|(simp only [wM,Nat.reduceAdd,Nat.reduceLT,Nat.reduceLeDiff];done)));done)|omega|decide) only [callT (f15 n r m h.en hk), cc, d1, d2, d3, ↓wA,wB,wL,resOf,Nat.reduceBEq,Int.reduceBEq,Int.reduceBNe,Int.reduceLT,Int.reduceLE,Int.reduceAdd,Int.reduceSub,Int.reduceMul,Int.reduceToNat]
        refine ⟨_, rfl, ?_, by (repeat' (first|assumption|exact mAx _|refine mBx ?_ ?_|exact mCx (by assumption)|refine mDx ?_|refine mEx ?_ ?_ ?_|exact mFx|refine mGx ?_ ?_ ?_|exact mHx|exact mIx _|(simp only [wM,Nat.reduceAdd,Nat.reduceLT,Nat.reduceLeDiff];done)))⟩
        rw [decide_eq_false F]
    · have d2 : ((r : Int) == 1) = false := by simp; omega
      have F : ¬ StrictP n r m := fun h => h.elim c1 fun h => c2 h.1
      simp (disch := first|(simp only [Nat.reduceBEq,wE];done)|((repeat' (first|assumption|exact mAx _|refine mBx ?_ ?_|exact mCx (by assumption)|refine mDx ?_|refine mEx ?_ ?_ ?_|exact mFx|refine mGx ?_ ?_ ?_|exact mHx|exact mIx _|(simp only [wM,Nat.reduceAdd,Nat.reduceLT,Nat.reduceLeDiff];done)));done)|omega|decide) only [callT (f15 n r m h.en hk), cc, d1, d2, ↓wA,wB,wL,resOf,Nat.reduceBEq,Int.reduceBEq,Int.reduceBNe,Int.reduceLT,Int.reduceLE,Int.reduceAdd,Int.reduceSub,Int.reduceMul,Int.reduceToNat]
      refine ⟨_, rfl, ?_, by (repeat' (first|assumption|exact mAx _|refine mBx ?_ ?_|exact mCx (by assumption)|refine mDx ?_|refine mEx ?_ ?_ ?_|exact mFx|refine mGx ?_ ?_ ?_|exact mHx|exact mIx _|(simp only [wM,Nat.reduceAdd,Nat.reduceLT,Nat.reduceLeDiff];done)))⟩
      rw [decide_eq_false F]
end Go.Proofs.YtpfkmdbdafpadaaDoor
