/- What is checked first: networks, permutations, routings. -/
import Derived.Test.YtpfkmdbdafpadaaDoorPA
set_option linter.unusedSimpArgs false
set_option linter.unusedVariables false
set_option maxHeartbeats 1000000
namespace Go.Pa
def Clos (n r m : Int) : Prop := (1 ≤ n ∧ n ≤ 12) ∧ (1 ≤ r ∧ r ≤ 12) ∧ n * r ≤ 12 ∧ (1 ≤ m ∧ m ≤ 12)
instance (n r m : Int) : Decidable (Clos n r m) := inferInstanceAs (Decidable (_ ∧ _))
/- A permutation, as a list of numbers. -/
def PermI (w : Int) (zs : List Int) : Prop := (zs.length : Int) = w ∧ (∀ z ∈ zs, 0 ≤ z ∧ z < w) ∧ zs.Nodup
instance (w : Int) (zs : List Int) : Decidable (PermI w zs) := inferInstanceAs (Decidable (_ ∧ _))
def ColI (m w : Int) (zs : List Int) : Prop := (zs.length : Int) = w ∧ (∀ z ∈ zs, 0 ≤ z ∧ z < m)
instance (m w : Int) (zs : List Int) : Decidable (ColI m w zs) := inferInstanceAs (Decidable (_ ∧ _))
/- The first numbers are in the range, and different. -/
def PreP (w : Int) (zs : List Int) (i : Nat) : Prop := (∀ z ∈ zs.take i, 0 ≤ z ∧ z < w) ∧ (zs.take i).Nodup
theorem getD_at {zs : List Int} {i : Nat} (h : i < zs.length) : zs.getD i 0 = zs[i] := by simp [List.getD_eq_getElem?_getD, List.getElem?_eq_getElem h]
theorem PreP.next {w : Int} {zs : List Int} {i : Nat} (H : PreP w zs i) (h : i < zs.length) (h1 : 0 ≤ zs.getD i 0 ∧ zs.getD i 0 < w) (h2 : zs.getD i 0 ∉ zs.take i) : PreP w zs (i + 1) := by
  rw [getD_at h] at h1 h2
  refine ⟨fun z hz => ?_, ?_⟩
  · rw [List.take_succ_eq_append_getElem h, List.mem_append, List.mem_singleton] at hz
    rcases hz with hz | rfl
    · exact H.1 z hz
    · exact h1
  · rw [List.take_succ_eq_append_getElem h, List.nodup_append]
    refine ⟨H.2, by simp, fun x hx y hy e => ?_⟩
    rw [List.mem_singleton] at hy
    subst hy
    subst e
    exact h2 hx
theorem not_perm1 {w : Int} {zs : List Int} {i : Nat} (h : i < zs.length) (h1 : ¬ (0 ≤ zs.getD i 0 ∧ zs.getD i 0 < w)) : ¬ PermI w zs := fun H => by
  rw [getD_at h] at h1
  exact h1 (H.2.1 _ (List.getElem_mem h))
theorem not_perm2 {w : Int} {zs : List Int} {i : Nat} (h : i < zs.length) (h2 : zs.getD i 0 ∈ zs.take i) : ¬ PermI w zs := fun H => by
  rw [getD_at h] at h2
  have := H.2.2.sublist (List.take_sublist (i + 1) zs)
  rw [List.take_succ_eq_append_getElem h, List.nodup_append] at this
  exact this.2.2 _ h2 _ (by simp) rfl
end Go.Pa
namespace Go.Proofs.YtpfkmdbdafpadaaDoor
open Go Go.Abs Go.Pa

theorem f26 (a b c : Int) (h : Hp) (hk : Hok h) : Evals Tryd.prog tab false (.func 26) [.int .i64 a, .int .i64 b, .int .i64 c] h (.bool (decide (b ≤ a ∧ a ≤ c)), h) := by
  refine evals_pure c26 rfl hk ?_
  simp only [sf26, initS_cons, initS_nil]
  by_cases e1 : b ≤ a
  · have e1t : decide (b ≤ a) = true := by simpa using e1
    simp (disch := first|(simp only [Nat.reduceBEq,wE];done)|((repeat' (first|assumption|exact mAx _|refine mBx ?_ ?_|exact mCx (by assumption)|refine mDx ?_|refine mEx ?_ ?_ ?_|exact mFx|refine mGx ?_ ?_ ?_|exact mHx|exact mIx _|(simp only [wM,Nat.reduceAdd,Nat.reduceLT,Nat.reduceLeDiff];done)));done)|omega|decide) only [e1t, ↓wA,wB,wL,resOf,Nat.reduceBEq,Int.reduceBEq,Int.reduceBNe,Int.reduceLT,Int.reduceLE,Int.reduceAdd,Int.reduceSub,Int.reduceMul,Int.reduceToNat]
    refine ⟨_, rfl, ?_, by (repeat' (first|assumption|exact mAx _|refine mBx ?_ ?_|exact mCx (by assumption)|refine mDx ?_|refine mEx ?_ ?_ ?_|exact mFx|refine mGx ?_ ?_ ?_|exact mHx|exact mIx _|(simp only [wM,Nat.reduceAdd,Nat.reduceLT,Nat.reduceLeDiff];done)))⟩
    simp [e1]
  · have e1t : decide (b ≤ a) = false := by simpa using e1
    simp (disch := first|(simp only [Nat.reduceBEq,wE];done)|((repeat' (first|assumption|exact mAx _|refine mBx ?_ ?_|exact mCx (by assumption)|refine mDx ?_|refine mEx ?_ ?_ ?_|exact mFx|refine mGx ?_ ?_ ?_|exact mHx|exact mIx _|(simp only [wM,Nat.reduceAdd,Nat.reduceLT,Nat.reduceLeDiff];done)));done)|omega|decide) only [e1t, ↓wA,wB,wL,resOf,Nat.reduceBEq,Int.reduceBEq,Int.reduceBNe,Int.reduceLT,Int.reduceLE,Int.reduceAdd,Int.reduceSub,Int.reduceMul,Int.reduceToNat]
    refine ⟨_, rfl, ?_, by (repeat' (first|assumption|exact mAx _|refine mBx ?_ ?_|exact mCx (by assumption)|refine mDx ?_|refine mEx ?_ ?_ ?_|exact mFx|refine mGx ?_ ?_ ?_|exact mHx|exact mIx _|(simp only [wM,Nat.reduceAdd,Nat.reduceLT,Nat.reduceLeDiff];done)))⟩
    simp [e1]

theorem f15 (n r m : Int) (h : Hp) (hk : Hok h) : Evals Tryd.prog tab false (.func 15) [.int .i64 n, .int .i64 r, .int .i64 m] h (.bool (decide (Clos n r m)), h) := by
  refine evals_pure c15 rfl hk ?_
  simp only [sf15, initS_cons, initS_nil]
  by_cases e1 : 1 ≤ n ∧ n ≤ 12
  · by_cases e2 : 1 ≤ r ∧ r ≤ 12
    · have hm : n * r ≤ 12 * 12 := Int.mul_le_mul e1.2 e2.2 (by omega) (by omega)
      have hp : 0 ≤ n * r := Int.mul_nonneg (by omega) (by omega)
      have e1t := decide_eq_true e1
      have e2t := decide_eq_true e2
      by_cases e3 : n * r ≤ 12
      · have e3t := decide_eq_true e3
        simp (disch := first|(simp only [Nat.reduceBEq,wE];done)|((repeat' (first|assumption|exact mAx _|refine mBx ?_ ?_|exact mCx (by assumption)|refine mDx ?_|refine mEx ?_ ?_ ?_|exact mFx|refine mGx ?_ ?_ ?_|exact mHx|exact mIx _|(simp only [wM,Nat.reduceAdd,Nat.reduceLT,Nat.reduceLeDiff];done)));done)|omega|decide) only [callT (f26 _ _ _ _ _), e1t, e2t, e3t, ↓wA,wB,wL,resOf,Nat.reduceBEq,Int.reduceBEq,Int.reduceBNe,Int.reduceLT,Int.reduceLE,Int.reduceAdd,Int.reduceSub,Int.reduceMul,Int.reduceToNat]
        refine ⟨_, rfl, ?_, by (repeat' (first|assumption|exact mAx _|refine mBx ?_ ?_|exact mCx (by assumption)|refine mDx ?_|refine mEx ?_ ?_ ?_|exact mFx|refine mGx ?_ ?_ ?_|exact mHx|exact mIx _|(simp only [wM,Nat.reduceAdd,Nat.reduceLT,Nat.reduceLeDiff];done)))⟩
        simp [Clos, e1, e2, e3]
      · have e3t := decide_eq_false e3
        simp (disch := first|(simp only [Nat.reduceBEq,wE];done)|((repeat' (first|assumption|exact mAx _|refine mBx ?_ ?_|exact mCx (by assumption)|refine mDx ?_|refine mEx ?_ ?_ ?_|exact mFx|refine mGx ?_ ?_ ?_|exact mHx|exact mIx _|(simp only [wM,Nat.reduceAdd,Nat.reduceLT,Nat.reduceLeDiff];done)));done)|omega|decide) only [callT (f26 _ _ _ _ _), e1t, e2t, e3t, ↓wA,wB,wL,resOf,Nat.reduceBEq,Int.reduceBEq,Int.reduceBNe,Int.reduceLT,Int.reduceLE,Int.reduceAdd,Int.reduceSub,Int.reduceMul,Int.reduceToNat]
        refine ⟨_, rfl, ?_, by (repeat' (first|assumption|exact mAx _|refine mBx ?_ ?_|exact mCx (by assumption)|refine mDx ?_|refine mEx ?_ ?_ ?_|exact mFx|refine mGx ?_ ?_ ?_|exact mHx|exact mIx _|(simp only [wM,Nat.reduceAdd,Nat.reduceLT,Nat.reduceLeDiff];done)))⟩
        simp [Clos, e1, e2, e3]
    · have e1t := decide_eq_true e1
      have e2t := decide_eq_false e2
      simp (disch := first|(simp only [Nat.reduceBEq,wE];done)|((repeat' (first|assumption|exact mAx _|refine mBx ?_ ?_|exact mCx (by assumption)|refine mDx ?_|refine mEx ?_ ?_ ?_|exact mFx|refine mGx ?_ ?_ ?_|exact mHx|exact mIx _|(simp only [wM,Nat.reduceAdd,Nat.reduceLT,Nat.reduceLeDiff];done)));done)|omega|decide) only [callT (f26 _ _ _ _ _), e1t, e2t, ↓wA,wB,wL,resOf,Nat.reduceBEq,Int.reduceBEq,Int.reduceBNe,Int.reduceLT,Int.reduceLE,Int.reduceAdd,Int.reduceSub,Int.reduceMul,Int.reduceToNat]
      refine ⟨_, rfl, ?_, by (repeat' (first|assumption|exact mAx _|refine mBx ?_ ?_|exact mCx (by assumption)|refine mDx ?_|refine mEx ?_ ?_ ?_|exact mFx|refine mGx ?_ ?_ ?_|exact mHx|exact mIx _|(simp only [wM,Nat.reduceAdd,Nat.reduceLT,Nat.reduceLeDiff];done)))⟩
      simp only [Clos, e2, false_and, and_false, decide_false]
  · have e1t := decide_eq_false e1
    simp (disch := first|(simp only [Nat.reduceBEq,wE];done)|((repeat' (first|assumption|exact mAx _|refine mBx ?_ ?_|exact mCx (by assumption)|refine mDx ?_|refine mEx ?_ ?_ ?_|exact mFx|refine mGx ?_ ?_ ?_|exact mHx|exact mIx _|(simp only [wM,Nat.reduceAdd,Nat.reduceLT,Nat.reduceLeDiff];done)));done)|omega|decide) only [callT (f26 _ _ _ _ _), e1t, ↓wA,wB,wL,resOf,Nat.reduceBEq,Int.reduceBEq,Int.reduceBNe,Int.reduceLT,Int.reduceLE,Int.reduceAdd,Int.reduceSub,Int.reduceMul,Int.reduceToNat]
    refine ⟨_, rfl, ?_, by (repeat' (first|assumption|exact mAx _|refine mBx ?_ ?_|exact mCx (by assumption)|refine mDx ?_|refine mEx ?_ ?_ ?_|exact mFx|refine mGx ?_ ?_ ?_|exact mHx|exact mIx _|(simp only [wM,Nat.reduceAdd,Nat.reduceLT,Nat.reduceLeDiff];done)))⟩
    simp only [Clos, e1, false_and, decide_false]

theorem f7 (n r m : Int) (h : Hp) (hk : Hok h) : Evals Tryd.prog tab false (.func 7) [.int .i64 n, .int .i64 r, .int .i64 m] h (.bool (decide (Clos n r m)), h) := by
  refine evals_pure c7 rfl hk ?_
  simp only [sf7, initS_cons, initS_nil]
  by_cases e1 : 1 ≤ n ∧ n ≤ 12
  · by_cases e2 : 1 ≤ r ∧ r ≤ 12
    · have hm : n * r ≤ 12 * 12 := Int.mul_le_mul e1.2 e2.2 (by omega) (by omega)
      have hp : 0 ≤ n * r := Int.mul_nonneg (by omega) (by omega)
      have e1t := decide_eq_true e1
      have e2t := decide_eq_true e2
      by_cases e3 : n * r ≤ 12
      · have e3t := decide_eq_true e3
        simp (disch := first|(simp only [Nat.reduceBEq,wE];done)|((repeat' (first|assumption|exact mAx _|refine mBx ?_ ?_|exact mCx (by assumption)|refine mDx ?_|refine mEx ?_ ?_ ?_|exact mFx|refine mGx ?_ ?_ ?_|exact mHx|exact mIx _|(simp only [wM,Nat.reduceAdd,Nat.reduceLT,Nat.reduceLeDiff];done)));done)|omega|decide) only [callT (f8 _ _ _ _ _), e1t, e2t, e3t, ↓wA,wB,wL,resOf,Nat.reduceBEq,Int.reduceBEq,Int.reduceBNe,Int.reduceLT,Int.reduceLE,Int.reduceAdd,Int.reduceSub,Int.reduceMul,Int.reduceToNat]
        refine ⟨_, rfl, ?_, by (repeat' (first|assumption|exact mAx _|refine mBx ?_ ?_|exact mCx (by assumption)|refine mDx ?_|refine mEx ?_ ?_ ?_|exact mFx|refine mGx ?_ ?_ ?_|exact mHx|exact mIx _|(simp only [wM,Nat.reduceAdd,Nat.reduceLT,Nat.reduceLeDiff];done)))⟩
        simp [Clos, e1, e2, e3]
      · have e3t := decide_eq_false e3
        simp (disch := first|(simp only [Nat.reduceBEq,wE];done)|((repeat' (first|assumption|exact mAx _|refine mBx ?_ ?_|exact mCx (by assumption)|refine mDx ?_|refine mEx ?_ ?_ ?_|exact mFx|refine mGx ?_ ?_ ?_|exact mHx|exact mIx _|(simp only [wM,Nat.reduceAdd,Nat.reduceLT,Nat.reduceLeDiff];done)));done)|omega|decide) only [callT (f8 _ _ _ _ _), e1t, e2t, e3t, ↓wA,wB,wL,resOf,Nat.reduceBEq,Int.reduceBEq,Int.reduceBNe,Int.reduceLT,Int.reduceLE,Int.reduceAdd,Int.reduceSub,Int.reduceMul,Int.reduceToNat]
        refine ⟨_, rfl, ?_, by (repeat' (first|assumption|exact mAx _|refine mBx ?_ ?_|exact mCx (by assumption)|refine mDx ?_|refine mEx ?_ ?_ ?_|exact mFx|refine mGx ?_ ?_ ?_|exact mHx|exact mIx _|(simp only [wM,Nat.reduceAdd,Nat.reduceLT,Nat.reduceLeDiff];done)))⟩
        simp [Clos, e1, e2, e3]
    · have e1t := decide_eq_true e1
      have e2t := decide_eq_false e2
      simp (disch := first|(simp only [Nat.reduceBEq,wE];done)|((repeat' (first|assumption|exact mAx _|refine mBx ?_ ?_|exact mCx (by assumption)|refine mDx ?_|refine mEx ?_ ?_ ?_|exact mFx|refine mGx ?_ ?_ ?_|exact mHx|exact mIx _|(simp only [wM,Nat.reduceAdd,Nat.reduceLT,Nat.reduceLeDiff];done)));done)|omega|decide) only [callT (f8 _ _ _ _ _), e1t, e2t, ↓wA,wB,wL,resOf,Nat.reduceBEq,Int.reduceBEq,Int.reduceBNe,Int.reduceLT,Int.reduceLE,Int.reduceAdd,Int.reduceSub,Int.reduceMul,Int.reduceToNat]
      refine ⟨_, rfl, ?_, by (repeat' (first|assumption|exact mAx _|refine mBx ?_ ?_|exact mCx (by assumption)|refine mDx ?_|refine mEx ?_ ?_ ?_|exact mFx|refine mGx ?_ ?_ ?_|exact mHx|exact mIx _|(simp only [wM,Nat.reduceAdd,Nat.reduceLT,Nat.reduceLeDiff];done)))⟩
      simp only [Clos, e2, false_and, and_false, decide_false]
  · have e1t := decide_eq_false e1
    simp (disch := first|(simp only [Nat.reduceBEq,wE];done)|((repeat' (first|assumption|exact mAx _|refine mBx ?_ ?_|exact mCx (by assumption)|refine mDx ?_|refine mEx ?_ ?_ ?_|exact mFx|refine mGx ?_ ?_ ?_|exact mHx|exact mIx _|(simp only [wM,Nat.reduceAdd,Nat.reduceLT,Nat.reduceLeDiff];done)));done)|omega|decide) only [callT (f8 _ _ _ _ _), e1t, ↓wA,wB,wL,resOf,Nat.reduceBEq,Int.reduceBEq,Int.reduceBNe,Int.reduceLT,Int.reduceLE,Int.reduceAdd,Int.reduceSub,Int.reduceMul,Int.reduceToNat]
    refine ⟨_, rfl, ?_, by (repeat' (first|assumption|exact mAx _|refine mBx ?_ ?_|exact mCx (by assumption)|refine mDx ?_|refine mEx ?_ ?_ ?_|exact mFx|refine mGx ?_ ?_ ?_|exact mHx|exact mIx _|(simp only [wM,Nat.reduceAdd,Nat.reduceLT,Nat.reduceLeDiff];done)))⟩
    simp only [Clos, e1, false_and, decide_false]

theorem f30 (a : AV) (zs : List Int) (w : Nat) (h : Hp) (hk : Hok h) (ha : Ints h.blks .i64 a zs) (hz : zs.length ≤ 100000) (hw : w ≤ 100000) :
    Evals Tryd.prog tab false (.func 30) [a, .int .i64 w] h (.bool (decide (PermI w zs)), h) := by
  refine evals_pure c30 rfl hk ?_
  simp only [sf30, initS_cons, initS_nil]
  simp (disch := first|(simp only [Nat.reduceBEq,wE];done)|((repeat' (first|assumption|exact mAx _|refine mBx ?_ ?_|exact mCx (by assumption)|refine mDx ?_|refine mEx ?_ ?_ ?_|exact mFx|refine mGx ?_ ?_ ?_|exact mHx|exact mIx _|(simp only [wM,Nat.reduceAdd,Nat.reduceLT,Nat.reduceLeDiff];done)));done)|omega|decide) only [ha.len, ↓wA,wB,wL,resOf,Nat.reduceBEq,Int.reduceBEq,Int.reduceBNe,Int.reduceLT,Int.reduceLE,Int.reduceAdd,Int.reduceSub,Int.reduceMul,Int.reduceToNat]
  by_cases e0 : (zs.length : Int) = w
  · have e0t : ((zs.length : Int) != (w : Int)) = false := by simpa using e0
    simp (disch := first|(simp only [Nat.reduceBEq,wE];done)|((repeat' (first|assumption|exact mAx _|refine mBx ?_ ?_|exact mCx (by assumption)|refine mDx ?_|refine mEx ?_ ?_ ?_|exact mFx|refine mGx ?_ ?_ ?_|exact mHx|exact mIx _|(simp only [wM,Nat.reduceAdd,Nat.reduceLT,Nat.reduceLeDiff];done)));done)|omega|decide) only [e0t, ha.len, ↓wA,wB,wL,resOf,Nat.reduceBEq,Int.reduceBEq,Int.reduceBNe,Int.reduceLT,Int.reduceLE,Int.reduceAdd,Int.reduceSub,Int.reduceMul,Int.reduceToNat]
    refine wloop (fun mm ss => ∃ (i : Nat) (u4 u5 u6 u10 u14 u29 : AV), (mm = zs.length - i) ∧ (i ≤ zs.length ∧ PreP w zs i) ∧ ss = { fr := [(0, a), (1, .int .i64 w), (4, u4), (5, u5), (6, u6), (10, u10), (11, a), (12, .int .i64 zs.length), (13, .int .i64 i), (14, u14), (29, u29)], hp := h.en }) (zs.length) ?_ ?_
    ·
      refine ⟨0, _, _, _, _, _, _, by omega, ⟨by omega, ⟨by simp, by simp⟩⟩, rfl⟩
    rintro nA sA ⟨i, u4, u5, u6, u10, u14, u29, hnA, ⟨hi, hp⟩, rfl⟩
    simp (disch := first|(simp only [Nat.reduceBEq,wE];done)|((repeat' (first|assumption|exact mAx _|refine mBx ?_ ?_|exact mCx (by assumption)|refine mDx ?_|refine mEx ?_ ?_ ?_|exact mFx|refine mGx ?_ ?_ ?_|exact mHx|exact mIx _|(simp only [wM,Nat.reduceAdd,Nat.reduceLT,Nat.reduceLeDiff];done)));done)|omega|decide) only [↓wA,wB,wL,resOf,Nat.reduceBEq,Int.reduceBEq,Int.reduceBNe,Int.reduceLT,Int.reduceLE,Int.reduceAdd,Int.reduceSub,Int.reduceMul,Int.reduceToNat]
    refine ifThen_intro (fun e => ?_) (fun e => ?_) <;> have eq := e <;> try simp [-List.getD_eq_getElem?_getD] at eq
    · obtain ⟨a', ea, ia⟩ := ha.upto (m := i) (by omega) h.en
      by_cases e1 : (0 : Int) ≤ zs.getD i 0 ∧ zs.getD i 0 ≤ (w : Int) - 1
      · have e1t := decide_eq_true e1
        by_cases e2 : zs.getD i 0 ∈ zs.take i
        · simp (disch := first|(simp only [Nat.reduceBEq,wE];done)|((repeat' (first|assumption|exact mAx _|refine mBx ?_ ?_|exact mCx (by assumption)|refine mDx ?_|refine mEx ?_ ?_ ?_|exact mFx|refine mGx ?_ ?_ ?_|exact mHx|exact mIx _|(simp only [wM,Nat.reduceAdd,Nat.reduceLT,Nat.reduceLeDiff];done)));done)|omega|decide) only [e, ha.ix, ha.ld, callT (f26 _ _ _ _ _), e1t, ea, callT (f47 a' (zs.take i) (zs.getD i 0) h.en hk ia (by simp; omega)), decide_eq_true e2, ↓wA,wB,wL,resOf,Nat.reduceBEq,Int.reduceBEq,Int.reduceBNe,Int.reduceLT,Int.reduceLE,Int.reduceAdd,Int.reduceSub,Int.reduceMul,Int.reduceToNat]
          refine ⟨_, rfl, ?_, by (repeat' (first|assumption|exact mAx _|refine mBx ?_ ?_|exact mCx (by assumption)|refine mDx ?_|refine mEx ?_ ?_ ?_|exact mFx|refine mGx ?_ ?_ ?_|exact mHx|exact mIx _|(simp only [wM,Nat.reduceAdd,Nat.reduceLT,Nat.reduceLeDiff];done)))⟩
          rw [decide_eq_false (not_perm2 eq e2)]
        · simp (disch := first|(simp only [Nat.reduceBEq,wE];done)|((repeat' (first|assumption|exact mAx _|refine mBx ?_ ?_|exact mCx (by assumption)|refine mDx ?_|refine mEx ?_ ?_ ?_|exact mFx|refine mGx ?_ ?_ ?_|exact mHx|exact mIx _|(simp only [wM,Nat.reduceAdd,Nat.reduceLT,Nat.reduceLeDiff];done)));done)|omega|decide) only [e, ha.ix, ha.ld, callT (f26 _ _ _ _ _), e1t, ea, callT (f47 a' (zs.take i) (zs.getD i 0) h.en hk ia (by simp; omega)), decide_eq_false e2, ↓wA,wB,wL,resOf,Nat.reduceBEq,Int.reduceBEq,Int.reduceBNe,Int.reduceLT,Int.reduceLE,Int.reduceAdd,Int.reduceSub,Int.reduceMul,Int.reduceToNat]
          refine ⟨_, ?_, i + 1, _, _, _, _, _, _, rfl, ?_, rfl⟩
          · omega
          exact ⟨by omega, hp.next eq ⟨e1.1, by omega⟩ e2⟩
      · have e1t := decide_eq_false e1
        simp (disch := first|(simp only [Nat.reduceBEq,wE];done)|((repeat' (first|assumption|exact mAx _|refine mBx ?_ ?_|exact mCx (by assumption)|refine mDx ?_|refine mEx ?_ ?_ ?_|exact mFx|refine mGx ?_ ?_ ?_|exact mHx|exact mIx _|(simp only [wM,Nat.reduceAdd,Nat.reduceLT,Nat.reduceLeDiff];done)));done)|omega|decide) only [e, ha.ix, ha.ld, callT (f26 _ _ _ _ _), e1t, ↓wA,wB,wL,resOf,Nat.reduceBEq,Int.reduceBEq,Int.reduceBNe,Int.reduceLT,Int.reduceLE,Int.reduceAdd,Int.reduceSub,Int.reduceMul,Int.reduceToNat]
        refine ⟨_, rfl, ?_, by (repeat' (first|assumption|exact mAx _|refine mBx ?_ ?_|exact mCx (by assumption)|refine mDx ?_|refine mEx ?_ ?_ ?_|exact mFx|refine mGx ?_ ?_ ?_|exact mHx|exact mIx _|(simp only [wM,Nat.reduceAdd,Nat.reduceLT,Nat.reduceLeDiff];done)))⟩
        rw [decide_eq_false (not_perm1 eq fun h => e1 ⟨h.1, by omega⟩)]
    · simp (disch := first|(simp only [Nat.reduceBEq,wE];done)|((repeat' (first|assumption|exact mAx _|refine mBx ?_ ?_|exact mCx (by assumption)|refine mDx ?_|refine mEx ?_ ?_ ?_|exact mFx|refine mGx ?_ ?_ ?_|exact mHx|exact mIx _|(simp only [wM,Nat.reduceAdd,Nat.reduceLT,Nat.reduceLeDiff];done)));done)|omega|decide) only [e, ↓wA,wB,wL,resOf,Nat.reduceBEq,Int.reduceBEq,Int.reduceBNe,Int.reduceLT,Int.reduceLE,Int.reduceAdd,Int.reduceSub,Int.reduceMul,Int.reduceToNat]
      refine ⟨_, rfl, ?_, by (repeat' (first|assumption|exact mAx _|refine mBx ?_ ?_|exact mCx (by assumption)|refine mDx ?_|refine mEx ?_ ?_ ?_|exact mFx|refine mGx ?_ ?_ ?_|exact mHx|exact mIx _|(simp only [wM,Nat.reduceAdd,Nat.reduceLT,Nat.reduceLeDiff];done)))⟩
      have : PermI w zs := ⟨e0, by have := hp.1; rw [List.take_of_length_le (by omega)] at this; exact this, by have := hp.2; rw [List.take_of_length_le (by omega)] at this; exact this⟩
      rw [decide_eq_true this]
  · have e0t : ((zs.length : Int) != (w : Int)) = true := by simpa using e0
    simp (disch := first|(simp only [Nat.reduceBEq,wE];done)|((repeat' (first|assumption|exact mAx _|refine mBx ?_ ?_|exact mCx (by assumption)|refine mDx ?_|refine mEx ?_ ?_ ?_|exact mFx|refine mGx ?_ ?_ ?_|exact mHx|exact mIx _|(simp only [wM,Nat.reduceAdd,Nat.reduceLT,Nat.reduceLeDiff];done)));done)|omega|decide) only [e0t, ↓wA,wB,wL,resOf,Nat.reduceBEq,Int.reduceBEq,Int.reduceBNe,Int.reduceLT,Int.reduceLE,Int.reduceAdd,Int.reduceSub,Int.reduceMul,Int.reduceToNat]
    refine ⟨_, rfl, ?_, by (repeat' (first|assumption|exact mAx _|refine mBx ?_ ?_|exact mCx (by assumption)|refine mDx ?_|refine mEx ?_ ?_ ?_|exact mFx|refine mGx ?_ ?_ ?_|exact mHx|exact mIx _|(simp only [wM,Nat.reduceAdd,Nat.reduceLT,Nat.reduceLeDiff];done)))⟩
    rw [decide_eq_false fun h => e0 h.1]
end Go.Proofs.YtpfkmdbdafpadaaDoor
