/- Small functions that the program and the references share: numbers in a range, lists. -/
import Derived.Test.YtpfkmdbdafpadaaDoorSN
import Derived.Test.YtpfkmdbdafpadaaDoorSW
import Derived.Test.YtpfkmdbdafpadaaDoorSX
set_option linter.unusedSimpArgs false
set_option linter.unusedVariables false
set_option maxHeartbeats 1000000
namespace Go.Proofs.YtpfkmdbdafpadaaDoor
open Go Go.Abs

theorem f8 (a b c : Int) (h : Hp) (hk : Hok h) : Evals Tryd.prog tab false (.func 8) [.int .i64 a, .int .i64 b, .int .i64 c] h (.bool (decide (b ≤ a ∧ a ≤ c)), h) := by
  refine evals_pure c8 rfl hk ?_
  simp only [sf8, initS_cons, initS_nil]
  simp only [↓wA,wB,wL,resOf,Nat.reduceBEq,Int.reduceBEq,Int.reduceBNe,Int.reduceLT,Int.reduceLE,Int.reduceAdd,Int.reduceSub,Int.reduceMul,Int.reduceToNat]
  refine ifThen_intro (fun e => ?_) (fun e => ?_) <;> have eq := e <;> try simp [-List.getD_eq_getElem?_getD] at eq <;> simp only [e, ↓wA,wB,wL,resOf,Nat.reduceBEq,Int.reduceBEq,Int.reduceBNe,Int.reduceLT,Int.reduceLE,Int.reduceAdd,Int.reduceSub,Int.reduceMul,Int.reduceToNat] <;> refine ⟨_, rfl, ?_, by (repeat' (first|assumption|exact mAx _|refine mBx ?_ ?_|exact mCx (by assumption)|refine mDx ?_|refine mEx ?_ ?_ ?_|exact mFx|refine mGx ?_ ?_ ?_|exact mHx|exact mIx _|(simp only [wM,Nat.reduceAdd,Nat.reduceLT,Nat.reduceLeDiff];done)))⟩ <;> simp <;> omega

theorem f14 (a : AV) (zs : List Int) (v : Int) (h : Hp) (hk : Hok h) (ha : Ints h.blks .i64 a zs) (hz : zs.length < 2 ^ 62) :
    Evals Tryd.prog tab false (.func 14) [a, .int .i64 v] h (.bool (decide (v ∈ zs)), h) := by
  refine evals_pure c14 rfl hk ?_
  simp only [sf14, initS_cons, initS_nil]
  simp (disch := first|(simp only [Nat.reduceBEq,wE];done)|((repeat' (first|assumption|exact mAx _|refine mBx ?_ ?_|exact mCx (by assumption)|refine mDx ?_|refine mEx ?_ ?_ ?_|exact mFx|refine mGx ?_ ?_ ?_|exact mHx|exact mIx _|(simp only [wM,Nat.reduceAdd,Nat.reduceLT,Nat.reduceLeDiff];done)));done)|omega|decide) only [↓wA,wB,wL,resOf,Nat.reduceBEq,Int.reduceBEq,Int.reduceBNe,Int.reduceLT,Int.reduceLE,Int.reduceAdd,Int.reduceSub,Int.reduceMul,Int.reduceToNat]
  refine wloop (fun mm ss => ∃ (i : Nat) (u4 u9 u17 : AV), (mm = zs.length - i) ∧ (i ≤ zs.length ∧ v ∉ zs.take i) ∧ ss = { fr := [(0, a), (1, .int .i64 v), (4, u4), (5, .int .i64 i), (9, u9), (17, u17)], hp := h.en }) (zs.length) ?_ ?_
  ·
    refine ⟨0, _, _, _, by omega, ⟨by omega, by simp⟩, rfl⟩
  rintro nA sA ⟨i, u4, u9, u17, hnA, ⟨hi, hn⟩, rfl⟩
  simp (disch := first|(simp only [Nat.reduceBEq,wE];done)|((repeat' (first|assumption|exact mAx _|refine mBx ?_ ?_|exact mCx (by assumption)|refine mDx ?_|refine mEx ?_ ?_ ?_|exact mFx|refine mGx ?_ ?_ ?_|exact mHx|exact mIx _|(simp only [wM,Nat.reduceAdd,Nat.reduceLT,Nat.reduceLeDiff];done)));done)|omega|decide) only [ha.len, ↓wA,wB,wL,resOf,Nat.reduceBEq,Int.reduceBEq,Int.reduceBNe,Int.reduceLT,Int.reduceLE,Int.reduceAdd,Int.reduceSub,Int.reduceMul,Int.reduceToNat]
  refine ifThen_intro (fun e => ?_) (fun e => ?_) <;> have eq := e <;> try simp [-List.getD_eq_getElem?_getD] at eq
  · simp (disch := first|(simp only [Nat.reduceBEq,wE];done)|((repeat' (first|assumption|exact mAx _|refine mBx ?_ ?_|exact mCx (by assumption)|refine mDx ?_|refine mEx ?_ ?_ ?_|exact mFx|refine mGx ?_ ?_ ?_|exact mHx|exact mIx _|(simp only [wM,Nat.reduceAdd,Nat.reduceLT,Nat.reduceLeDiff];done)));done)|omega|decide) only [e, ha.ix, ha.ld, ↓wA,wB,wL,resOf,Nat.reduceBEq,Int.reduceBEq,Int.reduceBNe,Int.reduceLT,Int.reduceLE,Int.reduceAdd,Int.reduceSub,Int.reduceMul,Int.reduceToNat]
    refine ifThen_intro (fun e2 => ?_) (fun e2 => ?_) <;> have e2q := e2 <;> try simp [-List.getD_eq_getElem?_getD] at e2q
    · simp (disch := first|(simp only [Nat.reduceBEq,wE];done)|((repeat' (first|assumption|exact mAx _|refine mBx ?_ ?_|exact mCx (by assumption)|refine mDx ?_|refine mEx ?_ ?_ ?_|exact mFx|refine mGx ?_ ?_ ?_|exact mHx|exact mIx _|(simp only [wM,Nat.reduceAdd,Nat.reduceLT,Nat.reduceLeDiff];done)));done)|omega|decide) only [e, e2, ↓wA,wB,wL,resOf,Nat.reduceBEq,Int.reduceBEq,Int.reduceBNe,Int.reduceLT,Int.reduceLE,Int.reduceAdd,Int.reduceSub,Int.reduceMul,Int.reduceToNat]
      refine ⟨_, rfl, ?_, by (repeat' (first|assumption|exact mAx _|refine mBx ?_ ?_|exact mCx (by assumption)|refine mDx ?_|refine mEx ?_ ?_ ?_|exact mFx|refine mGx ?_ ?_ ?_|exact mHx|exact mIx _|(simp only [wM,Nat.reduceAdd,Nat.reduceLT,Nat.reduceLeDiff];done)))⟩
      have hm : v ∈ zs := by rw [← e2q]; simp [List.getD_eq_getElem?_getD, List.getElem?_eq_getElem eq]
      rw [decide_eq_true hm]
    · simp (disch := first|(simp only [Nat.reduceBEq,wE];done)|((repeat' (first|assumption|exact mAx _|refine mBx ?_ ?_|exact mCx (by assumption)|refine mDx ?_|refine mEx ?_ ?_ ?_|exact mFx|refine mGx ?_ ?_ ?_|exact mHx|exact mIx _|(simp only [wM,Nat.reduceAdd,Nat.reduceLT,Nat.reduceLeDiff];done)));done)|omega|decide) only [e, e2, ↓wA,wB,wL,resOf,Nat.reduceBEq,Int.reduceBEq,Int.reduceBNe,Int.reduceLT,Int.reduceLE,Int.reduceAdd,Int.reduceSub,Int.reduceMul,Int.reduceToNat]
      refine ⟨_, ?_, i + 1, _, _, _, rfl, ?_, rfl⟩
      · omega
      refine ⟨by omega, fun hm => ?_⟩
      rw [List.take_succ_eq_append_getElem eq, List.mem_append, List.mem_singleton] at hm
      rcases hm with hm | hm
      · exact hn hm
      · exact e2q (by rw [hm]; simp [List.getD_eq_getElem?_getD, List.getElem?_eq_getElem eq])
  · simp (disch := first|(simp only [Nat.reduceBEq,wE];done)|((repeat' (first|assumption|exact mAx _|refine mBx ?_ ?_|exact mCx (by assumption)|refine mDx ?_|refine mEx ?_ ?_ ?_|exact mFx|refine mGx ?_ ?_ ?_|exact mHx|exact mIx _|(simp only [wM,Nat.reduceAdd,Nat.reduceLT,Nat.reduceLeDiff];done)));done)|omega|decide) only [e, ↓wA,wB,wL,resOf,Nat.reduceBEq,Int.reduceBEq,Int.reduceBNe,Int.reduceLT,Int.reduceLE,Int.reduceAdd,Int.reduceSub,Int.reduceMul,Int.reduceToNat]
    refine ⟨_, rfl, ?_, by (repeat' (first|assumption|exact mAx _|refine mBx ?_ ?_|exact mCx (by assumption)|refine mDx ?_|refine mEx ?_ ?_ ?_|exact mFx|refine mGx ?_ ?_ ?_|exact mHx|exact mIx _|(simp only [wM,Nat.reduceAdd,Nat.reduceLT,Nat.reduceLeDiff];done)))⟩
    rw [List.take_of_length_le (by omega)] at hn
    rw [decide_eq_false hn]

theorem lt_split {xs ys : List Int} {i : Nat} (hall : xs.take i = ys.take i) : xs < ys ↔ xs.drop i < ys.drop i := by
  conv => lhs; rw [← List.take_append_drop i xs, ← List.take_append_drop i ys, hall]
  generalize ys.take i = p
  induction p with
  | nil => simp
  | cons a p ih => simp [List.cons_lt_cons_iff, ih]

theorem lt_at {xs ys : List Int} {i : Nat} (h1 : i < xs.length) (h2 : i < ys.length) (hall : xs.take i = ys.take i) (hne : ¬ xs.getD i 0 = ys.getD i 0) : xs < ys ↔ xs.getD i 0 < ys.getD i 0 := by
  rw [lt_split hall, List.drop_eq_getElem_cons h1, List.drop_eq_getElem_cons h2, List.cons_lt_cons_iff]
  simp only [List.getD_eq_getElem?_getD, List.getElem?_eq_getElem h1, List.getElem?_eq_getElem h2, Option.getD_some] at hne ⊢
  simp [hne]

theorem take_step {xs ys : List Int} {i : Nat} (h1 : i < xs.length) (h2 : i < ys.length) (hall : xs.take i = ys.take i) (he : xs.getD i 0 = ys.getD i 0) : xs.take (i + 1) = ys.take (i + 1) := by
  simp only [List.getD_eq_getElem?_getD, List.getElem?_eq_getElem h1, List.getElem?_eq_getElem h2, Option.getD_some] at he
  rw [List.take_add_one, List.take_add_one, hall, List.getElem?_eq_getElem h1, List.getElem?_eq_getElem h2, he]

theorem lt_end2 {xs ys : List Int} {i : Nat} (h2 : ys.length ≤ i) (hall : xs.take i = ys.take i) (hj : i ≤ ys.length) : xs.length < ys.length ↔ xs < ys := by
  rw [lt_split hall, List.drop_of_length_le h2]
  simp only [List.not_lt_nil, iff_false]
  have := congrArg List.length hall
  simp only [List.length_take] at this
  have h3 : i = ys.length := by omega
  omega

theorem lt_end1 {xs ys : List Int} {i : Nat} (h1 : xs.length ≤ i) (hall : xs.take i = ys.take i) (hj : i ≤ xs.length) : xs.length < ys.length ↔ xs < ys := by
  rw [lt_split hall, List.drop_of_length_le h1]
  by_cases h : i < ys.length
  · rw [List.drop_eq_getElem_cons h]
    simp only [List.nil_lt_cons, iff_true]
    omega
  · rw [List.drop_of_length_le (by omega)]
    simp only [List.not_lt_nil, iff_false]
    omega

theorem f25 (a b : AV) (xs ys : List Int) (h : Hp) (hk : Hok h) (ha : Ints h.blks .i64 a xs) (hb : Ints h.blks .i64 b ys) (hx : xs.length < 2 ^ 62) (hy : ys.length < 2 ^ 62) :
    Evals Tryd.prog tab false (.func 25) [a, b] h (.bool (decide (xs < ys)), h) := by
  refine evals_pure c25 rfl hk ?_
  simp only [sf25, initS_cons, initS_nil]
  simp (disch := first|(simp only [Nat.reduceBEq,wE];done)|((repeat' (first|assumption|exact mAx _|refine mBx ?_ ?_|exact mCx (by assumption)|refine mDx ?_|refine mEx ?_ ?_ ?_|exact mFx|refine mGx ?_ ?_ ?_|exact mHx|exact mIx _|(simp only [wM,Nat.reduceAdd,Nat.reduceLT,Nat.reduceLeDiff];done)));done)|omega|decide) only [↓wA,wB,wL,resOf,Nat.reduceBEq,Int.reduceBEq,Int.reduceBNe,Int.reduceLT,Int.reduceLE,Int.reduceAdd,Int.reduceSub,Int.reduceMul,Int.reduceToNat]
  refine wloop (fun mm ss => ∃ (i : Nat) (u15 u26 : AV), (mm = xs.length - i) ∧ (i ≤ xs.length ∧ i ≤ ys.length ∧ xs.take i = ys.take i) ∧ ss = { fr := [(0, a), (1, b), (4, .bool false), (5, .int .i64 i), (15, u15), (26, u26)], hp := h.en }) (xs.length) ?_ ?_
  ·
    refine ⟨0, _, _, by omega, ⟨by omega, by omega, by simp⟩, rfl⟩
  rintro nA sA ⟨i, u15, u26, hnA, ⟨hi, hj, hall⟩, rfl⟩
  simp (disch := first|(simp only [Nat.reduceBEq,wE];done)|((repeat' (first|assumption|exact mAx _|refine mBx ?_ ?_|exact mCx (by assumption)|refine mDx ?_|refine mEx ?_ ?_ ?_|exact mFx|refine mGx ?_ ?_ ?_|exact mHx|exact mIx _|(simp only [wM,Nat.reduceAdd,Nat.reduceLT,Nat.reduceLeDiff];done)));done)|omega|decide) only [ha.len, hb.len, ↓wA,wB,wL,resOf,Nat.reduceBEq,Int.reduceBEq,Int.reduceBNe,Int.reduceLT,Int.reduceLE,Int.reduceAdd,Int.reduceSub,Int.reduceMul,Int.reduceToNat]
  refine ifThen_intro (fun e1 => ?_) (fun e1 => ?_) <;> have e1q := e1 <;> try simp [-List.getD_eq_getElem?_getD] at e1q
  · simp (disch := first|(simp only [Nat.reduceBEq,wE];done)|((repeat' (first|assumption|exact mAx _|refine mBx ?_ ?_|exact mCx (by assumption)|refine mDx ?_|refine mEx ?_ ?_ ?_|exact mFx|refine mGx ?_ ?_ ?_|exact mHx|exact mIx _|(simp only [wM,Nat.reduceAdd,Nat.reduceLT,Nat.reduceLeDiff];done)));done)|omega|decide) only [e1, ha.len, hb.len, ↓wA,wB,wL,resOf,Nat.reduceBEq,Int.reduceBEq,Int.reduceBNe,Int.reduceLT,Int.reduceLE,Int.reduceAdd,Int.reduceSub,Int.reduceMul,Int.reduceToNat]
    refine ifThen_intro (fun e2 => ?_) (fun e2 => ?_) <;> have e2q := e2 <;> try simp [-List.getD_eq_getElem?_getD] at e2q
    · simp (disch := first|(simp only [Nat.reduceBEq,wE];done)|((repeat' (first|assumption|exact mAx _|refine mBx ?_ ?_|exact mCx (by assumption)|refine mDx ?_|refine mEx ?_ ?_ ?_|exact mFx|refine mGx ?_ ?_ ?_|exact mHx|exact mIx _|(simp only [wM,Nat.reduceAdd,Nat.reduceLT,Nat.reduceLeDiff];done)));done)|omega|decide) only [e1, e2, ha.ix, ha.ld, hb.ix, hb.ld, ↓wA,wB,wL,resOf,Nat.reduceBEq,Int.reduceBEq,Int.reduceBNe,Int.reduceLT,Int.reduceLE,Int.reduceAdd,Int.reduceSub,Int.reduceMul,Int.reduceToNat]
      refine ifThen_intro (fun e3 => ?_) (fun e3 => ?_) <;> have e3q := e3 <;> try simp [-List.getD_eq_getElem?_getD] at e3q
      · simp (disch := first|(simp only [Nat.reduceBEq,wE];done)|((repeat' (first|assumption|exact mAx _|refine mBx ?_ ?_|exact mCx (by assumption)|refine mDx ?_|refine mEx ?_ ?_ ?_|exact mFx|refine mGx ?_ ?_ ?_|exact mHx|exact mIx _|(simp only [wM,Nat.reduceAdd,Nat.reduceLT,Nat.reduceLeDiff];done)));done)|omega|decide) only [e1, e2, e3, ha.ix, ha.ld, hb.ix, hb.ld, ↓wA,wB,wL,resOf,Nat.reduceBEq,Int.reduceBEq,Int.reduceBNe,Int.reduceLT,Int.reduceLE,Int.reduceAdd,Int.reduceSub,Int.reduceMul,Int.reduceToNat]
        refine ⟨_, rfl, ?_, by (repeat' (first|assumption|exact mAx _|refine mBx ?_ ?_|exact mCx (by assumption)|refine mDx ?_|refine mEx ?_ ?_ ?_|exact mFx|refine mGx ?_ ?_ ?_|exact mHx|exact mIx _|(simp only [wM,Nat.reduceAdd,Nat.reduceLT,Nat.reduceLeDiff];done)))⟩
        simp only [AV.bool.injEq, decide_eq_decide]
        exact (lt_at e1q e2q hall e3q).symm
      · simp (disch := first|(simp only [Nat.reduceBEq,wE];done)|((repeat' (first|assumption|exact mAx _|refine mBx ?_ ?_|exact mCx (by assumption)|refine mDx ?_|refine mEx ?_ ?_ ?_|exact mFx|refine mGx ?_ ?_ ?_|exact mHx|exact mIx _|(simp only [wM,Nat.reduceAdd,Nat.reduceLT,Nat.reduceLeDiff];done)));done)|omega|decide) only [e1, e2, e3, ↓wA,wB,wL,resOf,Nat.reduceBEq,Int.reduceBEq,Int.reduceBNe,Int.reduceLT,Int.reduceLE,Int.reduceAdd,Int.reduceSub,Int.reduceMul,Int.reduceToNat]
        refine ⟨_, ?_, i + 1, _, _, rfl, ?_, rfl⟩
        · omega
        exact ⟨by omega, by omega, take_step e1q e2q hall e3q⟩
    · simp (disch := first|(simp only [Nat.reduceBEq,wE];done)|((repeat' (first|assumption|exact mAx _|refine mBx ?_ ?_|exact mCx (by assumption)|refine mDx ?_|refine mEx ?_ ?_ ?_|exact mFx|refine mGx ?_ ?_ ?_|exact mHx|exact mIx _|(simp only [wM,Nat.reduceAdd,Nat.reduceLT,Nat.reduceLeDiff];done)));done)|omega|decide) only [e1, e2, ha.len, hb.len, ↓wA,wB,wL,resOf,Nat.reduceBEq,Int.reduceBEq,Int.reduceBNe,Int.reduceLT,Int.reduceLE,Int.reduceAdd,Int.reduceSub,Int.reduceMul,Int.reduceToNat]
      refine ⟨_, rfl, ?_, by (repeat' (first|assumption|exact mAx _|refine mBx ?_ ?_|exact mCx (by assumption)|refine mDx ?_|refine mEx ?_ ?_ ?_|exact mFx|refine mGx ?_ ?_ ?_|exact mHx|exact mIx _|(simp only [wM,Nat.reduceAdd,Nat.reduceLT,Nat.reduceLeDiff];done)))⟩
      simp only [AV.bool.injEq, decide_eq_decide]
      exact (by omega : (xs.length : Int) < ys.length ↔ xs.length < ys.length).trans (lt_end2 e2q hall hj)
  · simp (disch := first|(simp only [Nat.reduceBEq,wE];done)|((repeat' (first|assumption|exact mAx _|refine mBx ?_ ?_|exact mCx (by assumption)|refine mDx ?_|refine mEx ?_ ?_ ?_|exact mFx|refine mGx ?_ ?_ ?_|exact mHx|exact mIx _|(simp only [wM,Nat.reduceAdd,Nat.reduceLT,Nat.reduceLeDiff];done)));done)|omega|decide) only [e1, ha.len, hb.len, ↓wA,wB,wL,resOf,Nat.reduceBEq,Int.reduceBEq,Int.reduceBNe,Int.reduceLT,Int.reduceLE,Int.reduceAdd,Int.reduceSub,Int.reduceMul,Int.reduceToNat]
    refine ⟨_, rfl, ?_, by (repeat' (first|assumption|exact mAx _|refine mBx ?_ ?_|exact mCx (by assumption)|refine mDx ?_|refine mEx ?_ ?_ ?_|exact mFx|refine mGx ?_ ?_ ?_|exact mHx|exact mIx _|(simp only [wM,Nat.reduceAdd,Nat.reduceLT,Nat.reduceLeDiff];done)))⟩
    simp only [AV.bool.injEq, decide_eq_decide]
    exact (by omega : (xs.length : Int) < ys.length ↔ xs.length < ys.length).trans (lt_end1 e1q hall hi)

theorem f10 (a b : AV) (xs ys : List Int) (h : Hp) (hk : Hok h) (ha : Ints h.blks .i64 a xs) (hb : Ints h.blks .i64 b ys) (hx : xs.length < 2 ^ 62) (hy : ys.length < 2 ^ 62) :
    Evals Tryd.prog tab false (.func 10) [a, b] h (.bool (decide (xs = ys)), h) := by
  refine evals_pure c10 rfl hk ?_
  simp only [sf10, initS_cons, initS_nil]
  have tri : xs = ys ↔ ¬ xs < ys ∧ ¬ ys < xs := ⟨fun e => by subst e; exact ⟨List.lt_irrefl _, List.lt_irrefl _⟩, fun ⟨h1, h2⟩ => List.le_antisymm (List.not_lt.1 h2) (List.not_lt.1 h1)⟩
  simp (disch := first|(simp only [Nat.reduceBEq,wE];done)|((repeat' (first|assumption|exact mAx _|refine mBx ?_ ?_|exact mCx (by assumption)|refine mDx ?_|refine mEx ?_ ?_ ?_|exact mFx|refine mGx ?_ ?_ ?_|exact mHx|exact mIx _|(simp only [wM,Nat.reduceAdd,Nat.reduceLT,Nat.reduceLeDiff];done)));done)|omega|decide) only [callT (f25 a b xs ys h.en hk ha hb hx hy), ↓wA,wB,wL,resOf,Nat.reduceBEq,Int.reduceBEq,Int.reduceBNe,Int.reduceLT,Int.reduceLE,Int.reduceAdd,Int.reduceSub,Int.reduceMul,Int.reduceToNat]
  refine ifThen_intro (fun e1 => ?_) (fun e1 => ?_) <;> have e1q := e1 <;> try simp [-List.getD_eq_getElem?_getD] at e1q
  · simp (disch := first|(simp only [Nat.reduceBEq,wE];done)|((repeat' (first|assumption|exact mAx _|refine mBx ?_ ?_|exact mCx (by assumption)|refine mDx ?_|refine mEx ?_ ?_ ?_|exact mFx|refine mGx ?_ ?_ ?_|exact mHx|exact mIx _|(simp only [wM,Nat.reduceAdd,Nat.reduceLT,Nat.reduceLeDiff];done)));done)|omega|decide) only [e1, callT (f25 b a ys xs h.en hk hb ha hy hx), ↓wA,wB,wL,resOf,Nat.reduceBEq,Int.reduceBEq,Int.reduceBNe,Int.reduceLT,Int.reduceLE,Int.reduceAdd,Int.reduceSub,Int.reduceMul,Int.reduceToNat]
    have e2 : ¬ xs < ys := by simpa using e1
    refine ⟨_, rfl, congrArg AV.bool ?_, by (repeat' (first|assumption|exact mAx _|refine mBx ?_ ?_|exact mCx (by assumption)|refine mDx ?_|refine mEx ?_ ?_ ?_|exact mFx|refine mGx ?_ ?_ ?_|exact mHx|exact mIx _|(simp only [wM,Nat.reduceAdd,Nat.reduceLT,Nat.reduceLeDiff];done)))⟩
    rw [Bool.eq_iff_iff]
    simp only [tri, Bool.not_eq_true', decide_eq_false_iff_not, decide_eq_true_eq]
    exact ⟨fun h => ⟨e2, h⟩, fun h => h.2⟩
  · simp (disch := first|(simp only [Nat.reduceBEq,wE];done)|((repeat' (first|assumption|exact mAx _|refine mBx ?_ ?_|exact mCx (by assumption)|refine mDx ?_|refine mEx ?_ ?_ ?_|exact mFx|refine mGx ?_ ?_ ?_|exact mHx|exact mIx _|(simp only [wM,Nat.reduceAdd,Nat.reduceLT,Nat.reduceLeDiff];done)));done)|omega|decide) only [e1, ↓wA,wB,wL,resOf,Nat.reduceBEq,Int.reduceBEq,Int.reduceBNe,Int.reduceLT,Int.reduceLE,Int.reduceAdd,Int.reduceSub,Int.reduceMul,Int.reduceToNat]
    refine ⟨_, rfl, ?_, by (repeat' (first|assumption|exact mAx _|refine mBx ?_ ?_|exact mCx (by assumption)|refine mDx ?_|refine mEx ?_ ?_ ?_|exact mFx|refine mGx ?_ ?_ ?_|exact mHx|exact mIx _|(simp only [wM,Nat.reduceAdd,Nat.reduceLT,Nat.reduceLeDiff];done)))⟩
    simp only [AV.bool.injEq, tri]
    simp [e1q]
theorem f53 (a : AV) (zs : List Int) (v : Int) (h : Hp) (hk : Hok h) (ha : Ints h.blks .i64 a zs) (hz : zs.length < 2 ^ 62) :
    Evals Tryd.prog tab false (.func 53) [a, .int .i64 v] h (.int .i64 (if v ∈ zs then (zs.idxOf v : Int) else -1), h) := by
  refine evals_pure c53 rfl hk ?_
  simp only [sf53, initS_cons, initS_nil]
  simp (disch := first|(simp only [Nat.reduceBEq,wE];done)|((repeat' (first|assumption|exact mAx _|refine mBx ?_ ?_|exact mCx (by assumption)|refine mDx ?_|refine mEx ?_ ?_ ?_|exact mFx|refine mGx ?_ ?_ ?_|exact mHx|exact mIx _|(simp only [wM,Nat.reduceAdd,Nat.reduceLT,Nat.reduceLeDiff];done)));done)|omega|decide) only [ha.len, ↓wA,wB,wL,resOf,Nat.reduceBEq,Int.reduceBEq,Int.reduceBNe,Int.reduceLT,Int.reduceLE,Int.reduceAdd,Int.reduceSub,Int.reduceMul,Int.reduceToNat]
  refine wloop (fun mm ss => ∃ (i : Nat) (u4 u5 u9 u16 : AV), (mm = zs.length - i) ∧ (i ≤ zs.length ∧ v ∉ zs.take i) ∧ ss = { fr := [(0, a), (1, .int .i64 v), (4, u4), (5, u5), (7, .int .i64 zs.length), (8, .int .i64 i), (9, u9), (16, u16)], hp := { next := h.next, blks := h.blks, loops := h.loops, base := h.next, esc := false } }) (zs.length) ?_ ?_
  ·
    refine ⟨0, _, _, _, _, by omega, ⟨by omega, by simp⟩, rfl⟩
  rintro nA sA ⟨i, u4, u5, u9, u16, hnA, ⟨hi, hn⟩, rfl⟩
  simp (disch := first|(simp only [Nat.reduceBEq,wE];done)|((repeat' (first|assumption|exact mAx _|refine mBx ?_ ?_|exact mCx (by assumption)|refine mDx ?_|refine mEx ?_ ?_ ?_|exact mFx|refine mGx ?_ ?_ ?_|exact mHx|exact mIx _|(simp only [wM,Nat.reduceAdd,Nat.reduceLT,Nat.reduceLeDiff];done)));done)|omega|decide) only [↓wA,wB,wL,resOf,Nat.reduceBEq,Int.reduceBEq,Int.reduceBNe,Int.reduceLT,Int.reduceLE,Int.reduceAdd,Int.reduceSub,Int.reduceMul,Int.reduceToNat]
  refine ifThen_intro (fun e => ?_) (fun e => ?_) <;> have eq := e <;> try simp [-List.getD_eq_getElem?_getD] at eq
  · simp (disch := first|(simp only [Nat.reduceBEq,wE];done)|((repeat' (first|assumption|exact mAx _|refine mBx ?_ ?_|exact mCx (by assumption)|refine mDx ?_|refine mEx ?_ ?_ ?_|exact mFx|refine mGx ?_ ?_ ?_|exact mHx|exact mIx _|(simp only [wM,Nat.reduceAdd,Nat.reduceLT,Nat.reduceLeDiff];done)));done)|omega|decide) only [e, e, ha.ix, ha.ld, ↓wA,wB,wL,resOf,Nat.reduceBEq,Int.reduceBEq,Int.reduceBNe,Int.reduceLT,Int.reduceLE,Int.reduceAdd,Int.reduceSub,Int.reduceMul,Int.reduceToNat]
    refine ifThen_intro (fun e2 => ?_) (fun e2 => ?_) <;> have e2q := e2 <;> try simp [-List.getD_eq_getElem?_getD] at e2q
    · simp (disch := first|(simp only [Nat.reduceBEq,wE];done)|((repeat' (first|assumption|exact mAx _|refine mBx ?_ ?_|exact mCx (by assumption)|refine mDx ?_|refine mEx ?_ ?_ ?_|exact mFx|refine mGx ?_ ?_ ?_|exact mHx|exact mIx _|(simp only [wM,Nat.reduceAdd,Nat.reduceLT,Nat.reduceLeDiff];done)));done)|omega|decide) only [e, e2, e2, ↓wA,wB,wL,resOf,Nat.reduceBEq,Int.reduceBEq,Int.reduceBNe,Int.reduceLT,Int.reduceLE,Int.reduceAdd,Int.reduceSub,Int.reduceMul,Int.reduceToNat]
      refine ⟨_, rfl, ?_, by (repeat' (first|assumption|exact mAx _|refine mBx ?_ ?_|exact mCx (by assumption)|refine mDx ?_|refine mEx ?_ ?_ ?_|exact mFx|refine mGx ?_ ?_ ?_|exact mHx|exact mIx _|(simp only [wM,Nat.reduceAdd,Nat.reduceLT,Nat.reduceLeDiff];done)))⟩
      have hm : v ∈ zs := by rw [e2q]; simp [List.getD_eq_getElem?_getD, List.getElem?_eq_getElem eq]
      rw [if_pos hm]
      have : zs.idxOf v = i := by
        rw [← List.take_append_drop i zs, List.idxOf_append, if_neg hn, List.drop_eq_getElem_cons eq]
        have : zs[i] = v := by rw [e2q]; simp [List.getD_eq_getElem?_getD, List.getElem?_eq_getElem eq]
        rw [this, List.idxOf_cons_self]
        simp; omega
      rw [this]
    · simp (disch := first|(simp only [Nat.reduceBEq,wE];done)|((repeat' (first|assumption|exact mAx _|refine mBx ?_ ?_|exact mCx (by assumption)|refine mDx ?_|refine mEx ?_ ?_ ?_|exact mFx|refine mGx ?_ ?_ ?_|exact mHx|exact mIx _|(simp only [wM,Nat.reduceAdd,Nat.reduceLT,Nat.reduceLeDiff];done)));done)|omega|decide) only [e, e2, e2, ↓wA,wB,wL,resOf,Nat.reduceBEq,Int.reduceBEq,Int.reduceBNe,Int.reduceLT,Int.reduceLE,Int.reduceAdd,Int.reduceSub,Int.reduceMul,Int.reduceToNat]
      refine ⟨_, ?_, i + 1, _, _, _, _, rfl, ?_, rfl⟩
      · omega
      refine ⟨by omega, fun hm => ?_⟩
      rw [List.take_succ_eq_append_getElem eq, List.mem_append, List.mem_singleton] at hm
      rcases hm with hm | hm
      · exact hn hm
      · exact e2q (by rw [hm]; simp [List.getD_eq_getElem?_getD, List.getElem?_eq_getElem eq])
  · simp (disch := first|(simp only [Nat.reduceBEq,wE];done)|((repeat' (first|assumption|exact mAx _|refine mBx ?_ ?_|exact mCx (by assumption)|refine mDx ?_|refine mEx ?_ ?_ ?_|exact mFx|refine mGx ?_ ?_ ?_|exact mHx|exact mIx _|(simp only [wM,Nat.reduceAdd,Nat.reduceLT,Nat.reduceLeDiff];done)));done)|omega|decide) only [e, e, ↓wA,wB,wL,resOf,Nat.reduceBEq,Int.reduceBEq,Int.reduceBNe,Int.reduceLT,Int.reduceLE,Int.reduceAdd,Int.reduceSub,Int.reduceMul,Int.reduceToNat]
    refine ⟨_, rfl, ?_, by (repeat' (first|assumption|exact mAx _|refine mBx ?_ ?_|exact mCx (by assumption)|refine mDx ?_|refine mEx ?_ ?_ ?_|exact mFx|refine mGx ?_ ?_ ?_|exact mHx|exact mIx _|(simp only [wM,Nat.reduceAdd,Nat.reduceLT,Nat.reduceLeDiff];done)))⟩
    rw [List.take_of_length_le (by omega)] at hn
    rw [if_neg hn]

theorem f47 (a : AV) (zs : List Int) (v : Int) (h : Hp) (hk : Hok h) (ha : Ints h.blks .i64 a zs) (hz : zs.length < 2 ^ 62) :
    Evals Tryd.prog tab false (.func 47) [a, .int .i64 v] h (.bool (decide (v ∈ zs)), h) := by
  refine evals_pure c47 rfl hk ?_
  simp only [sf47, initS_cons, initS_nil]
  simp (disch := first|(simp only [Nat.reduceBEq,wE];done)|((repeat' (first|assumption|exact mAx _|refine mBx ?_ ?_|exact mCx (by assumption)|refine mDx ?_|refine mEx ?_ ?_ ?_|exact mFx|refine mGx ?_ ?_ ?_|exact mHx|exact mIx _|(simp only [wM,Nat.reduceAdd,Nat.reduceLT,Nat.reduceLeDiff];done)));done)|omega|decide) only [callT (f53 a zs v { next := h.next, blks := h.blks, loops := h.loops, base := h.next, esc := false } hk ha hz), ↓wA,wB,wL,resOf,Nat.reduceBEq,Int.reduceBEq,Int.reduceBNe,Int.reduceLT,Int.reduceLE,Int.reduceAdd,Int.reduceSub,Int.reduceMul,Int.reduceToNat]
  refine ⟨_, rfl, ?_, by (repeat' (first|assumption|exact mAx _|refine mBx ?_ ?_|exact mCx (by assumption)|refine mDx ?_|refine mEx ?_ ?_ ?_|exact mFx|refine mGx ?_ ?_ ?_|exact mHx|exact mIx _|(simp only [wM,Nat.reduceAdd,Nat.reduceLT,Nat.reduceLeDiff];done)))⟩
  by_cases hm : v ∈ zs
  · simp [hm]
  · simp [hm]

end Go.Proofs.YtpfkmdbdafpadaaDoor
