/- Small functions of norm. Quaternions in norm: products, differences, conjugates, norms. Comparisons, rounding. The nearest quaternions, products of several. Products of none and of two, division. -/
import Derived.Test.YthalpbiifpfagaaSN
import Derived.Test.YthalpbiifpfagaaSW
import Derived.Test.YthalpbiifpfagaaNA
set_option linter.unusedSimpArgs false
set_option linter.unusedVariables false
set_option maxHeartbeats 1000000

namespace Go.Proofs.Ythalpbiifpfagaa

open Go Go.Abs Go.Nm

theorem f23 (x : Qt) (h : Hp) (hk : Hok h) : Evals Try.prog tab false (.func 23) [(AV.ag [.int .i64 x.a, .int .i64 x.b, .int .i64 x.c, .int .i64 x.d])] h ((AV.ag [.int .i64 x.a, .int .i64 x.b, .int .i64 x.c, .int .i64 x.d]), h) := by
  refine evals_pure c23 rfl hk ?_
  simp only [sf23, initS_cons, initS_nil]
  simp (disch := first|(simp only [Nat.reduceBEq,wE];done)|((repeat' (first|assumption|exact mAx _|refine mBx ?_ ?_|exact mCx (by assumption)|refine mDx ?_|refine mEx ?_ ?_ ?_|exact mFx|refine mGx ?_ ?_ ?_|exact mHx|exact mIx _|(simp only [wM,Nat.reduceAdd,Nat.reduceLT,Nat.reduceLeDiff];done)));done)|omega|decide) only [↓wA,wB,wL,resOf,Nat.reduceBEq,Int.reduceBEq,Int.reduceBNe,Int.reduceLT,Int.reduceLE,Int.reduceAdd,Int.reduceSub,Int.reduceMul,Int.reduceToNat]
  exact ⟨_, rfl, rfl, by (repeat' (first|assumption|exact mAx _|refine mBx ?_ ?_|exact mCx (by assumption)|refine mDx ?_|refine mEx ?_ ?_ ?_|exact mFx|refine mGx ?_ ?_ ?_|exact mHx|exact mIx _|(simp only [wM,Nat.reduceAdd,Nat.reduceLT,Nat.reduceLeDiff];done)))⟩

theorem f24 (x : Qt) (h : Hp) (hk : Hok h) : Evals Try.prog tab false (.func 24) [(AV.ag [.int .i64 x.a, .int .i64 x.b, .int .i64 x.c, .int .i64 x.d])] h ((AV.ag [.int .i64 x.a, .int .i64 x.b, .int .i64 x.c, .int .i64 x.d]), h) := by
  refine evals_pure c24 rfl hk ?_
  simp only [sf24, initS_cons, initS_nil]
  simp (disch := first|(simp only [Nat.reduceBEq,wE];done)|((repeat' (first|assumption|exact mAx _|refine mBx ?_ ?_|exact mCx (by assumption)|refine mDx ?_|refine mEx ?_ ?_ ?_|exact mFx|refine mGx ?_ ?_ ?_|exact mHx|exact mIx _|(simp only [wM,Nat.reduceAdd,Nat.reduceLT,Nat.reduceLeDiff];done)));done)|omega|decide) only [↓wA,wB,wL,resOf,Nat.reduceBEq,Int.reduceBEq,Int.reduceBNe,Int.reduceLT,Int.reduceLE,Int.reduceAdd,Int.reduceSub,Int.reduceMul,Int.reduceToNat]
  exact ⟨_, rfl, rfl, by (repeat' (first|assumption|exact mAx _|refine mBx ?_ ?_|exact mCx (by assumption)|refine mDx ?_|refine mEx ?_ ?_ ?_|exact mFx|refine mGx ?_ ?_ ?_|exact mHx|exact mIx _|(simp only [wM,Nat.reduceAdd,Nat.reduceLT,Nat.reduceLeDiff];done)))⟩

theorem f10 (x l u : Int) (h : Hp) (hk : Hok h) : Evals Try.prog tab false (.func 10) [.int .i64 x, .int .i64 l, .int .i64 u] h (.bool (decide (l ≤ x ∧ x ≤ u)), h) := by
  refine evals_pure c10 rfl hk ?_
  simp only [sf10, initS_cons, initS_nil]
  simp (disch := first|(simp only [Nat.reduceBEq,wE];done)|((repeat' (first|assumption|exact mAx _|refine mBx ?_ ?_|exact mCx (by assumption)|refine mDx ?_|refine mEx ?_ ?_ ?_|exact mFx|refine mGx ?_ ?_ ?_|exact mHx|exact mIx _|(simp only [wM,Nat.reduceAdd,Nat.reduceLT,Nat.reduceLeDiff];done)));done)|omega|decide) only [↓wA,wB,wL,resOf,Nat.reduceBEq,Int.reduceBEq,Int.reduceBNe,Int.reduceLT,Int.reduceLE,Int.reduceAdd,Int.reduceSub,Int.reduceMul,Int.reduceToNat]
  refine ifThen_intro (fun e => ?_) (fun e => ?_) <;> have eq := e <;> try simp [-List.getD_eq_getElem?_getD] at eq <;> simp (disch := first|(simp only [Nat.reduceBEq,wE];done)|((repeat' (first|assumption|exact mAx _|refine mBx ?_ ?_|exact mCx (by assumption)|refine mDx ?_|refine mEx ?_ ?_ ?_|exact mFx|refine mGx ?_ ?_ ?_|exact mHx|exact mIx _|(simp only [wM,Nat.reduceAdd,Nat.reduceLT,Nat.reduceLeDiff];done)));done)|omega|decide) only [e, ↓wA,wB,wL,resOf,Nat.reduceBEq,Int.reduceBEq,Int.reduceBNe,Int.reduceLT,Int.reduceLE,Int.reduceAdd,Int.reduceSub,Int.reduceMul,Int.reduceToNat] <;> refine ⟨_, rfl, ?_, by (repeat' (first|assumption|exact mAx _|refine mBx ?_ ?_|exact mCx (by assumption)|refine mDx ?_|refine mEx ?_ ?_ ?_|exact mFx|refine mGx ?_ ?_ ?_|exact mHx|exact mIx _|(simp only [wM,Nat.reduceAdd,Nat.reduceLT,Nat.reduceLeDiff];done)))⟩ <;> simp <;> omega

end Go.Proofs.Ythalpbiifpfagaa


set_option linter.unusedSimpArgs false
set_option linter.unusedVariables false
set_option maxHeartbeats 1000000

namespace Go.Proofs.Ythalpbiifpfagaa

open Go Go.Abs Go.Nm

set_option maxRecDepth 100000 in
set_option maxHeartbeats 4000000 in
theorem f34 (x y : Qt) (h : Hp) (hk : Hok h) (hx : x.bd 16777216) (hy : y.bd 16777216) (ix : x.int) (iy : y.int) :
    Evals Try.prog tab false (.func 34) [(AV.ag [.int .i64 x.a, .int .i64 x.b, .int .i64 x.c, .int .i64 x.d]), (AV.ag [.int .i64 y.a, .int .i64 y.b, .int .i64 y.c, .int .i64 y.d])] h ((AV.ag [.int .i64 ((x.mul y)).a, .int .i64 ((x.mul y)).b, .int .i64 ((x.mul y)).c, .int .i64 ((x.mul y)).d]), h) := by
  refine evals_pure c34 rfl hk ?_
  simp only [sf34, initS_cons, initS_nil]
  obtain ⟨x1, x2, x3, x4⟩ := hx
  obtain ⟨y1, y2, y3, y4⟩ := hy
  have b11 := mul_bd 16777216 16777216 x1 y1
  have b12 := mul_bd 16777216 16777216 x1 y2
  have b13 := mul_bd 16777216 16777216 x1 y3
  have b14 := mul_bd 16777216 16777216 x1 y4
  have b21 := mul_bd 16777216 16777216 x2 y1
  have b22 := mul_bd 16777216 16777216 x2 y2
  have b23 := mul_bd 16777216 16777216 x2 y3
  have b24 := mul_bd 16777216 16777216 x2 y4
  have b31 := mul_bd 16777216 16777216 x3 y1
  have b32 := mul_bd 16777216 16777216 x3 y2
  have b33 := mul_bd 16777216 16777216 x3 y3
  have b34 := mul_bd 16777216 16777216 x3 y4
  have b41 := mul_bd 16777216 16777216 x4 y1
  have b42 := mul_bd 16777216 16777216 x4 y2
  have b43 := mul_bd 16777216 16777216 x4 y3
  have b44 := mul_bd 16777216 16777216 x4 y4
  obtain ⟨e1, e2, e3, e4, _⟩ := Qt.mul_int ix iy
  simp only [Qt.sa, Qt.sb, Qt.sc, Qt.sd] at e1 e2 e3 e4
  simp (disch := first|(simp only [Nat.reduceBEq,wE];done)|((repeat' (first|assumption|exact mAx _|refine mBx ?_ ?_|exact mCx (by assumption)|refine mDx ?_|refine mEx ?_ ?_ ?_|exact mFx|refine mGx ?_ ?_ ?_|exact mHx|exact mIx _|(simp only [wM,Nat.reduceAdd,Nat.reduceLT,Nat.reduceLeDiff];done)));done)|omega|decide) only [sBin_quoL, ↓wA,wB,wL,resOf,Nat.reduceBEq,Int.reduceBEq,Int.reduceBNe,Int.reduceLT,Int.reduceLE,Int.reduceAdd,Int.reduceSub,Int.reduceMul,Int.reduceToNat]
  refine ⟨_, rfl, ?_, by (repeat' (first|assumption|exact mAx _|refine mBx ?_ ?_|exact mCx (by assumption)|refine mDx ?_|refine mEx ?_ ?_ ?_|exact mFx|refine mGx ?_ ?_ ?_|exact mHx|exact mIx _|(simp only [wM,Nat.reduceAdd,Nat.reduceLT,Nat.reduceLeDiff];done)))⟩
  simp only [Qt.mul, Qt.sa, Qt.sb, Qt.sc, Qt.sd]
  rw [tdiv_even e1, tdiv_even e2, tdiv_even e3, tdiv_even e4]

theorem f41 (x y : Qt) (h : Hp) (hk : Hok h) (hx : x.bd 1000000000000) (hy : y.bd 1000000000000) :
    Evals Try.prog tab false (.func 41) [(AV.ag [.int .i64 x.a, .int .i64 x.b, .int .i64 x.c, .int .i64 x.d]), (AV.ag [.int .i64 y.a, .int .i64 y.b, .int .i64 y.c, .int .i64 y.d])] h (.ag [.int .i64 (x.a - y.a), .int .i64 (x.b - y.b), .int .i64 (x.c - y.c), .int .i64 (x.d - y.d)], h) := by
  refine evals_pure c41 rfl hk ?_
  simp only [sf41, initS_cons, initS_nil]
  obtain ⟨x1, x2, x3, x4⟩ := hx
  obtain ⟨y1, y2, y3, y4⟩ := hy
  simp (disch := first|(simp only [Nat.reduceBEq,wE];done)|((repeat' (first|assumption|exact mAx _|refine mBx ?_ ?_|exact mCx (by assumption)|refine mDx ?_|refine mEx ?_ ?_ ?_|exact mFx|refine mGx ?_ ?_ ?_|exact mHx|exact mIx _|(simp only [wM,Nat.reduceAdd,Nat.reduceLT,Nat.reduceLeDiff];done)));done)|omega|decide) only [↓wA,wB,wL,resOf,Nat.reduceBEq,Int.reduceBEq,Int.reduceBNe,Int.reduceLT,Int.reduceLE,Int.reduceAdd,Int.reduceSub,Int.reduceMul,Int.reduceToNat]
  exact ⟨_, rfl, rfl, by (repeat' (first|assumption|exact mAx _|refine mBx ?_ ?_|exact mCx (by assumption)|refine mDx ?_|refine mEx ?_ ?_ ?_|exact mFx|refine mGx ?_ ?_ ?_|exact mHx|exact mIx _|(simp only [wM,Nat.reduceAdd,Nat.reduceLT,Nat.reduceLeDiff];done)))⟩

theorem f39 (x : Qt) (h : Hp) (hk : Hok h) (hx : x.bd 1000000000000) :
    Evals Try.prog tab false (.func 39) [(AV.ag [.int .i64 x.a, .int .i64 x.b, .int .i64 x.c, .int .i64 x.d])] h ((AV.ag [.int .i64 x.conj.a, .int .i64 x.conj.b, .int .i64 x.conj.c, .int .i64 x.conj.d]), h) := by
  refine evals_pure c39 rfl hk ?_
  simp only [sf39, initS_cons, initS_nil]
  obtain ⟨x1, x2, x3, x4⟩ := hx
  simp (disch := first|(simp only [Nat.reduceBEq,wE];done)|((repeat' (first|assumption|exact mAx _|refine mBx ?_ ?_|exact mCx (by assumption)|refine mDx ?_|refine mEx ?_ ?_ ?_|exact mFx|refine mGx ?_ ?_ ?_|exact mHx|exact mIx _|(simp only [wM,Nat.reduceAdd,Nat.reduceLT,Nat.reduceLeDiff];done)));done)|omega|decide) only [↓wA,wB,wL,resOf,Nat.reduceBEq,Int.reduceBEq,Int.reduceBNe,Int.reduceLT,Int.reduceLE,Int.reduceAdd,Int.reduceSub,Int.reduceMul,Int.reduceToNat]
  exact ⟨_, rfl, by simp [Qt.conj], by (repeat' (first|assumption|exact mAx _|refine mBx ?_ ?_|exact mCx (by assumption)|refine mDx ?_|refine mEx ?_ ?_ ?_|exact mFx|refine mGx ?_ ?_ ?_|exact mHx|exact mIx _|(simp only [wM,Nat.reduceAdd,Nat.reduceLT,Nat.reduceLeDiff];done)))⟩

theorem sq_nonneg' (a : Int) : 0 ≤ a * a := by
  rcases Int.le_total 0 a with h | h
  · exact Int.mul_nonneg h h
  · have := Int.mul_nonneg (show 0 ≤ -a by omega) (show 0 ≤ -a by omega)
    rwa [Int.neg_mul_neg] at this

theorem f25 (x : Qt) (h : Hp) (hk : Hok h) (hx : x.bd 16777216) :
    Evals Try.prog tab false (.func 25) [(AV.ag [.int .i64 x.a, .int .i64 x.b, .int .i64 x.c, .int .i64 x.d])] h (.int .i64 x.nrm, h) := by
  refine evals_pure c25 rfl hk ?_
  simp only [sf25, initS_cons, initS_nil]
  obtain ⟨x1, x2, x3, x4⟩ := hx
  have b1 := mul_bd 16777216 16777216 x1 x1
  have b2 := mul_bd 16777216 16777216 x2 x2
  have b3 := mul_bd 16777216 16777216 x3 x3
  have b4 := mul_bd 16777216 16777216 x4 x4
  have n1 := sq_nonneg' x.a
  have n2 := sq_nonneg' x.b
  have n3 := sq_nonneg' x.c
  have n4 := sq_nonneg' x.d
  simp (disch := first|(simp only [Nat.reduceBEq,wE];done)|((repeat' (first|assumption|exact mAx _|refine mBx ?_ ?_|exact mCx (by assumption)|refine mDx ?_|refine mEx ?_ ?_ ?_|exact mFx|refine mGx ?_ ?_ ?_|exact mHx|exact mIx _|(simp only [wM,Nat.reduceAdd,Nat.reduceLT,Nat.reduceLeDiff];done)));done)|omega|decide) only [sBin_quo, ↓wA,wB,wL,resOf,Nat.reduceBEq,Int.reduceBEq,Int.reduceBNe,Int.reduceLT,Int.reduceLE,Int.reduceAdd,Int.reduceSub,Int.reduceMul,Int.reduceToNat]
  exact ⟨_, rfl, by simp [Qt.nrm, Qt.sq], by (repeat' (first|assumption|exact mAx _|refine mBx ?_ ?_|exact mCx (by assumption)|refine mDx ?_|refine mEx ?_ ?_ ?_|exact mFx|refine mGx ?_ ?_ ?_|exact mHx|exact mIx _|(simp only [wM,Nat.reduceAdd,Nat.reduceLT,Nat.reduceLeDiff];done)))⟩

theorem f33 (x : Qt) (h : Hp) (hk : Hok h) : Evals Try.prog tab false (.func 33) [(AV.ag [.int .i64 x.a, .int .i64 x.b, .int .i64 x.c, .int .i64 x.d])] h (.bool (decide x.int), h) := by
  refine evals_pure c33 rfl hk ?_
  simp only [sf33, initS_cons, initS_nil]
  simp (disch := first|(simp only [Nat.reduceBEq,wE];done)|((repeat' (first|assumption|exact mAx _|refine mBx ?_ ?_|exact mCx (by assumption)|refine mDx ?_|refine mEx ?_ ?_ ?_|exact mFx|refine mGx ?_ ?_ ?_|exact mHx|exact mIx _|(simp only [wM,Nat.reduceAdd,Nat.reduceLT,Nat.reduceLeDiff];done)));done)|omega|decide) only [↓wA,wB,wL,resOf,Nat.reduceBEq,Int.reduceBEq,Int.reduceBNe,Int.reduceLT,Int.reduceLE,Int.reduceAdd,Int.reduceSub,Int.reduceMul,Int.reduceToNat]
  refine wloop (fun mm ss => ∃ (i : Nat) (u4 u7 u14 : AV), (mm = 4 - i) ∧ (i ≤ 4 ∧ (∀ j, j < i → x.at j % 2 = x.a % 2)) ∧ ss = { fr := [(0, (AV.ag [.int .i64 x.a, .int .i64 x.b, .int .i64 x.c, .int .i64 x.d])), (1, .ptr h.next 0), (2, .bool false), (4, u4), (5, (AV.ag [.int .i64 x.a, .int .i64 x.b, .int .i64 x.c, .int .i64 x.d])), (6, .int .i64 i), (7, u7), (14, u14)], hp := { next := h.next + 1, blks := (h.next, { cells := [.int .i64 x.a, .int .i64 x.b, .int .i64 x.c, .int .i64 x.d], ch := h.next, wr := true }) :: h.blks, loops := h.loops, base := h.next, esc := false } }) (4) ?_ ?_
  ·
    refine ⟨0, _, _, _, by omega, ⟨by omega, fun j hj => by omega⟩, rfl⟩
  rintro nA sA ⟨i, u4, u7, u14, hnA, ⟨hi, hv⟩, rfl⟩
  by_cases e : i = 4
  · subst e
    simp (disch := first|(simp only [Nat.reduceBEq,wE];done)|((repeat' (first|assumption|exact mAx _|refine mBx ?_ ?_|exact mCx (by assumption)|refine mDx ?_|refine mEx ?_ ?_ ?_|exact mFx|refine mGx ?_ ?_ ?_|exact mHx|exact mIx _|(simp only [wM,Nat.reduceAdd,Nat.reduceLT,Nat.reduceLeDiff];done)));done)|omega|decide) only [↓wA,wB,wL,resOf,Nat.reduceBEq,Int.reduceBEq,Int.reduceBNe,Int.reduceLT,Int.reduceLE,Int.reduceAdd,Int.reduceSub,Int.reduceMul,Int.reduceToNat]
    refine ⟨_, rfl, ?_, by (repeat' (first|assumption|exact mAx _|refine mBx ?_ ?_|exact mCx (by assumption)|refine mDx ?_|refine mEx ?_ ?_ ?_|exact mFx|refine mGx ?_ ?_ ?_|exact mHx|exact mIx _|(simp only [wM,Nat.reduceAdd,Nat.reduceLT,Nat.reduceLeDiff];done)))⟩
    have h1 := hv 1 (by omega)
    have h2 := hv 2 (by omega)
    have h3 := hv 3 (by omega)
    simp only [Qt.at] at h1 h2 h3
    simp [Qt.int, h1, h2, h3]
  · have hw : ∀ r : Int, x.at i = r → r % 2 = x.a % 2 → (∀ j, j < i + 1 → x.at j % 2 = x.a % 2) := fun r hr hq j hj => by
      rcases (by omega : j < i ∨ j = i) with hj | rfl
      · exact hv j hj
      · rw [hr]; exact hq
    rcases (by omega : i = 0 ∨ i = 1 ∨ i = 2 ∨ i = 3) with rfl | rfl | rfl | rfl
    · simp (disch := first|(simp only [Nat.reduceBEq,wE];done)|((repeat' (first|assumption|exact mAx _|refine mBx ?_ ?_|exact mCx (by assumption)|refine mDx ?_|refine mEx ?_ ?_ ?_|exact mFx|refine mGx ?_ ?_ ?_|exact mHx|exact mIx _|(simp only [wM,Nat.reduceAdd,Nat.reduceLT,Nat.reduceLeDiff];done)));done)|omega|decide) only [↓wA,wB,wL,resOf,Nat.reduceBEq,Int.reduceBEq,Int.reduceBNe,Int.reduceLT,Int.reduceLE,Int.reduceAdd,Int.reduceSub,Int.reduceMul,Int.reduceToNat]
      · refine ⟨_, ?_, 1, _, _, _, rfl, ?_, rfl⟩
        · omega
        refine ⟨by omega, hw _ rfl rfl⟩
    · simp (disch := first|(simp only [Nat.reduceBEq,wE];done)|((repeat' (first|assumption|exact mAx _|refine mBx ?_ ?_|exact mCx (by assumption)|refine mDx ?_|refine mEx ?_ ?_ ?_|exact mFx|refine mGx ?_ ?_ ?_|exact mHx|exact mIx _|(simp only [wM,Nat.reduceAdd,Nat.reduceLT,Nat.reduceLeDiff];done)));done)|omega|decide) only [↓wA,wB,wL,resOf,Nat.reduceBEq,Int.reduceBEq,Int.reduceBNe,Int.reduceLT,Int.reduceLE,Int.reduceAdd,Int.reduceSub,Int.reduceMul,Int.reduceToNat]
      refine ifThen_intro (fun e2 => ?_) (fun e2 => ?_) <;> have e2q := e2 <;> try simp [-List.getD_eq_getElem?_getD] at e2q
      · simp (disch := first|(simp only [Nat.reduceBEq,wE];done)|((repeat' (first|assumption|exact mAx _|refine mBx ?_ ?_|exact mCx (by assumption)|refine mDx ?_|refine mEx ?_ ?_ ?_|exact mFx|refine mGx ?_ ?_ ?_|exact mHx|exact mIx _|(simp only [wM,Nat.reduceAdd,Nat.reduceLT,Nat.reduceLeDiff];done)));done)|omega|decide) only [e2, e2, ↓wA,wB,wL,resOf,Nat.reduceBEq,Int.reduceBEq,Int.reduceBNe,Int.reduceLT,Int.reduceLE,Int.reduceAdd,Int.reduceSub,Int.reduceMul,Int.reduceToNat]
        refine ⟨_, rfl, ?_, by (repeat' (first|assumption|exact mAx _|refine mBx ?_ ?_|exact mCx (by assumption)|refine mDx ?_|refine mEx ?_ ?_ ?_|exact mFx|refine mGx ?_ ?_ ?_|exact mHx|exact mIx _|(simp only [wM,Nat.reduceAdd,Nat.reduceLT,Nat.reduceLeDiff];done)))⟩
        simp at e2
        rw [decide_eq_false (fun hh => by have h1 := hh.1; have h2 := hh.2.1; have h3 := hh.2.2; omega)]
      · simp (disch := first|(simp only [Nat.reduceBEq,wE];done)|((repeat' (first|assumption|exact mAx _|refine mBx ?_ ?_|exact mCx (by assumption)|refine mDx ?_|refine mEx ?_ ?_ ?_|exact mFx|refine mGx ?_ ?_ ?_|exact mHx|exact mIx _|(simp only [wM,Nat.reduceAdd,Nat.reduceLT,Nat.reduceLeDiff];done)));done)|omega|decide) only [e2, e2, ↓wA,wB,wL,resOf,Nat.reduceBEq,Int.reduceBEq,Int.reduceBNe,Int.reduceLT,Int.reduceLE,Int.reduceAdd,Int.reduceSub,Int.reduceMul,Int.reduceToNat]
        simp at e2
        refine ⟨_, ?_, 2, _, _, _, rfl, ?_, rfl⟩
        · omega
        refine ⟨by omega, hw _ rfl e2⟩
    · simp (disch := first|(simp only [Nat.reduceBEq,wE];done)|((repeat' (first|assumption|exact mAx _|refine mBx ?_ ?_|exact mCx (by assumption)|refine mDx ?_|refine mEx ?_ ?_ ?_|exact mFx|refine mGx ?_ ?_ ?_|exact mHx|exact mIx _|(simp only [wM,Nat.reduceAdd,Nat.reduceLT,Nat.reduceLeDiff];done)));done)|omega|decide) only [↓wA,wB,wL,resOf,Nat.reduceBEq,Int.reduceBEq,Int.reduceBNe,Int.reduceLT,Int.reduceLE,Int.reduceAdd,Int.reduceSub,Int.reduceMul,Int.reduceToNat]
      refine ifThen_intro (fun e2 => ?_) (fun e2 => ?_) <;> have e2q := e2 <;> try simp [-List.getD_eq_getElem?_getD] at e2q
      · simp (disch := first|(simp only [Nat.reduceBEq,wE];done)|((repeat' (first|assumption|exact mAx _|refine mBx ?_ ?_|exact mCx (by assumption)|refine mDx ?_|refine mEx ?_ ?_ ?_|exact mFx|refine mGx ?_ ?_ ?_|exact mHx|exact mIx _|(simp only [wM,Nat.reduceAdd,Nat.reduceLT,Nat.reduceLeDiff];done)));done)|omega|decide) only [e2, e2, ↓wA,wB,wL,resOf,Nat.reduceBEq,Int.reduceBEq,Int.reduceBNe,Int.reduceLT,Int.reduceLE,Int.reduceAdd,Int.reduceSub,Int.reduceMul,Int.reduceToNat]
        refine ⟨_, rfl, ?_, by (repeat' (first|assumption|exact mAx _|refine mBx ?_ ?_|exact mCx (by assumption)|refine mDx ?_|refine mEx ?_ ?_ ?_|exact mFx|refine mGx ?_ ?_ ?_|exact mHx|exact mIx _|(simp only [wM,Nat.reduceAdd,Nat.reduceLT,Nat.reduceLeDiff];done)))⟩
        simp at e2
        rw [decide_eq_false (fun hh => by have h1 := hh.1; have h2 := hh.2.1; have h3 := hh.2.2; omega)]
      · simp (disch := first|(simp only [Nat.reduceBEq,wE];done)|((repeat' (first|assumption|exact mAx _|refine mBx ?_ ?_|exact mCx (by assumption)|refine mDx ?_|refine mEx ?_ ?_ ?_|exact mFx|refine mGx ?_ ?_ ?_|exact mHx|exact mIx _|(simp only [wM,Nat.reduceAdd,Nat.reduceLT,Nat.reduceLeDiff];done)));done)|omega|decide) only [e2, e2, ↓wA,wB,wL,resOf,Nat.reduceBEq,Int.reduceBEq,Int.reduceBNe,Int.reduceLT,Int.reduceLE,Int.reduceAdd,Int.reduceSub,Int.reduceMul,Int.reduceToNat]
        simp at e2
        refine ⟨_, ?_, 3, _, _, _, rfl, ?_, rfl⟩
        · omega
        refine ⟨by omega, hw _ rfl e2⟩
    · simp (disch := first|(simp only [Nat.reduceBEq,wE];done)|((repeat' (first|assumption|exact mAx _|refine mBx ?_ ?_|exact mCx (by assumption)|refine mDx ?_|refine mEx ?_ ?_ ?_|exact mFx|refine mGx ?_ ?_ ?_|exact mHx|exact mIx _|(simp only [wM,Nat.reduceAdd,Nat.reduceLT,Nat.reduceLeDiff];done)));done)|omega|decide) only [↓wA,wB,wL,resOf,Nat.reduceBEq,Int.reduceBEq,Int.reduceBNe,Int.reduceLT,Int.reduceLE,Int.reduceAdd,Int.reduceSub,Int.reduceMul,Int.reduceToNat]
      refine ifThen_intro (fun e2 => ?_) (fun e2 => ?_) <;> have e2q := e2 <;> try simp [-List.getD_eq_getElem?_getD] at e2q
      · simp (disch := first|(simp only [Nat.reduceBEq,wE];done)|((repeat' (first|assumption|exact mAx _|refine mBx ?_ ?_|exact mCx (by assumption)|refine mDx ?_|refine mEx ?_ ?_ ?_|exact mFx|refine mGx ?_ ?_ ?_|exact mHx|exact mIx _|(simp only [wM,Nat.reduceAdd,Nat.reduceLT,Nat.reduceLeDiff];done)));done)|omega|decide) only [e2, e2, ↓wA,wB,wL,resOf,Nat.reduceBEq,Int.reduceBEq,Int.reduceBNe,Int.reduceLT,Int.reduceLE,Int.reduceAdd,Int.reduceSub,Int.reduceMul,Int.reduceToNat]
        refine ⟨_, rfl, ?_, by (repeat' (first|assumption|exact mAx _|refine mBx ?_ ?_|exact mCx (by assumption)|refine mDx ?_|refine mEx ?_ ?_ ?_|exact mFx|refine mGx ?_ ?_ ?_|exact mHx|exact mIx _|(simp only [wM,Nat.reduceAdd,Nat.reduceLT,Nat.reduceLeDiff];done)))⟩
        simp at e2
        rw [decide_eq_false (fun hh => by have h1 := hh.1; have h2 := hh.2.1; have h3 := hh.2.2; omega)]
      · simp (disch := first|(simp only [Nat.reduceBEq,wE];done)|((repeat' (first|assumption|exact mAx _|refine mBx ?_ ?_|exact mCx (by assumption)|refine mDx ?_|refine mEx ?_ ?_ ?_|exact mFx|refine mGx ?_ ?_ ?_|exact mHx|exact mIx _|(simp only [wM,Nat.reduceAdd,Nat.reduceLT,Nat.reduceLeDiff];done)));done)|omega|decide) only [e2, e2, ↓wA,wB,wL,resOf,Nat.reduceBEq,Int.reduceBEq,Int.reduceBNe,Int.reduceLT,Int.reduceLE,Int.reduceAdd,Int.reduceSub,Int.reduceMul,Int.reduceToNat]
        simp at e2
        refine ⟨_, ?_, 4, _, _, _, rfl, ?_, rfl⟩
        · omega
        refine ⟨by omega, hw _ rfl e2⟩

end Go.Proofs.Ythalpbiifpfagaa


set_option linter.unusedSimpArgs false
set_option linter.unusedVariables false
set_option maxHeartbeats 1000000

namespace Go.Nm

def cmpL : List Int → List Int → Int
  | [], [] => 0
  | [], _ :: _ => -1
  | _ :: _, [] => 1
  | x :: xs, y :: ys => if x < y then -1 else if y < x then 1 else cmpL xs ys
def Qt.cmp (x y : Qt) : Int := cmpL [x.a, x.b, x.c, x.d] [y.a, y.b, y.c, y.d]
/-- The nearest integer to a/b, the lesser one of two. -/
def rnd (a b : Int) : Int := -((b / 2 - a) / b)
theorem rnd_eq {a b : Int} (hb : 0 < b) : rnd a b = (if 0 < (a - b / 2).tmod b then (a - b / 2).tdiv b + 1 else (a - b / 2).tdiv b) := by
  unfold rnd
  rw [show b / 2 - a = -(a - b / 2) by omega]
  generalize a - b / 2 = c
  rcases Int.lt_or_le c 0 with hc | hc
  · have e1 : c.tmod b = -((-c) % b) := by
      rw [← Int.tmod_eq_emod_of_nonneg (by omega : 0 ≤ -c), Int.neg_tmod]; omega
    have e2 : c.tdiv b = -((-c) / b) := by
      rw [← Int.tdiv_eq_ediv_of_nonneg (by omega : 0 ≤ -c), Int.neg_tdiv]; omega
    have := Int.emod_nonneg (-c) (by omega : b ≠ 0)
    rw [if_neg (by omega), e2]
  · rw [Int.tmod_eq_emod_of_nonneg hc, Int.tdiv_eq_ediv_of_nonneg hc]
    have h1 := Int.emod_nonneg c (by omega : b ≠ 0)
    have h2 := Int.emod_lt_of_pos c hb
    have h3 := Int.mul_ediv_add_emod c b
    by_cases hm : 0 < c % b
    · rw [if_pos hm]
      have : (-c) / b = -(c / b) - 1 := by
        have e : -c = (b - c % b) + b * (-(c / b) - 1) := by
          rw [Int.mul_sub, Int.mul_neg, Int.mul_one]; omega
        rw [e, Int.add_mul_ediv_left _ _ (by omega), Int.ediv_eq_zero_of_lt (by omega) (by omega)]
        omega
      omega
    · rw [if_neg hm]
      have h0 : c % b = 0 := by omega
      have : (-c) / b = -(c / b) := by
        have e : -c = 0 + b * (-(c / b)) := by rw [Int.mul_neg]; omega
        rw [e, Int.add_mul_ediv_left _ _ (by omega)]
        simp
      omega
/-- It is nearest. -/
theorem rnd_near {a b : Int} (hb : 0 < b) (h2 : b % 2 = 0) : b * rnd a b - b / 2 < a + b / 2 - b / 2 ∧ a - b / 2 ≤ b * rnd a b ∧ b * rnd a b < a + b / 2 := by
  unfold rnd
  have h1 := Int.emod_nonneg (b / 2 - a) (by omega : b ≠ 0)
  have h3 := Int.emod_lt_of_pos (b / 2 - a) hb
  have h4 := Int.mul_ediv_add_emod (b / 2 - a) b
  rw [Int.mul_neg]
  omega

end Go.Nm


namespace Go.Proofs.Ythalpbiifpfagaa

open Go Go.Abs Go.Nm

theorem f49 (x : Int) (h : Hp) (hk : Hok h) : Evals Try.prog tab false (.func 49) [.int .i64 x] h (.bool false, h) := by
  refine evals_pure c49 rfl hk ?_
  simp only [sf49, initS_cons, initS_nil]
  simp (disch := first|(simp only [Nat.reduceBEq,wE];done)|((repeat' (first|assumption|exact mAx _|refine mBx ?_ ?_|exact mCx (by assumption)|refine mDx ?_|refine mEx ?_ ?_ ?_|exact mFx|refine mGx ?_ ?_ ?_|exact mHx|exact mIx _|(simp only [wM,Nat.reduceAdd,Nat.reduceLT,Nat.reduceLeDiff];done)));done)|omega|decide) only [↓wA,wB,wL,resOf,Nat.reduceBEq,Int.reduceBEq,Int.reduceBNe,Int.reduceLT,Int.reduceLE,Int.reduceAdd,Int.reduceSub,Int.reduceMul,Int.reduceToNat]
  exact ⟨_, rfl, rfl, by (repeat' (first|assumption|exact mAx _|refine mBx ?_ ?_|exact mCx (by assumption)|refine mDx ?_|refine mEx ?_ ?_ ?_|exact mFx|refine mGx ?_ ?_ ?_|exact mHx|exact mIx _|(simp only [wM,Nat.reduceAdd,Nat.reduceLT,Nat.reduceLeDiff];done)))⟩

theorem f47 (x y : Int) (h : Hp) (hk : Hok h) : Evals Try.prog tab false (.func 47) [.int .i64 x, .int .i64 y] h (.int .i64 (if x < y then -1 else if y < x then 1 else 0), h) := by
  refine evals_pure c47 rfl hk ?_
  simp only [sf47, initS_cons, initS_nil]
  simp (disch := first|(simp only [Nat.reduceBEq,wE];done)|((repeat' (first|assumption|exact mAx _|refine mBx ?_ ?_|exact mCx (by assumption)|refine mDx ?_|refine mEx ?_ ?_ ?_|exact mFx|refine mGx ?_ ?_ ?_|exact mHx|exact mIx _|(simp only [wM,Nat.reduceAdd,Nat.reduceLT,Nat.reduceLeDiff];done)));done)|omega|decide) only [callT (f49 x { next := h.next, blks := h.blks, loops := h.loops, base := h.next, esc := false } hk), callT (f49 y { next := h.next, blks := h.blks, loops := h.loops, base := h.next, esc := false } hk), ↓wA,wB,wL,resOf,Nat.reduceBEq,Int.reduceBEq,Int.reduceBNe,Int.reduceLT,Int.reduceLE,Int.reduceAdd,Int.reduceSub,Int.reduceMul,Int.reduceToNat]
  refine ifThen_intro (fun e => ?_) (fun e => ?_) <;> have eq := e <;> try simp [-List.getD_eq_getElem?_getD] at eq
  · simp (disch := first|(simp only [Nat.reduceBEq,wE];done)|((repeat' (first|assumption|exact mAx _|refine mBx ?_ ?_|exact mCx (by assumption)|refine mDx ?_|refine mEx ?_ ?_ ?_|exact mFx|refine mGx ?_ ?_ ?_|exact mHx|exact mIx _|(simp only [wM,Nat.reduceAdd,Nat.reduceLT,Nat.reduceLeDiff];done)));done)|omega|decide) only [e, e, ↓wA,wB,wL,resOf,Nat.reduceBEq,Int.reduceBEq,Int.reduceBNe,Int.reduceLT,Int.reduceLE,Int.reduceAdd,Int.reduceSub,Int.reduceMul,Int.reduceToNat]
    exact ⟨_, rfl, by rw [if_pos eq], by (repeat' (first|assumption|exact mAx _|refine mBx ?_ ?_|exact mCx (by assumption)|refine mDx ?_|refine mEx ?_ ?_ ?_|exact mFx|refine mGx ?_ ?_ ?_|exact mHx|exact mIx _|(simp only [wM,Nat.reduceAdd,Nat.reduceLT,Nat.reduceLeDiff];done)))⟩
  · simp (disch := first|(simp only [Nat.reduceBEq,wE];done)|((repeat' (first|assumption|exact mAx _|refine mBx ?_ ?_|exact mCx (by assumption)|refine mDx ?_|refine mEx ?_ ?_ ?_|exact mFx|refine mGx ?_ ?_ ?_|exact mHx|exact mIx _|(simp only [wM,Nat.reduceAdd,Nat.reduceLT,Nat.reduceLeDiff];done)));done)|omega|decide) only [e, e, ↓wA,wB,wL,resOf,Nat.reduceBEq,Int.reduceBEq,Int.reduceBNe,Int.reduceLT,Int.reduceLE,Int.reduceAdd,Int.reduceSub,Int.reduceMul,Int.reduceToNat]
    rw [if_neg (by omega)]
    refine ifThen_intro (fun e2 => ?_) (fun e2 => ?_) <;> have e2q := e2 <;> try simp [-List.getD_eq_getElem?_getD] at e2q
    · simp (disch := first|(simp only [Nat.reduceBEq,wE];done)|((repeat' (first|assumption|exact mAx _|refine mBx ?_ ?_|exact mCx (by assumption)|refine mDx ?_|refine mEx ?_ ?_ ?_|exact mFx|refine mGx ?_ ?_ ?_|exact mHx|exact mIx _|(simp only [wM,Nat.reduceAdd,Nat.reduceLT,Nat.reduceLeDiff];done)));done)|omega|decide) only [e, e2, e2, ↓wA,wB,wL,resOf,Nat.reduceBEq,Int.reduceBEq,Int.reduceBNe,Int.reduceLT,Int.reduceLE,Int.reduceAdd,Int.reduceSub,Int.reduceMul,Int.reduceToNat]
      exact ⟨_, rfl, by rw [if_pos e2q], by (repeat' (first|assumption|exact mAx _|refine mBx ?_ ?_|exact mCx (by assumption)|refine mDx ?_|refine mEx ?_ ?_ ?_|exact mFx|refine mGx ?_ ?_ ?_|exact mHx|exact mIx _|(simp only [wM,Nat.reduceAdd,Nat.reduceLT,Nat.reduceLeDiff];done)))⟩
    · simp (disch := first|(simp only [Nat.reduceBEq,wE];done)|((repeat' (first|assumption|exact mAx _|refine mBx ?_ ?_|exact mCx (by assumption)|refine mDx ?_|refine mEx ?_ ?_ ?_|exact mFx|refine mGx ?_ ?_ ?_|exact mHx|exact mIx _|(simp only [wM,Nat.reduceAdd,Nat.reduceLT,Nat.reduceLeDiff];done)));done)|omega|decide) only [e, e2, e2, ↓wA,wB,wL,resOf,Nat.reduceBEq,Int.reduceBEq,Int.reduceBNe,Int.reduceLT,Int.reduceLE,Int.reduceAdd,Int.reduceSub,Int.reduceMul,Int.reduceToNat]
      exact ⟨_, rfl, by rw [if_neg (by omega)], by (repeat' (first|assumption|exact mAx _|refine mBx ?_ ?_|exact mCx (by assumption)|refine mDx ?_|refine mEx ?_ ?_ ?_|exact mFx|refine mGx ?_ ?_ ?_|exact mHx|exact mIx _|(simp only [wM,Nat.reduceAdd,Nat.reduceLT,Nat.reduceLeDiff];done)))⟩

theorem f44 (a b : AV) (xs ys : List Int) (h : Hp) (hk : Hok h) (ha : Ints h.blks .i64 a xs) (hb : Ints h.blks .i64 b ys) (hz : xs.length < 2 ^ 62) (hy : ys.length < 2 ^ 62) :
    Evals Try.prog tab false (.func 44) [a, b] h (.int .i64 (cmpL xs ys), h) := by
  refine evals_pure c44 rfl hk ?_
  simp only [sf44, initS_cons, initS_nil]
  simp (disch := first|(simp only [Nat.reduceBEq,wE];done)|((repeat' (first|assumption|exact mAx _|refine mBx ?_ ?_|exact mCx (by assumption)|refine mDx ?_|refine mEx ?_ ?_ ?_|exact mFx|refine mGx ?_ ?_ ?_|exact mHx|exact mIx _|(simp only [wM,Nat.reduceAdd,Nat.reduceLT,Nat.reduceLeDiff];done)));done)|omega|decide) only [ha.len, ↓wA,wB,wL,resOf,Nat.reduceBEq,Int.reduceBEq,Int.reduceBNe,Int.reduceLT,Int.reduceLE,Int.reduceAdd,Int.reduceSub,Int.reduceMul,Int.reduceToNat]
  refine wloop (fun mm ss => ∃ (i : Nat) (u4 u5 u6 u7 u8 u12 u19 u28 u35 : AV), (mm = xs.length - i) ∧ (i ≤ xs.length ∧ i ≤ ys.length ∧ cmpL xs ys = cmpL (xs.drop i) (ys.drop i)) ∧ ss = { fr := [(0, a), (1, b), (4, u4), (5, u5), (6, u6), (7, u7), (8, u8), (9, a), (10, .int .i64 xs.length), (11, .int .i64 i), (12, u12), (19, u19), (28, u28), (35, u35)], hp := { next := h.next, blks := h.blks, loops := h.loops, base := h.next, esc := false } }) (xs.length) ?_ ?_
  ·
    refine ⟨0, _, _, _, _, _, _, _, _, _, by omega, ⟨by omega, by omega, by simp⟩, rfl⟩
  rintro nA sA ⟨i, u4, u5, u6, u7, u8, u12, u19, u28, u35, hnA, ⟨hi, hj, hc⟩, rfl⟩
  simp (disch := first|(simp only [Nat.reduceBEq,wE];done)|((repeat' (first|assumption|exact mAx _|refine mBx ?_ ?_|exact mCx (by assumption)|refine mDx ?_|refine mEx ?_ ?_ ?_|exact mFx|refine mGx ?_ ?_ ?_|exact mHx|exact mIx _|(simp only [wM,Nat.reduceAdd,Nat.reduceLT,Nat.reduceLeDiff];done)));done)|omega|decide) only [↓wA,wB,wL,resOf,Nat.reduceBEq,Int.reduceBEq,Int.reduceBNe,Int.reduceLT,Int.reduceLE,Int.reduceAdd,Int.reduceSub,Int.reduceMul,Int.reduceToNat]
  refine ifThen_intro (fun e => ?_) (fun e => ?_) <;> have eq := e <;> try simp [-List.getD_eq_getElem?_getD] at eq
  · simp (disch := first|(simp only [Nat.reduceBEq,wE];done)|((repeat' (first|assumption|exact mAx _|refine mBx ?_ ?_|exact mCx (by assumption)|refine mDx ?_|refine mEx ?_ ?_ ?_|exact mFx|refine mGx ?_ ?_ ?_|exact mHx|exact mIx _|(simp only [wM,Nat.reduceAdd,Nat.reduceLT,Nat.reduceLeDiff];done)));done)|omega|decide) only [e, e, ha.ix, ha.ld, hb.len, ↓wA,wB,wL,resOf,Nat.reduceBEq,Int.reduceBEq,Int.reduceBNe,Int.reduceLT,Int.reduceLE,Int.reduceAdd,Int.reduceSub,Int.reduceMul,Int.reduceToNat]
    refine ifThen_intro (fun e2 => ?_) (fun e2 => ?_) <;> have e2q := e2 <;> try simp [-List.getD_eq_getElem?_getD] at e2q
    · simp (disch := first|(simp only [Nat.reduceBEq,wE];done)|((repeat' (first|assumption|exact mAx _|refine mBx ?_ ?_|exact mCx (by assumption)|refine mDx ?_|refine mEx ?_ ?_ ?_|exact mFx|refine mGx ?_ ?_ ?_|exact mHx|exact mIx _|(simp only [wM,Nat.reduceAdd,Nat.reduceLT,Nat.reduceLeDiff];done)));done)|omega|decide) only [e, e2, e2, ↓wA,wB,wL,resOf,Nat.reduceBEq,Int.reduceBEq,Int.reduceBNe,Int.reduceLT,Int.reduceLE,Int.reduceAdd,Int.reduceSub,Int.reduceMul,Int.reduceToNat]
      refine ⟨_, rfl, ?_, by (repeat' (first|assumption|exact mAx _|refine mBx ?_ ?_|exact mCx (by assumption)|refine mDx ?_|refine mEx ?_ ?_ ?_|exact mFx|refine mGx ?_ ?_ ?_|exact mHx|exact mIx _|(simp only [wM,Nat.reduceAdd,Nat.reduceLT,Nat.reduceLeDiff];done)))⟩
      have hn : ys.drop i = [] := List.drop_of_length_le (by omega)
      rw [hc, List.drop_eq_getElem_cons eq, hn]
      rfl
    · simp (disch := first|(simp only [Nat.reduceBEq,wE];done)|((repeat' (first|assumption|exact mAx _|refine mBx ?_ ?_|exact mCx (by assumption)|refine mDx ?_|refine mEx ?_ ?_ ?_|exact mFx|refine mGx ?_ ?_ ?_|exact mHx|exact mIx _|(simp only [wM,Nat.reduceAdd,Nat.reduceLT,Nat.reduceLeDiff];done)));done)|omega|decide) only [e, e2, e2, hb.ix, hb.ld, ↓wA,wB,wL,resOf,Nat.reduceBEq,Int.reduceBEq,Int.reduceBNe,Int.reduceLT,Int.reduceLE,Int.reduceAdd,Int.reduceSub,Int.reduceMul,Int.reduceToNat]
      refine callP (f47 _ _ _ (by exact hk)) ?_
      have ex : cmpL xs ys = if xs.getD i 0 < ys.getD i 0 then -1 else if ys.getD i 0 < xs.getD i 0 then 1 else cmpL (xs.drop (i + 1)) (ys.drop (i + 1)) := by
        rw [hc, List.drop_eq_getElem_cons eq, List.drop_eq_getElem_cons (show i < ys.length by omega)]
        simp [cmpL, List.getD_eq_getElem?_getD, List.getElem?_eq_getElem eq, List.getElem?_eq_getElem (show i < ys.length by omega)]
      by_cases g1 : xs.getD i 0 < ys.getD i 0
      · rw [if_pos g1] at ex ⊢
        simp (disch := first|(simp only [Nat.reduceBEq,wE];done)|((repeat' (first|assumption|exact mAx _|refine mBx ?_ ?_|exact mCx (by assumption)|refine mDx ?_|refine mEx ?_ ?_ ?_|exact mFx|refine mGx ?_ ?_ ?_|exact mHx|exact mIx _|(simp only [wM,Nat.reduceAdd,Nat.reduceLT,Nat.reduceLeDiff];done)));done)|omega|decide) only [e, e2, ↓wA,wB,wL,resOf,Nat.reduceBEq,Int.reduceBEq,Int.reduceBNe,Int.reduceLT,Int.reduceLE,Int.reduceAdd,Int.reduceSub,Int.reduceMul,Int.reduceToNat]
        exact ⟨_, rfl, by rw [ex], by (repeat' (first|assumption|exact mAx _|refine mBx ?_ ?_|exact mCx (by assumption)|refine mDx ?_|refine mEx ?_ ?_ ?_|exact mFx|refine mGx ?_ ?_ ?_|exact mHx|exact mIx _|(simp only [wM,Nat.reduceAdd,Nat.reduceLT,Nat.reduceLeDiff];done)))⟩
      · rw [if_neg g1] at ex ⊢
        by_cases g2 : ys.getD i 0 < xs.getD i 0
        · rw [if_pos g2] at ex ⊢
          simp (disch := first|(simp only [Nat.reduceBEq,wE];done)|((repeat' (first|assumption|exact mAx _|refine mBx ?_ ?_|exact mCx (by assumption)|refine mDx ?_|refine mEx ?_ ?_ ?_|exact mFx|refine mGx ?_ ?_ ?_|exact mHx|exact mIx _|(simp only [wM,Nat.reduceAdd,Nat.reduceLT,Nat.reduceLeDiff];done)));done)|omega|decide) only [e, e2, ↓wA,wB,wL,resOf,Nat.reduceBEq,Int.reduceBEq,Int.reduceBNe,Int.reduceLT,Int.reduceLE,Int.reduceAdd,Int.reduceSub,Int.reduceMul,Int.reduceToNat]
          exact ⟨_, rfl, by rw [ex], by (repeat' (first|assumption|exact mAx _|refine mBx ?_ ?_|exact mCx (by assumption)|refine mDx ?_|refine mEx ?_ ?_ ?_|exact mFx|refine mGx ?_ ?_ ?_|exact mHx|exact mIx _|(simp only [wM,Nat.reduceAdd,Nat.reduceLT,Nat.reduceLeDiff];done)))⟩
        · rw [if_neg g2] at ex ⊢
          simp (disch := first|(simp only [Nat.reduceBEq,wE];done)|((repeat' (first|assumption|exact mAx _|refine mBx ?_ ?_|exact mCx (by assumption)|refine mDx ?_|refine mEx ?_ ?_ ?_|exact mFx|refine mGx ?_ ?_ ?_|exact mHx|exact mIx _|(simp only [wM,Nat.reduceAdd,Nat.reduceLT,Nat.reduceLeDiff];done)));done)|omega|decide) only [e, e2, ↓wA,wB,wL,resOf,Nat.reduceBEq,Int.reduceBEq,Int.reduceBNe,Int.reduceLT,Int.reduceLE,Int.reduceAdd,Int.reduceSub,Int.reduceMul,Int.reduceToNat]
          refine ⟨_, ?_, i + 1, _, _, _, _, _, _, _, _, _, rfl, ?_, rfl⟩
          · omega
          exact ⟨by omega, by omega, ex⟩
  · simp (disch := first|(simp only [Nat.reduceBEq,wE];done)|((repeat' (first|assumption|exact mAx _|refine mBx ?_ ?_|exact mCx (by assumption)|refine mDx ?_|refine mEx ?_ ?_ ?_|exact mFx|refine mGx ?_ ?_ ?_|exact mHx|exact mIx _|(simp only [wM,Nat.reduceAdd,Nat.reduceLT,Nat.reduceLeDiff];done)));done)|omega|decide) only [e, e, ha.len, hb.len, ↓wA,wB,wL,resOf,Nat.reduceBEq,Int.reduceBEq,Int.reduceBNe,Int.reduceLT,Int.reduceLE,Int.reduceAdd,Int.reduceSub,Int.reduceMul,Int.reduceToNat]
    refine ifThen_intro (fun e2 => ?_) (fun e2 => ?_) <;> have e2q := e2 <;> try simp [-List.getD_eq_getElem?_getD] at e2q
    · simp (disch := first|(simp only [Nat.reduceBEq,wE];done)|((repeat' (first|assumption|exact mAx _|refine mBx ?_ ?_|exact mCx (by assumption)|refine mDx ?_|refine mEx ?_ ?_ ?_|exact mFx|refine mGx ?_ ?_ ?_|exact mHx|exact mIx _|(simp only [wM,Nat.reduceAdd,Nat.reduceLT,Nat.reduceLeDiff];done)));done)|omega|decide) only [e, e2, e2, ↓wA,wB,wL,resOf,Nat.reduceBEq,Int.reduceBEq,Int.reduceBNe,Int.reduceLT,Int.reduceLE,Int.reduceAdd,Int.reduceSub,Int.reduceMul,Int.reduceToNat]
      refine ⟨_, rfl, ?_, by (repeat' (first|assumption|exact mAx _|refine mBx ?_ ?_|exact mCx (by assumption)|refine mDx ?_|refine mEx ?_ ?_ ?_|exact mFx|refine mGx ?_ ?_ ?_|exact mHx|exact mIx _|(simp only [wM,Nat.reduceAdd,Nat.reduceLT,Nat.reduceLeDiff];done)))⟩
      have hn : xs.drop i = [] := List.drop_of_length_le (by omega)
      rw [hc, hn, List.drop_eq_getElem_cons (by omega)]
      rfl
    · simp (disch := first|(simp only [Nat.reduceBEq,wE];done)|((repeat' (first|assumption|exact mAx _|refine mBx ?_ ?_|exact mCx (by assumption)|refine mDx ?_|refine mEx ?_ ?_ ?_|exact mFx|refine mGx ?_ ?_ ?_|exact mHx|exact mIx _|(simp only [wM,Nat.reduceAdd,Nat.reduceLT,Nat.reduceLeDiff];done)));done)|omega|decide) only [e, e2, e2, ↓wA,wB,wL,resOf,Nat.reduceBEq,Int.reduceBEq,Int.reduceBNe,Int.reduceLT,Int.reduceLE,Int.reduceAdd,Int.reduceSub,Int.reduceMul,Int.reduceToNat]
      refine ⟨_, rfl, ?_, by (repeat' (first|assumption|exact mAx _|refine mBx ?_ ?_|exact mCx (by assumption)|refine mDx ?_|refine mEx ?_ ?_ ?_|exact mFx|refine mGx ?_ ?_ ?_|exact mHx|exact mIx _|(simp only [wM,Nat.reduceAdd,Nat.reduceLT,Nat.reduceLeDiff];done)))⟩
      have hn : xs.drop i = [] := List.drop_of_length_le (by omega)
      have hn' : ys.drop i = [] := List.drop_of_length_le (by omega)
      rw [hc, hn, hn']
      rfl

theorem f38 (x y : Qt) (h : Hp) (hk : Hok h) : Evals Try.prog tab false (.func 38) [(AV.ag [.int .i64 x.a, .int .i64 x.b, .int .i64 x.c, .int .i64 x.d]), (AV.ag [.int .i64 y.a, .int .i64 y.b, .int .i64 y.c, .int .i64 y.d])] h (.int .i64 (x.cmp y), h) := by
  refine evals_pure c38 rfl hk ?_
  simp only [sf38, initS_cons, initS_nil]
  simp (disch := first|(simp only [Nat.reduceBEq,wE];done)|((repeat' (first|assumption|exact mAx _|refine mBx ?_ ?_|exact mCx (by assumption)|refine mDx ?_|refine mEx ?_ ?_ ?_|exact mFx|refine mGx ?_ ?_ ?_|exact mHx|exact mIx _|(simp only [wM,Nat.reduceAdd,Nat.reduceLT,Nat.reduceLeDiff];done)));done)|omega|decide) only [↓wA,wB,wL,resOf,Nat.reduceBEq,Int.reduceBEq,Int.reduceBNe,Int.reduceLT,Int.reduceLE,Int.reduceAdd,Int.reduceSub,Int.reduceMul,Int.reduceToNat]
  refine callP (f44 _ _ [x.a, x.b, x.c, x.d] [y.a, y.b, y.c, y.d] _ (by (repeat' (first|assumption|exact mAx _|refine mBx ?_ ?_|exact mCx (by assumption)|refine mDx ?_|refine mEx ?_ ?_ ?_|exact mFx|refine mGx ?_ ?_ ?_|exact mHx|exact mIx _|(simp only [wM,Nat.reduceAdd,Nat.reduceLT,Nat.reduceLeDiff];done)))) ?_ ?_ (by simp) (by simp)) ?_
  · exact Ints.sub (Ints.top (zs := [x.a, x.b, x.c, x.d]) (w := true) (c := h.next) (bs := h.blks) rfl (Nat.le_refl 4)) (Sub.push (Sub.refl _) (by (repeat' (first|assumption|exact mAx _|refine mBx ?_ ?_|exact mCx (by assumption)|refine mDx ?_|refine mEx ?_ ?_ ?_|exact mFx|refine mGx ?_ ?_ ?_|exact mHx|exact mIx _|(simp only [wM,Nat.reduceAdd,Nat.reduceLT,Nat.reduceLeDiff];done)))))
  · exact Ints.top (zs := [y.a, y.b, y.c, y.d]) (w := true) (c := h.next + 1) rfl (Nat.le_refl 4)
  simp (disch := first|(simp only [Nat.reduceBEq,wE];done)|((repeat' (first|assumption|exact mAx _|refine mBx ?_ ?_|exact mCx (by assumption)|refine mDx ?_|refine mEx ?_ ?_ ?_|exact mFx|refine mGx ?_ ?_ ?_|exact mHx|exact mIx _|(simp only [wM,Nat.reduceAdd,Nat.reduceLT,Nat.reduceLeDiff];done)));done)|omega|decide) only [↓wA,wB,wL,resOf,Nat.reduceBEq,Int.reduceBEq,Int.reduceBNe,Int.reduceLT,Int.reduceLE,Int.reduceAdd,Int.reduceSub,Int.reduceMul,Int.reduceToNat]
  exact ⟨_, rfl, rfl, by (repeat' (first|assumption|exact mAx _|refine mBx ?_ ?_|exact mCx (by assumption)|refine mDx ?_|refine mEx ?_ ?_ ?_|exact mFx|refine mGx ?_ ?_ ?_|exact mHx|exact mIx _|(simp only [wM,Nat.reduceAdd,Nat.reduceLT,Nat.reduceLeDiff];done)))⟩

theorem f45 (a b : Int) (h : Hp) (hk : Hok h) (ha : -1000000000000000000 ≤ a ∧ a ≤ 1000000000000000000) (hb : 0 < b ∧ b ≤ 1000000000000000000) :
    Evals Try.prog tab false (.func 45) [.int .i64 a, .int .i64 b] h (.int .i64 (rnd a b), h) := by
  refine evals_pure c45 rfl hk ?_
  simp only [sf45, initS_cons, initS_nil]
  have hd := tdiv_bd hb.1 (a := a - b / 2) (l := -2000000000000000000) (u := 2000000000000000000) (by omega) (by omega) (by omega) (by omega)
  simp (disch := first|(simp only [Nat.reduceBEq,wE];done)|((repeat' (first|assumption|exact mAx _|refine mBx ?_ ?_|exact mCx (by assumption)|refine mDx ?_|refine mEx ?_ ?_ ?_|exact mFx|refine mGx ?_ ?_ ?_|exact mHx|exact mIx _|(simp only [wM,Nat.reduceAdd,Nat.reduceLT,Nat.reduceLeDiff];done)));done)|omega|decide) only [sBin_quo, ↓wA,wB,wL,resOf,Nat.reduceBEq,Int.reduceBEq,Int.reduceBNe,Int.reduceLT,Int.reduceLE,Int.reduceAdd,Int.reduceSub,Int.reduceMul,Int.reduceToNat]
  simp (disch := first|(simp only [Nat.reduceBEq,wE];done)|((repeat' (first|assumption|exact mAx _|refine mBx ?_ ?_|exact mCx (by assumption)|refine mDx ?_|refine mEx ?_ ?_ ?_|exact mFx|refine mGx ?_ ?_ ?_|exact mHx|exact mIx _|(simp only [wM,Nat.reduceAdd,Nat.reduceLT,Nat.reduceLeDiff];done)));done)|omega|decide) only [sBin_quoL, sBin_remL, ↓wA,wB,wL,resOf,Nat.reduceBEq,Int.reduceBEq,Int.reduceBNe,Int.reduceLT,Int.reduceLE,Int.reduceAdd,Int.reduceSub,Int.reduceMul,Int.reduceToNat]
  rw [rnd_eq hb.1]
  refine ifThen_intro (fun e => ?_) (fun e => ?_) <;> have eq := e <;> try simp [-List.getD_eq_getElem?_getD] at eq
  · simp (disch := first|(simp only [Nat.reduceBEq,wE];done)|((repeat' (first|assumption|exact mAx _|refine mBx ?_ ?_|exact mCx (by assumption)|refine mDx ?_|refine mEx ?_ ?_ ?_|exact mFx|refine mGx ?_ ?_ ?_|exact mHx|exact mIx _|(simp only [wM,Nat.reduceAdd,Nat.reduceLT,Nat.reduceLeDiff];done)));done)|omega|decide) only [e, e, ↓wA,wB,wL,resOf,Nat.reduceBEq,Int.reduceBEq,Int.reduceBNe,Int.reduceLT,Int.reduceLE,Int.reduceAdd,Int.reduceSub,Int.reduceMul,Int.reduceToNat]
    exact ⟨_, rfl, by rw [if_pos eq], by (repeat' (first|assumption|exact mAx _|refine mBx ?_ ?_|exact mCx (by assumption)|refine mDx ?_|refine mEx ?_ ?_ ?_|exact mFx|refine mGx ?_ ?_ ?_|exact mHx|exact mIx _|(simp only [wM,Nat.reduceAdd,Nat.reduceLT,Nat.reduceLeDiff];done)))⟩
  · simp (disch := first|(simp only [Nat.reduceBEq,wE];done)|((repeat' (first|assumption|exact mAx _|refine mBx ?_ ?_|exact mCx (by assumption)|refine mDx ?_|refine mEx ?_ ?_ ?_|exact mFx|refine mGx ?_ ?_ ?_|exact mHx|exact mIx _|(simp only [wM,Nat.reduceAdd,Nat.reduceLT,Nat.reduceLeDiff];done)));done)|omega|decide) only [e, e, ↓wA,wB,wL,resOf,Nat.reduceBEq,Int.reduceBEq,Int.reduceBNe,Int.reduceLT,Int.reduceLE,Int.reduceAdd,Int.reduceSub,Int.reduceMul,Int.reduceToNat]
    exact ⟨_, rfl, by rw [if_neg (by omega)], by (repeat' (first|assumption|exact mAx _|refine mBx ?_ ?_|exact mCx (by assumption)|refine mDx ?_|refine mEx ?_ ?_ ?_|exact mFx|refine mGx ?_ ?_ ?_|exact mHx|exact mIx _|(simp only [wM,Nat.reduceAdd,Nat.reduceLT,Nat.reduceLeDiff];done)))⟩

end Go.Proofs.Ythalpbiifpfagaa


set_option linter.unusedSimpArgs false
set_option linter.unusedVariables false
set_option maxHeartbeats 1000000

namespace Go.Nm

def near1 (p n odd : Int) : Int := 2 * rnd (p - odd * n) (2 * n) + odd
def Qt.near (s : Qt) (n odd : Int) : Qt := ⟨near1 s.a n odd, near1 s.b n odd, near1 s.c n odd, near1 s.d n odd⟩
def sqr (m : Int) : Int := m * m
def Qt.gap (s : Qt) (n : Int) (q : Qt) : Int := sqr (s.a - n * q.a) + sqr (s.b - n * q.b) + sqr (s.c - n * q.c) + sqr (s.d - n * q.d)
theorem near1_bd {p n odd M : Int} (hn : 1 ≤ n) (hp : -M ≤ p ∧ p ≤ M) (ho : odd = 0 ∨ odd = 1) :
    (-n ≤ p - n * (2 * rnd (p - odd * n) (2 * n) + odd) ∧ p - n * (2 * rnd (p - odd * n) (2 * n) + odd) ≤ n) ∧ (-(M + 1) ≤ 2 * rnd (p - odd * n) (2 * n) + odd ∧ 2 * rnd (p - odd * n) (2 * n) + odd ≤ M + 1) := by
  obtain ⟨_, h1, h2⟩ := rnd_near (a := p - odd * n) (b := 2 * n) (by omega) (by omega)
  rw [show 2 * n / 2 = n by omega] at h1 h2
  generalize rnd (p - odd * n) (2 * n) = r at *
  have e : n * (2 * r + odd) = 2 * n * r + odd * n := by grind
  have h3 : -n ≤ p - n * (2 * r + odd) ∧ p - n * (2 * r + odd) ≤ n := by omega
  refine ⟨h3, ?_, ?_⟩
  · rcases Int.lt_or_le (2 * r + odd) (-(M + 1)) with hh | hh
    · exfalso
      have := Int.mul_le_mul_of_nonneg_left (show 2 * r + odd ≤ -(M + 1) - 1 by omega) (show 0 ≤ n by omega)
      have e2 : n * (-(M + 1) - 1) = -(n * M) - 2 * n := by grind
      have := Int.mul_le_mul_of_nonneg_right hn (show 0 ≤ M by omega)
      omega
    · exact hh
  · rcases Int.lt_or_le (M + 1) (2 * r + odd) with hh | hh
    · exfalso
      have := Int.mul_le_mul_of_nonneg_left (show M + 1 + 1 ≤ 2 * r + odd by omega) (show 0 ≤ n by omega)
      have e2 : n * (M + 1 + 1) = n * M + 2 * n := by grind
      have := Int.mul_le_mul_of_nonneg_right hn (show 0 ≤ M by omega)
      omega
    · exact hh
theorem Qt.one_mul {x : Qt} : (⟨2, 0, 0, 0⟩ : Qt).mul x = x := by
  cases x
  simp only [Qt.mul, Qt.sa, Qt.sb, Qt.sc, Qt.sd, Qt.mk.injEq]
  omega
theorem Qt.near_int {s : Qt} {n odd : Int} : (s.near n odd).int := by
  simp only [Qt.int, Qt.near, near1]
  omega
theorem Qt.near_bd {s : Qt} {n odd M : Int} (hn : 1 ≤ n) (hs : s.bd M) (ho : odd = 0 ∨ odd = 1) : (s.near n odd).bd (M + 1) :=
  ⟨(near1_bd hn hs.1 ho).2, (near1_bd hn hs.2.1 ho).2, (near1_bd hn hs.2.2.1 ho).2, (near1_bd hn hs.2.2.2 ho).2⟩

end Go.Nm


namespace Go.Proofs.Ythalpbiifpfagaa

open Go Go.Abs Go.Nm

def nearC (s : Qt) (n odd : Int) : Nat → List AV
  | 0 => [.int .i64 0, .int .i64 0, .int .i64 0, .int .i64 0]
  | 1 => [.int .i64 (near1 s.a n odd), .int .i64 0, .int .i64 0, .int .i64 0]
  | 2 => [.int .i64 (near1 s.a n odd), .int .i64 (near1 s.b n odd), .int .i64 0, .int .i64 0]
  | 3 => [.int .i64 (near1 s.a n odd), .int .i64 (near1 s.b n odd), .int .i64 (near1 s.c n odd), .int .i64 0]
  | _ => [.int .i64 (near1 s.a n odd), .int .i64 (near1 s.b n odd), .int .i64 (near1 s.c n odd), .int .i64 (near1 s.d n odd)]

set_option maxRecDepth 100000 in
set_option maxHeartbeats 4000000 in
theorem f40 (s : Qt) (n odd : Int) (h : Hp) (hk : Hok h) (hs : s.bd 67108864) (hn : 1 ≤ n ∧ n ≤ 8388608) (ho : odd = 0 ∨ odd = 1) :
    Evals Try.prog tab false (.func 40) [(AV.ag [.int .i64 s.a, .int .i64 s.b, .int .i64 s.c, .int .i64 s.d]), .int .i64 n, .int .i64 odd] h (.tu [(AV.ag [.int .i64 ((s.near n odd)).a, .int .i64 ((s.near n odd)).b, .int .i64 ((s.near n odd)).c, .int .i64 ((s.near n odd)).d]), .int .i64 (s.gap n (s.near n odd))], h) := by
  refine evals_pure c40 rfl hk ?_
  simp only [sf40, initS_cons, initS_nil]
  have on : 0 ≤ odd * n ∧ odd * n ≤ n := by rcases ho with rfl | rfl <;> omega
  have n0 := near1_bd hn.1 hs.1 ho
  have n1 := near1_bd hn.1 hs.2.1 ho
  have n2 := near1_bd hn.1 hs.2.2.1 ho
  have n3 := near1_bd hn.1 hs.2.2.2 ho
  have hsb := hs
  obtain ⟨s0, s1, s2, s3⟩ := hsb
  have q0 := mul_bd 8388608 8388608 (x := s.a - n * (2 * rnd (s.a - odd * n) (2 * n) + odd)) (y := s.a - n * (2 * rnd (s.a - odd * n) (2 * n) + odd)) (by omega) (by omega)
  have q1 := mul_bd 8388608 8388608 (x := s.b - n * (2 * rnd (s.b - odd * n) (2 * n) + odd)) (y := s.b - n * (2 * rnd (s.b - odd * n) (2 * n) + odd)) (by omega) (by omega)
  have q2 := mul_bd 8388608 8388608 (x := s.c - n * (2 * rnd (s.c - odd * n) (2 * n) + odd)) (y := s.c - n * (2 * rnd (s.c - odd * n) (2 * n) + odd)) (by omega) (by omega)
  have q3 := mul_bd 8388608 8388608 (x := s.d - n * (2 * rnd (s.d - odd * n) (2 * n) + odd)) (y := s.d - n * (2 * rnd (s.d - odd * n) (2 * n) + odd)) (by omega) (by omega)
  simp (disch := first|(simp only [Nat.reduceBEq,wE];done)|((repeat' (first|assumption|exact mAx _|refine mBx ?_ ?_|exact mCx (by assumption)|refine mDx ?_|refine mEx ?_ ?_ ?_|exact mFx|refine mGx ?_ ?_ ?_|exact mHx|exact mIx _|(simp only [wM,Nat.reduceAdd,Nat.reduceLT,Nat.reduceLeDiff];done)));done)|omega|decide) only [↓wA,wB,wL,resOf,Nat.reduceBEq,Int.reduceBEq,Int.reduceBNe,Int.reduceLT,Int.reduceLE,Int.reduceAdd,Int.reduceSub,Int.reduceMul,Int.reduceToNat]
  refine wloop (fun mm ss => ∃ (i : Nat) (g : Int) (u10 u11 u12 u15 : AV), (mm = 4 - i) ∧ (i ≤ 4 ∧ g = (if 0 < i then sqr (s.a - n * near1 s.a n odd) else 0) + (if 1 < i then sqr (s.b - n * near1 s.b n odd) else 0) + (if 2 < i then sqr (s.c - n * near1 s.c n odd) else 0) + (if 3 < i then sqr (s.d - n * near1 s.d n odd) else 0)) ∧ ss = { fr := [(0, (AV.ag [.int .i64 s.a, .int .i64 s.b, .int .i64 s.c, .int .i64 s.d])), (1, .int .i64 n), (2, .int .i64 odd), (3, .ptr h.next 0), (6, .ptr (h.next + 1) 0), (7, .int .i64 0), (8, .ptr (h.next + 1 + 1) 0), (9, .int .i64 g), (10, u10), (11, u11), (12, u12), (13, (AV.ag [.int .i64 s.a, .int .i64 s.b, .int .i64 s.c, .int .i64 s.d])), (14, .int .i64 i), (15, u15)], hp := { next := h.next + 1 + 1 + 1, blks := (h.next + 1 + 1, { cells := nearC s n odd i, ch := h.next + 1 + 1, wr := true }) :: (h.next + 1, { cells := [.int .i64 0, .int .i64 0, .int .i64 0, .int .i64 0], ch := h.next + 1, wr := true }) :: (h.next, { cells := [.int .i64 s.a, .int .i64 s.b, .int .i64 s.c, .int .i64 s.d], ch := h.next, wr := true }) :: h.blks, loops := h.loops, base := h.next, esc := false } }) (4) ?_ ?_
  ·
    refine ⟨0, 0, _, _, _, _, by omega, ⟨by omega, by simp⟩, rfl⟩
  rintro nA sA ⟨i, g, u10, u11, u12, u15, hnA, ⟨hi, hg⟩, rfl⟩
  simp only [near1, sqr] at hg
  rcases (by omega : i = 0 ∨ i = 1 ∨ i = 2 ∨ i = 3 ∨ i = 4) with rfl | rfl | rfl | rfl | rfl <;> simp at hg
  · simp (disch := first|(simp only [Nat.reduceBEq,wE];done)|((repeat' (first|assumption|exact mAx _|refine mBx ?_ ?_|exact mCx (by assumption)|refine mDx ?_|refine mEx ?_ ?_ ?_|exact mFx|refine mGx ?_ ?_ ?_|exact mHx|exact mIx _|(simp only [wM,Nat.reduceAdd,Nat.reduceLT,Nat.reduceLeDiff];done)));done)|omega|decide) only [nearC, ↓wA,wB,wL,resOf,Nat.reduceBEq,Int.reduceBEq,Int.reduceBNe,Int.reduceLT,Int.reduceLE,Int.reduceAdd,Int.reduceSub,Int.reduceMul,Int.reduceToNat]
    refine callP (f45 _ _ _ (by (repeat' (first|assumption|exact mAx _|refine mBx ?_ ?_|exact mCx (by assumption)|refine mDx ?_|refine mEx ?_ ?_ ?_|exact mFx|refine mGx ?_ ?_ ?_|exact mHx|exact mIx _|(simp only [wM,Nat.reduceAdd,Nat.reduceLT,Nat.reduceLeDiff];done)))) (by omega) (by omega)) ?_
    simp (disch := first|(simp only [Nat.reduceBEq,wE];done)|((repeat' (first|assumption|exact mAx _|refine mBx ?_ ?_|exact mCx (by assumption)|refine mDx ?_|refine mEx ?_ ?_ ?_|exact mFx|refine mGx ?_ ?_ ?_|exact mHx|exact mIx _|(simp only [wM,Nat.reduceAdd,Nat.reduceLT,Nat.reduceLeDiff];done)));done)|omega|decide) only [nearC, ↓wA,wB,wL,resOf,Nat.reduceBEq,Int.reduceBEq,Int.reduceBNe,Int.reduceLT,Int.reduceLE,Int.reduceAdd,Int.reduceSub,Int.reduceMul,Int.reduceToNat]
    refine ⟨_, ?_, 1, _, _, _, _, _, rfl, ?_, rfl⟩
    · omega
    exact ⟨by omega, by simp [near1, sqr, hg]⟩
  · simp (disch := first|(simp only [Nat.reduceBEq,wE];done)|((repeat' (first|assumption|exact mAx _|refine mBx ?_ ?_|exact mCx (by assumption)|refine mDx ?_|refine mEx ?_ ?_ ?_|exact mFx|refine mGx ?_ ?_ ?_|exact mHx|exact mIx _|(simp only [wM,Nat.reduceAdd,Nat.reduceLT,Nat.reduceLeDiff];done)));done)|omega|decide) only [nearC, ↓wA,wB,wL,resOf,Nat.reduceBEq,Int.reduceBEq,Int.reduceBNe,Int.reduceLT,Int.reduceLE,Int.reduceAdd,Int.reduceSub,Int.reduceMul,Int.reduceToNat]
    refine callP (f45 _ _ _ (by (repeat' (first|assumption|exact mAx _|refine mBx ?_ ?_|exact mCx (by assumption)|refine mDx ?_|refine mEx ?_ ?_ ?_|exact mFx|refine mGx ?_ ?_ ?_|exact mHx|exact mIx _|(simp only [wM,Nat.reduceAdd,Nat.reduceLT,Nat.reduceLeDiff];done)))) (by omega) (by omega)) ?_
    simp (disch := first|(simp only [Nat.reduceBEq,wE];done)|((repeat' (first|assumption|exact mAx _|refine mBx ?_ ?_|exact mCx (by assumption)|refine mDx ?_|refine mEx ?_ ?_ ?_|exact mFx|refine mGx ?_ ?_ ?_|exact mHx|exact mIx _|(simp only [wM,Nat.reduceAdd,Nat.reduceLT,Nat.reduceLeDiff];done)));done)|omega|decide) only [nearC, ↓wA,wB,wL,resOf,Nat.reduceBEq,Int.reduceBEq,Int.reduceBNe,Int.reduceLT,Int.reduceLE,Int.reduceAdd,Int.reduceSub,Int.reduceMul,Int.reduceToNat]
    refine ⟨_, ?_, 2, _, _, _, _, _, rfl, ?_, rfl⟩
    · omega
    exact ⟨by omega, by simp [near1, sqr, hg]⟩
  · simp (disch := first|(simp only [Nat.reduceBEq,wE];done)|((repeat' (first|assumption|exact mAx _|refine mBx ?_ ?_|exact mCx (by assumption)|refine mDx ?_|refine mEx ?_ ?_ ?_|exact mFx|refine mGx ?_ ?_ ?_|exact mHx|exact mIx _|(simp only [wM,Nat.reduceAdd,Nat.reduceLT,Nat.reduceLeDiff];done)));done)|omega|decide) only [nearC, ↓wA,wB,wL,resOf,Nat.reduceBEq,Int.reduceBEq,Int.reduceBNe,Int.reduceLT,Int.reduceLE,Int.reduceAdd,Int.reduceSub,Int.reduceMul,Int.reduceToNat]
    refine callP (f45 _ _ _ (by (repeat' (first|assumption|exact mAx _|refine mBx ?_ ?_|exact mCx (by assumption)|refine mDx ?_|refine mEx ?_ ?_ ?_|exact mFx|refine mGx ?_ ?_ ?_|exact mHx|exact mIx _|(simp only [wM,Nat.reduceAdd,Nat.reduceLT,Nat.reduceLeDiff];done)))) (by omega) (by omega)) ?_
    simp (disch := first|(simp only [Nat.reduceBEq,wE];done)|((repeat' (first|assumption|exact mAx _|refine mBx ?_ ?_|exact mCx (by assumption)|refine mDx ?_|refine mEx ?_ ?_ ?_|exact mFx|refine mGx ?_ ?_ ?_|exact mHx|exact mIx _|(simp only [wM,Nat.reduceAdd,Nat.reduceLT,Nat.reduceLeDiff];done)));done)|omega|decide) only [nearC, ↓wA,wB,wL,resOf,Nat.reduceBEq,Int.reduceBEq,Int.reduceBNe,Int.reduceLT,Int.reduceLE,Int.reduceAdd,Int.reduceSub,Int.reduceMul,Int.reduceToNat]
    refine ⟨_, ?_, 3, _, _, _, _, _, rfl, ?_, rfl⟩
    · omega
    exact ⟨by omega, by simp [near1, sqr, hg]⟩
  · simp (disch := first|(simp only [Nat.reduceBEq,wE];done)|((repeat' (first|assumption|exact mAx _|refine mBx ?_ ?_|exact mCx (by assumption)|refine mDx ?_|refine mEx ?_ ?_ ?_|exact mFx|refine mGx ?_ ?_ ?_|exact mHx|exact mIx _|(simp only [wM,Nat.reduceAdd,Nat.reduceLT,Nat.reduceLeDiff];done)));done)|omega|decide) only [nearC, ↓wA,wB,wL,resOf,Nat.reduceBEq,Int.reduceBEq,Int.reduceBNe,Int.reduceLT,Int.reduceLE,Int.reduceAdd,Int.reduceSub,Int.reduceMul,Int.reduceToNat]
    refine callP (f45 _ _ _ (by (repeat' (first|assumption|exact mAx _|refine mBx ?_ ?_|exact mCx (by assumption)|refine mDx ?_|refine mEx ?_ ?_ ?_|exact mFx|refine mGx ?_ ?_ ?_|exact mHx|exact mIx _|(simp only [wM,Nat.reduceAdd,Nat.reduceLT,Nat.reduceLeDiff];done)))) (by omega) (by omega)) ?_
    simp (disch := first|(simp only [Nat.reduceBEq,wE];done)|((repeat' (first|assumption|exact mAx _|refine mBx ?_ ?_|exact mCx (by assumption)|refine mDx ?_|refine mEx ?_ ?_ ?_|exact mFx|refine mGx ?_ ?_ ?_|exact mHx|exact mIx _|(simp only [wM,Nat.reduceAdd,Nat.reduceLT,Nat.reduceLeDiff];done)));done)|omega|decide) only [nearC, ↓wA,wB,wL,resOf,Nat.reduceBEq,Int.reduceBEq,Int.reduceBNe,Int.reduceLT,Int.reduceLE,Int.reduceAdd,Int.reduceSub,Int.reduceMul,Int.reduceToNat]
    refine ⟨_, ?_, 4, _, _, _, _, _, rfl, ?_, rfl⟩
    · omega
    exact ⟨by omega, by simp [near1, sqr, hg]⟩
  · simp (disch := first|(simp only [Nat.reduceBEq,wE];done)|((repeat' (first|assumption|exact mAx _|refine mBx ?_ ?_|exact mCx (by assumption)|refine mDx ?_|refine mEx ?_ ?_ ?_|exact mFx|refine mGx ?_ ?_ ?_|exact mHx|exact mIx _|(simp only [wM,Nat.reduceAdd,Nat.reduceLT,Nat.reduceLeDiff];done)));done)|omega|decide) only [nearC, ↓wA,wB,wL,resOf,Nat.reduceBEq,Int.reduceBEq,Int.reduceBNe,Int.reduceLT,Int.reduceLE,Int.reduceAdd,Int.reduceSub,Int.reduceMul,Int.reduceToNat]
    refine ⟨_, rfl, ?_, by (repeat' (first|assumption|exact mAx _|refine mBx ?_ ?_|exact mCx (by assumption)|refine mDx ?_|refine mEx ?_ ?_ ?_|exact mFx|refine mGx ?_ ?_ ?_|exact mHx|exact mIx _|(simp only [wM,Nat.reduceAdd,Nat.reduceLT,Nat.reduceLeDiff];done)))⟩
    rw [hg]
    simp [Qt.near, Qt.gap, near1, sqr]

end Go.Proofs.Ythalpbiifpfagaa


set_option linter.unusedSimpArgs false
set_option linter.unusedVariables false
set_option maxHeartbeats 1000000

namespace Go.Nm

def Qt.sub (x y : Qt) : Qt := ⟨x.a - y.a, x.b - y.b, x.c - y.c, x.d - y.d⟩
/-- The program's quotient. -/
def Qt.quo (x y : Qt) : Qt :=
  let s := x.mul y.conj
  let n := y.nrm
  let e := s.near n 0
  let o := s.near n 1
  if s.gap n o < s.gap n e ∨ (s.gap n o = s.gap n e ∧ o.cmp e < 0) then o else e
def Qt.rem (x y : Qt) : Qt := x.sub ((x.quo y).mul y)
theorem Qt.quo_int {x y : Qt} : (x.quo y).int := by
  unfold Qt.quo
  simp only
  split <;> exact Qt.near_int
theorem Qt.quo_bd {x y : Qt} {M : Int} (hn : 1 ≤ y.nrm) (hs : (x.mul y.conj).bd M) : (x.quo y).bd (M + 1) := by
  unfold Qt.quo
  simp only
  split
  · exact Qt.near_bd hn hs (.inr rfl)
  · exact Qt.near_bd hn hs (.inl rfl)
theorem Qt.bd_mono {x : Qt} {M N : Int} (h : x.bd M) (hm : M ≤ N) : x.bd N := by
  obtain ⟨h1, h2, h3, h4⟩ := h
  refine ⟨?_, ?_, ?_, ?_⟩ <;> omega
theorem Qt.mul_bd {x y : Qt} {A B : Int} (hx : x.bd A) (hy : y.bd B) : (x.mul y).bd (2 * (A * B)) := by
  obtain ⟨x1, x2, x3, x4⟩ := hx
  obtain ⟨y1, y2, y3, y4⟩ := hy
  have b11 := Nm.mul_bd A B x1 y1
  have b12 := Nm.mul_bd A B x1 y2
  have b13 := Nm.mul_bd A B x1 y3
  have b14 := Nm.mul_bd A B x1 y4
  have b21 := Nm.mul_bd A B x2 y1
  have b22 := Nm.mul_bd A B x2 y2
  have b23 := Nm.mul_bd A B x2 y3
  have b24 := Nm.mul_bd A B x2 y4
  have b31 := Nm.mul_bd A B x3 y1
  have b32 := Nm.mul_bd A B x3 y2
  have b33 := Nm.mul_bd A B x3 y3
  have b34 := Nm.mul_bd A B x3 y4
  have b41 := Nm.mul_bd A B x4 y1
  have b42 := Nm.mul_bd A B x4 y2
  have b43 := Nm.mul_bd A B x4 y3
  have b44 := Nm.mul_bd A B x4 y4
  simp only [Qt.bd, Qt.mul, Qt.sa, Qt.sb, Qt.sc, Qt.sd]
  generalize A * B = AB at *
  refine ⟨?_, ?_, ?_, ?_⟩ <;> omega
theorem Qt.conj_bd {x : Qt} {M : Int} (h : x.bd M) : x.conj.bd M := by
  obtain ⟨h1, h2, h3, h4⟩ := h
  simp only [Qt.bd, Qt.conj]
  refine ⟨?_, ?_, ?_, ?_⟩ <;> omega
theorem sq_le {a : Int} {M : Int} (h : -M ≤ a ∧ a ≤ M) : 0 ≤ a * a ∧ a * a ≤ M * M := by
  have := Nm.mul_bd M M h h
  refine ⟨?_, this.2⟩
  rcases Int.le_total 0 a with h | h
  · exact Int.mul_nonneg h h
  · have := Int.mul_nonneg (show 0 ≤ -a by omega) (show 0 ≤ -a by omega)
    rwa [Int.neg_mul_neg] at this
theorem Qt.nrm_bd {x : Qt} {M : Int} (h : x.bd M) : 0 ≤ x.nrm ∧ x.nrm ≤ M * M := by
  obtain ⟨h1, h2, h3, h4⟩ := h
  have a := sq_le h1
  have b := sq_le h2
  have c := sq_le h3
  have d := sq_le h4
  simp only [Qt.nrm, Qt.sq]
  omega
theorem Qt.nrm_pos {x : Qt} (hi : x.int) (h : x ≠ ⟨0, 0, 0, 0⟩) : 1 ≤ x.nrm := by
  have h4 := Qt.sq_four hi
  have ha := sq_le (a := x.a) (M := x.a.natAbs) (by omega)
  have hb := sq_le (a := x.b) (M := x.b.natAbs) (by omega)
  have hc := sq_le (a := x.c) (M := x.c.natAbs) (by omega)
  have hd := sq_le (a := x.d) (M := x.d.natAbs) (by omega)
  have hsq : x.sq = x.a * x.a + x.b * x.b + x.c * x.c + x.d * x.d := rfl
  rcases Int.lt_or_le x.nrm 1 with hh | hh
  · exfalso
    have z : x.a * x.a = 0 ∧ x.b * x.b = 0 ∧ x.c * x.c = 0 ∧ x.d * x.d = 0 := by omega
    obtain ⟨z1, z2, z3, z4⟩ := z
    apply h
    obtain ⟨a, b, c, d⟩ := x
    simp only at z1 z2 z3 z4
    have z0 : ∀ {i : Int}, i * i = 0 → i = 0 := fun hi => by rcases Int.mul_eq_zero.1 hi with h | h <;> exact h
    rw [z0 z1, z0 z2, z0 z3, z0 z4]
  · exact hh

end Go.Nm


namespace Go.Proofs.Ythalpbiifpfagaa

open Go Go.Abs Go.Nm

theorem f22_nil (h : Hp) (hk : Hok h) : Evals Try.prog tab false (.func 22) [.nilsl] h ((AV.ag [.int .i64 ((⟨2, 0, 0, 0⟩ : Qt)).a, .int .i64 ((⟨2, 0, 0, 0⟩ : Qt)).b, .int .i64 ((⟨2, 0, 0, 0⟩ : Qt)).c, .int .i64 ((⟨2, 0, 0, 0⟩ : Qt)).d]), h) := by
  refine evals_pure c22 rfl hk ?_
  simp only [sf22, initS_cons, initS_nil]
  simp (disch := first|(simp only [Nat.reduceBEq,wE];done)|((repeat' (first|assumption|exact mAx _|refine mBx ?_ ?_|exact mCx (by assumption)|refine mDx ?_|refine mEx ?_ ?_ ?_|exact mFx|refine mGx ?_ ?_ ?_|exact mHx|exact mIx _|(simp only [wM,Nat.reduceAdd,Nat.reduceLT,Nat.reduceLeDiff];done)));done)|omega|decide) only [↓wA,wB,wL,resOf,Nat.reduceBEq,Int.reduceBEq,Int.reduceBNe,Int.reduceLT,Int.reduceLE,Int.reduceAdd,Int.reduceSub,Int.reduceMul,Int.reduceToNat]
  refine wloop (fun mm ss => ∃ (z : Unit) (u5 u10 : AV), (mm = 0) ∧ (True) ∧ ss = { fr := [(0, .nilsl), (2, .ptr h.next 0), (3, .ptr (h.next + 1) 0), (5, u5), (7, .nilsl), (8, .int .i64 0), (9, .int .i64 0), (10, u10)], hp := { next := h.next + 1 + 1, blks := (h.next + 1, { cells := [.int .i64 2, .int .i64 0, .int .i64 0, .int .i64 0], ch := h.next + 1, wr := true }) :: (h.next, { cells := [.int .i64 0, .int .i64 0, .int .i64 0, .int .i64 0], ch := h.next, wr := true }) :: h.blks, loops := h.loops, base := h.next, esc := false } }) (0) ?_ ?_
  ·
    refine ⟨(), _, _, rfl, trivial, rfl⟩
  rintro nA sA ⟨z, u5, u10, hnA, hi, rfl⟩
  simp (disch := first|(simp only [Nat.reduceBEq,wE];done)|((repeat' (first|assumption|exact mAx _|refine mBx ?_ ?_|exact mCx (by assumption)|refine mDx ?_|refine mEx ?_ ?_ ?_|exact mFx|refine mGx ?_ ?_ ?_|exact mHx|exact mIx _|(simp only [wM,Nat.reduceAdd,Nat.reduceLT,Nat.reduceLeDiff];done)));done)|omega|decide) only [↓wA,wB,wL,resOf,Nat.reduceBEq,Int.reduceBEq,Int.reduceBNe,Int.reduceLT,Int.reduceLE,Int.reduceAdd,Int.reduceSub,Int.reduceMul,Int.reduceToNat]
  exact ⟨_, rfl, rfl, by (repeat' (first|assumption|exact mAx _|refine mBx ?_ ?_|exact mCx (by assumption)|refine mDx ?_|refine mEx ?_ ?_ ?_|exact mFx|refine mGx ?_ ?_ ?_|exact mHx|exact mIx _|(simp only [wM,Nat.reduceAdd,Nat.reduceLT,Nat.reduceLeDiff];done)))⟩

def prodB (h : Hp) (x y : Qt) : Nat → List (Nat × Blk)
  | 0 => (h.next + 1, { cells := [.int .i64 2, .int .i64 0, .int .i64 0, .int .i64 0], ch := h.next + 1, wr := true }) :: (h.next, { cells := [.int .i64 0, .int .i64 0, .int .i64 0, .int .i64 0], ch := h.next, wr := true }) :: h.blks
  | 1 => (h.next + 1 + 1, { cells := [.int .i64 x.a, .int .i64 x.b, .int .i64 x.c, .int .i64 x.d], ch := h.next + 1 + 1, wr := true }) :: (h.next + 1, { cells := [.int .i64 x.a, .int .i64 x.b, .int .i64 x.c, .int .i64 x.d], ch := h.next + 1, wr := true }) :: (h.next, { cells := [.int .i64 0, .int .i64 0, .int .i64 0, .int .i64 0], ch := h.next, wr := true }) :: h.blks
  | _ => (h.next + 1 + 1 + 1, { cells := [.int .i64 y.a, .int .i64 y.b, .int .i64 y.c, .int .i64 y.d], ch := h.next + 1 + 1 + 1, wr := true }) :: (h.next + 1 + 1, { cells := [.int .i64 x.a, .int .i64 x.b, .int .i64 x.c, .int .i64 x.d], ch := h.next + 1 + 1, wr := true }) :: (h.next + 1, { cells := [.int .i64 (x.mul y).a, .int .i64 (x.mul y).b, .int .i64 (x.mul y).c, .int .i64 (x.mul y).d], ch := h.next + 1, wr := true }) :: (h.next, { cells := [.int .i64 0, .int .i64 0, .int .i64 0, .int .i64 0], ch := h.next, wr := true }) :: h.blks

def prodN (h : Hp) : Nat → Nat
  | 0 => h.next + 1 + 1
  | 1 => h.next + 1 + 1 + 1
  | _ => h.next + 1 + 1 + 1 + 1

theorem f22 (a : AV) (x y : Qt) (h : Hp) (hk : Hok h) (ha : Quads h.blks a [x, y]) (hx : x.bd 16777216) (hy : y.bd 16777216) (ix : x.int) (iy : y.int) :
    Evals Try.prog tab false (.func 22) [a] h ((AV.ag [.int .i64 ((x.mul y)).a, .int .i64 ((x.mul y)).b, .int .i64 ((x.mul y)).c, .int .i64 ((x.mul y)).d]), h) := by
  refine evals_pure c22 rfl hk ?_
  simp only [sf22, initS_cons, initS_nil]
  simp (disch := first|(simp only [Nat.reduceBEq,wE];done)|((repeat' (first|assumption|exact mAx _|refine mBx ?_ ?_|exact mCx (by assumption)|refine mDx ?_|refine mEx ?_ ?_ ?_|exact mFx|refine mGx ?_ ?_ ?_|exact mHx|exact mIx _|(simp only [wM,Nat.reduceAdd,Nat.reduceLT,Nat.reduceLeDiff];done)));done)|omega|decide) only [ha.len, ↓wA,wB,wL,resOf,Nat.reduceBEq,Int.reduceBEq,Int.reduceBNe,Int.reduceLT,Int.reduceLE,Int.reduceAdd,Int.reduceSub,Int.reduceMul,Int.reduceToNat]
  refine wloop (fun mm ss => ∃ (i : Nat) (u5 u10 : AV), (mm = 2 - i) ∧ (i ≤ 2) ∧ ss = { fr := [(0, a), (2, .ptr h.next 0), (3, .ptr (h.next + 1) 0), (5, u5), (7, a), (8, .int .i64 2), (9, .int .i64 i), (10, u10)], hp := { next := prodN h i, blks := prodB h x y i, loops := h.loops, base := h.next, esc := false } }) (2) ?_ ?_
  ·
    refine ⟨0, _, _, by omega, by omega, rfl⟩
  rintro nA sA ⟨i, u5, u10, hnA, hi, rfl⟩
  have hL : ([x, y] : List Qt).length = 2 := rfl
  have l0 : ([x, y] : List Qt).getD 0 default = x := rfl
  have l1 : ([x, y] : List Qt).getD 1 default = y := rfl
  have two : (⟨2, 0, 0, 0⟩ : Qt).int ∧ (⟨2, 0, 0, 0⟩ : Qt).bd 16777216 := by simp only [Qt.int, Qt.bd]; omega
  have om := Qt.one_mul (x := x)
  rcases (by omega : i = 0 ∨ i = 1 ∨ i = 2) with rfl | rfl | rfl
  · simp (disch := first|(simp only [Nat.reduceBEq,wE];done)|((repeat' (first|assumption|exact mAx _|refine mBx ?_ ?_|exact mCx (by assumption)|refine mDx ?_|refine mEx ?_ ?_ ?_|exact mFx|refine mGx ?_ ?_ ?_|exact mHx|exact mIx _|(simp only [wM,Nat.reduceAdd,Nat.reduceLT,Nat.reduceLeDiff];done)));done)|omega|decide) only [prodN, prodB, ha.ix, ha.lda, l0, ↓wA,wB,wL,resOf,Nat.reduceBEq,Int.reduceBEq,Int.reduceBNe,Int.reduceLT,Int.reduceLE,Int.reduceAdd,Int.reduceSub,Int.reduceMul,Int.reduceToNat]
    refine callP (f34 ⟨2, 0, 0, 0⟩ x _ (by (repeat' (first|assumption|exact mAx _|refine mBx ?_ ?_|exact mCx (by assumption)|refine mDx ?_|refine mEx ?_ ?_ ?_|exact mFx|refine mGx ?_ ?_ ?_|exact mHx|exact mIx _|(simp only [wM,Nat.reduceAdd,Nat.reduceLT,Nat.reduceLeDiff];done)))) two.2 hx two.1 ix) ?_
    rw [om]
    simp (disch := first|(simp only [Nat.reduceBEq,wE];done)|((repeat' (first|assumption|exact mAx _|refine mBx ?_ ?_|exact mCx (by assumption)|refine mDx ?_|refine mEx ?_ ?_ ?_|exact mFx|refine mGx ?_ ?_ ?_|exact mHx|exact mIx _|(simp only [wM,Nat.reduceAdd,Nat.reduceLT,Nat.reduceLeDiff];done)));done)|omega|decide) only [↓wA,wB,wL,resOf,Nat.reduceBEq,Int.reduceBEq,Int.reduceBNe,Int.reduceLT,Int.reduceLE,Int.reduceAdd,Int.reduceSub,Int.reduceMul,Int.reduceToNat]
    refine ⟨_, ?_, 1, _, _, rfl, ?_, rfl⟩
    · omega
    omega
  · simp (disch := first|(simp only [Nat.reduceBEq,wE];done)|((repeat' (first|assumption|exact mAx _|refine mBx ?_ ?_|exact mCx (by assumption)|refine mDx ?_|refine mEx ?_ ?_ ?_|exact mFx|refine mGx ?_ ?_ ?_|exact mHx|exact mIx _|(simp only [wM,Nat.reduceAdd,Nat.reduceLT,Nat.reduceLeDiff];done)));done)|omega|decide) only [prodN, prodB, ha.ix, ha.lda, l1, ↓wA,wB,wL,resOf,Nat.reduceBEq,Int.reduceBEq,Int.reduceBNe,Int.reduceLT,Int.reduceLE,Int.reduceAdd,Int.reduceSub,Int.reduceMul,Int.reduceToNat]
    refine callP (f34 x y _ (by (repeat' (first|assumption|exact mAx _|refine mBx ?_ ?_|exact mCx (by assumption)|refine mDx ?_|refine mEx ?_ ?_ ?_|exact mFx|refine mGx ?_ ?_ ?_|exact mHx|exact mIx _|(simp only [wM,Nat.reduceAdd,Nat.reduceLT,Nat.reduceLeDiff];done)))) hx hy ix iy) ?_
    simp (disch := first|(simp only [Nat.reduceBEq,wE];done)|((repeat' (first|assumption|exact mAx _|refine mBx ?_ ?_|exact mCx (by assumption)|refine mDx ?_|refine mEx ?_ ?_ ?_|exact mFx|refine mGx ?_ ?_ ?_|exact mHx|exact mIx _|(simp only [wM,Nat.reduceAdd,Nat.reduceLT,Nat.reduceLeDiff];done)));done)|omega|decide) only [↓wA,wB,wL,resOf,Nat.reduceBEq,Int.reduceBEq,Int.reduceBNe,Int.reduceLT,Int.reduceLE,Int.reduceAdd,Int.reduceSub,Int.reduceMul,Int.reduceToNat]
    refine ⟨_, ?_, 2, _, _, rfl, ?_, rfl⟩
    · omega
    omega
  · simp (disch := first|(simp only [Nat.reduceBEq,wE];done)|((repeat' (first|assumption|exact mAx _|refine mBx ?_ ?_|exact mCx (by assumption)|refine mDx ?_|refine mEx ?_ ?_ ?_|exact mFx|refine mGx ?_ ?_ ?_|exact mHx|exact mIx _|(simp only [wM,Nat.reduceAdd,Nat.reduceLT,Nat.reduceLeDiff];done)));done)|omega|decide) only [prodN, prodB, ↓wA,wB,wL,resOf,Nat.reduceBEq,Int.reduceBEq,Int.reduceBNe,Int.reduceLT,Int.reduceLE,Int.reduceAdd,Int.reduceSub,Int.reduceMul,Int.reduceToNat]
    exact ⟨_, rfl, rfl, by (repeat' (first|assumption|exact mAx _|refine mBx ?_ ?_|exact mCx (by assumption)|refine mDx ?_|refine mEx ?_ ?_ ?_|exact mFx|refine mGx ?_ ?_ ?_|exact mHx|exact mIx _|(simp only [wM,Nat.reduceAdd,Nat.reduceLT,Nat.reduceLeDiff];done)))⟩

end Go.Proofs.Ythalpbiifpfagaa

