/- The reference: parts, checks, products, conjugates, norms. -/
import Derived.Test.YtpobklkllfokdaaNF
set_option linter.unusedSimpArgs false
set_option linter.unusedVariables false
set_option maxHeartbeats 1000000
namespace Go.Nm
abbrev Qt.lst (x : Qt) : List Int := [x.a, x.b, x.c, x.d]
end Go.Nm
namespace Go.Proofs.Ytpobklkllfokdaa
open Go Go.Abs Go.Nm

theorem f46 (x : Qt) (h : Hp) (hk : Hok h) :
    ∃ v h', Evals Try.prog tab false (.func 46) [(AV.ag [.int .i64 x.a, .int .i64 x.b, .int .i64 x.c, .int .i64 x.d])] h (v, h') ∧ Grown h h' ∧ Own h.next h'.blks .i64 v x.lst := by
  refine evals_q c46 (fun v h' => Own h.next h'.blks .i64 v x.lst) rfl hk ?_ (fun v h1 g q => q.leave)
  simp only [sf46, initS_cons, initS_nil]
  simp (disch := first|(simp only [Nat.reduceBEq,wE];done)|((repeat' (first|assumption|exact mAx _|refine mBx ?_ ?_|exact mCx (by assumption)|refine mDx ?_|refine mEx ?_ ?_ ?_|exact mFx|refine mGx ?_ ?_ ?_|exact mHx|exact mIx _|(simp only [wM,Nat.reduceAdd,Nat.reduceLT,Nat.reduceLeDiff];done)));done)|omega|decide) only [sBS_i4, ↓wA,wB,wL,resOf,Nat.reduceBEq,Int.reduceBEq,Int.reduceBNe,Int.reduceLT,Int.reduceLE,Int.reduceAdd,Int.reduceSub,Int.reduceMul,Int.reduceToNat]
  exact ⟨_, rfl, by (repeat' (first|assumption|exact mAx _|refine mBx ?_ ?_|exact mCx (by assumption)|refine mDx ?_|refine mEx ?_ ?_ ?_|exact mFx|refine mGx ?_ ?_ ?_|exact mHx|exact mIx _|(simp only [wM,Nat.reduceAdd,Nat.reduceLT,Nat.reduceLeDiff];done))), Own.fresh (zs := x.lst) (by omega) rfl rfl rfl (Nat.le_refl 4)⟩

theorem f55 (a : AV) (x : Qt) (h : Hp) (hk : Hok h) (ha : Ints h.blks .i64 a x.lst) : Evals Try.prog tab false (.func 55) [a] h ((AV.ag [.int .i64 x.a, .int .i64 x.b, .int .i64 x.c, .int .i64 x.d]), h) := by
  refine evals_pure c55 rfl hk ?_
  simp only [sf55, initS_cons, initS_nil]
  have hL : x.lst.length = 4 := rfl
  have g0 : x.lst.getD 0 0 = x.a := rfl
  have g1 : x.lst.getD 1 0 = x.b := rfl
  have g2 : x.lst.getD 2 0 = x.c := rfl
  have g3 : x.lst.getD 3 0 = x.d := rfl
  simp (disch := first|(simp only [Nat.reduceBEq,wE];done)|((repeat' (first|assumption|exact mAx _|refine mBx ?_ ?_|exact mCx (by assumption)|refine mDx ?_|refine mEx ?_ ?_ ?_|exact mFx|refine mGx ?_ ?_ ?_|exact mHx|exact mIx _|(simp only [wM,Nat.reduceAdd,Nat.reduceLT,Nat.reduceLeDiff];done)));done)|omega|decide) only [ha.ix, ha.ld, g0, g1, g2, g3, ↓wA,wB,wL,resOf,Nat.reduceBEq,Int.reduceBEq,Int.reduceBNe,Int.reduceLT,Int.reduceLE,Int.reduceAdd,Int.reduceSub,Int.reduceMul,Int.reduceToNat]
  exact ⟨_, rfl, rfl, by (repeat' (first|assumption|exact mAx _|refine mBx ?_ ?_|exact mCx (by assumption)|refine mDx ?_|refine mEx ?_ ?_ ?_|exact mFx|refine mGx ?_ ?_ ?_|exact mHx|exact mIx _|(simp only [wM,Nat.reduceAdd,Nat.reduceLT,Nat.reduceLeDiff];done)))⟩

theorem f21 (x : Qt) (h : Hp) (hk : Hok h) (hx : x.bd 1000000000000) :
    Evals Try.prog tab false (.func 21) [(AV.ag [.int .i64 x.a, .int .i64 x.b, .int .i64 x.c, .int .i64 x.d])] h ((AV.ag [.int .i64 x.conj.a, .int .i64 x.conj.b, .int .i64 x.conj.c, .int .i64 x.conj.d]), h) := by
  refine evals_pure c21 rfl hk ?_
  simp only [sf21, initS_cons, initS_nil]
  obtain ⟨x1, x2, x3, x4⟩ := hx
  simp (disch := first|(simp only [Nat.reduceBEq,wE];done)|((repeat' (first|assumption|exact mAx _|refine mBx ?_ ?_|exact mCx (by assumption)|refine mDx ?_|refine mEx ?_ ?_ ?_|exact mFx|refine mGx ?_ ?_ ?_|exact mHx|exact mIx _|(simp only [wM,Nat.reduceAdd,Nat.reduceLT,Nat.reduceLeDiff];done)));done)|omega|decide) only [↓wA,wB,wL,resOf,Nat.reduceBEq,Int.reduceBEq,Int.reduceBNe,Int.reduceLT,Int.reduceLE,Int.reduceAdd,Int.reduceSub,Int.reduceMul,Int.reduceToNat]
  exact ⟨_, rfl, by simp [Qt.conj], by (repeat' (first|assumption|exact mAx _|refine mBx ?_ ?_|exact mCx (by assumption)|refine mDx ?_|refine mEx ?_ ?_ ?_|exact mFx|refine mGx ?_ ?_ ?_|exact mHx|exact mIx _|(simp only [wM,Nat.reduceAdd,Nat.reduceLT,Nat.reduceLeDiff];done)))⟩

theorem f22 (x : Qt) (h : Hp) (hk : Hok h) (hx : x.bd 16777216) :
    Evals Try.prog tab false (.func 22) [(AV.ag [.int .i64 x.a, .int .i64 x.b, .int .i64 x.c, .int .i64 x.d])] h (.int .i64 x.nrm, h) := by
  refine evals_pure c22 rfl hk ?_
  simp only [sf22, initS_cons, initS_nil]
  obtain ⟨x1, x2, x3, x4⟩ := hx
  have b1 := mul_bd 16777216 16777216 x1 x1
  have b2 := mul_bd 16777216 16777216 x2 x2
  have b3 := mul_bd 16777216 16777216 x3 x3
  have b4 := mul_bd 16777216 16777216 x4 x4
  have n1 := sq_nonneg' x.a
  have n2 := sq_nonneg' x.b
  have n3 := sq_nonneg' x.c
  have n4 := sq_nonneg' x.d
  simp (disch := first|(simp only [Nat.reduceBEq,wE];done)|((repeat' (first|assumption|exact mAx _|refine mBx ?_ ?_|exact mCx (by assumption)|refine mDx ?_|refine mEx ?_ ?_ ?_|exact mFx|refine mGx ?_ ?_ ?_|exact mHx|exact mIx _|(simp only [wM,Nat.reduceAdd,Nat.reduceLT,Nat.reduceLeDiff];done)));done)|omega|decide) only [sBin_quo, ↓wA,wB,wL,resOf,Nat.reduceBEq,Int.reduceBEq,Int.reduceBNe,Int.reduceLT,Int.reduceLE,Int.reduceAdd,Int.reduceSub,Int.reduceMul,Int.reduceToNat]
  exact ⟨_, rfl, by simp [Qt.nrm, Qt.sq], by (repeat' (first|assumption|exact mAx _|refine mBx ?_ ?_|exact mCx (by assumption)|refine mDx ?_|refine mEx ?_ ?_ ?_|exact mFx|refine mGx ?_ ?_ ?_|exact mHx|exact mIx _|(simp only [wM,Nat.reduceAdd,Nat.reduceLT,Nat.reduceLeDiff];done)))⟩

set_option maxRecDepth 100000 in
set_option maxHeartbeats 4000000 in
theorem f24 (x y : Qt) (h : Hp) (hk : Hok h) (hx : x.bd 16777216) (hy : y.bd 16777216) (ix : x.int) (iy : y.int) :
    Evals Try.prog tab false (.func 24) [(AV.ag [.int .i64 x.a, .int .i64 x.b, .int .i64 x.c, .int .i64 x.d]), (AV.ag [.int .i64 y.a, .int .i64 y.b, .int .i64 y.c, .int .i64 y.d])] h ((AV.ag [.int .i64 ((x.mul y)).a, .int .i64 ((x.mul y)).b, .int .i64 ((x.mul y)).c, .int .i64 ((x.mul y)).d]), h) := by
  refine evals_pure c24 rfl hk ?_
  simp only [sf24, initS_cons, initS_nil]
  obtain ⟨x1, x2, x3, x4⟩ := hx
  obtain ⟨y1, y2, y3, y4⟩ := hy
  have b11 := mul_bd 16777216 16777216 x1 y1
  have b12 := mul_bd 16777216 16777216 x1 y2
  have b13 := mul_bd 16777216 16777216 x1 y3
  have b14 := mul_bd 16777216 16777216 x1 y4
  have b21 := mul_bd 16777216 16777216 x2 y1
  have b22 := mul_bd 16777216 16777216 x2 y2
  have b23 := mul_bd 16777216 16777216 x2 y3
  have b24 := mul_bd 16777216 16777216 x2 y4
  have b31 := mul_bd 16777216 16777216 x3 y1
  have b32 := mul_bd 16777216 16777216 x3 y2
  have b33 := mul_bd 16777216 16777216 x3 y3
  have b34 := mul_bd 16777216 16777216 x3 y4
  have b41 := mul_bd 16777216 16777216 x4 y1
  have b42 := mul_bd 16777216 16777216 x4 y2
  have b43 := mul_bd 16777216 16777216 x4 y3
  have b44 := mul_bd 16777216 16777216 x4 y4
  obtain ⟨e1, e2, e3, e4, _⟩ := Qt.mul_int ix iy
  simp only [Qt.sa, Qt.sb, Qt.sc, Qt.sd] at e1 e2 e3 e4
  simp (disch := first|(simp only [Nat.reduceBEq,wE];done)|((repeat' (first|assumption|exact mAx _|refine mBx ?_ ?_|exact mCx (by assumption)|refine mDx ?_|refine mEx ?_ ?_ ?_|exact mFx|refine mGx ?_ ?_ ?_|exact mHx|exact mIx _|(simp only [wM,Nat.reduceAdd,Nat.reduceLT,Nat.reduceLeDiff];done)));done)|omega|decide) only [sBin_quoL, ↓wA,wB,wL,resOf,Nat.reduceBEq,Int.reduceBEq,Int.reduceBNe,Int.reduceLT,Int.reduceLE,Int.reduceAdd,Int.reduceSub,Int.reduceMul,Int.reduceToNat]
  refine ⟨_, rfl, ?_, by (repeat' (first|assumption|exact mAx _|refine mBx ?_ ?_|exact mCx (by assumption)|refine mDx ?_|refine mEx ?_ ?_ ?_|exact mFx|refine mGx ?_ ?_ ?_|exact mHx|exact mIx _|(simp only [wM,Nat.reduceAdd,Nat.reduceLT,Nat.reduceLeDiff];done)))⟩
  simp only [Qt.mul, Qt.sa, Qt.sb, Qt.sc, Qt.sd]
  rw [tdiv_even e1, tdiv_even e2, tdiv_even e3, tdiv_even e4]

set_option maxRecDepth 100000 in
set_option maxHeartbeats 4000000 in
theorem f20 (a : AV) (l : List Qt) (h : Hp) (hk : Hok h) (ha : Quads h.blks a l) (hl : l.length ≤ 1000) :
    Evals Try.prog tab false (.func 20) [a] h (.int .i64 (errOf l), h) := by
  refine evals_pure c20 rfl hk ?_
  simp only [sf20, initS_cons, initS_nil]
  simp (disch := first|(simp only [Nat.reduceBEq,wE];done)|((repeat' (first|assumption|exact mAx _|refine mBx ?_ ?_|exact mCx (by assumption)|refine mDx ?_|refine mEx ?_ ?_ ?_|exact mFx|refine mGx ?_ ?_ ?_|exact mHx|exact mIx _|(simp only [wM,Nat.reduceAdd,Nat.reduceLT,Nat.reduceLeDiff];done)));done)|omega|decide) only [↓wA,wB,wL,resOf,Nat.reduceBEq,Int.reduceBEq,Int.reduceBNe,Int.reduceLT,Int.reduceLE,Int.reduceAdd,Int.reduceSub,Int.reduceMul,Int.reduceToNat]
  refine wloop (fun mm ss => ∃ (i : Nat) (h1 : Hp) (u4 u5 u6 u7 u8 u12 u21 u33 u37 u46 u54 : AV), (mm = l.length - i) ∧ (i ≤ l.length ∧ Grown h h1 ∧ (∀ q ∈ l.take i, q.int)) ∧ ss = { fr := [(0, a), (2, .int .i64 0), (3, .int .i64 i), (4, u4), (5, u5), (6, u6), (7, u7), (8, u8), (12, u12), (21, u21), (33, u33), (37, u37), (46, u46), (54, u54)], hp := h1 }) (l.length) ?_ ?_
  ·
    refine ⟨0, _, _, _, _, _, _, _, _, _, _, _, _, by omega, ⟨by omega, by (repeat' (first|assumption|exact mAx _|refine mBx ?_ ?_|exact mCx (by assumption)|refine mDx ?_|refine mEx ?_ ?_ ?_|exact mFx|refine mGx ?_ ?_ ?_|exact mHx|exact mIx _|(simp only [wM,Nat.reduceAdd,Nat.reduceLT,Nat.reduceLeDiff];done))), by simp⟩, rfl⟩
  rintro nA sA ⟨i, h1, u4, u5, u6, u7, u8, u12, u21, u33, u37, u46, u54, hnA, ⟨hi, g1, hv⟩, rfl⟩
  have k1 := g1.ok hk
  have a1 := ha.sub (g1.sub hk)
  simp (disch := first|(simp only [Nat.reduceBEq,wE];done)|((repeat' (first|assumption|exact mAx _|refine mBx ?_ ?_|exact mCx (by assumption)|refine mDx ?_|refine mEx ?_ ?_ ?_|exact mFx|refine mGx ?_ ?_ ?_|exact mHx|exact mIx _|(simp only [wM,Nat.reduceAdd,Nat.reduceLT,Nat.reduceLeDiff];done)));done)|omega|decide) only [a1.len, ↓wA,wB,wL,resOf,Nat.reduceBEq,Int.reduceBEq,Int.reduceBNe,Int.reduceLT,Int.reduceLE,Int.reduceAdd,Int.reduceSub,Int.reduceMul,Int.reduceToNat]
  refine ifThen_intro (fun e => ?_) (fun e => ?_) <;> have eq := e <;> try simp [-List.getD_eq_getElem?_getD] at eq
  · obtain ⟨q, hq⟩ : ∃ q, q = l.getD i default := ⟨_, rfl⟩
    have lda := a1.lda (Sub.refl _) (i := i) (by omega)
    rw [← hq] at lda
    have hL : q.lst.length = 4 := rfl
    have g0 : q.lst.getD 0 0 = q.a := rfl
    have e1 : q.lst.getD 1 0 = q.b := rfl
    have e2 : q.lst.getD 2 0 = q.c := rfl
    have e3 : q.lst.getD 3 0 = q.d := rfl
    simp (disch := first|(simp only [Nat.reduceBEq,wE];done)|((repeat' (first|assumption|exact mAx _|refine mBx ?_ ?_|exact mCx (by assumption)|refine mDx ?_|refine mEx ?_ ?_ ?_|exact mFx|refine mGx ?_ ?_ ?_|exact mHx|exact mIx _|(simp only [wM,Nat.reduceAdd,Nat.reduceLT,Nat.reduceLeDiff];done)));done)|omega|decide) only [e, e, a1.ix, lda, ↓wA,wB,wL,resOf,Nat.reduceBEq,Int.reduceBEq,Int.reduceBNe,Int.reduceLT,Int.reduceLE,Int.reduceAdd,Int.reduceSub,Int.reduceMul,Int.reduceToNat]
    refine callE (f46 q _ k1) ?_
    rintro p h2 ⟨g2, o2⟩
    have gg := GrownR.trans g1 g2
    have k2 := gg.ok hk
    simp (disch := first|(simp only [Nat.reduceBEq,wE];done)|((repeat' (first|assumption|exact mAx _|refine mBx ?_ ?_|exact mCx (by assumption)|refine mDx ?_|refine mEx ?_ ?_ ?_|exact mFx|refine mGx ?_ ?_ ?_|exact mHx|exact mIx _|(simp only [wM,Nat.reduceAdd,Nat.reduceLT,Nat.reduceLeDiff];done)));done)|omega|decide) only [e, ↓wA,wB,wL,resOf,Nat.reduceBEq,Int.reduceBEq,Int.reduceBNe,Int.reduceLT,Int.reduceLE,Int.reduceAdd,Int.reduceSub,Int.reduceMul,Int.reduceToNat]
    have bad : ¬ q.int → errOf l = 2 := fun hb => by
      unfold errOf
      rw [if_neg (fun hh => hb (hq ▸ hh _ (getD_mem (by omega))))]
    refine wloop (fun mm ss => ∃ (j : Nat) (u6 u7 u8 u12 u21 u33 u37 u46 u54 : AV), (mm = 4 - j) ∧ (1 ≤ j ∧ j ≤ 4 ∧ (∀ t, t < j → q.at t % 2 = q.a % 2)) ∧ ss = { fr := [(0, a), (2, .int .i64 0), (3, .int .i64 i), (4, p), (5, .int .i64 j), (6, u6), (7, u7), (8, u8), (12, u12), (21, u21), (33, u33), (37, u37), (46, u46), (54, u54)], hp := h2 }) (3) ?_ ?_
    ·
      refine ⟨1, _, _, _, _, _, _, _, _, _, by omega, ⟨by omega, by omega, fun t ht => by rw [show t = 0 by omega]; rfl⟩, rfl⟩
    rintro nC sC ⟨j, u6, u7, u8, u12, u21, u33, u37, u46, u54, hnC, ⟨hj0, hj, hc⟩, rfl⟩
    have step : ∀ r : Int, q.at j = r → r % 2 = q.a % 2 → ∀ t, t < j + 1 → q.at t % 2 = q.a % 2 := fun r hr hb t ht => by
      rcases (by omega : t < j ∨ t = j) with ht | rfl
      · exact hc t ht
      · rw [hr]; exact hb
    have oi := o2.ints
    rcases (by omega : j = 4 ∨ j = 1 ∨ j = 2 ∨ j = 3) with rfl | rfl | rfl | rfl
    · have hqi : q.int := ⟨hc 1 (by omega), hc 2 (by omega), hc 3 (by omega)⟩
      simp (disch := first|(simp only [Nat.reduceBEq,wE];done)|((repeat' (first|assumption|exact mAx _|refine mBx ?_ ?_|exact mCx (by assumption)|refine mDx ?_|refine mEx ?_ ?_ ?_|exact mFx|refine mGx ?_ ?_ ?_|exact mHx|exact mIx _|(simp only [wM,Nat.reduceAdd,Nat.reduceLT,Nat.reduceLeDiff];done)));done)|omega|decide) only [e, ↓wA,wB,wL,resOf,Nat.reduceBEq,Int.reduceBEq,Int.reduceBNe,Int.reduceLT,Int.reduceLE,Int.reduceAdd,Int.reduceSub,Int.reduceMul,Int.reduceToNat]
      refine ⟨_, ?_, i + 1, _, _, _, _, _, _, _, _, _, _, _, _, rfl, ?_, rfl⟩
      · omega
      exact ⟨by omega, gg, take_succ_all (by omega) hv (hq ▸ hqi)⟩
    · simp (disch := first|(simp only [Nat.reduceBEq,wE];done)|((repeat' (first|assumption|exact mAx _|refine mBx ?_ ?_|exact mCx (by assumption)|refine mDx ?_|refine mEx ?_ ?_ ?_|exact mFx|refine mGx ?_ ?_ ?_|exact mHx|exact mIx _|(simp only [wM,Nat.reduceAdd,Nat.reduceLT,Nat.reduceLeDiff];done)));done)|omega|decide) only [e, oi.ix, oi.ld, g0, e1, ↓wA,wB,wL,resOf,Nat.reduceBEq,Int.reduceBEq,Int.reduceBNe,Int.reduceLT,Int.reduceLE,Int.reduceAdd,Int.reduceSub,Int.reduceMul,Int.reduceToNat]
      by_cases hb : q.b % 2 = q.a % 2
      · have hb' : (q.b % 2 != q.a % 2) = false := by simp [hb]
        simp (disch := first|(simp only [Nat.reduceBEq,wE];done)|((repeat' (first|assumption|exact mAx _|refine mBx ?_ ?_|exact mCx (by assumption)|refine mDx ?_|refine mEx ?_ ?_ ?_|exact mFx|refine mGx ?_ ?_ ?_|exact mHx|exact mIx _|(simp only [wM,Nat.reduceAdd,Nat.reduceLT,Nat.reduceLeDiff];done)));done)|omega|decide) only [e, hb', ↓wA,wB,wL,resOf,Nat.reduceBEq,Int.reduceBEq,Int.reduceBNe,Int.reduceLT,Int.reduceLE,Int.reduceAdd,Int.reduceSub,Int.reduceMul,Int.reduceToNat]
        refine ⟨_, ?_, 2, _, _, _, _, _, _, _, _, _, rfl, ?_, rfl⟩
        · omega
        exact ⟨by omega, by omega, step _ rfl hb⟩
      · have hb' : (q.b % 2 != q.a % 2) = true := by simp [hb]
        simp (disch := first|(simp only [Nat.reduceBEq,wE];done)|((repeat' (first|assumption|exact mAx _|refine mBx ?_ ?_|exact mCx (by assumption)|refine mDx ?_|refine mEx ?_ ?_ ?_|exact mFx|refine mGx ?_ ?_ ?_|exact mHx|exact mIx _|(simp only [wM,Nat.reduceAdd,Nat.reduceLT,Nat.reduceLeDiff];done)));done)|omega|decide) only [e, hb', ↓wA,wB,wL,resOf,Nat.reduceBEq,Int.reduceBEq,Int.reduceBNe,Int.reduceLT,Int.reduceLE,Int.reduceAdd,Int.reduceSub,Int.reduceMul,Int.reduceToNat]
        exact ⟨_, rfl, by rw [bad (fun hh => hb hh.1)], gg⟩
    · simp (disch := first|(simp only [Nat.reduceBEq,wE];done)|((repeat' (first|assumption|exact mAx _|refine mBx ?_ ?_|exact mCx (by assumption)|refine mDx ?_|refine mEx ?_ ?_ ?_|exact mFx|refine mGx ?_ ?_ ?_|exact mHx|exact mIx _|(simp only [wM,Nat.reduceAdd,Nat.reduceLT,Nat.reduceLeDiff];done)));done)|omega|decide) only [e, oi.ix, oi.ld, g0, e2, ↓wA,wB,wL,resOf,Nat.reduceBEq,Int.reduceBEq,Int.reduceBNe,Int.reduceLT,Int.reduceLE,Int.reduceAdd,Int.reduceSub,Int.reduceMul,Int.reduceToNat]
      by_cases hb : q.c % 2 = q.a % 2
      · have hb' : (q.c % 2 != q.a % 2) = false := by simp [hb]
        simp (disch := first|(simp only [Nat.reduceBEq,wE];done)|((repeat' (first|assumption|exact mAx _|refine mBx ?_ ?_|exact mCx (by assumption)|refine mDx ?_|refine mEx ?_ ?_ ?_|exact mFx|refine mGx ?_ ?_ ?_|exact mHx|exact mIx _|(simp only [wM,Nat.reduceAdd,Nat.reduceLT,Nat.reduceLeDiff];done)));done)|omega|decide) only [e, hb', ↓wA,wB,wL,resOf,Nat.reduceBEq,Int.reduceBEq,Int.reduceBNe,Int.reduceLT,Int.reduceLE,Int.reduceAdd,Int.reduceSub,Int.reduceMul,Int.reduceToNat]
        refine ⟨_, ?_, 3, _, _, _, _, _, _, _, _, _, rfl, ?_, rfl⟩
        · omega
        exact ⟨by omega, by omega, step _ rfl hb⟩
      · have hb' : (q.c % 2 != q.a % 2) = true := by simp [hb]
        simp (disch := first|(simp only [Nat.reduceBEq,wE];done)|((repeat' (first|assumption|exact mAx _|refine mBx ?_ ?_|exact mCx (by assumption)|refine mDx ?_|refine mEx ?_ ?_ ?_|exact mFx|refine mGx ?_ ?_ ?_|exact mHx|exact mIx _|(simp only [wM,Nat.reduceAdd,Nat.reduceLT,Nat.reduceLeDiff];done)));done)|omega|decide) only [e, hb', ↓wA,wB,wL,resOf,Nat.reduceBEq,Int.reduceBEq,Int.reduceBNe,Int.reduceLT,Int.reduceLE,Int.reduceAdd,Int.reduceSub,Int.reduceMul,Int.reduceToNat]
        exact ⟨_, rfl, by rw [bad (fun hh => hb hh.2.1)], gg⟩
    · simp (disch := first|(simp only [Nat.reduceBEq,wE];done)|((repeat' (first|assumption|exact mAx _|refine mBx ?_ ?_|exact mCx (by assumption)|refine mDx ?_|refine mEx ?_ ?_ ?_|exact mFx|refine mGx ?_ ?_ ?_|exact mHx|exact mIx _|(simp only [wM,Nat.reduceAdd,Nat.reduceLT,Nat.reduceLeDiff];done)));done)|omega|decide) only [e, oi.ix, oi.ld, g0, e3, ↓wA,wB,wL,resOf,Nat.reduceBEq,Int.reduceBEq,Int.reduceBNe,Int.reduceLT,Int.reduceLE,Int.reduceAdd,Int.reduceSub,Int.reduceMul,Int.reduceToNat]
      by_cases hb : q.d % 2 = q.a % 2
      · have hb' : (q.d % 2 != q.a % 2) = false := by simp [hb]
        simp (disch := first|(simp only [Nat.reduceBEq,wE];done)|((repeat' (first|assumption|exact mAx _|refine mBx ?_ ?_|exact mCx (by assumption)|refine mDx ?_|refine mEx ?_ ?_ ?_|exact mFx|refine mGx ?_ ?_ ?_|exact mHx|exact mIx _|(simp only [wM,Nat.reduceAdd,Nat.reduceLT,Nat.reduceLeDiff];done)));done)|omega|decide) only [e, hb', ↓wA,wB,wL,resOf,Nat.reduceBEq,Int.reduceBEq,Int.reduceBNe,Int.reduceLT,Int.reduceLE,Int.reduceAdd,Int.reduceSub,Int.reduceMul,Int.reduceToNat]
        refine ⟨_, ?_, 4, _, _, _, _, _, _, _, _, _, rfl, ?_, rfl⟩
        · omega
        exact ⟨by omega, by omega, step _ rfl hb⟩
      · have hb' : (q.d % 2 != q.a % 2) = true := by simp [hb]
        simp (disch := first|(simp only [Nat.reduceBEq,wE];done)|((repeat' (first|assumption|exact mAx _|refine mBx ?_ ?_|exact mCx (by assumption)|refine mDx ?_|refine mEx ?_ ?_ ?_|exact mFx|refine mGx ?_ ?_ ?_|exact mHx|exact mIx _|(simp only [wM,Nat.reduceAdd,Nat.reduceLT,Nat.reduceLeDiff];done)));done)|omega|decide) only [e, hb', ↓wA,wB,wL,resOf,Nat.reduceBEq,Int.reduceBEq,Int.reduceBNe,Int.reduceLT,Int.reduceLE,Int.reduceAdd,Int.reduceSub,Int.reduceMul,Int.reduceToNat]
        exact ⟨_, rfl, by rw [bad (fun hh => hb hh.2.2)], gg⟩
  · rw [List.take_of_length_le (by omega)] at hv
    simp (disch := first|(simp only [Nat.reduceBEq,wE];done)|((repeat' (first|assumption|exact mAx _|refine mBx ?_ ?_|exact mCx (by assumption)|refine mDx ?_|refine mEx ?_ ?_ ?_|exact mFx|refine mGx ?_ ?_ ?_|exact mHx|exact mIx _|(simp only [wM,Nat.reduceAdd,Nat.reduceLT,Nat.reduceLeDiff];done)));done)|omega|decide) only [e, e, ↓wA,wB,wL,resOf,Nat.reduceBEq,Int.reduceBEq,Int.reduceBNe,Int.reduceLT,Int.reduceLE,Int.reduceAdd,Int.reduceSub,Int.reduceMul,Int.reduceToNat]
    refine wloop (fun mm ss => ∃ (i : Nat) (h1 : Hp) (u3 u4 u5 u7 u8 u12 u21 u33 u37 u46 u54 : AV), (mm = l.length - i) ∧ (i ≤ l.length ∧ Grown h h1 ∧ (∀ q ∈ l.take i, q.bd 1000)) ∧ ss = { fr := [(0, a), (2, .int .i64 0), (3, u3), (4, u4), (5, u5), (6, .int .i64 i), (7, u7), (8, u8), (12, u12), (21, u21), (33, u33), (37, u37), (46, u46), (54, u54)], hp := h1 }) (l.length) ?_ ?_
    ·
      refine ⟨0, h1, _, _, _, _, _, _, _, _, _, _, _, by omega, ⟨by omega, g1, by simp⟩, rfl⟩
    rintro nB sB ⟨i, h1, u3, u4, u5, u7, u8, u12, u21, u33, u37, u46, u54, hnB, ⟨hi2, g2, hw⟩, rfl⟩
    have k2 := g2.ok hk
    have a2 := ha.sub (g2.sub hk)
    simp (disch := first|(simp only [Nat.reduceBEq,wE];done)|((repeat' (first|assumption|exact mAx _|refine mBx ?_ ?_|exact mCx (by assumption)|refine mDx ?_|refine mEx ?_ ?_ ?_|exact mFx|refine mGx ?_ ?_ ?_|exact mHx|exact mIx _|(simp only [wM,Nat.reduceAdd,Nat.reduceLT,Nat.reduceLeDiff];done)));done)|omega|decide) only [e, a2.len, ↓wA,wB,wL,resOf,Nat.reduceBEq,Int.reduceBEq,Int.reduceBNe,Int.reduceLT,Int.reduceLE,Int.reduceAdd,Int.reduceSub,Int.reduceMul,Int.reduceToNat]
    refine ifThen_intro (fun e2 => ?_) (fun e2 => ?_) <;> have e2q := e2 <;> try simp [-List.getD_eq_getElem?_getD] at e2q
    · obtain ⟨q, hq⟩ : ∃ q, q = l.getD i default := ⟨_, rfl⟩
      have lda := a2.lda (Sub.refl _) (i := i) (by omega)
      rw [← hq] at lda
      have hL : q.lst.length = 4 := rfl
      have g0 : q.lst.getD 0 0 = q.a := rfl
      have e1 : q.lst.getD 1 0 = q.b := rfl
      have e2 : q.lst.getD 2 0 = q.c := rfl
      have e3 : q.lst.getD 3 0 = q.d := rfl
      simp (disch := first|(simp only [Nat.reduceBEq,wE];done)|((repeat' (first|assumption|exact mAx _|refine mBx ?_ ?_|exact mCx (by assumption)|refine mDx ?_|refine mEx ?_ ?_ ?_|exact mFx|refine mGx ?_ ?_ ?_|exact mHx|exact mIx _|(simp only [wM,Nat.reduceAdd,Nat.reduceLT,Nat.reduceLeDiff];done)));done)|omega|decide) only [e, e2, e2, a2.ix, lda, ↓wA,wB,wL,resOf,Nat.reduceBEq,Int.reduceBEq,Int.reduceBNe,Int.reduceLT,Int.reduceLE,Int.reduceAdd,Int.reduceSub,Int.reduceMul,Int.reduceToNat]
      refine callE (f46 q _ k2) ?_
      rintro p h3 ⟨g3, o3⟩
      have gg := GrownR.trans g2 g3
      have k3 := gg.ok hk
      have oi := o3.ints
      simp (disch := first|(simp only [Nat.reduceBEq,wE];done)|((repeat' (first|assumption|exact mAx _|refine mBx ?_ ?_|exact mCx (by assumption)|refine mDx ?_|refine mEx ?_ ?_ ?_|exact mFx|refine mGx ?_ ?_ ?_|exact mHx|exact mIx _|(simp only [wM,Nat.reduceAdd,Nat.reduceLT,Nat.reduceLeDiff];done)));done)|omega|decide) only [e, e2, ↓wA,wB,wL,resOf,Nat.reduceBEq,Int.reduceBEq,Int.reduceBNe,Int.reduceLT,Int.reduceLE,Int.reduceAdd,Int.reduceSub,Int.reduceMul,Int.reduceToNat]
      refine wloop (fun mm ss => ∃ (j : Nat) (u3 u4 u5 u12 u21 u33 u37 u46 u54 : AV), (mm = 4 - j) ∧ (j ≤ 4 ∧ (∀ t, t < j → -1000 ≤ q.at t ∧ q.at t ≤ 1000)) ∧ ss = { fr := [(0, a), (2, .int .i64 0), (3, u3), (4, u4), (5, u5), (6, .int .i64 i), (7, p), (8, .int .i64 j), (12, u12), (21, u21), (33, u33), (37, u37), (46, u46), (54, u54)], hp := h3 }) (4) ?_ ?_
      ·
        refine ⟨0, _, _, _, _, _, _, _, _, _, by omega, ⟨by omega, fun t ht => by omega⟩, rfl⟩
      rintro nC sC ⟨j, u3, u4, u5, u12, u21, u33, u37, u46, u54, hnC, ⟨hj, hc⟩, rfl⟩
      have step : ∀ r : Int, q.at j = r → -1000 ≤ r ∧ r ≤ 1000 → ∀ t, t < j + 1 → -1000 ≤ q.at t ∧ q.at t ≤ 1000 := fun r hr hb t ht => by
        rcases (by omega : t < j ∨ t = j) with ht | rfl
        · exact hc t ht
        · rw [hr]; exact hb
      have bad : j < 4 → ¬ (-1000 ≤ q.at j ∧ q.at j ≤ 1000) → errOf l = 1 := fun h4 hb => by
        unfold errOf
        rw [if_pos hv, if_neg (fun hh => hb (Qt.bd_at.1 (hq ▸ hh _ (getD_mem (by omega))) j h4))]
      rcases (by omega : j = 4 ∨ j = 0 ∨ j = 1 ∨ j = 2 ∨ j = 3) with rfl | rfl | rfl | rfl | rfl
      · simp (disch := first|(simp only [Nat.reduceBEq,wE];done)|((repeat' (first|assumption|exact mAx _|refine mBx ?_ ?_|exact mCx (by assumption)|refine mDx ?_|refine mEx ?_ ?_ ?_|exact mFx|refine mGx ?_ ?_ ?_|exact mHx|exact mIx _|(simp only [wM,Nat.reduceAdd,Nat.reduceLT,Nat.reduceLeDiff];done)));done)|omega|decide) only [e, e2, ↓wA,wB,wL,resOf,Nat.reduceBEq,Int.reduceBEq,Int.reduceBNe,Int.reduceLT,Int.reduceLE,Int.reduceAdd,Int.reduceSub,Int.reduceMul,Int.reduceToNat]
        refine ⟨_, ?_, i + 1, _, _, _, _, _, _, _, _, _, _, _, _, rfl, ?_, rfl⟩
        · omega
        exact ⟨by omega, gg, take_succ_all (by omega) hw (hq ▸ Qt.bd_at.2 hc)⟩
      · simp (disch := first|(simp only [Nat.reduceBEq,wE];done)|((repeat' (first|assumption|exact mAx _|refine mBx ?_ ?_|exact mCx (by assumption)|refine mDx ?_|refine mEx ?_ ?_ ?_|exact mFx|refine mGx ?_ ?_ ?_|exact mHx|exact mIx _|(simp only [wM,Nat.reduceAdd,Nat.reduceLT,Nat.reduceLeDiff];done)));done)|omega|decide) only [e, e2, oi.ix, oi.ld, g0, ↓wA,wB,wL,resOf,Nat.reduceBEq,Int.reduceBEq,Int.reduceBNe,Int.reduceLT,Int.reduceLE,Int.reduceAdd,Int.reduceSub,Int.reduceMul,Int.reduceToNat]
        refine callP (f32 _ _ _ _ k3) ?_
        by_cases hb : -1000 ≤ q.a ∧ q.a ≤ 1000
        · simp (disch := first|(simp only [Nat.reduceBEq,wE];done)|((repeat' (first|assumption|exact mAx _|refine mBx ?_ ?_|exact mCx (by assumption)|refine mDx ?_|refine mEx ?_ ?_ ?_|exact mFx|refine mGx ?_ ?_ ?_|exact mHx|exact mIx _|(simp only [wM,Nat.reduceAdd,Nat.reduceLT,Nat.reduceLeDiff];done)));done)|omega|decide) only [e, e2, decide_eq_true hb, ↓wA,wB,wL,resOf,Nat.reduceBEq,Int.reduceBEq,Int.reduceBNe,Int.reduceLT,Int.reduceLE,Int.reduceAdd,Int.reduceSub,Int.reduceMul,Int.reduceToNat]
          refine ⟨_, ?_, 1, _, _, _, _, _, _, _, _, _, rfl, ?_, rfl⟩
          · omega
          exact ⟨by omega, step _ rfl hb⟩
        · simp (disch := first|(simp only [Nat.reduceBEq,wE];done)|((repeat' (first|assumption|exact mAx _|refine mBx ?_ ?_|exact mCx (by assumption)|refine mDx ?_|refine mEx ?_ ?_ ?_|exact mFx|refine mGx ?_ ?_ ?_|exact mHx|exact mIx _|(simp only [wM,Nat.reduceAdd,Nat.reduceLT,Nat.reduceLeDiff];done)));done)|omega|decide) only [e, e2, decide_eq_false hb, ↓wA,wB,wL,resOf,Nat.reduceBEq,Int.reduceBEq,Int.reduceBNe,Int.reduceLT,Int.reduceLE,Int.reduceAdd,Int.reduceSub,Int.reduceMul,Int.reduceToNat]
          exact ⟨_, rfl, by rw [bad (by omega) hb], gg⟩
      · simp (disch := first|(simp only [Nat.reduceBEq,wE];done)|((repeat' (first|assumption|exact mAx _|refine mBx ?_ ?_|exact mCx (by assumption)|refine mDx ?_|refine mEx ?_ ?_ ?_|exact mFx|refine mGx ?_ ?_ ?_|exact mHx|exact mIx _|(simp only [wM,Nat.reduceAdd,Nat.reduceLT,Nat.reduceLeDiff];done)));done)|omega|decide) only [e, e2, oi.ix, oi.ld, e1, ↓wA,wB,wL,resOf,Nat.reduceBEq,Int.reduceBEq,Int.reduceBNe,Int.reduceLT,Int.reduceLE,Int.reduceAdd,Int.reduceSub,Int.reduceMul,Int.reduceToNat]
        refine callP (f32 _ _ _ _ k3) ?_
        by_cases hb : -1000 ≤ q.b ∧ q.b ≤ 1000
        · simp (disch := first|(simp only [Nat.reduceBEq,wE];done)|((repeat' (first|assumption|exact mAx _|refine mBx ?_ ?_|exact mCx (by assumption)|refine mDx ?_|refine mEx ?_ ?_ ?_|exact mFx|refine mGx ?_ ?_ ?_|exact mHx|exact mIx _|(simp only [wM,Nat.reduceAdd,Nat.reduceLT,Nat.reduceLeDiff];done)));done)|omega|decide) only [e, e2, decide_eq_true hb, ↓wA,wB,wL,resOf,Nat.reduceBEq,Int.reduceBEq,Int.reduceBNe,Int.reduceLT,Int.reduceLE,Int.reduceAdd,Int.reduceSub,Int.reduceMul,Int.reduceToNat]
          refine ⟨_, ?_, 2, _, _, _, _, _, _, _, _, _, rfl, ?_, rfl⟩
          · omega
          exact ⟨by omega, step _ rfl hb⟩
        · simp (disch := first|(simp only [Nat.reduceBEq,wE];done)|((repeat' (first|assumption|exact mAx _|refine mBx ?_ ?_|exact mCx (by assumption)|refine mDx ?_|refine mEx ?_ ?_ ?_|exact mFx|refine mGx ?_ ?_ ?_|exact mHx|exact mIx _|(simp only [wM,Nat.reduceAdd,Nat.reduceLT,Nat.reduceLeDiff];done)));done)|omega|decide) only [e, e2, decide_eq_false hb, ↓wA,wB,wL,resOf,Nat.reduceBEq,Int.reduceBEq,Int.reduceBNe,Int.reduceLT,Int.reduceLE,Int.reduceAdd,Int.reduceSub,Int.reduceMul,Int.reduceToNat]
          exact ⟨_, rfl, by rw [bad (by omega) hb], gg⟩
      · simp (disch := first|(simp only [Nat.reduceBEq,wE];done)|((repeat' (first|assumption|exact mAx _|refine mBx ?_ ?_|exact mCx (by assumption)|refine mDx ?_|refine mEx ?_ ?_ ?_|exact mFx|refine mGx ?_ ?_ ?_|exact mHx|exact mIx _|(simp only [wM,Nat.reduceAdd,Nat.reduceLT,Nat.reduceLeDiff];done)));done)|omega|decide) only [e, e2, oi.ix, oi.ld, e2, ↓wA,wB,wL,resOf,Nat.reduceBEq,Int.reduceBEq,Int.reduceBNe,Int.reduceLT,Int.reduceLE,Int.reduceAdd,Int.reduceSub,Int.reduceMul,Int.reduceToNat]
        refine callP (f32 _ _ _ _ k3) ?_
        by_cases hb : -1000 ≤ q.c ∧ q.c ≤ 1000
        · simp (disch := first|(simp only [Nat.reduceBEq,wE];done)|((repeat' (first|assumption|exact mAx _|refine mBx ?_ ?_|exact mCx (by assumption)|refine mDx ?_|refine mEx ?_ ?_ ?_|exact mFx|refine mGx ?_ ?_ ?_|exact mHx|exact mIx _|(simp only [wM,Nat.reduceAdd,Nat.reduceLT,Nat.reduceLeDiff];done)));done)|omega|decide) only [e, e2, decide_eq_true hb, ↓wA,wB,wL,resOf,Nat.reduceBEq,Int.reduceBEq,Int.reduceBNe,Int.reduceLT,Int.reduceLE,Int.reduceAdd,Int.reduceSub,Int.reduceMul,Int.reduceToNat]
          refine ⟨_, ?_, 3, _, _, _, _, _, _, _, _, _, rfl, ?_, rfl⟩
          · omega
          exact ⟨by omega, step _ rfl hb⟩
        · simp (disch := first|(simp only [Nat.reduceBEq,wE];done)|((repeat' (first|assumption|exact mAx _|refine mBx ?_ ?_|exact mCx (by assumption)|refine mDx ?_|refine mEx ?_ ?_ ?_|exact mFx|refine mGx ?_ ?_ ?_|exact mHx|exact mIx _|(simp only [wM,Nat.reduceAdd,Nat.reduceLT,Nat.reduceLeDiff];done)));done)|omega|decide) only [e, e2, decide_eq_false hb, ↓wA,wB,wL,resOf,Nat.reduceBEq,Int.reduceBEq,Int.reduceBNe,Int.reduceLT,Int.reduceLE,Int.reduceAdd,Int.reduceSub,Int.reduceMul,Int.reduceToNat]
          exact ⟨_, rfl, by rw [bad (by omega) hb], gg⟩
      · simp (disch := first|(simp only [Nat.reduceBEq,wE];done)|((repeat' (first|assumption|exact mAx _|refine mBx ?_ ?_|exact mCx (by assumption)|refine mDx ?_|refine mEx ?_ ?_ ?_|exact mFx|refine mGx ?_ ?_ ?_|exact mHx|exact mIx _|(simp only [wM,Nat.reduceAdd,Nat.reduceLT,Nat.reduceLeDiff];done)));done)|omega|decide) only [e, e2, oi.ix, oi.ld, e3, ↓wA,wB,wL,resOf,Nat.reduceBEq,Int.reduceBEq,Int.reduceBNe,Int.reduceLT,Int.reduceLE,Int.reduceAdd,Int.reduceSub,Int.reduceMul,Int.reduceToNat]
        refine callP (f32 _ _ _ _ k3) ?_
        by_cases hb : -1000 ≤ q.d ∧ q.d ≤ 1000
        · simp (disch := first|(simp only [Nat.reduceBEq,wE];done)|((repeat' (first|assumption|exact mAx _|refine mBx ?_ ?_|exact mCx (by assumption)|refine mDx ?_|refine mEx ?_ ?_ ?_|exact mFx|refine mGx ?_ ?_ ?_|exact mHx|exact mIx _|(simp only [wM,Nat.reduceAdd,Nat.reduceLT,Nat.reduceLeDiff];done)));done)|omega|decide) only [e, e2, decide_eq_true hb, ↓wA,wB,wL,resOf,Nat.reduceBEq,Int.reduceBEq,Int.reduceBNe,Int.reduceLT,Int.reduceLE,Int.reduceAdd,Int.reduceSub,Int.reduceMul,Int.reduceToNat]
          refine ⟨_, ?_, 4, _, _, _, _, _, _, _, _, _, rfl, ?_, rfl⟩
          · omega
          exact ⟨by omega, step _ rfl hb⟩
        · simp (disch := first|(simp only [Nat.reduceBEq,wE];done)|((repeat' (first|assumption|exact mAx _|refine mBx ?_ ?_|exact mCx (by assumption)|refine mDx ?_|refine mEx ?_ ?_ ?_|exact mFx|refine mGx ?_ ?_ ?_|exact mHx|exact mIx _|(simp only [wM,Nat.reduceAdd,Nat.reduceLT,Nat.reduceLeDiff];done)));done)|omega|decide) only [e, e2, decide_eq_false hb, ↓wA,wB,wL,resOf,Nat.reduceBEq,Int.reduceBEq,Int.reduceBNe,Int.reduceLT,Int.reduceLE,Int.reduceAdd,Int.reduceSub,Int.reduceMul,Int.reduceToNat]
          exact ⟨_, rfl, by rw [bad (by omega) hb], gg⟩
    · simp (disch := first|(simp only [Nat.reduceBEq,wE];done)|((repeat' (first|assumption|exact mAx _|refine mBx ?_ ?_|exact mCx (by assumption)|refine mDx ?_|refine mEx ?_ ?_ ?_|exact mFx|refine mGx ?_ ?_ ?_|exact mHx|exact mIx _|(simp only [wM,Nat.reduceAdd,Nat.reduceLT,Nat.reduceLeDiff];done)));done)|omega|decide) only [e, e2, e2, ↓wA,wB,wL,resOf,Nat.reduceBEq,Int.reduceBEq,Int.reduceBNe,Int.reduceLT,Int.reduceLE,Int.reduceAdd,Int.reduceSub,Int.reduceMul,Int.reduceToNat]
      refine ⟨_, rfl, ?_, g2⟩
      rw [List.take_of_length_le (by omega)] at hw
      unfold errOf
      rw [if_pos hv, if_pos hw]
end Go.Proofs.Ytpobklkllfokdaa
