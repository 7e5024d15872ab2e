/- Proper at every input; the law about it. -/
import Derived.Test.YtgpdimkgfhgffaaS24
import Derived.Test.YtgpdimkgfhgffaaS10
import Derived.Test.YtgpdimkgfhgffaaFShiftProper
set_option linter.unusedSimpArgs false
set_option linter.unusedVariables false
set_option maxHeartbeats 4000000
set_option maxRecDepth 20000

namespace Go.Sh

theorem first_neg {c : List Int} (h : ∃ p, p < c.length ∧ c.getD p 0 < 0) : ∃ p, p < c.length ∧ c.getD p 0 < 0 ∧ ∀ i, i < p → 0 ≤ c.getD i 0 := by
  obtain ⟨p, h1, h2⟩ := h
  induction p using Nat.strongRecOn with
  | ind p ih =>
    by_cases hq : ∃ q, q < p ∧ c.getD q 0 < 0
    · obtain ⟨q, q1, q2⟩ := hq
      exact ih q q1 (by omega) q2
    · refine ⟨p, h1, h2, fun i hi => ?_⟩
      rcases Int.lt_or_le (c.getD i 0) 0 with hh | hh
      · exact absurd ⟨i, hi, hh⟩ hq
      · exact hh

end Go.Sh


namespace Go.Proofs.Ytgpdimkgfhgffaa

open Go Go.Abs Go.Sh

theorem ng31 (b : AV) (zs : List Int) (p : Nat) (h : Hp) (hk : Hok h) (hb : Ints h.blks .i64 b zs) (hl : zs.length ≤ 1000) (hp : p < zs.length) (hn : zs.getD p 0 < 0) (hz : ∀ i, i < p → 0 ≤ zs.getD i 0) :
    Evals Try.prog tab false (.func 31) [b, .fn (.func 17) [] []] h (.int .i64 p, h) := by
  refine evals_pure c31 rfl hk ?_
  simp only [sf31, initS_cons, initS_nil]
  simp (disch := first|(simp only [Nat.reduceBEq,wE];done)|((repeat' (first|assumption|exact mAx _|refine mBx ?_ ?_|exact mCx (by assumption)|refine mDx ?_|refine mEx ?_ ?_ ?_|exact mFx|refine mGx ?_ ?_ ?_|exact mHx|exact mIx _|(simp only [wM,Nat.reduceAdd,Nat.reduceLT,Nat.reduceLeDiff];done)));done)|omega|decide) only [hb.len, ↓wA,wB,wL,resOf,Nat.reduceBEq,Int.reduceBEq,Int.reduceBNe,Int.reduceLT,Int.reduceLE,Int.reduceAdd,Int.reduceSub,Int.reduceMul,Int.reduceToNat]
  refine wloop (fun mm ss => ∃ (i : Nat) (u4 u5 u9 u16 : AV), (mm = zs.length - i) ∧ (i ≤ p) ∧ ss = { fr := [(0, b), (1, .fn (.func 17) [] []), (4, u4), (5, u5), (7, .int .i64 zs.length), (8, .int .i64 i), (9, u9), (16, u16)], hp := h.en }) (zs.length) ?_ ?_
  ·
    refine ⟨0, _, _, _, _, by omega, by omega, rfl⟩
  rintro nA sA ⟨i, u4, u5, u9, u16, hnA, hi, rfl⟩
  simp (disch := first|(simp only [Nat.reduceBEq,wE];done)|((repeat' (first|assumption|exact mAx _|refine mBx ?_ ?_|exact mCx (by assumption)|refine mDx ?_|refine mEx ?_ ?_ ?_|exact mFx|refine mGx ?_ ?_ ?_|exact mHx|exact mIx _|(simp only [wM,Nat.reduceAdd,Nat.reduceLT,Nat.reduceLeDiff];done)));done)|omega|decide) only [↓wA,wB,wL,resOf,Nat.reduceBEq,Int.reduceBEq,Int.reduceBNe,Int.reduceLT,Int.reduceLE,Int.reduceAdd,Int.reduceSub,Int.reduceMul,Int.reduceToNat]
  refine ifThen_intro (fun e => ?_) (fun e => ?_) <;> have eq := e <;> try simp [-List.getD_eq_getElem?_getD] at eq
  · by_cases ip : i = p
    · subst ip
      simp (disch := first|(simp only [Nat.reduceBEq,wE];done)|((repeat' (first|assumption|exact mAx _|refine mBx ?_ ?_|exact mCx (by assumption)|refine mDx ?_|refine mEx ?_ ?_ ?_|exact mFx|refine mGx ?_ ?_ ?_|exact mHx|exact mIx _|(simp only [wM,Nat.reduceAdd,Nat.reduceLT,Nat.reduceLeDiff];done)));done)|omega|decide) only [e, hb.ix, hb.ld, callT (f17 _ _ _), decide_eq_true hn, ↓wA,wB,wL,resOf,Nat.reduceBEq,Int.reduceBEq,Int.reduceBNe,Int.reduceLT,Int.reduceLE,Int.reduceAdd,Int.reduceSub,Int.reduceMul,Int.reduceToNat]
      exact ⟨_, rfl, rfl, by (repeat' (first|assumption|exact mAx _|refine mBx ?_ ?_|exact mCx (by assumption)|refine mDx ?_|refine mEx ?_ ?_ ?_|exact mFx|refine mGx ?_ ?_ ?_|exact mHx|exact mIx _|(simp only [wM,Nat.reduceAdd,Nat.reduceLT,Nat.reduceLeDiff];done)))⟩
    · have hzi := hz i (by omega)
      simp (disch := first|(simp only [Nat.reduceBEq,wE];done)|((repeat' (first|assumption|exact mAx _|refine mBx ?_ ?_|exact mCx (by assumption)|refine mDx ?_|refine mEx ?_ ?_ ?_|exact mFx|refine mGx ?_ ?_ ?_|exact mHx|exact mIx _|(simp only [wM,Nat.reduceAdd,Nat.reduceLT,Nat.reduceLeDiff];done)));done)|omega|decide) only [e, hb.ix, hb.ld, callT (f17 _ _ _), decide_eq_false (show ¬ (zs.getD i 0 < 0) by omega), ↓wA,wB,wL,resOf,Nat.reduceBEq,Int.reduceBEq,Int.reduceBNe,Int.reduceLT,Int.reduceLE,Int.reduceAdd,Int.reduceSub,Int.reduceMul,Int.reduceToNat]
      refine ⟨_, ?_, i + 1, _, _, _, _, rfl, ?_, rfl⟩
      · omega
      omega
  · exfalso
    omega

theorem ng16 (b : AV) (zs : List Int) (p : Nat) (h : Hp) (hk : Hok h) (hb : Ints h.blks .i64 b zs) (hl : zs.length ≤ 1000) (hp : p < zs.length) (hn : zs.getD p 0 < 0) (hz : ∀ i, i < p → 0 ≤ zs.getD i 0) :
    Evals Try.prog tab false (.func 16) [b, .fn (.func 17) [] []] h (.bool true, h) := by
  refine evals_pure c16 rfl hk ?_
  simp only [sf16, initS_cons, initS_nil]
  simp (disch := first|(simp only [Nat.reduceBEq,wE];done)|((repeat' (first|assumption|exact mAx _|refine mBx ?_ ?_|exact mCx (by assumption)|refine mDx ?_|refine mEx ?_ ?_ ?_|exact mFx|refine mGx ?_ ?_ ?_|exact mHx|exact mIx _|(simp only [wM,Nat.reduceAdd,Nat.reduceLT,Nat.reduceLeDiff];done)));done)|omega|decide) only [callT (ng31 b zs p h.en hk hb hl hp hn hz), decide_eq_true (show (0 : Int) ≤ (p : Int) by omega), ↓wA,wB,wL,resOf,Nat.reduceBEq,Int.reduceBEq,Int.reduceBNe,Int.reduceLT,Int.reduceLE,Int.reduceAdd,Int.reduceSub,Int.reduceMul,Int.reduceToNat]
  exact ⟨_, rfl, rfl, by (repeat' (first|assumption|exact mAx _|refine mBx ?_ ?_|exact mCx (by assumption)|refine mDx ?_|refine mEx ?_ ?_ ?_|exact mFx|refine mGx ?_ ?_ ?_|exact mHx|exact mIx _|(simp only [wM,Nat.reduceAdd,Nat.reduceLT,Nat.reduceLeDiff];done)))⟩

theorem ngA6 (a b : AV) (l : List Span) (c : List Int) (h : Hp) (hk : Hok h) (ha : Pairs h.blks a l) (hc : Ints h.blks .i64 b c) (hl : l.length ≤ 1000) (hb : bad l ≠ 0) :
    Evals Try.prog tab false (.func 6) [a, b] h (.tu [.bool false, .int .i64 (bad l)], h) := by
  refine evals_pure c6 rfl hk ?_
  simp only [sf6, initS_cons, initS_nil]
  simp (disch := first|(simp only [Nat.reduceBEq,wE];done)|((repeat' (first|assumption|exact mAx _|refine mBx ?_ ?_|exact mCx (by assumption)|refine mDx ?_|refine mEx ?_ ?_ ?_|exact mFx|refine mGx ?_ ?_ ?_|exact mHx|exact mIx _|(simp only [wM,Nat.reduceAdd,Nat.reduceLT,Nat.reduceLeDiff];done)));done)|omega|decide) only [callT (f15 a l h.en hk ha (by omega)), show (bad l != 0) = true by simpa using hb, ↓wA,wB,wL,resOf,Nat.reduceBEq,Int.reduceBEq,Int.reduceBNe,Int.reduceLT,Int.reduceLE,Int.reduceAdd,Int.reduceSub,Int.reduceMul,Int.reduceToNat]
  exact ⟨_, rfl, rfl, by (repeat' (first|assumption|exact mAx _|refine mBx ?_ ?_|exact mCx (by assumption)|refine mDx ?_|refine mEx ?_ ?_ ?_|exact mFx|refine mGx ?_ ?_ ?_|exact mHx|exact mIx _|(simp only [wM,Nat.reduceAdd,Nat.reduceLT,Nat.reduceLeDiff];done)))⟩

theorem ngB6 (a b : AV) (l : List Span) (c : List Int) (h : Hp) (hk : Hok h) (ha : Pairs h.blks a l) (hc : Ints h.blks .i64 b c) (hl : l.length ≤ 1000) (hb : bad l = 0) (hlen : c.length ≠ l.length) :
    Evals Try.prog tab false (.func 6) [a, b] h (.tu [.bool false, .int .i64 1], h) := by
  refine evals_pure c6 rfl hk ?_
  simp only [sf6, initS_cons, initS_nil]
  simp (disch := first|(simp only [Nat.reduceBEq,wE];done)|((repeat' (first|assumption|exact mAx _|refine mBx ?_ ?_|exact mCx (by assumption)|refine mDx ?_|refine mEx ?_ ?_ ?_|exact mFx|refine mGx ?_ ?_ ?_|exact mHx|exact mIx _|(simp only [wM,Nat.reduceAdd,Nat.reduceLT,Nat.reduceLeDiff];done)));done)|omega|decide) only [callT (f15 a l h.en hk ha (by omega)), hb, hc.len, ha.len, show ((c.length : Int) != (l.length : Int)) = true by simp; omega, ↓wA,wB,wL,resOf,Nat.reduceBEq,Int.reduceBEq,Int.reduceBNe,Int.reduceLT,Int.reduceLE,Int.reduceAdd,Int.reduceSub,Int.reduceMul,Int.reduceToNat]
  exact ⟨_, rfl, rfl, by (repeat' (first|assumption|exact mAx _|refine mBx ?_ ?_|exact mCx (by assumption)|refine mDx ?_|refine mEx ?_ ?_ ?_|exact mFx|refine mGx ?_ ?_ ?_|exact mHx|exact mIx _|(simp only [wM,Nat.reduceAdd,Nat.reduceLT,Nat.reduceLeDiff];done)))⟩

theorem ngC6 (a b : AV) (l : List Span) (c : List Int) (p : Nat) (h : Hp) (hk : Hok h) (ha : Pairs h.blks a l) (hc : Ints h.blks .i64 b c) (hb : bad l = 0) (hlen : c.length = l.length) (hp : p < c.length) (hn : c.getD p 0 < 0) (hz : ∀ i, i < p → 0 ≤ c.getD i 0) :
    Evals Try.prog tab false (.func 6) [a, b] h (.tu [.bool false, .int .i64 1], h) := by
  refine evals_pure c6 rfl hk ?_
  simp only [sf6, initS_cons, initS_nil]
  have hl := (bad_0 hb).1
  simp (disch := first|(simp only [Nat.reduceBEq,wE];done)|((repeat' (first|assumption|exact mAx _|refine mBx ?_ ?_|exact mCx (by assumption)|refine mDx ?_|refine mEx ?_ ?_ ?_|exact mFx|refine mGx ?_ ?_ ?_|exact mHx|exact mIx _|(simp only [wM,Nat.reduceAdd,Nat.reduceLT,Nat.reduceLeDiff];done)));done)|omega|decide) only [callT (f15 a l h.en hk ha (by omega)), hb, hc.len, ha.len, hlen, callT (ng16 b c p h.en hk hc (by omega) hp hn hz), ↓wA,wB,wL,resOf,Nat.reduceBEq,Int.reduceBEq,Int.reduceBNe,Int.reduceLT,Int.reduceLE,Int.reduceAdd,Int.reduceSub,Int.reduceMul,Int.reduceToNat]
  exact ⟨_, rfl, rfl, by (repeat' (first|assumption|exact mAx _|refine mBx ?_ ?_|exact mCx (by assumption)|refine mDx ?_|refine mEx ?_ ?_ ?_|exact mFx|refine mGx ?_ ?_ ?_|exact mHx|exact mIx _|(simp only [wM,Nat.reduceAdd,Nat.reduceLT,Nat.reduceLeDiff];done)))⟩

theorem f3 (a : AV) (x : List Span) (b : AV) (y : List Int) (h : Hp) (hk : Hok h) (ha : Pairs h.blks a x) (hxl : x.length ≤ maxLen) (hb' : Ints h.blks .i64 b y) (hby : ∀ k ∈ y, -9223372036854775808 ≤ k ∧ k ≤ 9223372036854775807) (hyl : y.length ≤ maxLen) :
    ∃ h', Evals Try.prog tab false (.func 3) [a, b] h (.bool true, h') := by
  refine ⟨h, evals_pure c3 rfl hk ?_⟩
  simp only [sf3, initS_cons, initS_nil]
  have hyl' := hyl
  unfold maxLen at hyl'
  simp (disch := first|(simp only [Nat.reduceBEq,wE];done)|((repeat' (first|assumption|exact mAx _|refine mBx ?_ ?_|exact mCx (by assumption)|refine mDx ?_|refine mEx ?_ ?_ ?_|exact mFx|refine mGx ?_ ?_ ?_|exact mHx|exact mIx _|(simp only [wM,Nat.reduceAdd,Nat.reduceLT,Nat.reduceLeDiff];done)));done)|omega|decide) only [↓wA,wB,wL,resOf,Nat.reduceBEq,Int.reduceBEq,Int.reduceBNe,Int.reduceLT,Int.reduceLE,Int.reduceAdd,Int.reduceSub,Int.reduceMul,Int.reduceToNat]
  refine callE (f5 a x h.en hk ha hxl) ?_
  rintro v h1 ⟨g1, o1⟩
  have k1 := g1.ok hk
  have hll : (x.take 41).length ≤ 41 := by simp; omega
  generalize x.take 41 = l at *
  have em : min (y.length : Int) 41 = ((min y.length 41 : Nat) : Int) := by omega
  have et : y.take (min y.length 41) = y.take 41 := by rw [Nat.min_comm, ← List.take_take, List.take_length]
  have G1 : Grown h h1 := g1.of_en
  have y1 := hb'.sub (G1.sub hk)
  have kp : Hok (h1.pu []) := by (repeat' (first|assumption|exact mAx _|refine mBx ?_ ?_|exact mCx (by assumption)|refine mDx ?_|refine mEx ?_ ?_ ?_|exact mFx|refine mGx ?_ ?_ ?_|exact mHx|exact mIx _|(simp only [wM,Nat.reduceAdd,Nat.reduceLT,Nat.reduceLeDiff];done)))
  have y2 : Ints (h1.pu []).blks .i64 b y := y1.sub (by (repeat' (first|assumption|exact mAx _|refine mBx ?_ ?_|exact mCx (by assumption)|refine mDx ?_|refine mEx ?_ ?_ ?_|exact mFx|refine mGx ?_ ?_ ?_|exact mHx|exact mIx _|(simp only [wM,Nat.reduceAdd,Nat.reduceLT,Nat.reduceLeDiff];done))))
  have gp : Grown h1 (h1.pu []) := by (repeat' (first|assumption|exact mAx _|refine mBx ?_ ?_|exact mCx (by assumption)|refine mDx ?_|refine mEx ?_ ?_ ?_|exact mFx|refine mGx ?_ ?_ ?_|exact mHx|exact mIx _|(simp only [wM,Nat.reduceAdd,Nat.reduceLT,Nat.reduceLeDiff];done)))
  obtain ⟨b', eb, ib⟩ := y2.upto (m := min y.length 41) (by omega) (h1.pu [])
  rw [et] at ib
  have hcl : (y.take 41).length ≤ 41 := by simp; omega
  obtain ⟨c, h2, e1, o2, g2, _⟩ := own_appI (h0 := h1) (h := h1.pu []) (s := .sl h1.next 0 0 (some 0) 1) (zs := []) k1 gp (Own.fresh (Nat.le_refl _) rfl rfl rfl (Nat.le_refl _)) ib (by simp; omega)
  rw [List.nil_append] at o2
  have k2 := g2.ok k1
  have ol := o1.sub (g2.sub k1)
  have G : Grown h h2 := GrownR.trans G1 g2
  simp (disch := first|(simp only [Nat.reduceBEq,wE];done)|((repeat' (first|assumption|exact mAx _|refine mBx ?_ ?_|exact mCx (by assumption)|refine mDx ?_|refine mEx ?_ ?_ ?_|exact mFx|refine mGx ?_ ?_ ?_|exact mHx|exact mIx _|(simp only [wM,Nat.reduceAdd,Nat.reduceLT,Nat.reduceLeDiff];done)));done)|omega|decide) only [y2.len, em, eb, e1, ↓wA,wB,wL,resOf,Nat.reduceBEq,Int.reduceBEq,Int.reduceBNe,Int.reduceLT,Int.reduceLE,Int.reduceAdd,Int.reduceSub,Int.reduceMul,Int.reduceToNat]
  generalize y.take 41 = z at *
  by_cases hb : bad l = 0
  · by_cases hlen : z.length = l.length
    · by_cases hneg : ∃ p, p < z.length ∧ z.getD p 0 < 0
      · obtain ⟨p, p1, p2, p3⟩ := first_neg hneg
        simp (disch := first|(simp only [Nat.reduceBEq,wE];done)|((repeat' (first|assumption|exact mAx _|refine mBx ?_ ?_|exact mCx (by assumption)|refine mDx ?_|refine mEx ?_ ?_ ?_|exact mFx|refine mGx ?_ ?_ ?_|exact mHx|exact mIx _|(simp only [wM,Nat.reduceAdd,Nat.reduceLT,Nat.reduceLeDiff];done)));done)|omega|decide) only [callT (ngC6 v c l z p h2 k2 ol.pairs o2.ints hb hlen p1 p2 p3), callT (f7 v l h2 k2 ol.pairs (by omega)), hb, o2.len, ol.pairs.len, hlen, ↓wA,wB,wL,resOf,Nat.reduceBEq,Int.reduceBEq,Int.reduceBNe,Int.reduceLT,Int.reduceLE,Int.reduceAdd,Int.reduceSub,Int.reduceMul,Int.reduceToNat]
        refine wloop (fun mm ss => ∃ (i : Nat) (q : Int) (u4 u36 u44 u51 u53 : AV), (mm = l.length - i) ∧ (i ≤ l.length ∧ ((i ≤ p ∧ q = 0) ∨ (i = p + 1 ∧ q = 1))) ∧ ss = { fr := [(0, a), (1, b), (4, u4), (5, v), (6, c), (7, .bool false), (8, .int .i64 1), (9, .int .i64 q), (10, .int .i64 i), (36, u36), (44, u44), (51, u51), (53, u53)], hp := h2 }) (l.length) ?_ ?_
        ·
          refine ⟨0, 0, _, _, _, _, _, by omega, ⟨by omega, .inl ⟨by omega, rfl⟩⟩, rfl⟩
        rintro nA sA ⟨i, q, u4, u36, u44, u51, u53, hnA, ⟨hi, ⟨i1, rfl⟩ | ⟨i1, rfl⟩⟩, rfl⟩
        · have hil : i < l.length := by omega
          simp (disch := first|(simp only [Nat.reduceBEq,wE];done)|((repeat' (first|assumption|exact mAx _|refine mBx ?_ ?_|exact mCx (by assumption)|refine mDx ?_|refine mEx ?_ ?_ ?_|exact mFx|refine mGx ?_ ?_ ?_|exact mHx|exact mIx _|(simp only [wM,Nat.reduceAdd,Nat.reduceLT,Nat.reduceLeDiff];done)));done)|omega|decide) only [o2.len, hlen, decide_eq_true (show (i : Int) < (l.length : Int) by omega), o2.ints.ix, o2.ints.ld, ↓wA,wB,wL,resOf,Nat.reduceBEq,Int.reduceBEq,Int.reduceBNe,Int.reduceLT,Int.reduceLE,Int.reduceAdd,Int.reduceSub,Int.reduceMul,Int.reduceToNat]
          by_cases ip : i = p
          · subst ip
            simp (disch := first|(simp only [Nat.reduceBEq,wE];done)|((repeat' (first|assumption|exact mAx _|refine mBx ?_ ?_|exact mCx (by assumption)|refine mDx ?_|refine mEx ?_ ?_ ?_|exact mFx|refine mGx ?_ ?_ ?_|exact mHx|exact mIx _|(simp only [wM,Nat.reduceAdd,Nat.reduceLT,Nat.reduceLeDiff];done)));done)|omega|decide) only [decide_eq_true p2, ↓wA,wB,wL,resOf,Nat.reduceBEq,Int.reduceBEq,Int.reduceBNe,Int.reduceLT,Int.reduceLE,Int.reduceAdd,Int.reduceSub,Int.reduceMul,Int.reduceToNat]
            refine ⟨_, ?_, i + 1, 1, _, _, _, _, _, rfl, ?_, rfl⟩
            · omega
            exact ⟨by omega, .inr ⟨rfl, rfl⟩⟩
          · have := p3 i (by omega)
            simp (disch := first|(simp only [Nat.reduceBEq,wE];done)|((repeat' (first|assumption|exact mAx _|refine mBx ?_ ?_|exact mCx (by assumption)|refine mDx ?_|refine mEx ?_ ?_ ?_|exact mFx|refine mGx ?_ ?_ ?_|exact mHx|exact mIx _|(simp only [wM,Nat.reduceAdd,Nat.reduceLT,Nat.reduceLeDiff];done)));done)|omega|decide) only [decide_eq_false (show ¬ z.getD i 0 < 0 by omega), ↓wA,wB,wL,resOf,Nat.reduceBEq,Int.reduceBEq,Int.reduceBNe,Int.reduceLT,Int.reduceLE,Int.reduceAdd,Int.reduceSub,Int.reduceMul,Int.reduceToNat]
            refine ⟨_, ?_, i + 1, 0, _, _, _, _, _, rfl, ?_, rfl⟩
            · omega
            exact ⟨by omega, .inl ⟨by omega, rfl⟩⟩
        · simp (disch := first|(simp only [Nat.reduceBEq,wE];done)|((repeat' (first|assumption|exact mAx _|refine mBx ?_ ?_|exact mCx (by assumption)|refine mDx ?_|refine mEx ?_ ?_ ?_|exact mFx|refine mGx ?_ ?_ ?_|exact mHx|exact mIx _|(simp only [wM,Nat.reduceAdd,Nat.reduceLT,Nat.reduceLeDiff];done)));done)|omega|decide) only [o2.len, hlen, ↓wA,wB,wL,resOf,Nat.reduceBEq,Int.reduceBEq,Int.reduceBNe,Int.reduceLT,Int.reduceLE,Int.reduceAdd,Int.reduceSub,Int.reduceMul,Int.reduceToNat]
          refine ifThen_intro (fun e => ?_) (fun e => ?_) <;> have eq := e <;> try simp [-List.getD_eq_getElem?_getD] at eq
          · simp (disch := first|(simp only [Nat.reduceBEq,wE];done)|((repeat' (first|assumption|exact mAx _|refine mBx ?_ ?_|exact mCx (by assumption)|refine mDx ?_|refine mEx ?_ ?_ ?_|exact mFx|refine mGx ?_ ?_ ?_|exact mHx|exact mIx _|(simp only [wM,Nat.reduceAdd,Nat.reduceLT,Nat.reduceLeDiff];done)));done)|omega|decide) only [e, callT (f8 _), ↓wA,wB,wL,resOf,Nat.reduceBEq,Int.reduceBEq,Int.reduceBNe,Int.reduceLT,Int.reduceLE,Int.reduceAdd,Int.reduceSub,Int.reduceMul,Int.reduceToNat]
            exact ⟨_, rfl, rfl, G⟩
          · simp (disch := first|(simp only [Nat.reduceBEq,wE];done)|((repeat' (first|assumption|exact mAx _|refine mBx ?_ ?_|exact mCx (by assumption)|refine mDx ?_|refine mEx ?_ ?_ ?_|exact mFx|refine mGx ?_ ?_ ?_|exact mHx|exact mIx _|(simp only [wM,Nat.reduceAdd,Nat.reduceLT,Nat.reduceLeDiff];done)));done)|omega|decide) only [e, callT (f8 _), ↓wA,wB,wL,resOf,Nat.reduceBEq,Int.reduceBEq,Int.reduceBNe,Int.reduceLT,Int.reduceLE,Int.reduceAdd,Int.reduceSub,Int.reduceMul,Int.reduceToNat]
            exact ⟨_, rfl, rfl, G⟩
      · have hnn : ∀ i, i < z.length → 0 ≤ z.getD i 0 := fun i hi => by
          rcases Int.lt_or_le (z.getD i 0) 0 with hh | hh
          · exact absurd ⟨i, hi, hh⟩ hneg
          · exact hh
        simp (disch := first|(simp only [Nat.reduceBEq,wE];done)|((repeat' (first|assumption|exact mAx _|refine mBx ?_ ?_|exact mCx (by assumption)|refine mDx ?_|refine mEx ?_ ?_ ?_|exact mFx|refine mGx ?_ ?_ ?_|exact mHx|exact mIx _|(simp only [wM,Nat.reduceAdd,Nat.reduceLT,Nat.reduceLeDiff];done)));done)|omega|decide) only [callT (f6 v c l z h2 k2 ol.pairs o2.ints hb hlen hnn), callT (f7 v l h2 k2 ol.pairs (by omega)), hb, o2.len, ol.pairs.len, hlen, ↓wA,wB,wL,resOf,Nat.reduceBEq,Int.reduceBEq,Int.reduceBNe,Int.reduceLT,Int.reduceLE,Int.reduceAdd,Int.reduceSub,Int.reduceMul,Int.reduceToNat]
        refine wloop (fun mm ss => ∃ (i : Nat) (u4 u36 u44 u51 u53 : AV), (mm = l.length - i) ∧ (i ≤ l.length) ∧ ss = { fr := [(0, a), (1, b), (4, u4), (5, v), (6, c), (7, .bool (propU l z l.length)), (8, .int .i64 0), (9, .int .i64 0), (10, .int .i64 i), (36, u36), (44, u44), (51, u51), (53, u53)], hp := h2 }) (l.length) ?_ ?_
        ·
          refine ⟨0, _, _, _, _, _, by omega, by omega, rfl⟩
        rintro nA sA ⟨i, u4, u36, u44, u51, u53, hnA, hi, rfl⟩
        simp (disch := first|(simp only [Nat.reduceBEq,wE];done)|((repeat' (first|assumption|exact mAx _|refine mBx ?_ ?_|exact mCx (by assumption)|refine mDx ?_|refine mEx ?_ ?_ ?_|exact mFx|refine mGx ?_ ?_ ?_|exact mHx|exact mIx _|(simp only [wM,Nat.reduceAdd,Nat.reduceLT,Nat.reduceLeDiff];done)));done)|omega|decide) only [o2.len, hlen, ↓wA,wB,wL,resOf,Nat.reduceBEq,Int.reduceBEq,Int.reduceBNe,Int.reduceLT,Int.reduceLE,Int.reduceAdd,Int.reduceSub,Int.reduceMul,Int.reduceToNat]
        refine ifThen_intro (fun e => ?_) (fun e => ?_) <;> have eq := e <;> try simp [-List.getD_eq_getElem?_getD] at eq
        · have := hnn i (by omega)
          simp (disch := first|(simp only [Nat.reduceBEq,wE];done)|((repeat' (first|assumption|exact mAx _|refine mBx ?_ ?_|exact mCx (by assumption)|refine mDx ?_|refine mEx ?_ ?_ ?_|exact mFx|refine mGx ?_ ?_ ?_|exact mHx|exact mIx _|(simp only [wM,Nat.reduceAdd,Nat.reduceLT,Nat.reduceLeDiff];done)));done)|omega|decide) only [e, o2.ints.ix, o2.ints.ld, decide_eq_false (show ¬ z.getD i 0 < 0 by omega), ↓wA,wB,wL,resOf,Nat.reduceBEq,Int.reduceBEq,Int.reduceBNe,Int.reduceLT,Int.reduceLE,Int.reduceAdd,Int.reduceSub,Int.reduceMul,Int.reduceToNat]
          refine ⟨_, ?_, i + 1, _, _, _, _, _, rfl, ?_, rfl⟩
          · omega
          omega
        · have ep := f9 v c l z h2 k2 ol.pairs o2.ints (by omega) hlen
          generalize propU l z l.length = u at *
          cases u
          · simp (disch := first|(simp only [Nat.reduceBEq,wE];done)|((repeat' (first|assumption|exact mAx _|refine mBx ?_ ?_|exact mCx (by assumption)|refine mDx ?_|refine mEx ?_ ?_ ?_|exact mFx|refine mGx ?_ ?_ ?_|exact mHx|exact mIx _|(simp only [wM,Nat.reduceAdd,Nat.reduceLT,Nat.reduceLeDiff];done)));done)|omega|decide) only [e, callT ep, ↓wA,wB,wL,resOf,Nat.reduceBEq,Int.reduceBEq,Int.reduceBNe,Int.reduceLT,Int.reduceLE,Int.reduceAdd,Int.reduceSub,Int.reduceMul,Int.reduceToNat]
            refine ⟨fun _ => ?_, fun hh => absurd hh (by decide)⟩
            simp (disch := first|(simp only [Nat.reduceBEq,wE];done)|((repeat' (first|assumption|exact mAx _|refine mBx ?_ ?_|exact mCx (by assumption)|refine mDx ?_|refine mEx ?_ ?_ ?_|exact mFx|refine mGx ?_ ?_ ?_|exact mHx|exact mIx _|(simp only [wM,Nat.reduceAdd,Nat.reduceLT,Nat.reduceLeDiff];done)));done)|omega|decide) only [e, show (false == false) = true from rfl, callT (f8 _), ↓wA,wB,wL,resOf,Nat.reduceBEq,Int.reduceBEq,Int.reduceBNe,Int.reduceLT,Int.reduceLE,Int.reduceAdd,Int.reduceSub,Int.reduceMul,Int.reduceToNat]
            exact ⟨_, rfl, rfl, G⟩
          · simp (disch := first|(simp only [Nat.reduceBEq,wE];done)|((repeat' (first|assumption|exact mAx _|refine mBx ?_ ?_|exact mCx (by assumption)|refine mDx ?_|refine mEx ?_ ?_ ?_|exact mFx|refine mGx ?_ ?_ ?_|exact mHx|exact mIx _|(simp only [wM,Nat.reduceAdd,Nat.reduceLT,Nat.reduceLeDiff];done)));done)|omega|decide) only [e, callT ep, ↓wA,wB,wL,resOf,Nat.reduceBEq,Int.reduceBEq,Int.reduceBNe,Int.reduceLT,Int.reduceLE,Int.reduceAdd,Int.reduceSub,Int.reduceMul,Int.reduceToNat]
            refine ⟨fun _ => ?_, fun hh => absurd hh (by decide)⟩
            simp (disch := first|(simp only [Nat.reduceBEq,wE];done)|((repeat' (first|assumption|exact mAx _|refine mBx ?_ ?_|exact mCx (by assumption)|refine mDx ?_|refine mEx ?_ ?_ ?_|exact mFx|refine mGx ?_ ?_ ?_|exact mHx|exact mIx _|(simp only [wM,Nat.reduceAdd,Nat.reduceLT,Nat.reduceLeDiff];done)));done)|omega|decide) only [e, show (true == true) = true from rfl, callT (f8 _), ↓wA,wB,wL,resOf,Nat.reduceBEq,Int.reduceBEq,Int.reduceBNe,Int.reduceLT,Int.reduceLE,Int.reduceAdd,Int.reduceSub,Int.reduceMul,Int.reduceToNat]
            exact ⟨_, rfl, rfl, G⟩
    · simp (disch := first|(simp only [Nat.reduceBEq,wE];done)|((repeat' (first|assumption|exact mAx _|refine mBx ?_ ?_|exact mCx (by assumption)|refine mDx ?_|refine mEx ?_ ?_ ?_|exact mFx|refine mGx ?_ ?_ ?_|exact mHx|exact mIx _|(simp only [wM,Nat.reduceAdd,Nat.reduceLT,Nat.reduceLeDiff];done)));done)|omega|decide) only [callT (ngB6 v c l z h2 k2 ol.pairs o2.ints (by omega) hb hlen), callT (f7 v l h2 k2 ol.pairs (by omega)), hb, o2.len, ol.pairs.len, show ((z.length : Int) != (l.length : Int)) = true by simp; omega, ↓wA,wB,wL,resOf,Nat.reduceBEq,Int.reduceBEq,Int.reduceBNe,Int.reduceLT,Int.reduceLE,Int.reduceAdd,Int.reduceSub,Int.reduceMul,Int.reduceToNat]
      refine wloop (fun mm ss => ∃ (i : Nat) (u4 u36 u44 u51 u53 : AV), (mm = 1 - i) ∧ (i = 0) ∧ ss = { fr := [(0, a), (1, b), (4, u4), (5, v), (6, c), (7, .bool false), (8, .int .i64 1), (9, .int .i64 1), (10, .int .i64 i), (36, u36), (44, u44), (51, u51), (53, u53)], hp := h2 }) (1) ?_ ?_
      ·
        refine ⟨0, _, _, _, _, _, rfl, rfl, rfl⟩
      rintro nA sA ⟨i, u4, u36, u44, u51, u53, hnA, rfl, rfl⟩
      simp (disch := first|(simp only [Nat.reduceBEq,wE];done)|((repeat' (first|assumption|exact mAx _|refine mBx ?_ ?_|exact mCx (by assumption)|refine mDx ?_|refine mEx ?_ ?_ ?_|exact mFx|refine mGx ?_ ?_ ?_|exact mHx|exact mIx _|(simp only [wM,Nat.reduceAdd,Nat.reduceLT,Nat.reduceLeDiff];done)));done)|omega|decide) only [o2.len, ↓wA,wB,wL,resOf,Nat.reduceBEq,Int.reduceBEq,Int.reduceBNe,Int.reduceLT,Int.reduceLE,Int.reduceAdd,Int.reduceSub,Int.reduceMul,Int.reduceToNat]
      refine ifThen_intro (fun e => ?_) (fun e => ?_) <;> have eq := e <;> try simp [-List.getD_eq_getElem?_getD] at eq
      · simp (disch := first|(simp only [Nat.reduceBEq,wE];done)|((repeat' (first|assumption|exact mAx _|refine mBx ?_ ?_|exact mCx (by assumption)|refine mDx ?_|refine mEx ?_ ?_ ?_|exact mFx|refine mGx ?_ ?_ ?_|exact mHx|exact mIx _|(simp only [wM,Nat.reduceAdd,Nat.reduceLT,Nat.reduceLeDiff];done)));done)|omega|decide) only [e, callT (f8 _), ↓wA,wB,wL,resOf,Nat.reduceBEq,Int.reduceBEq,Int.reduceBNe,Int.reduceLT,Int.reduceLE,Int.reduceAdd,Int.reduceSub,Int.reduceMul,Int.reduceToNat]
        exact ⟨_, rfl, rfl, G⟩
      · simp (disch := first|(simp only [Nat.reduceBEq,wE];done)|((repeat' (first|assumption|exact mAx _|refine mBx ?_ ?_|exact mCx (by assumption)|refine mDx ?_|refine mEx ?_ ?_ ?_|exact mFx|refine mGx ?_ ?_ ?_|exact mHx|exact mIx _|(simp only [wM,Nat.reduceAdd,Nat.reduceLT,Nat.reduceLeDiff];done)));done)|omega|decide) only [e, callT (f8 _), ↓wA,wB,wL,resOf,Nat.reduceBEq,Int.reduceBEq,Int.reduceBNe,Int.reduceLT,Int.reduceLE,Int.reduceAdd,Int.reduceSub,Int.reduceMul,Int.reduceToNat]
        exact ⟨_, rfl, rfl, G⟩
  · simp (disch := first|(simp only [Nat.reduceBEq,wE];done)|((repeat' (first|assumption|exact mAx _|refine mBx ?_ ?_|exact mCx (by assumption)|refine mDx ?_|refine mEx ?_ ?_ ?_|exact mFx|refine mGx ?_ ?_ ?_|exact mHx|exact mIx _|(simp only [wM,Nat.reduceAdd,Nat.reduceLT,Nat.reduceLeDiff];done)));done)|omega|decide) only [callT (ngA6 v c l z h2 k2 ol.pairs o2.ints (by omega) hb), callT (f7 v l h2 k2 ol.pairs (by omega)), show (bad l == 0) = false by simpa using hb, ↓wA,wB,wL,resOf,Nat.reduceBEq,Int.reduceBEq,Int.reduceBNe,Int.reduceLT,Int.reduceLE,Int.reduceAdd,Int.reduceSub,Int.reduceMul,Int.reduceToNat]
    refine wloop (fun mm ss => ∃ (i : Nat) (u4 u36 u44 u51 u53 : AV), (mm = 1 - i) ∧ (i = 0) ∧ ss = { fr := [(0, a), (1, b), (4, u4), (5, v), (6, c), (7, .bool false), (8, .int .i64 (bad l)), (9, .int .i64 (bad l)), (10, .int .i64 i), (36, u36), (44, u44), (51, u51), (53, u53)], hp := h2 }) (1) ?_ ?_
    ·
      refine ⟨0, _, _, _, _, _, rfl, rfl, rfl⟩
    rintro nA sA ⟨i, u4, u36, u44, u51, u53, hnA, rfl, rfl⟩
    simp (disch := first|(simp only [Nat.reduceBEq,wE];done)|((repeat' (first|assumption|exact mAx _|refine mBx ?_ ?_|exact mCx (by assumption)|refine mDx ?_|refine mEx ?_ ?_ ?_|exact mFx|refine mGx ?_ ?_ ?_|exact mHx|exact mIx _|(simp only [wM,Nat.reduceAdd,Nat.reduceLT,Nat.reduceLeDiff];done)));done)|omega|decide) only [o2.len, ↓wA,wB,wL,resOf,Nat.reduceBEq,Int.reduceBEq,Int.reduceBNe,Int.reduceLT,Int.reduceLE,Int.reduceAdd,Int.reduceSub,Int.reduceMul,Int.reduceToNat]
    refine ifThen_intro (fun e => ?_) (fun e => ?_) <;> have eq := e <;> try simp [-List.getD_eq_getElem?_getD] at eq
    · simp (disch := first|(simp only [Nat.reduceBEq,wE];done)|((repeat' (first|assumption|exact mAx _|refine mBx ?_ ?_|exact mCx (by assumption)|refine mDx ?_|refine mEx ?_ ?_ ?_|exact mFx|refine mGx ?_ ?_ ?_|exact mHx|exact mIx _|(simp only [wM,Nat.reduceAdd,Nat.reduceLT,Nat.reduceLeDiff];done)));done)|omega|decide) only [e, show (bad l == 0) = false by simpa using hb, show (bad l != 0) = true by simpa using hb, beq_self_eq_true (bad l), callT (f8 _), ↓wA,wB,wL,resOf,Nat.reduceBEq,Int.reduceBEq,Int.reduceBNe,Int.reduceLT,Int.reduceLE,Int.reduceAdd,Int.reduceSub,Int.reduceMul,Int.reduceToNat]
      exact ⟨_, rfl, rfl, G⟩
    · simp (disch := first|(simp only [Nat.reduceBEq,wE];done)|((repeat' (first|assumption|exact mAx _|refine mBx ?_ ?_|exact mCx (by assumption)|refine mDx ?_|refine mEx ?_ ?_ ?_|exact mFx|refine mGx ?_ ?_ ?_|exact mHx|exact mIx _|(simp only [wM,Nat.reduceAdd,Nat.reduceLT,Nat.reduceLeDiff];done)));done)|omega|decide) only [e, show (bad l == 0) = false by simpa using hb, show (bad l != 0) = true by simpa using hb, beq_self_eq_true (bad l), callT (f8 _), ↓wA,wB,wL,resOf,Nat.reduceBEq,Int.reduceBEq,Int.reduceBNe,Int.reduceLT,Int.reduceLE,Int.reduceAdd,Int.reduceSub,Int.reduceMul,Int.reduceToNat]
      exact ⟨_, rfl, rfl, G⟩

end Go.Proofs.Ytgpdimkgfhgffaa

