/- The reference's functions over intervals. -/
import Derived.Test.YtgpdimkgfhgffaaS5
import Derived.Test.YtgpdimkgfhgffaaR1
set_option linter.unusedSimpArgs false
set_option linter.unusedVariables false
set_option maxHeartbeats 1000000

namespace Go.Sh

/-- The most at one of the first numbers from lo on, and the first such number. -/
def rdU (l : List Span) (lo : Int) : Nat → Int × Int
  | 0 => (0, 0)
  | j + 1 => if (rdU l lo j).1 < cnt l (lo + j) then (cnt l (lo + j), lo + j) else rdU l lo j
def rd (l : List Span) (s : Span) : Int × Int := rdU l s.1 (s.2 - s.1).toNat
theorem cnt_bd (l : List Span) (p : Int) : 0 ≤ cnt l p ∧ cnt l p ≤ l.length := cntU_bd l p _
theorem rdU_bd (l : List Span) (lo : Int) : ∀ j, 0 ≤ (rdU l lo j).1 ∧ (rdU l lo j).1 ≤ l.length
  | 0 => by simp [rdU]
  | j + 1 => by
    have := rdU_bd l lo j
    have := cnt_bd l (lo + j)
    simp only [rdU]
    split
    · exact this
    · assumption
/-- The interval, and those before it with a level at most k. -/
def lowU (l : List Span) (i : Nat) (out : List Int) (k : Int) (j : Nat) : List Span := sg l i :: uptoU k l out j
/-- The least level by the reference. -/
def rlF (l : List Span) (i : Nat) (out : List Int) : Nat → Int → Int
  | 0, k => k
  | n + 1, k => if (rd (lowU l i out k i) (sg l i)).1 ≤ k then k else rlF l i out n (k + 1)
def rlU (l : List Span) : Nat → List Int
  | 0 => []
  | i + 1 => rlU l i ++ [rlF l i (rlU l i) (i + 2) 1]
theorem rlU_len (l : List Span) : ∀ i, (rlU l i).length = i
  | 0 => rfl
  | i + 1 => by simp [rlU, rlU_len l i]
/-- The numbers of those among the first ones that overlap the i-th, and are of its level. -/
def rtU (l : List Span) (lv out : List Int) (i : Nat) : Nat → List Int
  | 0 => []
  | j + 1 => if lv.getD j 0 = lv.getD i 0 ∧ ov (sg l i) (sg l j) = true then rtU l lv out i j ++ [out.getD j 0] else rtU l lv out i j
theorem rtU_len (l : List Span) (lv out : List Int) (i : Nat) : ∀ j, (rtU l lv out i j).length ≤ j
  | 0 => by simp [rtU]
  | j + 1 => by
    have := rtU_len l lv out i j
    simp only [rtU]
    split
    · simp; omega
    · omega
def rtr (l : List Span) (lv : List Int) : Nat → List Int
  | 0 => []
  | i + 1 => rtr l lv i ++ [mex (max 0 (3 * lv.getD i 0 - 5)) (rtU l lv (rtr l lv i) i i)]
theorem rtr_len (l : List Span) (lv : List Int) : ∀ i, (rtr l lv i).length = i
  | 0 => rfl
  | i + 1 => by simp [rtr, rtr_len l lv i]

end Go.Sh


namespace Go.Proofs.Ytgpdimkgfhgffaa

open Go Go.Abs Go.Sh

theorem f24 (a b c d : Int) (h : Hp) (hk : Hok h) : Evals Try.prog tab false (.func 24) [.ag [.int .i64 a, .int .i64 b], .ag [.int .i64 c, .int .i64 d]] h (.bool (ov (a, b) (c, d)), h) := by
  refine evals_pure c24 rfl hk ?_
  simp only [sf24, initS_cons, initS_nil]
  simp (disch := first|(simp only [Nat.reduceBEq,wE];done)|((repeat' (first|assumption|exact mAx _|refine mBx ?_ ?_|exact mCx (by assumption)|refine mDx ?_|refine mEx ?_ ?_ ?_|exact mFx|refine mGx ?_ ?_ ?_|exact mHx|exact mIx _|(simp only [wM,Nat.reduceAdd,Nat.reduceLT,Nat.reduceLeDiff];done)));done)|omega|decide) only [↓wA,wB,wL,resOf,Nat.reduceBEq,Int.reduceBEq,Int.reduceBNe,Int.reduceLT,Int.reduceLE,Int.reduceAdd,Int.reduceSub,Int.reduceMul,Int.reduceToNat]
  exact ⟨_, rfl, rfl, by (repeat' (first|assumption|exact mAx _|refine mBx ?_ ?_|exact mCx (by assumption)|refine mDx ?_|refine mEx ?_ ?_ ?_|exact mFx|refine mGx ?_ ?_ ?_|exact mHx|exact mIx _|(simp only [wM,Nat.reduceAdd,Nat.reduceLT,Nat.reduceLeDiff];done)))⟩

theorem f30 (a : AV) (zs : List Int) (low : Int) (h : Hp) (hk : Hok h) (ha : Ints h.blks .i64 a zs) (hz : zs.length ≤ 1000) (hl : 0 ≤ low ∧ low ≤ 1000000) :
    Evals Try.prog tab false (.func 30) [.int .i64 low, a] h (.int .i64 (mex low zs), h) := by
  refine evals_pure c30 rfl hk ?_
  simp only [sf30, initS_cons, initS_nil]
  simp (disch := first|(simp only [Nat.reduceBEq,wE];done)|((repeat' (first|assumption|exact mAx _|refine mBx ?_ ?_|exact mCx (by assumption)|refine mDx ?_|refine mEx ?_ ?_ ?_|exact mFx|refine mGx ?_ ?_ ?_|exact mHx|exact mIx _|(simp only [wM,Nat.reduceAdd,Nat.reduceLT,Nat.reduceLeDiff];done)));done)|omega|decide) only [↓wA,wB,wL,resOf,Nat.reduceBEq,Int.reduceBEq,Int.reduceBNe,Int.reduceLT,Int.reduceLE,Int.reduceAdd,Int.reduceSub,Int.reduceMul,Int.reduceToNat]
  refine wloop (fun mm ss => ∃ (x : Int) (n : Nat) (u4 u7 : AV), (mm = n) ∧ (low ≤ x ∧ x + n ≤ low + zs.length + 1 ∧ mexF zs (zs.length + 1) low = mexF zs n x ∧ abv zs x < n) ∧ ss = { fr := [(0, .int .i64 x), (1, a), (4, u4), (7, u7)], hp := h.en }) (zs.length + 1) ?_ ?_
  ·
    refine ⟨low, zs.length + 1, _, _, rfl, ⟨by omega, by omega, rfl, by have := abv_le zs low; omega⟩, rfl⟩
  rintro nA sA ⟨x, n, u4, u7, hnA, ⟨h1, h2, h3, h4⟩, rfl⟩
  simp (disch := first|(simp only [Nat.reduceBEq,wE];done)|((repeat' (first|assumption|exact mAx _|refine mBx ?_ ?_|exact mCx (by assumption)|refine mDx ?_|refine mEx ?_ ?_ ?_|exact mFx|refine mGx ?_ ?_ ?_|exact mHx|exact mIx _|(simp only [wM,Nat.reduceAdd,Nat.reduceLT,Nat.reduceLeDiff];done)));done)|omega|decide) only [callT (f43 a zs x h.en hk ha (by omega)), ↓wA,wB,wL,resOf,Nat.reduceBEq,Int.reduceBEq,Int.reduceBNe,Int.reduceLT,Int.reduceLE,Int.reduceAdd,Int.reduceSub,Int.reduceMul,Int.reduceToNat]
  obtain ⟨n, rfl⟩ : ∃ m, n = m + 1 := ⟨n - 1, by omega⟩
  by_cases e : x ∈ zs
  · simp (disch := first|(simp only [Nat.reduceBEq,wE];done)|((repeat' (first|assumption|exact mAx _|refine mBx ?_ ?_|exact mCx (by assumption)|refine mDx ?_|refine mEx ?_ ?_ ?_|exact mFx|refine mGx ?_ ?_ ?_|exact mHx|exact mIx _|(simp only [wM,Nat.reduceAdd,Nat.reduceLT,Nat.reduceLeDiff];done)));done)|omega|decide) only [decide_eq_true e, ↓wA,wB,wL,resOf,Nat.reduceBEq,Int.reduceBEq,Int.reduceBNe,Int.reduceLT,Int.reduceLE,Int.reduceAdd,Int.reduceSub,Int.reduceMul,Int.reduceToNat]
    refine ⟨_, ?_, x + 1, n, _, _, rfl, ?_, rfl⟩
    · omega
    refine ⟨by omega, by omega, ?_, by have := abv_lt e; omega⟩
    rw [h3, mexF, if_pos e]
  · simp (disch := first|(simp only [Nat.reduceBEq,wE];done)|((repeat' (first|assumption|exact mAx _|refine mBx ?_ ?_|exact mCx (by assumption)|refine mDx ?_|refine mEx ?_ ?_ ?_|exact mFx|refine mGx ?_ ?_ ?_|exact mHx|exact mIx _|(simp only [wM,Nat.reduceAdd,Nat.reduceLT,Nat.reduceLeDiff];done)));done)|omega|decide) only [decide_eq_false e, ↓wA,wB,wL,resOf,Nat.reduceBEq,Int.reduceBEq,Int.reduceBNe,Int.reduceLT,Int.reduceLE,Int.reduceAdd,Int.reduceSub,Int.reduceMul,Int.reduceToNat]
    refine ⟨_, rfl, ?_, by (repeat' (first|assumption|exact mAx _|refine mBx ?_ ?_|exact mCx (by assumption)|refine mDx ?_|refine mEx ?_ ?_ ?_|exact mFx|refine mGx ?_ ?_ ?_|exact mHx|exact mIx _|(simp only [wM,Nat.reduceAdd,Nat.reduceLT,Nat.reduceLeDiff];done)))⟩
    rw [mex, h3, mexF, if_neg e]

theorem f7 (a : AV) (l : List Span) (h : Hp) (hk : Hok h) (ha : Pairs h.blks a l) (hl : l.length ≤ 1000) :
    Evals Try.prog tab false (.func 7) [a] h (.int .i64 (bad l), h) := by
  refine evals_pure c7 rfl hk ?_
  simp only [sf7, initS_cons, initS_nil]
  simp (disch := first|(simp only [Nat.reduceBEq,wE];done)|((repeat' (first|assumption|exact mAx _|refine mBx ?_ ?_|exact mCx (by assumption)|refine mDx ?_|refine mEx ?_ ?_ ?_|exact mFx|refine mGx ?_ ?_ ?_|exact mHx|exact mIx _|(simp only [wM,Nat.reduceAdd,Nat.reduceLT,Nat.reduceLeDiff];done)));done)|omega|decide) only [ha.len, ↓wA,wB,wL,resOf,Nat.reduceBEq,Int.reduceBEq,Int.reduceBNe,Int.reduceLT,Int.reduceLE,Int.reduceAdd,Int.reduceSub,Int.reduceMul,Int.reduceToNat]
  refine ifThen_intro (fun e0 => ?_) (fun e0 => ?_) <;> have e0q := e0 <;> try simp [-List.getD_eq_getElem?_getD] at e0q
  · simp (disch := first|(simp only [Nat.reduceBEq,wE];done)|((repeat' (first|assumption|exact mAx _|refine mBx ?_ ?_|exact mCx (by assumption)|refine mDx ?_|refine mEx ?_ ?_ ?_|exact mFx|refine mGx ?_ ?_ ?_|exact mHx|exact mIx _|(simp only [wM,Nat.reduceAdd,Nat.reduceLT,Nat.reduceLeDiff];done)));done)|omega|decide) only [e0, ↓wA,wB,wL,resOf,Nat.reduceBEq,Int.reduceBEq,Int.reduceBNe,Int.reduceLT,Int.reduceLE,Int.reduceAdd,Int.reduceSub,Int.reduceMul,Int.reduceToNat]
    exact ⟨_, rfl, by rw [bad, if_pos (by omega)], by (repeat' (first|assumption|exact mAx _|refine mBx ?_ ?_|exact mCx (by assumption)|refine mDx ?_|refine mEx ?_ ?_ ?_|exact mFx|refine mGx ?_ ?_ ?_|exact mHx|exact mIx _|(simp only [wM,Nat.reduceAdd,Nat.reduceLT,Nat.reduceLeDiff];done)))⟩
  · simp (disch := first|(simp only [Nat.reduceBEq,wE];done)|((repeat' (first|assumption|exact mAx _|refine mBx ?_ ?_|exact mCx (by assumption)|refine mDx ?_|refine mEx ?_ ?_ ?_|exact mFx|refine mGx ?_ ?_ ?_|exact mHx|exact mIx _|(simp only [wM,Nat.reduceAdd,Nat.reduceLT,Nat.reduceLeDiff];done)));done)|omega|decide) only [e0, ↓wA,wB,wL,resOf,Nat.reduceBEq,Int.reduceBEq,Int.reduceBNe,Int.reduceLT,Int.reduceLE,Int.reduceAdd,Int.reduceSub,Int.reduceMul,Int.reduceToNat]
    refine wloop (fun mm ss => ∃ (i : Nat) (u2 u6 u10 u39 : AV), (mm = l.length - i) ∧ (i ≤ l.length ∧ ∀ j, j < i → okS (sg l j) = true) ∧ ss = { fr := [(0, a), (2, u2), (3, .int .i64 i), (6, u6), (10, u10), (39, u39)], hp := h.en }) (l.length) ?_ ?_
    ·
      refine ⟨0, _, _, _, _, by omega, ⟨by omega, fun j hj => by omega⟩, rfl⟩
    rintro nA sA ⟨i, u2, u6, u10, u39, hnA, ⟨hi, hall⟩, rfl⟩
    simp (disch := first|(simp only [Nat.reduceBEq,wE];done)|((repeat' (first|assumption|exact mAx _|refine mBx ?_ ?_|exact mCx (by assumption)|refine mDx ?_|refine mEx ?_ ?_ ?_|exact mFx|refine mGx ?_ ?_ ?_|exact mHx|exact mIx _|(simp only [wM,Nat.reduceAdd,Nat.reduceLT,Nat.reduceLeDiff];done)));done)|omega|decide) only [e0, ha.len, ↓wA,wB,wL,resOf,Nat.reduceBEq,Int.reduceBEq,Int.reduceBNe,Int.reduceLT,Int.reduceLE,Int.reduceAdd,Int.reduceSub,Int.reduceMul,Int.reduceToNat]
    refine ifThen_intro (fun e => ?_) (fun e => ?_) <;> have eq := e <;> try simp [-List.getD_eq_getElem?_getD] at eq
    · have hd : l.getD i (0, 0) = sg l i := rfl
      simp (disch := first|(simp only [Nat.reduceBEq,wE];done)|((repeat' (first|assumption|exact mAx _|refine mBx ?_ ?_|exact mCx (by assumption)|refine mDx ?_|refine mEx ?_ ?_ ?_|exact mFx|refine mGx ?_ ?_ ?_|exact mHx|exact mIx _|(simp only [wM,Nat.reduceAdd,Nat.reduceLT,Nat.reduceLeDiff];done)));done)|omega|decide) only [e0, e, ha.ix, ha.fa, ha.ld0, ha.ld1, hd, ↓wA,wB,wL,resOf,Nat.reduceBEq,Int.reduceBEq,Int.reduceBNe,Int.reduceLT,Int.reduceLE,Int.reduceAdd,Int.reduceSub,Int.reduceMul,Int.reduceToNat]
      have nok : okS (sg l i) = false → bad l = 2 := fun hf => by
        rw [bad, if_neg (by omega), if_neg]
        rw [List.all_eq_true]
        intro hh
        rw [hh _ (sg_mem eq)] at hf
        cases hf
      refine ifThen_intro (fun e2 => ?_) (fun e2 => ?_) <;> have e2q := e2 <;> try simp [-List.getD_eq_getElem?_getD] at e2q
      · simp (disch := first|(simp only [Nat.reduceBEq,wE];done)|((repeat' (first|assumption|exact mAx _|refine mBx ?_ ?_|exact mCx (by assumption)|refine mDx ?_|refine mEx ?_ ?_ ?_|exact mFx|refine mGx ?_ ?_ ?_|exact mHx|exact mIx _|(simp only [wM,Nat.reduceAdd,Nat.reduceLT,Nat.reduceLeDiff];done)));done)|omega|decide) only [e0, e, e2, ↓wA,wB,wL,resOf,Nat.reduceBEq,Int.reduceBEq,Int.reduceBNe,Int.reduceLT,Int.reduceLE,Int.reduceAdd,Int.reduceSub,Int.reduceMul,Int.reduceToNat]
        exact ⟨_, rfl, by rw [nok (by simp [okS]; omega)], by (repeat' (first|assumption|exact mAx _|refine mBx ?_ ?_|exact mCx (by assumption)|refine mDx ?_|refine mEx ?_ ?_ ?_|exact mFx|refine mGx ?_ ?_ ?_|exact mHx|exact mIx _|(simp only [wM,Nat.reduceAdd,Nat.reduceLT,Nat.reduceLeDiff];done)))⟩
      · simp (disch := first|(simp only [Nat.reduceBEq,wE];done)|((repeat' (first|assumption|exact mAx _|refine mBx ?_ ?_|exact mCx (by assumption)|refine mDx ?_|refine mEx ?_ ?_ ?_|exact mFx|refine mGx ?_ ?_ ?_|exact mHx|exact mIx _|(simp only [wM,Nat.reduceAdd,Nat.reduceLT,Nat.reduceLeDiff];done)));done)|omega|decide) only [e0, e, e2, ha.ix, ha.fa, ha.ld0, ha.ld1, hd, ↓wA,wB,wL,resOf,Nat.reduceBEq,Int.reduceBEq,Int.reduceBNe,Int.reduceLT,Int.reduceLE,Int.reduceAdd,Int.reduceSub,Int.reduceMul,Int.reduceToNat]
        refine ifThen_intro (fun e3 => ?_) (fun e3 => ?_) <;> have e3q := e3 <;> try simp [-List.getD_eq_getElem?_getD] at e3q
        · simp (disch := first|(simp only [Nat.reduceBEq,wE];done)|((repeat' (first|assumption|exact mAx _|refine mBx ?_ ?_|exact mCx (by assumption)|refine mDx ?_|refine mEx ?_ ?_ ?_|exact mFx|refine mGx ?_ ?_ ?_|exact mHx|exact mIx _|(simp only [wM,Nat.reduceAdd,Nat.reduceLT,Nat.reduceLeDiff];done)));done)|omega|decide) only [e0, e, e2, e3, ↓wA,wB,wL,resOf,Nat.reduceBEq,Int.reduceBEq,Int.reduceBNe,Int.reduceLT,Int.reduceLE,Int.reduceAdd,Int.reduceSub,Int.reduceMul,Int.reduceToNat]
          exact ⟨_, rfl, by rw [nok (by simp [okS]; omega)], by (repeat' (first|assumption|exact mAx _|refine mBx ?_ ?_|exact mCx (by assumption)|refine mDx ?_|refine mEx ?_ ?_ ?_|exact mFx|refine mGx ?_ ?_ ?_|exact mHx|exact mIx _|(simp only [wM,Nat.reduceAdd,Nat.reduceLT,Nat.reduceLeDiff];done)))⟩
        · simp (disch := first|(simp only [Nat.reduceBEq,wE];done)|((repeat' (first|assumption|exact mAx _|refine mBx ?_ ?_|exact mCx (by assumption)|refine mDx ?_|refine mEx ?_ ?_ ?_|exact mFx|refine mGx ?_ ?_ ?_|exact mHx|exact mIx _|(simp only [wM,Nat.reduceAdd,Nat.reduceLT,Nat.reduceLeDiff];done)));done)|omega|decide) only [e0, e, e2, e3, ha.ix, ha.fa, ha.ld0, ha.ld1, hd, ↓wA,wB,wL,resOf,Nat.reduceBEq,Int.reduceBEq,Int.reduceBNe,Int.reduceLT,Int.reduceLE,Int.reduceAdd,Int.reduceSub,Int.reduceMul,Int.reduceToNat]
          refine ifThen_intro (fun e4 => ?_) (fun e4 => ?_) <;> have e4q := e4 <;> try simp [-List.getD_eq_getElem?_getD] at e4q
          · simp (disch := first|(simp only [Nat.reduceBEq,wE];done)|((repeat' (first|assumption|exact mAx _|refine mBx ?_ ?_|exact mCx (by assumption)|refine mDx ?_|refine mEx ?_ ?_ ?_|exact mFx|refine mGx ?_ ?_ ?_|exact mHx|exact mIx _|(simp only [wM,Nat.reduceAdd,Nat.reduceLT,Nat.reduceLeDiff];done)));done)|omega|decide) only [e0, e, e2, e3, e4, ↓wA,wB,wL,resOf,Nat.reduceBEq,Int.reduceBEq,Int.reduceBNe,Int.reduceLT,Int.reduceLE,Int.reduceAdd,Int.reduceSub,Int.reduceMul,Int.reduceToNat]
            exact ⟨_, rfl, by rw [nok (by simp [okS]; omega)], by (repeat' (first|assumption|exact mAx _|refine mBx ?_ ?_|exact mCx (by assumption)|refine mDx ?_|refine mEx ?_ ?_ ?_|exact mFx|refine mGx ?_ ?_ ?_|exact mHx|exact mIx _|(simp only [wM,Nat.reduceAdd,Nat.reduceLT,Nat.reduceLeDiff];done)))⟩
          · simp (disch := first|(simp only [Nat.reduceBEq,wE];done)|((repeat' (first|assumption|exact mAx _|refine mBx ?_ ?_|exact mCx (by assumption)|refine mDx ?_|refine mEx ?_ ?_ ?_|exact mFx|refine mGx ?_ ?_ ?_|exact mHx|exact mIx _|(simp only [wM,Nat.reduceAdd,Nat.reduceLT,Nat.reduceLeDiff];done)));done)|omega|decide) only [e0, e, e2, e3, e4, ↓wA,wB,wL,resOf,Nat.reduceBEq,Int.reduceBEq,Int.reduceBNe,Int.reduceLT,Int.reduceLE,Int.reduceAdd,Int.reduceSub,Int.reduceMul,Int.reduceToNat]
            refine ⟨_, ?_, i + 1, _, _, _, _, rfl, ?_, rfl⟩
            · omega
            refine ⟨by omega, fun j hj => ?_⟩
            rcases Nat.lt_or_ge j i with hji | hji
            · exact hall j hji
            · rw [show j = i by omega]
              simp [okS]
              omega
    · simp (disch := first|(simp only [Nat.reduceBEq,wE];done)|((repeat' (first|assumption|exact mAx _|refine mBx ?_ ?_|exact mCx (by assumption)|refine mDx ?_|refine mEx ?_ ?_ ?_|exact mFx|refine mGx ?_ ?_ ?_|exact mHx|exact mIx _|(simp only [wM,Nat.reduceAdd,Nat.reduceLT,Nat.reduceLeDiff];done)));done)|omega|decide) only [e0, e, ↓wA,wB,wL,resOf,Nat.reduceBEq,Int.reduceBEq,Int.reduceBNe,Int.reduceLT,Int.reduceLE,Int.reduceAdd,Int.reduceSub,Int.reduceMul,Int.reduceToNat]
      refine ⟨_, rfl, ?_, by (repeat' (first|assumption|exact mAx _|refine mBx ?_ ?_|exact mCx (by assumption)|refine mDx ?_|refine mEx ?_ ?_ ?_|exact mFx|refine mGx ?_ ?_ ?_|exact mHx|exact mIx _|(simp only [wM,Nat.reduceAdd,Nat.reduceLT,Nat.reduceLeDiff];done)))⟩
      rw [bad, if_neg (by omega), if_pos]
      rw [List.all_eq_true]
      intro s hs
      obtain ⟨j, hj, rfl⟩ := List.getElem_of_mem hs
      have := hall j (by omega)
      simpa [sg, List.getD_eq_getElem?_getD, List.getElem?_eq_getElem hj] using this

end Go.Proofs.Ytgpdimkgfhgffaa

