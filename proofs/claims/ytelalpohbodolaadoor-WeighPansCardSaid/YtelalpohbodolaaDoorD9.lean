/- The reference's Weights, Guy and Set. -/
import Derived.Test.YtelalpohbodolaaDoorD8
set_option linter.unusedSimpArgs false
set_option linter.unusedVariables false
set_option maxHeartbeats 4000000
set_option maxRecDepth 20000
namespace Go.Proofs.YtelalpohbodolaaDoor
open Go Go.Abs Go.Wg

theorem lives_ev (h : Hp) : Evals Tryd.prog tab false (.func 17) [] h (.bool true, h) := evals_tab rfl

theorem f16 (a : AV) (zs : List Int) (h : Hp) (hk : Hok h) (ha : Ints h.blks .i64 a zs) (hz : zs.length ≤ 1000) :
    Evals Tryd.prog tab false (.func 16) [a] h (.int .i64 (errW zs 12 0), h) := by
  refine evals_pure c16 rfl hk ?_
  simp only [sf16, initS_cons, initS_nil]
  by_cases e1 : 12 < zs.length
  · have d1 : decide ((zs.length : Int) > 12) = true := decide_eq_true (by omega)
    have ew : errW zs 12 0 = 3 := by unfold errW; rw [if_pos e1]
    rw [ew]
    simp (disch := first|(simp only [Nat.reduceBEq,wE];done)|((repeat' (first|assumption|exact mAx _|refine mBx ?_ ?_|exact mCx (by assumption)|refine mDx ?_|refine mEx ?_ ?_ ?_|exact mFx|refine mGx ?_ ?_ ?_|exact mHx|exact mIx _|(simp only [wM,Nat.reduceAdd,Nat.reduceLT,Nat.reduceLeDiff];done)));done)|omega|decide) only [ha.len, d1, ↓wA,wB,wL,resOf,Nat.reduceBEq,Int.reduceBEq,Int.reduceBNe,Int.reduceLT,Int.reduceLE,Int.reduceAdd,Int.reduceSub,Int.reduceMul,Int.reduceToNat]
    exact ⟨_, rfl, rfl, by (repeat' (first|assumption|exact mAx _|refine mBx ?_ ?_|exact mCx (by assumption)|refine mDx ?_|refine mEx ?_ ?_ ?_|exact mFx|refine mGx ?_ ?_ ?_|exact mHx|exact mIx _|(simp only [wM,Nat.reduceAdd,Nat.reduceLT,Nat.reduceLeDiff];done)))⟩
  · have d1 : decide ((zs.length : Int) > 12) = false := decide_eq_false (by omega)
    have ew : errW zs 12 0 = if WF zs then 0 else 2 := by
      unfold errW
      rw [if_neg e1, if_neg (by omega)]
      by_cases e2 : WF zs
      · rw [if_pos e2, if_neg (by simpa using e2)]
      · rw [if_neg e2, if_pos e2]
    rw [ew]
    simp (disch := first|(simp only [Nat.reduceBEq,wE];done)|((repeat' (first|assumption|exact mAx _|refine mBx ?_ ?_|exact mCx (by assumption)|refine mDx ?_|refine mEx ?_ ?_ ?_|exact mFx|refine mGx ?_ ?_ ?_|exact mHx|exact mIx _|(simp only [wM,Nat.reduceAdd,Nat.reduceLT,Nat.reduceLeDiff];done)));done)|omega|decide) only [ha.len, d1, ↓wA,wB,wL,resOf,Nat.reduceBEq,Int.reduceBEq,Int.reduceBNe,Int.reduceLT,Int.reduceLE,Int.reduceAdd,Int.reduceSub,Int.reduceMul,Int.reduceToNat]
    refine wloop (fun mm ss => ∃ (i : Nat) (u2 u6 u10 u34 u37 : AV), (mm = zs.length - i) ∧ (i ≤ zs.length ∧ WFp (zs.take i)) ∧ ss = { fr := [(0, a), (2, u2), (3, .int .i64 i), (6, u6), (10, u10), (34, u34), (37, u37)], hp := h.en }) (zs.length) ?_ ?_
    ·
      refine ⟨0, _, _, _, _, _, by omega, ⟨by omega, by simp [WFp]⟩, rfl⟩
    rintro nA sA ⟨i, u2, u6, u10, u34, u37, hnA, ⟨hi, hp⟩, rfl⟩
    have hb := hp.bfr hi
    simp (disch := first|(simp only [Nat.reduceBEq,wE];done)|((repeat' (first|assumption|exact mAx _|refine mBx ?_ ?_|exact mCx (by assumption)|refine mDx ?_|refine mEx ?_ ?_ ?_|exact mFx|refine mGx ?_ ?_ ?_|exact mHx|exact mIx _|(simp only [wM,Nat.reduceAdd,Nat.reduceLT,Nat.reduceLeDiff];done)));done)|omega|decide) only [ha.len, ↓wA,wB,wL,resOf,Nat.reduceBEq,Int.reduceBEq,Int.reduceBNe,Int.reduceLT,Int.reduceLE,Int.reduceAdd,Int.reduceSub,Int.reduceMul,Int.reduceToNat]
    refine ifThen_intro (fun e => ?_) (fun e => ?_) <;> have eq := e <;> try simp [-List.getD_eq_getElem?_getD] at eq
    · have W := f27 (zs.getD i 0) 1 100000 h.en hk
      by_cases e2 : bfr zs i + 1 ≤ zs.getD i 0 ∧ zs.getD i 0 ≤ 100000
      · have d2 : decide (1 ≤ zs.getD i 0 ∧ zs.getD i 0 ≤ 100000) = true := decide_eq_true (by omega)
        have nx := (wf_step hp eq).2 e2
        by_cases e3 : 0 < i
        · have d3 : decide ((i : Int) > 0) = true := decide_eq_true (by omega)
          have c1 : (i : Int) - 1 = ((i - 1 : Nat) : Int) := by omega
          have bi : bfr zs i = zs.getD (i - 1) 0 := by unfold bfr; rw [if_neg (by omega)]
          have d4 : decide (zs.getD i 0 ≤ zs.getD (i - 1) 0) = false := decide_eq_false (by rw [bi] at e2; omega)
          simp (disch := first|(simp only [Nat.reduceBEq,wE];done)|((repeat' (first|assumption|exact mAx _|refine mBx ?_ ?_|exact mCx (by assumption)|refine mDx ?_|refine mEx ?_ ?_ ?_|exact mFx|refine mGx ?_ ?_ ?_|exact mHx|exact mIx _|(simp only [wM,Nat.reduceAdd,Nat.reduceLT,Nat.reduceLeDiff];done)));done)|omega|decide) only [e, ha.ix, ha.ld, callT W, d2, d3, c1, d4, ↓wA,wB,wL,resOf,Nat.reduceBEq,Int.reduceBEq,Int.reduceBNe,Int.reduceLT,Int.reduceLE,Int.reduceAdd,Int.reduceSub,Int.reduceMul,Int.reduceToNat]
          refine ⟨_, ?_, i + 1, _, _, _, _, _, rfl, ?_, rfl⟩
          · omega
          exact ⟨by omega, nx⟩
        · have d3 : decide ((i : Int) > 0) = false := decide_eq_false (by omega)
          simp (disch := first|(simp only [Nat.reduceBEq,wE];done)|((repeat' (first|assumption|exact mAx _|refine mBx ?_ ?_|exact mCx (by assumption)|refine mDx ?_|refine mEx ?_ ?_ ?_|exact mFx|refine mGx ?_ ?_ ?_|exact mHx|exact mIx _|(simp only [wM,Nat.reduceAdd,Nat.reduceLT,Nat.reduceLeDiff];done)));done)|omega|decide) only [e, ha.ix, ha.ld, callT W, d2, d3, ↓wA,wB,wL,resOf,Nat.reduceBEq,Int.reduceBEq,Int.reduceBNe,Int.reduceLT,Int.reduceLE,Int.reduceAdd,Int.reduceSub,Int.reduceMul,Int.reduceToNat]
          refine ⟨_, ?_, i + 1, _, _, _, _, _, rfl, ?_, rfl⟩
          · omega
          exact ⟨by omega, nx⟩
      · have nw : ¬ WF zs := fun hw => e2 ((wf_step hp eq).1 (hw.1.take _))
        rw [if_neg nw]
        by_cases e4 : 1 ≤ zs.getD i 0 ∧ zs.getD i 0 ≤ 100000
        · have d2 := decide_eq_true e4
          have e41 : 1 ≤ zs.getD i 0 := e4.1
          have e2' : ¬ bfr zs i + 1 ≤ zs.getD i 0 := fun hh => e2 ⟨hh, e4.2⟩
          have h0 : 0 < i := by
            rcases Nat.eq_zero_or_pos i with h0 | h0
            · exfalso
              have b0 : bfr zs i = 0 := by unfold bfr; rw [if_pos h0]
              generalize zs.getD i 0 = z at *
              omega
            · exact h0
          have d3 : decide ((i : Int) > 0) = true := decide_eq_true (by omega)
          have c1 : (i : Int) - 1 = ((i - 1 : Nat) : Int) := by omega
          have bi : bfr zs i = zs.getD (i - 1) 0 := by unfold bfr; rw [if_neg (by omega)]
          have d4 : decide (zs.getD i 0 ≤ zs.getD (i - 1) 0) = true := decide_eq_true (by rw [bi] at e2'; generalize zs.getD i 0 = z at *; generalize zs.getD (i - 1) 0 = y at *; omega)
          simp (disch := first|(simp only [Nat.reduceBEq,wE];done)|((repeat' (first|assumption|exact mAx _|refine mBx ?_ ?_|exact mCx (by assumption)|refine mDx ?_|refine mEx ?_ ?_ ?_|exact mFx|refine mGx ?_ ?_ ?_|exact mHx|exact mIx _|(simp only [wM,Nat.reduceAdd,Nat.reduceLT,Nat.reduceLeDiff];done)));done)|omega|decide) only [e, ha.ix, ha.ld, callT W, d2, d3, c1, d4, ↓wA,wB,wL,resOf,Nat.reduceBEq,Int.reduceBEq,Int.reduceBNe,Int.reduceLT,Int.reduceLE,Int.reduceAdd,Int.reduceSub,Int.reduceMul,Int.reduceToNat]
          exact ⟨_, rfl, rfl, by (repeat' (first|assumption|exact mAx _|refine mBx ?_ ?_|exact mCx (by assumption)|refine mDx ?_|refine mEx ?_ ?_ ?_|exact mFx|refine mGx ?_ ?_ ?_|exact mHx|exact mIx _|(simp only [wM,Nat.reduceAdd,Nat.reduceLT,Nat.reduceLeDiff];done)))⟩
        · have d2 := decide_eq_false e4
          simp (disch := first|(simp only [Nat.reduceBEq,wE];done)|((repeat' (first|assumption|exact mAx _|refine mBx ?_ ?_|exact mCx (by assumption)|refine mDx ?_|refine mEx ?_ ?_ ?_|exact mFx|refine mGx ?_ ?_ ?_|exact mHx|exact mIx _|(simp only [wM,Nat.reduceAdd,Nat.reduceLT,Nat.reduceLeDiff];done)));done)|omega|decide) only [e, ha.ix, ha.ld, callT W, d2, ↓wA,wB,wL,resOf,Nat.reduceBEq,Int.reduceBEq,Int.reduceBNe,Int.reduceLT,Int.reduceLE,Int.reduceAdd,Int.reduceSub,Int.reduceMul,Int.reduceToNat]
          exact ⟨_, rfl, rfl, by (repeat' (first|assumption|exact mAx _|refine mBx ?_ ?_|exact mCx (by assumption)|refine mDx ?_|refine mEx ?_ ?_ ?_|exact mFx|refine mGx ?_ ?_ ?_|exact mHx|exact mIx _|(simp only [wM,Nat.reduceAdd,Nat.reduceLT,Nat.reduceLeDiff];done)))⟩
    · have ei : i = zs.length := by omega
      rw [ei, List.take_of_length_le (Nat.le_refl _)] at hp
      by_cases e5 : zs.length = 0
      · have d5 : ((zs.length : Int) == 0) = true := by rw [beq_iff_eq]; omega
        rw [if_neg fun hw => by have := hw.2; omega]
        simp (disch := first|(simp only [Nat.reduceBEq,wE];done)|((repeat' (first|assumption|exact mAx _|refine mBx ?_ ?_|exact mCx (by assumption)|refine mDx ?_|refine mEx ?_ ?_ ?_|exact mFx|refine mGx ?_ ?_ ?_|exact mHx|exact mIx _|(simp only [wM,Nat.reduceAdd,Nat.reduceLT,Nat.reduceLeDiff];done)));done)|omega|decide) only [e, ha.len, d5, ↓wA,wB,wL,resOf,Nat.reduceBEq,Int.reduceBEq,Int.reduceBNe,Int.reduceLT,Int.reduceLE,Int.reduceAdd,Int.reduceSub,Int.reduceMul,Int.reduceToNat]
        exact ⟨_, rfl, rfl, by (repeat' (first|assumption|exact mAx _|refine mBx ?_ ?_|exact mCx (by assumption)|refine mDx ?_|refine mEx ?_ ?_ ?_|exact mFx|refine mGx ?_ ?_ ?_|exact mHx|exact mIx _|(simp only [wM,Nat.reduceAdd,Nat.reduceLT,Nat.reduceLeDiff];done)))⟩
      · have d5 : ((zs.length : Int) == 0) = false := by rw [beq_eq_false_iff_ne]; omega
        rw [if_pos ⟨hp, by omega⟩]
        simp (disch := first|(simp only [Nat.reduceBEq,wE];done)|((repeat' (first|assumption|exact mAx _|refine mBx ?_ ?_|exact mCx (by assumption)|refine mDx ?_|refine mEx ?_ ?_ ?_|exact mFx|refine mGx ?_ ?_ ?_|exact mHx|exact mIx _|(simp only [wM,Nat.reduceAdd,Nat.reduceLT,Nat.reduceLeDiff];done)));done)|omega|decide) only [e, ha.len, d5, ↓wA,wB,wL,resOf,Nat.reduceBEq,Int.reduceBEq,Int.reduceBNe,Int.reduceLT,Int.reduceLE,Int.reduceAdd,Int.reduceSub,Int.reduceMul,Int.reduceToNat]
        exact ⟨_, rfl, rfl, by (repeat' (first|assumption|exact mAx _|refine mBx ?_ ?_|exact mCx (by assumption)|refine mDx ?_|refine mEx ?_ ?_ ?_|exact mFx|refine mGx ?_ ?_ ?_|exact mHx|exact mIx _|(simp only [wM,Nat.reduceAdd,Nat.reduceLT,Nat.reduceLeDiff];done)))⟩

theorem f28 (n : Nat) (h : Hp) (hk : Hok h) (hn : n ≤ 60) :
    ∃ v h', Evals Tryd.prog tab false (.func 28) [.int .i64 n] h (v, h') ∧ Grown h h' ∧ Own h.next h'.blks .i64 v (uL n) := by
  refine evals_q c28 (fun v h' => Own h.next h'.blks .i64 v (uL n)) rfl hk ?_ (fun v h1 g q => q.leave)
  simp only [sf28, initS_cons, initS_nil]
  have O : Own h.next (h.en.pu [.int .i64 0, .int .i64 1]).blks .i64 (.sl h.next 0 2 (some 2) 1) (uT 0) := Own.fresh (Nat.le_refl _) rfl rfl rfl (Nat.le_refl _)
  simp (disch := first|(simp only [Nat.reduceBEq,wE];done)|((repeat' (first|assumption|exact mAx _|refine mBx ?_ ?_|exact mCx (by assumption)|refine mDx ?_|refine mEx ?_ ?_ ?_|exact mFx|refine mGx ?_ ?_ ?_|exact mHx|exact mIx _|(simp only [wM,Nat.reduceAdd,Nat.reduceLT,Nat.reduceLeDiff];done)));done)|omega|decide) only [sBS_2, ↓wA,wB,wL,resOf,Nat.reduceBEq,Int.reduceBEq,Int.reduceBNe,Int.reduceLT,Int.reduceLE,Int.reduceAdd,Int.reduceSub,Int.reduceMul,Int.reduceToNat]
  refine wloop (fun mm ss => ∃ (j : Nat) (q : AV) (h1 : Hp) (u2 u5 u9 u21 : AV), (mm = n - (j + 1)) ∧ ((j = 0 ∨ j + 1 ≤ n) ∧ Grown h h1 ∧ Own h.next h1.blks .i64 q (uT j)) ∧ ss = { fr := [(0, .int .i64 n), (2, u2), (3, q), (4, .int .i64 (j + 1 : Nat)), (5, u5), (9, u9), (21, u21)], hp := h1 }) (n - (0 + 1)) ?_ ?_
  ·
    refine ⟨0, _, _, _, _, _, _, by omega, ⟨.inl rfl, Grown.pu Grown.en rfl, O⟩, rfl⟩
  rintro nA sA ⟨j, q, h1, u2, u5, u9, u21, hnA, ⟨hj, g1, o1⟩, rfl⟩
  have k1 := g1.ok hk
  have tl := uT_len j
  by_cases e : j + 1 < n
  · have d1 : decide (((j + 1 : Nat) : Int) < (n : Int)) = true := decide_eq_true (by omega)
    have r1 := rt_le (j + 1) (by omega)
    have sp := rt_spec (2 * (j + 1))
    simp (disch := first|(simp only [Nat.reduceBEq,wE];done)|((repeat' (first|assumption|exact mAx _|refine mBx ?_ ?_|exact mCx (by assumption)|refine mDx ?_|refine mEx ?_ ?_ ?_|exact mFx|refine mGx ?_ ?_ ?_|exact mHx|exact mIx _|(simp only [wM,Nat.reduceAdd,Nat.reduceLT,Nat.reduceLeDiff];done)));done)|omega|decide) only [d1, ↓wA,wB,wL,resOf,Nat.reduceBEq,Int.reduceBEq,Int.reduceBNe,Int.reduceLT,Int.reduceLE,Int.reduceAdd,Int.reduceSub,Int.reduceMul,Int.reduceToNat]
    refine wloop (fun mm ss => ∃ (r : Nat) (u2 u9 u21 : AV), (mm = rt (2 * (j + 1)) - r) ∧ (r ≤ rt (2 * (j + 1))) ∧ ss = { fr := [(0, .int .i64 n), (2, u2), (3, q), (4, .int .i64 (j + 1 : Nat)), (5, .int .i64 r), (9, u9), (21, u21)], hp := h1 }) (rt (2 * (j + 1))) ?_ ?_
    ·
      refine ⟨0, _, _, _, by omega, by omega, rfl⟩
    rintro nB sB ⟨r, u2, u9, u21, hnB, hr, rfl⟩
    have rr : r * r ≤ 61 * 61 := Nat.mul_le_mul (by omega) (by omega)
    have m1 : ((2 : Int) * r + 1) * (2 * r + 1) = ((4 * (r * r) + 4 * r + 1 : Nat) : Int) := by
      have : ((r * r : Nat) : Int) = (r : Int) * r := by simp
      push_cast
      grind
    by_cases e2 : r < rt (2 * (j + 1))
    · have := sp.2 r e2
      have d2 : decide (((4 * (r * r) + 4 * r + 1 : Nat) : Int) ≤ 8 * ((j + 1 : Nat) : Int)) = true := decide_eq_true (by omega)
      simp (disch := first|(simp only [Nat.reduceBEq,wE];done)|((repeat' (first|assumption|exact mAx _|refine mBx ?_ ?_|exact mCx (by assumption)|refine mDx ?_|refine mEx ?_ ?_ ?_|exact mFx|refine mGx ?_ ?_ ?_|exact mHx|exact mIx _|(simp only [wM,Nat.reduceAdd,Nat.reduceLT,Nat.reduceLeDiff];done)));done)|omega|decide) only [m1, d2, ↓wA,wB,wL,resOf,Nat.reduceBEq,Int.reduceBEq,Int.reduceBNe,Int.reduceLT,Int.reduceLE,Int.reduceAdd,Int.reduceSub,Int.reduceMul,Int.reduceToNat]
      refine ⟨_, ?_, r + 1, _, _, _, rfl, ?_, rfl⟩
      · omega
      omega
    · have re : r = rt (2 * (j + 1)) := by omega
      have := sp.1
      rw [← re] at this
      have d2 : decide (((4 * (r * r) + 4 * r + 1 : Nat) : Int) ≤ 8 * ((j + 1 : Nat) : Int)) = false := decide_eq_false (by omega)
      have c2 : ((j + 1 : Nat) : Int) - (r : Int) = ((j + 1 - r : Nat) : Int) := by omega
      have b1 := uT_all j (by omega) ((uT j).getD (j + 1) 0) (by rw [List.getD_eq_getElem?_getD, List.getElem?_eq_getElem (by omega), Option.getD_some]; exact List.getElem_mem _)
      have b2 := uT_all j (by omega) ((uT j).getD (j + 1 - r) 0) (by rw [List.getD_eq_getElem?_getD, List.getElem?_eq_getElem (by omega), Option.getD_some]; exact List.getElem_mem _)
      obtain ⟨q2, h2, y1, y2, y3, y4⟩ := own_app1 (v := 2 * (uT j).getD (j + 1) 0 - (uT j).getD (j + 1 - r) 0) hk g1 o1 (by omega)
      have s1 : Sub h1.blks ((h1.next, { cells := [.int .i64 (2 * (uT j).getD (j + 1) 0 - (uT j).getD (j + 1 - r) 0)], ch := h1.next, wr := true }) :: h1.blks) := Sub.push (Sub.refl _) (HokR.fresh k1)
      simp (disch := first|(simp only [Nat.reduceBEq,wE];done)|((repeat' (first|assumption|exact mAx _|refine mBx ?_ ?_|exact mCx (by assumption)|refine mDx ?_|refine mEx ?_ ?_ ?_|exact mFx|refine mGx ?_ ?_ ?_|exact mHx|exact mIx _|(simp only [wM,Nat.reduceAdd,Nat.reduceLT,Nat.reduceLeDiff];done)));done)|omega|decide) only [m1, d2, o1.ints.ix, o1.ints.ld, c2, sBS_1, y1, ↓wA,wB,wL,resOf,Nat.reduceBEq,Int.reduceBEq,Int.reduceBNe,Int.reduceLT,Int.reduceLE,Int.reduceAdd,Int.reduceSub,Int.reduceMul,Int.reduceToNat]
      refine ⟨_, ?_, j + 1, _, _, _, _, _, _, rfl, ?_, rfl⟩
      · omega
      exact ⟨by omega, y3, by rw [uT, ← re]; exact y2⟩
  · have d1 : decide (((j + 1 : Nat) : Int) < (n : Int)) = false := decide_eq_false (by omega)
    rw [uL_of hj e] at o1
    simp (disch := first|(simp only [Nat.reduceBEq,wE];done)|((repeat' (first|assumption|exact mAx _|refine mBx ?_ ?_|exact mCx (by assumption)|refine mDx ?_|refine mEx ?_ ?_ ?_|exact mFx|refine mGx ?_ ?_ ?_|exact mHx|exact mIx _|(simp only [wM,Nat.reduceAdd,Nat.reduceLT,Nat.reduceLeDiff];done)));done)|omega|decide) only [d1, ↓wA,wB,wL,resOf,Nat.reduceBEq,Int.reduceBEq,Int.reduceBNe,Int.reduceLT,Int.reduceLE,Int.reduceAdd,Int.reduceSub,Int.reduceMul,Int.reduceToNat]
    exact ⟨_, rfl, g1, o1⟩

theorem f29 (m : Nat) (h : Hp) (hk : Hok h) (hm1 : 1 ≤ m) (hm : m ≤ 12) :
    ∃ v h', Evals Tryd.prog tab false (.func 29) [.int .i64 m] h (v, h') ∧ Grown h h' ∧ Own h.next h'.blks .i64 v (cgS m) := by
  refine evals_q c29 (fun v h' => Own h.next h'.blks .i64 v (cgS m)) rfl hk ?_ (fun v h1 g q => q.leave)
  simp only [sf29, initS_cons, initS_nil]
  obtain ⟨u, h2, eu, g2, o2⟩ := f28 m h.en hk (by omega)
  have k2 := g2.ok hk
  have gh2 : Grown h h2 := GrownR.of_en g2
  have ul : m < (uL m).length := by unfold uL; rw [uT_len]; omega
  have gp : Grown h2 (h2.pu []) := Grown.pu Grown.refl rfl
  have O : Own h2.next (h2.pu []).blks .i64 (.sl h2.next 0 0 (some 0) 1) [] := Own.fresh (Nat.le_refl _) rfl rfl rfl (Nat.le_refl _)
  simp (disch := first|(simp only [Nat.reduceBEq,wE];done)|((repeat' (first|assumption|exact mAx _|refine mBx ?_ ?_|exact mCx (by assumption)|refine mDx ?_|refine mEx ?_ ?_ ?_|exact mFx|refine mGx ?_ ?_ ?_|exact mHx|exact mIx _|(simp only [wM,Nat.reduceAdd,Nat.reduceLT,Nat.reduceLeDiff];done)));done)|omega|decide) only [callT eu, ↓wA,wB,wL,resOf,Nat.reduceBEq,Int.reduceBEq,Int.reduceBNe,Int.reduceLT,Int.reduceLE,Int.reduceAdd,Int.reduceSub,Int.reduceMul,Int.reduceToNat]
  refine wloop (fun mm ss => ∃ (k : Nat) (i : Int) (q : AV) (h3 : Hp) (u2 u12 : AV), (mm = m - k) ∧ ((k ≤ m ∧ i = (m : Int) - 1 - k) ∧ Grown h2 h3 ∧ Own h2.next h3.blks .i64 q ((cgS m).take k)) ∧ ss = { fr := [(0, .int .i64 m), (2, u2), (3, u), (4, q), (5, .int .i64 i), (12, u12)], hp := h3 }) (m) ?_ ?_
  ·
    refine ⟨0, _, _, _, _, _, by omega, ⟨⟨by omega, by omega⟩, gp, by rw [List.take_zero]; exact O⟩, rfl⟩
  rintro nA sA ⟨k, i, q, h3, u2, u12, hnA, ⟨⟨hi, hie⟩, g3, o3⟩, rfl⟩
  subst hie
  have k3 := g3.ok k2
  by_cases ek : k < m
  · have c1 : (m : Int) - 1 - k = ((m - 1 - k : Nat) : Int) := by omega
    have c2 : ((m - 1 - k : Nat) : Int) - 1 = (m : Int) - 1 - ((k + 1 : Nat) : Int) := by omega
    have b1 := uL_bd (n := m) (by omega) m
    have b2 := uL_bd (n := m) (by omega) (m - 1 - k)
    have u3 : Ints h3.blks .i64 u (uL m) := o2.ints.sub (g3.sub k2)
    have hl : ((cgS m).take k).length ≤ 12 := by rw [List.length_take, cgS_len]; omega
    obtain ⟨q2, h4, y1, y2, y3, y4⟩ := own_app1 (v := (uL m).getD m 0 - (uL m).getD (m - 1 - k) 0) k2 g3 o3 (by omega)
    have s1 : Sub h3.blks ((h3.next, { cells := [.int .i64 ((uL m).getD m 0 - (uL m).getD (m - 1 - k) 0)], ch := h3.next, wr := true }) :: h3.blks) := Sub.push (Sub.refl _) (HokR.fresh k3)
    have d2' : decide (((m - 1 - k : Nat) : Int) ≥ 0) = true := decide_eq_true (by omega)
    rw [c1]
    simp (disch := first|(simp only [Nat.reduceBEq,wE];done)|((repeat' (first|assumption|exact mAx _|refine mBx ?_ ?_|exact mCx (by assumption)|refine mDx ?_|refine mEx ?_ ?_ ?_|exact mFx|refine mGx ?_ ?_ ?_|exact mHx|exact mIx _|(simp only [wM,Nat.reduceAdd,Nat.reduceLT,Nat.reduceLeDiff];done)));done)|omega|decide) only [d2', u3.ix, u3.ld, sBS_1, y1, c2, ↓wA,wB,wL,resOf,Nat.reduceBEq,Int.reduceBEq,Int.reduceBNe,Int.reduceLT,Int.reduceLE,Int.reduceAdd,Int.reduceSub,Int.reduceMul,Int.reduceToNat]
    refine ⟨_, ?_, k + 1, _, _, _, _, _, rfl, ?_, rfl⟩
    · omega
    exact ⟨⟨by omega, by omega⟩, y3, by rw [cgS_suc ek]; exact y2⟩
  · have d2 : decide ((m : Int) - 1 - k ≥ 0) = false := decide_eq_false (by omega)
    rw [List.take_of_length_le (by rw [cgS_len]; omega)] at o3
    simp (disch := first|(simp only [Nat.reduceBEq,wE];done)|((repeat' (first|assumption|exact mAx _|refine mBx ?_ ?_|exact mCx (by assumption)|refine mDx ?_|refine mEx ?_ ?_ ?_|exact mFx|refine mGx ?_ ?_ ?_|exact mHx|exact mIx _|(simp only [wM,Nat.reduceAdd,Nat.reduceLT,Nat.reduceLeDiff];done)));done)|omega|decide) only [d2, ↓wA,wB,wL,resOf,Nat.reduceBEq,Int.reduceBEq,Int.reduceBNe,Int.reduceLT,Int.reduceLE,Int.reduceAdd,Int.reduceSub,Int.reduceMul,Int.reduceToNat]
    exact ⟨_, rfl, GrownR.trans gh2 g3, o3.le gh2.next⟩
end Go.Proofs.YtelalpohbodolaaDoor
