/- WeighWays: the ways to all totals. -/
import Derived.Test.YtelalpohbodolaaDoorDC
import Derived.Test.YtelalpohbodolaaDoorMG
import Derived.Test.YtelalpohbodolaaDoorFWeighWays
set_option linter.unusedSimpArgs false
set_option linter.unusedVariables false
set_option maxHeartbeats 8000000
set_option maxRecDepth 20000
namespace Go.Proofs.YtelalpohbodolaaDoor
open Go Go.Abs Go.Wg

theorem f10 (x0 : AV) (l0 : List Int) (h : Hp) (hk : Hok h) (P0 : Ints h.blks .u8 x0 l0) (B0 : ∀ k ∈ l0, 0 ≤ k ∧ k ≤ 255) (S0 : l0.length ≤ maxLen) :
    ∃ h', Evals Tryd.prog tab false (.func 10) [x0] h (.bool true, h') := by
  suffices H : ∃ v h', Evals Tryd.prog tab false (.func 10) [x0] h (v, h') ∧ v = .bool true by
    obtain ⟨v, h', e, rfl⟩ := H
    exact ⟨h', e⟩
  refine evals_func (Q := fun v _ => v = .bool true) c10 rfl ?_
  simp only [sf10, initS_cons, initS_nil]
  have mx : maxLen = 9223372036854775807 := by unfold maxLen; rfl
  have O : Own h.next (h.en.pu []).blks .i64 (.sl h.next 0 0 (some 0) 1) [] := Own.fresh (Nat.le_refl _) rfl rfl rfl (Nat.le_refl _)
  have m9 : ∀ z : Int, 0 ≤ z → sBin .rem .no (.int .i64 z) (.int .i64 9) = some (.int .i64 (z % 9)) := fun z hz => sBin_rem hz (by omega)
  simp (disch := first|(simp only [Nat.reduceBEq,wE];done)|((repeat' (first|assumption|exact mAx _|refine mBx ?_ ?_|exact mCx (by assumption)|refine mDx ?_|refine mEx ?_ ?_ ?_|exact mFx|refine mGx ?_ ?_ ?_|exact mHx|exact mIx _|(simp only [wM,Nat.reduceAdd,Nat.reduceLT,Nat.reduceLeDiff];done)));done)|omega|decide) only [↓wA,wB,wL,resOf,Nat.reduceBEq,Int.reduceBEq,Int.reduceBNe,Int.reduceLT,Int.reduceLE,Int.reduceAdd,Int.reduceSub,Int.reduceMul,Int.reduceToNat]
  refine wloop (fun mm ss => ∃ (i : Nat) (q : AV) (h1 : Hp) (u2 u7 u8 u9 u10 u11 u12 u13 u14 u15 u16 u17 u26 u47 u57 u67 u80 u93 : AV), (mm = min l0.length 7 - i) ∧ (i ≤ min l0.length 7 ∧ Grown h h1 ∧ Own h.next h1.blks .i64 q (rsL l0 9 i)) ∧ ss = { fr := [(0, x0), (2, u2), (3, q), (4, .int .i64 (sP l0 9 i)), (5, .int .i64 (rsL l0 9 i).sum), (6, .int .i64 i), (7, u7), (8, u8), (9, u9), (10, u10), (11, u11), (12, u12), (13, u13), (14, u14), (15, u15), (16, u16), (17, u17), (26, u26), (47, u47), (57, u57), (67, u67), (80, u80), (93, u93)], hp := h1 }) (min l0.length 7) ?_ ?_
  ·
    refine ⟨0, _, _, _, _, _, _, _, _, _, _, _, _, _, _, _, _, _, _, _, _, by omega, ⟨by omega, Grown.pu Grown.en rfl, O⟩, rfl⟩
  rintro nA sA ⟨i, q, h1, u2, u7, u8, u9, u10, u11, u12, u13, u14, u15, u16, u17, u26, u47, u57, u67, u80, u93, hnA, ⟨hi, g1, o1⟩, rfl⟩
  have k1 := g1.ok hk
  have a1 := P0.sub (g1.sub hk)
  have bi := sP_bd l0 (m := 9) (by omega) i
  have lr := rsL_len l0 9 i
  have ol := o1.len
  rw [lr] at ol
  have sb := rsL_sum_bd l0 (m := 9) (by omega) i
  have sq : (9 : Int) * i * i ≤ 441 := by
    have h7 : (9 : Int) * i ≤ 63 := by omega
    have := Int.mul_le_mul h7 (show (i : Int) ≤ 7 by omega) (by omega) (by omega)
    omega
  by_cases e1 : i < min l0.length 7
  · have d1 : decide ((i : Int) < (l0.length : Int)) = true := decide_eq_true (by omega)
    have d2 : decide ((i : Int) < 7) = true := decide_eq_true (by omega)
    have zb := B0 (l0.getD i 0) (by rw [List.getD_eq_getElem?_getD, List.getElem?_eq_getElem (by omega), Option.getD_some]; exact List.getElem_mem _)
    have m1 := Int.emod_nonneg (l0.getD i 0) (show (9 : Int) ≠ 0 by omega)
    have m2 := Int.emod_lt_of_pos (l0.getD i 0) (show (0 : Int) < 9 by omega)
    have tm := m9 (l0.getD i 0) zb.1
    obtain ⟨q2, h2, y1, y2, y3, y4⟩ := own_app1 (v := sP l0 9 (i + 1)) hk g1 o1 (by omega)
    have es : sP l0 9 i + (l0.getD i 0 % 9 + 1) = sP l0 9 (i + 1) := rfl
    have et : (rsL l0 9 i).sum + sP l0 9 (i + 1) = (rsL l0 9 (i + 1)).sum := by rw [rsL_suc, List.sum_append]; simp
    have sb2 := sP_bd l0 (m := 9) (by omega) (i + 1)
    simp (disch := first|(simp only [Nat.reduceBEq,wE];done)|((repeat' (first|assumption|exact mAx _|refine mBx ?_ ?_|exact mCx (by assumption)|refine mDx ?_|refine mEx ?_ ?_ ?_|exact mFx|refine mGx ?_ ?_ ?_|exact mHx|exact mIx _|(simp only [wM,Nat.reduceAdd,Nat.reduceLT,Nat.reduceLeDiff];done)));done)|omega|decide) only [a1.len, d1, d2, a1.ix, a1.ld, tm, es, sBS_1, y1, et, ↓wA,wB,wL,resOf,Nat.reduceBEq,Int.reduceBEq,Int.reduceBNe,Int.reduceLT,Int.reduceLE,Int.reduceAdd,Int.reduceSub,Int.reduceMul,Int.reduceToNat]
    refine ⟨_, ?_, i + 1, _, _, _, _, _, _, _, _, _, _, _, _, _, _, _, _, _, _, _, _, rfl, ?_, rfl⟩
    · omega
    exact ⟨by omega, y3, by rw [rsL_suc]; exact y2⟩
  · have ei : i = min l0.length 7 := by omega
    have dd : decide ((i : Int) < (l0.length : Int)) = false ∨ (decide ((i : Int) < (l0.length : Int)) = true ∧ decide ((i : Int) < 7) = false) := by
      by_cases hh : i < l0.length
      · exact .inr ⟨decide_eq_true (by omega), decide_eq_false (by omega)⟩
      · exact .inl (decide_eq_false (by omega))
    obtain ⟨L, hL⟩ : ∃ L, L = rsL l0 9 i := ⟨_, rfl⟩
    obtain ⟨w, hw⟩ : ∃ w, w = sP l0 9 i := ⟨_, rfl⟩
    have rise := rsL_rise l0 (m := 9) (by omega) i
    have bdl := rsL_bd l0 (m := 9) (by omega) i
    rw [← hL] at o1 lr sb rise bdl ⊢
    rw [← hw]
    obtain ⟨S, hS⟩ : ∃ S : Nat, L.sum = S := ⟨L.sum.toNat, by omega⟩
    rw [hS] at sb ⊢
    have nn : ∀ a ∈ L, 0 ≤ a := fun a ha => by have := bdl a ha; omega
    by_cases e0 : i = 0
    · have d3 : ((i : Int) == 0) = true := by rw [beq_iff_eq]; omega
      rcases dd with d1 | ⟨d1, d2⟩
      · simp (disch := first|(simp only [Nat.reduceBEq,wE];done)|((repeat' (first|assumption|exact mAx _|refine mBx ?_ ?_|exact mCx (by assumption)|refine mDx ?_|refine mEx ?_ ?_ ?_|exact mFx|refine mGx ?_ ?_ ?_|exact mHx|exact mIx _|(simp only [wM,Nat.reduceAdd,Nat.reduceLT,Nat.reduceLeDiff];done)));done)|omega|decide) only [a1.len, d1, ol, d3, callT (lives_ev _), ↓wA,wB,wL,resOf,Nat.reduceBEq,Int.reduceBEq,Int.reduceBNe,Int.reduceLT,Int.reduceLE,Int.reduceAdd,Int.reduceSub,Int.reduceMul,Int.reduceToNat]
        exact ⟨_, rfl, rfl⟩
      · simp (disch := first|(simp only [Nat.reduceBEq,wE];done)|((repeat' (first|assumption|exact mAx _|refine mBx ?_ ?_|exact mCx (by assumption)|refine mDx ?_|refine mEx ?_ ?_ ?_|exact mFx|refine mGx ?_ ?_ ?_|exact mHx|exact mIx _|(simp only [wM,Nat.reduceAdd,Nat.reduceLT,Nat.reduceLeDiff];done)));done)|omega|decide) only [a1.len, d1, d2, ol, d3, callT (lives_ev _), ↓wA,wB,wL,resOf,Nat.reduceBEq,Int.reduceBEq,Int.reduceBNe,Int.reduceLT,Int.reduceLE,Int.reduceAdd,Int.reduceSub,Int.reduceMul,Int.reduceToNat]
        exact ⟨_, rfl, rfl⟩
    · have d3 : ((i : Int) == 0) = false := by rw [beq_eq_false_iff_ne]; omega
      have wf : WF L := ⟨⟨rise, fun z hz => by have := bdl z hz; omega⟩, by omega⟩
      have p7 : 2 ^ L.length ≤ 2 ^ 7 := Nat.pow_le_pow_right (by omega) (by omega)
      have p7 : 2 ^ L.length ≤ 128 := p7
      have ez : ∀ t : Nat, errW L 12 t = 0 := fun t => by
        unfold errW
        rw [if_neg (by omega), if_neg (by omega), if_neg (by simpa using wf)]
      have wN' : ∀ t : Nat, wN L t = ((cnV L t : Nat) : Int) := fun t => by unfold wN cnV; rw [if_pos (ez t)]
      obtain ⟨d, hd, DI⟩ := f14 q L h1 k1 o1.ints (by omega)
      have e00 := ez 0
      rw [show errW L 12 0 = 0 from e00] at DI hd
      have hd' : d = true ↔ Dist L := by rw [hd]; simp
      have all := cnA_all nn hS
      have ab := cnA_le L
      have gB : Grown h1 (h1.pu []) := Grown.pu Grown.refl rfl
      have OB : Own h1.next (h1.pu []).blks .i64 (.sl h1.next 0 0 (some 0) 1) [] := Own.fresh (Nat.le_refl _) rfl rfl rfl (Nat.le_refl _)
      rcases dd with d1 | ⟨d1, d2⟩
      · simp (disch := first|(simp only [Nat.reduceBEq,wE];done)|((repeat' (first|assumption|exact mAx _|refine mBx ?_ ?_|exact mCx (by assumption)|refine mDx ?_|refine mEx ?_ ?_ ?_|exact mFx|refine mGx ?_ ?_ ?_|exact mHx|exact mIx _|(simp only [wM,Nat.reduceAdd,Nat.reduceLT,Nat.reduceLeDiff];done)));done)|omega|decide) only [a1.len, d1, ol, d3, callT DI, sBS_0, ↓wA,wB,wL,resOf,Nat.reduceBEq,Int.reduceBEq,Int.reduceBNe,Int.reduceLT,Int.reduceLE,Int.reduceAdd,Int.reduceSub,Int.reduceMul,Int.reduceToNat]
        refine wloop (fun mm ss => ∃ (j : Nat) (q2 : AV) (h3 : Hp) (u2 u6 u13 u14 u15 u16 u17 u26 u47 u57 u67 u80 u93 : AV), (mm = S + 1 - j) ∧ (j ≤ S + 1 ∧ Grown h1 h3 ∧ Own h1.next h3.blks .i64 q2 (cnL L j)) ∧ ss = { fr := [(0, x0), (2, u2), (3, q), (4, .int .i64 w), (5, .int .i64 S), (6, u6), (7, .bool d), (8, .int .i64 0), (9, q2), (10, .int .i64 (cnA L j : Nat)), (11, .int .i64 (cnM L j)), (12, .int .i64 j), (13, u13), (14, u14), (15, u15), (16, u16), (17, u17), (26, u26), (47, u47), (57, u57), (67, u67), (80, u80), (93, u93)], hp := h3 }) (S + 1) ?_ ?_
        ·
          refine ⟨0, _, _, _, _, _, _, _, _, _, _, _, _, _, _, _, by omega, ⟨by omega, gB, OB⟩, rfl⟩
        rintro nB sB ⟨j, q2, h3, u2, u6, u13, u14, u15, u16, u17, u26, u47, u57, u67, u80, u93, hnB, ⟨hj, g3, o3⟩, rfl⟩
        have k3 := g3.ok k1
        have q3 := o1.ints.sub (g3.sub k1)
        have r3 : refOK h3.next q = true := OwnA.ref (OwnA.sub o1 (g3.sub k1)) k3
        have lc := cnL_len L j
        have aj := ab j
        have mj := cnM_bd L j
        have vj := cnV_le L j
        have bj : 2 ^ L.length * j ≤ 128 * 1000 := Nat.mul_le_mul p7 (by omega)
        have aj2 := ab (j + 1)
        have bj2 : 2 ^ L.length * (j + 1) ≤ 128 * 1000 := Nat.mul_le_mul p7 (by omega)
        by_cases ej : j ≤ S
        · have d4 : decide ((j : Int) ≤ (S : Int)) = true := decide_eq_true (by omega)
          have WY := f21 q L (j : Int) h3 k3 q3 (by omega) r3
          rw [ez j, wN' j] at WY
          obtain ⟨q4, h4, y1, y2, y3, y4⟩ := own_app1 (v := ((cnV L j : Nat) : Int)) k1 g3 o3 (by omega)
          have ea : ((cnA L j : Nat) : Int) + ((cnV L j : Nat) : Int) = ((cnA L (j + 1) : Nat) : Int) := by rw [cnA_suc]; omega
          have em : max (cnM L j) ((cnV L j : Nat) : Int) = cnM L (j + 1) := rfl
          simp (disch := first|(simp only [Nat.reduceBEq,wE];done)|((repeat' (first|assumption|exact mAx _|refine mBx ?_ ?_|exact mCx (by assumption)|refine mDx ?_|refine mEx ?_ ?_ ?_|exact mFx|refine mGx ?_ ?_ ?_|exact mHx|exact mIx _|(simp only [wM,Nat.reduceAdd,Nat.reduceLT,Nat.reduceLeDiff];done)));done)|omega|decide) only [d4, callT WY, sBS_1, y1, ea, em, ↓wA,wB,wL,resOf,Nat.reduceBEq,Int.reduceBEq,Int.reduceBNe,Int.reduceLT,Int.reduceLE,Int.reduceAdd,Int.reduceSub,Int.reduceMul,Int.reduceToNat]
          refine ⟨_, ?_, j + 1, _, _, _, _, _, _, _, _, _, _, _, _, _, _, _, rfl, ?_, rfl⟩
          · omega
          exact ⟨by omega, y3, by rw [cnL_suc]; exact y2⟩
        · have ejS : j = S + 1 := by omega
          have d4 : decide ((j : Int) ≤ (S : Int)) = false := decide_eq_false (by omega)
          subst ejS
          simp (disch := first|(simp only [Nat.reduceBEq,wE];done)|((repeat' (first|assumption|exact mAx _|refine mBx ?_ ?_|exact mCx (by assumption)|refine mDx ?_|refine mEx ?_ ?_ ?_|exact mFx|refine mGx ?_ ?_ ?_|exact mHx|exact mIx _|(simp only [wM,Nat.reduceAdd,Nat.reduceLT,Nat.reduceLeDiff];done)));done)|omega|decide) only [d4, ↓wA,wB,wL,resOf,Nat.reduceBEq,Int.reduceBEq,Int.reduceBNe,Int.reduceLT,Int.reduceLE,Int.reduceAdd,Int.reduceSub,Int.reduceMul,Int.reduceToNat]
          refine wloop (fun mm ss => ∃ (v : Nat) (u2 u6 u12 u13 u14 u16 u17 u26 u47 u57 u67 u80 u93 : AV), (mm = S + 1 - v) ∧ (v ≤ S + 1) ∧ ss = { fr := [(0, x0), (2, u2), (3, q), (4, .int .i64 w), (5, .int .i64 S), (6, u6), (7, .bool d), (8, .int .i64 0), (9, q2), (10, .int .i64 (cnA L (S + 1) : Nat)), (11, .int .i64 (cnM L (S + 1))), (12, u12), (13, u13), (14, u14), (15, .int .i64 v), (16, u16), (17, u17), (26, u26), (47, u47), (57, u57), (67, u67), (80, u80), (93, u93)], hp := h3 }) (S + 1) ?_ ?_
          ·
            refine ⟨0, _, _, _, _, _, _, _, _, _, _, _, _, _, by omega, by omega, rfl⟩
          rintro nC sC ⟨v, u2, u6, u12, u13, u14, u16, u17, u26, u47, u57, u67, u80, u93, hnC, hv, rfl⟩
          by_cases ev : v ≤ S
          · have d5 : decide ((v : Int) ≤ (S : Int)) = true := decide_eq_true (by omega)
            have c1 : (S : Int) - (v : Int) = ((S - v : Nat) : Int) := by omega
            have g1' := cnL_get (l := L) (show v < S + 1 by omega)
            have g2' := cnL_get (l := L) (show S - v < S + 1 by omega)
            have cc := cnV_compl (l := L) hS ev
            have ne : (((cnV L (S - v) : Nat) : Int) != ((cnV L (S - v) : Nat) : Int)) = false := bne_self_eq_false _
            rw [cc] at g1'
            simp (disch := first|(simp only [Nat.reduceBEq,wE];done)|((repeat' (first|assumption|exact mAx _|refine mBx ?_ ?_|exact mCx (by assumption)|refine mDx ?_|refine mEx ?_ ?_ ?_|exact mFx|refine mGx ?_ ?_ ?_|exact mHx|exact mIx _|(simp only [wM,Nat.reduceAdd,Nat.reduceLT,Nat.reduceLeDiff];done)));done)|omega|decide) only [d5, o3.ints.ix, o3.ints.ld, c1, g1', g2', ne, ↓wA,wB,wL,resOf,Nat.reduceBEq,Int.reduceBEq,Int.reduceBNe,Int.reduceLT,Int.reduceLE,Int.reduceAdd,Int.reduceSub,Int.reduceMul,Int.reduceToNat]
            refine ⟨_, ?_, v + 1, _, _, _, _, _, _, _, _, _, _, _, _, _, rfl, ?_, rfl⟩
            · omega
            omega
          · have d5 : decide ((v : Int) ≤ (S : Int)) = false := decide_eq_false (by omega)
            have c2 : (S : Int) + 1 = ((S + 1 : Nat) : Int) := by omega
            have WZ := f21 q L ((S + 1 : Nat) : Int) h3 k3 q3 (by omega) r3
            have z0 : cnV L (S + 1) = 0 := by unfold cnV; exact count_zero nn (by omega)
            rw [ez (S + 1), wN' (S + 1), z0] at WZ
            replace WZ : Evals Tryd.prog tab false (.func 21) [q, .int .i64 ((S + 1 : Nat) : Int)] h3 (.tu [.int .i64 0, .int .i64 0], h3) := WZ
            have sh : sBin .shl .no (.int .i64 1) (.int .i64 (i : Int)) = some (.int .i64 ((2 ^ L.length : Nat) : Int)) := by rw [lr]; exact sBin_shl1 (by omega)
            rw [all]
            have ae : (((2 ^ L.length : Nat) : Int) == ((2 ^ L.length : Nat) : Int)) = true := beq_self_eq_true _
            have mi := most_iff nn hS
            have dm : d = decide (cnM L (S + 1) ≤ 1) := by rw [Bool.eq_iff_iff, hd', decide_eq_true_eq, mi]
            have dq : decide (d = decide (cnM L (S + 1) ≤ 1)) = true := decide_eq_true dm
            have ol3 := o1.len
            rw [lr] at ol3
            simp (disch := first|(simp only [Nat.reduceBEq,wE];done)|((repeat' (first|assumption|exact mAx _|refine mBx ?_ ?_|exact mCx (by assumption)|refine mDx ?_|refine mEx ?_ ?_ ?_|exact mFx|refine mGx ?_ ?_ ?_|exact mHx|exact mIx _|(simp only [wM,Nat.reduceAdd,Nat.reduceLT,Nat.reduceLeDiff];done)));done)|omega|decide) only [d5, c2, callT WZ, ol, ol3, sh, ae, callT (lives_ev _), dq, ↓wA,wB,wL,resOf,Nat.reduceBEq,Int.reduceBEq,Int.reduceBNe,Int.reduceLT,Int.reduceLE,Int.reduceAdd,Int.reduceSub,Int.reduceMul,Int.reduceToNat]
            exact ⟨_, rfl, rfl⟩
      · simp (disch := first|(simp only [Nat.reduceBEq,wE];done)|((repeat' (first|assumption|exact mAx _|refine mBx ?_ ?_|exact mCx (by assumption)|refine mDx ?_|refine mEx ?_ ?_ ?_|exact mFx|refine mGx ?_ ?_ ?_|exact mHx|exact mIx _|(simp only [wM,Nat.reduceAdd,Nat.reduceLT,Nat.reduceLeDiff];done)));done)|omega|decide) only [a1.len, d1, d2, ol, d3, callT DI, sBS_0, ↓wA,wB,wL,resOf,Nat.reduceBEq,Int.reduceBEq,Int.reduceBNe,Int.reduceLT,Int.reduceLE,Int.reduceAdd,Int.reduceSub,Int.reduceMul,Int.reduceToNat]
        refine wloop (fun mm ss => ∃ (j : Nat) (q2 : AV) (h3 : Hp) (u2 u6 u13 u14 u15 u16 u17 u26 u47 u57 u67 u80 u93 : AV), (mm = S + 1 - j) ∧ (j ≤ S + 1 ∧ Grown h1 h3 ∧ Own h1.next h3.blks .i64 q2 (cnL L j)) ∧ ss = { fr := [(0, x0), (2, u2), (3, q), (4, .int .i64 w), (5, .int .i64 S), (6, u6), (7, .bool d), (8, .int .i64 0), (9, q2), (10, .int .i64 (cnA L j : Nat)), (11, .int .i64 (cnM L j)), (12, .int .i64 j), (13, u13), (14, u14), (15, u15), (16, u16), (17, u17), (26, u26), (47, u47), (57, u57), (67, u67), (80, u80), (93, u93)], hp := h3 }) (S + 1) ?_ ?_
        ·
          refine ⟨0, _, _, _, _, _, _, _, _, _, _, _, _, _, _, _, by omega, ⟨by omega, gB, OB⟩, rfl⟩
        rintro nD sD ⟨j, q2, h3, u2, u6, u13, u14, u15, u16, u17, u26, u47, u57, u67, u80, u93, hnD, ⟨hj, g3, o3⟩, rfl⟩
        have k3 := g3.ok k1
        have q3 := o1.ints.sub (g3.sub k1)
        have r3 : refOK h3.next q = true := OwnA.ref (OwnA.sub o1 (g3.sub k1)) k3
        have lc := cnL_len L j
        have aj := ab j
        have mj := cnM_bd L j
        have vj := cnV_le L j
        have bj : 2 ^ L.length * j ≤ 128 * 1000 := Nat.mul_le_mul p7 (by omega)
        have aj2 := ab (j + 1)
        have bj2 : 2 ^ L.length * (j + 1) ≤ 128 * 1000 := Nat.mul_le_mul p7 (by omega)
        by_cases ej : j ≤ S
        · have d4 : decide ((j : Int) ≤ (S : Int)) = true := decide_eq_true (by omega)
          have WY := f21 q L (j : Int) h3 k3 q3 (by omega) r3
          rw [ez j, wN' j] at WY
          obtain ⟨q4, h4, y1, y2, y3, y4⟩ := own_app1 (v := ((cnV L j : Nat) : Int)) k1 g3 o3 (by omega)
          have ea : ((cnA L j : Nat) : Int) + ((cnV L j : Nat) : Int) = ((cnA L (j + 1) : Nat) : Int) := by rw [cnA_suc]; omega
          have em : max (cnM L j) ((cnV L j : Nat) : Int) = cnM L (j + 1) := rfl
          simp (disch := first|(simp only [Nat.reduceBEq,wE];done)|((repeat' (first|assumption|exact mAx _|refine mBx ?_ ?_|exact mCx (by assumption)|refine mDx ?_|refine mEx ?_ ?_ ?_|exact mFx|refine mGx ?_ ?_ ?_|exact mHx|exact mIx _|(simp only [wM,Nat.reduceAdd,Nat.reduceLT,Nat.reduceLeDiff];done)));done)|omega|decide) only [d4, callT WY, sBS_1, y1, ea, em, ↓wA,wB,wL,resOf,Nat.reduceBEq,Int.reduceBEq,Int.reduceBNe,Int.reduceLT,Int.reduceLE,Int.reduceAdd,Int.reduceSub,Int.reduceMul,Int.reduceToNat]
          refine ⟨_, ?_, j + 1, _, _, _, _, _, _, _, _, _, _, _, _, _, _, _, rfl, ?_, rfl⟩
          · omega
          exact ⟨by omega, y3, by rw [cnL_suc]; exact y2⟩
        · have ejS : j = S + 1 := by omega
          have d4 : decide ((j : Int) ≤ (S : Int)) = false := decide_eq_false (by omega)
          subst ejS
          simp (disch := first|(simp only [Nat.reduceBEq,wE];done)|((repeat' (first|assumption|exact mAx _|refine mBx ?_ ?_|exact mCx (by assumption)|refine mDx ?_|refine mEx ?_ ?_ ?_|exact mFx|refine mGx ?_ ?_ ?_|exact mHx|exact mIx _|(simp only [wM,Nat.reduceAdd,Nat.reduceLT,Nat.reduceLeDiff];done)));done)|omega|decide) only [d4, ↓wA,wB,wL,resOf,Nat.reduceBEq,Int.reduceBEq,Int.reduceBNe,Int.reduceLT,Int.reduceLE,Int.reduceAdd,Int.reduceSub,Int.reduceMul,Int.reduceToNat]
          refine wloop (fun mm ss => ∃ (v : Nat) (u2 u6 u12 u13 u14 u16 u17 u26 u47 u57 u67 u80 u93 : AV), (mm = S + 1 - v) ∧ (v ≤ S + 1) ∧ ss = { fr := [(0, x0), (2, u2), (3, q), (4, .int .i64 w), (5, .int .i64 S), (6, u6), (7, .bool d), (8, .int .i64 0), (9, q2), (10, .int .i64 (cnA L (S + 1) : Nat)), (11, .int .i64 (cnM L (S + 1))), (12, u12), (13, u13), (14, u14), (15, .int .i64 v), (16, u16), (17, u17), (26, u26), (47, u47), (57, u57), (67, u67), (80, u80), (93, u93)], hp := h3 }) (S + 1) ?_ ?_
          ·
            refine ⟨0, _, _, _, _, _, _, _, _, _, _, _, _, _, by omega, by omega, rfl⟩
          rintro nE sE ⟨v, u2, u6, u12, u13, u14, u16, u17, u26, u47, u57, u67, u80, u93, hnE, hv, rfl⟩
          by_cases ev : v ≤ S
          · have d5 : decide ((v : Int) ≤ (S : Int)) = true := decide_eq_true (by omega)
            have c1 : (S : Int) - (v : Int) = ((S - v : Nat) : Int) := by omega
            have g1' := cnL_get (l := L) (show v < S + 1 by omega)
            have g2' := cnL_get (l := L) (show S - v < S + 1 by omega)
            have cc := cnV_compl (l := L) hS ev
            have ne : (((cnV L (S - v) : Nat) : Int) != ((cnV L (S - v) : Nat) : Int)) = false := bne_self_eq_false _
            rw [cc] at g1'
            simp (disch := first|(simp only [Nat.reduceBEq,wE];done)|((repeat' (first|assumption|exact mAx _|refine mBx ?_ ?_|exact mCx (by assumption)|refine mDx ?_|refine mEx ?_ ?_ ?_|exact mFx|refine mGx ?_ ?_ ?_|exact mHx|exact mIx _|(simp only [wM,Nat.reduceAdd,Nat.reduceLT,Nat.reduceLeDiff];done)));done)|omega|decide) only [d5, o3.ints.ix, o3.ints.ld, c1, g1', g2', ne, ↓wA,wB,wL,resOf,Nat.reduceBEq,Int.reduceBEq,Int.reduceBNe,Int.reduceLT,Int.reduceLE,Int.reduceAdd,Int.reduceSub,Int.reduceMul,Int.reduceToNat]
            refine ⟨_, ?_, v + 1, _, _, _, _, _, _, _, _, _, _, _, _, _, rfl, ?_, rfl⟩
            · omega
            omega
          · have d5 : decide ((v : Int) ≤ (S : Int)) = false := decide_eq_false (by omega)
            have c2 : (S : Int) + 1 = ((S + 1 : Nat) : Int) := by omega
            have WZ := f21 q L ((S + 1 : Nat) : Int) h3 k3 q3 (by omega) r3
            have z0 : cnV L (S + 1) = 0 := by unfold cnV; exact count_zero nn (by omega)
            rw [ez (S + 1), wN' (S + 1), z0] at WZ
            replace WZ : Evals Tryd.prog tab false (.func 21) [q, .int .i64 ((S + 1 : Nat) : Int)] h3 (.tu [.int .i64 0, .int .i64 0], h3) := WZ
            have sh : sBin .shl .no (.int .i64 1) (.int .i64 (i : Int)) = some (.int .i64 ((2 ^ L.length : Nat) : Int)) := by rw [lr]; exact sBin_shl1 (by omega)
            rw [all]
            have ae : (((2 ^ L.length : Nat) : Int) == ((2 ^ L.length : Nat) : Int)) = true := beq_self_eq_true _
            have mi := most_iff nn hS
            have dm : d = decide (cnM L (S + 1) ≤ 1) := by rw [Bool.eq_iff_iff, hd', decide_eq_true_eq, mi]
            have dq : decide (d = decide (cnM L (S + 1) ≤ 1)) = true := decide_eq_true dm
            have ol3 := o1.len
            rw [lr] at ol3
            simp (disch := first|(simp only [Nat.reduceBEq,wE];done)|((repeat' (first|assumption|exact mAx _|refine mBx ?_ ?_|exact mCx (by assumption)|refine mDx ?_|refine mEx ?_ ?_ ?_|exact mFx|refine mGx ?_ ?_ ?_|exact mHx|exact mIx _|(simp only [wM,Nat.reduceAdd,Nat.reduceLT,Nat.reduceLeDiff];done)));done)|omega|decide) only [d5, c2, callT WZ, ol, ol3, sh, ae, callT (lives_ev _), dq, ↓wA,wB,wL,resOf,Nat.reduceBEq,Int.reduceBEq,Int.reduceBNe,Int.reduceLT,Int.reduceLE,Int.reduceAdd,Int.reduceSub,Int.reduceMul,Int.reduceToNat]
            exact ⟨_, rfl, rfl⟩
end Go.Proofs.YtelalpohbodolaaDoor
