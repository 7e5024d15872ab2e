/- WeighTernary: powers of three. -/
import Derived.Test.YtelalpohbodolaaDoorMI
import Derived.Test.YtelalpohbodolaaDoorD9
import Derived.Test.YtelalpohbodolaaDoorFWeighTernary
set_option linter.unusedSimpArgs false
set_option linter.unusedVariables false
set_option maxHeartbeats 8000000
set_option maxRecDepth 20000
namespace Go.Wg
theorem p3_err : ∀ m, m < 10 → 1 ≤ m → errW (p3 m) 9 0 = 0 := by decide +kernel
theorem errW_0 {zs : List Int} {m : Nat} {t : Int} (h : 0 ≤ t) : errW zs m t = errW zs m 0 := by
  unfold errW
  rw [if_neg (show ¬ t < 0 by omega), if_neg (show ¬ (0 : Int) < 0 by omega)]
end Go.Wg
namespace Go.Proofs.YtelalpohbodolaaDoor
open Go Go.Abs Go.Wg

theorem f12 (k0 k1 : Int) (h : Hp) (hk : Hok h) (b0 : 0 ≤ k0 ∧ k0 ≤ 255) (b1 : 0 ≤ k1 ∧ k1 ≤ 65535) :
    ∃ h', Evals Tryd.prog tab false (.func 12) [.int .u8 k0, .int .u16 k1] h (.bool true, h') := by
  suffices H : ∃ v h', Evals Tryd.prog tab false (.func 12) [.int .u8 k0, .int .u16 k1] h (v, h') ∧ v = .bool true by
    obtain ⟨v, h', e, rfl⟩ := H
    exact ⟨h', e⟩
  refine evals_func (Q := fun v _ => v = .bool true) c12 rfl ?_
  simp only [sf12, initS_cons, initS_nil]
  have r1 := Int.emod_nonneg k0 (show (9 : Int) ≠ 0 by omega)
  have r2 := Int.emod_lt_of_pos k0 (show (0 : Int) < 9 by omega)
  have tm : sBin .rem .no (.int .i64 k0) (.int .i64 9) = some (.int .i64 (k0 % 9)) := sBin_rem b0.1 (by omega)
  obtain ⟨n, hn⟩ : ∃ n : Nat, k0 % 9 + 1 = n := ⟨(k0 % 9 + 1).toNat, by omega⟩
  have n1 : 1 ≤ n := by omega
  have n2 : n < 10 := by omega
  have pb : ∀ i, i ≤ 9 → 3 ^ i ≤ 19683 := fun i hi => by
    have : 3 ^ i ≤ 3 ^ 9 := Nat.pow_le_pow_right (by omega) hi
    exact this
  have g0 : Grown h (h.en.pu []) := Grown.pu Grown.en rfl
  have O : Own h.next (h.en.pu []).blks .i64 (.sl h.next 0 0 (some 0) 1) [] := Own.fresh (Nat.le_refl _) rfl rfl rfl (Nat.le_refl _)
  simp (disch := first|(simp only [Nat.reduceBEq,wE];done)|((repeat' (first|assumption|exact mAx _|refine mBx ?_ ?_|exact mCx (by assumption)|refine mDx ?_|refine mEx ?_ ?_ ?_|exact mFx|refine mGx ?_ ?_ ?_|exact mHx|exact mIx _|(simp only [wM,Nat.reduceAdd,Nat.reduceLT,Nat.reduceLeDiff];done)));done)|omega|decide) only [tm, hn, sBS_0, ↓wA,wB,wL,resOf,Nat.reduceBEq,Int.reduceBEq,Int.reduceBNe,Int.reduceLT,Int.reduceLE,Int.reduceAdd,Int.reduceSub,Int.reduceMul,Int.reduceToNat]
  refine wloop (fun mm ss => ∃ (i : Nat) (q : AV) (h1 : Hp) (u0 u4 u10 u11 u12 u13 u14 u15 u16 u18 u26 u53 u59 : AV), (mm = n - i) ∧ (i ≤ n ∧ Grown h h1 ∧ Own h.next h1.blks .i64 q (p3 i)) ∧ ss = { fr := [(0, u0), (1, .int .u16 k1), (4, u4), (5, .int .i64 n), (6, q), (7, .int .i64 (hs i : Nat)), (8, .int .i64 (3 ^ i : Nat)), (9, .int .i64 i), (10, u10), (11, u11), (12, u12), (13, u13), (14, u14), (15, u15), (16, u16), (18, u18), (26, u26), (53, u53), (59, u59)], hp := h1 }) (n) ?_ ?_
  ·
    refine ⟨0, _, _, _, _, _, _, _, _, _, _, _, _, _, _, _, by omega, ⟨by omega, g0, O⟩, rfl⟩
  rintro nA sA ⟨i, q, h1, u0, u4, u10, u11, u12, u13, u14, u15, u16, u18, u26, u53, u59, hnA, ⟨hi, g1, o1⟩, rfl⟩
  have k1' := g1.ok hk
  have he := hs_eq i
  have p9 := pb i (by omega)
  by_cases e1 : i < n
  · have d1 : decide ((i : Int) < (n : Int)) = true := decide_eq_true (by omega)
    obtain ⟨q2, h2, y1, y2, y3, y4⟩ := own_app1 (v := ((3 ^ i : Nat) : Int)) hk g1 o1 (by rw [p3_len]; omega)
    have c1 : ((hs i : Nat) : Int) + ((3 ^ i : Nat) : Int) = ((hs (i + 1) : Nat) : Int) := by rw [hs]; omega
    have c2 : ((3 ^ i : Nat) : Int) * 3 = ((3 ^ (i + 1) : Nat) : Int) := by rw [Nat.pow_succ]; omega
    have he' := hs_eq (i + 1)
    have p9' := pb (i + 1) (by omega)
    obtain ⟨T, hT⟩ : ∃ T, T = 3 ^ i := ⟨_, rfl⟩
    simp (disch := first|(simp only [Nat.reduceBEq,wE];done)|((repeat' (first|assumption|exact mAx _|refine mBx ?_ ?_|exact mCx (by assumption)|refine mDx ?_|refine mEx ?_ ?_ ?_|exact mFx|refine mGx ?_ ?_ ?_|exact mHx|exact mIx _|(simp only [wM,Nat.reduceAdd,Nat.reduceLT,Nat.reduceLeDiff];done)));done)|omega|decide) only [d1, sBS_1, y1, c1, c2, ↓wA,wB,wL,resOf,Nat.reduceBEq,Int.reduceBEq,Int.reduceBNe,Int.reduceLT,Int.reduceLE,Int.reduceAdd,Int.reduceSub,Int.reduceMul,Int.reduceToNat]
    refine ⟨_, ?_, i + 1, _, _, _, _, _, _, _, _, _, _, _, _, _, _, _, rfl, ?_, rfl⟩
    · omega
    exact ⟨by omega, y3, by rw [p3_suc]; exact y2⟩
  · have d1 : decide ((i : Int) < (n : Int)) = false := decide_eq_false (by omega)
    have ei : i = n := by omega
    subst ei
    have er := p3_err i n2 n1
    obtain ⟨S, hS⟩ : ∃ S, S = hs i := ⟨_, rfl⟩
    rw [← hS] at he ⊢
    have m1 := Int.emod_nonneg k1 (show (S : Int) + 1 ≠ 0 by omega)
    have m2 := Int.emod_lt_of_pos k1 (show (0 : Int) < (S : Int) + 1 by omega)
    have tr : sBin .rem .no (.int .i64 k1) (.int .i64 ((S : Int) + 1)) = some (.int .i64 (k1 % ((S : Int) + 1))) := sBin_rem b1.1 (by omega)
    obtain ⟨t, ht⟩ : ∃ t, t = k1 % ((S : Int) + 1) := ⟨_, rfl⟩
    rw [← ht] at m1 m2 tr
    have tb : 0 ≤ t ∧ t ≤ (hs i : Nat) := by rw [← hS]; omega
    obtain ⟨v2, h2, eP, g2, w, rfl, oW⟩ := f23 q (p3 i) t h1 k1' o1.ints (by rw [p3_len]; omega) (o1.ref k1')
    have k2 := g2.ok k1'
    obtain ⟨s, es, ew⟩ := tern_some tb
    have eE : paE (p3 i) t = 0 := by
      unfold paE
      rw [errW_0 m1, er, if_pos rfl, p3_len, es]; rfl
    have eL : paL (p3 i) t = bts t i := by
      unfold paL
      rw [errW_0 m1, er, p3_len, es, if_pos ⟨rfl, rfl⟩]
      exact ew
    rw [eE] at eP
    rw [eL] at oW
    have g12 := GrownR.trans g1 g2
    have O2 : Own h2.next (h2.pu []).blks .i64 (.sl h2.next 0 0 (some 0) 1) [] := Own.fresh (Nat.le_refl _) rfl rfl rfl (Nat.le_refl _)
    simp (disch := first|(simp only [Nat.reduceBEq,wE];done)|((repeat' (first|assumption|exact mAx _|refine mBx ?_ ?_|exact mCx (by assumption)|refine mDx ?_|refine mEx ?_ ?_ ?_|exact mFx|refine mGx ?_ ?_ ?_|exact mHx|exact mIx _|(simp only [wM,Nat.reduceAdd,Nat.reduceLT,Nat.reduceLeDiff];done)));done)|omega|decide) only [d1, tr, callT eP, sBS_0, ↓wA,wB,wL,resOf,Nat.reduceBEq,Int.reduceBEq,Int.reduceBNe,Int.reduceLT,Int.reduceLE,Int.reduceAdd,Int.reduceSub,Int.reduceMul,Int.reduceToNat]
    refine wloop (fun mm ss => ∃ (j : Nat) (r : AV) (h3 : Hp) (u0 u1 u4 u8 u9 u10 u16 u18 u26 u53 u59 : AV), (mm = i - j) ∧ (j ≤ i ∧ Grown h2 h3 ∧ Own h2.next h3.blks .i64 r (bts t j)) ∧ ss = { fr := [(0, u0), (1, u1), (4, u4), (5, .int .i64 i), (6, q), (7, .int .i64 S), (8, u8), (9, u9), (10, u10), (11, w), (12, .int .i64 0), (13, r), (14, .int .i64 (rst t j)), (15, .int .i64 j), (16, u16), (18, u18), (26, u26), (53, u53), (59, u59)], hp := h3 }) (i) ?_ ?_
    ·
      refine ⟨0, _, _, _, _, _, _, _, _, _, _, _, _, _, by omega, ⟨by omega, Grown.pu Grown.refl rfl, O2⟩, rfl⟩
    rintro nB sB ⟨j, r, h3, u0, u1, u4, u8, u9, u10, u16, u18, u26, u53, u59, hnB, ⟨hj, g3, o3⟩, rfl⟩
    have k3 := g3.ok k2
    have rb := rst_bd (B := S) (t := t) ⟨m1, by omega⟩ j
    by_cases e2 : j < i
    · have d2 : decide ((j : Int) < (i : Int)) = true := decide_eq_true (by omega)
      have rm : sBin .rem .no (.int .i64 (rst t j)) (.int .i64 3) = some (.int .i64 (rst t j % 3)) := sBin_rem rb.1 (by omega)
      have rn := rst_bd (B := S) (t := t) ⟨m1, by omega⟩ (j + 1)
      obtain ⟨r2, h4, y1, y2, y3, y4⟩ := own_app1 (v := dg (rst t j)) k2 g3 o3 (by rw [bts_len]; omega)
      have eb : bts t (j + 1) = bts t j ++ [dg (rst t j)] := rfl
      have et : (rst t j - dg (rst t j)) / 3 = rst t (j + 1) := rfl
      rw [← eb] at y2
      have db := dg_bd (rst t j)
      obtain ⟨x, hx⟩ : ∃ x, x = rst t j := ⟨_, rfl⟩
      rw [← hx] at rb rm y1 db et ⊢
      by_cases e3 : x % 3 = 2
      · have d3 : (x % 3 == 2) = true := by rw [beq_iff_eq]; exact e3
        have ed : dg x = -1 := by unfold dg; rw [if_pos e3]
        rw [ed] at y1 et
        have qu : sBin .quo .no (.int .i64 (x - -1)) (.int .i64 3) = some (.int .i64 (rst t (j + 1))) := by
          have := sBin_quoT (c := .no) (a := x - -1) (b := 3) rfl (by rw [Int.tdiv_eq_ediv_of_nonneg (by omega)]; omega) (by rw [Int.tdiv_eq_ediv_of_nonneg (by omega)]; omega)
          rw [Int.tdiv_eq_ediv_of_nonneg (by omega), et] at this
          exact this
        simp (disch := first|(simp only [Nat.reduceBEq,wE];done)|((repeat' (first|assumption|exact mAx _|refine mBx ?_ ?_|exact mCx (by assumption)|refine mDx ?_|refine mEx ?_ ?_ ?_|exact mFx|refine mGx ?_ ?_ ?_|exact mHx|exact mIx _|(simp only [wM,Nat.reduceAdd,Nat.reduceLT,Nat.reduceLeDiff];done)));done)|omega|decide) only [d2, rm, d3, sBS_1, y1, qu, ↓wA,wB,wL,resOf,Nat.reduceBEq,Int.reduceBEq,Int.reduceBNe,Int.reduceLT,Int.reduceLE,Int.reduceAdd,Int.reduceSub,Int.reduceMul,Int.reduceToNat]
        refine ⟨_, ?_, j + 1, _, _, _, _, _, _, _, _, _, _, _, _, _, rfl, ?_, rfl⟩
        · omega
        exact ⟨by omega, y3, y2⟩
      · have d3 : (x % 3 == 2) = false := by rw [beq_eq_false_iff_ne]; exact e3
        have ed : dg x = x % 3 := by unfold dg; rw [if_neg e3]
        rw [ed] at y1 et
        have qu : sBin .quo .no (.int .i64 (x - x % 3)) (.int .i64 3) = some (.int .i64 (rst t (j + 1))) := by
          have := sBin_quoT (c := .no) (a := x - x % 3) (b := 3) rfl (by rw [Int.tdiv_eq_ediv_of_nonneg (by omega)]; omega) (by rw [Int.tdiv_eq_ediv_of_nonneg (by omega)]; omega)
          rw [Int.tdiv_eq_ediv_of_nonneg (by omega), et] at this
          exact this
        simp (disch := first|(simp only [Nat.reduceBEq,wE];done)|((repeat' (first|assumption|exact mAx _|refine mBx ?_ ?_|exact mCx (by assumption)|refine mDx ?_|refine mEx ?_ ?_ ?_|exact mFx|refine mGx ?_ ?_ ?_|exact mHx|exact mIx _|(simp only [wM,Nat.reduceAdd,Nat.reduceLT,Nat.reduceLeDiff];done)));done)|omega|decide) only [d2, rm, d3, sBS_1, y1, qu, ↓wA,wB,wL,resOf,Nat.reduceBEq,Int.reduceBEq,Int.reduceBNe,Int.reduceLT,Int.reduceLE,Int.reduceAdd,Int.reduceSub,Int.reduceMul,Int.reduceToNat]
        refine ⟨_, ?_, j + 1, _, _, _, _, _, _, _, _, _, _, _, _, _, rfl, ?_, rfl⟩
        · omega
        exact ⟨by omega, y3, y2⟩
    · have d2 : decide ((j : Int) < (i : Int)) = false := decide_eq_false (by omega)
      have ej : j = i := by omega
      subst ej
      have q3 : Ints h3.blks .i64 q (p3 j) := (o1.ints.sub (g2.sub k1')).sub (g3.sub k2)
      have rq : refOK h3.next q = true := refOK_mono (Nat.le_trans g2.next g3.next) (o1.ref k1')
      obtain ⟨v4, h4, eQ, g4, w4, rfl, oW4⟩ := f23 q (p3 j) ((S : Int) + 1) h3 k3 q3 (by rw [p3_len]; omega) rq
      have k4 := g4.ok k3
      have eE4 : paE (p3 j) ((S : Int) + 1) = 5 := by
        unfold paE
        rw [errW_0 (by omega), er, if_pos rfl, p3_len, hS, tern_none]; rfl
      rw [eE4] at eQ
      have sw : Ints h4.blks .i64 w (bts t j) := (oW.ints.sub (g3.sub k2)).sub (g4.sub k3)
      have sr : Ints h4.blks .i64 r (bts t j) := o3.ints.sub (g4.sub k3)
      have bl := bts_len t j
      have SM := f19 w r (bts t j) (bts t j) h4 k4 sw sr (by omega) (by omega)
      rw [decide_eq_true rfl] at SM
      simp (disch := first|(simp only [Nat.reduceBEq,wE];done)|((repeat' (first|assumption|exact mAx _|refine mBx ?_ ?_|exact mCx (by assumption)|refine mDx ?_|refine mEx ?_ ?_ ?_|exact mFx|refine mGx ?_ ?_ ?_|exact mHx|exact mIx _|(simp only [wM,Nat.reduceAdd,Nat.reduceLT,Nat.reduceLeDiff];done)));done)|omega|decide) only [d2, callT eQ, callT SM, callT (lives_ev _), ↓wA,wB,wL,resOf,Nat.reduceBEq,Int.reduceBEq,Int.reduceBNe,Int.reduceLT,Int.reduceLE,Int.reduceAdd,Int.reduceSub,Int.reduceMul,Int.reduceToNat]
      exact ⟨_, rfl, rfl⟩
end Go.Proofs.YtelalpohbodolaaDoor
