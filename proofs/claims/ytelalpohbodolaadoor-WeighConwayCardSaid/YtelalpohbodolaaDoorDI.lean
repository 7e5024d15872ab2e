/- The reference's Clash and Distinct, on distinct weights: the walk. -/
import Derived.Test.YtelalpohbodolaaDoorDH
set_option linter.unusedSimpArgs false
set_option linter.unusedVariables false
set_option maxHeartbeats 4000000
set_option maxRecDepth 20000
namespace Go.Proofs.YtelalpohbodolaaDoor
open Go Go.Abs Go.Wg

theorem f18d (a : AV) (zs : List Int) (h : Hp) (hk : Hok h) (ha : Ints h.blks .i64 a zs) (hz : zs.length ≤ 12) (hb : ∀ z ∈ zs, 0 ≤ z ∧ z ≤ 100000) (d : Dist zs) :
    Evals Tryd.prog tab false (.func 18) [a] h (.tu [.nilsl, .nilsl, .bool false], h) := by
  refine evals_pureM c18 rfl hk ?_
  simp only [sf18, initS_cons, initS_nil]
  obtain ⟨u, h2, eu, g2, o2⟩ := f43 a zs h.en hk ha hz hb
  have k2 := g2.ok hk
  have gh2 : Grown h h2 := GrownR.of_en g2
  have M0 := MI.new hk gh2
  have sl := SU_len zs
  have p12 : 2 ^ zs.length ≤ 2 ^ 12 := Nat.pow_le_pow_right (by omega) hz
  have p12 : 2 ^ zs.length ≤ 4096 := p12
  have p0 : 0 < 2 ^ zs.length := Nat.two_pow_pos _
  obtain ⟨T, hT⟩ : ∃ T, T = 2 ^ zs.length := ⟨_, rfl⟩
  have sg : ∀ m, m < T → (SU zs).getD m 0 = msum zs m := fun m hm => SU_get (by omega)
  rw [← hT] at sl p12 p0
  simp (disch := first|(simp only [Nat.reduceBEq,wE];done)|((repeat' (first|assumption|exact mAx _|refine mBx ?_ ?_|exact mCx (by assumption)|refine mDx ?_|refine mEx ?_ ?_ ?_|exact mFx|refine mGx ?_ ?_ ?_|exact mHx|exact mIx _|(simp only [wM,Nat.reduceAdd,Nat.reduceLT,Nat.reduceLeDiff];done)));done)|omega|decide) only [callT eu, ↓wA,wB,wL,resOf,Nat.reduceBEq,Int.reduceBEq,Int.reduceBNe,Int.reduceLT,Int.reduceLE,Int.reduceAdd,Int.reduceSub,Int.reduceMul,Int.reduceToNat]
  refine wloop (fun mm ss => ∃ (m : Nat) (ents : List (AV × AV)) (h3 : Hp) (u0 u2 u3 u4 u8 u9 u10 u11 u12 u13 u14 u15 u22 u45 u57 u66 u95 : AV), (mm = T - m) ∧ ((1 ≤ m ∧ m ≤ T) ∧ MI h h2.next ents h3 ∧ IntK ents ∧ Ints h3.blks .i64 u (SU zs) ∧ ∀ t, Ints h3.blks .i64 ((valK (.int .i64 t) ents).getD .nilsl) (mkL zs t m)) ∧ ss = { fr := [(0, u0), (2, u2), (3, u3), (4, u4), (5, u), (6, .mp h2.next), (7, .int .i64 m), (8, u8), (9, u9), (10, u10), (11, u11), (12, u12), (13, u13), (14, u14), (15, u15), (22, u22), (45, u45), (57, u57), (66, u66), (95, u95)], hp := h3 }) (T - 1) ?_ ?_
  ·
    refine ⟨1, _, _, _, _, _, _, _, _, _, _, _, _, _, _, _, _, _, _, _, by omega, ⟨⟨Nat.le_refl _, p0⟩, M0, fun e he => by simp at he, o2.ints, fun t => by unfold mkL; rw [mkN_one]; exact Ints.nil⟩, rfl⟩
  rintro nA sA ⟨m, ents, h3, u0, u2, u3, u4, u8, u9, u10, u11, u12, u13, u14, u15, u22, u45, u57, u66, u95, hnA, ⟨⟨h1, h1'⟩, M, ik, ou, ov⟩, rfl⟩
  have k3 := M.ok
  by_cases e1 : m < T
  · have d1 : decide ((m : Int) < (T : Int)) = true := decide_eq_true (by omega)
    have hs := sg m e1
    have iv := ov (msum zs m)
    have ml := mkL_len zs (msum zs m) m
    have lk := M.lkp (t := msum zs m) (z := .nilsl) ik
    obtain ⟨v, hv⟩ : ∃ v, v = (valK (.int .i64 (msum zs m)) ents).getD .nilsl := ⟨_, rfl⟩
    rw [← hv] at iv lk
    have gA : Grown h3 (h3.pu []) := Grown.pu Grown.refl rfl
    have OA : Own h3.next (h3.pu []).blks .i64 (.sl h3.next 0 0 (some 0) 1) [] := Own.fresh (Nat.le_refl _) rfl rfl rfl (Nat.le_refl _)
    have sA : Sub h3.blks (h3.pu []).blks := Sub.pu k3
    obtain ⟨qB, hB, eB, oB, gB, nB⟩ := own_appI (x := v) k3 gA OA (iv.sub sA) (by simp only [List.length_nil]; omega)
    rw [List.nil_append] at oB
    obtain ⟨qC, hC, eC, oC, gC, nC⟩ := own_app1 (v := (m : Int)) k3 gB oB (by omega)
    have sB := gB.sub k3
    have sB' : Sub h3.blks ((hB.next, { cells := Abs.ints .i64 [(m : Int)], ch := hB.next, wr := true }) :: hB.blks) := sB.trans (Sub.push (Sub.refl _) (HokR.fresh (gB.ok k3)))
    have sC := gC.sub k3
    have MC := M.grow gC
    have up := MC.mup (t := msum zs m) (v := qC) hk ik
    have MD := MC.put (a := .int .i64 (msum zs m)) (v := qC) hk (oC.ref (gC.ok k3))
    replace eB : sApp true 1 { next := h3.next + 1, blks := (h3.next, { cells := [], ch := h3.next, wr := true }) :: h3.blks, loops := h3.loops, base := h3.base, esc := h3.esc } (.sl h3.next 0 0 (some 0) 1) v = some (qB, hB) := eB
    replace sA : Sub h3.blks ((h3.next, { cells := [], ch := h3.next, wr := true }) :: h3.blks) := sA
    simp (disch := first|(simp only [Nat.reduceBEq,wE];done)|((repeat' (first|assumption|exact mAx _|refine mBx ?_ ?_|exact mCx (by assumption)|refine mDx ?_|refine mEx ?_ ?_ ?_|exact mFx|refine mGx ?_ ?_ ?_|exact mHx|exact mIx _|(simp only [wM,Nat.reduceAdd,Nat.reduceLT,Nat.reduceLeDiff];done)));done)|omega|decide) only [d1, ou.len, sl, ou.ix, ou.ld, hs, lk, sBS_0, eB, sBS_1, eC, up, ↓wA,wB,wL,resOf,Nat.reduceBEq,Int.reduceBEq,Int.reduceBNe,Int.reduceLT,Int.reduceLE,Int.reduceAdd,Int.reduceSub,Int.reduceMul,Int.reduceToNat]
    refine ⟨_, ?_, m + 1, putK (.int .i64 (msum zs m)) qC ents, _, _, _, _, _, _, _, _, _, _, _, _, _, _, _, _, _, _, rfl, ?_, rfl⟩
    · omega
    refine ⟨by omega, MD, ik.put, ou.sub sC, fun t => ?_⟩
    rw [valK_put ik, mkL_suc zs t h1]
    by_cases et : t = msum zs m
    · subst et
      rw [if_pos rfl, if_pos rfl]
      exact oC.ints
    · rw [if_neg et, if_neg et]
      exact (ov t).sub sC
  · have d1 : decide ((m : Int) < (T : Int)) = false := decide_eq_false (by omega)
    have em : m = T := by omega
    subst em
    simp (disch := first|(simp only [Nat.reduceBEq,wE];done)|((repeat' (first|assumption|exact mAx _|refine mBx ?_ ?_|exact mCx (by assumption)|refine mDx ?_|refine mEx ?_ ?_ ?_|exact mFx|refine mGx ?_ ?_ ?_|exact mHx|exact mIx _|(simp only [wM,Nat.reduceAdd,Nat.reduceLT,Nat.reduceLeDiff];done)));done)|omega|decide) only [d1, ou.len, sl, ↓wA,wB,wL,resOf,Nat.reduceBEq,Int.reduceBEq,Int.reduceBNe,Int.reduceLT,Int.reduceLE,Int.reduceAdd,Int.reduceSub,Int.reduceMul,Int.reduceToNat]
    refine wloop (fun mm ss => ∃ (j : Nat) (u0 u2 u3 u4 u7 u8 u12 u13 u14 u15 u22 u45 u57 u66 u95 : AV), (mm = m - j) ∧ (1 ≤ j ∧ j ≤ m) ∧ ss = { fr := [(0, u0), (2, u2), (3, u3), (4, u4), (5, u), (6, .mp h2.next), (7, u7), (8, u8), (9, .nilsl), (10, .nilsl), (11, .int .i64 j), (12, u12), (13, u13), (14, u14), (15, u15), (22, u22), (45, u45), (57, u57), (66, u66), (95, u95)], hp := h3 }) (m - 1) ?_ ?_
    ·
      refine ⟨1, _, _, _, _, _, _, _, _, _, _, _, _, _, _, _, by omega, ⟨Nat.le_refl _, p0⟩, rfl⟩
    rintro nB sB ⟨j, u0, u2, u3, u4, u7, u8, u12, u13, u14, u15, u22, u45, u57, u66, u95, hnB, ⟨j1, j2⟩, rfl⟩
    by_cases e2 : j < m
    · have d2 : decide ((j : Int) < (m : Int)) = true := decide_eq_true (by omega)
      have hs := sg j e2
      have lk := M.lkp (t := msum zs j) (z := .nilsl) ik
      have iv := ov (msum zs j)
      have md := mkL_dist d j1 (by omega)
      rw [← hT] at md
      rw [md] at iv
      obtain ⟨v, hv⟩ : ∃ v, v = (valK (.int .i64 (msum zs j)) ents).getD .nilsl := ⟨_, rfl⟩
      rw [← hv] at iv lk
      have vl := iv.len
      rw [show [(j : Int)].length = 1 from rfl] at vl
      simp (disch := first|(simp only [Nat.reduceBEq,wE];done)|((repeat' (first|assumption|exact mAx _|refine mBx ?_ ?_|exact mCx (by assumption)|refine mDx ?_|refine mEx ?_ ?_ ?_|exact mFx|refine mGx ?_ ?_ ?_|exact mHx|exact mIx _|(simp only [wM,Nat.reduceAdd,Nat.reduceLT,Nat.reduceLeDiff];done)));done)|omega|decide) only [d2, ou.len, sl, ou.ix, ou.ld, hs, lk, ↓wA,wB,wL,resOf,Nat.reduceBEq,Int.reduceBEq,Int.reduceBNe,Int.reduceLT,Int.reduceLE,Int.reduceAdd,Int.reduceSub,Int.reduceMul,Int.reduceToNat]
      refine wloop (fun mm ss => ∃ (i : Nat) (u0 u2 u3 u4 u7 u8 u14 u15 u22 u45 u57 u66 u95 : AV), (mm = 1 - i) ∧ (i ≤ 1) ∧ ss = { fr := [(0, u0), (2, u2), (3, u3), (4, u4), (5, u), (6, .mp h2.next), (7, u7), (8, u8), (9, .nilsl), (10, .nilsl), (11, .int .i64 j), (12, v), (13, .int .i64 i), (14, u14), (15, u15), (22, u22), (45, u45), (57, u57), (66, u66), (95, u95)], hp := h3 }) (1) ?_ ?_
      ·
        refine ⟨0, _, _, _, _, _, _, _, _, _, _, _, _, _, by omega, (by omega : 0 ≤ 1), rfl⟩
      rintro nC sC ⟨i, u0, u2, u3, u4, u7, u8, u14, u15, u22, u45, u57, u66, u95, hnC, hi, rfl⟩
      by_cases e3 : i = 0
      · subst e3
        have an := sBin_andN (a := j) (b := j) (n := 12) (by omega) (by omega) (by omega)
        rw [Nat.and_self] at an
        have jn : ((j : Int) != 0) = true := by rw [bne_iff_ne]; omega
        have x1 := iv.ix (i := 0) h3 (by simp)
        have x2 : cellV h3.blks v 0 0 = some (.int .i64 (j : Int)) := iv.ld (Sub.refl _) (i := 0) (by simp)
        simp (disch := first|(simp only [Nat.reduceBEq,wE];done)|((repeat' (first|assumption|exact mAx _|refine mBx ?_ ?_|exact mCx (by assumption)|refine mDx ?_|refine mEx ?_ ?_ ?_|exact mFx|refine mGx ?_ ?_ ?_|exact mHx|exact mIx _|(simp only [wM,Nat.reduceAdd,Nat.reduceLT,Nat.reduceLeDiff];done)));done)|omega|decide) only [vl, idx?_lit0, x1, x2, an, jn, ↓wA,wB,wL,resOf,Nat.reduceBEq,Int.reduceBEq,Int.reduceBNe,Int.reduceLT,Int.reduceLE,Int.reduceAdd,Int.reduceSub,Int.reduceMul,Int.reduceToNat]
        refine ⟨_, ?_, 1, _, _, _, _, _, _, _, _, _, _, _, _, _, rfl, ?_, rfl⟩
        · omega
        omega
      · have d3 : decide ((i : Int) < 1) = false := decide_eq_false (by omega)
        simp (disch := first|(simp only [Nat.reduceBEq,wE];done)|((repeat' (first|assumption|exact mAx _|refine mBx ?_ ?_|exact mCx (by assumption)|refine mDx ?_|refine mEx ?_ ?_ ?_|exact mFx|refine mGx ?_ ?_ ?_|exact mHx|exact mIx _|(simp only [wM,Nat.reduceAdd,Nat.reduceLT,Nat.reduceLeDiff];done)));done)|omega|decide) only [vl, d3, ↓wA,wB,wL,resOf,Nat.reduceBEq,Int.reduceBEq,Int.reduceBNe,Int.reduceLT,Int.reduceLE,Int.reduceAdd,Int.reduceSub,Int.reduceMul,Int.reduceToNat]
        refine ⟨_, ?_, j + 1, _, _, _, _, _, _, _, _, _, _, _, _, _, _, _, rfl, ?_, rfl⟩
        · omega
        omega
    · have d2 : decide ((j : Int) < (m : Int)) = false := decide_eq_false (by omega)
      simp (disch := first|(simp only [Nat.reduceBEq,wE];done)|((repeat' (first|assumption|exact mAx _|refine mBx ?_ ?_|exact mCx (by assumption)|refine mDx ?_|refine mEx ?_ ?_ ?_|exact mFx|refine mGx ?_ ?_ ?_|exact mHx|exact mIx _|(simp only [wM,Nat.reduceAdd,Nat.reduceLT,Nat.reduceLeDiff];done)));done)|omega|decide) only [d2, ou.len, sl, ↓wA,wB,wL,resOf,Nat.reduceBEq,Int.reduceBEq,Int.reduceBNe,Int.reduceLT,Int.reduceLE,Int.reduceAdd,Int.reduceSub,Int.reduceMul,Int.reduceToNat]
      exact ⟨trivial, _, rfl, rfl, _, _, M⟩

theorem f34d (a : AV) (zs : List Int) (h : Hp) (hk : Hok h) (ha : Ints h.blks .i64 a zs) (hz : zs.length ≤ 12) (hb : ∀ z ∈ zs, 0 ≤ z ∧ z ≤ 100000) (d : Dist zs) :
    Evals Tryd.prog tab false (.func 34) [a] h (.bool true, h) := by
  refine evals_pure c34 rfl hk ?_
  simp only [sf34, initS_cons, initS_nil]
  have C := f18d a zs h.en hk ha hz hb d
  simp (disch := first|(simp only [Nat.reduceBEq,wE];done)|((repeat' (first|assumption|exact mAx _|refine mBx ?_ ?_|exact mCx (by assumption)|refine mDx ?_|refine mEx ?_ ?_ ?_|exact mFx|refine mGx ?_ ?_ ?_|exact mHx|exact mIx _|(simp only [wM,Nat.reduceAdd,Nat.reduceLT,Nat.reduceLeDiff];done)));done)|omega|decide) only [callT C, ↓wA,wB,wL,resOf,Nat.reduceBEq,Int.reduceBEq,Int.reduceBNe,Int.reduceLT,Int.reduceLE,Int.reduceAdd,Int.reduceSub,Int.reduceMul,Int.reduceToNat]
  exact ⟨_, rfl, rfl, Grown.en⟩
end Go.Proofs.YtelalpohbodolaaDoor
