/- made and doubled: the weights that the laws try. -/
import Derived.Test.YtelalpohbodolaaDoorD9
import Derived.Test.YtelalpohbodolaaDoorMF
set_option linter.unusedSimpArgs false
set_option linter.unusedVariables false
set_option maxHeartbeats 4000000
set_option maxRecDepth 20000
namespace Go.Proofs.YtelalpohbodolaaDoor
open Go Go.Abs Go.Wg

theorem f30 (a : AV) (zs : List Int) (most : Nat) (h : Hp) (hk : Hok h) (ha : Ints h.blks .u16 a zs) (hb : ∀ z ∈ zs, 0 ≤ z ∧ z ≤ 65535) (hz : zs.length ≤ maxLen) (hm : most ≤ 12) :
    ∃ v h', Evals Tryd.prog tab false (.func 30) [a, .int .i64 most] h (v, h') ∧ Grown h h' ∧ Own h.next h'.blks .i64 v (mdL zs most) := by
  refine evals_q c30 (fun v h' => Own h.next h'.blks .i64 v (mdL zs most)) rfl hk ?_ (fun v h1 g q => q.leave)
  simp only [sf30, initS_cons, initS_nil]
  have mx : maxLen = 9223372036854775807 := by unfold maxLen; rfl
  have O : Own h.next (h.en.pu []).blks .i64 (.sl h.next 0 0 (some 0) 1) [] := Own.fresh (Nat.le_refl _) rfl rfl rfl (Nat.le_refl _)
  simp (disch := first|(simp only [Nat.reduceBEq,wE];done)|((repeat' (first|assumption|exact mAx _|refine mBx ?_ ?_|exact mCx (by assumption)|refine mDx ?_|refine mEx ?_ ?_ ?_|exact mFx|refine mGx ?_ ?_ ?_|exact mHx|exact mIx _|(simp only [wM,Nat.reduceAdd,Nat.reduceLT,Nat.reduceLeDiff];done)));done)|omega|decide) only [↓wA,wB,wL,resOf,Nat.reduceBEq,Int.reduceBEq,Int.reduceBNe,Int.reduceLT,Int.reduceLE,Int.reduceAdd,Int.reduceSub,Int.reduceMul,Int.reduceToNat]
  refine wloop (fun mm ss => ∃ (i : Nat) (q : AV) (h1 : Hp) (u4 u17 u35 : AV), (mm = min zs.length most - i) ∧ (i ≤ min zs.length most ∧ Grown h h1 ∧ Own h.next h1.blks .i64 q (rsL zs 8000 i)) ∧ ss = { fr := [(0, a), (1, .int .i64 most), (4, u4), (5, q), (6, .int .i64 (sP zs 8000 i)), (7, .int .i64 i), (17, u17), (35, u35)], hp := h1 }) (min zs.length most) ?_ ?_
  ·
    refine ⟨0, _, _, _, _, _, by omega, ⟨by omega, Grown.pu Grown.en rfl, O⟩, rfl⟩
  rintro nA sA ⟨i, q, h1, u4, u17, u35, hnA, ⟨hi, g1, o1⟩, rfl⟩
  have k1 := g1.ok hk
  have a1 := ha.sub (g1.sub hk)
  have bi := sP_bd zs (m := 8000) (by omega) i
  have lr := rsL_len zs 8000 i
  by_cases e1 : i < zs.length
  · have d1 : decide ((i : Int) < (zs.length : Int)) = true := decide_eq_true (by omega)
    by_cases e2 : i < most
    · have d2 : decide ((i : Int) < (most : Int)) = true := decide_eq_true (by omega)
      have zb := hb (zs.getD i 0) (by rw [List.getD_eq_getElem?_getD, List.getElem?_eq_getElem e1, Option.getD_some]; exact List.getElem_mem e1)
      have m1 := Int.emod_nonneg (zs.getD i 0) (show (8000 : Int) ≠ 0 by omega)
      have m2 := Int.emod_lt_of_pos (zs.getD i 0) (show (0 : Int) < 8000 by omega)
      obtain ⟨q2, h2, y1, y2, y3, y4⟩ := own_app1 (v := sP zs 8000 (i + 1)) hk g1 o1 (by omega)
      have es : sP zs 8000 i + (zs.getD i 0 % 8000 + 1) = sP zs 8000 (i + 1) := rfl
      have tm : sBin .rem .no (.int .i64 (zs.getD i 0)) (.int .i64 8000) = some (.int .i64 (zs.getD i 0 % 8000)) := sBin_rem zb.1 (by omega)
      simp (disch := first|(simp only [Nat.reduceBEq,wE];done)|((repeat' (first|assumption|exact mAx _|refine mBx ?_ ?_|exact mCx (by assumption)|refine mDx ?_|refine mEx ?_ ?_ ?_|exact mFx|refine mGx ?_ ?_ ?_|exact mHx|exact mIx _|(simp only [wM,Nat.reduceAdd,Nat.reduceLT,Nat.reduceLeDiff];done)));done)|omega|decide) only [a1.len, d1, d2, a1.ix, a1.ld, tm, es, sBS_1, y1, ↓wA,wB,wL,resOf,Nat.reduceBEq,Int.reduceBEq,Int.reduceBNe,Int.reduceLT,Int.reduceLE,Int.reduceAdd,Int.reduceSub,Int.reduceMul,Int.reduceToNat]
      refine ⟨_, ?_, i + 1, _, _, _, _, _, rfl, ?_, rfl⟩
      · omega
      exact ⟨by omega, y3, by rw [rsL_suc]; exact y2⟩
    · have d2 : decide ((i : Int) < (most : Int)) = false := decide_eq_false (by omega)
      have em : i = min zs.length most := by omega
      by_cases e0 : i = 0
      · have d3 : ((i : Int) == 0) = true := by rw [beq_iff_eq]; omega
        have ol := o1.len
        rw [lr] at ol
        have er : mdL zs most = [1] := by unfold mdL; rw [if_pos (by omega)]
        rw [er]
        have O1 : Own h.next (h1.pu [.int .i64 1]).blks .i64 (.sl h1.next 0 1 (some 1) 1) [1] := Own.fresh g1.next rfl rfl rfl (Nat.le_refl _)
        simp (disch := first|(simp only [Nat.reduceBEq,wE];done)|((repeat' (first|assumption|exact mAx _|refine mBx ?_ ?_|exact mCx (by assumption)|refine mDx ?_|refine mEx ?_ ?_ ?_|exact mFx|refine mGx ?_ ?_ ?_|exact mHx|exact mIx _|(simp only [wM,Nat.reduceAdd,Nat.reduceLT,Nat.reduceLeDiff];done)));done)|omega|decide) only [a1.len, d1, d2, ol, d3, sBS_1, ↓wA,wB,wL,resOf,Nat.reduceBEq,Int.reduceBEq,Int.reduceBNe,Int.reduceLT,Int.reduceLE,Int.reduceAdd,Int.reduceSub,Int.reduceMul,Int.reduceToNat]
        exact ⟨_, rfl, GrownR.push g1 rfl (Nat.le_refl _), O1⟩
      · have d3 : ((i : Int) == 0) = false := by rw [beq_eq_false_iff_ne]; omega
        have ol := o1.len
        rw [lr] at ol
        have er : mdL zs most = rsL zs 8000 i := by unfold mdL; rw [if_neg (by omega), em]
        rw [er]
        simp (disch := first|(simp only [Nat.reduceBEq,wE];done)|((repeat' (first|assumption|exact mAx _|refine mBx ?_ ?_|exact mCx (by assumption)|refine mDx ?_|refine mEx ?_ ?_ ?_|exact mFx|refine mGx ?_ ?_ ?_|exact mHx|exact mIx _|(simp only [wM,Nat.reduceAdd,Nat.reduceLT,Nat.reduceLeDiff];done)));done)|omega|decide) only [a1.len, d1, d2, ol, d3, ↓wA,wB,wL,resOf,Nat.reduceBEq,Int.reduceBEq,Int.reduceBNe,Int.reduceLT,Int.reduceLE,Int.reduceAdd,Int.reduceSub,Int.reduceMul,Int.reduceToNat]
        exact ⟨_, rfl, g1, o1⟩
  · have d1 : decide ((i : Int) < (zs.length : Int)) = false := decide_eq_false (by omega)
    have em : i = min zs.length most := by omega
    by_cases e0 : i = 0
    · have d3 : ((i : Int) == 0) = true := by rw [beq_iff_eq]; omega
      have ol := o1.len
      rw [lr] at ol
      have er : mdL zs most = [1] := by unfold mdL; rw [if_pos (by omega)]
      rw [er]
      have O1 : Own h.next (h1.pu [.int .i64 1]).blks .i64 (.sl h1.next 0 1 (some 1) 1) [1] := Own.fresh g1.next rfl rfl rfl (Nat.le_refl _)
      simp (disch := first|(simp only [Nat.reduceBEq,wE];done)|((repeat' (first|assumption|exact mAx _|refine mBx ?_ ?_|exact mCx (by assumption)|refine mDx ?_|refine mEx ?_ ?_ ?_|exact mFx|refine mGx ?_ ?_ ?_|exact mHx|exact mIx _|(simp only [wM,Nat.reduceAdd,Nat.reduceLT,Nat.reduceLeDiff];done)));done)|omega|decide) only [a1.len, d1, ol, d3, sBS_1, ↓wA,wB,wL,resOf,Nat.reduceBEq,Int.reduceBEq,Int.reduceBNe,Int.reduceLT,Int.reduceLE,Int.reduceAdd,Int.reduceSub,Int.reduceMul,Int.reduceToNat]
      exact ⟨_, rfl, GrownR.push g1 rfl (Nat.le_refl _), O1⟩
    · have d3 : ((i : Int) == 0) = false := by rw [beq_eq_false_iff_ne]; omega
      have ol := o1.len
      rw [lr] at ol
      have er : mdL zs most = rsL zs 8000 i := by unfold mdL; rw [if_neg (by omega), em]
      rw [er]
      simp (disch := first|(simp only [Nat.reduceBEq,wE];done)|((repeat' (first|assumption|exact mAx _|refine mBx ?_ ?_|exact mCx (by assumption)|refine mDx ?_|refine mEx ?_ ?_ ?_|exact mFx|refine mGx ?_ ?_ ?_|exact mHx|exact mIx _|(simp only [wM,Nat.reduceAdd,Nat.reduceLT,Nat.reduceLeDiff];done)));done)|omega|decide) only [a1.len, d1, ol, d3, ↓wA,wB,wL,resOf,Nat.reduceBEq,Int.reduceBEq,Int.reduceBNe,Int.reduceLT,Int.reduceLE,Int.reduceAdd,Int.reduceSub,Int.reduceMul,Int.reduceToNat]
      exact ⟨_, rfl, g1, o1⟩

theorem f35 (a : AV) (zs : List Int) (guy : Bool) (h : Hp) (hk : Hok h) (ha : Ints h.blks .u16 a zs) (hb : ∀ z ∈ zs, 0 ≤ z ∧ z ≤ 65535) (hz : zs.length ≤ maxLen) :
    ∃ v h', Evals Tryd.prog tab false (.func 35) [a, .bool guy] h (v, h') ∧ Grown h h' ∧ Own h.next h'.blks .i64 v (dblR zs guy) := by
  refine evals_q c35 (fun v h' => Own h.next h'.blks .i64 v (dblR zs guy)) rfl hk ?_ (fun v h1 g q => q.leave)
  simp only [sf35, initS_cons, initS_nil]
  have mx : maxLen = 9223372036854775807 := by unfold maxLen; rfl
  cases guy with
  | true =>
    have er : dblR zs true = gyR zs := rfl
    rw [er]
    have m1 : 1 ≤ min zs.length 11 + 1 := by omega
    have m2 : min zs.length 11 + 1 ≤ 12 := by omega
    have c1 : min (zs.length : Int) 11 + 1 = ((min zs.length 11 + 1 : Nat) : Int) := by omega
    obtain ⟨u, h2, eu, g2, o2⟩ := f29 (min zs.length 11 + 1) h.en hk m1 m2
    have k2 := g2.ok hk
    have gh2 : Grown h h2 := GrownR.of_en g2
    have bb := gyB_bd zs
    have lc := cgS_len (min zs.length 11 + 1)
    have cb := cgS_bd (min zs.length 11 + 1) (by omega)
    by_cases e0 : 0 < zs.length
    · have d0 : decide ((zs.length : Int) > 0) = true := decide_eq_true (by omega)
      have zb := hb (zs.getD 0 0) (by rw [List.getD_eq_getElem?_getD, List.getElem?_eq_getElem e0, Option.getD_some]; exact List.getElem_mem e0)
      have mm1 := Int.emod_nonneg (zs.getD 0 0) (show (40 : Int) ≠ 0 by omega)
      have mm2 := Int.emod_lt_of_pos (zs.getD 0 0) (show (0 : Int) < 40 by omega)
      have eb : zs.getD 0 0 % 40 + 1 = gyB zs := by unfold gyB; rw [if_pos e0]
      have x1 := ha.ix (i := 0) h.en e0
      have x2 := ha.ld (Sub.refl _) (i := 0) e0
      have tm : sBin .rem .no (.int .i64 (zs.getD 0 0)) (.int .i64 40) = some (.int .i64 (zs.getD 0 0 % 40)) := sBin_rem zb.1 (by omega)
      simp (disch := first|(simp only [Nat.reduceBEq,wE];done)|((repeat' (first|assumption|exact mAx _|refine mBx ?_ ?_|exact mCx (by assumption)|refine mDx ?_|refine mEx ?_ ?_ ?_|exact mFx|refine mGx ?_ ?_ ?_|exact mHx|exact mIx _|(simp only [wM,Nat.reduceAdd,Nat.reduceLT,Nat.reduceLeDiff];done)));done)|omega|decide) only [ha.len, d0, idx?_lit0, x1, x2, tm, eb, c1, callT eu, ↓wA,wB,wL,resOf,Nat.reduceBEq,Int.reduceBEq,Int.reduceBNe,Int.reduceLT,Int.reduceLE,Int.reduceAdd,Int.reduceSub,Int.reduceMul,Int.reduceToNat]
      refine wloop (fun mm ss => ∃ (i : Nat) (h3 : Hp) (u1 u4 u8 u9 u10 u11 u14 u29 u48 u71 : AV), (mm = (min zs.length 11 + 1) - i) ∧ (i ≤ min zs.length 11 + 1 ∧ Grown h h3 ∧ Own h.next h3.blks .i64 u (mulU (cgS (min zs.length 11 + 1)) (gyB zs) i)) ∧ ss = { fr := [(0, a), (1, u1), (4, u4), (5, .int .i64 (gyB zs)), (6, u), (7, .int .i64 i), (8, u8), (9, u9), (10, u10), (11, u11), (14, u14), (29, u29), (48, u48), (71, u71)], hp := h3 }) (min zs.length 11 + 1) ?_ ?_
      ·
        refine ⟨0, _, _, _, _, _, _, _, _, _, _, _, by omega, ⟨by omega, gh2, by unfold mulU; rw [List.take_zero, List.map_nil, List.nil_append, List.drop_zero]; exact o2.le (Nat.le_refl _)⟩, rfl⟩
      rintro nA sA ⟨i, h3, u1, u4, u8, u9, u10, u11, u14, u29, u48, u71, hnA, ⟨hi, g3, o3⟩, rfl⟩
      have k3 := g3.ok hk
      have lu := mulU_len (cgS (min zs.length 11 + 1)) (gyB zs) i
      have ol := o3.len
      rw [lu, lc] at ol
      by_cases e1 : i < min zs.length 11 + 1
      · have d1 : decide ((i : Int) < ((min zs.length 11 + 1 : Nat) : Int)) = true := decide_eq_true (by omega)
        have ge := mulU_get (b := gyB zs) (show i < (cgS (min zs.length 11 + 1)).length by omega)
        have su := mulU_suc (b := gyB zs) (show i < (cgS (min zs.length 11 + 1)).length by omega)
        have vb := cb ((cgS (min zs.length 11 + 1)).getD i 0) (by rw [List.getD_eq_getElem?_getD, List.getElem?_eq_getElem (by omega), Option.getD_some]; exact List.getElem_mem _)
        have p1 : 0 ≤ (cgS (min zs.length 11 + 1)).getD i 0 * gyB zs := Int.mul_nonneg (by omega) (by omega)
        have p2 : (cgS (min zs.length 11 + 1)).getD i 0 * gyB zs ≤ 2048 * 40 := Int.mul_le_mul vb.2 bb.2 (by omega) (by omega)
        obtain ⟨h4, y1, y2, y3⟩ := own_setI (i := i) (v := (cgS (min zs.length 11 + 1)).getD i 0 * gyB zs) hk g3 o3 (by omega)
        simp (disch := first|(simp only [Nat.reduceBEq,wE];done)|((repeat' (first|assumption|exact mAx _|refine mBx ?_ ?_|exact mCx (by assumption)|refine mDx ?_|refine mEx ?_ ?_ ?_|exact mFx|refine mGx ?_ ?_ ?_|exact mHx|exact mIx _|(simp only [wM,Nat.reduceAdd,Nat.reduceLT,Nat.reduceLeDiff];done)));done)|omega|decide) only [ol, d1, o3.ints.ix, o3.ints.ld, ge, y1, ↓wA,wB,wL,resOf,Nat.reduceBEq,Int.reduceBEq,Int.reduceBNe,Int.reduceLT,Int.reduceLE,Int.reduceAdd,Int.reduceSub,Int.reduceMul,Int.reduceToNat]
        refine ⟨_, ?_, i + 1, _, _, _, _, _, _, _, _, _, _, _, rfl, ?_, rfl⟩
        · omega
        exact ⟨by omega, y3, by rw [← su]; exact y2⟩
      · have d1 : decide ((i : Int) < ((min zs.length 11 + 1 : Nat) : Int)) = false := decide_eq_false (by omega)
        have el : mulU (cgS (min zs.length 11 + 1)) (gyB zs) i = gyR zs := by
          unfold mulU gyR
          rw [List.take_of_length_le (by omega), List.drop_of_length_le (by omega), List.append_nil]
        rw [el] at o3
        simp (disch := first|(simp only [Nat.reduceBEq,wE];done)|((repeat' (first|assumption|exact mAx _|refine mBx ?_ ?_|exact mCx (by assumption)|refine mDx ?_|refine mEx ?_ ?_ ?_|exact mFx|refine mGx ?_ ?_ ?_|exact mHx|exact mIx _|(simp only [wM,Nat.reduceAdd,Nat.reduceLT,Nat.reduceLeDiff];done)));done)|omega|decide) only [ol, d1, ↓wA,wB,wL,resOf,Nat.reduceBEq,Int.reduceBEq,Int.reduceBNe,Int.reduceLT,Int.reduceLE,Int.reduceAdd,Int.reduceSub,Int.reduceMul,Int.reduceToNat]
        exact ⟨_, rfl, g3, o3⟩
    · have d0 : decide ((zs.length : Int) > 0) = false := decide_eq_false (by omega)
      have eb : gyB zs = 1 := by unfold gyB; rw [if_neg e0]
      simp (disch := first|(simp only [Nat.reduceBEq,wE];done)|((repeat' (first|assumption|exact mAx _|refine mBx ?_ ?_|exact mCx (by assumption)|refine mDx ?_|refine mEx ?_ ?_ ?_|exact mFx|refine mGx ?_ ?_ ?_|exact mHx|exact mIx _|(simp only [wM,Nat.reduceAdd,Nat.reduceLT,Nat.reduceLeDiff];done)));done)|omega|decide) only [ha.len, d0, c1, callT eu, ↓wA,wB,wL,resOf,Nat.reduceBEq,Int.reduceBEq,Int.reduceBNe,Int.reduceLT,Int.reduceLE,Int.reduceAdd,Int.reduceSub,Int.reduceMul,Int.reduceToNat]
      refine wloop (fun mm ss => ∃ (i : Nat) (h3 : Hp) (u1 u4 u8 u9 u10 u11 u14 u29 u48 u71 : AV), (mm = (min zs.length 11 + 1) - i) ∧ (i ≤ min zs.length 11 + 1 ∧ Grown h h3 ∧ Own h.next h3.blks .i64 u (mulU (cgS (min zs.length 11 + 1)) (gyB zs) i)) ∧ ss = { fr := [(0, a), (1, u1), (4, u4), (5, .int .i64 1), (6, u), (7, .int .i64 i), (8, u8), (9, u9), (10, u10), (11, u11), (14, u14), (29, u29), (48, u48), (71, u71)], hp := h3 }) (min zs.length 11 + 1) ?_ ?_
      ·
        refine ⟨0, _, _, _, _, _, _, _, _, _, _, _, by omega, ⟨by omega, gh2, by unfold mulU; rw [List.take_zero, List.map_nil, List.nil_append, List.drop_zero]; exact o2.le (Nat.le_refl _)⟩, rfl⟩
      rintro nB sB ⟨i, h3, u1, u4, u8, u9, u10, u11, u14, u29, u48, u71, hnB, ⟨hi, g3, o3⟩, rfl⟩
      have k3 := g3.ok hk
      have lu := mulU_len (cgS (min zs.length 11 + 1)) (gyB zs) i
      have ol := o3.len
      rw [lu, lc] at ol
      by_cases e1 : i < min zs.length 11 + 1
      · have d1 : decide ((i : Int) < ((min zs.length 11 + 1 : Nat) : Int)) = true := decide_eq_true (by omega)
        have ge := mulU_get (b := gyB zs) (show i < (cgS (min zs.length 11 + 1)).length by omega)
        have su := mulU_suc (b := gyB zs) (show i < (cgS (min zs.length 11 + 1)).length by omega)
        have vb := cb ((cgS (min zs.length 11 + 1)).getD i 0) (by rw [List.getD_eq_getElem?_getD, List.getElem?_eq_getElem (by omega), Option.getD_some]; exact List.getElem_mem _)
        obtain ⟨h4, y1, y2, y3⟩ := own_setI (i := i) (v := (cgS (min zs.length 11 + 1)).getD i 0 * gyB zs) hk g3 o3 (by omega)
        rw [eb] at y1
        rw [Int.mul_one] at y1
        simp (disch := first|(simp only [Nat.reduceBEq,wE];done)|((repeat' (first|assumption|exact mAx _|refine mBx ?_ ?_|exact mCx (by assumption)|refine mDx ?_|refine mEx ?_ ?_ ?_|exact mFx|refine mGx ?_ ?_ ?_|exact mHx|exact mIx _|(simp only [wM,Nat.reduceAdd,Nat.reduceLT,Nat.reduceLeDiff];done)));done)|omega|decide) only [ol, d1, o3.ints.ix, o3.ints.ld, ge, Int.mul_one, y1, ↓wA,wB,wL,resOf,Nat.reduceBEq,Int.reduceBEq,Int.reduceBNe,Int.reduceLT,Int.reduceLE,Int.reduceAdd,Int.reduceSub,Int.reduceMul,Int.reduceToNat]
        refine ⟨_, ?_, i + 1, _, _, _, _, _, _, _, _, _, _, _, rfl, ?_, rfl⟩
        · omega
        exact ⟨by omega, y3, by rw [← su]; exact y2⟩
      · have d1 : decide ((i : Int) < ((min zs.length 11 + 1 : Nat) : Int)) = false := decide_eq_false (by omega)
        have el : mulU (cgS (min zs.length 11 + 1)) (gyB zs) i = gyR zs := by
          unfold mulU gyR
          rw [List.take_of_length_le (by omega), List.drop_of_length_le (by omega), List.append_nil]
        rw [el] at o3
        simp (disch := first|(simp only [Nat.reduceBEq,wE];done)|((repeat' (first|assumption|exact mAx _|refine mBx ?_ ?_|exact mCx (by assumption)|refine mDx ?_|refine mEx ?_ ?_ ?_|exact mFx|refine mGx ?_ ?_ ?_|exact mHx|exact mIx _|(simp only [wM,Nat.reduceAdd,Nat.reduceLT,Nat.reduceLeDiff];done)));done)|omega|decide) only [ol, d1, ↓wA,wB,wL,resOf,Nat.reduceBEq,Int.reduceBEq,Int.reduceBNe,Int.reduceLT,Int.reduceLE,Int.reduceAdd,Int.reduceSub,Int.reduceMul,Int.reduceToNat]
        exact ⟨_, rfl, g3, o3⟩
  | false =>
    have er : dblR zs false = dbR zs := rfl
    rw [er]
    have O : Own h.next (h.en.pu []).blks .i64 (.sl h.next 0 0 (some 0) 1) [] := Own.fresh (Nat.le_refl _) rfl rfl rfl (Nat.le_refl _)
    simp (disch := first|(simp only [Nat.reduceBEq,wE];done)|((repeat' (first|assumption|exact mAx _|refine mBx ?_ ?_|exact mCx (by assumption)|refine mDx ?_|refine mEx ?_ ?_ ?_|exact mFx|refine mGx ?_ ?_ ?_|exact mHx|exact mIx _|(simp only [wM,Nat.reduceAdd,Nat.reduceLT,Nat.reduceLeDiff];done)));done)|omega|decide) only [↓wA,wB,wL,resOf,Nat.reduceBEq,Int.reduceBEq,Int.reduceBNe,Int.reduceLT,Int.reduceLE,Int.reduceAdd,Int.reduceSub,Int.reduceMul,Int.reduceToNat]
    refine wloop (fun mm ss => ∃ (i : Nat) (q : AV) (h1 : Hp) (u1 u4 u5 u6 u7 u11 u14 u29 u48 u71 : AV), (mm = min zs.length 12 - i) ∧ (i ≤ min zs.length 12 ∧ Grown h h1 ∧ Own h.next h1.blks .i64 q (dbL zs i)) ∧ ss = { fr := [(0, a), (1, u1), (4, u4), (5, u5), (6, u6), (7, u7), (8, q), (9, .int .i64 (dS zs i)), (10, .int .i64 i), (11, u11), (14, u14), (29, u29), (48, u48), (71, u71)], hp := h1 }) (min zs.length 12) ?_ ?_
    ·
      refine ⟨0, _, _, _, _, _, _, _, _, _, _, _, _, by omega, ⟨by omega, Grown.pu Grown.en rfl, O⟩, rfl⟩
    rintro nC sC ⟨i, q, h1, u1, u4, u5, u6, u7, u11, u14, u29, u48, u71, hnC, ⟨hi, g1, o1⟩, rfl⟩
    have k1 := g1.ok hk
    have a1 := ha.sub (g1.sub hk)
    have bi := dS_bd zs i
    have p12 : 2 ^ i ≤ 2 ^ 12 := Nat.pow_le_pow_right (by omega) (by omega)
    have lr := dbL_len zs i
    have ol := o1.len
    rw [lr] at ol
    by_cases e1 : i < zs.length
    · have d1 : decide ((i : Int) < (zs.length : Int)) = true := decide_eq_true (by omega)
      by_cases e2 : i < 12
      · have d2 : decide ((i : Int) < 12) = true := decide_eq_true (by omega)
        have zb := hb (zs.getD i 0) (by rw [List.getD_eq_getElem?_getD, List.getElem?_eq_getElem e1, Option.getD_some]; exact List.getElem_mem e1)
        have m1 := Int.emod_nonneg (zs.getD i 0) (show (12 : Int) ≠ 0 by omega)
        have m2 := Int.emod_lt_of_pos (zs.getD i 0) (show (0 : Int) < 12 by omega)
        obtain ⟨q2, h2, y1, y2, y3, y4⟩ := own_app1 (v := dS zs i + 1 + zs.getD i 0 % 12) hk g1 o1 (by omega)
        have s1 : Sub h1.blks ((h1.next, { cells := [.int .i64 (dS zs i + 1 + zs.getD i 0 % 12)], ch := h1.next, wr := true }) :: h1.blks) := Sub.push (Sub.refl _) (HokR.fresh k1)
        rw [← dbL_suc] at y2
        have ln := dbL_len zs (i + 1)
        have gv : (dbL zs (i + 1)).getD i 0 = dS zs i + 1 + zs.getD i 0 % 12 := by
          rw [dbL_suc, List.getD_eq_getElem?_getD, List.getElem?_append_right (by omega), lr, Nat.sub_self]
          rfl
        have es : dS zs i + (dS zs i + 1 + zs.getD i 0 % 12) = dS zs (i + 1) := rfl
        have tm : sBin .rem .no (.int .i64 (zs.getD i 0)) (.int .i64 12) = some (.int .i64 (zs.getD i 0 % 12)) := sBin_rem zb.1 (by omega)
        simp (disch := first|(simp only [Nat.reduceBEq,wE];done)|((repeat' (first|assumption|exact mAx _|refine mBx ?_ ?_|exact mCx (by assumption)|refine mDx ?_|refine mEx ?_ ?_ ?_|exact mFx|refine mGx ?_ ?_ ?_|exact mHx|exact mIx _|(simp only [wM,Nat.reduceAdd,Nat.reduceLT,Nat.reduceLeDiff];done)));done)|omega|decide) only [a1.len, d1, d2, a1.ix, a1.ld, tm, sBS_1, y1, y2.ints.ix, y2.ints.ld, gv, es, ↓wA,wB,wL,resOf,Nat.reduceBEq,Int.reduceBEq,Int.reduceBNe,Int.reduceLT,Int.reduceLE,Int.reduceAdd,Int.reduceSub,Int.reduceMul,Int.reduceToNat]
        refine ⟨_, ?_, i + 1, _, _, _, _, _, _, _, _, _, _, _, _, rfl, ?_, rfl⟩
        · omega
        exact ⟨by omega, y3, y2⟩
      · have d2 : decide ((i : Int) < 12) = false := decide_eq_false (by omega)
        have d3 : ((i : Int) == 0) = false := by rw [beq_eq_false_iff_ne]; omega
        have er2 : dbR zs = dbL zs i := by unfold dbR; rw [if_neg (by omega)]; congr 1; omega
        rw [er2]
        simp (disch := first|(simp only [Nat.reduceBEq,wE];done)|((repeat' (first|assumption|exact mAx _|refine mBx ?_ ?_|exact mCx (by assumption)|refine mDx ?_|refine mEx ?_ ?_ ?_|exact mFx|refine mGx ?_ ?_ ?_|exact mHx|exact mIx _|(simp only [wM,Nat.reduceAdd,Nat.reduceLT,Nat.reduceLeDiff];done)));done)|omega|decide) only [a1.len, d1, d2, ol, d3, ↓wA,wB,wL,resOf,Nat.reduceBEq,Int.reduceBEq,Int.reduceBNe,Int.reduceLT,Int.reduceLE,Int.reduceAdd,Int.reduceSub,Int.reduceMul,Int.reduceToNat]
        exact ⟨_, rfl, g1, o1⟩
    · have d1 : decide ((i : Int) < (zs.length : Int)) = false := decide_eq_false (by omega)
      by_cases e0 : i = 0
      · have d3 : ((i : Int) == 0) = true := by rw [beq_iff_eq]; omega
        have er2 : dbR zs = [1] := by unfold dbR; rw [if_pos (by omega)]
        rw [er2]
        have O1 : Own h.next (h1.pu [.int .i64 1]).blks .i64 (.sl h1.next 0 1 (some 1) 1) [1] := Own.fresh g1.next rfl rfl rfl (Nat.le_refl _)
        simp (disch := first|(simp only [Nat.reduceBEq,wE];done)|((repeat' (first|assumption|exact mAx _|refine mBx ?_ ?_|exact mCx (by assumption)|refine mDx ?_|refine mEx ?_ ?_ ?_|exact mFx|refine mGx ?_ ?_ ?_|exact mHx|exact mIx _|(simp only [wM,Nat.reduceAdd,Nat.reduceLT,Nat.reduceLeDiff];done)));done)|omega|decide) only [a1.len, d1, ol, d3, sBS_1, ↓wA,wB,wL,resOf,Nat.reduceBEq,Int.reduceBEq,Int.reduceBNe,Int.reduceLT,Int.reduceLE,Int.reduceAdd,Int.reduceSub,Int.reduceMul,Int.reduceToNat]
        exact ⟨_, rfl, GrownR.push g1 rfl (Nat.le_refl _), O1⟩
      · have d3 : ((i : Int) == 0) = false := by rw [beq_eq_false_iff_ne]; omega
        have er2 : dbR zs = dbL zs i := by unfold dbR; rw [if_neg (by omega)]; congr 1; omega
        rw [er2]
        simp (disch := first|(simp only [Nat.reduceBEq,wE];done)|((repeat' (first|assumption|exact mAx _|refine mBx ?_ ?_|exact mCx (by assumption)|refine mDx ?_|refine mEx ?_ ?_ ?_|exact mFx|refine mGx ?_ ?_ ?_|exact mHx|exact mIx _|(simp only [wM,Nat.reduceAdd,Nat.reduceLT,Nat.reduceLeDiff];done)));done)|omega|decide) only [a1.len, d1, ol, d3, ↓wA,wB,wL,resOf,Nat.reduceBEq,Int.reduceBEq,Int.reduceBNe,Int.reduceLT,Int.reduceLE,Int.reduceAdd,Int.reduceSub,Int.reduceMul,Int.reduceToNat]
        exact ⟨_, rfl, g1, o1⟩
end Go.Proofs.YtelalpohbodolaaDoor
