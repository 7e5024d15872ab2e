/- WeighErdos: the squares of distinct weights. -/
import Derived.Test.YtelalpohbodolaaDoorDA
import Derived.Test.YtelalpohbodolaaDoorFWeighErdos
set_option linter.unusedSimpArgs false
set_option linter.unusedVariables false
set_option maxHeartbeats 8000000
set_option maxRecDepth 20000
namespace Go.Proofs.YtelalpohbodolaaDoor
open Go Go.Abs Go.Wg

theorem f9 (x0 : AV) (l0 : List Int) (k1 : Int) (h : Hp) (hk : Hok h) (P0 : Ints h.blks .u16 x0 l0) (B0 : ∀ k ∈ l0, 0 ≤ k ∧ k ≤ 65535) (S0 : l0.length ≤ maxLen) (b1 : 0 ≤ k1 ∧ k1 ≤ 255) :
    ∃ h', Evals Tryd.prog tab false (.func 9) [x0, .int .u8 k1] h (.bool true, h') := by
  suffices H : ∃ v h', Evals Tryd.prog tab false (.func 9) [x0, .int .u8 k1] h (v, h') ∧ v = .bool true by
    obtain ⟨v, h', e, rfl⟩ := H
    exact ⟨h', e⟩
  refine evals_func (Q := fun v _ => v = .bool true) c9 rfl ?_
  simp only [sf9, initS_cons, initS_nil]
  obtain ⟨s1, h1, e1, g1, o1⟩ := f30 x0 l0 12 h.en hk P0 B0 S0 (by omega)
  replace e1 : Evals Tryd.prog tab false (.func 30) [x0, .int .i64 12] h.en (s1, h1) := e1
  have k1' := g1.ok hk
  have ml := mdL_len l0 12 (by omega)
  have r1 := Int.emod_nonneg k1 (show (3 : Int) ≠ 0 by omega)
  have r2 := Int.emod_lt_of_pos k1 (show (0 : Int) < 3 by omega)
  obtain ⟨L1, hL1⟩ : ∃ L, L = mdL l0 12 := ⟨_, rfl⟩
  rw [← hL1] at o1 ml
  have tm : sBin .rem .no (.int .u8 k1) (.int .u8 3) = some (.int .u8 (k1 % 3)) := sBin_rem b1.1 (by omega)
  by_cases r0 : k1 % 3 = 0
  · have t1 : decide (k1 % 3 > 0) = false := decide_eq_false (by omega)
    have t2 : (k1 % 3 == 0) = true := by rw [beq_iff_eq]; exact r0

    have W := f16 s1 L1 h1 k1' o1.ints (by omega)
    rcases errW_cases L1 0 (Int.le_refl _) with ⟨ew, ew2⟩ | ⟨ew, ew2, ew3⟩ | ⟨ew, ew2, ew3⟩
    · omega
    · rw [ew] at W
      simp (disch := first|(simp only [Nat.reduceBEq,wE];done)|((repeat' (first|assumption|exact mAx _|refine mBx ?_ ?_|exact mCx (by assumption)|refine mDx ?_|refine mEx ?_ ?_ ?_|exact mFx|refine mGx ?_ ?_ ?_|exact mHx|exact mIx _|(simp only [wM,Nat.reduceAdd,Nat.reduceLT,Nat.reduceLeDiff];done)));done)|omega|decide) only [callT e1, tm, t1, callT W, callT (lives_ev _), ↓wA,wB,wL,resOf,Nat.reduceBEq,Int.reduceBEq,Int.reduceBNe,Int.reduceLT,Int.reduceLE,Int.reduceAdd,Int.reduceSub,Int.reduceMul,Int.reduceToNat]
      exact ⟨_, rfl, rfl⟩
    · rw [ew] at W
      obtain ⟨d, hd, DI⟩ := f14 s1 L1 h1 k1' o1.ints (by omega)
      rw [ew] at DI hd
      have hd' : d = true ↔ Dist L1 := by rw [hd]; simp
      have ol := o1.len
      simp (disch := first|(simp only [Nat.reduceBEq,wE];done)|((repeat' (first|assumption|exact mAx _|refine mBx ?_ ?_|exact mCx (by assumption)|refine mDx ?_|refine mEx ?_ ?_ ?_|exact mFx|refine mGx ?_ ?_ ?_|exact mHx|exact mIx _|(simp only [wM,Nat.reduceAdd,Nat.reduceLT,Nat.reduceLeDiff];done)));done)|omega|decide) only [callT e1, tm, t1, callT W, callT DI, ↓wA,wB,wL,resOf,Nat.reduceBEq,Int.reduceBEq,Int.reduceBNe,Int.reduceLT,Int.reduceLE,Int.reduceAdd,Int.reduceSub,Int.reduceMul,Int.reduceToNat]
      refine wloop (fun mm ss => ∃ (i : Nat) (u4 u14 u22 u32 : AV), (mm = (L1).length - i) ∧ (i ≤ (L1).length) ∧ ss = { fr := [(0, x0), (1, .int .u8 k1), (4, u4), (5, s1), (6, .bool d), (7, .int .i64 0), (8, .int .i64 (sqs ((L1).take i))), (9, .int .i64 i), (14, u14), (22, u22), (32, u32)], hp := h1 }) ((L1).length) ?_ ?_
      ·
        refine ⟨0, _, _, _, _, by omega, (by omega : (0 : Nat) ≤ (L1).length), rfl⟩
      rintro nA sA ⟨i, u4, u14, u22, u32, hnA, hi, rfl⟩
      have bd := fun j => sqs_le (l := (L1).take j) (W := 100000) (fun a ha => ew3.1.bd a (List.mem_of_mem_take ha))
      have bl : ∀ j : Nat, (100000 : Int) * 100000 * (((L1).take j).length : Nat) ≤ 120000000000 := fun j => by
        have : ((L1).take j).length ≤ 12 := by rw [List.length_take]; omega
        omega
      by_cases e1 : i < (L1).length
      · have d1 : decide ((i : Int) < (((L1).length : Nat) : Int)) = true := decide_eq_true (by omega)
        have sn := sqs_snoc e1
        have b1 := bd i
        have b2 := bd (i + 1)
        have b3 := bl i
        have b4 := bl (i + 1)
        have zb := ew3.1.bd ((L1).getD i 0) (by rw [List.getD_eq_getElem?_getD, List.getElem?_eq_getElem e1, Option.getD_some]; exact List.getElem_mem e1)
        have z2 : 0 ≤ (L1).getD i 0 * (L1).getD i 0 := Int.mul_nonneg zb.1 zb.1
        have z3 : (L1).getD i 0 * (L1).getD i 0 ≤ 100000 * 100000 := Int.mul_le_mul zb.2 zb.2 zb.1 (by omega)
        simp (disch := first|(simp only [Nat.reduceBEq,wE];done)|((repeat' (first|assumption|exact mAx _|refine mBx ?_ ?_|exact mCx (by assumption)|refine mDx ?_|refine mEx ?_ ?_ ?_|exact mFx|refine mGx ?_ ?_ ?_|exact mHx|exact mIx _|(simp only [wM,Nat.reduceAdd,Nat.reduceLT,Nat.reduceLeDiff];done)));done)|omega|decide) only [ol, d1, o1.ints.ix, o1.ints.ld, ↓wA,wB,wL,resOf,Nat.reduceBEq,Int.reduceBEq,Int.reduceBNe,Int.reduceLT,Int.reduceLE,Int.reduceAdd,Int.reduceSub,Int.reduceMul,Int.reduceToNat]
        rw [← sn]
        refine ⟨_, ?_, i + 1, _, _, _, _, rfl, ?_, rfl⟩
        · omega
        omega
      · have d1 : decide ((i : Int) < (((L1).length : Nat) : Int)) = false := decide_eq_false (by omega)
        have ei : (L1).take i = L1 := List.take_of_length_le (by omega)
        have b1 := bd i
        have b3 := bl i
        rw [ei] at b1 b3
        have c2 : (2 : Int) * (((L1).length : Nat) : Int) = ((2 * (L1).length : Nat) : Int) := by omega
        have sh : sBin .shl .no (.int .i64 1) (.int .i64 ((2 * (L1).length : Nat) : Int)) = some (.int .i64 ((2 ^ (2 * (L1).length) : Nat) : Int)) := sBin_shl1 (by omega)
        have p24 : 2 ^ (2 * (L1).length) ≤ 2 ^ 24 := Nat.pow_le_pow_right (by omega) (by omega)
        have p24 : 2 ^ (2 * (L1).length) ≤ 16777216 := p24
        have p4 : 2 ^ (2 * (L1).length) = 4 ^ (L1).length := by rw [Nat.pow_mul]
        generalize 2 ^ (2 * (L1).length) = T at *
        cases d with
        | true =>
          have er := erdos (hd'.1 rfl)
          rw [← p4] at er
          have g1 : decide (3 * sqs (L1) ≥ ((T : Nat) : Int) - 1) = true := decide_eq_true (by omega)
          simp (disch := first|(simp only [Nat.reduceBEq,wE];done)|((repeat' (first|assumption|exact mAx _|refine mBx ?_ ?_|exact mCx (by assumption)|refine mDx ?_|refine mEx ?_ ?_ ?_|exact mFx|refine mGx ?_ ?_ ?_|exact mHx|exact mIx _|(simp only [wM,Nat.reduceAdd,Nat.reduceLT,Nat.reduceLeDiff];done)));done)|omega|decide) only [ol, d1, ei, tm, t2, c2, sh, g1, callT (lives_ev _), ↓wA,wB,wL,resOf,Nat.reduceBEq,Int.reduceBEq,Int.reduceBNe,Int.reduceLT,Int.reduceLE,Int.reduceAdd,Int.reduceSub,Int.reduceMul,Int.reduceToNat]
          exact ⟨_, rfl, rfl⟩
        | false =>
          simp (disch := first|(simp only [Nat.reduceBEq,wE];done)|((repeat' (first|assumption|exact mAx _|refine mBx ?_ ?_|exact mCx (by assumption)|refine mDx ?_|refine mEx ?_ ?_ ?_|exact mFx|refine mGx ?_ ?_ ?_|exact mHx|exact mIx _|(simp only [wM,Nat.reduceAdd,Nat.reduceLT,Nat.reduceLeDiff];done)));done)|omega|decide) only [ol, d1, ei, tm, t2, callT (lives_ev _), ↓wA,wB,wL,resOf,Nat.reduceBEq,Int.reduceBEq,Int.reduceBNe,Int.reduceLT,Int.reduceLE,Int.reduceAdd,Int.reduceSub,Int.reduceMul,Int.reduceToNat]
          exact ⟨_, rfl, rfl⟩
  · have t1 : decide (k1 % 3 > 0) = true := decide_eq_true (by omega)
    have t2 : (k1 % 3 == 0) = false := by rw [beq_eq_false_iff_ne]; exact r0
    obtain ⟨b, hb⟩ : ∃ b : Bool, (k1 % 3 == 1) = b := ⟨_, rfl⟩
    obtain ⟨s2, h2, e2, g2, o2⟩ := f35 x0 l0 b h1 k1' (P0.sub ((GrownR.of_en g1).sub hk)) B0 S0
    have k2 := g2.ok k1'
    have ml2 := dblR_len l0 b
    have dd := dblR_dist l0 b
    obtain ⟨L2, hL2⟩ : ∃ L, L = dblR l0 b := ⟨_, rfl⟩
    rw [← hL2] at o2 ml2 dd

    have W := f16 s2 L2 h2 k2 o2.ints (by omega)
    rcases errW_cases L2 0 (Int.le_refl _) with ⟨ew, ew2⟩ | ⟨ew, ew2, ew3⟩ | ⟨ew, ew2, ew3⟩
    · omega
    · rw [ew] at W
      simp (disch := first|(simp only [Nat.reduceBEq,wE];done)|((repeat' (first|assumption|exact mAx _|refine mBx ?_ ?_|exact mCx (by assumption)|refine mDx ?_|refine mEx ?_ ?_ ?_|exact mFx|refine mGx ?_ ?_ ?_|exact mHx|exact mIx _|(simp only [wM,Nat.reduceAdd,Nat.reduceLT,Nat.reduceLeDiff];done)));done)|omega|decide) only [callT e1, tm, t1, hb, callT e2, callT W, callT (lives_ev _), ↓wA,wB,wL,resOf,Nat.reduceBEq,Int.reduceBEq,Int.reduceBNe,Int.reduceLT,Int.reduceLE,Int.reduceAdd,Int.reduceSub,Int.reduceMul,Int.reduceToNat]
      exact ⟨_, rfl, rfl⟩
    · rw [ew] at W
      obtain ⟨d, hd, DI⟩ := f14 s2 L2 h2 k2 o2.ints (by omega)
      rw [ew] at DI hd
      have hd' : d = true ↔ Dist L2 := by rw [hd]; simp
      have ol := o2.len
      simp (disch := first|(simp only [Nat.reduceBEq,wE];done)|((repeat' (first|assumption|exact mAx _|refine mBx ?_ ?_|exact mCx (by assumption)|refine mDx ?_|refine mEx ?_ ?_ ?_|exact mFx|refine mGx ?_ ?_ ?_|exact mHx|exact mIx _|(simp only [wM,Nat.reduceAdd,Nat.reduceLT,Nat.reduceLeDiff];done)));done)|omega|decide) only [callT e1, tm, t1, hb, callT e2, callT W, callT DI, ↓wA,wB,wL,resOf,Nat.reduceBEq,Int.reduceBEq,Int.reduceBNe,Int.reduceLT,Int.reduceLE,Int.reduceAdd,Int.reduceSub,Int.reduceMul,Int.reduceToNat]
      refine wloop (fun mm ss => ∃ (i : Nat) (u4 u14 u22 u32 : AV), (mm = (L2).length - i) ∧ (i ≤ (L2).length) ∧ ss = { fr := [(0, x0), (1, .int .u8 k1), (4, u4), (5, s2), (6, .bool d), (7, .int .i64 0), (8, .int .i64 (sqs ((L2).take i))), (9, .int .i64 i), (14, u14), (22, u22), (32, u32)], hp := h2 }) ((L2).length) ?_ ?_
      ·
        refine ⟨0, _, _, _, _, by omega, (by omega : (0 : Nat) ≤ (L2).length), rfl⟩
      rintro nB sB ⟨i, u4, u14, u22, u32, hnB, hi, rfl⟩
      have bd := fun j => sqs_le (l := (L2).take j) (W := 100000) (fun a ha => ew3.1.bd a (List.mem_of_mem_take ha))
      have bl : ∀ j : Nat, (100000 : Int) * 100000 * (((L2).take j).length : Nat) ≤ 120000000000 := fun j => by
        have : ((L2).take j).length ≤ 12 := by rw [List.length_take]; omega
        omega
      by_cases e1 : i < (L2).length
      · have d1 : decide ((i : Int) < (((L2).length : Nat) : Int)) = true := decide_eq_true (by omega)
        have sn := sqs_snoc e1
        have b1 := bd i
        have b2 := bd (i + 1)
        have b3 := bl i
        have b4 := bl (i + 1)
        have zb := ew3.1.bd ((L2).getD i 0) (by rw [List.getD_eq_getElem?_getD, List.getElem?_eq_getElem e1, Option.getD_some]; exact List.getElem_mem e1)
        have z2 : 0 ≤ (L2).getD i 0 * (L2).getD i 0 := Int.mul_nonneg zb.1 zb.1
        have z3 : (L2).getD i 0 * (L2).getD i 0 ≤ 100000 * 100000 := Int.mul_le_mul zb.2 zb.2 zb.1 (by omega)
        simp (disch := first|(simp only [Nat.reduceBEq,wE];done)|((repeat' (first|assumption|exact mAx _|refine mBx ?_ ?_|exact mCx (by assumption)|refine mDx ?_|refine mEx ?_ ?_ ?_|exact mFx|refine mGx ?_ ?_ ?_|exact mHx|exact mIx _|(simp only [wM,Nat.reduceAdd,Nat.reduceLT,Nat.reduceLeDiff];done)));done)|omega|decide) only [ol, d1, o2.ints.ix, o2.ints.ld, ↓wA,wB,wL,resOf,Nat.reduceBEq,Int.reduceBEq,Int.reduceBNe,Int.reduceLT,Int.reduceLE,Int.reduceAdd,Int.reduceSub,Int.reduceMul,Int.reduceToNat]
        rw [← sn]
        refine ⟨_, ?_, i + 1, _, _, _, _, rfl, ?_, rfl⟩
        · omega
        omega
      · have d1 : decide ((i : Int) < (((L2).length : Nat) : Int)) = false := decide_eq_false (by omega)
        have ei : (L2).take i = L2 := List.take_of_length_le (by omega)
        have b1 := bd i
        have b3 := bl i
        rw [ei] at b1 b3
        have c2 : (2 : Int) * (((L2).length : Nat) : Int) = ((2 * (L2).length : Nat) : Int) := by omega
        have sh : sBin .shl .no (.int .i64 1) (.int .i64 ((2 * (L2).length : Nat) : Int)) = some (.int .i64 ((2 ^ (2 * (L2).length) : Nat) : Int)) := sBin_shl1 (by omega)
        have p24 : 2 ^ (2 * (L2).length) ≤ 2 ^ 24 := Nat.pow_le_pow_right (by omega) (by omega)
        have p24 : 2 ^ (2 * (L2).length) ≤ 16777216 := p24
        have p4 : 2 ^ (2 * (L2).length) = 4 ^ (L2).length := by rw [Nat.pow_mul]
        generalize 2 ^ (2 * (L2).length) = T at *
        cases d with
        | true =>
          have er := erdos (hd'.1 rfl)
          rw [← p4] at er
          have g1 : decide (3 * sqs (L2) ≥ ((T : Nat) : Int) - 1) = true := decide_eq_true (by omega)
          simp (disch := first|(simp only [Nat.reduceBEq,wE];done)|((repeat' (first|assumption|exact mAx _|refine mBx ?_ ?_|exact mCx (by assumption)|refine mDx ?_|refine mEx ?_ ?_ ?_|exact mFx|refine mGx ?_ ?_ ?_|exact mHx|exact mIx _|(simp only [wM,Nat.reduceAdd,Nat.reduceLT,Nat.reduceLeDiff];done)));done)|omega|decide) only [ol, d1, ei, tm, t2, c2, sh, g1, callT (lives_ev _), ↓wA,wB,wL,resOf,Nat.reduceBEq,Int.reduceBEq,Int.reduceBNe,Int.reduceLT,Int.reduceLE,Int.reduceAdd,Int.reduceSub,Int.reduceMul,Int.reduceToNat]
          exact ⟨_, rfl, rfl⟩
        | false =>
          have := hd'.2 dd
          cases this
end Go.Proofs.YtelalpohbodolaaDoor
