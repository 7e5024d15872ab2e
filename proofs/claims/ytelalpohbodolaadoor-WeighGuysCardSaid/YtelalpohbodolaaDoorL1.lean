/- WeighGuys: Guy and Set return the terms of the sequence and the set. -/
import Derived.Test.YtelalpohbodolaaDoorD9
import Derived.Test.YtelalpohbodolaaDoorFWeighGuys
set_option linter.unusedSimpArgs false
set_option linter.unusedVariables false
set_option maxHeartbeats 4000000
set_option maxRecDepth 20000
namespace Go.Proofs.YtelalpohbodolaaDoor
open Go Go.Abs Go.Wg

theorem f6 (k0 : Int) (h : Hp) (hk : Hok h) (b0 : -9223372036854775808 ≤ k0 ∧ k0 ≤ 9223372036854775807) :
    ∃ h', Evals Tryd.prog tab false (.func 6) [.int .i64 k0] h (.bool true, h') := by
  suffices H : ∃ v h', Evals Tryd.prog tab false (.func 6) [.int .i64 k0] h (v, h') ∧ v = .bool true by
    obtain ⟨v, h', e, rfl⟩ := H
    exact ⟨h', e⟩
  refine evals_func (Q := fun v _ => v = .bool true) c6 rfl ?_
  simp only [sf6, initS_cons, initS_nil]
  have G := f25 k0 h.en hk
  obtain ⟨v, h1, eS, g1, s, rfl, oS⟩ := f26 k0 h.en hk
  have k1 := g1.ok hk
  have I1 := f27 k0 0 60 h1 k1
  have I2 := f27 k0 1 12 h1 k1
  by_cases e1 : gOK k0
  · rw [if_pos e1, if_pos e1] at G
    have d1 : decide (0 ≤ k0 ∧ k0 ≤ 60) = true := decide_eq_true e1
    obtain ⟨m, rfl⟩ : ∃ m : Nat, k0 = m := ⟨k0.toNat, by have := e1.1; omega⟩
    have hm : m ≤ 60 := by have := e1.2; omega
    rw [Int.toNat_natCast] at G oS
    obtain ⟨u, h2, eu, g2, o2⟩ := f28 m h1 k1 hm
    have k2 := g2.ok k1
    have ul : m < (uL m).length := by unfold uL; rw [uT_len]; omega
    have ix : idx? (.int .i64 (m : Int)) = some m := by simp [idx?]
    have I3 := f27 (m : Int) 1 12 h2 k2
    have oS2 := oS.sub (g2.sub k1)
    have ne : ((uL m).getD m 0 != (uL m).getD m 0) = false := bne_self_eq_false _
    by_cases e2 : sOK (m : Int)
    · rw [if_pos e2] at eS oS2
      have d2 : decide (1 ≤ (m : Int) ∧ (m : Int) ≤ 12) = true := decide_eq_true e2
      obtain ⟨r, h3, er, g3, o3⟩ := f29 m h2 k2 (by have := e2.1; omega) (by have := e2.2; omega)
      have k3 := g3.ok k2
      have lc := cgS_len m
      have SM := f19 s r (cgS m) (cgS m) h3 k3 (oS2.ints.sub (g3.sub k2)) o3.ints (by omega) (by omega)
      rw [decide_eq_true rfl] at SM
      simp (disch := first|(simp only [Nat.reduceBEq,wE];done)|((repeat' (first|assumption|exact mAx _|refine mBx ?_ ?_|exact mCx (by assumption)|refine mDx ?_|refine mEx ?_ ?_ ?_|exact mFx|refine mGx ?_ ?_ ?_|exact mHx|exact mIx _|(simp only [wM,Nat.reduceAdd,Nat.reduceLT,Nat.reduceLeDiff];done)));done)|omega|decide) only [callT G, callT eS, callT I1, d1, callT eu, ix, o2.ints.ix, o2.ints.ld, ne, callT (lives_ev _), callT I3, d2, callT er, callT SM, ↓wA,wB,wL,resOf,Nat.reduceBEq,Int.reduceBEq,Int.reduceBNe,Int.reduceLT,Int.reduceLE,Int.reduceAdd,Int.reduceSub,Int.reduceMul,Int.reduceToNat]
      exact ⟨_, rfl, rfl⟩
    · rw [if_neg e2] at eS oS2
      have d2 : decide (1 ≤ (m : Int) ∧ (m : Int) ≤ 12) = false := decide_eq_false e2
      have sl := oS2.len
      simp (disch := first|(simp only [Nat.reduceBEq,wE];done)|((repeat' (first|assumption|exact mAx _|refine mBx ?_ ?_|exact mCx (by assumption)|refine mDx ?_|refine mEx ?_ ?_ ?_|exact mFx|refine mGx ?_ ?_ ?_|exact mHx|exact mIx _|(simp only [wM,Nat.reduceAdd,Nat.reduceLT,Nat.reduceLeDiff];done)));done)|omega|decide) only [callT G, callT eS, callT I1, d1, callT eu, ix, o2.ints.ix, o2.ints.ld, ne, callT (lives_ev _), callT I3, d2, sl, ↓wA,wB,wL,resOf,Nat.reduceBEq,Int.reduceBEq,Int.reduceBNe,Int.reduceLT,Int.reduceLE,Int.reduceAdd,Int.reduceSub,Int.reduceMul,Int.reduceToNat]
      exact ⟨_, rfl, rfl⟩
  · rw [if_neg e1, if_neg e1] at G
    have d1 : decide (0 ≤ k0 ∧ k0 ≤ 60) = false := decide_eq_false e1
    have e2 : ¬ sOK k0 := fun hh => e1 ⟨by have := hh.1; omega, by have := hh.2; omega⟩
    rw [if_neg e2] at eS oS
    have d2 : decide (1 ≤ k0 ∧ k0 ≤ 12) = false := decide_eq_false e2
    have sl := oS.len
    simp (disch := first|(simp only [Nat.reduceBEq,wE];done)|((repeat' (first|assumption|exact mAx _|refine mBx ?_ ?_|exact mCx (by assumption)|refine mDx ?_|refine mEx ?_ ?_ ?_|exact mFx|refine mGx ?_ ?_ ?_|exact mHx|exact mIx _|(simp only [wM,Nat.reduceAdd,Nat.reduceLT,Nat.reduceLeDiff];done)));done)|omega|decide) only [callT G, callT eS, callT I1, d1, callT (lives_ev _), callT I2, d2, sl, ↓wA,wB,wL,resOf,Nat.reduceBEq,Int.reduceBEq,Int.reduceBNe,Int.reduceLT,Int.reduceLE,Int.reduceAdd,Int.reduceSub,Int.reduceMul,Int.reduceToNat]
    exact ⟨_, rfl, rfl⟩
end Go.Proofs.YtelalpohbodolaaDoor
