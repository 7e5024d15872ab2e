/- WeighSubsets: Subset and Ways return what the document says. -/
import Derived.Test.YtelalpohbodolaaDoorDF
import Derived.Test.YtelalpohbodolaaDoorFWeighSubsets
set_option linter.unusedSimpArgs false
set_option linter.unusedVariables false
set_option maxHeartbeats 8000000
set_option maxRecDepth 20000
namespace Go.Wg
theorem count_none {zs : List Int} {total : Int} : (SS zs).count total = 0 ↔ sbF zs total = none := by
  rw [← count_perm, List.countP_eq_zero]
  unfold sbF
  rw [List.find?_eq_none]
  exact Iff.rfl
end Go.Wg
namespace Go.Proofs.YtelalpohbodolaaDoor
open Go Go.Abs Go.Wg

theorem f4 (x0 : AV) (l0 : List Int) (k1 : Int) (h : Hp) (hk : Hok h) (P0 : Ints h.blks .i64 x0 l0) (B0 : ∀ k ∈ l0, -9223372036854775808 ≤ k ∧ k ≤ 9223372036854775807) (S0 : l0.length ≤ maxLen) (b1 : -9223372036854775808 ≤ k1 ∧ k1 ≤ 9223372036854775807) :
    ∃ h', Evals Tryd.prog tab false (.func 4) [x0, .int .i64 k1] h (.bool true, h') := by
  suffices H : ∃ v h', Evals Tryd.prog tab false (.func 4) [x0, .int .i64 k1] h (v, h') ∧ v = .bool true by
    obtain ⟨v, h', e, rfl⟩ := H
    exact ⟨h', e⟩
  refine evals_func (Q := fun v _ => v = .bool true) c4 rfl ?_
  simp only [sf4, initS_cons, initS_nil]
  obtain ⟨s1, h1, e1, g1, o1⟩ := f13 x0 l0 h.en hk P0 S0
  have k1' := g1.ok hk
  have ml : (l0.take 13).length ≤ 13 := by rw [List.length_take]; omega
  obtain ⟨L, hL⟩ : ∃ L, L = l0.take 13 := ⟨_, rfl⟩
  rw [← hL] at o1 ml
  obtain ⟨v, h2, e2, g2, q, rfl, o2⟩ := f20 s1 L k1 h1 k1' o1.ints (by omega) (OwnA.ref o1 k1')
  have k2' := g2.ok k1'
  have o12 := OwnA.sub o1 (g2.sub k1')
  have i2 : Ints h2.blks .i64 s1 L := o1.ints.sub (g2.sub k1')
  have e3 := f21 s1 L k1 h2 k2' i2 (by omega) (OwnA.ref o12 k2')
  have W := f16 s1 L h2 k2' i2 (by omega)
  have oql := o2.len
  -- the error, as the law reckons it
  have bad : (errW L 12 0 = 3 ∧ errW L 12 k1 = 3) ∨ (errW L 12 0 ≠ 3 ∧ k1 < 0 ∧ errW L 12 k1 = 1) ∨ (errW L 12 0 ≠ 3 ∧ 0 ≤ k1 ∧ errW L 12 k1 = errW L 12 0) := by
    unfold errW
    by_cases c1 : 12 < L.length
    · left; simp [c1]
    · right
      simp only [if_neg c1, if_neg (show ¬ (0 : Int) < 0 by omega)]
      by_cases c2 : k1 < 0
      · left
        refine ⟨?_, c2, by rw [if_pos c2]⟩
        split <;> omega
      · right
        refine ⟨?_, by omega, by rw [if_neg c2]⟩
        split <;> omega
  rcases bad with ⟨w0, w1⟩ | ⟨w0, c0, w1⟩ | ⟨w0, c0, w1⟩
  · have n0 : ¬ errW L 12 k1 = 0 := by rw [w1]; omega
    have z1 : sbE L k1 = 3 := by unfold sbE; rw [if_neg n0, w1]
    have z2 : sbL L k1 = [] := by unfold sbL; rw [if_neg (fun hh => n0 hh.1)]
    have z3 : wN L k1 = 0 := by unfold wN; rw [if_neg n0]
    rw [w1, z3] at e3
    rw [w0] at W
    rw [z1] at e2
    rw [z2] at oql
    simp (disch := first|(simp only [Nat.reduceBEq,wE];done)|((repeat' (first|assumption|exact mAx _|refine mBx ?_ ?_|exact mCx (by assumption)|refine mDx ?_|refine mEx ?_ ?_ ?_|exact mFx|refine mGx ?_ ?_ ?_|exact mHx|exact mIx _|(simp only [wM,Nat.reduceAdd,Nat.reduceLT,Nat.reduceLeDiff];done)));done)|omega|decide) only [callT e1, callT e2, callT e3, callT W, oql, callT (lives_ev _), ↓wA,wB,wL,resOf,Nat.reduceBEq,Int.reduceBEq,Int.reduceBNe,Int.reduceLT,Int.reduceLE,Int.reduceAdd,Int.reduceSub,Int.reduceMul,Int.reduceToNat]
    exact ⟨_, rfl, rfl⟩
  · have n0 : ¬ errW L 12 k1 = 0 := by rw [w1]; omega
    have z1 : sbE L k1 = 1 := by unfold sbE; rw [if_neg n0, w1]
    have z2 : sbL L k1 = [] := by unfold sbL; rw [if_neg (fun hh => n0 hh.1)]
    have z3 : wN L k1 = 0 := by unfold wN; rw [if_neg n0]
    rw [w1, z3] at e3
    rw [z1] at e2
    rw [z2] at oql
    have d1 : (errW L 12 0 != 3) = true := bne_iff_ne.2 w0
    have d2 : decide (k1 < 0) = true := decide_eq_true c0
    simp (disch := first|(simp only [Nat.reduceBEq,wE];done)|((repeat' (first|assumption|exact mAx _|refine mBx ?_ ?_|exact mCx (by assumption)|refine mDx ?_|refine mEx ?_ ?_ ?_|exact mFx|refine mGx ?_ ?_ ?_|exact mHx|exact mIx _|(simp only [wM,Nat.reduceAdd,Nat.reduceLT,Nat.reduceLeDiff];done)));done)|omega|decide) only [callT e1, callT e2, callT e3, callT W, d1, d2, oql, callT (lives_ev _), ↓wA,wB,wL,resOf,Nat.reduceBEq,Int.reduceBEq,Int.reduceBNe,Int.reduceLT,Int.reduceLE,Int.reduceAdd,Int.reduceSub,Int.reduceMul,Int.reduceToNat]
    exact ⟨_, rfl, rfl⟩
  · have d1 : (errW L 12 0 != 3) = true := bne_iff_ne.2 w0
    have d2 : decide (k1 < 0) = false := decide_eq_false (by omega)
    by_cases n0 : errW L 12 k1 = 0
    · obtain ⟨wl, wf, tp⟩ := errW_good n0
      rw [n0] at w1
      obtain ⟨v, h3, e4, g3, w, rfl, o3⟩ := f22 s1 L k1 h2 k2' i2 wl wf.1.bd
      have k3' := g3.ok k2'
      have z3 : wN L k1 = ((SS L).count k1 : Nat) := by unfold wN; rw [if_pos n0]
      rw [n0, z3] at e3
      rw [← w1] at W d1
      have o2' := o2.sub (g3.sub k2')
      have ne : ((((SS L).count k1 : Nat) : Int) != (((SS L).count k1 : Nat) : Int)) = false := bne_self_eq_false _
      rcases o3 with ⟨f1, rfl⟩ | ⟨s, f1, o3⟩
      · have z0 := count_none.2 f1
        have z1 : sbE L k1 = 5 := by unfold sbE; rw [if_pos n0, f1]; rfl
        have z2 : sbL L k1 = [] := by unfold sbL; rw [f1]; simp
        rw [z1] at e2
        rw [z2] at oql
        have d3 : ((((SS L).count k1 : Nat) : Int) == 0) = true := by rw [beq_iff_eq]; omega
        simp (disch := first|(simp only [Nat.reduceBEq,wE];done)|((repeat' (first|assumption|exact mAx _|refine mBx ?_ ?_|exact mCx (by assumption)|refine mDx ?_|refine mEx ?_ ?_ ?_|exact mFx|refine mGx ?_ ?_ ?_|exact mHx|exact mIx _|(simp only [wM,Nat.reduceAdd,Nat.reduceLT,Nat.reduceLeDiff];done)));done)|omega|decide) only [callT e1, callT e2, callT e3, callT W, d2, callT e4, ne, callT (lives_ev _), d3, oql, ↓wA,wB,wL,resOf,Nat.reduceBEq,Int.reduceBEq,Int.reduceBNe,Int.reduceLT,Int.reduceLE,Int.reduceAdd,Int.reduceSub,Int.reduceMul,Int.reduceToNat]
        exact ⟨_, rfl, rfl⟩
      · have z0 : (SS L).count k1 ≠ 0 := fun hh => by rw [count_none.1 hh] at f1; cases f1
        have z1 : sbE L k1 = 0 := by unfold sbE; rw [if_pos n0, f1]; rfl
        have z2 : sbL L k1 = fl L.length s := by unfold sbL; rw [f1, if_pos ⟨n0, rfl⟩]; rfl
        rw [z1] at e2
        rw [z2] at o2'
        have d3 : ((((SS L).count k1 : Nat) : Int) == 0) = false := by rw [beq_eq_false_iff_ne]; omega
        have fll : (fl L.length s).length ≤ 12 := by
          unfold fl
          rw [List.length_map]
          have := List.length_filter_le (fun j => bt s j) (List.range L.length)
          rw [List.length_range] at this
          omega
        have SM := f19 q w (fl L.length s) (fl L.length s) h3 k3' o2'.ints o3.ints (by omega) (by omega)
        rw [decide_eq_true rfl] at SM
        simp (disch := first|(simp only [Nat.reduceBEq,wE];done)|((repeat' (first|assumption|exact mAx _|refine mBx ?_ ?_|exact mCx (by assumption)|refine mDx ?_|refine mEx ?_ ?_ ?_|exact mFx|refine mGx ?_ ?_ ?_|exact mHx|exact mIx _|(simp only [wM,Nat.reduceAdd,Nat.reduceLT,Nat.reduceLeDiff];done)));done)|omega|decide) only [callT e1, callT e2, callT e3, callT W, d2, callT e4, ne, callT (lives_ev _), d3, callT SM, ↓wA,wB,wL,resOf,Nat.reduceBEq,Int.reduceBEq,Int.reduceBNe,Int.reduceLT,Int.reduceLE,Int.reduceAdd,Int.reduceSub,Int.reduceMul,Int.reduceToNat]
        exact ⟨_, rfl, rfl⟩
    · have z1 : sbE L k1 = errW L 12 0 := by unfold sbE; rw [if_neg n0, w1]
      have z2 : sbL L k1 = [] := by unfold sbL; rw [if_neg (fun hh => n0 hh.1)]
      have z3 : wN L k1 = 0 := by unfold wN; rw [if_neg n0]
      rw [w1] at n0
      rw [w1, z3] at e3
      rw [z1] at e2
      rw [z2] at oql
      have d3 : (errW L 12 0 != 0) = true := bne_iff_ne.2 n0
      have d4 : (errW L 12 0 == errW L 12 0) = true := beq_self_eq_true _
      simp (disch := first|(simp only [Nat.reduceBEq,wE];done)|((repeat' (first|assumption|exact mAx _|refine mBx ?_ ?_|exact mCx (by assumption)|refine mDx ?_|refine mEx ?_ ?_ ?_|exact mFx|refine mGx ?_ ?_ ?_|exact mHx|exact mIx _|(simp only [wM,Nat.reduceAdd,Nat.reduceLT,Nat.reduceLeDiff];done)));done)|omega|decide) only [callT e1, callT e2, callT e3, callT W, d1, d2, d3, d4, oql, callT (lives_ev _), ↓wA,wB,wL,resOf,Nat.reduceBEq,Int.reduceBEq,Int.reduceBNe,Int.reduceLT,Int.reduceLE,Int.reduceAdd,Int.reduceSub,Int.reduceMul,Int.reduceToNat]
      exact ⟨_, rfl, rfl⟩
end Go.Proofs.YtelalpohbodolaaDoor
