/- WeighPans: Pans returns the first weighing. -/
import Derived.Test.YtelalpohbodolaaDoorDO
import Derived.Test.YtelalpohbodolaaDoorDD
import Derived.Test.YtelalpohbodolaaDoorD9
import Derived.Test.YtelalpohbodolaaDoorFWeighPans
set_option linter.unusedSimpArgs false
set_option linter.unusedVariables false
set_option maxHeartbeats 8000000
set_option maxRecDepth 20000
namespace Go.Proofs.YtelalpohbodolaaDoor
open Go Go.Abs Go.Wg

theorem f5 (x0 : AV) (l0 : List Int) (k1 : Int) (h : Hp) (hk : Hok h) (P0 : Ints h.blks .i64 x0 l0) (B0 : ∀ k ∈ l0, -9223372036854775808 ≤ k ∧ k ≤ 9223372036854775807) (S0 : l0.length ≤ maxLen) (b1 : -9223372036854775808 ≤ k1 ∧ k1 ≤ 9223372036854775807) :
    ∃ h', Evals Tryd.prog tab false (.func 5) [x0, .int .i64 k1] h (.bool true, h') := by
  suffices H : ∃ v h', Evals Tryd.prog tab false (.func 5) [x0, .int .i64 k1] h (v, h') ∧ v = .bool true by
    obtain ⟨v, h', e, rfl⟩ := H
    exact ⟨h', e⟩
  refine evals_func (Q := fun v _ => v = .bool true) c5 rfl ?_
  simp only [sf5, initS_cons, initS_nil]
  obtain ⟨s1, h1, e1, g1, o1⟩ := f13 x0 l0 h.en hk P0 S0
  have k1' := g1.ok hk
  have ml : (l0.take 13).length ≤ 13 := by rw [List.length_take]; omega
  obtain ⟨L, hL⟩ : ∃ L, L = l0.take 13 := ⟨_, rfl⟩
  rw [← hL] at o1 ml
  obtain ⟨v, h2, e2, g2, q, rfl, o2⟩ := f23 s1 L k1 h1 k1' o1.ints (by omega) (OwnA.ref o1 k1')
  have k2' := g2.ok k1'
  have i2 : Ints h2.blks .i64 s1 L := o1.ints.sub (g2.sub k1')
  have W := f16 s1 L h2 k2' i2 (by omega)
  have oql := o2.len
  have sl := i2.len
  by_cases c9 : 9 < L.length
  · have e9 : errW L 9 k1 = 3 := by unfold errW; rw [if_pos c9]
    have z1 : paE L k1 = 3 := by unfold paE; rw [e9, if_neg (by omega)]
    have z2 : paL L k1 = [] := by unfold paL; rw [if_neg (fun hh => by rw [e9] at hh; omega)]
    rw [z1] at e2
    rw [z2] at oql
    have d9 : decide ((L.length : Int) > 9) = true := decide_eq_true (by omega)
    obtain ⟨x, hx⟩ : ∃ x, x = errW L 12 0 := ⟨_, rfl⟩
    rw [← hx] at W
    by_cases c1 : x = 3
    · have d1 : (x != 3) = false := by rw [bne_eq_false_iff_eq]; exact c1
      simp (disch := first|(simp only [Nat.reduceBEq,wE];done)|((repeat' (first|assumption|exact mAx _|refine mBx ?_ ?_|exact mCx (by assumption)|refine mDx ?_|refine mEx ?_ ?_ ?_|exact mFx|refine mGx ?_ ?_ ?_|exact mHx|exact mIx _|(simp only [wM,Nat.reduceAdd,Nat.reduceLT,Nat.reduceLeDiff];done)));done)|omega|decide) only [callT e1, callT e2, callT W, d1, sl, d9, oql, callT (lives_ev _), ↓wA,wB,wL,resOf,Nat.reduceBEq,Int.reduceBEq,Int.reduceBNe,Int.reduceLT,Int.reduceLE,Int.reduceAdd,Int.reduceSub,Int.reduceMul,Int.reduceToNat]
      exact ⟨_, rfl, rfl⟩
    · have d1 : (x != 3) = true := bne_iff_ne.2 c1
      by_cases c2 : k1 < 0
      · have d2 : decide (k1 < 0) = true := decide_eq_true c2
        simp (disch := first|(simp only [Nat.reduceBEq,wE];done)|((repeat' (first|assumption|exact mAx _|refine mBx ?_ ?_|exact mCx (by assumption)|refine mDx ?_|refine mEx ?_ ?_ ?_|exact mFx|refine mGx ?_ ?_ ?_|exact mHx|exact mIx _|(simp only [wM,Nat.reduceAdd,Nat.reduceLT,Nat.reduceLeDiff];done)));done)|omega|decide) only [callT e1, callT e2, callT W, d1, d2, sl, d9, oql, callT (lives_ev _), ↓wA,wB,wL,resOf,Nat.reduceBEq,Int.reduceBEq,Int.reduceBNe,Int.reduceLT,Int.reduceLE,Int.reduceAdd,Int.reduceSub,Int.reduceMul,Int.reduceToNat]
        exact ⟨_, rfl, rfl⟩
      · have d2 : decide (k1 < 0) = false := decide_eq_false c2
        simp (disch := first|(simp only [Nat.reduceBEq,wE];done)|((repeat' (first|assumption|exact mAx _|refine mBx ?_ ?_|exact mCx (by assumption)|refine mDx ?_|refine mEx ?_ ?_ ?_|exact mFx|refine mGx ?_ ?_ ?_|exact mHx|exact mIx _|(simp only [wM,Nat.reduceAdd,Nat.reduceLT,Nat.reduceLeDiff];done)));done)|omega|decide) only [callT e1, callT e2, callT W, d1, d2, sl, d9, oql, callT (lives_ev _), ↓wA,wB,wL,resOf,Nat.reduceBEq,Int.reduceBEq,Int.reduceBNe,Int.reduceLT,Int.reduceLE,Int.reduceAdd,Int.reduceSub,Int.reduceMul,Int.reduceToNat]
        exact ⟨_, rfl, rfl⟩
  · have d9 : decide ((L.length : Int) > 9) = false := decide_eq_false (by omega)
    have ew : errW L 12 0 = if WF L then 0 else 2 := by
      unfold errW
      rw [if_neg (by omega), if_neg (by omega)]
      by_cases w : WF L
      · rw [if_pos w, if_neg (by simpa using w)]
      · rw [if_neg w, if_pos w]
    have e9 : errW L 9 k1 = if k1 < 0 then 1 else errW L 12 0 := by
      unfold errW
      rw [if_neg c9, if_neg (show ¬ 12 < L.length by omega), if_neg (show ¬ (0 : Int) < 0 by omega)]
    obtain ⟨x, hx⟩ : ∃ x, x = errW L 12 0 := ⟨_, rfl⟩
    have x3 : x ≠ 3 := by rw [hx, ew]; split <;> omega
    have d1 : (x != 3) = true := bne_iff_ne.2 x3
    rw [← hx] at W e9
    by_cases c2 : k1 < 0
    · have d2 : decide (k1 < 0) = true := decide_eq_true c2
      rw [if_pos c2] at e9
      have z1 : paE L k1 = 1 := by unfold paE; rw [e9, if_neg (by omega)]
      have z2 : paL L k1 = [] := by unfold paL; rw [if_neg (fun hh => by rw [e9] at hh; omega)]
      rw [z1] at e2
      rw [z2] at oql
      simp (disch := first|(simp only [Nat.reduceBEq,wE];done)|((repeat' (first|assumption|exact mAx _|refine mBx ?_ ?_|exact mCx (by assumption)|refine mDx ?_|refine mEx ?_ ?_ ?_|exact mFx|refine mGx ?_ ?_ ?_|exact mHx|exact mIx _|(simp only [wM,Nat.reduceAdd,Nat.reduceLT,Nat.reduceLeDiff];done)));done)|omega|decide) only [callT e1, callT e2, callT W, d1, d2, sl, d9, oql, callT (lives_ev _), ↓wA,wB,wL,resOf,Nat.reduceBEq,Int.reduceBEq,Int.reduceBNe,Int.reduceLT,Int.reduceLE,Int.reduceAdd,Int.reduceSub,Int.reduceMul,Int.reduceToNat]
      exact ⟨_, rfl, rfl⟩
    · have d2 : decide (k1 < 0) = false := decide_eq_false c2
      rw [if_neg c2] at e9
      by_cases c3 : x = 0
      · have d3 : (x != 0) = false := by rw [bne_eq_false_iff_eq]; exact c3
        rw [c3] at e9
        obtain ⟨wl, wf, _⟩ := errW_good9 e9
        have hb := wf.1.bd
        have O : Own h2.next (h2.pu []).blks .i64 (.sl h2.next 0 0 (some 0) 1) [] := Own.fresh (Nat.le_refl _) rfl rfl rfl (Nat.le_refl _)
        have g3 : Grown h2 (h2.pu []) := Grown.pu Grown.refl rfl
        have k3 := g3.ok k2'
        obtain ⟨v, h4, e4, g4, r⟩ := f24 s1 L wl hb L.length k1 (.sl h2.next 0 0 (some 0) 1) [] (h2.pu []) (by simp) k3 (i2.sub (g3.sub k2')) O.ints (by intro e; cases e)
        rw [List.length_nil, List.drop_zero] at r
        replace e4 : Evals Tryd.prog tab false (.func 24) [s1, .int .i64 k1, .sl h2.next 0 0 (some 0) 1] { next := h2.next + 1, blks := (h2.next, { cells := [], ch := h2.next, wr := true }) :: h2.blks, loops := h2.loops, base := h2.base, esc := h2.esc } (v, h4) := e4
        have wf' := wfst_fP L k1
        rcases r with ⟨q1, rfl⟩ | ⟨l, q1, q2, q3⟩
        · rw [q1, Option.map_eq_none_iff] at wf'
          have z1 : paE L k1 = 5 := by unfold paE; rw [e9, if_pos rfl, wf']; rfl
          have z2 : paL L k1 = [] := by unfold paL; rw [wf']; simp
          rw [z1] at e2
          rw [z2] at oql
          have nn : sBin .neq .slice .nilsl .nilsl = some (.bool false) := rfl
          simp (disch := first|(simp only [Nat.reduceBEq,wE];done)|((repeat' (first|assumption|exact mAx _|refine mBx ?_ ?_|exact mCx (by assumption)|refine mDx ?_|refine mEx ?_ ?_ ?_|exact mFx|refine mGx ?_ ?_ ?_|exact mHx|exact mIx _|(simp only [wM,Nat.reduceAdd,Nat.reduceLT,Nat.reduceLeDiff];done)));done)|omega|decide) only [callT e1, callT e2, callT W, d1, d2, sl, d9, d3, sBS_0, callT e4, nn, oql, callT (lives_ev _), ↓wA,wB,wL,resOf,Nat.reduceBEq,Int.reduceBEq,Int.reduceBNe,Int.reduceLT,Int.reduceLE,Int.reduceAdd,Int.reduceSub,Int.reduceMul,Int.reduceToNat]
          exact ⟨_, rfl, rfl⟩
        · rw [q1, Option.map_eq_some_iff] at wf'
          obtain ⟨s, ws, wl'⟩ := wf'
          have z1 : paE L k1 = 0 := by unfold paE; rw [e9, if_pos rfl, ws]; rfl
          have z2 : paL L k1 = l := by unfold paL; rw [if_pos ⟨e9, by rw [ws]; rfl⟩, ws]; exact wl'
          rw [z1] at e2
          rw [z2] at o2
          rw [List.nil_append] at q2
          have nn := ints_nn q2 q3
          have ll : l.length = L.length := fP_len q1
          have SM := f19 q v l l h4 (g4.ok k3) ((o2.ints.sub (g3.sub k2')).sub (g4.sub k3)) q2 (by omega) (by omega)
          rw [decide_eq_true rfl] at SM
          simp (disch := first|(simp only [Nat.reduceBEq,wE];done)|((repeat' (first|assumption|exact mAx _|refine mBx ?_ ?_|exact mCx (by assumption)|refine mDx ?_|refine mEx ?_ ?_ ?_|exact mFx|refine mGx ?_ ?_ ?_|exact mHx|exact mIx _|(simp only [wM,Nat.reduceAdd,Nat.reduceLT,Nat.reduceLeDiff];done)));done)|omega|decide) only [callT e1, callT e2, callT W, d1, d2, sl, d9, d3, sBS_0, callT e4, nn, callT SM, callT (lives_ev _), ↓wA,wB,wL,resOf,Nat.reduceBEq,Int.reduceBEq,Int.reduceBNe,Int.reduceLT,Int.reduceLE,Int.reduceAdd,Int.reduceSub,Int.reduceMul,Int.reduceToNat]
          exact ⟨_, rfl, rfl⟩
      · have d3 : (x != 0) = true := bne_iff_ne.2 c3
        have z1 : paE L k1 = x := by unfold paE; rw [e9, if_neg c3]
        have z2 : paL L k1 = [] := by unfold paL; rw [if_neg (fun hh => c3 (by rw [← e9]; exact hh.1))]
        rw [z1] at e2
        rw [z2] at oql
        have d4 : (x == x) = true := beq_self_eq_true _
        simp (disch := first|(simp only [Nat.reduceBEq,wE];done)|((repeat' (first|assumption|exact mAx _|refine mBx ?_ ?_|exact mCx (by assumption)|refine mDx ?_|refine mEx ?_ ?_ ?_|exact mFx|refine mGx ?_ ?_ ?_|exact mHx|exact mIx _|(simp only [wM,Nat.reduceAdd,Nat.reduceLT,Nat.reduceLeDiff];done)));done)|omega|decide) only [callT e1, callT e2, callT W, d1, d2, sl, d9, d3, oql, d4, callT (lives_ev _), ↓wA,wB,wL,resOf,Nat.reduceBEq,Int.reduceBEq,Int.reduceBNe,Int.reduceLT,Int.reduceLE,Int.reduceAdd,Int.reduceSub,Int.reduceMul,Int.reduceToNat]
        exact ⟨_, rfl, rfl⟩
end Go.Proofs.YtelalpohbodolaaDoor
