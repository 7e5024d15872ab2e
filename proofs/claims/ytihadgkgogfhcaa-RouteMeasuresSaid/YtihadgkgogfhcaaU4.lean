/- RouteMeasures: Measure and Cuts return the measures of an order, or the errors that the document names. -/
import Derived.Test.YtihadgkgogfhcaaU1
import Derived.Test.YtihadgkgogfhcaaFRouteMeasures
set_option linter.unusedSimpArgs false
set_option linter.unusedVariables false
set_option maxHeartbeats 4000000
set_option maxRecDepth 20000
namespace Go.Proofs.Ytihadgkgogfhcaa
open Go Go.Abs Go.Pa Go.Ro

theorem f3 (n : Int) (x1 : AV) (l1 : List (Int × Int)) (x2 : AV) (l2 : List Int) (h : Hp) (hk : Hok h) (b0 : -9223372036854775808 ≤ n ∧ n ≤ 9223372036854775807)
    (P1 : Pairs h.blks x1 l1) (S1 : l1.length ≤ maxLen)
    (P2 : Ints h.blks .i64 x2 l2) (B2 : ∀ k ∈ l2, -9223372036854775808 ≤ k ∧ k ≤ 9223372036854775807) (S2 : l2.length ≤ maxLen) :
    ∃ h', Evals Try.prog tab false (.func 3) [.int .i64 n, x1, x2] h (.bool true, h') := by
  suffices H : ∃ v h', Evals Try.prog tab false (.func 3) [.int .i64 n, x1, x2] h (v, h') ∧ v = .bool true by
    obtain ⟨v, h', e, rfl⟩ := H
    exact ⟨h', e⟩
  refine evals_func (Q := fun v _ => v = .bool true) c3 rfl ?_
  simp only [sf3, initS_cons, initS_nil]
  have S1' : l1.length < 2 ^ 63 := by have : maxLen = 2 ^ 63 - 1 := rfl; omega
  have S2' : l2.length < 2 ^ 63 := by have : maxLen = 2 ^ 63 - 1 := rfl; omega
  obtain ⟨s1, h1, e1, g1, o1⟩ := f14 x1 l1 h.en hk P1 S1'
  have k1 : Hok h1 := g1.ok hk
  have gh1 : Grown h h1 := GrownR.of_en g1
  obtain ⟨s2, h2, e2, g2, o2⟩ := f15 x2 l2 h1 k1 (P2.sub (gh1.sub hk)) S2'
  have k2 := g2.ok k1
  have p2 := o1.pairs.sub (g2.sub k1)
  have q2 := o2.ints
  obtain ⟨E, eE⟩ : ∃ E, E = l1.take 31 := ⟨_, rfl⟩
  obtain ⟨zs, ez⟩ : ∃ zs, zs = l2.take 9 := ⟨_, rfl⟩
  have lE : E.length ≤ 31 := by rw [eE]; simp; omega
  have lz : zs.length ≤ 9 := by rw [ez]; simp; omega
  rw [← eE] at p2
  rw [← ez] at q2
  have gr := f18 n s1 E h2 k2 p2 (by omega)
  by_cases c1 : errG n E = 0
  · obtain ⟨hE, hg⟩ := errG_0.1 c1
    obtain ⟨k, rfl, k0, k8, hO⟩ := hg.nat
    rw [c1] at gr
    have pr := f19 s2 zs k h2 k2 q2 (by omega) (by omega)
    by_cases c2 : PermI k zs
    · rw [decide_eq_true c2] at pr
      have m1 := Measure_ok k s1 s2 E zs h2 k2 p2 q2 hE k8 k0 hO c2
      obtain ⟨v, h3, e3, g3, t, rfl, o3⟩ := Cuts_ok k s1 s2 E zs h2 k2 p2 q2 hE k8 k0 hO c2
      have k3 := g3.ok k2
      have p3 := p2.sub (g3.sub k2)
      have q3 := q2.sub (g3.sub k2)
      have gr3 := f18 k s1 E h3 k3 p3 (by omega)
      rw [c1] at gr3
      have pr3 := f19 s2 zs k h3 k3 q3 (by omega) (by omega)
      rw [decide_eq_true c2] at pr3
      have m3 := f21 s1 s2 k E zs h3 k3 p3 q3 k8 k0 (by omega) hO c2
      obtain ⟨w, h4, e4, g4, o4⟩ := f23 s1 s2 k E zs h3 k3 p3 q3 k8 k0 (by omega) hO c2
      have k4 := g4.ok k3
      have sm := f22 t w _ _ h4 k4 (o3.ints.sub (g4.sub k3)) o4.ints (by rw [cutsU_len]; omega) (by rw [cutsU_len]; omega)
      rw [decide_eq_true rfl] at sm
      simp (disch := first|(simp only [Nat.reduceBEq,wE];done)|((repeat' (first|assumption|exact mAx _|refine mBx ?_ ?_|exact mCx (by assumption)|refine mDx ?_|refine mEx ?_ ?_ ?_|exact mFx|refine mGx ?_ ?_ ?_|exact mHx|exact mIx _|(simp only [wM,Nat.reduceAdd,Nat.reduceLT,Nat.reduceLeDiff];done)));done)|omega|decide) only [callT e1, callT e2, callT m1, callT e3, callT gr3, callT pr3, callT m3, callT e4, callT sm, callT (f20 h4 k4), ↓wA,wB,wL,resOf,Nat.reduceBEq,Int.reduceBEq,Int.reduceBNe,Int.reduceLT,Int.reduceLE,Int.reduceAdd,Int.reduceSub,Int.reduceMul,Int.reduceToNat]
      exact ⟨_, rfl, rfl⟩
    · rw [decide_eq_false c2] at pr
      have e0 : errO k E zs = 2 := by rw [errO, if_neg (by simp [c1]), if_neg c2]
      have m1 := Measure_err k s1 s2 E zs h2 k2 p2 (by omega) q2 (by omega) (by rw [e0]; omega)
      have m2 := Cuts_err k s1 s2 E zs h2 k2 p2 (by omega) q2 (by omega) (by rw [e0]; omega)
      rw [e0] at m1 m2
      simp (disch := first|(simp only [Nat.reduceBEq,wE];done)|((repeat' (first|assumption|exact mAx _|refine mBx ?_ ?_|exact mCx (by assumption)|refine mDx ?_|refine mEx ?_ ?_ ?_|exact mFx|refine mGx ?_ ?_ ?_|exact mHx|exact mIx _|(simp only [wM,Nat.reduceAdd,Nat.reduceLT,Nat.reduceLeDiff];done)));done)|omega|decide) only [callT e1, callT e2, callT m1, callT m2, callT gr, callT pr, callT (f20 h2 k2), ↓wA,wB,wL,resOf,Nat.reduceBEq,Int.reduceBEq,Int.reduceBNe,Int.reduceLT,Int.reduceLE,Int.reduceAdd,Int.reduceSub,Int.reduceMul,Int.reduceToNat]
      exact ⟨_, rfl, rfl⟩
  · have e0 : errO n E zs = errG n E := by rw [errO, if_pos c1]
    have m1 := Measure_err n s1 s2 E zs h2 k2 p2 (by omega) q2 (by omega) (by rw [e0]; exact c1)
    have m2 := Cuts_err n s1 s2 E zs h2 k2 p2 (by omega) q2 (by omega) (by rw [e0]; exact c1)
    rw [e0] at m1 m2
    have t1 : (errG n E == 0) = false := by simpa using c1
    have t2 : (errG n E != 0) = true := by simpa using c1
    simp (disch := first|(simp only [Nat.reduceBEq,wE];done)|((repeat' (first|assumption|exact mAx _|refine mBx ?_ ?_|exact mCx (by assumption)|refine mDx ?_|refine mEx ?_ ?_ ?_|exact mFx|refine mGx ?_ ?_ ?_|exact mHx|exact mIx _|(simp only [wM,Nat.reduceAdd,Nat.reduceLT,Nat.reduceLeDiff];done)));done)|omega|decide) only [callT e1, callT e2, callT m1, callT m2, callT gr, t1, t2, callT (f20 h2 k2), ↓wA,wB,wL,resOf,Nat.reduceBEq,Int.reduceBEq,Int.reduceBNe,Int.reduceLT,Int.reduceLE,Int.reduceAdd,Int.reduceSub,Int.reduceMul,Int.reduceToNat]
    exact ⟨_, rfl, rfl⟩
end Go.Proofs.Ytihadgkgogfhcaa
