/- RouteReversed: an order and its reverse have the same measures, and the cuts of the one are those of the other one, reversed. -/
import Derived.Test.YtihadgkgogfhcaaU1
import Derived.Test.YtihadgkgogfhcaaFRouteReversed
set_option linter.unusedSimpArgs false
set_option linter.unusedVariables false
set_option maxHeartbeats 4000000
set_option maxRecDepth 20000
namespace Go.Proofs.Ytihadgkgogfhcaa
open Go Go.Abs Go.Pa Go.Ro

theorem f12 (k0 : Int) (x1 : AV) (l1 : List (Int × Int)) (x2 : AV) (l2 : List Int) (h : Hp) (hk : Hok h) (b0 : 0 ≤ k0 ∧ k0 ≤ 255)
    (P1 : Pairs8 h.blks x1 l1) (B1 : ∀ p ∈ l1, 0 ≤ p.1 ∧ p.1 ≤ 255 ∧ 0 ≤ p.2 ∧ p.2 ≤ 255) (S1 : l1.length ≤ maxLen)
    (P2 : Ints h.blks .u8 x2 l2) (B2 : ∀ k ∈ l2, 0 ≤ k ∧ k ≤ 255) (S2 : l2.length ≤ maxLen) :
    ∃ h', Evals Try.prog tab false (.func 12) [.int .u8 k0, x1, x2] h (.bool true, h') := by
  suffices H : ∃ v h', Evals Try.prog tab false (.func 12) [.int .u8 k0, x1, x2] h (v, h') ∧ v = .bool true by
    obtain ⟨v, h', e, rfl⟩ := H
    exact ⟨h', e⟩
  refine evals_func (Q := fun v _ => v = .bool true) c12 rfl ?_
  simp only [sf12, initS_cons, initS_nil]
  obtain ⟨n, E, s1, h1, n0, n8, hO, hE, e1, g1, o1⟩ := start1 k0 8 x1 l1 h.en hk (by omega) b0 P1 B1 S1
  have k1 : Hok h1 := g1.ok hk
  have gh1 : Grown h h1 := GrownR.of_en g1
  replace e1 : Evals Try.prog tab false (.func 33) [.int .u8 k0, x1, .int .i64 8] h.en (.tu [.int .i64 n, s1], h1) := e1
  obtain ⟨o, s2, h2, hp, e2, g2, o2⟩ := start2 n x2 l2 h1 k1 (by omega) (P2.sub (gh1.sub hk)) B2 S2
  have k2 := g2.ok k1
  have p2 := o1.pairs.sub (g2.sub k1)
  have hl := PermI.len hp
  obtain ⟨v, h3, e3, g3, t, rfl, o3⟩ := Reverse_ok s2 o h2 k2 o2.ints (by omega) (by omega) (by rw [hl]; exact hp)
  have k3 := g3.ok k2
  have p3 := p2.sub (g3.sub k2)
  have q3 := o2.ints.sub (g3.sub k2)
  have hr := perm_rev hp
  have m1 := Measure_ok n s1 s2 E o h3 k3 p3 q3 (by omega) n8 n0 hO hp
  have m2 := Measure_ok n s1 t E o.reverse h3 k3 p3 o3.ints (by omega) n8 n0 hO hr
  rw [show cBand E o.reverse = cBand E o from band_rev hp hO, show cCut E o.reverse = cCut E o from width_rev hp hO n8, show cSum E o.reverse = cSum E o from total_rev hp hO] at m2
  obtain ⟨v, h4, e4, g4, c, rfl, o4⟩ := Cuts_ok n s1 s2 E o h3 k3 p3 q3 (by omega) n8 n0 hO hp
  have k4 := g4.ok k3
  obtain ⟨v, h5, e5, g5, d, rfl, o5⟩ := Cuts_ok n s1 t E o.reverse h4 k4 (p3.sub (g4.sub k3)) (o3.ints.sub (g4.sub k3)) (by omega) n8 n0 hO hr
  have k5 := g5.ok k4
  obtain ⟨w, h6, e6, g6, o6⟩ := f31 d _ h5 k5 o5.ints (by rw [cutsU_len]; omega)
  have k6 := g6.ok k5
  have sm := f22 c w _ _ h6 k6 ((o4.ints.sub (g5.sub k4)).sub (g6.sub k5)) o6.ints (by rw [cutsU_len]; omega) (by rw [List.length_reverse, cutsU_len]; omega)
  rw [decide_eq_true (cuts_rev hp hO)] at sm
  simp (disch := first|(simp only [Nat.reduceBEq,wE];done)|((repeat' (first|assumption|exact mAx _|refine mBx ?_ ?_|exact mCx (by assumption)|refine mDx ?_|refine mEx ?_ ?_ ?_|exact mFx|refine mGx ?_ ?_ ?_|exact mHx|exact mIx _|(simp only [wM,Nat.reduceAdd,Nat.reduceLT,Nat.reduceLeDiff];done)));done)|omega|decide) only [callT e1, callT e2, callT e3, callT m1, callT m2, callT e4, callT e5, callT e6, callT sm, callT (f20 h6 k6), ↓wA,wB,wL,resOf,Nat.reduceBEq,Int.reduceBEq,Int.reduceBNe,Int.reduceLT,Int.reduceLE,Int.reduceAdd,Int.reduceSub,Int.reduceMul,Int.reduceToNat]
  exact ⟨_, rfl, rfl⟩
end Go.Proofs.Ytihadgkgogfhcaa
