/- RouteOrders: the orders of Band, Cut and Arrange have the measures that they come with; no order has less. -/
import Derived.Test.YtihadgkgogfhcaaU1
import Derived.Test.YtihadgkgogfhcaaFRouteOrders
set_option linter.unusedSimpArgs false
set_option linter.unusedVariables false
set_option maxHeartbeats 4000000
set_option maxRecDepth 20000
namespace Go.Proofs.Ytihadgkgogfhcaa
open Go Go.Abs Go.Pa Go.Ro

theorem f6 (k0 : Int) (x1 : AV) (l1 : List (Int × Int)) (x2 : AV) (l2 : List Int) (h : Hp) (hk : Hok h) (b0 : 0 ≤ k0 ∧ k0 ≤ 255)
    (P1 : Pairs8 h.blks x1 l1) (B1 : ∀ p ∈ l1, 0 ≤ p.1 ∧ p.1 ≤ 255 ∧ 0 ≤ p.2 ∧ p.2 ≤ 255) (S1 : l1.length ≤ maxLen)
    (P2 : Ints h.blks .u8 x2 l2) (B2 : ∀ k ∈ l2, 0 ≤ k ∧ k ≤ 255) (S2 : l2.length ≤ maxLen) :
    ∃ h', Evals Try.prog tab false (.func 6) [.int .u8 k0, x1, x2] h (.bool true, h') := by
  suffices H : ∃ v h', Evals Try.prog tab false (.func 6) [.int .u8 k0, x1, x2] h (v, h') ∧ v = .bool true by
    obtain ⟨v, h', e, rfl⟩ := H
    exact ⟨h', e⟩
  refine evals_func (Q := fun v _ => v = .bool true) c6 rfl ?_
  simp only [sf6, initS_cons, initS_nil]
  obtain ⟨n, E, s1, h1, n0, n8, hO, hE, e1, g1, o1⟩ := start1 k0 8 x1 l1 h.en hk (by omega) b0 P1 B1 S1
  have k1 : Hok h1 := g1.ok hk
  have gh1 : Grown h h1 := GrownR.of_en g1
  replace e1 : Evals Try.prog tab false (.func 33) [.int .u8 k0, x1, .int .i64 8] h.en (.tu [.int .i64 n, s1], h1) := e1
  have r1 : ∀ m, h1.next ≤ m → refOK m s1 = true := fun m hm => refOK_mono hm (o1.ref k1)
  obtain ⟨v, h2, e2, g2, p, t2, xs, rfl, q2, o2⟩ := Band_ok n s1 E h1 k1 o1.pairs (r1 _ (Nat.le_refl _)) n0 n8 (by omega) hO
  have k2 := g2.ok k1
  obtain ⟨v, h3, e3, g3, q, t3, ys, rfl, q3, o3⟩ := Cut_ok n s1 E h2 k2 (o1.pairs.sub (g2.sub k1)) (r1 _ g2.next) n0 n8 (by omega) hO
  have k3 := g3.ok k2
  have gh3 := GrownR.trans g2 g3
  obtain ⟨v, h4, e4, g4, r, t4, zs, rfl, q4, o4⟩ := Arrange_ok n s1 E h3 k3 (o1.pairs.sub (gh3.sub k1)) (r1 _ gh3.next) n0 n8 (by omega) hO
  have k4 := g4.ok k3
  have gh4 := GrownR.trans gh3 g4
  have p4 := o1.pairs.sub (gh4.sub k1)
  have i2 := o2.ints.sub ((g3.sub k2).trans (g4.sub k3))
  have i3 := o3.ints.sub (g4.sub k3)
  have i4 := o4.ints
  have l2' := PermI.len q2.perm
  have l3' := PermI.len q3.perm
  have l4' := PermI.len q4.perm
  have f2 := f19 t2 xs n h4 k4 i2 (by omega) (by omega)
  have f3 := f19 t3 ys n h4 k4 i3 (by omega) (by omega)
  have f4 := f19 t4 zs n h4 k4 i4 (by omega) (by omega)
  rw [decide_eq_true q2.perm] at f2
  rw [decide_eq_true q3.perm] at f3
  rw [decide_eq_true q4.perm] at f4
  have m2 := f21 s1 t2 n E xs h4 k4 p4 i2 n8 n0 (by omega) hO q2.perm
  have m3 := f21 s1 t3 n E ys h4 k4 p4 i3 n8 n0 (by omega) hO q3.perm
  have m4 := f21 s1 t4 n E zs h4 k4 p4 i4 n8 n0 (by omega) hO q4.perm
  rw [q2.cost] at m2
  rw [q3.cost] at m3
  rw [q4.cost] at m4
  obtain ⟨o, s5, h5, hp, e5, g5, o5⟩ := start2 n x2 l2 h4 k4 n8 (P2.sub ((GrownR.trans gh1 gh4).sub hk)) B2 S2
  have k5 := g5.ok k4
  have m5 := Measure_ok n s1 s5 E o h5 k5 (p4.sub (g5.sub k4)) o5.ints (by omega) n8 n0 hO hp
  have d1 := decide_eq_true (q2.low o hp trivial)
  have d2 := decide_eq_true (q3.low o hp trivial)
  have d3 := decide_eq_true (q4.low o hp trivial)
  simp (disch := first|(simp only [Nat.reduceBEq,wE];done)|((repeat' (first|assumption|exact mAx _|refine mBx ?_ ?_|exact mCx (by assumption)|refine mDx ?_|refine mEx ?_ ?_ ?_|exact mFx|refine mGx ?_ ?_ ?_|exact mHx|exact mIx _|(simp only [wM,Nat.reduceAdd,Nat.reduceLT,Nat.reduceLeDiff];done)));done)|omega|decide) only [callT e1, callT e2, callT e3, callT e4, callT f2, callT f3, callT f4, callT (f20 h4 k4), callT m2, callT m3, callT m4, callT e5, callT m5, d1, d2, d3, ↓wA,wB,wL,resOf,Nat.reduceBEq,Int.reduceBEq,Int.reduceBNe,Int.reduceLT,Int.reduceLE,Int.reduceAdd,Int.reduceSub,Int.reduceMul,Int.reduceToNat]
  exact ⟨_, rfl, rfl⟩
end Go.Proofs.Ytihadgkgogfhcaa
