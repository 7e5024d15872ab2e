/- RouteBetween: how the three least measures lie to each other, and to the numbers of vertices and edges. -/
import Derived.Test.YtihadgkgogfhcaaU1
import Derived.Test.YtihadgkgogfhcaaFRouteBetween
set_option linter.unusedSimpArgs false
set_option linter.unusedVariables false
set_option maxHeartbeats 4000000
set_option maxRecDepth 20000
namespace Go.Proofs.Ytihadgkgogfhcaa
open Go Go.Abs Go.Pa Go.Ro

theorem f9 (k0 : Int) (x1 : AV) (l1 : List (Int × Int)) (h : Hp) (hk : Hok h) (b0 : 0 ≤ k0 ∧ k0 ≤ 255)
    (P1 : Pairs8 h.blks x1 l1) (B1 : ∀ p ∈ l1, 0 ≤ p.1 ∧ p.1 ≤ 255 ∧ 0 ≤ p.2 ∧ p.2 ≤ 255) (S1 : l1.length ≤ maxLen) :
    ∃ h', Evals Try.prog tab false (.func 9) [.int .u8 k0, x1] h (.bool true, h') := by
  suffices H : ∃ v h', Evals Try.prog tab false (.func 9) [.int .u8 k0, x1] h (v, h') ∧ v = .bool true by
    obtain ⟨v, h', e, rfl⟩ := H
    exact ⟨h', e⟩
  refine evals_func (Q := fun v _ => v = .bool true) c9 rfl ?_
  simp only [sf9, initS_cons, initS_nil]
  obtain ⟨n, E, s1, h1, n0, n8, hO, hE, e1, g1, o1⟩ := start1 k0 8 x1 l1 h.en hk (by omega) b0 P1 B1 S1
  have k1 : Hok h1 := g1.ok hk
  have gh1 : Grown h h1 := GrownR.of_en g1
  replace e1 : Evals Try.prog tab false (.func 33) [.int .u8 k0, x1, .int .i64 8] h.en (.tu [.int .i64 n, s1], h1) := e1
  obtain ⟨v, h2, e2, g2, t, p, q, r, xs, ys, zs, rfl, q1, q2, q3, o2⟩ := f35 n s1 E h1 k1 o1.pairs (o1.ref k1) n0 n8 (by omega) hO
  have k2 := g2.ok k1
  have p2 := o1.pairs.sub (g2.sub k1)
  have it := o2.ints
  have ix : ∀ (i : Nat) (h' : Hp), i < 3 → sIxS 1 h' (some i) t = some (cellAt t i, h') := fun i h' hi => it.ix h' (by simpa using hi)
  have ld0 : cellV h2.blks t 0 0 = some (.int .i64 p) := it.ld (Sub.refl _) (i := 0) (by simp)
  have ld1 : cellV h2.blks t 1 0 = some (.int .i64 q) := it.ld (Sub.refl _) (i := 1) (by simp)
  have ld2 : cellV h2.blks t 2 0 = some (.int .i64 r) := it.ld (Sub.refl _) (i := 2) (by simp)
  have j2 : idx? (.int .i64 2) = some 2 := rfl
  have c1 : p ≤ (n : Int) - 1 := by rw [← q1.cost]; exact band_lt q1.perm hO n0
  have c2 : q ≤ E.length := by rw [← q2.cost]; exact width_le
  have c0 : 0 ≤ q := by rw [← q2.cost]; exact mxL_nonneg
  have c3 : r ≤ ((n : Int) - 1) * q := by
    have := total_width q2.perm hO n8 n0
    have h2 := q3.low ys q2.perm trivial
    rw [show width (pos ys) E = q from q2.cost] at this
    unfold cSum at h2
    omega
  have c4 : (E.length : Int) ≤ r := by rw [← q3.cost]; exact total_ge q3.perm hO
  have m1 : 0 ≤ ((n : Int) - 1) * q := Int.mul_nonneg (by omega) c0
  have m2 : ((n : Int) - 1) * q ≤ 7 * 20 := Int.mul_le_mul (by omega) (by omega) c0 (by omega)
  have w : IntKind.wrap .i64 (((n : Int) - 1) * q) = ((n : Int) - 1) * q := wrap_i64 (by omega) (by omega)
  simp (disch := first|(simp only [Nat.reduceBEq,wE];done)|((repeat' (first|assumption|exact mAx _|refine mBx ?_ ?_|exact mCx (by assumption)|refine mDx ?_|refine mEx ?_ ?_ ?_|exact mFx|refine mGx ?_ ?_ ?_|exact mHx|exact mIx _|(simp only [wM,Nat.reduceAdd,Nat.reduceLT,Nat.reduceLeDiff];done)));done)|omega|decide) only [callT e1, callT e2, ix, idx?_lit0, idx?_lit1, j2, ld0, ld1, ld2, decide_eq_true c1, p2.len, decide_eq_true c2, w, decide_eq_true c3, decide_eq_true c4, callT (f20 h2 k2), ↓wA,wB,wL,resOf,Nat.reduceBEq,Int.reduceBEq,Int.reduceBNe,Int.reduceLT,Int.reduceLE,Int.reduceAdd,Int.reduceSub,Int.reduceMul,Int.reduceToNat]
  exact ⟨_, rfl, rfl⟩
end Go.Proofs.Ytihadgkgogfhcaa
