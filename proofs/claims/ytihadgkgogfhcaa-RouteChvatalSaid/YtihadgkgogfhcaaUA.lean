/- RouteChvatal: Bound is at most the result of Band. -/
import Derived.Test.YtihadgkgogfhcaaU1
import Derived.Test.YtihadgkgogfhcaaFRouteChvatal
set_option linter.unusedSimpArgs false
set_option linter.unusedVariables false
set_option maxHeartbeats 4000000
set_option maxRecDepth 20000
namespace Go.Ro
open Go.Pa
theorem bnd_le {n : Nat} {E : List (Int × Int)} {p : Int} {xs : List Int} (h2 : 2 ≤ n) (h8 : n ≤ 8) (hO : EdgeOK n E) (hd : dia E n ≠ 8) (H : Least n (cBand E) p xs) : 1 ≤ bndE E n ∧ bndE E n ≤ p := by
  have D := fw_dist hO n (Nat.le_refl _)
  have dp := dia_pos hO h2
  have db := dia_bd (E := E) (n := n)
  have near : (most E n : Int) ≤ 2 * p := by
    rcases mxN_hit (E := E) (n := n) n with e | ⟨v, hv, e⟩
    · have : 0 ≤ p := by rw [← H.cost]; exact band_nonneg
      unfold most; omega
    · have := near_le hO H.perm H.cost hv
      unfold most; omega
  obtain ⟨d, ed⟩ : ∃ d : Nat, dia E n = d := ⟨(dia E n).toNat, by omega⟩
  have far : (n : Int) - 1 ≤ d * p := bound_dist h2 hO H.perm H.cost fun a b ha hb => by
    have hle := gdAll_ge (M := fw (M1 E n) n n) (n := n) (m := n) (a := a) (b := b) ha hb
    obtain ⟨l, e, w⟩ := D.sound a b ha hb (by unfold dia at hd db; omega)
    exact ⟨l, by unfold dia at ed; omega, w⟩
  have q1 : 1 ≤ ((n : Int) - 1 + d - 1) / d := (Int.le_ediv_iff_mul_le (by omega)).2 (by omega)
  have q2 : ((n : Int) - 1 + d - 1) / d ≤ p := Int.le_of_lt_add_one ((Int.ediv_lt_iff_lt_mul (by omega)).2 (by
    rw [Int.add_mul, Int.one_mul, Int.mul_comm p]
    omega))
  unfold bndE
  rw [ed]
  omega
end Go.Ro
namespace Go.Proofs.Ytihadgkgogfhcaa
open Go Go.Abs Go.Pa Go.Ro

theorem f8 (k0 : Int) (x1 : AV) (l1 : List (Int × Int)) (h : Hp) (hk : Hok h) (b0 : 0 ≤ k0 ∧ k0 ≤ 255)
    (P1 : Pairs8 h.blks x1 l1) (B1 : ∀ p ∈ l1, 0 ≤ p.1 ∧ p.1 ≤ 255 ∧ 0 ≤ p.2 ∧ p.2 ≤ 255) (S1 : l1.length ≤ maxLen) :
    ∃ h', Evals Try.prog tab false (.func 8) [.int .u8 k0, x1] h (.bool true, h') := by
  suffices H : ∃ v h', Evals Try.prog tab false (.func 8) [.int .u8 k0, x1] h (v, h') ∧ v = .bool true by
    obtain ⟨v, h', e, rfl⟩ := H
    exact ⟨h', e⟩
  refine evals_func (Q := fun v _ => v = .bool true) c8 rfl ?_
  simp only [sf8, initS_cons, initS_nil]
  obtain ⟨n, E, s1, h1, n0, n8, hO, hE, e1, g1, o1⟩ := start1 k0 8 x1 l1 h.en hk (by omega) b0 P1 B1 S1
  have k1 : Hok h1 := g1.ok hk
  have gh1 : Grown h h1 := GrownR.of_en g1
  replace e1 : Evals Try.prog tab false (.func 33) [.int .u8 k0, x1, .int .i64 8] h.en (.tu [.int .i64 n, s1], h1) := e1
  obtain ⟨v, h2, e2, g2, p, t2, xs, rfl, q2, o2⟩ := Band_ok n s1 E h1 k1 o1.pairs (o1.ref k1) n0 n8 (by omega) hO
  have k2 := g2.ok k1
  by_cases c : n < 2 ∨ dia E n = 8
  · have b1 := Bound_none n s1 E h1 k1 o1.pairs (by omega) n0 n8 hO c
    simp (disch := first|(simp only [Nat.reduceBEq,wE];done)|((repeat' (first|assumption|exact mAx _|refine mBx ?_ ?_|exact mCx (by assumption)|refine mDx ?_|refine mEx ?_ ?_ ?_|exact mFx|refine mGx ?_ ?_ ?_|exact mHx|exact mIx _|(simp only [wM,Nat.reduceAdd,Nat.reduceLT,Nat.reduceLeDiff];done)));done)|omega|decide) only [callT e1, callT b1, callT e2, callT (f20 h2 k2), ↓wA,wB,wL,resOf,Nat.reduceBEq,Int.reduceBEq,Int.reduceBNe,Int.reduceLT,Int.reduceLE,Int.reduceAdd,Int.reduceSub,Int.reduceMul,Int.reduceToNat]
    exact ⟨_, rfl, rfl⟩
  · have c1 : 2 ≤ n := by omega
    have c2 : dia E n ≠ 8 := fun h => c (.inr h)
    have b1 := Bound_ok n s1 E h1 k1 o1.pairs (by omega) n0 n8 hO c1 c2
    obtain ⟨l1', l2'⟩ := bnd_le c1 n8 hO c2 q2
    simp (disch := first|(simp only [Nat.reduceBEq,wE];done)|((repeat' (first|assumption|exact mAx _|refine mBx ?_ ?_|exact mCx (by assumption)|refine mDx ?_|refine mEx ?_ ?_ ?_|exact mFx|refine mGx ?_ ?_ ?_|exact mHx|exact mIx _|(simp only [wM,Nat.reduceAdd,Nat.reduceLT,Nat.reduceLeDiff];done)));done)|omega|decide) only [callT e1, callT b1, callT e2, decide_eq_true l1', decide_eq_true l2', callT (f20 h2 k2), ↓wA,wB,wL,resOf,Nat.reduceBEq,Int.reduceBEq,Int.reduceBNe,Int.reduceLT,Int.reduceLE,Int.reduceAdd,Int.reduceSub,Int.reduceMul,Int.reduceToNat]
    exact ⟨_, rfl, rfl⟩
end Go.Proofs.Ytihadgkgogfhcaa
