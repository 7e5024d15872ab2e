/- RouteMore: with a further edge none of the three least measures is less. -/
import Derived.Test.YtihadgkgogfhcaaU1
import Derived.Test.YtihadgkgogfhcaaFRouteMore
set_option linter.unusedSimpArgs false
set_option linter.unusedVariables false
set_option maxHeartbeats 4000000
set_option maxRecDepth 20000
namespace Go.Proofs.Ytihadgkgogfhcaa
open Go Go.Abs Go.Pa Go.Ro

theorem f11 (k0 : Int) (x1 : AV) (l1 : List (Int × Int)) (y0 y1 : Int) (h : Hp) (hk : Hok h) (b0 : 0 ≤ k0 ∧ k0 ≤ 255)
    (P1 : Pairs8 h.blks x1 l1) (B1 : ∀ p ∈ l1, 0 ≤ p.1 ∧ p.1 ≤ 255 ∧ 0 ≤ p.2 ∧ p.2 ≤ 255) (S1 : l1.length ≤ maxLen) (b2a : 0 ≤ y0 ∧ y0 ≤ 255) (b2b : 0 ≤ y1 ∧ y1 ≤ 255) :
    ∃ h', Evals Try.prog tab false (.func 11) [.int .u8 k0, x1, .ag [.int .u8 y0, .int .u8 y1]] h (.bool true, h') := by
  suffices H : ∃ v h', Evals Try.prog tab false (.func 11) [.int .u8 k0, x1, .ag [.int .u8 y0, .int .u8 y1]] h (v, h') ∧ v = .bool true by
    obtain ⟨v, h', e, rfl⟩ := H
    exact ⟨h', e⟩
  refine evals_func (Q := fun v _ => v = .bool true) c11 rfl ?_
  simp only [sf11, initS_cons, initS_nil]
  have g0 : Grown h (h.en.pu [.int .u8 y0, .int .u8 y1]) := Grown.pu Grown.en rfl
  have k0' := g0.ok hk
  have bx : Box (h.en.pu [.int .u8 y0, .int .u8 y1]).blks h.next [.int .u8 y0, .int .u8 y1] := Box.top
  obtain ⟨n, E, s1, h1, n0, n8, hO, hE, e1, g1, o1⟩ := start1 k0 7 x1 l1 _ k0' (by omega) b0 (P1.sub (g0.sub hk)) B1 S1
  have k1 : Hok h1 := g1.ok k0'
  replace e1 : Evals Try.prog tab false (.func 33) [.int .u8 k0, x1, .int .i64 7] (h.en.pu [.int .u8 y0, .int .u8 y1]) (.tu [.int .i64 n, s1], h1) := e1
  have b1 := bx.sub (g1.sub k0')
  by_cases c : n < 2
  · have ct : decide ((n : Int) < 2) = true := decide_eq_true (by omega)
    simp (disch := first|(simp only [Nat.reduceBEq,wE];done)|((repeat' (first|assumption|exact mAx _|refine mBx ?_ ?_|exact mCx (by assumption)|refine mDx ?_|refine mEx ?_ ?_ ?_|exact mFx|refine mGx ?_ ?_ ?_|exact mHx|exact mIx _|(simp only [wM,Nat.reduceAdd,Nat.reduceLT,Nat.reduceLeDiff];done)));done)|omega|decide) only [callT e1, ct, callT (f20 h1 k1), ↓wA,wB,wL,resOf,Nat.reduceBEq,Int.reduceBEq,Int.reduceBNe,Int.reduceLT,Int.reduceLE,Int.reduceAdd,Int.reduceSub,Int.reduceMul,Int.reduceToNat]
    exact ⟨_, rfl, rfl⟩
  · have ct : decide ((n : Int) < 2) = false := decide_eq_false (by omega)
    have w0 : IntKind.wrap .i64 y0 = y0 := wrap_i64 (by omega) (by omega)
    have w1 : IntKind.wrap .i64 y1 = y1 := wrap_i64 (by omega) (by omega)
    have m1 : 0 ≤ y0 % (n : Int) ∧ y0 % (n : Int) < n := ⟨Int.emod_nonneg _ (by omega), Int.emod_lt_of_pos _ (by omega)⟩
    have m2 : 0 ≤ y1 % ((n : Int) - 1) ∧ y1 % ((n : Int) - 1) < (n : Int) - 1 := ⟨Int.emod_nonneg _ (by omega), Int.emod_lt_of_pos _ (by omega)⟩
    have r1 : ∀ c, sBin .rem c (.int .i64 y0) (.int .i64 n) = some (.int .i64 (y0 % n)) := fun c => sBin_rem b2a.1 (by omega)
    have r2 : ∀ c, sBin .rem c (.int .i64 y1) (.int .i64 ((n : Int) - 1)) = some (.int .i64 (y1 % ((n : Int) - 1))) := fun c => sBin_rem b2b.1 (by omega)
    have r3 : ∀ c, sBin .rem c (.int .i64 (y0 % n + 1 + y1 % ((n : Int) - 1))) (.int .i64 n) = some (.int .i64 ((y0 % n + 1 + y1 % ((n : Int) - 1)) % n)) := fun c => sBin_rem (by omega) (by omega)
    obtain ⟨e, ee⟩ : ∃ e : Int × Int, e = (y0 % (n : Int), (y0 % (n : Int) + 1 + y1 % ((n : Int) - 1)) % (n : Int)) := ⟨_, rfl⟩
    have he : (0 ≤ e.1 ∧ e.1 < n) ∧ (0 ≤ e.2 ∧ e.2 < n) ∧ e.1 ≠ e.2 := by
      have := mdE_ok (k := n) (by omega) (by omega) (y0, y1) ⟨b2a.1, b2b.1⟩
      rw [ee]
      exact this
    have hO' : EdgeOK n (E ++ [e]) := fun x hx => by
      rcases List.mem_append.1 hx with hx | hx
      · exact hO x hx
      · rw [List.mem_singleton.1 hx]; exact he
    have O : OwnP h1.next (h1.pu []).blks (.sl h1.next 0 0 (some 0) 2) [] := OwnP.fresh (Nat.le_refl _) rfl rfl rfl (Nat.le_refl _)
    obtain ⟨s2, h2, a2, o2, g2, _⟩ := own_appP (h0 := h1) (h := h1.pu []) k1 (Grown.pu Grown.refl rfl) O (o1.pairs.sub (Sub.pu k1)) (by simp; omega)
    rw [List.nil_append] at o2
    obtain ⟨s3, h3, a3, o3, g3, _⟩ := own_appP1 (a := e.1) (b := e.2) k1 g2 o2 (by omega)
    have k3 := g3.ok k1
    have b2 := b1.sub (g2.sub k1)
    have b3 := b1.sub (g3.sub k1)
    have bd : sBuild [AV.int .i64 0, .int .i64 0] [(0, 1), (1, 1)] [(0, .int .i64 (y0 % n)), (1, .int .i64 ((y0 % n + 1 + y1 % ((n : Int) - 1)) % n))] = some (.ag [.int .i64 e.1, .int .i64 e.2]) := by rw [ee]; rfl
    obtain ⟨v, h4, e4, g4, t, p, q, r, xs, ys, zs, rfl, q1, q2, q3, o4⟩ := f35 n s1 E h3 k3 (o1.pairs.sub (g3.sub k1)) (refOK_mono g3.next (o1.ref k1)) n0 (by omega) (by omega) hO
    have k4 := g4.ok k3
    have lE : (E ++ [e]).length ≤ 30 := by simp; omega
    obtain ⟨v, h5, e5, g5, t', p', q', r', xs', ys', zs', rfl, q1', q2', q3', o5⟩ := f35 n s3 (E ++ [e]) h4 k4 (o3.pairs.sub (g4.sub k3)) (refOK_mono g4.next (o3.ref k3)) n0 (by omega) lE hO'
    have k5 := g5.ok k4
    have it := o4.ints.sub (g5.sub k4)
    have it' := o5.ints
    have ix : ∀ (i : Nat) (h' : Hp), i < 3 → sIxS 1 h' (some i) t = some (cellAt t i, h') := fun i h' hi => it.ix h' (by simpa using hi)
    have ld0 : cellV h5.blks t 0 0 = some (.int .i64 p) := it.ld (Sub.refl _) (i := 0) (by simp)
    have ld1 : cellV h5.blks t 1 0 = some (.int .i64 q) := it.ld (Sub.refl _) (i := 1) (by simp)
    have ld2 : cellV h5.blks t 2 0 = some (.int .i64 r) := it.ld (Sub.refl _) (i := 2) (by simp)
    have ix' : ∀ (i : Nat) (h' : Hp), i < 3 → sIxS 1 h' (some i) t' = some (cellAt t' i, h') := fun i h' hi => it'.ix h' (by simpa using hi)
    have ld0' : cellV h5.blks t' 0 0 = some (.int .i64 p') := it'.ld (Sub.refl _) (i := 0) (by simp)
    have ld1' : cellV h5.blks t' 1 0 = some (.int .i64 q') := it'.ld (Sub.refl _) (i := 1) (by simp)
    have ld2' : cellV h5.blks t' 2 0 = some (.int .i64 r') := it'.ld (Sub.refl _) (i := 2) (by simp)
    have j2 : idx? (.int .i64 2) = some 2 := rfl
    have d1 := decide_eq_true (more_band q1 q1')
    have d2 := decide_eq_true (more_width q2 q2')
    have d3 := decide_eq_true (more_total hO' q3 q3')
    simp (disch := first|(simp only [Nat.reduceBEq,wE];done)|((repeat' (first|assumption|exact mAx _|refine mBx ?_ ?_|exact mCx (by assumption)|refine mDx ?_|refine mEx ?_ ?_ ?_|exact mFx|refine mGx ?_ ?_ ?_|exact mHx|exact mIx _|(simp only [wM,Nat.reduceAdd,Nat.reduceLT,Nat.reduceLeDiff];done)));done)|omega|decide) only [callT e1, ct, sIxA_ptr, idx?_lit0, idx?_lit1, Nat.add_zero, b1.ld, b2.ld, b3.ld, w0, w1, r1, r2, r3, a2, bd, a3, callT e4, callT e5, ix, ix', j2, ld0, ld1, ld2, ld0', ld1', ld2', d1, d2, d3, callT (f20 h5 k5), ↓wA,wB,wL,resOf,Nat.reduceBEq,Int.reduceBEq,Int.reduceBNe,Int.reduceLT,Int.reduceLE,Int.reduceAdd,Int.reduceSub,Int.reduceMul,Int.reduceToNat]
    exact ⟨_, rfl, rfl⟩
end Go.Proofs.Ytihadgkgogfhcaa
