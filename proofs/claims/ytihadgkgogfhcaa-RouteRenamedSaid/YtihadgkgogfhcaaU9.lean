/- RouteRenamed: renaming the vertices changes none of the three least measures. -/
import Derived.Test.YtihadgkgogfhcaaU1
import Derived.Test.YtihadgkgogfhcaaFRouteRenamed
set_option linter.unusedSimpArgs false
set_option linter.unusedVariables false
set_option maxHeartbeats 4000000
set_option maxRecDepth 20000
namespace Go.Proofs.Ytihadgkgogfhcaa
open Go Go.Abs Go.Pa Go.Ro

theorem f13 (k0 : Int) (x1 : AV) (l1 : List (Int × Int)) (x2 : AV) (l2 : List Int) (h : Hp) (hk : Hok h) (b0 : 0 ≤ k0 ∧ k0 ≤ 255)
    (P1 : Pairs8 h.blks x1 l1) (B1 : ∀ p ∈ l1, 0 ≤ p.1 ∧ p.1 ≤ 255 ∧ 0 ≤ p.2 ∧ p.2 ≤ 255) (S1 : l1.length ≤ maxLen)
    (P2 : Ints h.blks .u8 x2 l2) (B2 : ∀ k ∈ l2, 0 ≤ k ∧ k ≤ 255) (S2 : l2.length ≤ maxLen) :
    ∃ h', Evals Try.prog tab false (.func 13) [.int .u8 k0, x1, x2] h (.bool true, h') := by
  suffices H : ∃ v h', Evals Try.prog tab false (.func 13) [.int .u8 k0, x1, x2] h (v, h') ∧ v = .bool true by
    obtain ⟨v, h', e, rfl⟩ := H
    exact ⟨h', e⟩
  refine evals_func (Q := fun v _ => v = .bool true) c13 rfl ?_
  simp only [sf13, initS_cons, initS_nil]
  obtain ⟨n, E, s1, h1, n0, n8, hO, hE, e1, g1, o1⟩ := start1 k0 7 x1 l1 h.en hk (by omega) b0 P1 B1 S1
  have k1 : Hok h1 := g1.ok hk
  have gh1 : Grown h h1 := GrownR.of_en g1
  replace e1 : Evals Try.prog tab false (.func 33) [.int .u8 k0, x1, .int .i64 7] h.en (.tu [.int .i64 n, s1], h1) := e1
  obtain ⟨o, s2, h2, hp, e2, g2, o2⟩ := start2 n x2 l2 h1 k1 (by omega) (P2.sub (gh1.sub hk)) B2 S2
  have k2 := g2.ok k1
  have p2 := o1.pairs.sub (g2.sub k1)
  have gh2 := GrownR.trans gh1 g2
  have hl := PermI.len hp
  have O : OwnP h2.next (h2.pu []).blks (.sl h2.next 0 0 (some 0) 2) [] := OwnP.fresh (Nat.le_refl _) rfl rfl rfl (Nat.le_refl _)
  simp (disch := first|(simp only [Nat.reduceBEq,wE];done)|((repeat' (first|assumption|exact mAx _|refine mBx ?_ ?_|exact mCx (by assumption)|refine mDx ?_|refine mEx ?_ ?_ ?_|exact mFx|refine mGx ?_ ?_ ?_|exact mHx|exact mIx _|(simp only [wM,Nat.reduceAdd,Nat.reduceLT,Nat.reduceLeDiff];done)));done)|omega|decide) only [callT e1, callT e2, p2.len, ↓wA,wB,wL,resOf,Nat.reduceBEq,Int.reduceBEq,Int.reduceBNe,Int.reduceLT,Int.reduceLE,Int.reduceAdd,Int.reduceSub,Int.reduceMul,Int.reduceToNat]
  refine wloop (fun mm ss => ∃ (i : Nat) (s : AV) (h3 : Hp) (j : Int) (u0 u1 u2 u6 u12 u13 u14 u15 u30 : AV), (mm = E.length - i) ∧ (j = (E.length : Int) - 1 - i ∧ i ≤ E.length ∧ Grown h2 h3 ∧ OwnP h2.next h3.blks s ((nameE (nm o) E).take i)) ∧ ss = { fr := [(0, u0), (1, u1), (2, u2), (6, u6), (7, .int .i64 n), (8, s1), (9, s2), (10, s), (11, .int .i64 j), (12, u12), (13, u13), (14, u14), (15, u15), (30, u30)], hp := h3 }) (E.length) ?_ ?_
  ·
    refine ⟨0, _, _, _, _, _, _, _, _, _, _, _, _, by omega, ⟨by omega, by omega, Grown.pu Grown.refl rfl, by simpa using O⟩, rfl⟩
  rintro nA sA ⟨i, s, h3, j, u0, u1, u2, u6, u12, u13, u14, u15, u30, hnA, ⟨hj, hi, g3, o3⟩, rfl⟩
  subst hj
  have k3 := g3.ok k2
  have p3 := p2.sub (g3.sub k2)
  have q3 := o2.ints.sub (g3.sub k2)
  have ln : (nameE (nm o) E).length = E.length := by simp [nameE]
  by_cases e : i < E.length
  · have et : decide ((0 : Int) ≤ (E.length : Int) - 1 - i) = true := decide_eq_true (by omega)
    have ei : (E.length : Int) - 1 - i = ((E.length - 1 - i : Nat) : Int) := by omega
    have en : (E.length : Int) - 1 - i - 1 = (E.length : Int) - 1 - (i + 1 : Nat) := by omega
    have ix : idx? (.int .i64 ((E.length : Int) - 1 - i)) = some (E.length - 1 - i) := by rw [ei]; exact idx?_nat
    have hm : E.length - 1 - i < E.length := by omega
    obtain ⟨x, y, exy, hx, hy⟩ := hO.nat hm
    have e1' : (E.getD (E.length - 1 - i) (0, 0)).1 = (x : Int) := by rw [exy]
    have e2' : (E.getD (E.length - 1 - i) (0, 0)).2 = (y : Int) := by rw [exy]
    have xx := fun h' : Hp => q3.ix h' (i := x) (by omega)
    have xy := fun h' : Hp => q3.ix h' (i := y) (by omega)
    have lx := q3.ld (Sub.refl _) (i := x) (by omega)
    have ly := q3.ld (Sub.refl _) (i := y) (by omega)
    have px := fun h' : Hp => p3.ix h' hm
    have pf : ∀ j, sFa j (cellAt s1 (E.length - 1 - i)) = some (cellF s1 (E.length - 1 - i) j) := fun j => p3.fa hm
    have l0 := p3.ld0 (Sub.refl _) hm
    have l1 := p3.ld1 (Sub.refl _) hm
    rw [e1'] at l0
    rw [e2'] at l1
    obtain ⟨s5, h5, y1, y2, y3, y4⟩ := own_appP1 (a := o.getD y 0) (b := o.getD x 0) k2 g3 o3 (by simp; omega)
    simp (disch := first|(simp only [Nat.reduceBEq,wE];done)|((repeat' (first|assumption|exact mAx _|refine mBx ?_ ?_|exact mCx (by assumption)|refine mDx ?_|refine mEx ?_ ?_ ?_|exact mFx|refine mGx ?_ ?_ ?_|exact mHx|exact mIx _|(simp only [wM,Nat.reduceAdd,Nat.reduceLT,Nat.reduceLeDiff];done)));done)|omega|decide) only [et, ix, px, pf, l0, l1, xx, xy, lx, ly, y1, en, ↓wA,wB,wL,resOf,Nat.reduceBEq,Int.reduceBEq,Int.reduceBNe,Int.reduceLT,Int.reduceLE,Int.reduceAdd,Int.reduceSub,Int.reduceMul,Int.reduceToNat]
    refine ⟨_, ?_, i + 1, s5, h5, _, _, _, _, _, _, _, _, _, _, rfl, ?_, rfl⟩
    · omega
    refine ⟨rfl, by omega, y3, ?_⟩
    have : (nameE (nm o) E).take (i + 1) = (nameE (nm o) E).take i ++ [(o.getD y 0, o.getD x 0)] := by
      rw [List.take_succ_eq_append_getElem (by rw [ln]; exact e)]
      congr 2
      simp only [nameE, List.getElem_reverse, List.getElem_map, List.length_map]
      have : E[E.length - 1 - i]'hm = ((x : Int), (y : Int)) := by
        rw [← exy]
        simp [List.getD_eq_getElem?_getD, List.getElem?_eq_getElem hm]
      rw [this]
      rfl
    rw [this]
    exact y2
  · have et : decide ((0 : Int) ≤ (E.length : Int) - 1 - i) = false := decide_eq_false (by omega)
    rw [List.take_of_length_le (by rw [ln]; omega)] at o3
    obtain ⟨v, h4, e4, g4, t, p, q, r, xs, ys, zs, rfl, w1, w2, w3, o4⟩ := f35 n s1 E h3 k3 p3 (refOK_mono g3.next (refOK_mono g2.next (o1.ref k1))) n0 (by omega) (by omega) hO
    have k4 := g4.ok k3
    obtain ⟨v, h5, e5, g5, t', p', q', r', xs', ys', zs', rfl, w1', w2', w3', o5⟩ := f35 n s (nameE (nm o) E) h4 k4 (o3.pairs.sub (g4.sub k3)) (refOK_mono g4.next (o3.ref k3)) n0 (by omega) (by omega) (nameE_ok hp hO)
    have k5 := g5.ok k4
    have sm := f22 t t' _ _ h5 k5 (o4.ints.sub (g5.sub k4)) o5.ints (by show 3 < 2 ^ 62; omega) (by show 3 < 2 ^ 62; omega)
    have z1 := name_band hp hO w1 w1'
    have z2 := name_width hp hO w2 w2'
    have z3 := name_total hp hO w3 w3'
    rw [decide_eq_true (by rw [z1, z2, z3])] at sm
    simp (disch := first|(simp only [Nat.reduceBEq,wE];done)|((repeat' (first|assumption|exact mAx _|refine mBx ?_ ?_|exact mCx (by assumption)|refine mDx ?_|refine mEx ?_ ?_ ?_|exact mFx|refine mGx ?_ ?_ ?_|exact mHx|exact mIx _|(simp only [wM,Nat.reduceAdd,Nat.reduceLT,Nat.reduceLeDiff];done)));done)|omega|decide) only [et, callT e4, callT e5, callT sm, callT (f20 h5 k5), ↓wA,wB,wL,resOf,Nat.reduceBEq,Int.reduceBEq,Int.reduceBNe,Int.reduceLT,Int.reduceLE,Int.reduceAdd,Int.reduceSub,Int.reduceMul,Int.reduceToNat]
    exact ⟨_, rfl, rfl⟩
end Go.Proofs.Ytihadgkgogfhcaa
