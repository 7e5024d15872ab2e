/- The document's examples hold. -/
import Derived.Test.YtihadgkgogfhcaaQD
import Derived.Test.YtihadgkgogfhcaaRF
set_option linter.unusedSimpArgs false
set_option linter.unusedVariables false
set_option maxHeartbeats 4000000
set_option maxRecDepth 20000
namespace Go.Abs
theorem sBS_p3 {h : Hp} {a b c d e f : Int} : sBS [.int .i64 0, .int .i64 0] 3 2 h [(0, .ag [.int .i64 a, .int .i64 b]), (1, .ag [.int .i64 c, .int .i64 d]), (2, .ag [.int .i64 e, .int .i64 f])] =
    some (.sl h.next 0 3 (some 3) 2, h.pu (pairs [(a, b), (c, d), (e, f)])) := (Eq.refl _).trans rfl
theorem sBS_p4 {h : Hp} {a b c d e f i j : Int} : sBS [.int .i64 0, .int .i64 0] 4 2 h [(0, .ag [.int .i64 a, .int .i64 b]), (1, .ag [.int .i64 c, .int .i64 d]), (2, .ag [.int .i64 e, .int .i64 f]), (3, .ag [.int .i64 i, .int .i64 j])] =
    some (.sl h.next 0 4 (some 4) 2, h.pu (pairs [(a, b), (c, d), (e, f), (i, j)])) := (Eq.refl _).trans rfl
theorem sBS_i4 {h : Hp} {a b c d : Int} : sBS [.int .i64 0] 4 1 h [(0, .int .i64 a), (1, .int .i64 b), (2, .int .i64 c), (3, .int .i64 d)] =
    some (.sl h.next 0 4 (some 4) 1, h.pu (ints .i64 [a, b, c, d])) := (Eq.refl _).trans rfl
theorem sBS_i3 {h : Hp} {a b c : Int} : sBS [.int .i64 0] 3 1 h [(0, .int .i64 a), (1, .int .i64 b), (2, .int .i64 c)] =
    some (.sl h.next 0 3 (some 3) 1, h.pu (ints .i64 [a, b, c])) := (Eq.refl _).trans rfl
end Go.Abs
namespace Go.Proofs.Ytihadgkgogfhcaa
open Go Go.Abs Go.Pa Go.Ro

theorem f20 (h : Hp) (hk : Hok h) : Evals Try.prog tab false (.func 20) [] h (.bool true, h) := by
  refine evals_pure c20 rfl hk ?_
  simp only [sf20, initS_cons, initS_nil]
  obtain ⟨h1, eh1⟩ : ∃ h1, h1 = h.en.pu (pairs star) := ⟨_, rfl⟩
  have n1 : h1.next = h.next + 1 := by rw [eh1]
  have g1 : Grown h h1 := by rw [eh1]; exact Grown.pu Grown.en refsOK_pairs
  have k1 := g1.ok hk
  have p1 : Pairs h1.blks (.sl h.next 0 3 (some 3) 2) star := by rw [eh1]; exact Pairs.top (w := true) rfl (Nat.le_refl 3)
  have b1 : sBS [.int .i64 0, .int .i64 0] 3 2 h.en [(0, .ag [.int .i64 0, .int .i64 1]), (1, .ag [.int .i64 0, .int .i64 2]), (2, .ag [.int .i64 0, .int .i64 3])] = some (.sl h.next 0 3 (some 3) 2, h1) := by rw [eh1]; exact sBS_p3
  have rf : ∀ m, h.next < m → refOK m (.sl h.next 0 3 (some 3) 2) = true := fun m hm => by simpa [refOK, Nat.blt_eq] using hm
  obtain ⟨v, h2, e2, g2, val, t2, zs, rfl, q2, o2⟩ := Band_ok 4 _ star h1 k1 p1 (rf _ (by omega)) (by omega) (by omega) (by decide) star_ok
  obtain ⟨rfl, rfl⟩ := q2.unique star_band
  have gh2 := GrownR.trans g1 g2
  have k2 := g2.ok k1
  obtain ⟨v, h3, e3, g3, val, t3, zs, rfl, q3, o3⟩ := Cut_ok 4 _ star h2 k2 (p1.sub (g2.sub k1)) (rf _ (by have := g2.next; omega)) (by omega) (by omega) (by decide) star_ok
  obtain ⟨rfl, rfl⟩ := q3.unique star_cut
  have gh3 := GrownR.trans gh2 g3
  have k3 := g3.ok k2
  obtain ⟨v, h4, e4, g4, val, t4, zs, rfl, q4, o4⟩ := Arrange_ok 4 _ star h3 k3 ((p1.sub (g2.sub k1)).sub (g3.sub k2)) (rf _ (by have := g2.next; have := g3.next; omega)) (by omega) (by omega) (by decide) star_ok
  obtain ⟨rfl, rfl⟩ := q4.unique star_sum
  have gh4 := GrownR.trans gh3 g4
  have k4 := g4.ok k3
  obtain ⟨h5, eh5⟩ : ∃ h5, h5 = h4.pu (pairs ring) := ⟨_, rfl⟩
  have g5 : Grown h4 h5 := by rw [eh5]; exact Grown.pu Grown.refl refsOK_pairs
  have k5 := g5.ok k4
  have p5 : Pairs h5.blks (.sl h4.next 0 4 (some 4) 2) ring := by rw [eh5]; exact Pairs.top (w := true) rfl (Nat.le_refl 4)
  have b5 : sBS [.int .i64 0, .int .i64 0] 4 2 h4 [(0, .ag [.int .i64 0, .int .i64 1]), (1, .ag [.int .i64 1, .int .i64 2]), (2, .ag [.int .i64 2, .int .i64 3]), (3, .ag [.int .i64 3, .int .i64 0])] = some (.sl h4.next 0 4 (some 4) 2, h5) := by rw [eh5]; exact sBS_p4
  have e5 := Bound_ok 4 _ ring h5 k5 p5 (by decide) (by omega) (by omega) ring_ok (by omega) (by rw [dia, ring_dia]; omega)
  have eb : bndE ring 4 = 2 := by simp only [bndE, dia, most, ring_dia, ring_most]; rfl
  rw [eb] at e5
  obtain ⟨h6, eh6⟩ : ∃ h6, h6 = h5.pu (ints .i64 [0, 1, 2, 3]) := ⟨_, rfl⟩
  have g6 : Grown h5 h6 := by rw [eh6]; exact Grown.pu Grown.refl refsOK_ints
  have k6 := g6.ok k5
  have i6 : Ints h6.blks .i64 (.sl h5.next 0 4 (some 4) 1) [0, 1, 2, 3] := by rw [eh6]; exact Ints.top rfl (Nat.le_refl 4)
  have b6 : sBS [.int .i64 0] 4 1 h5 [(0, .int .i64 0), (1, .int .i64 1), (2, .int .i64 2), (3, .int .i64 3)] = some (.sl h5.next 0 4 (some 4) 1, h6) := by rw [eh6]; exact sBS_i4
  have s16 : Sub h1.blks h6.blks := ((((g2.sub k1).trans (g3.sub k2)).trans (g4.sub k3)).trans (g5.sub k4)).trans (g6.sub k5)
  have e6 := Measure_ok 4 _ _ star [0, 1, 2, 3] h6 k6 (p1.sub s16) i6 (by decide) (by omega) (by omega) star_ok (by decide)
  rw [star_m.1, star_m.2.1, star_m.2.2] at e6
  have lit : ∀ hh : Hp, ∃ hh', hh' = hh.pu (ints .i64 [1, 0, 2, 3]) := fun hh => ⟨_, rfl⟩
  obtain ⟨h7, eh7⟩ := lit h6
  obtain ⟨h8, eh8⟩ := lit h7
  obtain ⟨h9, eh9⟩ := lit h8
  have step : ∀ hh hh' : Hp, hh' = hh.pu (ints .i64 [1, 0, 2, 3]) → Grown hh hh' ∧ Ints hh'.blks .i64 (.sl hh.next 0 4 (some 4) 1) [1, 0, 2, 3] ∧ sBS [.int .i64 0] 4 1 hh [(0, .int .i64 1), (1, .int .i64 0), (2, .int .i64 2), (3, .int .i64 3)] = some (.sl hh.next 0 4 (some 4) 1, hh') := fun hh hh' e => by
    subst e
    exact ⟨Grown.pu Grown.refl refsOK_ints, Ints.top rfl (Nat.le_refl 4), sBS_i4⟩
  obtain ⟨g7, i7, b7⟩ := step h6 h7 eh7
  obtain ⟨g8, i8, b8⟩ := step h7 h8 eh8
  obtain ⟨g9, i9, b9⟩ := step h8 h9 eh9
  have k7 := g7.ok k6
  have k8 := g8.ok k7
  have k9 := g9.ok k8
  have s26 : Sub h2.blks h6.blks := (((g3.sub k2).trans (g4.sub k3)).trans (g5.sub k4)).trans (g6.sub k5)
  have s36 : Sub h3.blks h6.blks := ((g4.sub k3).trans (g5.sub k4)).trans (g6.sub k5)
  have s46 : Sub h4.blks h6.blks := (g5.sub k4).trans (g6.sub k5)
  have m7 := f22 _ _ _ _ h7 k7 ((o2.ints.sub s26).sub (g7.sub k6)) i7 (by decide) (by decide)
  have m8 := f22 _ _ _ _ h8 k8 (((o3.ints.sub s36).sub (g7.sub k6)).sub (g8.sub k7)) i8 (by decide) (by decide)
  have m9 := f22 _ _ _ _ h9 k9 ((((o4.ints.sub s46).sub (g7.sub k6)).sub (g8.sub k7)).sub (g9.sub k8)) i9 (by decide) (by decide)
  rw [decide_eq_true rfl] at m7 m8 m9
  have gh9 : Grown h h9 := GrownR.trans (GrownR.trans (GrownR.trans (GrownR.trans (GrownR.trans gh4 g5) g6) g7) g8) g9
  clear eh1 eh5 eh6 eh7 eh8 eh9
  replace e2 : Evals Try.prog tab false (.func 24) [.int .i64 4, .sl h.next 0 3 (some 3) 2] h1 (.tu [.int .i64 2, t2, .int .i64 0], h2) := e2
  replace e3 : Evals Try.prog tab false (.func 25) [.int .i64 4, .sl h.next 0 3 (some 3) 2] h2 (.tu [.int .i64 2, t3, .int .i64 0], h3) := e3
  replace e4 : Evals Try.prog tab false (.func 26) [.int .i64 4, .sl h.next 0 3 (some 3) 2] h3 (.tu [.int .i64 4, t4, .int .i64 0], h4) := e4
  replace e5 : Evals Try.prog tab false (.func 29) [.int .i64 4, .sl h4.next 0 4 (some 4) 2] h5 (.tu [.int .i64 2, .int .i64 0], h5) := e5
  replace e6 : Evals Try.prog tab false (.func 16) [.int .i64 4, .sl h.next 0 3 (some 3) 2, .sl h5.next 0 4 (some 4) 1] h6 (.tu [.int .i64 3, .int .i64 3, .int .i64 6, .int .i64 0], h6) := e6
  simp (disch := first|(simp only [Nat.reduceBEq,wE];done)|((repeat' (first|assumption|exact mAx _|refine mBx ?_ ?_|exact mCx (by assumption)|refine mDx ?_|refine mEx ?_ ?_ ?_|exact mFx|refine mGx ?_ ?_ ?_|exact mHx|exact mIx _|(simp only [wM,Nat.reduceAdd,Nat.reduceLT,Nat.reduceLeDiff];done)));done)|omega|decide) only [b1, callT e2, callT e3, callT e4, b5, callT e5, b6, callT e6, b7, callT m7, b8, callT m8, b9, callT m9, ↓wA,wB,wL,resOf,Nat.reduceBEq,Int.reduceBEq,Int.reduceBNe,Int.reduceLT,Int.reduceLE,Int.reduceAdd,Int.reduceSub,Int.reduceMul,Int.reduceToNat]
  exact ⟨_, rfl, rfl, gh9⟩
end Go.Proofs.Ytihadgkgogfhcaa
