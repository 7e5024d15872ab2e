/- RouteBounds: Bound returns the greater one of both bounds, and Reverse the order from the other end, or the errors that the document names. -/
import Derived.Test.YtihadgkgogfhcaaQF
import Derived.Test.YtihadgkgogfhcaaU1
import Derived.Test.YtihadgkgogfhcaaFRouteBounds
set_option linter.unusedSimpArgs false
set_option linter.unusedVariables false
set_option maxHeartbeats 4000000
set_option maxRecDepth 20000
namespace Go.Proofs.Ytihadgkgogfhcaa
open Go Go.Abs Go.Pa Go.Ro
/- What the law asks of a bound, and of the reference's. -/
def tailB (n : Int) (E : List (Int × Int)) (b : AV) (h3 : Hp) (s1 : AV) : Prop := ∃ bv be, b = .tu [.int .i64 bv, .int .i64 be] ∧ Evals Try.prog tab false (.func 18) [.int .i64 n, s1] h3 (.int .i64 (errG n E), h3) ∧
  ((errG n E ≠ 0 ∧ bv = 0 ∧ be = errG n E) ∨ ∃ want, errG n E = 0 ∧ Evals Try.prog tab false (.func 32) [.int .i64 n, s1] h3 (.int .i64 want, h3) ∧ (-1 ≤ want ∧ want ≤ 1000) ∧ ((want = -1 ∧ bv = 0 ∧ be = 5) ∨ (0 ≤ want ∧ bv = want ∧ be = 0)))
end Go.Proofs.Ytihadgkgogfhcaa
namespace Go.Proofs.Ytihadgkgogfhcaa
open Go Go.Abs Go.Pa Go.Ro

theorem f5 (n : Int) (x1 : AV) (l1 : List (Int × Int)) (x2 : AV) (l2 : List Int) (h : Hp) (hk : Hok h) (b0 : -9223372036854775808 ≤ n ∧ n ≤ 9223372036854775807)
    (P1 : Pairs h.blks x1 l1) (S1 : l1.length ≤ maxLen)
    (P2 : Ints h.blks .i64 x2 l2) (B2 : ∀ k ∈ l2, -9223372036854775808 ≤ k ∧ k ≤ 9223372036854775807) (S2 : l2.length ≤ maxLen) :
    ∃ h', Evals Try.prog tab false (.func 5) [.int .i64 n, x1, x2] h (.bool true, h') := by
  suffices H : ∃ v h', Evals Try.prog tab false (.func 5) [.int .i64 n, x1, x2] h (v, h') ∧ v = .bool true by
    obtain ⟨v, h', e, rfl⟩ := H
    exact ⟨h', e⟩
  refine evals_func (Q := fun v _ => v = .bool true) c5 rfl ?_
  simp only [sf5, initS_cons, initS_nil]
  have S1' : l1.length < 2 ^ 63 := by have : maxLen = 2 ^ 63 - 1 := rfl; omega
  have S2' : l2.length < 2 ^ 63 := by have : maxLen = 2 ^ 63 - 1 := rfl; omega
  obtain ⟨s1, h1, e1, g1, o1⟩ := f14 x1 l1 h.en hk P1 S1'
  have k1 : Hok h1 := g1.ok hk
  have gh1 : Grown h h1 := GrownR.of_en g1
  obtain ⟨s2, h2, e2, g2, o2⟩ := f15 x2 l2 h1 k1 (P2.sub (gh1.sub hk)) S2'
  have k2 := g2.ok k1
  have p2 := o1.pairs.sub (g2.sub k1)
  have q2 := o2.ints
  obtain ⟨E, eE⟩ : ∃ E, E = l1.take 31 := ⟨_, rfl⟩
  obtain ⟨zs, ez⟩ : ∃ zs, zs = l2.take 9 := ⟨_, rfl⟩
  have lE : E.length ≤ 31 := by rw [eE]; simp; omega
  have lz : zs.length ≤ 9 := by rw [ez]; simp; omega
  rw [← eE] at p2
  rw [← ez] at q2
  clear eE ez
  -- the rest, at a heap that has grown
  obtain ⟨b, eb⟩ : ∃ b : AV, Evals Try.prog tab false (.func 29) [.int .i64 n, s1] h2 (b, h2) ∧ ∀ h3, Grown h2 h3 → tailB n E b h3 s1 := by
    by_cases c1 : errG n E = 0
    · obtain ⟨hE, hg⟩ := errG_0.1 c1
      obtain ⟨k, rfl, k0, k8, hO⟩ := hg.nat
      by_cases c : k < 2 ∨ dia E k = 8
      · refine ⟨_, Bound_none k s1 E h2 k2 p2 hE k0 k8 hO c, fun h3 g3 => ?_⟩
        have p3 := p2.sub (g3.sub k2)
        have gr := f18 k s1 E h3 (g3.ok k2) p3 (by omega)
        have rb := f32 k s1 E h3 (g3.ok k2) p3 (by omega) k0 k8 hO
        rw [if_pos c] at rb
        exact ⟨0, 5, rfl, gr, .inr ⟨-1, c1, rb, by omega, .inl ⟨rfl, rfl, rfl⟩⟩⟩
      · have c2 : 2 ≤ k := by omega
        have c3 : dia E k ≠ 8 := fun h => c (.inr h)
        refine ⟨_, Bound_ok k s1 E h2 k2 p2 hE k0 k8 hO c2 c3, fun h3 g3 => ?_⟩
        have p3 := p2.sub (g3.sub k2)
        have gr := f18 k s1 E h3 (g3.ok k2) p3 (by omega)
        have rb := f32 k s1 E h3 (g3.ok k2) p3 (by omega) k0 k8 hO
        rw [if_neg c] at rb
        have pos : 0 ≤ bndE E k := by
          have dp := dia_pos hO c2
          have : 0 ≤ ((most E k : Nat) : Int) + 2 - 1 := by omega
          unfold bndE
          omega
        have ub : bndE E k ≤ 1000 := by
          have dp := dia_pos hO c2
          have db := dia_bd (E := E) (n := k)
          have ml := most_le (E := E) (n := k)
          have : ((k : Int) - 1 + dia E k - 1) / dia E k ≤ (k : Int) - 1 + dia E k - 1 := Int.ediv_le_self _ (by omega)
          unfold bndE
          omega
        exact ⟨_, 0, rfl, gr, .inr ⟨_, c1, rb, by omega, .inr ⟨pos, rfl, rfl⟩⟩⟩
    · refine ⟨_, Bound_err n s1 E h2 k2 p2 (by omega) c1, fun h3 g3 => ?_⟩
      have p3 := p2.sub (g3.sub k2)
      have gr := f18 n s1 E h3 (g3.ok k2) p3 (by omega)
      exact ⟨0, _, rfl, gr, .inl ⟨c1, rfl, rfl⟩⟩
  obtain ⟨eb, tl⟩ := eb
  by_cases c : 1 ≤ zs.length ∧ zs.length ≤ 8 ∧ PermI zs.length zs
  · obtain ⟨v, h3, e3, g3, t, rfl, o3⟩ := Reverse_ok s2 zs h2 k2 q2 c.1 c.2.1 c.2.2
    have k3 := g3.ok k2
    have q3 := q2.sub (g3.sub k2)
    have pr := f19 s2 zs zs.length h3 k3 q3 (by omega) (by omega)
    rw [decide_eq_true c.2.2] at pr
    obtain ⟨w, h4, e4, g4, o4⟩ := f31 s2 zs h3 k3 q3 (by omega)
    have k4 := g4.ok k3
    have sm := f22 t w _ _ h4 k4 (o3.ints.sub (g4.sub k3)) o4.ints (by rw [List.length_reverse]; omega) (by rw [List.length_reverse]; omega)
    rw [decide_eq_true rfl] at sm
    obtain ⟨bv, be, rfl, gr, alt⟩ := tl h4 (GrownR.trans g3 g4)
    have d1 : decide ((zs.length : Int) < 1) = false := decide_eq_false (by omega)
    have d2 : decide ((8 : Int) < zs.length) = false := decide_eq_false (by omega)
    rcases alt with ⟨c1, rfl, rfl⟩ | ⟨want, c1, rb, wb, alt⟩
    · have t1 : (errG n E != 0) = true := by simpa using c1
      simp (disch := first|(simp only [Nat.reduceBEq,wE];done)|((repeat' (first|assumption|exact mAx _|refine mBx ?_ ?_|exact mCx (by assumption)|refine mDx ?_|refine mEx ?_ ?_ ?_|exact mFx|refine mGx ?_ ?_ ?_|exact mHx|exact mIx _|(simp only [wM,Nat.reduceAdd,Nat.reduceLT,Nat.reduceLeDiff];done)));done)|omega|decide) only [callT e1, callT e2, callT eb, callT e3, q3.len, d1, d2, callT pr, callT e4, callT sm, callT gr, t1, callT (f20 h4 k4), ↓wA,wB,wL,resOf,Nat.reduceBEq,Int.reduceBEq,Int.reduceBNe,Int.reduceLT,Int.reduceLE,Int.reduceAdd,Int.reduceSub,Int.reduceMul,Int.reduceToNat]
      exact ⟨_, rfl, rfl⟩
    · rw [c1] at gr
      rcases alt with ⟨rfl, rfl, rfl⟩ | ⟨hw, rfl, rfl⟩
      · simp (disch := first|(simp only [Nat.reduceBEq,wE];done)|((repeat' (first|assumption|exact mAx _|refine mBx ?_ ?_|exact mCx (by assumption)|refine mDx ?_|refine mEx ?_ ?_ ?_|exact mFx|refine mGx ?_ ?_ ?_|exact mHx|exact mIx _|(simp only [wM,Nat.reduceAdd,Nat.reduceLT,Nat.reduceLeDiff];done)));done)|omega|decide) only [callT e1, callT e2, callT eb, callT e3, q3.len, d1, d2, callT pr, callT e4, callT sm, callT gr, callT rb, callT (f20 h4 k4), ↓wA,wB,wL,resOf,Nat.reduceBEq,Int.reduceBEq,Int.reduceBNe,Int.reduceLT,Int.reduceLE,Int.reduceAdd,Int.reduceSub,Int.reduceMul,Int.reduceToNat]
        exact ⟨_, rfl, rfl⟩
      · have t1 := decide_eq_true hw
        simp (disch := first|(simp only [Nat.reduceBEq,wE];done)|((repeat' (first|assumption|exact mAx _|refine mBx ?_ ?_|exact mCx (by assumption)|refine mDx ?_|refine mEx ?_ ?_ ?_|exact mFx|refine mGx ?_ ?_ ?_|exact mHx|exact mIx _|(simp only [wM,Nat.reduceAdd,Nat.reduceLT,Nat.reduceLeDiff];done)));done)|omega|decide) only [callT e1, callT e2, callT eb, callT e3, q3.len, d1, d2, callT pr, callT e4, callT sm, callT gr, callT rb, t1, callT (f20 h4 k4), ↓wA,wB,wL,resOf,Nat.reduceBEq,Int.reduceBEq,Int.reduceBNe,Int.reduceLT,Int.reduceLE,Int.reduceAdd,Int.reduceSub,Int.reduceMul,Int.reduceToNat]
        exact ⟨_, rfl, rfl⟩
  · have e3 := Reverse_err s2 zs h2 k2 q2 (by omega) c
    have pr := f19 s2 zs zs.length h2 k2 q2 (by omega) (by omega)
    obtain ⟨bv, be, rfl, gr, alt⟩ := tl h2 Grown.refl
    have d3c : zs.length < 1 ∨ (¬ zs.length < 1 ∧ 8 < zs.length) ∨ (¬ zs.length < 1 ∧ ¬ 8 < zs.length ∧ ¬ PermI zs.length zs) := by
      by_cases x1 : zs.length < 1
      · exact .inl x1
      · by_cases x2 : 8 < zs.length
        · exact .inr (.inl ⟨x1, x2⟩)
        · exact .inr (.inr ⟨x1, x2, fun hp => c ⟨by omega, by omega, hp⟩⟩)
    rcases d3c with x1 | ⟨x1, x2⟩ | ⟨x1, x2, x3⟩
    · have d1 : decide ((zs.length : Int) < 1) = true := decide_eq_true (by omega)
      rcases alt with ⟨c1, rfl, rfl⟩ | ⟨want, c1, rb, wb, alt⟩
      · have t1 : (errG n E != 0) = true := by simpa using c1
        simp (disch := first|(simp only [Nat.reduceBEq,wE];done)|((repeat' (first|assumption|exact mAx _|refine mBx ?_ ?_|exact mCx (by assumption)|refine mDx ?_|refine mEx ?_ ?_ ?_|exact mFx|refine mGx ?_ ?_ ?_|exact mHx|exact mIx _|(simp only [wM,Nat.reduceAdd,Nat.reduceLT,Nat.reduceLeDiff];done)));done)|omega|decide) only [callT e1, callT e2, callT eb, callT e3, q2.len, d1, callT gr, t1, callT (f20 h2 k2), ↓wA,wB,wL,resOf,Nat.reduceBEq,Int.reduceBEq,Int.reduceBNe,Int.reduceLT,Int.reduceLE,Int.reduceAdd,Int.reduceSub,Int.reduceMul,Int.reduceToNat]
        exact ⟨_, rfl, rfl⟩
      · rw [c1] at gr
        rcases alt with ⟨rfl, rfl, rfl⟩ | ⟨hw, rfl, rfl⟩
        · simp (disch := first|(simp only [Nat.reduceBEq,wE];done)|((repeat' (first|assumption|exact mAx _|refine mBx ?_ ?_|exact mCx (by assumption)|refine mDx ?_|refine mEx ?_ ?_ ?_|exact mFx|refine mGx ?_ ?_ ?_|exact mHx|exact mIx _|(simp only [wM,Nat.reduceAdd,Nat.reduceLT,Nat.reduceLeDiff];done)));done)|omega|decide) only [callT e1, callT e2, callT eb, callT e3, q2.len, d1, callT gr, callT rb, callT (f20 h2 k2), ↓wA,wB,wL,resOf,Nat.reduceBEq,Int.reduceBEq,Int.reduceBNe,Int.reduceLT,Int.reduceLE,Int.reduceAdd,Int.reduceSub,Int.reduceMul,Int.reduceToNat]
          exact ⟨_, rfl, rfl⟩
        · have t1 := decide_eq_true hw
          simp (disch := first|(simp only [Nat.reduceBEq,wE];done)|((repeat' (first|assumption|exact mAx _|refine mBx ?_ ?_|exact mCx (by assumption)|refine mDx ?_|refine mEx ?_ ?_ ?_|exact mFx|refine mGx ?_ ?_ ?_|exact mHx|exact mIx _|(simp only [wM,Nat.reduceAdd,Nat.reduceLT,Nat.reduceLeDiff];done)));done)|omega|decide) only [callT e1, callT e2, callT eb, callT e3, q2.len, d1, callT gr, callT rb, t1, callT (f20 h2 k2), ↓wA,wB,wL,resOf,Nat.reduceBEq,Int.reduceBEq,Int.reduceBNe,Int.reduceLT,Int.reduceLE,Int.reduceAdd,Int.reduceSub,Int.reduceMul,Int.reduceToNat]
          exact ⟨_, rfl, rfl⟩
    · have d1 : decide ((zs.length : Int) < 1) = false := decide_eq_false (by omega)
      have d2 : decide ((8 : Int) < zs.length) = true := decide_eq_true (by omega)
      rcases alt with ⟨c1, rfl, rfl⟩ | ⟨want, c1, rb, wb, alt⟩
      · have t1 : (errG n E != 0) = true := by simpa using c1
        simp (disch := first|(simp only [Nat.reduceBEq,wE];done)|((repeat' (first|assumption|exact mAx _|refine mBx ?_ ?_|exact mCx (by assumption)|refine mDx ?_|refine mEx ?_ ?_ ?_|exact mFx|refine mGx ?_ ?_ ?_|exact mHx|exact mIx _|(simp only [wM,Nat.reduceAdd,Nat.reduceLT,Nat.reduceLeDiff];done)));done)|omega|decide) only [callT e1, callT e2, callT eb, callT e3, q2.len, d1, d2, callT gr, t1, callT (f20 h2 k2), ↓wA,wB,wL,resOf,Nat.reduceBEq,Int.reduceBEq,Int.reduceBNe,Int.reduceLT,Int.reduceLE,Int.reduceAdd,Int.reduceSub,Int.reduceMul,Int.reduceToNat]
        exact ⟨_, rfl, rfl⟩
      · rw [c1] at gr
        rcases alt with ⟨rfl, rfl, rfl⟩ | ⟨hw, rfl, rfl⟩
        · simp (disch := first|(simp only [Nat.reduceBEq,wE];done)|((repeat' (first|assumption|exact mAx _|refine mBx ?_ ?_|exact mCx (by assumption)|refine mDx ?_|refine mEx ?_ ?_ ?_|exact mFx|refine mGx ?_ ?_ ?_|exact mHx|exact mIx _|(simp only [wM,Nat.reduceAdd,Nat.reduceLT,Nat.reduceLeDiff];done)));done)|omega|decide) only [callT e1, callT e2, callT eb, callT e3, q2.len, d1, d2, callT gr, callT rb, callT (f20 h2 k2), ↓wA,wB,wL,resOf,Nat.reduceBEq,Int.reduceBEq,Int.reduceBNe,Int.reduceLT,Int.reduceLE,Int.reduceAdd,Int.reduceSub,Int.reduceMul,Int.reduceToNat]
          exact ⟨_, rfl, rfl⟩
        · have t1 := decide_eq_true hw
          simp (disch := first|(simp only [Nat.reduceBEq,wE];done)|((repeat' (first|assumption|exact mAx _|refine mBx ?_ ?_|exact mCx (by assumption)|refine mDx ?_|refine mEx ?_ ?_ ?_|exact mFx|refine mGx ?_ ?_ ?_|exact mHx|exact mIx _|(simp only [wM,Nat.reduceAdd,Nat.reduceLT,Nat.reduceLeDiff];done)));done)|omega|decide) only [callT e1, callT e2, callT eb, callT e3, q2.len, d1, d2, callT gr, callT rb, t1, callT (f20 h2 k2), ↓wA,wB,wL,resOf,Nat.reduceBEq,Int.reduceBEq,Int.reduceBNe,Int.reduceLT,Int.reduceLE,Int.reduceAdd,Int.reduceSub,Int.reduceMul,Int.reduceToNat]
          exact ⟨_, rfl, rfl⟩
    · have d1 : decide ((zs.length : Int) < 1) = false := decide_eq_false (by omega)
      have d2 : decide ((8 : Int) < zs.length) = false := decide_eq_false (by omega)
      rw [decide_eq_false x3] at pr
      rcases alt with ⟨c1, rfl, rfl⟩ | ⟨want, c1, rb, wb, alt⟩
      · have t1 : (errG n E != 0) = true := by simpa using c1
        simp (disch := first|(simp only [Nat.reduceBEq,wE];done)|((repeat' (first|assumption|exact mAx _|refine mBx ?_ ?_|exact mCx (by assumption)|refine mDx ?_|refine mEx ?_ ?_ ?_|exact mFx|refine mGx ?_ ?_ ?_|exact mHx|exact mIx _|(simp only [wM,Nat.reduceAdd,Nat.reduceLT,Nat.reduceLeDiff];done)));done)|omega|decide) only [callT e1, callT e2, callT eb, callT e3, q2.len, d1, d2, callT pr, callT gr, t1, callT (f20 h2 k2), ↓wA,wB,wL,resOf,Nat.reduceBEq,Int.reduceBEq,Int.reduceBNe,Int.reduceLT,Int.reduceLE,Int.reduceAdd,Int.reduceSub,Int.reduceMul,Int.reduceToNat]
        exact ⟨_, rfl, rfl⟩
      · rw [c1] at gr
        rcases alt with ⟨rfl, rfl, rfl⟩ | ⟨hw, rfl, rfl⟩
        · simp (disch := first|(simp only [Nat.reduceBEq,wE];done)|((repeat' (first|assumption|exact mAx _|refine mBx ?_ ?_|exact mCx (by assumption)|refine mDx ?_|refine mEx ?_ ?_ ?_|exact mFx|refine mGx ?_ ?_ ?_|exact mHx|exact mIx _|(simp only [wM,Nat.reduceAdd,Nat.reduceLT,Nat.reduceLeDiff];done)));done)|omega|decide) only [callT e1, callT e2, callT eb, callT e3, q2.len, d1, d2, callT pr, callT gr, callT rb, callT (f20 h2 k2), ↓wA,wB,wL,resOf,Nat.reduceBEq,Int.reduceBEq,Int.reduceBNe,Int.reduceLT,Int.reduceLE,Int.reduceAdd,Int.reduceSub,Int.reduceMul,Int.reduceToNat]
          exact ⟨_, rfl, rfl⟩
        · have t1 := decide_eq_true hw
          simp (disch := first|(simp only [Nat.reduceBEq,wE];done)|((repeat' (first|assumption|exact mAx _|refine mBx ?_ ?_|exact mCx (by assumption)|refine mDx ?_|refine mEx ?_ ?_ ?_|exact mFx|refine mGx ?_ ?_ ?_|exact mHx|exact mIx _|(simp only [wM,Nat.reduceAdd,Nat.reduceLT,Nat.reduceLeDiff];done)));done)|omega|decide) only [callT e1, callT e2, callT eb, callT e3, q2.len, d1, d2, callT pr, callT gr, callT rb, t1, callT (f20 h2 k2), ↓wA,wB,wL,resOf,Nat.reduceBEq,Int.reduceBEq,Int.reduceBNe,Int.reduceLT,Int.reduceLE,Int.reduceAdd,Int.reduceSub,Int.reduceMul,Int.reduceToNat]
          exact ⟨_, rfl, rfl⟩
end Go.Proofs.Ytihadgkgogfhcaa
