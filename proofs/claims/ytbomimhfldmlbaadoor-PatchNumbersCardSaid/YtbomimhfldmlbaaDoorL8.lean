/- PatchNumbers: Ways, Waksman and Strict answer as the document says. -/
import Derived.Test.YtbomimhfldmlbaaDoorPP
import Derived.Test.YtbomimhfldmlbaaDoorFPatchNumbers
set_option linter.unusedSimpArgs false
set_option linter.unusedVariables false
set_option maxHeartbeats 4000000
set_option maxRecDepth 20000
namespace Go.Proofs.YtbomimhfldmlbaaDoor
open Go Go.Abs Go.Pa

theorem f6 (k : Int) (a : AV) (xs : List Int) (n r m : Int) (h : Hp) (hk : Hok h) (bk : -9223372036854775808 ≤ k ∧ k ≤ 9223372036854775807)
    (ha : Ints h.blks .i64 a xs) (Ba : ∀ k ∈ xs, -9223372036854775808 ≤ k ∧ k ≤ 9223372036854775807) (Sa : xs.length ≤ maxLen)
    (bn : -9223372036854775808 ≤ n ∧ n ≤ 9223372036854775807) (br : -9223372036854775808 ≤ r ∧ r ≤ 9223372036854775807) (bm : -9223372036854775808 ≤ m ∧ m ≤ 9223372036854775807) :
    ∃ h', Evals Tryd.prog tab false (.func 6) [.int .i64 k, a, .ag [.int .i64 n, .int .i64 r, .int .i64 m]] h (.bool true, h') := by
  have Sa' : xs.length < 2 ^ 63 := by have : maxLen = 2 ^ 63 - 1 := rfl; omega
  suffices H : ∃ v h', Evals Tryd.prog tab false (.func 6) [.int .i64 k, a, .ag [.int .i64 n, .int .i64 r, .int .i64 m]] h (v, h') ∧ v = .bool true by
    obtain ⟨v, h', e, rfl⟩ := H
    exact ⟨h', e⟩
  refine evals_func (Q := fun v _ => v = .bool true) c6 rfl ?_
  simp only [sf6, initS_cons, initS_nil]
  have k0 : Hok (h.en.pu [.int .i64 n, .int .i64 r, .int .i64 m]) := Hok.pu hk rfl
  have s0 : Sub h.blks (h.en.pu [.int .i64 n, .int .i64 r, .int .i64 m]).blks := Sub.pu (h := h.en) hk
  obtain ⟨p, h1, ep, g1, o1⟩ := f17 a xs (h.en.pu [.int .i64 n, .int .i64 r, .int .i64 m]) k0 (ha.sub s0) Sa'
  have k1 := g1.ok k0
  have bx : Box h1.blks h.next [.int .i64 n, .int .i64 r, .int .i64 m] := Box.top.sub (g1.sub k0)
  have x0 := bx.ld (Sub.refl _) (j := 0)
  have x1 := bx.ld (Sub.refl _) (j := 1)
  have x2 := bx.ld (Sub.refl _) (j := 2)
  obtain ⟨ps, eps⟩ : ∃ ps, ps = xs.take 13 := ⟨_, rfl⟩
  have lps : ps.length ≤ 13 := by rw [eps]; simp; omega
  rw [← eps] at o1
  -- networks
  have NET : ∃ s e : _, Evals Tryd.prog tab false (.func 36) [.int .i64 n, .int .i64 r, .int .i64 m] h1 (.tu [.bool s, .int .i64 e], h1) ∧ ((¬ Clos n r m ∧ s = false ∧ e = 1) ∨ (Clos n r m ∧ e = 0 ∧ s = (decide (m ≥ 2 * n - 1) || (r == 1) && decide (m ≥ n)))) := by
    by_cases hc : Clos n r m
    · obtain ⟨n, r, m, rfl, rfl, rfl, n0, n1, r0, r1, hw, m0, m1⟩ := hc.nat
      refine ⟨_, _, Strict_ok n r m h1 k1 hc, .inr ⟨hc, rfl, ?_⟩⟩
      rw [Bool.eq_iff_iff, decide_eq_true_iff]
      unfold StrictP
      simp only [decide_eq_true_eq, Bool.or_eq_true, Bool.and_eq_true, beq_iff_eq]
      omega
    · exact ⟨_, _, Strict_arg n r m h1 k1 hc, .inl ⟨hc, rfl, rfl⟩⟩
  obtain ⟨s, se, evS, hS⟩ := NET
  have WAY : ∃ w e : Int, Evals Tryd.prog tab false (.func 34) [.int .i64 k, p] h1 (.tu [.int .i64 w, .int .i64 e], h1) ∧ ((¬ (1 ≤ k ∧ k ≤ 2) ∧ w = 0 ∧ e = 1) ∨ (∃ j : Nat, k = j ∧ 1 ≤ j ∧ j ≤ 2 ∧ ¬ PermI (2 ^ j : Nat) ps ∧ w = 0 ∧ e = 2) ∨ (∃ j : Nat, k = j ∧ 1 ≤ j ∧ j ≤ 2 ∧ PermI (2 ^ j : Nat) ps ∧ w = ((waysN j ps (2 ^ swc j) : Nat) : Int) ∧ e = 0)) := by
    by_cases c2 : 1 ≤ k ∧ k ≤ 2
    · obtain ⟨k, rfl⟩ : ∃ j : Nat, k = j := ⟨k.toNat, by omega⟩
      by_cases hp : PermI (2 ^ k : Nat) ps
      · exact ⟨_, _, Ways_ok k p ps h1 k1 (by omega) o1.ints (by omega) hp, .inr (.inr ⟨k, rfl, by omega, by omega, hp, rfl, rfl⟩)⟩
      · exact ⟨_, _, Ways_form k p ps h1 k1 (by omega) o1.ints (by omega) hp, .inr (.inl ⟨k, rfl, by omega, by omega, hp, rfl, rfl⟩)⟩
    · exact ⟨_, _, Ways_arg k p h1 k1 c2, .inl ⟨c2, rfl, rfl⟩⟩
  obtain ⟨w, we, evW, hW⟩ := WAY
  have WAK : ∃ z e : Int, Evals Tryd.prog tab false (.func 35) [.int .i64 k] h1 (.tu [.int .i64 z, .int .i64 e], h1) ∧ ((¬ (1 ≤ k ∧ k ≤ 20) ∧ z = 0 ∧ e = 1) ∨ (∃ j : Nat, k = j ∧ 1 ≤ j ∧ j ≤ 20 ∧ z = (((j - 1) * 2 ^ j + 1 : Nat) : Int) ∧ e = 0)) := by
    by_cases c2 : 1 ≤ k ∧ k ≤ 20
    · obtain ⟨k, rfl⟩ : ∃ j : Nat, k = j := ⟨k.toNat, by omega⟩
      exact ⟨_, _, Waksman_ok k h1 k1 (by omega), .inr ⟨k, rfl, by omega, by omega, rfl, rfl⟩⟩
    · exact ⟨_, _, Waksman_arg k h1 k1 c2, .inl ⟨c2, rfl, rfl⟩⟩
  obtain ⟨z, ze, evZ, hZ⟩ := WAK
  have CL := f20 n r m h1 k1
  have IN2 := f28 k 1 2 h1 k1
  have IN20 := f28 k 1 20 h1 k1
  rw [wseq, wseq, wseq, wseq]
  refine wcut (fun ss => ∃ (u1 u2 u6 u37 u46 u47 u58 u59 u100 u108 : AV), (Grown h h1) ∧ ss = { fr := [(0, .int .i64 k), (1, u1), (2, u2), (5, .ptr h.next 0), (6, u6), (7, p), (8, .int .i64 w), (9, .int .i64 we), (10, .int .i64 z), (11, .int .i64 ze), (12, .bool s), (13, .int .i64 se), (37, u37), (46, u46), (47, u47), (58, u58), (59, u59), (100, u100), (108, u108)], hp := h1 }) ?_ ?_
  · simp (disch := first|(simp only [Nat.reduceBEq,wE];done)|((repeat' (first|assumption|exact mAx _|refine mBx ?_ ?_|exact mCx (by assumption)|refine mDx ?_|refine mEx ?_ ?_ ?_|exact mFx|refine mGx ?_ ?_ ?_|exact mHx|exact mIx _|(simp only [wM,Nat.reduceAdd,Nat.reduceLT,Nat.reduceLeDiff];done)));done)|omega|decide) only [callT ep, callT evW, callT evZ, x0, x1, x2, callT evS, cutEx_n, ↓wA,wB,wL,resOf,Nat.reduceBEq,Int.reduceBEq,Int.reduceBNe,Int.reduceLT,Int.reduceLE,Int.reduceAdd,Int.reduceSub,Int.reduceMul,Int.reduceToNat]
    exact ⟨_, _, _, _, _, _, _, _, _, _, GrownR.trans (Grown.pu Grown.en rfl) g1, rfl⟩
  · rintro sC1 ⟨u1, u2, u6, u37, u46, u47, u58, u59, u100, u108, _, rfl⟩
    refine wcut (fun ss => ∃ (u1 u2 u6 u7 u8 u9 u37 u46 u47 u58 u59 u100 u108 : AV), (Grown h h1) ∧ ss = { fr := [(0, .int .i64 k), (1, u1), (2, u2), (5, .ptr h.next 0), (6, u6), (7, u7), (8, u8), (9, u9), (10, .int .i64 z), (11, .int .i64 ze), (12, .bool s), (13, .int .i64 se), (37, u37), (46, u46), (47, u47), (58, u58), (59, u59), (100, u100), (108, u108)], hp := h1 }) ?_ ?_
    · rcases hW with ⟨c2, rfl, rfl⟩ | ⟨j, rfl, j1, j2, hp, rfl, rfl⟩ | ⟨j, rfl, j1, j2, hp, rfl, rfl⟩
      · rw [decide_eq_false c2] at IN2
        simp (disch := first|(simp only [Nat.reduceBEq,wE];done)|((repeat' (first|assumption|exact mAx _|refine mBx ?_ ?_|exact mCx (by assumption)|refine mDx ?_|refine mEx ?_ ?_ ?_|exact mFx|refine mGx ?_ ?_ ?_|exact mHx|exact mIx _|(simp only [wM,Nat.reduceAdd,Nat.reduceLT,Nat.reduceLeDiff];done)));done)|omega|decide) only [callT IN2, cutEx_n, ↓wA,wB,wL,resOf,Nat.reduceBEq,Int.reduceBEq,Int.reduceBNe,Int.reduceLT,Int.reduceLE,Int.reduceAdd,Int.reduceSub,Int.reduceMul,Int.reduceToNat]
        exact ⟨_, _, _, _, _, _, _, _, _, _, _, _, _, GrownR.trans (Grown.pu Grown.en rfl) g1, rfl⟩
      · rw [decide_eq_true (show 1 ≤ (j : Int) ∧ (j : Int) ≤ 2 by omega)] at IN2
        have p8 := pow8 (show j ≤ 3 by omega)
        have q2 := sBin_shl1 (j := j) (by omega)
        obtain ⟨y, ey⟩ : ∃ y, y = 2 ^ j := ⟨_, rfl⟩
        rw [← ey] at p8 q2 hp
        have PM := f22 p ps y h1 k1 o1.ints (by omega) (by omega)
        rw [decide_eq_false hp] at PM
        simp (disch := first|(simp only [Nat.reduceBEq,wE];done)|((repeat' (first|assumption|exact mAx _|refine mBx ?_ ?_|exact mCx (by assumption)|refine mDx ?_|refine mEx ?_ ?_ ?_|exact mFx|refine mGx ?_ ?_ ?_|exact mHx|exact mIx _|(simp only [wM,Nat.reduceAdd,Nat.reduceLT,Nat.reduceLeDiff];done)));done)|omega|decide) only [callT IN2, q2, callT PM, cutEx_n, ↓wA,wB,wL,resOf,Nat.reduceBEq,Int.reduceBEq,Int.reduceBNe,Int.reduceLT,Int.reduceLE,Int.reduceAdd,Int.reduceSub,Int.reduceMul,Int.reduceToNat]
        exact ⟨_, _, _, _, _, _, _, _, _, _, _, _, _, GrownR.trans (Grown.pu Grown.en rfl) g1, rfl⟩
      · rw [decide_eq_true (show 1 ≤ (j : Int) ∧ (j : Int) ≤ 2 by omega)] at IN2
        have p8 := pow8 (show j ≤ 3 by omega)
        have q2 := sBin_shl1 (j := j) (by omega)
        have RW := f37 j p ps h1 k1 (by omega) o1.ints (by omega)
        generalize waysN j ps (2 ^ swc j) = u at *
        have uu : ((u : Int) != (u : Int)) = false := by simp
        obtain ⟨y, ey⟩ : ∃ y, y = 2 ^ j := ⟨_, rfl⟩
        rw [← ey] at p8 q2 hp
        have PM := f22 p ps y h1 k1 o1.ints (by omega) (by omega)
        rw [decide_eq_true hp] at PM
        simp (disch := first|(simp only [Nat.reduceBEq,wE];done)|((repeat' (first|assumption|exact mAx _|refine mBx ?_ ?_|exact mCx (by assumption)|refine mDx ?_|refine mEx ?_ ?_ ?_|exact mFx|refine mGx ?_ ?_ ?_|exact mHx|exact mIx _|(simp only [wM,Nat.reduceAdd,Nat.reduceLT,Nat.reduceLeDiff];done)));done)|omega|decide) only [callT IN2, q2, callT PM, callT RW, uu, cutEx_n, ↓wA,wB,wL,resOf,Nat.reduceBEq,Int.reduceBEq,Int.reduceBNe,Int.reduceLT,Int.reduceLE,Int.reduceAdd,Int.reduceSub,Int.reduceMul,Int.reduceToNat]
        exact ⟨_, _, _, _, _, _, _, _, _, _, _, _, _, GrownR.trans (Grown.pu Grown.en rfl) g1, rfl⟩
    · rintro sC2 ⟨u1, u2, u6, u7, u8, u9, u37, u46, u47, u58, u59, u100, u108, _, rfl⟩
      refine wcut (fun ss => ∃ (u0 u1 u2 u6 u7 u8 u9 u10 u11 u37 u46 u47 u58 u59 u100 u108 : AV), (Grown h h1) ∧ ss = { fr := [(0, u0), (1, u1), (2, u2), (5, .ptr h.next 0), (6, u6), (7, u7), (8, u8), (9, u9), (10, u10), (11, u11), (12, .bool s), (13, .int .i64 se), (37, u37), (46, u46), (47, u47), (58, u58), (59, u59), (100, u100), (108, u108)], hp := h1 }) ?_ ?_
      · rcases hZ with ⟨c20, rfl, rfl⟩ | ⟨j, rfl, j1, j2, rfl, rfl⟩
        · rw [decide_eq_false c20] at IN20
          simp (disch := first|(simp only [Nat.reduceBEq,wE];done)|((repeat' (first|assumption|exact mAx _|refine mBx ?_ ?_|exact mCx (by assumption)|refine mDx ?_|refine mEx ?_ ?_ ?_|exact mFx|refine mGx ?_ ?_ ?_|exact mHx|exact mIx _|(simp only [wM,Nat.reduceAdd,Nat.reduceLT,Nat.reduceLeDiff];done)));done)|omega|decide) only [callT IN20, sBin_boolN, cutEx_n, ↓wA,wB,wL,resOf,Nat.reduceBEq,Int.reduceBEq,Int.reduceBNe,Int.reduceLT,Int.reduceLE,Int.reduceAdd,Int.reduceSub,Int.reduceMul,Int.reduceToNat]
          exact ⟨_, _, _, _, _, _, _, _, _, _, _, _, _, _, _, _, GrownR.trans (Grown.pu Grown.en rfl) g1, rfl⟩
        · rw [decide_eq_true (show 1 ≤ (j : Int) ∧ (j : Int) ≤ 20 by omega)] at IN20
          have mp := mul_pow20 (show j ≤ 20 by omega) (show j ≤ 20 by omega)
          have q1 := sBin_shlN (a := j) (j := j) (by omega) (by omega)
          have q2 := sBin_shl1 (j := j) (by omega)
          have p2 : 2 ^ j ≤ 20 * 1048576 := by have := mul_pow20 (show 1 ≤ 20 by omega) (show j ≤ 20 by omega); omega
          have q3 : ((j * 2 ^ j : Nat) : Int) - ((2 ^ j : Nat) : Int) = (((j - 1) * 2 ^ j : Nat) : Int) := by
            obtain ⟨i, rfl⟩ : ∃ i, j = i + 1 := ⟨j - 1, by omega⟩
            rw [Nat.succ_mul, Nat.add_sub_cancel]
            omega
          have p3 : (j - 1) * 2 ^ j ≤ 20 * 1048576 := mul_pow20 (by omega) (by omega)
          generalize (j - 1) * 2 ^ j = v at *
          generalize j * 2 ^ j = y at *
          generalize 2 ^ j = u at *
          have q4 : (v : Int) + 1 = ((v + 1 : Nat) : Int) := by omega
          have q5 : (((v + 1 : Nat) : Int) != ((v + 1 : Nat) : Int)) = false := by simp
          simp (disch := first|(simp only [Nat.reduceBEq,wE];done)|((repeat' (first|assumption|exact mAx _|refine mBx ?_ ?_|exact mCx (by assumption)|refine mDx ?_|refine mEx ?_ ?_ ?_|exact mFx|refine mGx ?_ ?_ ?_|exact mHx|exact mIx _|(simp only [wM,Nat.reduceAdd,Nat.reduceLT,Nat.reduceLeDiff];done)));done)|omega|decide) only [callT IN20, sBin_boolN, q1, q2, q3, q4, q5, cutEx_n, ↓wA,wB,wL,resOf,Nat.reduceBEq,Int.reduceBEq,Int.reduceBNe,Int.reduceLT,Int.reduceLE,Int.reduceAdd,Int.reduceSub,Int.reduceMul,Int.reduceToNat]
          exact ⟨_, _, _, _, _, _, _, _, _, _, _, _, _, _, _, _, GrownR.trans (Grown.pu Grown.en rfl) g1, rfl⟩
      · rintro sC3 ⟨u0, u1, u2, u6, u7, u8, u9, u10, u11, u37, u46, u47, u58, u59, u100, u108, _, rfl⟩
        rcases hS with ⟨hc, rfl, rfl⟩ | ⟨hc, rfl, hs⟩
        · rw [decide_eq_false hc] at CL
          simp (disch := first|(simp only [Nat.reduceBEq,wE];done)|((repeat' (first|assumption|exact mAx _|refine mBx ?_ ?_|exact mCx (by assumption)|refine mDx ?_|refine mEx ?_ ?_ ?_|exact mFx|refine mGx ?_ ?_ ?_|exact mHx|exact mIx _|(simp only [wM,Nat.reduceAdd,Nat.reduceLT,Nat.reduceLeDiff];done)));done)|omega|decide) only [x0, x1, x2, callT CL, callT (lives_ev _), ↓wA,wB,wL,resOf,Nat.reduceBEq,Int.reduceBEq,Int.reduceBNe,Int.reduceLT,Int.reduceLE,Int.reduceAdd,Int.reduceSub,Int.reduceMul,Int.reduceToNat]
          exact ⟨_, rfl, rfl⟩
        · rw [decide_eq_true hc] at CL
          obtain ⟨h1', h2', h3', h4'⟩ := hc
          have bb : ∀ b : Bool, sBin .eql .bool (.bool b) (.bool b) = some (.bool true) := fun b => by rw [sBin_bool]; simp
          cases d1 : decide (m ≥ 2 * n - 1)
          · cases d2 : (r == 1)
            · rw [d1, d2] at hs
              have hs' : s = false := by simpa using hs
              subst hs'
              simp (disch := first|(simp only [Nat.reduceBEq,wE];done)|((repeat' (first|assumption|exact mAx _|refine mBx ?_ ?_|exact mCx (by assumption)|refine mDx ?_|refine mEx ?_ ?_ ?_|exact mFx|refine mGx ?_ ?_ ?_|exact mHx|exact mIx _|(simp only [wM,Nat.reduceAdd,Nat.reduceLT,Nat.reduceLeDiff];done)));done)|omega|decide) only [x0, x1, x2, callT CL, d1, d2, bb, callT (lives_ev _), ↓wA,wB,wL,resOf,Nat.reduceBEq,Int.reduceBEq,Int.reduceBNe,Int.reduceLT,Int.reduceLE,Int.reduceAdd,Int.reduceSub,Int.reduceMul,Int.reduceToNat]
              exact ⟨_, rfl, rfl⟩
            · rw [d1, d2] at hs
              have hs' : s = decide (m ≥ n) := by simpa using hs
              simp (disch := first|(simp only [Nat.reduceBEq,wE];done)|((repeat' (first|assumption|exact mAx _|refine mBx ?_ ?_|exact mCx (by assumption)|refine mDx ?_|refine mEx ?_ ?_ ?_|exact mFx|refine mGx ?_ ?_ ?_|exact mHx|exact mIx _|(simp only [wM,Nat.reduceAdd,Nat.reduceLT,Nat.reduceLeDiff];done)));done)|omega|decide) only [x0, x1, x2, callT CL, d1, d2, hs', bb, callT (lives_ev _), ↓wA,wB,wL,resOf,Nat.reduceBEq,Int.reduceBEq,Int.reduceBNe,Int.reduceLT,Int.reduceLE,Int.reduceAdd,Int.reduceSub,Int.reduceMul,Int.reduceToNat]
              exact ⟨_, rfl, rfl⟩
          · rw [d1] at hs
            have hs' : s = true := by simpa using hs
            subst hs'
            simp (disch := first|(simp only [Nat.reduceBEq,wE];done)|((repeat' (first|assumption|exact mAx _|refine mBx ?_ ?_|exact mCx (by assumption)|refine mDx ?_|refine mEx ?_ ?_ ?_|exact mFx|refine mGx ?_ ?_ ?_|exact mHx|exact mIx _|(simp only [wM,Nat.reduceAdd,Nat.reduceLT,Nat.reduceLeDiff];done)));done)|omega|decide) only [x0, x1, x2, callT CL, d1, bb, callT (lives_ev _), ↓wA,wB,wL,resOf,Nat.reduceBEq,Int.reduceBEq,Int.reduceBNe,Int.reduceLT,Int.reduceLE,Int.reduceAdd,Int.reduceSub,Int.reduceMul,Int.reduceToNat]
            exact ⟨_, rfl, rfl⟩
end Go.Proofs.YtbomimhfldmlbaaDoor
