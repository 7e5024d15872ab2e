/- PatchOmegas: Omega answers as the reference. -/
import Derived.Test.YtbomimhfldmlbaaDoorPM
import Derived.Test.YtbomimhfldmlbaaDoorFPatchOmegas
set_option linter.unusedSimpArgs false
set_option linter.unusedVariables false
set_option maxHeartbeats 4000000
set_option maxRecDepth 20000
namespace Go.Proofs.YtbomimhfldmlbaaDoor
open Go Go.Abs Go.Pa

theorem f7 (k : Int) (a : AV) (xs : List Int) (h : Hp) (hk : Hok h) (bk : -9223372036854775808 ≤ k ∧ k ≤ 9223372036854775807)
    (ha : Ints h.blks .i64 a xs) (Ba : ∀ k ∈ xs, -9223372036854775808 ≤ k ∧ k ≤ 9223372036854775807) (Sa : xs.length ≤ maxLen) :
    ∃ h', Evals Tryd.prog tab false (.func 7) [.int .i64 k, a] h (.bool true, h') := by
  have Sa' : xs.length < 2 ^ 63 := by have : maxLen = 2 ^ 63 - 1 := rfl; omega
  suffices H : ∃ v h', Evals Tryd.prog tab false (.func 7) [.int .i64 k, a] h (v, h') ∧ v = .bool true by
    obtain ⟨v, h', e, rfl⟩ := H
    exact ⟨h', e⟩
  refine evals_func (Q := fun v _ => v = .bool true) c7 rfl ?_
  simp only [sf7, initS_cons, initS_nil]
  obtain ⟨p, h1, e1, g1, o1⟩ := f17 a xs h.en hk ha Sa'
  have k1 := g1.ok hk
  obtain ⟨ps, eps⟩ : ∃ ps, ps = xs.take 13 := ⟨_, rfl⟩
  have lps : ps.length ≤ 13 := by rw [eps]; simp; omega
  rw [← eps] at o1
  by_cases hc : 1 ≤ k ∧ k ≤ 3
  · obtain ⟨k, rfl⟩ : ∃ n : Nat, k = n := ⟨k.toNat, by omega⟩
    have p8 := pow8 (show k ≤ 3 by omega)
    have s1 := sBin_shl1 (j := k) (by omega)
    by_cases hp : PermI (2 ^ k : Nat) ps
    · have bb : sBin .eql .bool (.bool (decide (OmP k ps))) (.bool (decide (OmP k ps))) = some (.bool true) := by rw [sBin_bool]; simp
      simp (disch := first|(simp only [Nat.reduceBEq,wE];done)|((repeat' (first|assumption|exact mAx _|refine mBx ?_ ?_|exact mCx (by assumption)|refine mDx ?_|refine mEx ?_ ?_ ?_|exact mFx|refine mGx ?_ ?_ ?_|exact mHx|exact mIx _|(simp only [wM,Nat.reduceAdd,Nat.reduceLT,Nat.reduceLeDiff];done)));done)|omega|decide) only [callT e1, callT (Omega_ok k p ps h1 k1 (by omega) o1.ints (by omega) hp), callT (f28 _ _ _ _ _), decide_eq_true hc, s1, callT (f22 p ps (2 ^ k) h1 k1 o1.ints (by omega) (by omega)), decide_eq_true hp, callT (f39 k p ps h1 k1 (by omega) o1.ints hp), bb, callT (lives_ev _), ↓wA,wB,wL,resOf,Nat.reduceBEq,Int.reduceBEq,Int.reduceBNe,Int.reduceLT,Int.reduceLE,Int.reduceAdd,Int.reduceSub,Int.reduceMul,Int.reduceToNat]
      exact ⟨_, rfl, rfl⟩
    · simp (disch := first|(simp only [Nat.reduceBEq,wE];done)|((repeat' (first|assumption|exact mAx _|refine mBx ?_ ?_|exact mCx (by assumption)|refine mDx ?_|refine mEx ?_ ?_ ?_|exact mFx|refine mGx ?_ ?_ ?_|exact mHx|exact mIx _|(simp only [wM,Nat.reduceAdd,Nat.reduceLT,Nat.reduceLeDiff];done)));done)|omega|decide) only [callT e1, callT (Omega_form k p ps h1 k1 (by omega) o1.ints (by omega) hp), callT (f28 _ _ _ _ _), decide_eq_true hc, s1, callT (f22 p ps (2 ^ k) h1 k1 o1.ints (by omega) (by omega)), decide_eq_false hp, callT (lives_ev _), ↓wA,wB,wL,resOf,Nat.reduceBEq,Int.reduceBEq,Int.reduceBNe,Int.reduceLT,Int.reduceLE,Int.reduceAdd,Int.reduceSub,Int.reduceMul,Int.reduceToNat]
      exact ⟨_, rfl, rfl⟩
  · simp (disch := first|(simp only [Nat.reduceBEq,wE];done)|((repeat' (first|assumption|exact mAx _|refine mBx ?_ ?_|exact mCx (by assumption)|refine mDx ?_|refine mEx ?_ ?_ ?_|exact mFx|refine mGx ?_ ?_ ?_|exact mHx|exact mIx _|(simp only [wM,Nat.reduceAdd,Nat.reduceLT,Nat.reduceLeDiff];done)));done)|omega|decide) only [callT e1, callT (Omega_arg k p h1 k1 hc), callT (f28 _ _ _ _ _), decide_eq_false hc, callT (lives_ev _), ↓wA,wB,wL,resOf,Nat.reduceBEq,Int.reduceBEq,Int.reduceBNe,Int.reduceLT,Int.reduceLE,Int.reduceAdd,Int.reduceSub,Int.reduceMul,Int.reduceToNat]
    exact ⟨_, rfl, rfl⟩
end Go.Proofs.YtbomimhfldmlbaaDoor
