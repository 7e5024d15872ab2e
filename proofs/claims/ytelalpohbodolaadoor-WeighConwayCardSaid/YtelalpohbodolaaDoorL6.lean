/- WeighConway: the set of Conway and Guy is distinct. -/
import Derived.Test.YtelalpohbodolaaDoorDI
import Derived.Test.YtelalpohbodolaaDoorD9
import Derived.Test.YtelalpohbodolaaDoorFWeighConway
set_option linter.unusedSimpArgs false
set_option linter.unusedVariables false
set_option maxHeartbeats 8000000
set_option maxRecDepth 20000
namespace Go.Wg
theorem cg_facts : ∀ m, m < 13 → 1 ≤ m → (cgS m).getD (m - 1) 0 = (uL m).getD m 0 ∧ (uL m).getD m 0 ≤ ((2 ^ (m - 1) : Nat) : Int) ∧ errW (cgS m) 12 0 = 0 := by decide +kernel
end Go.Wg
namespace Go.Proofs.YtelalpohbodolaaDoor
open Go Go.Abs Go.Wg

theorem f8 (k0 : Int) (h : Hp) (hk : Hok h) (b0 : 0 ≤ k0 ∧ k0 ≤ 255) :
    ∃ h', Evals Tryd.prog tab false (.func 8) [.int .u8 k0] h (.bool true, h') := by
  suffices H : ∃ v h', Evals Tryd.prog tab false (.func 8) [.int .u8 k0] h (v, h') ∧ v = .bool true by
    obtain ⟨v, h', e, rfl⟩ := H
    exact ⟨h', e⟩
  refine evals_func (Q := fun v _ => v = .bool true) c8 rfl ?_
  simp only [sf8, initS_cons, initS_nil]
  have r1 := Int.emod_nonneg k0 (show (12 : Int) ≠ 0 by omega)
  have r2 := Int.emod_lt_of_pos k0 (show (0 : Int) < 12 by omega)
  have tm : sBin .rem .no (.int .i64 k0) (.int .i64 12) = some (.int .i64 (k0 % 12)) := sBin_rem b0.1 (by omega)
  obtain ⟨m, hm⟩ : ∃ m : Nat, k0 % 12 + 1 = m := ⟨(k0 % 12 + 1).toNat, by omega⟩
  have m1 : 1 ≤ m := by omega
  have m2 : m < 13 := by omega
  obtain ⟨f1, f2, f3⟩ := cg_facts m m2 m1
  obtain ⟨v, h1, eS, g1, s, rfl, oS⟩ := f26 (m : Int) h.en hk
  have k1 := g1.ok hk
  have so : sOK (m : Int) := ⟨by omega, by omega⟩
  rw [if_pos so] at eS oS
  rw [Int.toNat_natCast] at oS
  have G := f25 (m : Int) h1 k1
  have go : gOK (m : Int) := ⟨by omega, by omega⟩
  rw [if_pos go, if_pos go, Int.toNat_natCast] at G
  have lc := cgS_len m
  obtain ⟨d, hd, DI⟩ := f14 s (cgS m) h1 k1 oS.ints (by omega)
  rw [f3] at DI hd
  have dd := cg_dist m2
  have hd' : d = true := by rw [hd]; simp [dd]
  subst hd'
  have bz : ∀ z ∈ cgS m, 0 ≤ z ∧ z ≤ 100000 := fun z hz => by have := cgS_bd m m2 z hz; omega
  have RD := f34d s (cgS m) h1 k1 oS.ints (by omega) bz dd
  have sl := oS.len
  rw [lc] at sl
  have c1 : (m : Int) - 1 = ((m - 1 : Nat) : Int) := by omega
  have x1 := oS.ints.ix (i := m - 1) h1 (by omega)
  have x2 := oS.ints.ld (Sub.refl _) (i := m - 1) (by omega)
  rw [f1] at x2
  have sh : sBin .shl .no (.int .i64 1) (.int .i64 ((m - 1 : Nat) : Int)) = some (.int .i64 ((2 ^ (m - 1) : Nat) : Int)) := sBin_shl1 (by omega)
  have e1 : ((uL m).getD m 0 == (uL m).getD m 0) = true := beq_self_eq_true _
  have e2 : ((m : Int) == (m : Int)) = true := beq_self_eq_true _
  have e3 : decide ((uL m).getD m 0 ≤ ((2 ^ (m - 1) : Nat) : Int)) = true := decide_eq_true f2
  simp (disch := first|(simp only [Nat.reduceBEq,wE];done)|((repeat' (first|assumption|exact mAx _|refine mBx ?_ ?_|exact mCx (by assumption)|refine mDx ?_|refine mEx ?_ ?_ ?_|exact mFx|refine mGx ?_ ?_ ?_|exact mHx|exact mIx _|(simp only [wM,Nat.reduceAdd,Nat.reduceLT,Nat.reduceLeDiff];done)));done)|omega|decide) only [tm, hm, callT eS, callT G, callT DI, sl, e2, c1, x1, x2, e1, sh, e3, callT RD, callT (lives_ev _), ↓wA,wB,wL,resOf,Nat.reduceBEq,Int.reduceBEq,Int.reduceBNe,Int.reduceLT,Int.reduceLE,Int.reduceAdd,Int.reduceSub,Int.reduceMul,Int.reduceToNat]
  exact ⟨_, rfl, rfl⟩
end Go.Proofs.YtelalpohbodolaaDoor
