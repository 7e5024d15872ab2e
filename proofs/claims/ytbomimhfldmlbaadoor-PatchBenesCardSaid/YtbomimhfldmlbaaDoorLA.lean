/- PatchBenes: Apply of Set is the permutation. -/
import Derived.Test.YtbomimhfldmlbaaDoorPV
import Derived.Test.YtbomimhfldmlbaaDoorFPatchBenes
set_option linter.unusedSimpArgs false
set_option linter.unusedVariables false
set_option maxHeartbeats 8000000
set_option maxRecDepth 20000
namespace Go.Proofs.YtbomimhfldmlbaaDoor
open Go Go.Abs Go.Pa

theorem f11 (x : Int) (a : AV) (zs : List Int) (h : Hp) (hk : Hok h) (bx : 0 ≤ x ∧ x ≤ 255)
    (ha : Ints h.blks .u8 a zs) (Ba : ∀ k ∈ zs, 0 ≤ k ∧ k ≤ 255) (Sa : zs.length ≤ maxLen) :
    ∃ h', Evals Tryd.prog tab false (.func 11) [.int .u8 x, a] h (.bool true, h') := by
  obtain ⟨x, rfl⟩ : ∃ t : Nat, x = t := ⟨x.toNat, by omega⟩
  obtain ⟨code, rfl⟩ : ∃ c, zs = ofN c := ⟨_, toN_ fun z hz => (Ba z hz).1⟩
  have Sa' : code.length < 2 ^ 63 := by have : maxLen = 2 ^ 63 - 1 := rfl; rw [ofN_len] at Sa; omega
  have bc : ∀ x ∈ code, x ≤ 255 := fun x hx => by have := (Ba x (List.mem_map.2 ⟨x, hx, rfl⟩)).2; omega
  suffices H : ∃ v h', Evals Tryd.prog tab false (.func 11) [.int .u8 x, a] h (v, h') ∧ v = .bool true by
    obtain ⟨v, h', e, rfl⟩ := H
    exact ⟨h', e⟩
  refine evals_func (Q := fun v _ => v = .bool true) c11 rfl ?_
  simp only [sf11, initS_cons, initS_nil]
  have w0 : IntKind.wrap .i64 (x : Int) = x := wrap_i64 (by omega) (by omega)
  obtain ⟨k, ek⟩ : ∃ k, k = x % 3 + 1 := ⟨_, rfl⟩
  have ek' : (x : Int) % 3 + 1 = (k : Int) := by omega
  have hk3 : 1 ≤ k ∧ k ≤ 3 := by omega
  have p8 := pow8 hk3.2
  have r0 : sBin .rem .no (.int .i64 (x : Int)) (.int .i64 3) = some (.int .i64 ((x : Int) % 3)) := sBin_rem (by omega) (by omega)
  have sw := sBin_shl1 (j := k) (by omega)
  obtain ⟨w, ew⟩ : ∃ w, w = 2 ^ k := ⟨_, rfl⟩
  rw [← ew] at sw p8
  obtain ⟨v, h1, ev, g1, o1⟩ := f45 w a code h.en hk ha (by omega) Sa' bc
  have k1 := g1.ok hk
  have hpm : PermI (2 ^ k : Nat) (ofN (nthC code w)) := by rw [← ew]; exact nth_perm
  obtain ⟨P, eP, hP⟩ := hpm.toP
  rw [eP] at hpm o1
  have lP : (ofN P).length ≤ 8 := by rw [ofN_len, hP.len, ← ew]; exact p8
  obtain ⟨S, hS, evS⟩ := Set_ok k v P h1 k1 hk3 o1.ints (by omega) hpm hP
  obtain ⟨t, h2, evA, g2, o2⟩ := Apply_ok k S h1 k1 hk3 hS.len hS.bit
  have k2 := g2.ok k1
  rw [hS.out] at o2
  have SW := f47 k h2 hk3.1 hk3.2 k2
  have SA := f26 t v (ofN P) (ofN P) h2 k2 o2.ints (o1.sub (g2.sub k1)).ints (by omega) (by omega)
  rw [decide_eq_true rfl] at SA
  have ls : (((strB S).length : Int) == ((swc k : Nat) : Int)) = true := by rw [strB_len, hS.len]; simp
  simp (disch := first|(simp only [Nat.reduceBEq,wE];done)|((repeat' (first|assumption|exact mAx _|refine mBx ?_ ?_|exact mCx (by assumption)|refine mDx ?_|refine mEx ?_ ?_ ?_|exact mFx|refine mGx ?_ ?_ ?_|exact mHx|exact mIx _|(simp only [wM,Nat.reduceAdd,Nat.reduceLT,Nat.reduceLeDiff];done)));done)|omega|decide) only [w0, r0, ek', sw, callT ev, callT evS, callT evA, callT SW, ls, callT SA, callT (lives_ev _), ↓wA,wB,wL,resOf,Nat.reduceBEq,Int.reduceBEq,Int.reduceBNe,Int.reduceLT,Int.reduceLE,Int.reduceAdd,Int.reduceSub,Int.reduceMul,Int.reduceToNat]
  exact ⟨_, rfl, rfl⟩
end Go.Proofs.YtbomimhfldmlbaaDoor
