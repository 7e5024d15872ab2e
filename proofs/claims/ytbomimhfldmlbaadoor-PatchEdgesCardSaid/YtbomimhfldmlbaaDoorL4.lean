/- PatchSlepian: Route finds a routing just if there are as many middle switches as inputs of a switch. -/
import Derived.Test.YtbomimhfldmlbaaDoorPK
import Derived.Test.YtbomimhfldmlbaaDoorFPatchSlepian
set_option linter.unusedSimpArgs false
set_option linter.unusedVariables false
set_option maxHeartbeats 4000000
set_option maxRecDepth 20000
namespace Go.Pa
theorem toN {zs : List Int} (h : ∀ z ∈ zs, 0 ≤ z) : zs = ofN (zs.map Int.toNat) := by
  unfold ofN
  rw [List.map_map]
  have : ∀ z ∈ zs, ((fun x : Nat => (x : Int)) ∘ Int.toNat) z = z := fun z hz => by have := h z hz; simp; omega
  rw [List.map_congr_left this, List.map_id']
theorem toN_le {zs : List Int} (h : ∀ z ∈ zs, 0 ≤ z ∧ z ≤ 255) : ∀ x ∈ zs.map Int.toNat, x ≤ 255 := fun x hx => by
  obtain ⟨z, hz, rfl⟩ := List.mem_map.1 hx
  have := h z hz
  omega
end Go.Pa
namespace Go.Proofs.YtbomimhfldmlbaaDoor
open Go Go.Abs Go.Pa

theorem f9 (x y z : Int) (a : AV) (zs : List Int) (h : Hp) (hk : Hok h) (bx : 0 ≤ x ∧ x ≤ 255) (by' : 0 ≤ y ∧ y ≤ 255) (bz : 0 ≤ z ∧ z ≤ 255)
    (ha : Ints h.blks .u8 a zs) (Ba : ∀ k ∈ zs, 0 ≤ k ∧ k ≤ 255) (Sa : zs.length ≤ maxLen) :
    ∃ h', Evals Tryd.prog tab false (.func 9) [.ag [.int .u8 x, .int .u8 y, .int .u8 z], a] h (.bool true, h') := by
  have Sa' : zs.length < 2 ^ 63 := by have : maxLen = 2 ^ 63 - 1 := rfl; omega
  obtain ⟨x, rfl⟩ : ∃ t : Nat, x = t := ⟨x.toNat, by omega⟩
  obtain ⟨y, rfl⟩ : ∃ t : Nat, y = t := ⟨y.toNat, by omega⟩
  obtain ⟨z, rfl⟩ : ∃ t : Nat, z = t := ⟨z.toNat, by omega⟩
  obtain ⟨code, rfl⟩ : ∃ c, zs = ofN c := ⟨_, toN fun z hz => (Ba z hz).1⟩
  have Bc : ∀ x ∈ code, x ≤ 255 := fun x hx => by have := Ba (x : Int) (List.mem_map.2 ⟨x, hx, rfl⟩); omega
  rw [ofN_len] at Sa'
  suffices H : ∃ v h', Evals Tryd.prog tab false (.func 9) [.ag [.int .u8 x, .int .u8 y, .int .u8 z], a] h (v, h') ∧ v = .bool true by
    obtain ⟨v, h', e, rfl⟩ := H
    exact ⟨h', e⟩
  refine evals_func (Q := fun v _ => v = .bool true) c9 rfl ?_
  simp only [sf9, initS_cons, initS_nil]
  have k0 : Hok (h.en.pu [.int .u8 x, .int .u8 y, .int .u8 z]) := Hok.pu hk rfl
  have s0 : Sub h.blks (h.en.pu [.int .u8 x, .int .u8 y, .int .u8 z]).blks := Sub.pu (h := h.en) hk
  have N := f44 x y z (h.en.pu [.int .u8 x, .int .u8 y, .int .u8 z]) k0 (by omega) (by omega) (by omega)
  obtain ⟨n0, n1, r0, r1, hw⟩ := net_ok x y
  obtain ⟨m0, m1, _⟩ := net_ok z 0
  generalize netN x = n at *
  generalize netR x y = r at *
  generalize netN z = m at *
  have e : (n : Int) * (r : Int) = ((n * r : Nat) : Int) := by simp
  have hc : Clos n r m := clos_of n0 n1 r0 r1 hw m0 m1
  obtain ⟨p, h1, e1, g1, o1⟩ := f45 (n * r) a code (h.en.pu [.int .u8 x, .int .u8 y, .int .u8 z]) k0 (ha.sub s0) (by omega) Sa' Bc
  have k1 := g1.ok k0
  have hp : PermI (n * r : Nat) (ofN (nthC code (n * r))) := nth_perm
  have lp : (ofN (nthC code (n * r))).length = n * r := by rw [ofN_len, nthC_len]
  obtain ⟨ps, eps⟩ : ∃ ps, ps = ofN (nthC code (n * r)) := ⟨_, rfl⟩
  rw [← eps] at o1 hp lp
  by_cases hm : n ≤ m
  · have em : decide ((m : Int) < n) = false := decide_eq_false (by omega)
    obtain ⟨v, h2, ev, g2, t, ts, rfl, t1, t2, t3, t4, t5, t6⟩ := Route_ok n r m p ps h1 k1 hc ⟨n0, n1⟩ hw m1 o1.ints (by omega) hp hm
    have k2 := g2.ok k1
    have o2 := o1.sub (g2.sub k1)
    have hcol : ColI m (n * r : Nat) ts := ⟨by omega, t4⟩
    have V := Valid_ok n r m p t ps ts h2 k2 hc ⟨n0, n1⟩ hw m1 o2.ints (by omega) hp t5.ints (by omega) hcol
    rw [decide_eq_true t2] at V
    have RR := f23 t ts (n * r) m h2 k2 t5.ints (by omega) (by omega)
    rw [decide_eq_true hcol] at RR
    have RV := f24 n p t ps ts h2 k2 ⟨n0, by omega⟩ o2.ints t5.ints (by omega) (by omega) (hp.bd (by omega))
    rw [decide_eq_true t2] at RV
    simp (disch := first|(simp only [Nat.reduceBEq,wE];done)|((repeat' (first|assumption|exact mAx _|refine mBx ?_ ?_|exact mCx (by assumption)|refine mDx ?_|refine mEx ?_ ?_ ?_|exact mFx|refine mGx ?_ ?_ ?_|exact mHx|exact mIx _|(simp only [wM,Nat.reduceAdd,Nat.reduceLT,Nat.reduceLeDiff];done)));done)|omega|decide) only [callT N, e, callT e1, callT ev, em, callT V, callT RR, callT RV, callT (lives_ev _), ↓wA,wB,wL,resOf,Nat.reduceBEq,Int.reduceBEq,Int.reduceBNe,Int.reduceLT,Int.reduceLE,Int.reduceAdd,Int.reduceSub,Int.reduceMul,Int.reduceToNat]
    exact ⟨_, rfl, rfl⟩
  · have em : decide ((m : Int) < n) = true := decide_eq_true (by omega)
    simp (disch := first|(simp only [Nat.reduceBEq,wE];done)|((repeat' (first|assumption|exact mAx _|refine mBx ?_ ?_|exact mCx (by assumption)|refine mDx ?_|refine mEx ?_ ?_ ?_|exact mFx|refine mGx ?_ ?_ ?_|exact mHx|exact mIx _|(simp only [wM,Nat.reduceAdd,Nat.reduceLT,Nat.reduceLeDiff];done)));done)|omega|decide) only [callT N, e, callT e1, callT (Route_none n r m p ps h1 k1 hc hw o1.ints (by omega) hp (by omega)), em, callT (lives_ev _), ↓wA,wB,wL,resOf,Nat.reduceBEq,Int.reduceBEq,Int.reduceBNe,Int.reduceLT,Int.reduceLE,Int.reduceAdd,Int.reduceSub,Int.reduceMul,Int.reduceToNat]
    exact ⟨_, rfl, rfl⟩
end Go.Proofs.YtbomimhfldmlbaaDoor
