/- RouteSum: the sum of an order is the sum of its cuts; the cutwidth is the greatest one. -/
import Derived.Test.YtihadgkgogfhcaaU1
import Derived.Test.YtihadgkgogfhcaaFRouteSum
set_option linter.unusedSimpArgs false
set_option linter.unusedVariables false
set_option maxHeartbeats 4000000
set_option maxRecDepth 20000
namespace Go.Ro
open Go.Pa
theorem sumL_snoc {zs : List Int} {i : Nat} (hi : i < zs.length) : sumL (zs.take (i + 1)) = sumL (zs.take i) + zs.getD i 0 := by
  rw [List.take_succ_eq_append_getElem hi, sumL_app, getD_at hi]
  simp [sumL]
theorem sumL_bd {m : Int} : ∀ {l : List Int}, (∀ z ∈ l, 0 ≤ z ∧ z ≤ m) → 0 ≤ sumL l ∧ sumL l ≤ l.length * m
  | [], _ => by simp [sumL]
  | z :: l, h => by
    have := sumL_bd (l := l) fun x hx => h x (by simp [hx])
    have := h z (by simp)
    simp only [sumL, List.length_cons, Int.natCast_add, Int.add_mul]
    simp only [Int.natCast_one, Int.one_mul]
    omega
end Go.Ro
namespace Go.Proofs.Ytihadgkgogfhcaa
open Go Go.Abs Go.Pa Go.Ro

theorem f7 (k0 : Int) (x1 : AV) (l1 : List (Int × Int)) (x2 : AV) (l2 : List Int) (h : Hp) (hk : Hok h) (b0 : 0 ≤ k0 ∧ k0 ≤ 255)
    (P1 : Pairs8 h.blks x1 l1) (B1 : ∀ p ∈ l1, 0 ≤ p.1 ∧ p.1 ≤ 255 ∧ 0 ≤ p.2 ∧ p.2 ≤ 255) (S1 : l1.length ≤ maxLen)
    (P2 : Ints h.blks .u8 x2 l2) (B2 : ∀ k ∈ l2, 0 ≤ k ∧ k ≤ 255) (S2 : l2.length ≤ maxLen) :
    ∃ h', Evals Try.prog tab false (.func 7) [.int .u8 k0, x1, x2] h (.bool true, h') := by
  suffices H : ∃ v h', Evals Try.prog tab false (.func 7) [.int .u8 k0, x1, x2] h (v, h') ∧ v = .bool true by
    obtain ⟨v, h', e, rfl⟩ := H
    exact ⟨h', e⟩
  refine evals_func (Q := fun v _ => v = .bool true) c7 rfl ?_
  simp only [sf7, initS_cons, initS_nil]
  obtain ⟨n, E, s1, h1, n0, n8, hO, hE, e1, g1, o1⟩ := start1 k0 8 x1 l1 h.en hk (by omega) b0 P1 B1 S1
  have k1 : Hok h1 := g1.ok hk
  obtain ⟨o, s2, h2, hp, e2, g2, o2⟩ := start2 n x2 l2 h1 k1 n8 (P2.sub ((GrownR.of_en g1).sub hk)) B2 S2
  have k2 := g2.ok k1
  have p2 := o1.pairs.sub (g2.sub k1)
  have e3 := Measure_ok n s1 s2 E o h2 k2 p2 o2.ints (by omega) n8 n0 hO hp
  obtain ⟨v, h4, e4, g4, t, rfl, o4⟩ := Cuts_ok n s1 s2 E o h2 k2 p2 o2.ints (by omega) n8 n0 hO hp
  have k4 := g4.ok k2
  replace e1 : Evals Try.prog tab false (.func 33) [.int .u8 k0, x1, .int .i64 8] h.en (.tu [.int .i64 n, s1], h1) := e1
  obtain ⟨cs, ecs⟩ : ∃ cs, cs = cutsU (pos o) E (n - 1) := ⟨_, rfl⟩
  have lc : cs.length = n - 1 := by rw [ecs, cutsU_len]
  have cb : ∀ z ∈ cs, 0 ≤ z ∧ z ≤ 20 := fun z hz => by
    rw [ecs] at hz
    obtain ⟨q, _, rfl⟩ := List.mem_map.1 hz
    have h1 := cut_nonneg (p := pos o) (q := (q : Int)) (E := E)
    have h2 := cut_le (p := pos o) (q := (q : Int)) (E := E)
    omega
  have es : sumL cs = cSum E o := by rw [ecs]; exact total_cuts hp hO
  have ew : mxL cs = cCut E o := by rw [ecs]; exact (width_perm hp hO n8).symm
  rw [← ecs] at o4
  simp (disch := first|(simp only [Nat.reduceBEq,wE];done)|((repeat' (first|assumption|exact mAx _|refine mBx ?_ ?_|exact mCx (by assumption)|refine mDx ?_|refine mEx ?_ ?_ ?_|exact mFx|refine mGx ?_ ?_ ?_|exact mHx|exact mIx _|(simp only [wM,Nat.reduceAdd,Nat.reduceLT,Nat.reduceLeDiff];done)));done)|omega|decide) only [callT e1, callT e2, callT e3, callT e4, ↓wA,wB,wL,resOf,Nat.reduceBEq,Int.reduceBEq,Int.reduceBNe,Int.reduceLT,Int.reduceLE,Int.reduceAdd,Int.reduceSub,Int.reduceMul,Int.reduceToNat]
  refine wloop (fun mm ss => ∃ (i : Nat) (u0 u1 u2 u6 u8 u9 u47 : AV), (mm = cs.length - i) ∧ (i ≤ cs.length) ∧ ss = { fr := [(0, u0), (1, u1), (2, u2), (6, u6), (7, .int .i64 n), (8, u8), (9, u9), (11, .int .i64 (cCut E o)), (12, .int .i64 (cSum E o)), (13, .int .i64 0), (14, t), (15, .int .i64 0), (16, .int .i64 (sumL (cs.take i))), (17, .int .i64 (mxL (cs.take i))), (18, .int .i64 i), (47, u47)], hp := h4 }) (cs.length) ?_ ?_
  ·
    refine ⟨0, _, _, _, _, _, _, _, by omega, (by omega : (0 : Nat) ≤ cs.length), rfl⟩
  rintro nA sA ⟨i, u0, u1, u2, u6, u8, u9, u47, hnA, hi, rfl⟩
  simp (disch := first|(simp only [Nat.reduceBEq,wE];done)|((repeat' (first|assumption|exact mAx _|refine mBx ?_ ?_|exact mCx (by assumption)|refine mDx ?_|refine mEx ?_ ?_ ?_|exact mFx|refine mGx ?_ ?_ ?_|exact mHx|exact mIx _|(simp only [wM,Nat.reduceAdd,Nat.reduceLT,Nat.reduceLeDiff];done)));done)|omega|decide) only [o4.len, ↓wA,wB,wL,resOf,Nat.reduceBEq,Int.reduceBEq,Int.reduceBNe,Int.reduceLT,Int.reduceLE,Int.reduceAdd,Int.reduceSub,Int.reduceMul,Int.reduceToNat]
  refine ifThen_intro (fun e => ?_) (fun e => ?_) <;> have eq := e <;> try simp [-List.getD_eq_getElem?_getD] at eq
  · have hz : 0 ≤ cs.getD i 0 ∧ cs.getD i 0 ≤ 20 := by rw [getD_at eq]; exact cb _ (List.getElem_mem eq)
    have sb := sumL_bd (l := cs.take i) (m := 20) fun z hz => cb z (List.mem_of_mem_take hz)
    have sl := List.length_take_le i cs
    have s1 := sumL_snoc eq
    have m1 := mxL_snoc eq fun z hz => (cb z hz).1
    simp (disch := first|(simp only [Nat.reduceBEq,wE];done)|((repeat' (first|assumption|exact mAx _|refine mBx ?_ ?_|exact mCx (by assumption)|refine mDx ?_|refine mEx ?_ ?_ ?_|exact mFx|refine mGx ?_ ?_ ?_|exact mHx|exact mIx _|(simp only [wM,Nat.reduceAdd,Nat.reduceLT,Nat.reduceLeDiff];done)));done)|omega|decide) only [e, o4.ints.ix, o4.ints.ld, ↓wA,wB,wL,resOf,Nat.reduceBEq,Int.reduceBEq,Int.reduceBNe,Int.reduceLT,Int.reduceLE,Int.reduceAdd,Int.reduceSub,Int.reduceMul,Int.reduceToNat]
    rw [← s1, ← m1]
    refine ⟨_, ?_, i + 1, _, _, _, _, _, _, _, rfl, ?_, rfl⟩
    · omega
    omega
  · rw [List.take_of_length_le (by omega), es, ew]
    have ln : ((cs.length : Int) == (n : Int) - 1) = true := by simp; omega
    simp (disch := first|(simp only [Nat.reduceBEq,wE];done)|((repeat' (first|assumption|exact mAx _|refine mBx ?_ ?_|exact mCx (by assumption)|refine mDx ?_|refine mEx ?_ ?_ ?_|exact mFx|refine mGx ?_ ?_ ?_|exact mHx|exact mIx _|(simp only [wM,Nat.reduceAdd,Nat.reduceLT,Nat.reduceLeDiff];done)));done)|omega|decide) only [e, o4.len, ln, callT (f20 h4 k4), ↓wA,wB,wL,resOf,Nat.reduceBEq,Int.reduceBEq,Int.reduceBNe,Int.reduceLT,Int.reduceLE,Int.reduceAdd,Int.reduceSub,Int.reduceMul,Int.reduceToNat]
    exact ⟨_, rfl, rfl⟩
end Go.Proofs.Ytihadgkgogfhcaa
