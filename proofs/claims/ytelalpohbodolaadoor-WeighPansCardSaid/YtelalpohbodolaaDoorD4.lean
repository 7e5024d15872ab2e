/- Sums and indices of parts. -/
import Derived.Test.YtelalpohbodolaaDoorD3
set_option linter.unusedSimpArgs false
set_option linter.unusedVariables false
set_option maxHeartbeats 4000000
set_option maxRecDepth 20000
namespace Go.Wg
theorem WFp.bd {l : List Int} (h : WFp l) : ∀ a ∈ l, 0 ≤ a ∧ a ≤ 100000 := fun a ha => by have := h.2 a ha; omega
end Go.Wg
namespace Go.Proofs.YtelalpohbodolaaDoor
open Go Go.Abs Go.Wg

theorem f49 (s : Nat) (a : AV) (zs : List Int) (h : Hp) (hk : Hok h) (ha : Ints h.blks .i64 a zs) (hz : zs.length ≤ 16) (hs : s < 65536) (hb : ∀ z ∈ zs, 0 ≤ z ∧ z ≤ 100000) :
    Evals Tryd.prog tab false (.func 49) [.int .u64 s, a] h (.int .i64 (msum zs s), h) := by
  refine evals_pure c49 rfl hk ?_
  simp only [sf49, initS_cons, initS_nil]
  have bd : ∀ i, 0 ≤ msum (zs.take i) s ∧ msum (zs.take i) s ≤ 1600000 := fun i => by
    have := msum_bound (l := zs.take i) (W := 100000) (by omega) (fun a ha => hb a (List.mem_of_mem_take ha)) s
    have hl : (zs.take i).length ≤ 16 := by simp; omega
    have : (100000 : Int) * (zs.take i).length ≤ 1600000 := by omega
    omega
  simp (disch := first|(simp only [Nat.reduceBEq,wE];done)|((repeat' (first|assumption|exact mAx _|refine mBx ?_ ?_|exact mCx (by assumption)|refine mDx ?_|refine mEx ?_ ?_ ?_|exact mFx|refine mGx ?_ ?_ ?_|exact mHx|exact mIx _|(simp only [wM,Nat.reduceAdd,Nat.reduceLT,Nat.reduceLeDiff];done)));done)|omega|decide) only [ha.len, ↓wA,wB,wL,resOf,Nat.reduceBEq,Int.reduceBEq,Int.reduceBNe,Int.reduceLT,Int.reduceLE,Int.reduceAdd,Int.reduceSub,Int.reduceMul,Int.reduceToNat]
  refine wloop (fun mm ss => ∃ (i : Nat) (u4 u6 u7 u11 u17 : AV), (mm = zs.length - i) ∧ (i ≤ zs.length) ∧ ss = { fr := [(0, .int .u64 s), (1, a), (4, u4), (5, .int .i64 (msum (zs.take i) s)), (6, u6), (7, u7), (8, a), (9, .int .i64 zs.length), (10, .int .i64 i), (11, u11), (17, u17)], hp := h.en }) (zs.length) ?_ ?_
  ·
    refine ⟨0, _, _, _, _, _, by omega, by omega, rfl⟩
  rintro nA sA ⟨i, u4, u6, u7, u11, u17, hnA, hi, rfl⟩
  simp (disch := first|(simp only [Nat.reduceBEq,wE];done)|((repeat' (first|assumption|exact mAx _|refine mBx ?_ ?_|exact mCx (by assumption)|refine mDx ?_|refine mEx ?_ ?_ ?_|exact mFx|refine mGx ?_ ?_ ?_|exact mHx|exact mIx _|(simp only [wM,Nat.reduceAdd,Nat.reduceLT,Nat.reduceLeDiff];done)));done)|omega|decide) only [↓wA,wB,wL,resOf,Nat.reduceBEq,Int.reduceBEq,Int.reduceBNe,Int.reduceLT,Int.reduceLE,Int.reduceAdd,Int.reduceSub,Int.reduceMul,Int.reduceToNat]
  refine ifThen_intro (fun e => ?_) (fun e => ?_) <;> have eq := e <;> try simp [-List.getD_eq_getElem?_getD] at eq
  · have m := msum_take zs s eq
    have b0 := bd i
    have b1 := bd (i + 1)
    have H := f62 s i h.en hk hs (by omega)
    cases eb : bt s i
    · rw [eb] at H
      rw [eb, if_neg (by simp), Int.add_zero] at m
      simp (disch := first|(simp only [Nat.reduceBEq,wE];done)|((repeat' (first|assumption|exact mAx _|refine mBx ?_ ?_|exact mCx (by assumption)|refine mDx ?_|refine mEx ?_ ?_ ?_|exact mFx|refine mGx ?_ ?_ ?_|exact mHx|exact mIx _|(simp only [wM,Nat.reduceAdd,Nat.reduceLT,Nat.reduceLeDiff];done)));done)|omega|decide) only [e, ha.ix, ha.ld, callT H, ↓wA,wB,wL,resOf,Nat.reduceBEq,Int.reduceBEq,Int.reduceBNe,Int.reduceLT,Int.reduceLE,Int.reduceAdd,Int.reduceSub,Int.reduceMul,Int.reduceToNat]
      rw [← m]
      refine ⟨_, ?_, i + 1, _, _, _, _, _, rfl, ?_, rfl⟩
      · omega
      omega
    · rw [eb] at H
      rw [eb, if_pos rfl] at m
      have hz1 : 0 ≤ zs.getD i 0 ∧ zs.getD i 0 ≤ 100000 := hb _ (by rw [List.getD_eq_getElem?_getD, List.getElem?_eq_getElem eq, Option.getD_some]; exact List.getElem_mem eq)
      simp (disch := first|(simp only [Nat.reduceBEq,wE];done)|((repeat' (first|assumption|exact mAx _|refine mBx ?_ ?_|exact mCx (by assumption)|refine mDx ?_|refine mEx ?_ ?_ ?_|exact mFx|refine mGx ?_ ?_ ?_|exact mHx|exact mIx _|(simp only [wM,Nat.reduceAdd,Nat.reduceLT,Nat.reduceLeDiff];done)));done)|omega|decide) only [e, ha.ix, ha.ld, callT H, ↓wA,wB,wL,resOf,Nat.reduceBEq,Int.reduceBEq,Int.reduceBNe,Int.reduceLT,Int.reduceLE,Int.reduceAdd,Int.reduceSub,Int.reduceMul,Int.reduceToNat]
      rw [← m]
      refine ⟨_, ?_, i + 1, _, _, _, _, _, rfl, ?_, rfl⟩
      · omega
      omega
  · simp (disch := first|(simp only [Nat.reduceBEq,wE];done)|((repeat' (first|assumption|exact mAx _|refine mBx ?_ ?_|exact mCx (by assumption)|refine mDx ?_|refine mEx ?_ ?_ ?_|exact mFx|refine mGx ?_ ?_ ?_|exact mHx|exact mIx _|(simp only [wM,Nat.reduceAdd,Nat.reduceLT,Nat.reduceLeDiff];done)));done)|omega|decide) only [e, ↓wA,wB,wL,resOf,Nat.reduceBEq,Int.reduceBEq,Int.reduceBNe,Int.reduceLT,Int.reduceLE,Int.reduceAdd,Int.reduceSub,Int.reduceMul,Int.reduceToNat]
    refine ⟨_, rfl, ?_, by (repeat' (first|assumption|exact mAx _|refine mBx ?_ ?_|exact mCx (by assumption)|refine mDx ?_|refine mEx ?_ ?_ ?_|exact mFx|refine mGx ?_ ?_ ?_|exact mHx|exact mIx _|(simp only [wM,Nat.reduceAdd,Nat.reduceLT,Nat.reduceLeDiff];done)))⟩
    rw [List.take_of_length_le (by omega)]

theorem f41 (s : Nat) (h : Hp) (hk : Hok h) (hs : s < 65536) :
    ∃ v h', Evals Tryd.prog tab false (.func 41) [.int .u64 s] h (v, h') ∧ Grown h h' ∧ Own h.next h'.blks .i64 v (fl (blen s) s) := by
  refine evals_q c41 (fun v h' => Own h.next h'.blks .i64 v (fl (blen s) s)) rfl hk ?_ (fun v h1 g q => q.leave)
  simp only [sf41, initS_cons, initS_nil]
  have bl : blen s ≤ 16 := blen_le.2 (by omega)
  have la := f61 s h.en hk hs
  have c1 : (blen s : Int) - 1 + 1 = (blen s : Nat) := by omega
  simp (disch := first|(simp only [Nat.reduceBEq,wE];done)|((repeat' (first|assumption|exact mAx _|refine mBx ?_ ?_|exact mCx (by assumption)|refine mDx ?_|refine mEx ?_ ?_ ?_|exact mFx|refine mGx ?_ ?_ ?_|exact mHx|exact mIx _|(simp only [wM,Nat.reduceAdd,Nat.reduceLT,Nat.reduceLeDiff];done)));done)|omega|decide) only [callT la, c1, ↓wA,wB,wL,resOf,Nat.reduceBEq,Int.reduceBEq,Int.reduceBNe,Int.reduceLT,Int.reduceLE,Int.reduceAdd,Int.reduceSub,Int.reduceMul,Int.reduceToNat]
  refine wloop (fun mm ss => ∃ (i : Nat) (q : AV) (h1 : Hp) (u2 u4 u9 u13 : AV), (mm = blen s - i) ∧ (i ≤ blen s ∧ Grown h h1 ∧ Own h.next h1.blks .i64 q (fl i s)) ∧ ss = { fr := [(0, .int .u64 s), (2, u2), (3, q), (4, u4), (7, .int .i64 (blen s)), (8, .int .i64 i), (9, u9), (13, u13)], hp := h1 }) (blen s) ?_ ?_
  ·
    refine ⟨0, _, _, _, _, _, _, by omega, ⟨by omega, Grown.en, Own.nil⟩, rfl⟩
  rintro nA sA ⟨i, q, h1, u2, u4, u9, u13, hnA, ⟨hi, g1, o1⟩, rfl⟩
  have k1 := g1.ok hk
  simp (disch := first|(simp only [Nat.reduceBEq,wE];done)|((repeat' (first|assumption|exact mAx _|refine mBx ?_ ?_|exact mCx (by assumption)|refine mDx ?_|refine mEx ?_ ?_ ?_|exact mFx|refine mGx ?_ ?_ ?_|exact mHx|exact mIx _|(simp only [wM,Nat.reduceAdd,Nat.reduceLT,Nat.reduceLeDiff];done)));done)|omega|decide) only [↓wA,wB,wL,resOf,Nat.reduceBEq,Int.reduceBEq,Int.reduceBNe,Int.reduceLT,Int.reduceLE,Int.reduceAdd,Int.reduceSub,Int.reduceMul,Int.reduceToNat]
  refine ifThen_intro (fun e => ?_) (fun e => ?_) <;> have eq := e <;> try simp [-List.getD_eq_getElem?_getD] at eq
  · have H := f62 s i h1 k1 hs (by omega)
    have fs := fl_suc i s
    have hl : (fl i s).length ≤ 16 := by
      unfold fl
      rw [List.length_map]
      have := List.length_filter_le (fun j => bt s j) (List.range i)
      rw [List.length_range] at this
      omega
    cases eb : bt s i
    · rw [eb] at H
      rw [eb, if_neg (by simp), List.append_nil] at fs
      simp (disch := first|(simp only [Nat.reduceBEq,wE];done)|((repeat' (first|assumption|exact mAx _|refine mBx ?_ ?_|exact mCx (by assumption)|refine mDx ?_|refine mEx ?_ ?_ ?_|exact mFx|refine mGx ?_ ?_ ?_|exact mHx|exact mIx _|(simp only [wM,Nat.reduceAdd,Nat.reduceLT,Nat.reduceLeDiff];done)));done)|omega|decide) only [e, callT H, ↓wA,wB,wL,resOf,Nat.reduceBEq,Int.reduceBEq,Int.reduceBNe,Int.reduceLT,Int.reduceLE,Int.reduceAdd,Int.reduceSub,Int.reduceMul,Int.reduceToNat]
      refine ⟨_, ?_, i + 1, _, _, _, _, _, _, rfl, ?_, rfl⟩
      · omega
      exact ⟨by omega, g1, by rw [fs]; exact o1⟩
    · rw [eb] at H
      rw [eb, if_pos rfl] at fs
      obtain ⟨s2, h2, y1, y2, y3, y4⟩ := own_app1 (v := (i : Int)) hk g1 o1 (by omega)
      simp (disch := first|(simp only [Nat.reduceBEq,wE];done)|((repeat' (first|assumption|exact mAx _|refine mBx ?_ ?_|exact mCx (by assumption)|refine mDx ?_|refine mEx ?_ ?_ ?_|exact mFx|refine mGx ?_ ?_ ?_|exact mHx|exact mIx _|(simp only [wM,Nat.reduceAdd,Nat.reduceLT,Nat.reduceLeDiff];done)));done)|omega|decide) only [e, callT H, sBS_1, y1, ↓wA,wB,wL,resOf,Nat.reduceBEq,Int.reduceBEq,Int.reduceBNe,Int.reduceLT,Int.reduceLE,Int.reduceAdd,Int.reduceSub,Int.reduceMul,Int.reduceToNat]
      refine ⟨_, ?_, i + 1, _, _, _, _, _, _, rfl, ?_, rfl⟩
      · omega
      exact ⟨by omega, y3, by rw [fs]; exact y2⟩
  · simp (disch := first|(simp only [Nat.reduceBEq,wE];done)|((repeat' (first|assumption|exact mAx _|refine mBx ?_ ?_|exact mCx (by assumption)|refine mDx ?_|refine mEx ?_ ?_ ?_|exact mFx|refine mGx ?_ ?_ ?_|exact mHx|exact mIx _|(simp only [wM,Nat.reduceAdd,Nat.reduceLT,Nat.reduceLeDiff];done)));done)|omega|decide) only [e, ↓wA,wB,wL,resOf,Nat.reduceBEq,Int.reduceBEq,Int.reduceBNe,Int.reduceLT,Int.reduceLE,Int.reduceAdd,Int.reduceSub,Int.reduceMul,Int.reduceToNat]
    refine ⟨_, rfl, g1, ?_⟩
    rw [show i = blen s by omega] at o1
    exact o1
end Go.Proofs.YtelalpohbodolaaDoor
