/- Checks of graphs and orders; the measures and the cuts of an order. -/
import Derived.Test.YtihadgkgogfhcaaQ4
set_option linter.unusedSimpArgs false
set_option linter.unusedVariables false
set_option maxHeartbeats 4000000
set_option maxRecDepth 20000
namespace Go.Proofs.Ytihadgkgogfhcaa
open Go Go.Abs Go.Pa Go.Ro

theorem f60 (z : Int × Int) (i : Nat) (n : Int) (h : Hp) (hk : Hok h) (hb : Box h.blks i [.int .i64 n]) (hn : 1 ≤ n ∧ n ≤ 8) :
    Evals Try.prog tab false (.func 60) [.ag [.int .i64 z.1, .int .i64 z.2], .ptr i 0] h (.bool (bad n z), h) := by
  refine evals_pure c60 rfl hk ?_
  simp only [sf60, initS_cons, initS_nil]
  have k1 : Hok (h.en.pu [.int .i64 z.1, .int .i64 z.2]) := Hok.pu hk rfl
  have b1 : Box (h.en.pu [.int .i64 z.1, .int .i64 z.2]).blks i [.int .i64 n] := hb.sub (Sub.pu (h := h.en) hk)
  have g : Grown h (h.en.pu [.int .i64 z.1, .int .i64 z.2]) := Grown.pu Grown.en rfl
  by_cases e1 : 0 ≤ z.1 ∧ z.1 ≤ n - 1
  · by_cases e2 : 0 ≤ z.2 ∧ z.2 ≤ n - 1
    · by_cases e3 : z.1 = z.2
      · have e3t : (z.1 == z.2) = true := by simpa using e3
        simp (disch := first|(simp only [Nat.reduceBEq,wE];done)|((repeat' (first|assumption|exact mAx _|refine mBx ?_ ?_|exact mCx (by assumption)|refine mDx ?_|refine mEx ?_ ?_ ?_|exact mFx|refine mGx ?_ ?_ ?_|exact mHx|exact mIx _|(simp only [wM,Nat.reduceAdd,Nat.reduceLT,Nat.reduceLeDiff];done)));done)|omega|decide) only [b1.ld, callT (f54 _ _ _ _ _), decide_eq_true e1, decide_eq_true e2, e3t, ↓wA,wB,wL,resOf,Nat.reduceBEq,Int.reduceBEq,Int.reduceBNe,Int.reduceLT,Int.reduceLE,Int.reduceAdd,Int.reduceSub,Int.reduceMul,Int.reduceToNat]
        refine ⟨_, rfl, ?_, g⟩
        simp [bad, e1, e2, e3]
      · have e3t : (z.1 == z.2) = false := by simpa using e3
        simp (disch := first|(simp only [Nat.reduceBEq,wE];done)|((repeat' (first|assumption|exact mAx _|refine mBx ?_ ?_|exact mCx (by assumption)|refine mDx ?_|refine mEx ?_ ?_ ?_|exact mFx|refine mGx ?_ ?_ ?_|exact mHx|exact mIx _|(simp only [wM,Nat.reduceAdd,Nat.reduceLT,Nat.reduceLeDiff];done)));done)|omega|decide) only [b1.ld, callT (f54 _ _ _ _ _), decide_eq_true e1, decide_eq_true e2, e3t, ↓wA,wB,wL,resOf,Nat.reduceBEq,Int.reduceBEq,Int.reduceBNe,Int.reduceLT,Int.reduceLE,Int.reduceAdd,Int.reduceSub,Int.reduceMul,Int.reduceToNat]
        refine ⟨_, rfl, ?_, g⟩
        simp [bad, e1, e2, e3]
    · simp (disch := first|(simp only [Nat.reduceBEq,wE];done)|((repeat' (first|assumption|exact mAx _|refine mBx ?_ ?_|exact mCx (by assumption)|refine mDx ?_|refine mEx ?_ ?_ ?_|exact mFx|refine mGx ?_ ?_ ?_|exact mHx|exact mIx _|(simp only [wM,Nat.reduceAdd,Nat.reduceLT,Nat.reduceLeDiff];done)));done)|omega|decide) only [b1.ld, callT (f54 _ _ _ _ _), decide_eq_true e1, decide_eq_false e2, ↓wA,wB,wL,resOf,Nat.reduceBEq,Int.reduceBEq,Int.reduceBNe,Int.reduceLT,Int.reduceLE,Int.reduceAdd,Int.reduceSub,Int.reduceMul,Int.reduceToNat]
      refine ⟨_, rfl, ?_, g⟩
      simp only [bad, decide_eq_false e2, Bool.not_false, Bool.or_true, Bool.true_or]
  · simp (disch := first|(simp only [Nat.reduceBEq,wE];done)|((repeat' (first|assumption|exact mAx _|refine mBx ?_ ?_|exact mCx (by assumption)|refine mDx ?_|refine mEx ?_ ?_ ?_|exact mFx|refine mGx ?_ ?_ ?_|exact mHx|exact mIx _|(simp only [wM,Nat.reduceAdd,Nat.reduceLT,Nat.reduceLeDiff];done)));done)|omega|decide) only [b1.ld, callT (f54 _ _ _ _ _), decide_eq_false e1, ↓wA,wB,wL,resOf,Nat.reduceBEq,Int.reduceBEq,Int.reduceBNe,Int.reduceLT,Int.reduceLE,Int.reduceAdd,Int.reduceSub,Int.reduceMul,Int.reduceToNat]
    refine ⟨_, rfl, ?_, g⟩
    simp only [bad, decide_eq_false e1, Bool.not_false, Bool.or_true, Bool.true_or]

theorem f49 (n : Int) (a : AV) (E : List (Int × Int)) (h : Hp) (hk : Hok h) (ha : Pairs h.blks a E) (hE : E.length ≤ 100) :
    Evals Try.prog tab false (.func 49) [.int .i64 n, a] h (.int .i64 (errG n E), h) := by
  refine evals_pure c49 rfl hk ?_
  simp only [sf49, initS_cons, initS_nil]
  have k1 : Hok (h.en.pu [.int .i64 n]) := Hok.pu hk rfl
  have a1 : Pairs (h.en.pu [.int .i64 n]).blks a E := ha.sub (Sub.pu (h := h.en) hk)
  have b1 : Box (h.en.pu [.int .i64 n]).blks h.next [.int .i64 n] := Box.top
  have g : Grown h (h.en.pu [.int .i64 n]) := Grown.pu Grown.en rfl
  by_cases e1 : 30 < E.length
  · have e1t : decide ((30 : Int) < E.length) = true := decide_eq_true (by omega)
    simp (disch := first|(simp only [Nat.reduceBEq,wE];done)|((repeat' (first|assumption|exact mAx _|refine mBx ?_ ?_|exact mCx (by assumption)|refine mDx ?_|refine mEx ?_ ?_ ?_|exact mFx|refine mGx ?_ ?_ ?_|exact mHx|exact mIx _|(simp only [wM,Nat.reduceAdd,Nat.reduceLT,Nat.reduceLeDiff];done)));done)|omega|decide) only [a1.len, e1t, ↓wA,wB,wL,resOf,Nat.reduceBEq,Int.reduceBEq,Int.reduceBNe,Int.reduceLT,Int.reduceLE,Int.reduceAdd,Int.reduceSub,Int.reduceMul,Int.reduceToNat]
    refine ⟨_, rfl, ?_, g⟩
    rw [errG, if_pos e1]
  · have e1t : decide ((30 : Int) < E.length) = false := decide_eq_false (by omega)
    by_cases e2 : 1 ≤ n ∧ n ≤ 8
    · have cf := f61 a E 60 [.ptr h.next 0] (bad n) (h.en.pu [.int .i64 n]) k1 a1 (by omega) (fun z _ => f60 z h.next n (h.en.pu [.int .i64 n]).en k1 b1 e2)
      rw [bad_any e2] at cf
      by_cases e3 : GOK n E
      · rw [decide_eq_true e3] at cf
        simp (disch := first|(simp only [Nat.reduceBEq,wE];done)|((repeat' (first|assumption|exact mAx _|refine mBx ?_ ?_|exact mCx (by assumption)|refine mDx ?_|refine mEx ?_ ?_ ?_|exact mFx|refine mGx ?_ ?_ ?_|exact mHx|exact mIx _|(simp only [wM,Nat.reduceAdd,Nat.reduceLT,Nat.reduceLeDiff];done)));done)|omega|decide) only [a1.len, e1t, b1.ld, callT (f54 _ _ _ _ _), decide_eq_true e2, callT cf, ↓wA,wB,wL,resOf,Nat.reduceBEq,Int.reduceBEq,Int.reduceBNe,Int.reduceLT,Int.reduceLE,Int.reduceAdd,Int.reduceSub,Int.reduceMul,Int.reduceToNat]
        refine ⟨_, rfl, ?_, g⟩
        rw [errG, if_neg e1, if_pos e3]
      · rw [decide_eq_false e3] at cf
        simp (disch := first|(simp only [Nat.reduceBEq,wE];done)|((repeat' (first|assumption|exact mAx _|refine mBx ?_ ?_|exact mCx (by assumption)|refine mDx ?_|refine mEx ?_ ?_ ?_|exact mFx|refine mGx ?_ ?_ ?_|exact mHx|exact mIx _|(simp only [wM,Nat.reduceAdd,Nat.reduceLT,Nat.reduceLeDiff];done)));done)|omega|decide) only [a1.len, e1t, b1.ld, callT (f54 _ _ _ _ _), decide_eq_true e2, callT cf, ↓wA,wB,wL,resOf,Nat.reduceBEq,Int.reduceBEq,Int.reduceBNe,Int.reduceLT,Int.reduceLE,Int.reduceAdd,Int.reduceSub,Int.reduceMul,Int.reduceToNat]
        refine ⟨_, rfl, ?_, g⟩
        rw [errG, if_neg e1, if_neg e3]
    · simp (disch := first|(simp only [Nat.reduceBEq,wE];done)|((repeat' (first|assumption|exact mAx _|refine mBx ?_ ?_|exact mCx (by assumption)|refine mDx ?_|refine mEx ?_ ?_ ?_|exact mFx|refine mGx ?_ ?_ ?_|exact mHx|exact mIx _|(simp only [wM,Nat.reduceAdd,Nat.reduceLT,Nat.reduceLeDiff];done)));done)|omega|decide) only [a1.len, e1t, b1.ld, callT (f54 _ _ _ _ _), decide_eq_false e2, ↓wA,wB,wL,resOf,Nat.reduceBEq,Int.reduceBEq,Int.reduceBNe,Int.reduceLT,Int.reduceLE,Int.reduceAdd,Int.reduceSub,Int.reduceMul,Int.reduceToNat]
      refine ⟨_, rfl, ?_, g⟩
      rw [errG, if_neg e1, if_neg fun h => e2 h.1]

theorem f36 (n : Int) (a b : AV) (E : List (Int × Int)) (zs : List Int) (h : Hp) (hk : Hok h) (ha : Pairs h.blks a E) (hE : E.length ≤ 100) (hb : Ints h.blks .i64 b zs) (hz : zs.length ≤ 1000) :
    Evals Try.prog tab false (.func 36) [.int .i64 n, a, b] h (.int .i64 (errO n E zs), h) := by
  refine evals_pure c36 rfl hk ?_
  simp only [sf36, initS_cons, initS_nil]
  have cg := f49 n a E h.en hk ha hE
  by_cases e1 : errG n E = 0
  · obtain ⟨k, rfl, k0, k8, hE'⟩ := ((errG_0.1 e1).2).nat
    rw [e1] at cg
    have ip := f55 b zs k h.en hk hb (by omega) (by omega)
    by_cases e2 : PermI k zs
    · rw [decide_eq_true e2] at ip
      simp (disch := first|(simp only [Nat.reduceBEq,wE];done)|((repeat' (first|assumption|exact mAx _|refine mBx ?_ ?_|exact mCx (by assumption)|refine mDx ?_|refine mEx ?_ ?_ ?_|exact mFx|refine mGx ?_ ?_ ?_|exact mHx|exact mIx _|(simp only [wM,Nat.reduceAdd,Nat.reduceLT,Nat.reduceLeDiff];done)));done)|omega|decide) only [callT cg, callT ip, ↓wA,wB,wL,resOf,Nat.reduceBEq,Int.reduceBEq,Int.reduceBNe,Int.reduceLT,Int.reduceLE,Int.reduceAdd,Int.reduceSub,Int.reduceMul,Int.reduceToNat]
      refine ⟨_, rfl, ?_, by (repeat' (first|assumption|exact mAx _|refine mBx ?_ ?_|exact mCx (by assumption)|refine mDx ?_|refine mEx ?_ ?_ ?_|exact mFx|refine mGx ?_ ?_ ?_|exact mHx|exact mIx _|(simp only [wM,Nat.reduceAdd,Nat.reduceLT,Nat.reduceLeDiff];done)))⟩
      rw [errO, if_neg (by simp [e1]), if_pos e2]
    · rw [decide_eq_false e2] at ip
      simp (disch := first|(simp only [Nat.reduceBEq,wE];done)|((repeat' (first|assumption|exact mAx _|refine mBx ?_ ?_|exact mCx (by assumption)|refine mDx ?_|refine mEx ?_ ?_ ?_|exact mFx|refine mGx ?_ ?_ ?_|exact mHx|exact mIx _|(simp only [wM,Nat.reduceAdd,Nat.reduceLT,Nat.reduceLeDiff];done)));done)|omega|decide) only [callT cg, callT ip, ↓wA,wB,wL,resOf,Nat.reduceBEq,Int.reduceBEq,Int.reduceBNe,Int.reduceLT,Int.reduceLE,Int.reduceAdd,Int.reduceSub,Int.reduceMul,Int.reduceToNat]
      refine ⟨_, rfl, ?_, by (repeat' (first|assumption|exact mAx _|refine mBx ?_ ?_|exact mCx (by assumption)|refine mDx ?_|refine mEx ?_ ?_ ?_|exact mFx|refine mGx ?_ ?_ ?_|exact mHx|exact mIx _|(simp only [wM,Nat.reduceAdd,Nat.reduceLT,Nat.reduceLeDiff];done)))⟩
      rw [errO, if_neg (by simp [e1]), if_neg e2]
  · have e1t : (errG n E != 0) = true := by simpa using e1
    simp (disch := first|(simp only [Nat.reduceBEq,wE];done)|((repeat' (first|assumption|exact mAx _|refine mBx ?_ ?_|exact mCx (by assumption)|refine mDx ?_|refine mEx ?_ ?_ ?_|exact mFx|refine mGx ?_ ?_ ?_|exact mHx|exact mIx _|(simp only [wM,Nat.reduceAdd,Nat.reduceLT,Nat.reduceLeDiff];done)));done)|omega|decide) only [callT cg, e1t, ↓wA,wB,wL,resOf,Nat.reduceBEq,Int.reduceBEq,Int.reduceBNe,Int.reduceLT,Int.reduceLE,Int.reduceAdd,Int.reduceSub,Int.reduceMul,Int.reduceToNat]
    refine ⟨_, rfl, ?_, by (repeat' (first|assumption|exact mAx _|refine mBx ?_ ?_|exact mCx (by assumption)|refine mDx ?_|refine mEx ?_ ?_ ?_|exact mFx|refine mGx ?_ ?_ ?_|exact mHx|exact mIx _|(simp only [wM,Nat.reduceAdd,Nat.reduceLT,Nat.reduceLeDiff];done)))⟩
    rw [errO, if_pos e1]

theorem Measure_err (n : Int) (a b : AV) (E : List (Int × Int)) (zs : List Int) (h : Hp) (hk : Hok h) (ha : Pairs h.blks a E) (hE : E.length ≤ 100) (hb : Ints h.blks .i64 b zs) (hz : zs.length ≤ 1000) (he : errO n E zs ≠ 0) :
    Evals Try.prog tab false (.func 16) [.int .i64 n, a, b] h (.tu [.int .i64 0, .int .i64 0, .int .i64 0, .int .i64 (errO n E zs)], h) := by
  refine evals_pure c16 rfl hk ?_ rfl
  simp only [sf16, initS_cons, initS_nil]
  have co := f36 n a b E zs h.en hk ha hE hb hz
  have et : (errO n E zs != 0) = true := by simpa using he
  simp (disch := first|(simp only [Nat.reduceBEq,wE];done)|((repeat' (first|assumption|exact mAx _|refine mBx ?_ ?_|exact mCx (by assumption)|refine mDx ?_|refine mEx ?_ ?_ ?_|exact mFx|refine mGx ?_ ?_ ?_|exact mHx|exact mIx _|(simp only [wM,Nat.reduceAdd,Nat.reduceLT,Nat.reduceLeDiff];done)));done)|omega|decide) only [callT co, et, ↓wA,wB,wL,resOf,Nat.reduceBEq,Int.reduceBEq,Int.reduceBNe,Int.reduceLT,Int.reduceLE,Int.reduceAdd,Int.reduceSub,Int.reduceMul,Int.reduceToNat]
  exact ⟨_, rfl, rfl, by (repeat' (first|assumption|exact mAx _|refine mBx ?_ ?_|exact mCx (by assumption)|refine mDx ?_|refine mEx ?_ ?_ ?_|exact mFx|refine mGx ?_ ?_ ?_|exact mHx|exact mIx _|(simp only [wM,Nat.reduceAdd,Nat.reduceLT,Nat.reduceLeDiff];done)))⟩

theorem Measure_ok (n : Nat) (a b : AV) (E : List (Int × Int)) (zs : List Int) (h : Hp) (hk : Hok h) (ha : Pairs h.blks a E) (hb : Ints h.blks .i64 b zs) (hE : E.length ≤ 30) (hn : n ≤ 8) (h0 : 0 < n) (hO : EdgeOK n E) (hp : PermI n zs) :
    Evals Try.prog tab false (.func 16) [.int .i64 n, a, b] h (.tu [.int .i64 (cBand E zs), .int .i64 (cCut E zs), .int .i64 (cSum E zs), .int .i64 0], h) := by
  refine evals_pure c16 rfl hk ?_ rfl
  simp only [sf16, initS_cons, initS_nil]
  have hl := PermI.len hp
  have e0 : errO n E zs = 0 := by rw [errO, if_neg (by simp [errG_0.2 ⟨hE, gok h0 hn hO⟩]), if_pos hp]
  have co := f36 n a b E zs h.en hk ha (by omega) hb (by omega)
  rw [e0] at co
  have po := f37 b zs h.en hk hb (by omega) (fun z hz => by have := hp.2.1 z hz; omega) hp.2.2
  have g1 : Grown h (h.en.pu (ints .i64 (pArr (pos zs)))) := Grown.pu Grown.en refsOK_ints
  have k1 := g1.ok hk
  have a1 := ha.sub (g1.sub hk)
  have p8 : Pos8 (pos zs) := pos8 (by omega)
  have c1 := f38 a E (pos zs) p8 _ k1 a1 (by omega) (hO.in8 hn)
  have c2 := f39 a E (pos zs) p8 _ k1 a1 (by omega) (hO.in8 hn)
  have c3 := f40 a E (pos zs) p8 _ k1 a1 (by omega) (hO.in8 hn)
  have l1 : aggB (h.en.pu (ints .i64 (pArr (pos zs)))).blks h.next 0 8 = some (.ag (ints .i64 (pArr (pos zs)))) := ArrB.all (lim := 0) ⟨lkB_top, Nat.zero_le _⟩
  have st := sStore_ag (n := 8) (m := h.next + 1) (i := h.next) (bs := h.blks) (ls := h.loops) (base := h.next) (esc := false) (cs := ints .i64 (tabF 8 fun _ => 0)) (vs := ints .i64 (pArr (pos zs))) hk (by rw [ints_len, pArr, tabF_len]) (by rw [ints_len, tabF_len]) ints_cells.1 ints_cells.2
  rw [zero8]
  simp (disch := first|(simp only [Nat.reduceBEq,wE];done)|((repeat' (first|assumption|exact mAx _|refine mBx ?_ ?_|exact mCx (by assumption)|refine mDx ?_|refine mEx ?_ ?_ ?_|exact mFx|refine mGx ?_ ?_ ?_|exact mHx|exact mIx _|(simp only [wM,Nat.reduceAdd,Nat.reduceLT,Nat.reduceLeDiff];done)));done)|omega|decide) only [callT co, callT po, st, l1, callT c1, callT c2, callT c3, ↓wA,wB,wL,resOf,Nat.reduceBEq,Int.reduceBEq,Int.reduceBNe,Int.reduceLT,Int.reduceLE,Int.reduceAdd,Int.reduceSub,Int.reduceMul,Int.reduceToNat]
  exact ⟨_, rfl, rfl, g1⟩
end Go.Proofs.Ytihadgkgogfhcaa
