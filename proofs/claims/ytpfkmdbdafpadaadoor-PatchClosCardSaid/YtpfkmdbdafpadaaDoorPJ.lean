/- Multigraphs: Colors, and the reference's. -/
import Derived.Test.YtpfkmdbdafpadaaDoorPI
set_option linter.unusedSimpArgs false
set_option linter.unusedVariables false
set_option maxHeartbeats 4000000
set_option maxRecDepth 20000
namespace Go.Proofs.YtpfkmdbdafpadaaDoor
open Go Go.Abs Go.Pa

theorem f51 (e : Int × Int) (i j : Nat) (a b : Int) (h : Hp) (hk : Hok h) (hi : Box h.blks i [.int .i64 a]) (hj : Box h.blks j [.int .i64 b]) (ha : 1 ≤ a ∧ a ≤ 6) (hb : 1 ≤ b ∧ b ≤ 6) :
    Evals Tryd.prog tab false (.func 51) [.ag [.int .i64 e.1, .int .i64 e.2], .ptr i 0, .ptr j 0] h (.bool (!decide ((0 ≤ e.1 ∧ e.1 ≤ a - 1) ∧ (0 ≤ e.2 ∧ e.2 ≤ b - 1))), h) := by
  refine evals_pure c51 rfl hk ?_
  simp only [sf51, initS_cons, initS_nil]
  have k1 : Hok (h.en.pu [.int .i64 e.1, .int .i64 e.2]) := Hok.pu hk rfl
  have i1 := (hi.sub (Sub.pu (h := h.en) (cs := [.int .i64 e.1, .int .i64 e.2]) hk)).ld (Sub.refl _) (j := 0)
  have j1 := (hj.sub (Sub.pu (h := h.en) (cs := [.int .i64 e.1, .int .i64 e.2]) hk)).ld (Sub.refl _) (j := 0)
  by_cases c1 : 0 ≤ e.1 ∧ e.1 ≤ a - 1
  · by_cases c2 : 0 ≤ e.2 ∧ e.2 ≤ b - 1
    · simp (disch := first|(simp only [Nat.reduceBEq,wE];done)|((repeat' (first|assumption|exact mAx _|refine mBx ?_ ?_|exact mCx (by assumption)|refine mDx ?_|refine mEx ?_ ?_ ?_|exact mFx|refine mGx ?_ ?_ ?_|exact mHx|exact mIx _|(simp only [wM,Nat.reduceAdd,Nat.reduceLT,Nat.reduceLeDiff];done)));done)|omega|decide) only [i1, j1, callT (f26 _ _ _ _ _), decide_eq_true c1, decide_eq_true c2, ↓wA,wB,wL,resOf,Nat.reduceBEq,Int.reduceBEq,Int.reduceBNe,Int.reduceLT,Int.reduceLE,Int.reduceAdd,Int.reduceSub,Int.reduceMul,Int.reduceToNat]
      refine ⟨_, rfl, ?_, by (repeat' (first|assumption|exact mAx _|refine mBx ?_ ?_|exact mCx (by assumption)|refine mDx ?_|refine mEx ?_ ?_ ?_|exact mFx|refine mGx ?_ ?_ ?_|exact mHx|exact mIx _|(simp only [wM,Nat.reduceAdd,Nat.reduceLT,Nat.reduceLeDiff];done)))⟩
      rw [decide_eq_true (And.intro c1 c2)]
      rfl
    · simp (disch := first|(simp only [Nat.reduceBEq,wE];done)|((repeat' (first|assumption|exact mAx _|refine mBx ?_ ?_|exact mCx (by assumption)|refine mDx ?_|refine mEx ?_ ?_ ?_|exact mFx|refine mGx ?_ ?_ ?_|exact mHx|exact mIx _|(simp only [wM,Nat.reduceAdd,Nat.reduceLT,Nat.reduceLeDiff];done)));done)|omega|decide) only [i1, j1, callT (f26 _ _ _ _ _), decide_eq_true c1, decide_eq_false c2, ↓wA,wB,wL,resOf,Nat.reduceBEq,Int.reduceBEq,Int.reduceBNe,Int.reduceLT,Int.reduceLE,Int.reduceAdd,Int.reduceSub,Int.reduceMul,Int.reduceToNat]
      refine ⟨_, rfl, ?_, by (repeat' (first|assumption|exact mAx _|refine mBx ?_ ?_|exact mCx (by assumption)|refine mDx ?_|refine mEx ?_ ?_ ?_|exact mFx|refine mGx ?_ ?_ ?_|exact mHx|exact mIx _|(simp only [wM,Nat.reduceAdd,Nat.reduceLT,Nat.reduceLeDiff];done)))⟩
      rw [decide_eq_false fun h => c2 h.2]
      rfl
  · simp (disch := first|(simp only [Nat.reduceBEq,wE];done)|((repeat' (first|assumption|exact mAx _|refine mBx ?_ ?_|exact mCx (by assumption)|refine mDx ?_|refine mEx ?_ ?_ ?_|exact mFx|refine mGx ?_ ?_ ?_|exact mHx|exact mIx _|(simp only [wM,Nat.reduceAdd,Nat.reduceLT,Nat.reduceLeDiff];done)));done)|omega|decide) only [i1, callT (f26 _ _ _ _ _), decide_eq_false c1, ↓wA,wB,wL,resOf,Nat.reduceBEq,Int.reduceBEq,Int.reduceBNe,Int.reduceLT,Int.reduceLE,Int.reduceAdd,Int.reduceSub,Int.reduceMul,Int.reduceToNat]
    refine ⟨_, rfl, ?_, by (repeat' (first|assumption|exact mAx _|refine mBx ?_ ?_|exact mCx (by assumption)|refine mDx ?_|refine mEx ?_ ?_ ?_|exact mFx|refine mGx ?_ ?_ ?_|exact mHx|exact mIx _|(simp only [wM,Nat.reduceAdd,Nat.reduceLT,Nat.reduceLeDiff];done)))⟩
    rw [decide_eq_false fun h => c1 h.1]
    rfl

theorem f39 (a b : Int) (s : AV) (E : List (Int × Int)) (h : Hp) (hk : Hok h) (hs : Pairs h.blks s E) (hE : E.length ≤ 1000) :
    Evals Tryd.prog tab false (.func 39) [.int .i64 a, .int .i64 b, s] h (.bool (decide (GraphOK a b E)), h) := by
  refine evals_pure c39 rfl hk ?_
  simp only [sf39, initS_cons, initS_nil]
  have g2 : Grown h ((h.en.pu [.int .i64 a]).pu [.int .i64 b]) := Grown.pu (Grown.pu Grown.en rfl) rfl
  have k2 := g2.ok hk
  have s2 := hs.sub (g2.sub hk)
  have bi : Box ((h.en.pu [.int .i64 a]).pu [.int .i64 b]).blks h.next [.int .i64 a] := ⟨h.next, true, by rw [lkB_push (by simp), lkB_top]⟩
  have bj : Box ((h.en.pu [.int .i64 a]).pu [.int .i64 b]).blks (h.next + 1) [.int .i64 b] := Box.top
  have i1 := bi.ld (Sub.refl _) (j := 0)
  have j1 := bj.ld (Sub.refl _) (j := 0)
  by_cases c1 : 1 ≤ a ∧ a ≤ 6
  · by_cases c2 : 1 ≤ b ∧ b ≤ 6
    · simp (disch := first|(simp only [Nat.reduceBEq,wE];done)|((repeat' (first|assumption|exact mAx _|refine mBx ?_ ?_|exact mCx (by assumption)|refine mDx ?_|refine mEx ?_ ?_ ?_|exact mFx|refine mGx ?_ ?_ ?_|exact mHx|exact mIx _|(simp only [wM,Nat.reduceAdd,Nat.reduceLT,Nat.reduceLeDiff];done)));done)|omega|decide) only [sBox_int, i1, j1, callT (f26 _ _ _ _ _), decide_eq_true c1, decide_eq_true c2,
        callT (f16 s E 51 [.ptr h.next 0, .ptr (h.next + 1) 0] (fun e => !decide ((0 ≤ e.1 ∧ e.1 ≤ a - 1) ∧ (0 ≤ e.2 ∧ e.2 ≤ b - 1))) ((h.en.pu [.int .i64 a]).pu [.int .i64 b]) k2 s2 (by omega) (fun z _ => f51 z h.next (h.next + 1) a b ((h.en.pu [.int .i64 a]).pu [.int .i64 b]).en k2 bi bj c1 c2)), ↓wA,wB,wL,resOf,Nat.reduceBEq,Int.reduceBEq,Int.reduceBNe,Int.reduceLT,Int.reduceLE,Int.reduceAdd,Int.reduceSub,Int.reduceMul,Int.reduceToNat]
      refine ⟨_, rfl, congrArg AV.bool ?_, by (repeat' (first|assumption|exact mAx _|refine mBx ?_ ?_|exact mCx (by assumption)|refine mDx ?_|refine mEx ?_ ?_ ?_|exact mFx|refine mGx ?_ ?_ ?_|exact mHx|exact mIx _|(simp only [wM,Nat.reduceAdd,Nat.reduceLT,Nat.reduceLeDiff];done)))⟩
      rw [Bool.eq_iff_iff, decide_eq_true_iff]
      simp only [Bool.not_eq_true', List.any_eq_false]
      constructor
      · intro H
        refine ⟨c1, c2, fun e he => ?_⟩
        have := H e he
        simp at this
        omega
      · intro H e he
        have := H.2.2 e he
        simp
        omega
    · simp (disch := first|(simp only [Nat.reduceBEq,wE];done)|((repeat' (first|assumption|exact mAx _|refine mBx ?_ ?_|exact mCx (by assumption)|refine mDx ?_|refine mEx ?_ ?_ ?_|exact mFx|refine mGx ?_ ?_ ?_|exact mHx|exact mIx _|(simp only [wM,Nat.reduceAdd,Nat.reduceLT,Nat.reduceLeDiff];done)));done)|omega|decide) only [sBox_int, i1, j1, callT (f26 _ _ _ _ _), decide_eq_true c1, decide_eq_false c2, ↓wA,wB,wL,resOf,Nat.reduceBEq,Int.reduceBEq,Int.reduceBNe,Int.reduceLT,Int.reduceLE,Int.reduceAdd,Int.reduceSub,Int.reduceMul,Int.reduceToNat]
      refine ⟨_, rfl, ?_, by (repeat' (first|assumption|exact mAx _|refine mBx ?_ ?_|exact mCx (by assumption)|refine mDx ?_|refine mEx ?_ ?_ ?_|exact mFx|refine mGx ?_ ?_ ?_|exact mHx|exact mIx _|(simp only [wM,Nat.reduceAdd,Nat.reduceLT,Nat.reduceLeDiff];done)))⟩
      rw [decide_eq_false fun h => c2 h.2.1]
  · simp (disch := first|(simp only [Nat.reduceBEq,wE];done)|((repeat' (first|assumption|exact mAx _|refine mBx ?_ ?_|exact mCx (by assumption)|refine mDx ?_|refine mEx ?_ ?_ ?_|exact mFx|refine mGx ?_ ?_ ?_|exact mHx|exact mIx _|(simp only [wM,Nat.reduceAdd,Nat.reduceLT,Nat.reduceLeDiff];done)));done)|omega|decide) only [sBox_int, i1, callT (f26 _ _ _ _ _), decide_eq_false c1, ↓wA,wB,wL,resOf,Nat.reduceBEq,Int.reduceBEq,Int.reduceBNe,Int.reduceLT,Int.reduceLE,Int.reduceAdd,Int.reduceSub,Int.reduceMul,Int.reduceToNat]
    refine ⟨_, rfl, ?_, by (repeat' (first|assumption|exact mAx _|refine mBx ?_ ?_|exact mCx (by assumption)|refine mDx ?_|refine mEx ?_ ?_ ?_|exact mFx|refine mGx ?_ ?_ ?_|exact mHx|exact mIx _|(simp only [wM,Nat.reduceAdd,Nat.reduceLT,Nat.reduceLeDiff];done)))⟩
    rw [decide_eq_false fun h => c1 h.1]

theorem Colors_long (a b : Int) (s : AV) (E : List (Int × Int)) (h : Hp) (hk : Hok h) (hs : Pairs h.blks s E) (hE : 12 < E.length) (hE2 : E.length ≤ 1000) :
    Evals Tryd.prog tab false (.func 24) [.int .i64 a, .int .i64 b, s] h (.tu [.nilsl, .int .i64 3], h) := by
  refine evals_pure c24 rfl hk ?_
  simp only [sf24, initS_cons, initS_nil]
  have e1 : decide ((E.length : Int) > 12) = true := decide_eq_true (by omega)
  simp (disch := first|(simp only [Nat.reduceBEq,wE];done)|((repeat' (first|assumption|exact mAx _|refine mBx ?_ ?_|exact mCx (by assumption)|refine mDx ?_|refine mEx ?_ ?_ ?_|exact mFx|refine mGx ?_ ?_ ?_|exact mHx|exact mIx _|(simp only [wM,Nat.reduceAdd,Nat.reduceLT,Nat.reduceLeDiff];done)));done)|omega|decide) only [hs.len, e1, ↓wA,wB,wL,resOf,Nat.reduceBEq,Int.reduceBEq,Int.reduceBNe,Int.reduceLT,Int.reduceLE,Int.reduceAdd,Int.reduceSub,Int.reduceMul,Int.reduceToNat]
  exact ⟨_, rfl, rfl, by (repeat' (first|assumption|exact mAx _|refine mBx ?_ ?_|exact mCx (by assumption)|refine mDx ?_|refine mEx ?_ ?_ ?_|exact mFx|refine mGx ?_ ?_ ?_|exact mHx|exact mIx _|(simp only [wM,Nat.reduceAdd,Nat.reduceLT,Nat.reduceLeDiff];done)))⟩
theorem Colors_arg (a b : Int) (s : AV) (E : List (Int × Int)) (h : Hp) (hk : Hok h) (hs : Pairs h.blks s E) (hE : E.length ≤ 12) (hg : ¬ GraphOK a b E) :
    Evals Tryd.prog tab false (.func 24) [.int .i64 a, .int .i64 b, s] h (.tu [.nilsl, .int .i64 1], h) := by
  refine evals_pure c24 rfl hk ?_
  simp only [sf24, initS_cons, initS_nil]
  have e1 : decide ((E.length : Int) > 12) = false := decide_eq_false (by omega)
  simp (disch := first|(simp only [Nat.reduceBEq,wE];done)|((repeat' (first|assumption|exact mAx _|refine mBx ?_ ?_|exact mCx (by assumption)|refine mDx ?_|refine mEx ?_ ?_ ?_|exact mFx|refine mGx ?_ ?_ ?_|exact mHx|exact mIx _|(simp only [wM,Nat.reduceAdd,Nat.reduceLT,Nat.reduceLeDiff];done)));done)|omega|decide) only [hs.len, e1, callT (f39 a b s E h.en hk hs (by omega)), decide_eq_false hg, ↓wA,wB,wL,resOf,Nat.reduceBEq,Int.reduceBEq,Int.reduceBNe,Int.reduceLT,Int.reduceLE,Int.reduceAdd,Int.reduceSub,Int.reduceMul,Int.reduceToNat]
  exact ⟨_, rfl, rfl, by (repeat' (first|assumption|exact mAx _|refine mBx ?_ ?_|exact mCx (by assumption)|refine mDx ?_|refine mEx ?_ ?_ ?_|exact mFx|refine mGx ?_ ?_ ?_|exact mHx|exact mIx _|(simp only [wM,Nat.reduceAdd,Nat.reduceLT,Nat.reduceLeDiff];done)))⟩
theorem Colors_ok (a b : Int) (s : AV) (E : List (Int × Int)) (h : Hp) (hk : Hok h) (hs : Pairs h.blks s E) (hE : E.length ≤ 12) (hg : GraphOK a b E) :
    ∃ v h', Evals Tryd.prog tab false (.func 24) [.int .i64 a, .int .i64 b, s] h (v, h') ∧ Grown h h' ∧ ∃ t ys, v = .tu [t, .int .i64 0] ∧ ext E (dg E) E.length [] = some ys ∧ Prp E ys ∧ ys.length = E.length ∧ (∀ z ∈ ys, 0 ≤ z ∧ z < (dg E : Int)) ∧ Own h.next h'.blks .i64 t ys ∧ t ≠ .nilsl := by
  obtain ⟨ys, y1, y2, y3, y4⟩ := color_ex hg.in6
  refine evals_q c24 (fun v h' => ∃ t ys, v = .tu [t, .int .i64 0] ∧ ext E (dg E) E.length [] = some ys ∧ Prp E ys ∧ ys.length = E.length ∧ (∀ z ∈ ys, 0 ≤ z ∧ z < (dg E : Int)) ∧ Own h.next h'.blks .i64 t ys ∧ t ≠ .nilsl) rfl hk ?_ (fun v h1 g q => by
    obtain ⟨t, ys, rfl, q1, q2, q3, q4, q5, q6⟩ := q
    refine ⟨fun r => ⟨t, ys, rfl, q1, q2, q3, q4, q5.leave.1 ?_, q6⟩, fun r => ⟨t, ys, rfl, q1, q2, q3, q4, q5, q6⟩⟩
    simp only [refOK, refsOK_cons, Bool.and_eq_true] at r
    exact r.1)
  simp only [sf24, initS_cons, initS_nil]
  have e1 : decide ((E.length : Int) > 12) = false := decide_eq_false (by omega)
  have dl : dg E ≤ E.length := dgU_le 6
  obtain ⟨t, h2, et, g2, o2⟩ := f31 s E (dg E) h.en hk hs (by omega) (by omega)
  have q := o2.hd
  rw [y1] at q
  simp (disch := first|(simp only [Nat.reduceBEq,wE];done)|((repeat' (first|assumption|exact mAx _|refine mBx ?_ ?_|exact mCx (by assumption)|refine mDx ?_|refine mEx ?_ ?_ ?_|exact mFx|refine mGx ?_ ?_ ?_|exact mHx|exact mIx _|(simp only [wM,Nat.reduceAdd,Nat.reduceLT,Nat.reduceLeDiff];done)));done)|omega|decide) only [hs.len, e1, callT (f39 a b s E h.en hk hs (by omega)), decide_eq_true hg, callT (f40 s E h.en hk hs (by omega) hg.in6), callT et, ↓wA,wB,wL,resOf,Nat.reduceBEq,Int.reduceBEq,Int.reduceBNe,Int.reduceLT,Int.reduceLE,Int.reduceAdd,Int.reduceSub,Int.reduceMul,Int.reduceToNat]
  exact ⟨_, rfl, GrownR.of_en g2, t, ys, rfl, y1, y2, y3, y4, q.1, q.2⟩

end Go.Proofs.YtpfkmdbdafpadaaDoor
