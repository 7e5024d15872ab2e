/- Multigraphs: Colors, and the reference's. -/
import Derived.Test.YtbomimhfldmlbaaDoorPI
set_option linter.unusedSimpArgs false
set_option linter.unusedVariables false
set_option maxHeartbeats 4000000
set_option maxRecDepth 20000
namespace Go.Proofs.YtbomimhfldmlbaaDoor
open Go Go.Abs Go.Pa

theorem f86 (e : Int × Int) (i j : Nat) (a b : Int) (h : Hp) (hk : Hok h) (hi : Box h.blks i [.int .i64 a]) (hj : Box h.blks j [.int .i64 b]) (ha : 1 ≤ a ∧ a ≤ 6) (hb : 1 ≤ b ∧ b ≤ 6) :
    Evals Tryd.prog tab false (.func 86) [.ag [.int .i64 e.1, .int .i64 e.2], .ptr i 0, .ptr j 0] h (.bool (!decide ((0 ≤ e.1 ∧ e.1 ≤ a - 1) ∧ (0 ≤ e.2 ∧ e.2 ≤ b - 1))), h) := by
  refine evals_pure c86 rfl hk ?_
  simp only [sf86, initS_cons, initS_nil]
  have k1 : Hok (h.en.pu [.int .i64 e.1, .int .i64 e.2]) := Hok.pu hk rfl
  have i1 := (hi.sub (Sub.pu (h := h.en) (cs := [.int .i64 e.1, .int .i64 e.2]) hk)).ld (Sub.refl _) (j := 0)
  have j1 := (hj.sub (Sub.pu (h := h.en) (cs := [.int .i64 e.1, .int .i64 e.2]) hk)).ld (Sub.refl _) (j := 0)
  by_cases c1 : 0 ≤ e.1 ∧ e.1 ≤ a - 1
  · by_cases c2 : 0 ≤ e.2 ∧ e.2 ≤ b - 1
    · simp (disch := first|(simp only [Nat.reduceBEq,wE];done)|((repeat' (first|assumption|exact mAx _|refine mBx ?_ ?_|exact mCx (by assumption)|refine mDx ?_|refine mEx ?_ ?_ ?_|exact mFx|refine mGx ?_ ?_ ?_|exact mHx|exact mIx _|(simp only [wM,Nat.reduceAdd,Nat.reduceLT,Nat.reduceLeDiff];done)));done)|omega|decide) only [i1, j1, callT (f62 _ _ _ _ _), decide_eq_true c1, decide_eq_true c2, ↓wA,wB,wL,resOf,Nat.reduceBEq,Int.reduceBEq,Int.reduceBNe,Int.reduceLT,Int.reduceLE,Int.reduceAdd,Int.reduceSub,Int.reduceMul,Int.reduceToNat]
      refine ⟨_, rfl, ?_, by (repeat' (first|assumption|exact mAx _|refine mBx ?_ ?_|exact mCx (by assumption)|refine mDx ?_|refine mEx ?_ ?_ ?_|exact mFx|refine mGx ?_ ?_ ?_|exact mHx|exact mIx _|(simp only [wM,Nat.reduceAdd,Nat.reduceLT,Nat.reduceLeDiff];done)))⟩
      rw [decide_eq_true (And.intro c1 c2)]
      rfl
    · simp (disch := first|(simp only [Nat.reduceBEq,wE];done)|((repeat' (first|assumption|exact mAx _|refine mBx ?_ ?_|exact mCx (by assumption)|refine mDx ?_|refine mEx ?_ ?_ ?_|exact mFx|refine mGx ?_ ?_ ?_|exact mHx|exact mIx _|(simp only [wM,Nat.reduceAdd,Nat.reduceLT,Nat.reduceLeDiff];done)));done)|omega|decide) only [i1, j1, callT (f62 _ _ _ _ _), decide_eq_true c1, decide_eq_false c2, ↓wA,wB,wL,resOf,Nat.reduceBEq,Int.reduceBEq,Int.reduceBNe,Int.reduceLT,Int.reduceLE,Int.reduceAdd,Int.reduceSub,Int.reduceMul,Int.reduceToNat]
      refine ⟨_, rfl, ?_, by (repeat' (first|assumption|exact mAx _|refine mBx ?_ ?_|exact mCx (by assumption)|refine mDx ?_|refine mEx ?_ ?_ ?_|exact mFx|refine mGx ?_ ?_ ?_|exact mHx|exact mIx _|(simp only [wM,Nat.reduceAdd,Nat.reduceLT,Nat.reduceLeDiff];done)))⟩
      rw [decide_eq_false fun h => c2 h.2]
      rfl
  · simp (disch := first|(simp only [Nat.reduceBEq,wE];done)|((repeat' (first|assumption|exact mAx _|refine mBx ?_ ?_|exact mCx (by assumption)|refine mDx ?_|refine mEx ?_ ?_ ?_|exact mFx|refine mGx ?_ ?_ ?_|exact mHx|exact mIx _|(simp only [wM,Nat.reduceAdd,Nat.reduceLT,Nat.reduceLeDiff];done)));done)|omega|decide) only [i1, callT (f62 _ _ _ _ _), decide_eq_false c1, ↓wA,wB,wL,resOf,Nat.reduceBEq,Int.reduceBEq,Int.reduceBNe,Int.reduceLT,Int.reduceLE,Int.reduceAdd,Int.reduceSub,Int.reduceMul,Int.reduceToNat]
    refine ⟨_, rfl, ?_, by (repeat' (first|assumption|exact mAx _|refine mBx ?_ ?_|exact mCx (by assumption)|refine mDx ?_|refine mEx ?_ ?_ ?_|exact mFx|refine mGx ?_ ?_ ?_|exact mHx|exact mIx _|(simp only [wM,Nat.reduceAdd,Nat.reduceLT,Nat.reduceLeDiff];done)))⟩
    rw [decide_eq_false fun h => c1 h.1]
    rfl

theorem f72 (a b : Int) (s : AV) (E : List (Int × Int)) (h : Hp) (hk : Hok h) (hs : Pairs h.blks s E) (hE : E.length ≤ 1000) :
    Evals Tryd.prog tab false (.func 72) [.int .i64 a, .int .i64 b, s] h (.bool (decide (GraphOK a b E)), h) := by
  refine evals_pure c72 rfl hk ?_
  simp only [sf72, initS_cons, initS_nil]
  have g2 : Grown h ((h.en.pu [.int .i64 a]).pu [.int .i64 b]) := Grown.pu (Grown.pu Grown.en rfl) rfl
  have k2 := g2.ok hk
  have s2 := hs.sub (g2.sub hk)
  have bi : Box ((h.en.pu [.int .i64 a]).pu [.int .i64 b]).blks h.next [.int .i64 a] := ⟨h.next, true, by rw [lkB_push (by simp), lkB_top]⟩
  have bj : Box ((h.en.pu [.int .i64 a]).pu [.int .i64 b]).blks (h.next + 1) [.int .i64 b] := Box.top
  have i1 := bi.ld (Sub.refl _) (j := 0)
  have j1 := bj.ld (Sub.refl _) (j := 0)
  by_cases c1 : 1 ≤ a ∧ a ≤ 6
  · by_cases c2 : 1 ≤ b ∧ b ≤ 6
    · simp (disch := first|(simp only [Nat.reduceBEq,wE];done)|((repeat' (first|assumption|exact mAx _|refine mBx ?_ ?_|exact mCx (by assumption)|refine mDx ?_|refine mEx ?_ ?_ ?_|exact mFx|refine mGx ?_ ?_ ?_|exact mHx|exact mIx _|(simp only [wM,Nat.reduceAdd,Nat.reduceLT,Nat.reduceLeDiff];done)));done)|omega|decide) only [sBox_int, i1, j1, callT (f62 _ _ _ _ _), decide_eq_true c1, decide_eq_true c2,
        callT (f58 s E 86 [.ptr h.next 0, .ptr (h.next + 1) 0] (fun e => !decide ((0 ≤ e.1 ∧ e.1 ≤ a - 1) ∧ (0 ≤ e.2 ∧ e.2 ≤ b - 1))) ((h.en.pu [.int .i64 a]).pu [.int .i64 b]) k2 s2 (by omega) (fun z _ => f86 z h.next (h.next + 1) a b ((h.en.pu [.int .i64 a]).pu [.int .i64 b]).en k2 bi bj c1 c2)), ↓wA,wB,wL,resOf,Nat.reduceBEq,Int.reduceBEq,Int.reduceBNe,Int.reduceLT,Int.reduceLE,Int.reduceAdd,Int.reduceSub,Int.reduceMul,Int.reduceToNat]
      refine ⟨_, rfl, congrArg AV.bool ?_, by (repeat' (first|assumption|exact mAx _|refine mBx ?_ ?_|exact mCx (by assumption)|refine mDx ?_|refine mEx ?_ ?_ ?_|exact mFx|refine mGx ?_ ?_ ?_|exact mHx|exact mIx _|(simp only [wM,Nat.reduceAdd,Nat.reduceLT,Nat.reduceLeDiff];done)))⟩
      rw [Bool.eq_iff_iff, decide_eq_true_iff]
      simp only [Bool.not_eq_true', List.any_eq_false]
      constructor
      · intro H
        refine ⟨c1, c2, fun e he => ?_⟩
        have := H e he
        simp at this
        omega
      · intro H e he
        have := H.2.2 e he
        simp
        omega
    · simp (disch := first|(simp only [Nat.reduceBEq,wE];done)|((repeat' (first|assumption|exact mAx _|refine mBx ?_ ?_|exact mCx (by assumption)|refine mDx ?_|refine mEx ?_ ?_ ?_|exact mFx|refine mGx ?_ ?_ ?_|exact mHx|exact mIx _|(simp only [wM,Nat.reduceAdd,Nat.reduceLT,Nat.reduceLeDiff];done)));done)|omega|decide) only [sBox_int, i1, j1, callT (f62 _ _ _ _ _), decide_eq_true c1, decide_eq_false c2, ↓wA,wB,wL,resOf,Nat.reduceBEq,Int.reduceBEq,Int.reduceBNe,Int.reduceLT,Int.reduceLE,Int.reduceAdd,Int.reduceSub,Int.reduceMul,Int.reduceToNat]
      refine ⟨_, rfl, ?_, by (repeat' (first|assumption|exact mAx _|refine mBx ?_ ?_|exact mCx (by assumption)|refine mDx ?_|refine mEx ?_ ?_ ?_|exact mFx|refine mGx ?_ ?_ ?_|exact mHx|exact mIx _|(simp only [wM,Nat.reduceAdd,Nat.reduceLT,Nat.reduceLeDiff];done)))⟩
      rw [decide_eq_false fun h => c2 h.2.1]
  · simp (disch := first|(simp only [Nat.reduceBEq,wE];done)|((repeat' (first|assumption|exact mAx _|refine mBx ?_ ?_|exact mCx (by assumption)|refine mDx ?_|refine mEx ?_ ?_ ?_|exact mFx|refine mGx ?_ ?_ ?_|exact mHx|exact mIx _|(simp only [wM,Nat.reduceAdd,Nat.reduceLT,Nat.reduceLeDiff];done)));done)|omega|decide) only [sBox_int, i1, callT (f62 _ _ _ _ _), decide_eq_false c1, ↓wA,wB,wL,resOf,Nat.reduceBEq,Int.reduceBEq,Int.reduceBNe,Int.reduceLT,Int.reduceLE,Int.reduceAdd,Int.reduceSub,Int.reduceMul,Int.reduceToNat]
    refine ⟨_, rfl, ?_, by (repeat' (first|assumption|exact mAx _|refine mBx ?_ ?_|exact mCx (by assumption)|refine mDx ?_|refine mEx ?_ ?_ ?_|exact mFx|refine mGx ?_ ?_ ?_|exact mHx|exact mIx _|(simp only [wM,Nat.reduceAdd,Nat.reduceLT,Nat.reduceLeDiff];done)))⟩
    rw [decide_eq_false fun h => c1 h.1]

theorem Colors_long (a b : Int) (s : AV) (E : List (Int × Int)) (h : Hp) (hk : Hok h) (hs : Pairs h.blks s E) (hE : 12 < E.length) (hE2 : E.length ≤ 1000) :
    Evals Tryd.prog tab false (.func 40) [.int .i64 a, .int .i64 b, s] h (.tu [.nilsl, .int .i64 3], h) := by
  refine evals_pure c40 rfl hk ?_
  simp only [sf40, initS_cons, initS_nil]
  have e1 : decide ((E.length : Int) > 12) = true := decide_eq_true (by omega)
  simp (disch := first|(simp only [Nat.reduceBEq,wE];done)|((repeat' (first|assumption|exact mAx _|refine mBx ?_ ?_|exact mCx (by assumption)|refine mDx ?_|refine mEx ?_ ?_ ?_|exact mFx|refine mGx ?_ ?_ ?_|exact mHx|exact mIx _|(simp only [wM,Nat.reduceAdd,Nat.reduceLT,Nat.reduceLeDiff];done)));done)|omega|decide) only [hs.len, e1, ↓wA,wB,wL,resOf,Nat.reduceBEq,Int.reduceBEq,Int.reduceBNe,Int.reduceLT,Int.reduceLE,Int.reduceAdd,Int.reduceSub,Int.reduceMul,Int.reduceToNat]
  exact ⟨_, rfl, rfl, by (repeat' (first|assumption|exact mAx _|refine mBx ?_ ?_|exact mCx (by assumption)|refine mDx ?_|refine mEx ?_ ?_ ?_|exact mFx|refine mGx ?_ ?_ ?_|exact mHx|exact mIx _|(simp only [wM,Nat.reduceAdd,Nat.reduceLT,Nat.reduceLeDiff];done)))⟩
theorem Colors_arg (a b : Int) (s : AV) (E : List (Int × Int)) (h : Hp) (hk : Hok h) (hs : Pairs h.blks s E) (hE : E.length ≤ 12) (hg : ¬ GraphOK a b E) :
    Evals Tryd.prog tab false (.func 40) [.int .i64 a, .int .i64 b, s] h (.tu [.nilsl, .int .i64 1], h) := by
  refine evals_pure c40 rfl hk ?_
  simp only [sf40, initS_cons, initS_nil]
  have e1 : decide ((E.length : Int) > 12) = false := decide_eq_false (by omega)
  simp (disch := first|(simp only [Nat.reduceBEq,wE];done)|((repeat' (first|assumption|exact mAx _|refine mBx ?_ ?_|exact mCx (by assumption)|refine mDx ?_|refine mEx ?_ ?_ ?_|exact mFx|refine mGx ?_ ?_ ?_|exact mHx|exact mIx _|(simp only [wM,Nat.reduceAdd,Nat.reduceLT,Nat.reduceLeDiff];done)));done)|omega|decide) only [hs.len, e1, callT (f72 a b s E h.en hk hs (by omega)), decide_eq_false hg, ↓wA,wB,wL,resOf,Nat.reduceBEq,Int.reduceBEq,Int.reduceBNe,Int.reduceLT,Int.reduceLE,Int.reduceAdd,Int.reduceSub,Int.reduceMul,Int.reduceToNat]
  exact ⟨_, rfl, rfl, by (repeat' (first|assumption|exact mAx _|refine mBx ?_ ?_|exact mCx (by assumption)|refine mDx ?_|refine mEx ?_ ?_ ?_|exact mFx|refine mGx ?_ ?_ ?_|exact mHx|exact mIx _|(simp only [wM,Nat.reduceAdd,Nat.reduceLT,Nat.reduceLeDiff];done)))⟩
theorem Colors_ok (a b : Int) (s : AV) (E : List (Int × Int)) (h : Hp) (hk : Hok h) (hs : Pairs h.blks s E) (hE : E.length ≤ 12) (hg : GraphOK a b E) :
    ∃ v h', Evals Tryd.prog tab false (.func 40) [.int .i64 a, .int .i64 b, s] h (v, h') ∧ Grown h h' ∧ ∃ t ys, v = .tu [t, .int .i64 0] ∧ ext E (dg E) E.length [] = some ys ∧ Prp E ys ∧ ys.length = E.length ∧ (∀ z ∈ ys, 0 ≤ z ∧ z < (dg E : Int)) ∧ Own h.next h'.blks .i64 t ys ∧ t ≠ .nilsl := by
  obtain ⟨ys, y1, y2, y3, y4⟩ := color_ex hg.in6
  refine evals_q c40 (fun v h' => ∃ t ys, v = .tu [t, .int .i64 0] ∧ ext E (dg E) E.length [] = some ys ∧ Prp E ys ∧ ys.length = E.length ∧ (∀ z ∈ ys, 0 ≤ z ∧ z < (dg E : Int)) ∧ Own h.next h'.blks .i64 t ys ∧ t ≠ .nilsl) rfl hk ?_ (fun v h1 g q => by
    obtain ⟨t, ys, rfl, q1, q2, q3, q4, q5, q6⟩ := q
    refine ⟨fun r => ⟨t, ys, rfl, q1, q2, q3, q4, q5.leave.1 ?_, q6⟩, fun r => ⟨t, ys, rfl, q1, q2, q3, q4, q5, q6⟩⟩
    simp only [refOK, refsOK_cons, Bool.and_eq_true] at r
    exact r.1)
  simp only [sf40, initS_cons, initS_nil]
  have e1 : decide ((E.length : Int) > 12) = false := decide_eq_false (by omega)
  have dl : dg E ≤ E.length := dgU_le 6
  obtain ⟨t, h2, et, g2, o2⟩ := f56 s E (dg E) h.en hk hs (by omega) (by omega)
  have q := o2.hd
  rw [y1] at q
  simp (disch := first|(simp only [Nat.reduceBEq,wE];done)|((repeat' (first|assumption|exact mAx _|refine mBx ?_ ?_|exact mCx (by assumption)|refine mDx ?_|refine mEx ?_ ?_ ?_|exact mFx|refine mGx ?_ ?_ ?_|exact mHx|exact mIx _|(simp only [wM,Nat.reduceAdd,Nat.reduceLT,Nat.reduceLeDiff];done)));done)|omega|decide) only [hs.len, e1, callT (f72 a b s E h.en hk hs (by omega)), decide_eq_true hg, callT (f73 s E h.en hk hs (by omega) hg.in6), callT et, ↓wA,wB,wL,resOf,Nat.reduceBEq,Int.reduceBEq,Int.reduceBNe,Int.reduceLT,Int.reduceLE,Int.reduceAdd,Int.reduceSub,Int.reduceMul,Int.reduceToNat]
  exact ⟨_, rfl, GrownR.of_en g2, t, ys, rfl, y1, y2, y3, y4, q.1, q.2⟩

theorem f41 (a b : Int) (s : AV) (E : List (Int × Int)) (h : Hp) (hk : Hok h) (hs : Pairs h.blks s E) (hE : E.length ≤ 1000) :
    Evals Tryd.prog tab false (.func 41) [.int .i64 a, .int .i64 b, s] h (.int .i64 (if 12 < E.length then 3 else if GraphOK a b E then 0 else 1), h) := by
  refine evals_pure c41 rfl hk ?_
  simp only [sf41, initS_cons, initS_nil]
  by_cases c0 : 12 < E.length
  · have e1 : decide ((E.length : Int) > 12) = true := decide_eq_true (by omega)
    simp (disch := first|(simp only [Nat.reduceBEq,wE];done)|((repeat' (first|assumption|exact mAx _|refine mBx ?_ ?_|exact mCx (by assumption)|refine mDx ?_|refine mEx ?_ ?_ ?_|exact mFx|refine mGx ?_ ?_ ?_|exact mHx|exact mIx _|(simp only [wM,Nat.reduceAdd,Nat.reduceLT,Nat.reduceLeDiff];done)));done)|omega|decide) only [hs.len, e1, ↓wA,wB,wL,resOf,Nat.reduceBEq,Int.reduceBEq,Int.reduceBNe,Int.reduceLT,Int.reduceLE,Int.reduceAdd,Int.reduceSub,Int.reduceMul,Int.reduceToNat]
    refine ⟨_, rfl, ?_, by (repeat' (first|assumption|exact mAx _|refine mBx ?_ ?_|exact mCx (by assumption)|refine mDx ?_|refine mEx ?_ ?_ ?_|exact mFx|refine mGx ?_ ?_ ?_|exact mHx|exact mIx _|(simp only [wM,Nat.reduceAdd,Nat.reduceLT,Nat.reduceLeDiff];done)))⟩
    rw [if_pos c0]
  · have e1 : decide ((E.length : Int) > 12) = false := decide_eq_false (by omega)
    rw [if_neg c0]
    by_cases c1 : 1 ≤ a ∧ a ≤ 6
    · by_cases c2 : 1 ≤ b ∧ b ≤ 6
      · simp (disch := first|(simp only [Nat.reduceBEq,wE];done)|((repeat' (first|assumption|exact mAx _|refine mBx ?_ ?_|exact mCx (by assumption)|refine mDx ?_|refine mEx ?_ ?_ ?_|exact mFx|refine mGx ?_ ?_ ?_|exact mHx|exact mIx _|(simp only [wM,Nat.reduceAdd,Nat.reduceLT,Nat.reduceLeDiff];done)));done)|omega|decide) only [hs.len, e1, callT (f28 _ _ _ _ _), decide_eq_true c1, decide_eq_true c2, ↓wA,wB,wL,resOf,Nat.reduceBEq,Int.reduceBEq,Int.reduceBNe,Int.reduceLT,Int.reduceLE,Int.reduceAdd,Int.reduceSub,Int.reduceMul,Int.reduceToNat]
        refine wloop (fun mm ss => ∃ (i : Nat) (u6 u10 u18 u22 u44 : AV), (mm = E.length - i) ∧ (i ≤ E.length ∧ ∀ e ∈ E.take i, (0 ≤ e.1 ∧ e.1 ≤ a - 1) ∧ (0 ≤ e.2 ∧ e.2 ≤ b - 1)) ∧ ss = { fr := [(0, .int .i64 a), (1, .int .i64 b), (2, s), (6, u6), (7, .int .i64 i), (10, u10), (18, u18), (22, u22), (44, u44)], hp := h.en }) (E.length) ?_ ?_
        ·
          refine ⟨0, _, _, _, _, _, by omega, ⟨by omega, by simp⟩, rfl⟩
        rintro nA sA ⟨i, u6, u10, u18, u22, u44, hnA, ⟨hi, hp⟩, rfl⟩
        simp (disch := first|(simp only [Nat.reduceBEq,wE];done)|((repeat' (first|assumption|exact mAx _|refine mBx ?_ ?_|exact mCx (by assumption)|refine mDx ?_|refine mEx ?_ ?_ ?_|exact mFx|refine mGx ?_ ?_ ?_|exact mHx|exact mIx _|(simp only [wM,Nat.reduceAdd,Nat.reduceLT,Nat.reduceLeDiff];done)));done)|omega|decide) only [hs.len, ↓wA,wB,wL,resOf,Nat.reduceBEq,Int.reduceBEq,Int.reduceBNe,Int.reduceLT,Int.reduceLE,Int.reduceAdd,Int.reduceSub,Int.reduceMul,Int.reduceToNat]
        refine ifThen_intro (fun e => ?_) (fun e => ?_) <;> have eq := e <;> try simp [-List.getD_eq_getElem?_getD] at eq
        · have ge : E.getD i (0, 0) = E[i] := by simp [List.getD_eq_getElem?_getD, List.getElem?_eq_getElem eq]
          by_cases d1 : 0 ≤ (E.getD i (0, 0)).1 ∧ (E.getD i (0, 0)).1 ≤ a - 1
          · by_cases d2 : 0 ≤ (E.getD i (0, 0)).2 ∧ (E.getD i (0, 0)).2 ≤ b - 1
            · simp (disch := first|(simp only [Nat.reduceBEq,wE];done)|((repeat' (first|assumption|exact mAx _|refine mBx ?_ ?_|exact mCx (by assumption)|refine mDx ?_|refine mEx ?_ ?_ ?_|exact mFx|refine mGx ?_ ?_ ?_|exact mHx|exact mIx _|(simp only [wM,Nat.reduceAdd,Nat.reduceLT,Nat.reduceLeDiff];done)));done)|omega|decide) only [e, hs.ix, hs.fa, hs.ld0, hs.ld1, callT (f28 _ _ _ _ _), decide_eq_true d1, decide_eq_true d2, ↓wA,wB,wL,resOf,Nat.reduceBEq,Int.reduceBEq,Int.reduceBNe,Int.reduceLT,Int.reduceLE,Int.reduceAdd,Int.reduceSub,Int.reduceMul,Int.reduceToNat]
              refine ⟨_, ?_, i + 1, _, _, _, _, _, rfl, ?_, rfl⟩
              · omega
              refine ⟨by omega, fun z hz => ?_⟩
              rw [List.take_succ_eq_append_getElem eq, List.mem_append, List.mem_singleton] at hz
              rcases hz with hz | rfl
              · exact hp z hz
              · rw [ge] at d1 d2
                exact ⟨d1, d2⟩
            · simp (disch := first|(simp only [Nat.reduceBEq,wE];done)|((repeat' (first|assumption|exact mAx _|refine mBx ?_ ?_|exact mCx (by assumption)|refine mDx ?_|refine mEx ?_ ?_ ?_|exact mFx|refine mGx ?_ ?_ ?_|exact mHx|exact mIx _|(simp only [wM,Nat.reduceAdd,Nat.reduceLT,Nat.reduceLeDiff];done)));done)|omega|decide) only [e, hs.ix, hs.fa, hs.ld0, hs.ld1, callT (f28 _ _ _ _ _), decide_eq_true d1, decide_eq_false d2, ↓wA,wB,wL,resOf,Nat.reduceBEq,Int.reduceBEq,Int.reduceBNe,Int.reduceLT,Int.reduceLE,Int.reduceAdd,Int.reduceSub,Int.reduceMul,Int.reduceToNat]
              refine ⟨_, rfl, ?_, by (repeat' (first|assumption|exact mAx _|refine mBx ?_ ?_|exact mCx (by assumption)|refine mDx ?_|refine mEx ?_ ?_ ?_|exact mFx|refine mGx ?_ ?_ ?_|exact mHx|exact mIx _|(simp only [wM,Nat.reduceAdd,Nat.reduceLT,Nat.reduceLeDiff];done)))⟩
              rw [if_neg fun h => d2 (by rw [ge]; exact (h.2.2 _ (List.getElem_mem eq)).2)]
          · simp (disch := first|(simp only [Nat.reduceBEq,wE];done)|((repeat' (first|assumption|exact mAx _|refine mBx ?_ ?_|exact mCx (by assumption)|refine mDx ?_|refine mEx ?_ ?_ ?_|exact mFx|refine mGx ?_ ?_ ?_|exact mHx|exact mIx _|(simp only [wM,Nat.reduceAdd,Nat.reduceLT,Nat.reduceLeDiff];done)));done)|omega|decide) only [e, hs.ix, hs.fa, hs.ld0, hs.ld1, callT (f28 _ _ _ _ _), decide_eq_false d1, ↓wA,wB,wL,resOf,Nat.reduceBEq,Int.reduceBEq,Int.reduceBNe,Int.reduceLT,Int.reduceLE,Int.reduceAdd,Int.reduceSub,Int.reduceMul,Int.reduceToNat]
            refine ⟨_, rfl, ?_, by (repeat' (first|assumption|exact mAx _|refine mBx ?_ ?_|exact mCx (by assumption)|refine mDx ?_|refine mEx ?_ ?_ ?_|exact mFx|refine mGx ?_ ?_ ?_|exact mHx|exact mIx _|(simp only [wM,Nat.reduceAdd,Nat.reduceLT,Nat.reduceLeDiff];done)))⟩
            rw [if_neg fun h => d1 (by rw [ge]; exact (h.2.2 _ (List.getElem_mem eq)).1)]
        · simp (disch := first|(simp only [Nat.reduceBEq,wE];done)|((repeat' (first|assumption|exact mAx _|refine mBx ?_ ?_|exact mCx (by assumption)|refine mDx ?_|refine mEx ?_ ?_ ?_|exact mFx|refine mGx ?_ ?_ ?_|exact mHx|exact mIx _|(simp only [wM,Nat.reduceAdd,Nat.reduceLT,Nat.reduceLeDiff];done)));done)|omega|decide) only [e, ↓wA,wB,wL,resOf,Nat.reduceBEq,Int.reduceBEq,Int.reduceBNe,Int.reduceLT,Int.reduceLE,Int.reduceAdd,Int.reduceSub,Int.reduceMul,Int.reduceToNat]
          refine ⟨_, rfl, ?_, by (repeat' (first|assumption|exact mAx _|refine mBx ?_ ?_|exact mCx (by assumption)|refine mDx ?_|refine mEx ?_ ?_ ?_|exact mFx|refine mGx ?_ ?_ ?_|exact mHx|exact mIx _|(simp only [wM,Nat.reduceAdd,Nat.reduceLT,Nat.reduceLeDiff];done)))⟩
          rw [List.take_of_length_le (by omega)] at hp
          rw [if_pos ⟨c1, c2, hp⟩]
      · simp (disch := first|(simp only [Nat.reduceBEq,wE];done)|((repeat' (first|assumption|exact mAx _|refine mBx ?_ ?_|exact mCx (by assumption)|refine mDx ?_|refine mEx ?_ ?_ ?_|exact mFx|refine mGx ?_ ?_ ?_|exact mHx|exact mIx _|(simp only [wM,Nat.reduceAdd,Nat.reduceLT,Nat.reduceLeDiff];done)));done)|omega|decide) only [hs.len, e1, callT (f28 _ _ _ _ _), decide_eq_true c1, decide_eq_false c2, ↓wA,wB,wL,resOf,Nat.reduceBEq,Int.reduceBEq,Int.reduceBNe,Int.reduceLT,Int.reduceLE,Int.reduceAdd,Int.reduceSub,Int.reduceMul,Int.reduceToNat]
        refine ⟨_, rfl, ?_, by (repeat' (first|assumption|exact mAx _|refine mBx ?_ ?_|exact mCx (by assumption)|refine mDx ?_|refine mEx ?_ ?_ ?_|exact mFx|refine mGx ?_ ?_ ?_|exact mHx|exact mIx _|(simp only [wM,Nat.reduceAdd,Nat.reduceLT,Nat.reduceLeDiff];done)))⟩
        rw [if_neg fun h => c2 h.2.1]
    · simp (disch := first|(simp only [Nat.reduceBEq,wE];done)|((repeat' (first|assumption|exact mAx _|refine mBx ?_ ?_|exact mCx (by assumption)|refine mDx ?_|refine mEx ?_ ?_ ?_|exact mFx|refine mGx ?_ ?_ ?_|exact mHx|exact mIx _|(simp only [wM,Nat.reduceAdd,Nat.reduceLT,Nat.reduceLeDiff];done)));done)|omega|decide) only [hs.len, e1, callT (f28 _ _ _ _ _), decide_eq_false c1, ↓wA,wB,wL,resOf,Nat.reduceBEq,Int.reduceBEq,Int.reduceBNe,Int.reduceLT,Int.reduceLE,Int.reduceAdd,Int.reduceSub,Int.reduceMul,Int.reduceToNat]
      refine ⟨_, rfl, ?_, by (repeat' (first|assumption|exact mAx _|refine mBx ?_ ?_|exact mCx (by assumption)|refine mDx ?_|refine mEx ?_ ?_ ?_|exact mFx|refine mGx ?_ ?_ ?_|exact mHx|exact mIx _|(simp only [wM,Nat.reduceAdd,Nat.reduceLT,Nat.reduceLeDiff];done)))⟩
      rw [if_neg fun h => c1 h.1]
end Go.Proofs.YtbomimhfldmlbaaDoor
