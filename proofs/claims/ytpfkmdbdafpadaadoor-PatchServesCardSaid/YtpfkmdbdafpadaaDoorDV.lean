/- Requests, and the closures of connect and disconnect. -/
import Derived.Test.YtpfkmdbdafpadaaDoorPF
import Derived.Test.YtpfkmdbdafpadaaDoorDU
set_option linter.unusedSimpArgs false
set_option linter.unusedVariables false
set_option maxHeartbeats 4000000
set_option maxRecDepth 20000
namespace Go.Pa
def ReqOK (w : Int) (p : Int × Int) : Prop := (0 ≤ p.1 ∧ p.1 ≤ w - 1) ∧ (p.2 = -1 ∨ (0 ≤ p.2 ∧ p.2 ≤ w - 1))
instance (w : Int) (p : Int × Int) : Decidable (ReqOK w p) := inferInstanceAs (Decidable (_ ∧ _))
end Go.Pa
namespace Go.Proofs.YtpfkmdbdafpadaaDoor
open Go Go.Abs Go.Pa

theorem f18 (p : Int × Int) (w : Nat) (h : Hp) (hk : Hok h) (hw : w ≤ 1000) :
    Evals Tryd.prog tab false (.func 18) [.ag [.int .i64 p.1, .int .i64 p.2], .int .i64 w] h (.bool (decide (ReqOK w p)), h) := by
  refine evals_pure c18 rfl hk ?_
  simp only [sf18, initS_cons, initS_nil]
  have bx : Box (h.en.pu [.int .i64 p.1, .int .i64 p.2]).blks h.next [.int .i64 p.1, .int .i64 p.2] := Box.top
  have k1 : Hok (h.en.pu [.int .i64 p.1, .int .i64 p.2]) := Hok.pu hk rfl
  have W1 := f26 p.1 0 ((w : Int) - 1) _ k1
  have W2 := f26 p.2 0 ((w : Int) - 1) _ k1
  by_cases c1 : 0 ≤ p.1 ∧ p.1 ≤ (w : Int) - 1
  · by_cases c2 : p.2 = -1
    · have e2 : (p.2 == -1) = true := by simpa using c2
      simp (disch := first|(simp only [Nat.reduceBEq,wE];done)|((repeat' (first|assumption|exact mAx _|refine mBx ?_ ?_|exact mCx (by assumption)|refine mDx ?_|refine mEx ?_ ?_ ?_|exact mFx|refine mGx ?_ ?_ ?_|exact mHx|exact mIx _|(simp only [wM,Nat.reduceAdd,Nat.reduceLT,Nat.reduceLeDiff];done)));done)|omega|decide) only [bx.ld, callT W1, decide_eq_true c1, e2, ↓wA,wB,wL,resOf,Nat.reduceBEq,Int.reduceBEq,Int.reduceBNe,Int.reduceLT,Int.reduceLE,Int.reduceAdd,Int.reduceSub,Int.reduceMul,Int.reduceToNat]
      refine ⟨_, rfl, ?_, by (repeat' (first|assumption|exact mAx _|refine mBx ?_ ?_|exact mCx (by assumption)|refine mDx ?_|refine mEx ?_ ?_ ?_|exact mFx|refine mGx ?_ ?_ ?_|exact mHx|exact mIx _|(simp only [wM,Nat.reduceAdd,Nat.reduceLT,Nat.reduceLeDiff];done)))⟩
      rw [decide_eq_true ⟨c1, .inl c2⟩]
    · have e2 : (p.2 == -1) = false := by simpa using c2
      simp (disch := first|(simp only [Nat.reduceBEq,wE];done)|((repeat' (first|assumption|exact mAx _|refine mBx ?_ ?_|exact mCx (by assumption)|refine mDx ?_|refine mEx ?_ ?_ ?_|exact mFx|refine mGx ?_ ?_ ?_|exact mHx|exact mIx _|(simp only [wM,Nat.reduceAdd,Nat.reduceLT,Nat.reduceLeDiff];done)));done)|omega|decide) only [bx.ld, callT W1, decide_eq_true c1, e2, callT W2, ↓wA,wB,wL,resOf,Nat.reduceBEq,Int.reduceBEq,Int.reduceBNe,Int.reduceLT,Int.reduceLE,Int.reduceAdd,Int.reduceSub,Int.reduceMul,Int.reduceToNat]
      refine ⟨_, rfl, ?_, by (repeat' (first|assumption|exact mAx _|refine mBx ?_ ?_|exact mCx (by assumption)|refine mDx ?_|refine mEx ?_ ?_ ?_|exact mFx|refine mGx ?_ ?_ ?_|exact mHx|exact mIx _|(simp only [wM,Nat.reduceAdd,Nat.reduceLT,Nat.reduceLeDiff];done)))⟩
      simp only [resOf]
      congr 1
      rw [Bool.eq_iff_iff, decide_eq_true_iff, decide_eq_true_iff, ReqOK]
      constructor
      · exact fun h => ⟨c1, .inr h⟩
      · exact fun h => h.2.resolve_left c2
  · simp (disch := first|(simp only [Nat.reduceBEq,wE];done)|((repeat' (first|assumption|exact mAx _|refine mBx ?_ ?_|exact mCx (by assumption)|refine mDx ?_|refine mEx ?_ ?_ ?_|exact mFx|refine mGx ?_ ?_ ?_|exact mHx|exact mIx _|(simp only [wM,Nat.reduceAdd,Nat.reduceLT,Nat.reduceLeDiff];done)));done)|omega|decide) only [bx.ld, callT W1, decide_eq_false c1, ↓wA,wB,wL,resOf,Nat.reduceBEq,Int.reduceBEq,Int.reduceBNe,Int.reduceLT,Int.reduceLE,Int.reduceAdd,Int.reduceSub,Int.reduceMul,Int.reduceToNat]
    refine ⟨_, rfl, ?_, by (repeat' (first|assumption|exact mAx _|refine mBx ?_ ?_|exact mCx (by assumption)|refine mDx ?_|refine mEx ?_ ?_ ?_|exact mFx|refine mGx ?_ ?_ ?_|exact mHx|exact mIx _|(simp only [wM,Nat.reduceAdd,Nat.reduceLT,Nat.reduceLeDiff];done)))⟩
    rw [decide_eq_false fun H => c1 H.1]

theorem f17 (p : Int × Int) (n r : Nat) (i j : Nat) (h : Hp) (hk : Hok h) (hw : n * r ≤ 1000) (hn : n ≤ 1000) (hr : r ≤ 1000) (bi : Box h.blks i [.int .i64 n]) (bj : Box h.blks j [.int .i64 r]) :
    Evals Tryd.prog tab false (.func 17) [.ag [.int .i64 p.1, .int .i64 p.2], .ptr i 0, .ptr j 0] h (.bool (!decide (ReqOK (n * r : Nat) p)), h) := by
  refine evals_pure c17 rfl hk ?_
  simp only [sf17, initS_cons, initS_nil]
  have bx : Box (h.en.pu [.int .i64 p.1, .int .i64 p.2]).blks h.next [.int .i64 p.1, .int .i64 p.2] := Box.top
  have k1 : Hok (h.en.pu [.int .i64 p.1, .int .i64 p.2]) := Hok.pu hk rfl
  have s1 : Sub h.blks (h.en.pu [.int .i64 p.1, .int .i64 p.2]).blks := Sub.pu (h := h.en) hk
  have e : (n : Int) * (r : Int) = ((n * r : Nat) : Int) := by simp
  have RQ := f18 p (n * r) _ k1 hw
  obtain ⟨q, eq'⟩ : ∃ q, q = n * r := ⟨_, rfl⟩
  rw [← eq'] at e RQ hw ⊢
  have la : aggB (h.en.pu [.int .i64 p.1, .int .i64 p.2]).blks h.next 0 2 = some (.ag [.int .i64 p.1, .int .i64 p.2]) := by
    rw [bx.lda (Sub.refl _)]; rfl
  simp (disch := first|(simp only [Nat.reduceBEq,wE];done)|((repeat' (first|assumption|exact mAx _|refine mBx ?_ ?_|exact mCx (by assumption)|refine mDx ?_|refine mEx ?_ ?_ ?_|exact mFx|refine mGx ?_ ?_ ?_|exact mHx|exact mIx _|(simp only [wM,Nat.reduceAdd,Nat.reduceLT,Nat.reduceLeDiff];done)));done)|omega|decide) only [la, bi.ld, bj.ld, e, callT RQ, ↓wA,wB,wL,resOf,Nat.reduceBEq,Int.reduceBEq,Int.reduceBNe,Int.reduceLT,Int.reduceLE,Int.reduceAdd,Int.reduceSub,Int.reduceMul,Int.reduceToNat]
  exact ⟨_, rfl, rfl, by (repeat' (first|assumption|exact mAx _|refine mBx ?_ ?_|exact mCx (by assumption)|refine mDx ?_|refine mEx ?_ ?_ ?_|exact mFx|refine mGx ?_ ?_ ?_|exact mHx|exact mIx _|(simp only [wM,Nat.reduceAdd,Nat.reduceLT,Nat.reduceLeDiff];done)))⟩

theorem f41 (c p : Int × Int) (i : Nat) (h : Hp) (hk : Hok h) (bi : Box h.blks i [.int .i64 p.1, .int .i64 p.2]) :
    Evals Tryd.prog tab false (.func 41) [.ag [.int .i64 c.1, .int .i64 c.2], .ptr i 0] h (.bool (decide (c.1 = p.1) || decide (c.2 = p.2)), h) := by
  refine evals_pure c41 rfl hk ?_
  simp only [sf41, initS_cons, initS_nil]
  have bx : Box (h.en.pu [.int .i64 c.1, .int .i64 c.2]).blks h.next [.int .i64 c.1, .int .i64 c.2] := Box.top
  have s1 : Sub h.blks (h.en.pu [.int .i64 c.1, .int .i64 c.2]).blks := Sub.pu (h := h.en) hk
  by_cases c1 : c.1 = p.1
  · have e1 : (c.1 == p.1) = true := by simpa using c1
    simp (disch := first|(simp only [Nat.reduceBEq,wE];done)|((repeat' (first|assumption|exact mAx _|refine mBx ?_ ?_|exact mCx (by assumption)|refine mDx ?_|refine mEx ?_ ?_ ?_|exact mFx|refine mGx ?_ ?_ ?_|exact mHx|exact mIx _|(simp only [wM,Nat.reduceAdd,Nat.reduceLT,Nat.reduceLeDiff];done)));done)|omega|decide) only [bx.ld, bi.ld, e1, ↓wA,wB,wL,resOf,Nat.reduceBEq,Int.reduceBEq,Int.reduceBNe,Int.reduceLT,Int.reduceLE,Int.reduceAdd,Int.reduceSub,Int.reduceMul,Int.reduceToNat]
    refine ⟨_, rfl, ?_, by (repeat' (first|assumption|exact mAx _|refine mBx ?_ ?_|exact mCx (by assumption)|refine mDx ?_|refine mEx ?_ ?_ ?_|exact mFx|refine mGx ?_ ?_ ?_|exact mHx|exact mIx _|(simp only [wM,Nat.reduceAdd,Nat.reduceLT,Nat.reduceLeDiff];done)))⟩
    simp [c1, resOf]
  · have e1 : (c.1 == p.1) = false := by simpa using c1
    simp (disch := first|(simp only [Nat.reduceBEq,wE];done)|((repeat' (first|assumption|exact mAx _|refine mBx ?_ ?_|exact mCx (by assumption)|refine mDx ?_|refine mEx ?_ ?_ ?_|exact mFx|refine mGx ?_ ?_ ?_|exact mHx|exact mIx _|(simp only [wM,Nat.reduceAdd,Nat.reduceLT,Nat.reduceLeDiff];done)));done)|omega|decide) only [bx.ld, bi.ld, e1, ↓wA,wB,wL,resOf,Nat.reduceBEq,Int.reduceBEq,Int.reduceBNe,Int.reduceLT,Int.reduceLE,Int.reduceAdd,Int.reduceSub,Int.reduceMul,Int.reduceToNat]
    refine ⟨_, rfl, ?_, by (repeat' (first|assumption|exact mAx _|refine mBx ?_ ?_|exact mCx (by assumption)|refine mDx ?_|refine mEx ?_ ?_ ?_|exact mFx|refine mGx ?_ ?_ ?_|exact mHx|exact mIx _|(simp only [wM,Nat.reduceAdd,Nat.reduceLT,Nat.reduceLeDiff];done)))⟩
    simp only [resOf, decide_eq_false c1, Bool.false_or]
    congr 1

theorem f44 (c p : Int × Int) (i : Nat) (h : Hp) (hk : Hok h) (bi : Box h.blks i [.int .i64 p.1, .int .i64 p.2]) :
    Evals Tryd.prog tab false (.func 44) [.ag [.int .i64 c.1, .int .i64 c.2], .ptr i 0] h (.bool (decide (c.1 = p.1)), h) := by
  refine evals_pure c44 rfl hk ?_
  simp only [sf44, initS_cons, initS_nil]
  have bx : Box (h.en.pu [.int .i64 c.1, .int .i64 c.2]).blks h.next [.int .i64 c.1, .int .i64 c.2] := Box.top
  have s1 : Sub h.blks (h.en.pu [.int .i64 c.1, .int .i64 c.2]).blks := Sub.pu (h := h.en) hk
  simp (disch := first|(simp only [Nat.reduceBEq,wE];done)|((repeat' (first|assumption|exact mAx _|refine mBx ?_ ?_|exact mCx (by assumption)|refine mDx ?_|refine mEx ?_ ?_ ?_|exact mFx|refine mGx ?_ ?_ ?_|exact mHx|exact mIx _|(simp only [wM,Nat.reduceAdd,Nat.reduceLT,Nat.reduceLeDiff];done)));done)|omega|decide) only [bx.ld, bi.ld, ↓wA,wB,wL,resOf,Nat.reduceBEq,Int.reduceBEq,Int.reduceBNe,Int.reduceLT,Int.reduceLE,Int.reduceAdd,Int.reduceSub,Int.reduceMul,Int.reduceToNat]
  exact ⟨_, rfl, rfl, by (repeat' (first|assumption|exact mAx _|refine mBx ?_ ?_|exact mCx (by assumption)|refine mDx ?_|refine mEx ?_ ?_ ?_|exact mFx|refine mGx ?_ ?_ ?_|exact mHx|exact mIx _|(simp only [wM,Nat.reduceAdd,Nat.reduceLT,Nat.reduceLeDiff];done)))⟩
end Go.Proofs.YtpfkmdbdafpadaaDoor
