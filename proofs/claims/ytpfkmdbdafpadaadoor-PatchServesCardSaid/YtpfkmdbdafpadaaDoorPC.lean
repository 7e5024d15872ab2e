/- Lists of numbers and pairs: the references' checks; functions that are handed over; colours that are free. -/
import Derived.Test.YtpfkmdbdafpadaaDoorPB
set_option linter.unusedSimpArgs false
set_option linter.unusedVariables false
set_option maxHeartbeats 1000000
namespace Go.Proofs.YtpfkmdbdafpadaaDoor
open Go Go.Abs Go.Pa

/- The place of the first that a function accepts. -/
def idxI {α : Type} (F : α → Bool) (l : List α) : Int := match l.findIdx? F with | some i => (i : Int) | none => -1
theorem idxI_hit {α : Type} {F : α → Bool} {l : List α} {i : Nat} (h : i < l.length) (h1 : F l[i] = true) (h2 : ∀ x ∈ l.take i, F x = false) : idxI F l = i := by
  have : l.findIdx? F = some i := by
    rw [List.findIdx?_eq_some_iff_getElem]
    refine ⟨h, h1, fun j hj => ?_⟩
    have := h2 l[j] (List.mem_take_iff_getElem.2 ⟨j, by omega, rfl⟩)
    simp [this]
  simp [idxI, this]
theorem idxI_none {α : Type} {F : α → Bool} {l : List α} (h : ∀ x ∈ l, F x = false) : idxI F l = -1 := by
  have : l.findIdx? F = none := by
    rw [List.findIdx?_eq_none_iff]
    exact h
  simp [idxI, this]
theorem idxI_any {α : Type} {F : α → Bool} {l : List α} : decide (0 ≤ idxI F l) = l.any F := by
  cases hf : l.findIdx? F with
  | none =>
    have : l.any F = false := by
      rw [List.any_eq_false]
      intro x hx
      have := List.findIdx?_eq_none_iff.1 hf x hx
      simp [this]
    simp [idxI, hf, this]
  | some i =>
    obtain ⟨hlt, h1, _⟩ := List.findIdx?_eq_some_iff_getElem.1 hf
    have : l.any F = true := List.any_eq_true.2 ⟨l[i], List.getElem_mem _, h1⟩
    simp [idxI, hf, this]

theorem f27 (a : AV) (l : List (Int × Int)) (g : Nat) (cs : List AV) (F : Int × Int → Bool) (h : Hp) (hk : Hok h) (ha : Pairs h.blks a l) (hz : l.length ≤ 100000)
    (hF : ∀ z ∈ l, Evals Tryd.prog tab false (.func g) (.ag [.int .i64 z.1, .int .i64 z.2] :: cs) h.en (.bool (F z), h.en)) :
    Evals Tryd.prog tab false (.func 27) [a, .fn (.func g) [] cs] h (.int .i64 (idxI F l), h) := by
  refine evals_pure c27 rfl hk ?_
  simp only [sf27, initS_cons, initS_nil]
  simp (disch := first|(simp only [Nat.reduceBEq,wE];done)|((repeat' (first|assumption|exact mAx _|refine mBx ?_ ?_|exact mCx (by assumption)|refine mDx ?_|refine mEx ?_ ?_ ?_|exact mFx|refine mGx ?_ ?_ ?_|exact mHx|exact mIx _|(simp only [wM,Nat.reduceAdd,Nat.reduceLT,Nat.reduceLeDiff];done)));done)|omega|decide) only [ha.len, ↓wA,wB,wL,resOf,Nat.reduceBEq,Int.reduceBEq,Int.reduceBNe,Int.reduceLT,Int.reduceLE,Int.reduceAdd,Int.reduceSub,Int.reduceMul,Int.reduceToNat]
  refine wloop (fun mm ss => ∃ (i : Nat) (u4 u5 u9 u16 : AV), (mm = l.length - i) ∧ (i ≤ l.length ∧ ∀ x ∈ l.take i, F x = false) ∧ ss = { fr := [(0, a), (1, .fn (.func g) [] cs), (4, u4), (5, u5), (7, .int .i64 l.length), (8, .int .i64 i), (9, u9), (16, u16)], hp := h.en }) (l.length) ?_ ?_
  ·
    refine ⟨0, _, _, _, _, by omega, ⟨by omega, by simp⟩, rfl⟩
  rintro nA sA ⟨i, u4, u5, u9, u16, hnA, ⟨hi, hp⟩, rfl⟩
  simp (disch := first|(simp only [Nat.reduceBEq,wE];done)|((repeat' (first|assumption|exact mAx _|refine mBx ?_ ?_|exact mCx (by assumption)|refine mDx ?_|refine mEx ?_ ?_ ?_|exact mFx|refine mGx ?_ ?_ ?_|exact mHx|exact mIx _|(simp only [wM,Nat.reduceAdd,Nat.reduceLT,Nat.reduceLeDiff];done)));done)|omega|decide) only [↓wA,wB,wL,resOf,Nat.reduceBEq,Int.reduceBEq,Int.reduceBNe,Int.reduceLT,Int.reduceLE,Int.reduceAdd,Int.reduceSub,Int.reduceMul,Int.reduceToNat]
  refine ifThen_intro (fun e => ?_) (fun e => ?_) <;> have eq := e <;> try simp [-List.getD_eq_getElem?_getD] at eq
  · have ge : l.getD i (0, 0) = l[i] := by simp [List.getD_eq_getElem?_getD, List.getElem?_eq_getElem eq]
    have ev := hF _ (List.getElem_mem eq)
    rw [← ge] at ev
    cases e1 : F (l.getD i (0, 0))
    · rw [e1] at ev
      simp (disch := first|(simp only [Nat.reduceBEq,wE];done)|((repeat' (first|assumption|exact mAx _|refine mBx ?_ ?_|exact mCx (by assumption)|refine mDx ?_|refine mEx ?_ ?_ ?_|exact mFx|refine mGx ?_ ?_ ?_|exact mHx|exact mIx _|(simp only [wM,Nat.reduceAdd,Nat.reduceLT,Nat.reduceLeDiff];done)));done)|omega|decide) only [e, ha.ix, ha.lda, callC (args := [.ag [.int .i64 (l.getD i (0, 0)).1, .int .i64 (l.getD i (0, 0)).2]]) (cs := cs) ev, ↓wA,wB,wL,resOf,Nat.reduceBEq,Int.reduceBEq,Int.reduceBNe,Int.reduceLT,Int.reduceLE,Int.reduceAdd,Int.reduceSub,Int.reduceMul,Int.reduceToNat]
      refine ⟨_, ?_, i + 1, _, _, _, _, rfl, ?_, rfl⟩
      · omega
      refine ⟨by omega, fun z hz => ?_⟩
      rw [List.take_succ_eq_append_getElem eq, List.mem_append, List.mem_singleton] at hz
      rcases hz with hz | rfl
      · exact hp z hz
      · rw [ge] at e1
        exact e1
    · rw [e1] at ev
      simp (disch := first|(simp only [Nat.reduceBEq,wE];done)|((repeat' (first|assumption|exact mAx _|refine mBx ?_ ?_|exact mCx (by assumption)|refine mDx ?_|refine mEx ?_ ?_ ?_|exact mFx|refine mGx ?_ ?_ ?_|exact mHx|exact mIx _|(simp only [wM,Nat.reduceAdd,Nat.reduceLT,Nat.reduceLeDiff];done)));done)|omega|decide) only [e, ha.ix, ha.lda, callC (args := [.ag [.int .i64 (l.getD i (0, 0)).1, .int .i64 (l.getD i (0, 0)).2]]) (cs := cs) ev, ↓wA,wB,wL,resOf,Nat.reduceBEq,Int.reduceBEq,Int.reduceBNe,Int.reduceLT,Int.reduceLE,Int.reduceAdd,Int.reduceSub,Int.reduceMul,Int.reduceToNat]
      refine ⟨_, rfl, ?_, by (repeat' (first|assumption|exact mAx _|refine mBx ?_ ?_|exact mCx (by assumption)|refine mDx ?_|refine mEx ?_ ?_ ?_|exact mFx|refine mGx ?_ ?_ ?_|exact mHx|exact mIx _|(simp only [wM,Nat.reduceAdd,Nat.reduceLT,Nat.reduceLeDiff];done)))⟩
      rw [idxI_hit eq (by rw [ge] at e1; exact e1) hp]
  · simp (disch := first|(simp only [Nat.reduceBEq,wE];done)|((repeat' (first|assumption|exact mAx _|refine mBx ?_ ?_|exact mCx (by assumption)|refine mDx ?_|refine mEx ?_ ?_ ?_|exact mFx|refine mGx ?_ ?_ ?_|exact mHx|exact mIx _|(simp only [wM,Nat.reduceAdd,Nat.reduceLT,Nat.reduceLeDiff];done)));done)|omega|decide) only [e, ↓wA,wB,wL,resOf,Nat.reduceBEq,Int.reduceBEq,Int.reduceBNe,Int.reduceLT,Int.reduceLE,Int.reduceAdd,Int.reduceSub,Int.reduceMul,Int.reduceToNat]
    refine ⟨_, rfl, ?_, by (repeat' (first|assumption|exact mAx _|refine mBx ?_ ?_|exact mCx (by assumption)|refine mDx ?_|refine mEx ?_ ?_ ?_|exact mFx|refine mGx ?_ ?_ ?_|exact mHx|exact mIx _|(simp only [wM,Nat.reduceAdd,Nat.reduceLT,Nat.reduceLeDiff];done)))⟩
    rw [List.take_of_length_le (by omega)] at hp
    rw [idxI_none hp]

theorem f16 (a : AV) (l : List (Int × Int)) (g : Nat) (cs : List AV) (F : Int × Int → Bool) (h : Hp) (hk : Hok h) (ha : Pairs h.blks a l) (hz : l.length ≤ 100000)
    (hF : ∀ z ∈ l, Evals Tryd.prog tab false (.func g) (.ag [.int .i64 z.1, .int .i64 z.2] :: cs) h.en (.bool (F z), h.en)) :
    Evals Tryd.prog tab false (.func 16) [a, .fn (.func g) [] cs] h (.bool (l.any F), h) := by
  refine evals_pure c16 rfl hk ?_
  simp only [sf16, initS_cons, initS_nil]
  simp (disch := first|(simp only [Nat.reduceBEq,wE];done)|((repeat' (first|assumption|exact mAx _|refine mBx ?_ ?_|exact mCx (by assumption)|refine mDx ?_|refine mEx ?_ ?_ ?_|exact mFx|refine mGx ?_ ?_ ?_|exact mHx|exact mIx _|(simp only [wM,Nat.reduceAdd,Nat.reduceLT,Nat.reduceLeDiff];done)));done)|omega|decide) only [callT (f27 a l g cs F h.en hk ha hz hF), ↓wA,wB,wL,resOf,Nat.reduceBEq,Int.reduceBEq,Int.reduceBNe,Int.reduceLT,Int.reduceLE,Int.reduceAdd,Int.reduceSub,Int.reduceMul,Int.reduceToNat]
  refine ⟨_, rfl, ?_, by (repeat' (first|assumption|exact mAx _|refine mBx ?_ ?_|exact mCx (by assumption)|refine mDx ?_|refine mEx ?_ ?_ ?_|exact mFx|refine mGx ?_ ?_ ?_|exact mHx|exact mIx _|(simp only [wM,Nat.reduceAdd,Nat.reduceLT,Nat.reduceLeDiff];done)))⟩
  rw [← idxI_any]

end Go.Proofs.YtpfkmdbdafpadaaDoor
