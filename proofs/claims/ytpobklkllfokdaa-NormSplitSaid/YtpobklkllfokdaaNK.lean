/- The laws' check of a sum of squares. -/
import Derived.Test.YtpobklkllfokdaaNJ
import Derived.Test.YtpobklkllfokdaaNF
set_option linter.unusedSimpArgs false
set_option linter.unusedVariables false
set_option maxHeartbeats 1000000
namespace Go.Nm
theorem sqs_ge {x : Nat} : ∀ {l : List Nat}, x ∈ l → x * x ≤ sqs l
  | [], h => by cases h
  | y :: l, h => by
    simp only [sqs]
    rcases List.mem_cons.1 h with rfl | h
    · omega
    · have := sqs_ge h; omega
theorem sq_100 {x n : Nat} (h : x * x ≤ n) (hn : n ≤ 10000) : x ≤ 100 := by
  rcases Nat.lt_or_ge 100 x with h1 | h1
  · have := Nat.mul_le_mul (show 101 ≤ x by omega) (show 101 ≤ x by omega)
    omega
  · exact h1
theorem sqs_drop {l : List Nat} {i : Nat} (h : i < l.length) : sqs (l.drop i) = l.getD i 0 * l.getD i 0 + sqs (l.drop (i + 1)) := by
  rw [List.drop_eq_getElem_cons h]
  simp [sqs, List.getD_eq_getElem?_getD, List.getElem?_eq_getElem h]
theorem sqR_some {k n : Nat} (h : n ≤ 10000) {l : List Nat} (hs : sqF k n n = some l) : sqR k (n : Int) = (l, 0) := by
  simp only [sqR, if_pos (show (0 : Int) ≤ n ∧ (n : Int) ≤ 10000 by omega), Int.toNat_natCast, hs]
theorem sqR_none {k n : Nat} (h : n ≤ 10000) (hs : sqF k n n = none) : sqR k (n : Int) = ([], 5) := by
  simp only [sqR, if_pos (show (0 : Int) ≤ n ∧ (n : Int) ≤ 10000 by omega), Int.toNat_natCast, hs]
theorem four_some {n : Nat} (h : n ≤ 10000) : ∃ l, sqF 4 n n = some l ∧ IsSq 4 n n l := by
  cases hs : sqF 4 n n with
  | none => exact absurd hs (four_sq_ex h)
  | some l => exact ⟨l, rfl, sqF_sound hs⟩
end Go.Nm
namespace Go.Proofs.Ytpobklkllfokdaa
open Go Go.Abs Go.Nm
set_option maxRecDepth 100000 in
theorem f45 (a : AV) (l : List Nat) (k n : Nat) (h : Hp) (hk : Hok h) (ha : Ints h.blks .i64 a (iv l)) (s : IsSq k n n l) (hn : n ≤ 10000) (h4 : k ≤ 4) :
    Evals Try.prog tab false (.func 45) [a, .int .i64 k, .int .i64 n] h (.bool true, h) := by
  refine evals_pure c45 rfl hk ?_
  simp only [sf45, initS_cons, initS_nil]
  have hl : (iv l).length = k := by rw [iv_len, s.len]
  have hll := s.len
  have e0 : ((k : Int) != k) = false := by simp
  simp (disch := first|(simp only [Nat.reduceBEq,wE];done)|((repeat' (first|assumption|exact mAx _|refine mBx ?_ ?_|exact mCx (by assumption)|refine mDx ?_|refine mEx ?_ ?_ ?_|exact mFx|refine mGx ?_ ?_ ?_|exact mHx|exact mIx _|(simp only [wM,Nat.reduceAdd,Nat.reduceLT,Nat.reduceLeDiff];done)));done)|omega|decide) only [ha.len, hl, e0, ↓wA,wB,wL,resOf,Nat.reduceBEq,Int.reduceBEq,Int.reduceBNe,Int.reduceLT,Int.reduceLE,Int.reduceAdd,Int.reduceSub,Int.reduceMul,Int.reduceToNat]
  refine wloop (fun mm ss => ∃ (i : Nat) (u11 u14 u44 : AV), (mm = k - i) ∧ (i ≤ k) ∧ ss = { fr := [(0, a), (1, .int .i64 k), (2, .int .i64 (sqs (l.drop i))), (6, .bool false), (7, .int .i64 i), (11, u11), (14, u14), (44, u44)], hp := { next := h.next, blks := h.blks, loops := h.loops, base := h.next, esc := false } }) (k) ?_ ?_
  ·
    have e1 : n = sqs (l.drop 0) := by rw [List.drop_zero, s.sum]
    refine ⟨0, .bool false, .any, .any, by omega, by omega, ?_⟩
    rw [← e1]
    rfl
  rintro nA sA ⟨i, u11, u14, u44, hnA, hi, rfl⟩
  simp (disch := first|(simp only [Nat.reduceBEq,wE];done)|((repeat' (first|assumption|exact mAx _|refine mBx ?_ ?_|exact mCx (by assumption)|refine mDx ?_|refine mEx ?_ ?_ ?_|exact mFx|refine mGx ?_ ?_ ?_|exact mHx|exact mIx _|(simp only [wM,Nat.reduceAdd,Nat.reduceLT,Nat.reduceLeDiff];done)));done)|omega|decide) only [↓wA,wB,wL,resOf,Nat.reduceBEq,Int.reduceBEq,Int.reduceBNe,Int.reduceLT,Int.reduceLE,Int.reduceAdd,Int.reduceSub,Int.reduceMul,Int.reduceToNat]
  refine ifThen_intro (fun e => ?_) (fun e => ?_) <;> have eq := e <;> try simp [-List.getD_eq_getElem?_getD] at eq
  · have hm : l.getD i 0 ∈ l := by
      rw [List.getD_eq_getElem?_getD, List.getElem?_eq_getElem (by omega)]
      exact List.getElem_mem _
    have hsm := sqs_ge hm
    rw [s.sum] at hsm
    have h100 := sq_100 hsm hn
    have sd := sqs_drop (l := l) (i := i) (by omega)
    have b0 := Nm.mul_bd 100 100 (x := ((l.getD i 0 : Nat) : Int)) (y := ((l.getD i 0 : Nat) : Int)) (by omega) (by omega)
    have bs : sqs (l.drop i) ≤ n := by
      rw [← s.sum]
      have : ∀ (l : List Nat) (i : Nat), sqs (l.drop i) ≤ sqs l := fun l => by
        induction l with
        | nil => intro i; simp
        | cons x l ih =>
          intro i
          cases i with
          | zero => simp
          | succ i => have := ih i; simp only [List.drop_succ_cons, sqs]; omega
      exact this l i
    have e1 : decide (((l.getD i 0 : Nat) : Int) < 0) = false := decide_eq_false (by omega)
    have e2 : decide ((100 : Int) < ((l.getD i 0 : Nat) : Int)) = false := decide_eq_false (by omega)
    have ev : ((sqs (l.drop i) : Nat) : Int) - ((l.getD i 0 : Nat) : Int) * ((l.getD i 0 : Nat) : Int) = ((sqs (l.drop (i + 1)) : Nat) : Int) := by
      rw [sd, ← Int.natCast_mul]; omega
    by_cases hi0 : 0 < i
    · have e3 : decide ((0 : Int) < i) = true := decide_eq_true (by omega)
      have e5 : (i : Int) - 1 = ((i - 1 : Nat) : Int) := by omega
      have hp : l.getD i 0 ≤ l.getD (i - 1) 0 := by
        have := List.pairwise_iff_getElem.1 s.ord (i - 1) i (by omega) (by omega) (by omega)
        simpa [List.getD_eq_getElem?_getD, List.getElem?_eq_getElem (show i < l.length by omega), List.getElem?_eq_getElem (show i - 1 < l.length by omega)] using this
      have e4 : decide (((l.getD (i - 1) 0 : Nat) : Int) < ((l.getD i 0 : Nat) : Int)) = false := decide_eq_false (by omega)
      simp (disch := first|(simp only [Nat.reduceBEq,wE];done)|((repeat' (first|assumption|exact mAx _|refine mBx ?_ ?_|exact mCx (by assumption)|refine mDx ?_|refine mEx ?_ ?_ ?_|exact mFx|refine mGx ?_ ?_ ?_|exact mHx|exact mIx _|(simp only [wM,Nat.reduceAdd,Nat.reduceLT,Nat.reduceLeDiff];done)));done)|omega|decide) only [e, e, ha.ix, ha.ld, iv_getD, e1, e2, e3, ↓wA,wB,wL,resOf,Nat.reduceBEq,Int.reduceBEq,Int.reduceBNe,Int.reduceLT,Int.reduceLE,Int.reduceAdd,Int.reduceSub,Int.reduceMul,Int.reduceToNat]
      simp (disch := first|(simp only [Nat.reduceBEq,wE];done)|((repeat' (first|assumption|exact mAx _|refine mBx ?_ ?_|exact mCx (by assumption)|refine mDx ?_|refine mEx ?_ ?_ ?_|exact mFx|refine mGx ?_ ?_ ?_|exact mHx|exact mIx _|(simp only [wM,Nat.reduceAdd,Nat.reduceLT,Nat.reduceLeDiff];done)));done)|omega|decide) only [e, ha.ix, ha.ld, iv_getD, e1, e2, e3, e5, e4, ev, ↓wA,wB,wL,resOf,Nat.reduceBEq,Int.reduceBEq,Int.reduceBNe,Int.reduceLT,Int.reduceLE,Int.reduceAdd,Int.reduceSub,Int.reduceMul,Int.reduceToNat]
      refine ⟨_, ?_, i + 1, _, _, _, rfl, ?_, rfl⟩
      · omega
      omega
    · have e3 : decide ((0 : Int) < i) = false := decide_eq_false (by omega)
      simp (disch := first|(simp only [Nat.reduceBEq,wE];done)|((repeat' (first|assumption|exact mAx _|refine mBx ?_ ?_|exact mCx (by assumption)|refine mDx ?_|refine mEx ?_ ?_ ?_|exact mFx|refine mGx ?_ ?_ ?_|exact mHx|exact mIx _|(simp only [wM,Nat.reduceAdd,Nat.reduceLT,Nat.reduceLeDiff];done)));done)|omega|decide) only [e, e, ha.ix, ha.ld, iv_getD, e1, e2, e3, ↓wA,wB,wL,resOf,Nat.reduceBEq,Int.reduceBEq,Int.reduceBNe,Int.reduceLT,Int.reduceLE,Int.reduceAdd,Int.reduceSub,Int.reduceMul,Int.reduceToNat]
      simp (disch := first|(simp only [Nat.reduceBEq,wE];done)|((repeat' (first|assumption|exact mAx _|refine mBx ?_ ?_|exact mCx (by assumption)|refine mDx ?_|refine mEx ?_ ?_ ?_|exact mFx|refine mGx ?_ ?_ ?_|exact mHx|exact mIx _|(simp only [wM,Nat.reduceAdd,Nat.reduceLT,Nat.reduceLeDiff];done)));done)|omega|decide) only [e, ha.ix, ha.ld, iv_getD, e1, e2, e3, ev, ↓wA,wB,wL,resOf,Nat.reduceBEq,Int.reduceBEq,Int.reduceBNe,Int.reduceLT,Int.reduceLE,Int.reduceAdd,Int.reduceSub,Int.reduceMul,Int.reduceToNat]
      refine ⟨_, ?_, i + 1, _, _, _, rfl, ?_, rfl⟩
      · omega
      omega
  · have hd : l.drop i = [] := List.drop_of_length_le (by omega)
    have e9 : (((sqs (l.drop i) : Nat) : Int) == 0) = true := by rw [hd]; rfl
    simp (disch := first|(simp only [Nat.reduceBEq,wE];done)|((repeat' (first|assumption|exact mAx _|refine mBx ?_ ?_|exact mCx (by assumption)|refine mDx ?_|refine mEx ?_ ?_ ?_|exact mFx|refine mGx ?_ ?_ ?_|exact mHx|exact mIx _|(simp only [wM,Nat.reduceAdd,Nat.reduceLT,Nat.reduceLeDiff];done)));done)|omega|decide) only [e, e, e9, ↓wA,wB,wL,resOf,Nat.reduceBEq,Int.reduceBEq,Int.reduceBNe,Int.reduceLT,Int.reduceLE,Int.reduceAdd,Int.reduceSub,Int.reduceMul,Int.reduceToNat]
    exact ⟨_, rfl, rfl, by (repeat' (first|assumption|exact mAx _|refine mBx ?_ ?_|exact mCx (by assumption)|refine mDx ?_|refine mEx ?_ ?_ ?_|exact mFx|refine mGx ?_ ?_ ?_|exact mHx|exact mIx _|(simp only [wM,Nat.reduceAdd,Nat.reduceLT,Nat.reduceLeDiff];done)))⟩
end Go.Proofs.Ytpobklkllfokdaa
