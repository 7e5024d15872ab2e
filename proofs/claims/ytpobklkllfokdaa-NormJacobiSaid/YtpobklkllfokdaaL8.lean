/- NormJacobi. -/
import Derived.Test.YtpobklkllfokdaaNF
import Derived.Test.YtpobklkllfokdaaFNormJacobi
set_option linter.unusedSimpArgs false
set_option linter.unusedVariables false
set_option maxHeartbeats 1000000
namespace Go.Proofs.Ytpobklkllfokdaa
open Go Go.Abs Go.Nm
set_option maxRecDepth 100000 in
set_option maxHeartbeats 4000000 in
theorem f14 (x : Int) (h : Hp) (hk : Hok h) (bx : 0 ≤ x ∧ x ≤ 65535) : ∃ h', Evals Try.prog tab false (.func 14) [.int .u16 x] h (.bool true, h') := by
  refine ⟨h, evals_pure c14 rfl hk ?_⟩
  simp only [sf14, initS_cons, initS_nil]
  obtain ⟨n, hn⟩ : ∃ n : Nat, x % 10000 + 1 = (n : Int) := ⟨(x % 10000 + 1).toNat, by omega⟩
  have hb : 1 ≤ n ∧ n ≤ 10000 := by omega
  have e1 : cntR (n : Int) = (8 * ((sigmaN n 4 n : Nat) : Int), 0) := by simp only [cntR, if_pos (show (0 : Int) ≤ n ∧ (n : Int) ≤ 10000 by omega), if_neg (show ¬ (n : Int) = 0 by omega), Int.toNat_natCast]
  have e2 : hurR (n : Int) = (24 * ((sigmaN n 2 n : Nat) : Int), 0) := by simp only [hurR, if_pos (show (1 : Int) ≤ n ∧ (n : Int) ≤ 10000 by omega), Int.toNat_natCast]
  have s4 := sigma_bd (n := n) (m := 4) hb.2
  have s2 := sigma_bd (n := n) (m := 2) hb.2
  simp (disch := first|(simp only [Nat.reduceBEq,wE];done)|((repeat' (first|assumption|exact mAx _|refine mBx ?_ ?_|exact mCx (by assumption)|refine mDx ?_|refine mEx ?_ ?_ ?_|exact mFx|refine mGx ?_ ?_ ?_|exact mHx|exact mIx _|(simp only [wM,Nat.reduceAdd,Nat.reduceLT,Nat.reduceLeDiff];done)));done)|omega|decide) only [sBin_rem, hn, ↓wA,wB,wL,resOf,Nat.reduceBEq,Int.reduceBEq,Int.reduceBNe,Int.reduceLT,Int.reduceLE,Int.reduceAdd,Int.reduceSub,Int.reduceMul,Int.reduceToNat]
  refine callP (f37 n _ (by (repeat' (first|assumption|exact mAx _|refine mBx ?_ ?_|exact mCx (by assumption)|refine mDx ?_|refine mEx ?_ ?_ ?_|exact mFx|refine mGx ?_ ?_ ?_|exact mHx|exact mIx _|(simp only [wM,Nat.reduceAdd,Nat.reduceLT,Nat.reduceLeDiff];done))))) ?_
  rw [e1]
  simp (disch := first|(simp only [Nat.reduceBEq,wE];done)|((repeat' (first|assumption|exact mAx _|refine mBx ?_ ?_|exact mCx (by assumption)|refine mDx ?_|refine mEx ?_ ?_ ?_|exact mFx|refine mGx ?_ ?_ ?_|exact mHx|exact mIx _|(simp only [wM,Nat.reduceAdd,Nat.reduceLT,Nat.reduceLeDiff];done)));done)|omega|decide) only [↓wA,wB,wL,resOf,Nat.reduceBEq,Int.reduceBEq,Int.reduceBNe,Int.reduceLT,Int.reduceLE,Int.reduceAdd,Int.reduceSub,Int.reduceMul,Int.reduceToNat]
  refine callP (f38 n _ (by (repeat' (first|assumption|exact mAx _|refine mBx ?_ ?_|exact mCx (by assumption)|refine mDx ?_|refine mEx ?_ ?_ ?_|exact mFx|refine mGx ?_ ?_ ?_|exact mHx|exact mIx _|(simp only [wM,Nat.reduceAdd,Nat.reduceLT,Nat.reduceLeDiff];done))))) ?_
  rw [e2]
  simp (disch := first|(simp only [Nat.reduceBEq,wE];done)|((repeat' (first|assumption|exact mAx _|refine mBx ?_ ?_|exact mCx (by assumption)|refine mDx ?_|refine mEx ?_ ?_ ?_|exact mFx|refine mGx ?_ ?_ ?_|exact mHx|exact mIx _|(simp only [wM,Nat.reduceAdd,Nat.reduceLT,Nat.reduceLeDiff];done)));done)|omega|decide) only [↓wA,wB,wL,resOf,Nat.reduceBEq,Int.reduceBEq,Int.reduceBNe,Int.reduceLT,Int.reduceLE,Int.reduceAdd,Int.reduceSub,Int.reduceMul,Int.reduceToNat]
  refine wloop (fun mm ss => ∃ (d : Nat) (u27 u38 u50 : AV), (mm = n - d) ∧ (d ≤ n) ∧ ss = { fr := [(0, .int .u16 x), (2, .bool false), (3, .int .i64 n), (4, .int .i64 (8 * ((sigmaN n 4 n : Nat) : Int))), (5, .int .i64 0), (6, .int .i64 (24 * ((sigmaN n 2 n : Nat) : Int))), (7, .int .i64 0), (8, .int .i64 (sigmaN n 4 d)), (9, .int .i64 (sigmaN n 2 d)), (10, .int .i64 (d + 1)), (27, u27), (38, u38), (50, u50)], hp := { next := h.next, blks := h.blks, loops := h.loops, base := h.next, esc := false } }) (n) ?_ ?_
  ·
    refine ⟨0, _, _, _, by omega, by omega, rfl⟩
  rintro nA sA ⟨d, u27, u38, u50, hnA, hd, rfl⟩
  have hs4 := sigmaN_le (n := n) (m := 4) (d := d)
  have hs2 := sigmaN_le (n := n) (m := 2) (d := d)
  have hdd : d * d ≤ 10000 * 10000 := Nat.mul_le_mul (by omega) (by omega)
  simp (disch := first|(simp only [Nat.reduceBEq,wE];done)|((repeat' (first|assumption|exact mAx _|refine mBx ?_ ?_|exact mCx (by assumption)|refine mDx ?_|refine mEx ?_ ?_ ?_|exact mFx|refine mGx ?_ ?_ ?_|exact mHx|exact mIx _|(simp only [wM,Nat.reduceAdd,Nat.reduceLT,Nat.reduceLeDiff];done)));done)|omega|decide) only [↓wA,wB,wL,resOf,Nat.reduceBEq,Int.reduceBEq,Int.reduceBNe,Int.reduceLT,Int.reduceLE,Int.reduceAdd,Int.reduceSub,Int.reduceMul,Int.reduceToNat]
  refine ifThen_intro (fun e => ?_) (fun e => ?_) <;> have eq := e <;> try simp [-List.getD_eq_getElem?_getD] at eq
  · simp (disch := first|(simp only [Nat.reduceBEq,wE];done)|((repeat' (first|assumption|exact mAx _|refine mBx ?_ ?_|exact mCx (by assumption)|refine mDx ?_|refine mEx ?_ ?_ ?_|exact mFx|refine mGx ?_ ?_ ?_|exact mHx|exact mIx _|(simp only [wM,Nat.reduceAdd,Nat.reduceLT,Nat.reduceLeDiff];done)));done)|omega|decide) only [e, e, sBin_rem, ↓wA,wB,wL,resOf,Nat.reduceBEq,Int.reduceBEq,Int.reduceBNe,Int.reduceLT,Int.reduceLE,Int.reduceAdd,Int.reduceSub,Int.reduceMul,Int.reduceToNat]
    have c1 : ((n : Int) % (d + 1) == 0) = decide (n % (d + 1) = 0) := by
      rw [show ((d : Int) + 1) = ((d + 1 : Nat) : Int) from rfl, ← Int.natCast_emod]
      by_cases hh : n % (d + 1) = 0
      · rw [hh]; rfl
      · rw [decide_eq_false hh]; exact beq_eq_false_iff_ne.2 (by omega)
    have ss4 : sigmaN n 4 (d + 1) = sigmaN n 4 d + (if n % (d + 1) = 0 ∧ (d + 1) % 4 ≠ 0 then d + 1 else 0) := rfl
    have ss2 : sigmaN n 2 (d + 1) = sigmaN n 2 d + (if n % (d + 1) = 0 ∧ (d + 1) % 2 ≠ 0 then d + 1 else 0) := rfl
    by_cases g1 : n % (d + 1) = 0
    · rw [decide_eq_true g1] at c1
      by_cases g2 : (d + 1) % 4 ≠ 0
      · have c2 : (((d : Int) + 1) % 4 != 0) = true := bne_iff_ne.2 (by omega)
        rw [if_pos ⟨g1, g2⟩] at ss4
        have ev : ((sigmaN n 4 d : Nat) : Int) + (d + 1) = ((sigmaN n 4 (d + 1) : Nat) : Int) := by rw [ss4]; push_cast; rfl
        by_cases g3 : (d + 1) % 2 ≠ 0
        · have c3 : (((d : Int) + 1) % 2 == 1) = true := beq_iff_eq.2 (by omega)
          rw [if_pos ⟨g1, g3⟩] at ss2
          have ev2 : ((sigmaN n 2 d : Nat) : Int) + (d + 1) = ((sigmaN n 2 (d + 1) : Nat) : Int) := by rw [ss2]; push_cast; rfl
          simp (disch := first|(simp only [Nat.reduceBEq,wE];done)|((repeat' (first|assumption|exact mAx _|refine mBx ?_ ?_|exact mCx (by assumption)|refine mDx ?_|refine mEx ?_ ?_ ?_|exact mFx|refine mGx ?_ ?_ ?_|exact mHx|exact mIx _|(simp only [wM,Nat.reduceAdd,Nat.reduceLT,Nat.reduceLeDiff];done)));done)|omega|decide) only [e, c1, c2, c3, sBin_rem, ev, ev2, ↓wA,wB,wL,resOf,Nat.reduceBEq,Int.reduceBEq,Int.reduceBNe,Int.reduceLT,Int.reduceLE,Int.reduceAdd,Int.reduceSub,Int.reduceMul,Int.reduceToNat]
          refine ⟨_, ?_, d + 1, _, _, _, rfl, ?_, rfl⟩
          · omega
          omega
        · have c3 : (((d : Int) + 1) % 2 == 1) = false := beq_eq_false_iff_ne.2 (by omega)
          rw [if_neg (fun hh => g3 hh.2)] at ss2
          have ev2 : sigmaN n 2 d = sigmaN n 2 (d + 1) := by rw [ss2]; rfl
          simp (disch := first|(simp only [Nat.reduceBEq,wE];done)|((repeat' (first|assumption|exact mAx _|refine mBx ?_ ?_|exact mCx (by assumption)|refine mDx ?_|refine mEx ?_ ?_ ?_|exact mFx|refine mGx ?_ ?_ ?_|exact mHx|exact mIx _|(simp only [wM,Nat.reduceAdd,Nat.reduceLT,Nat.reduceLeDiff];done)));done)|omega|decide) only [e, c1, c2, c3, sBin_rem, ev, ev2, ↓wA,wB,wL,resOf,Nat.reduceBEq,Int.reduceBEq,Int.reduceBNe,Int.reduceLT,Int.reduceLE,Int.reduceAdd,Int.reduceSub,Int.reduceMul,Int.reduceToNat]
          refine ⟨_, ?_, d + 1, _, _, _, rfl, ?_, rfl⟩
          · omega
          omega
      · have c2 : (((d : Int) + 1) % 4 != 0) = false := bne_eq_false_iff_eq.2 (by omega)
        have c3 : (((d : Int) + 1) % 2 == 1) = false := beq_eq_false_iff_ne.2 (by omega)
        rw [if_neg (fun hh => g2 hh.2)] at ss4
        rw [if_neg (fun hh => hh.2 (by omega))] at ss2
        have ev : sigmaN n 4 d = sigmaN n 4 (d + 1) := by rw [ss4]; rfl
        have ev2 : sigmaN n 2 d = sigmaN n 2 (d + 1) := by rw [ss2]; rfl
        simp (disch := first|(simp only [Nat.reduceBEq,wE];done)|((repeat' (first|assumption|exact mAx _|refine mBx ?_ ?_|exact mCx (by assumption)|refine mDx ?_|refine mEx ?_ ?_ ?_|exact mFx|refine mGx ?_ ?_ ?_|exact mHx|exact mIx _|(simp only [wM,Nat.reduceAdd,Nat.reduceLT,Nat.reduceLeDiff];done)));done)|omega|decide) only [e, c1, c2, c3, sBin_rem, ev, ev2, ↓wA,wB,wL,resOf,Nat.reduceBEq,Int.reduceBEq,Int.reduceBNe,Int.reduceLT,Int.reduceLE,Int.reduceAdd,Int.reduceSub,Int.reduceMul,Int.reduceToNat]
        refine ⟨_, ?_, d + 1, _, _, _, rfl, ?_, rfl⟩
        · omega
        omega
    · rw [decide_eq_false g1] at c1
      rw [if_neg (fun hh => g1 hh.1)] at ss4
      rw [if_neg (fun hh => g1 hh.1)] at ss2
      have ev : sigmaN n 4 d = sigmaN n 4 (d + 1) := by rw [ss4]; rfl
      have ev2 : sigmaN n 2 d = sigmaN n 2 (d + 1) := by rw [ss2]; rfl
      simp (disch := first|(simp only [Nat.reduceBEq,wE];done)|((repeat' (first|assumption|exact mAx _|refine mBx ?_ ?_|exact mCx (by assumption)|refine mDx ?_|refine mEx ?_ ?_ ?_|exact mFx|refine mGx ?_ ?_ ?_|exact mHx|exact mIx _|(simp only [wM,Nat.reduceAdd,Nat.reduceLT,Nat.reduceLeDiff];done)));done)|omega|decide) only [e, c1, sBin_rem, ev, ev2, ↓wA,wB,wL,resOf,Nat.reduceBEq,Int.reduceBEq,Int.reduceBNe,Int.reduceLT,Int.reduceLE,Int.reduceAdd,Int.reduceSub,Int.reduceMul,Int.reduceToNat]
      refine ⟨_, ?_, d + 1, _, _, _, rfl, ?_, rfl⟩
      · omega
      omega
  · obtain rfl : d = n := by omega
    simp (disch := first|(simp only [Nat.reduceBEq,wE];done)|((repeat' (first|assumption|exact mAx _|refine mBx ?_ ?_|exact mCx (by assumption)|refine mDx ?_|refine mEx ?_ ?_ ?_|exact mFx|refine mGx ?_ ?_ ?_|exact mHx|exact mIx _|(simp only [wM,Nat.reduceAdd,Nat.reduceLT,Nat.reduceLeDiff];done)));done)|omega|decide) only [e, e, ↓wA,wB,wL,resOf,Nat.reduceBEq,Int.reduceBEq,Int.reduceBNe,Int.reduceLT,Int.reduceLE,Int.reduceAdd,Int.reduceSub,Int.reduceMul,Int.reduceToNat]
    refine callP (f23 _ (by (repeat' (first|assumption|exact mAx _|refine mBx ?_ ?_|exact mCx (by assumption)|refine mDx ?_|refine mEx ?_ ?_ ?_|exact mFx|refine mGx ?_ ?_ ?_|exact mHx|exact mIx _|(simp only [wM,Nat.reduceAdd,Nat.reduceLT,Nat.reduceLeDiff];done))))) ?_
    simp (disch := first|(simp only [Nat.reduceBEq,wE];done)|((repeat' (first|assumption|exact mAx _|refine mBx ?_ ?_|exact mCx (by assumption)|refine mDx ?_|refine mEx ?_ ?_ ?_|exact mFx|refine mGx ?_ ?_ ?_|exact mHx|exact mIx _|(simp only [wM,Nat.reduceAdd,Nat.reduceLT,Nat.reduceLeDiff];done)));done)|omega|decide) only [e, ↓wA,wB,wL,resOf,Nat.reduceBEq,Int.reduceBEq,Int.reduceBNe,Int.reduceLT,Int.reduceLE,Int.reduceAdd,Int.reduceSub,Int.reduceMul,Int.reduceToNat]
    exact ⟨_, rfl, rfl, by (repeat' (first|assumption|exact mAx _|refine mBx ?_ ?_|exact mCx (by assumption)|refine mDx ?_|refine mEx ?_ ?_ ?_|exact mFx|refine mGx ?_ ?_ ?_|exact mHx|exact mIx _|(simp only [wM,Nat.reduceAdd,Nat.reduceLT,Nat.reduceLeDiff];done)))⟩
end Go.Proofs.Ytpobklkllfokdaa
