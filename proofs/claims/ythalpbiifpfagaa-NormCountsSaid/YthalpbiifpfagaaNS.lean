/- The reference's numbers of quadruples and of integral quaternions. -/
import Derived.Test.YthalpbiifpfagaaNR
import Derived.Test.YthalpbiifpfagaaNQD
set_option linter.unusedSimpArgs false
set_option linter.unusedVariables false
set_option maxHeartbeats 4000000
set_option maxRecDepth 20000

namespace Go.Qt4

theorem cnv_le {f g : Nat → Nat} {n M : Nat} (hf : ∀ v, f v ≤ M) (hg : ∀ v, g v ≤ M) : ∀ k, cnv f g n k ≤ k * (M * M)
  | 0 => by simp [cnv]
  | k + 1 => by
    have h1 := cnv_le (n := n) hf hg k
    have h2 : f k * g (n - k) ≤ M * M := Nat.mul_le_mul (hf k) (hg _)
    rw [cnv, Nat.succ_mul]
    omega
theorem len_pr (l : List Nat) : (pr l).length = l.length * l.length := len_prd l l
theorem cntL4 (v : Nat) : (pr L4).count v ≤ 40401 := by
  have h := List.count_le_length (a := v) (l := pr L4)
  rw [len_pr, lenL4] at h
  exact h
theorem cntLO (v : Nat) : (pr LO).count v ≤ 40000 := by
  have h := List.count_le_length (a := v) (l := pr LO)
  rw [len_pr, lenLO] at h
  exact h
theorem sig_eq (n m : Nat) : ∀ d, sigmaN' n m d = Nm.sigmaN n m d
  | 0 => rfl
  | d + 1 => by rw [sigmaN', Nm.sigmaN, sig_eq n m d]

end Go.Qt4


namespace Go.Proofs.Ythalpbiifpfagaa

open Go Go.Abs Go.Nm Go.Qt4

theorem f8 (n : Nat) (h : Hp) (hk : Hok h) (hn : n ≤ 10000) : Evals Try.prog tab false (.func 8) [.int .i64 n] h (.int .i64 ((pr (pr L4)).count n : Nat), h) := by
  refine evals_pure c8 rfl hk ?_
  simp only [sf8, initS_cons, initS_nil]
  simp (disch := first|(simp only [Nat.reduceBEq,wE];done)|((repeat' (first|assumption|exact mAx _|refine mBx ?_ ?_|exact mCx (by assumption)|refine mDx ?_|refine mEx ?_ ?_ ?_|exact mFx|refine mGx ?_ ?_ ?_|exact mHx|exact mIx _|(simp only [wM,Nat.reduceAdd,Nat.reduceLT,Nat.reduceLeDiff];done)));done)|omega|decide) only [↓wA,wB,wL,resOf,Nat.reduceBEq,Int.reduceBEq,Int.reduceBNe,Int.reduceLT,Int.reduceLE,Int.reduceAdd,Int.reduceSub,Int.reduceMul,Int.reduceToNat]
  refine callE (f20 n 100 2 h.en hk (by omega) (by omega) (by omega)) ?_
  rintro w h1 ⟨g1, o1⟩
  have hF : pr (sqL 100 2 (2 * 100 + 1)) = pr L4 := rfl
  rw [hF] at o1
  have hc := cntL4
  have e2 : (pr (pr L4)).count n = cnv (fun v => (pr L4).count v) (fun v => (pr L4).count v) n (n + 1) := count_prd (pr L4) n (pr L4)
  rw [e2]
  clear e2 hF
  generalize pr L4 = F at *
  have hl := outF_len F n
  simp (disch := first|(simp only [Nat.reduceBEq,wE];done)|((repeat' (first|assumption|exact mAx _|refine mBx ?_ ?_|exact mCx (by assumption)|refine mDx ?_|refine mEx ?_ ?_ ?_|exact mFx|refine mGx ?_ ?_ ?_|exact mHx|exact mIx _|(simp only [wM,Nat.reduceAdd,Nat.reduceLT,Nat.reduceLeDiff];done)));done)|omega|decide) only [↓wA,wB,wL,resOf,Nat.reduceBEq,Int.reduceBEq,Int.reduceBNe,Int.reduceLT,Int.reduceLE,Int.reduceAdd,Int.reduceSub,Int.reduceMul,Int.reduceToNat]
  refine wloop (fun mm ss => ∃ (v : Nat) (u2 u10 : AV), (mm = n + 1 - v) ∧ (v ≤ n + 1) ∧ ss = { fr := [(0, .int .i64 n), (2, u2), (3, w), (4, .int .i64 (cnv (fun v => F.count v) (fun v => F.count v) n v : Nat)), (5, .int .i64 v), (10, u10)], hp := h1 }) (n + 1) ?_ ?_
  ·
    refine ⟨0, _, _, by omega, by omega, rfl⟩
  rintro nA sA ⟨v, u2, u10, hnA, hv, rfl⟩
  simp (disch := first|(simp only [Nat.reduceBEq,wE];done)|((repeat' (first|assumption|exact mAx _|refine mBx ?_ ?_|exact mCx (by assumption)|refine mDx ?_|refine mEx ?_ ?_ ?_|exact mFx|refine mGx ?_ ?_ ?_|exact mHx|exact mIx _|(simp only [wM,Nat.reduceAdd,Nat.reduceLT,Nat.reduceLeDiff];done)));done)|omega|decide) only [↓wA,wB,wL,resOf,Nat.reduceBEq,Int.reduceBEq,Int.reduceBNe,Int.reduceLT,Int.reduceLE,Int.reduceAdd,Int.reduceSub,Int.reduceMul,Int.reduceToNat]
  refine ifThen_intro (fun e => ?_) (fun e => ?_) <;> have eq := e <;> try simp [-List.getD_eq_getElem?_getD] at eq
  · have p1 := outF_get (F := F) (n := n) (v := v) (by omega)
    have p2 := outF_get (F := F) (n := n) (v := n - v) (by omega)
    have en : (n : Int) - (v : Int) = ((n - v : Nat) : Int) := by omega
    have b1 := cnv_le (n := n) hc hc v
    have b2 : v * (40401 * 40401) ≤ 10000 * (40401 * 40401) := Nat.mul_le_mul_right _ (by omega)
    have b3 : F.count v * F.count (n - v) ≤ 40401 * 40401 := Nat.mul_le_mul (hc _) (hc _)
    have e3 : ((F.count v : Nat) : Int) * ((F.count (n - v) : Nat) : Int) = ((F.count v * F.count (n - v) : Nat) : Int) := (Int.natCast_mul _ _).symm
    have e4 : ((cnv (fun v => F.count v) (fun v => F.count v) n v : Nat) : Int) + ((F.count v * F.count (n - v) : Nat) : Int) = ((cnv (fun v => F.count v) (fun v => F.count v) n (v + 1) : Nat) : Int) := rfl
    have b4 := cnv_le (n := n) hc hc (v + 1)
    have b5 : (v + 1) * (40401 * 40401) ≤ 10001 * (40401 * 40401) := Nat.mul_le_mul_right _ (by omega)
    simp (disch := first|(simp only [Nat.reduceBEq,wE];done)|((repeat' (first|assumption|exact mAx _|refine mBx ?_ ?_|exact mCx (by assumption)|refine mDx ?_|refine mEx ?_ ?_ ?_|exact mFx|refine mGx ?_ ?_ ?_|exact mHx|exact mIx _|(simp only [wM,Nat.reduceAdd,Nat.reduceLT,Nat.reduceLeDiff];done)));done)|omega|decide) only [e, o1.ints.ix, o1.ints.ld, p1, en, p2, e3, e4, ↓wA,wB,wL,resOf,Nat.reduceBEq,Int.reduceBEq,Int.reduceBNe,Int.reduceLT,Int.reduceLE,Int.reduceAdd,Int.reduceSub,Int.reduceMul,Int.reduceToNat]
    refine ⟨_, ?_, v + 1, _, _, rfl, ?_, rfl⟩
    · omega
    omega
  · have hve : v = n + 1 := by omega
    rw [hve]
    simp (disch := first|(simp only [Nat.reduceBEq,wE];done)|((repeat' (first|assumption|exact mAx _|refine mBx ?_ ?_|exact mCx (by assumption)|refine mDx ?_|refine mEx ?_ ?_ ?_|exact mFx|refine mGx ?_ ?_ ?_|exact mHx|exact mIx _|(simp only [wM,Nat.reduceAdd,Nat.reduceLT,Nat.reduceLeDiff];done)));done)|omega|decide) only [e, ↓wA,wB,wL,resOf,Nat.reduceBEq,Int.reduceBEq,Int.reduceBNe,Int.reduceLT,Int.reduceLE,Int.reduceAdd,Int.reduceSub,Int.reduceMul,Int.reduceToNat]
    exact ⟨_, rfl, rfl, g1.of_en⟩

theorem f9 (n : Nat) (h : Hp) (hk : Hok h) (hn : n ≤ 10000) : Evals Try.prog tab false (.func 9) [.int .i64 n] h (.int .i64 ((pr (pr L4)).count n + (pr (pr LO)).count (4 * n) : Nat), h) := by
  refine evals_pure c9 rfl hk ?_
  simp only [sf9, initS_cons, initS_nil]
  have e4n : (4 : Int) * (n : Int) = ((4 * n : Nat) : Int) := rfl
  simp (disch := first|(simp only [Nat.reduceBEq,wE];done)|((repeat' (first|assumption|exact mAx _|refine mBx ?_ ?_|exact mCx (by assumption)|refine mDx ?_|refine mEx ?_ ?_ ?_|exact mFx|refine mGx ?_ ?_ ?_|exact mHx|exact mIx _|(simp only [wM,Nat.reduceAdd,Nat.reduceLT,Nat.reduceLeDiff];done)));done)|omega|decide) only [e4n, ↓wA,wB,wL,resOf,Nat.reduceBEq,Int.reduceBEq,Int.reduceBNe,Int.reduceLT,Int.reduceLE,Int.reduceAdd,Int.reduceSub,Int.reduceMul,Int.reduceToNat]
  refine callE (f20 (4 * n) 200 1 h.en hk (by omega) (by omega) (by omega)) ?_
  rintro w h1 ⟨g1, o1⟩
  have k1 := g1.ok hk
  have hF : pr (sqL 200 1 (2 * 200 + 1)) = pr LO := rfl
  rw [hF] at o1
  have hc := cntLO
  have e2 : (pr (pr LO)).count (4 * n) = cnv (fun v => (pr LO).count v) (fun v => (pr LO).count v) (4 * n) (4 * n + 1) := count_prd (pr LO) (4 * n) (pr LO)
  rw [e2]
  clear e2 hF
  have hC : (pr (pr L4)).count n ≤ 10001 * (40401 * 40401) := by
    rw [show (pr (pr L4)).count n = cnv (fun v => (pr L4).count v) (fun v => (pr L4).count v) n (n + 1) from count_prd (pr L4) n (pr L4)]
    exact Nat.le_trans (cnv_le cntL4 cntL4 _) (Nat.mul_le_mul_right _ (by omega))
  have hcall := f8 n h1 k1 hn
  generalize (pr (pr L4)).count n = C at *
  generalize pr LO = F at *
  have hl := outF_len F (4 * n)
  simp (disch := first|(simp only [Nat.reduceBEq,wE];done)|((repeat' (first|assumption|exact mAx _|refine mBx ?_ ?_|exact mCx (by assumption)|refine mDx ?_|refine mEx ?_ ?_ ?_|exact mFx|refine mGx ?_ ?_ ?_|exact mHx|exact mIx _|(simp only [wM,Nat.reduceAdd,Nat.reduceLT,Nat.reduceLeDiff];done)));done)|omega|decide) only [callT hcall, ↓wA,wB,wL,resOf,Nat.reduceBEq,Int.reduceBEq,Int.reduceBNe,Int.reduceLT,Int.reduceLE,Int.reduceAdd,Int.reduceSub,Int.reduceMul,Int.reduceToNat]
  refine wloop (fun mm ss => ∃ (v : Nat) (u2 u14 : AV), (mm = 4 * n + 1 - v) ∧ (v ≤ 4 * n + 1) ∧ ss = { fr := [(0, .int .i64 n), (2, u2), (3, w), (4, .int .i64 (C + cnv (fun v => F.count v) (fun v => F.count v) (4 * n) v : Nat)), (5, .int .i64 v), (14, u14)], hp := h1 }) (4 * n + 1) ?_ ?_
  ·
    refine ⟨0, _, _, by omega, by omega, rfl⟩
  rintro nA sA ⟨v, u2, u14, hnA, hv, rfl⟩
  simp (disch := first|(simp only [Nat.reduceBEq,wE];done)|((repeat' (first|assumption|exact mAx _|refine mBx ?_ ?_|exact mCx (by assumption)|refine mDx ?_|refine mEx ?_ ?_ ?_|exact mFx|refine mGx ?_ ?_ ?_|exact mHx|exact mIx _|(simp only [wM,Nat.reduceAdd,Nat.reduceLT,Nat.reduceLeDiff];done)));done)|omega|decide) only [e4n, ↓wA,wB,wL,resOf,Nat.reduceBEq,Int.reduceBEq,Int.reduceBNe,Int.reduceLT,Int.reduceLE,Int.reduceAdd,Int.reduceSub,Int.reduceMul,Int.reduceToNat]
  refine ifThen_intro (fun e => ?_) (fun e => ?_) <;> have eq := e <;> try simp [-List.getD_eq_getElem?_getD] at eq
  · have p1 := outF_get (F := F) (n := 4 * n) (v := v) (by omega)
    have p2 := outF_get (F := F) (n := 4 * n) (v := 4 * n - v) (by omega)
    have en : ((4 * n : Nat) : Int) - (v : Int) = ((4 * n - v : Nat) : Int) := by omega
    have b1 := cnv_le (n := 4 * n) hc hc v
    have b2 : v * (40000 * 40000) ≤ 40000 * (40000 * 40000) := Nat.mul_le_mul_right _ (by omega)
    have b3 : F.count v * F.count (4 * n - v) ≤ 40000 * 40000 := Nat.mul_le_mul (hc _) (hc _)
    have e3 : ((F.count v : Nat) : Int) * ((F.count (4 * n - v) : Nat) : Int) = ((F.count v * F.count (4 * n - v) : Nat) : Int) := (Int.natCast_mul _ _).symm
    have e4 : ((C + cnv (fun v => F.count v) (fun v => F.count v) (4 * n) v : Nat) : Int) + ((F.count v * F.count (4 * n - v) : Nat) : Int) = ((C + cnv (fun v => F.count v) (fun v => F.count v) (4 * n) (v + 1) : Nat) : Int) := by
      rw [cnv]
      omega
    have b4 := cnv_le (n := 4 * n) hc hc (v + 1)
    have b5 : (v + 1) * (40000 * 40000) ≤ 40001 * (40000 * 40000) := Nat.mul_le_mul_right _ (by omega)
    simp (disch := first|(simp only [Nat.reduceBEq,wE];done)|((repeat' (first|assumption|exact mAx _|refine mBx ?_ ?_|exact mCx (by assumption)|refine mDx ?_|refine mEx ?_ ?_ ?_|exact mFx|refine mGx ?_ ?_ ?_|exact mHx|exact mIx _|(simp only [wM,Nat.reduceAdd,Nat.reduceLT,Nat.reduceLeDiff];done)));done)|omega|decide) only [e, e4n, o1.ints.ix, o1.ints.ld, p1, en, p2, e3, e4, ↓wA,wB,wL,resOf,Nat.reduceBEq,Int.reduceBEq,Int.reduceBNe,Int.reduceLT,Int.reduceLE,Int.reduceAdd,Int.reduceSub,Int.reduceMul,Int.reduceToNat]
    refine ⟨_, ?_, v + 1, _, _, rfl, ?_, rfl⟩
    · omega
    omega
  · have hve : v = 4 * n + 1 := by omega
    rw [hve]
    simp (disch := first|(simp only [Nat.reduceBEq,wE];done)|((repeat' (first|assumption|exact mAx _|refine mBx ?_ ?_|exact mCx (by assumption)|refine mDx ?_|refine mEx ?_ ?_ ?_|exact mFx|refine mGx ?_ ?_ ?_|exact mHx|exact mIx _|(simp only [wM,Nat.reduceAdd,Nat.reduceLT,Nat.reduceLeDiff];done)));done)|omega|decide) only [e, ↓wA,wB,wL,resOf,Nat.reduceBEq,Int.reduceBEq,Int.reduceBNe,Int.reduceLT,Int.reduceLE,Int.reduceAdd,Int.reduceSub,Int.reduceMul,Int.reduceToNat]
    exact ⟨_, rfl, rfl, g1.of_en⟩

end Go.Proofs.Ythalpbiifpfagaa

