/- Distinct; Conway and Guy's sequence and set, the program's and the reference's. -/
import Derived.Test.YtelalpohbodolaaDoorD6
import Derived.Test.YtelalpohbodolaaDoorME
set_option linter.unusedSimpArgs false
set_option linter.unusedVariables false
set_option maxHeartbeats 4000000
set_option maxRecDepth 20000
namespace Go.Abs
theorem own_all {c : Nat} {bs : List (Nat × Blk)} {k : IntKind} {s : AV} {zs : List Int} (O : Own c bs k s zs) (h0 : 0 < zs.length) {m : Nat} (hm : m = zs.length) (h : Hp) : sSl 1 h none (some (some m)) s = some (s, h) := by
  subst hm
  obtain ⟨hl', ⟨h1, _⟩ | ⟨id, b, cap, rfl, h1, h2, h3, h4, h5, h6⟩⟩ := O
  · omega
  cases cap with
  | none =>
    have e1 : Nat.blt 0 zs.length = true := by rw [Nat.blt_eq]; exact h0
    simp only [sSl, bndV, Nat.ble_eq_true_of_le (Nat.zero_le _), Nat.beq_refl, Bool.and_self, cond_true, Nat.ble_eq_true_of_le (Nat.le_refl _), e1, Nat.zero_mul, Nat.add_zero, Nat.sub_zero]
  | some m =>
    have e1 : Nat.beq m 0 = false := nb (by omega)
    simp only [sSl, bndV, Nat.ble_eq_true_of_le (Nat.zero_le _), Nat.beq_refl, Bool.and_self, cond_true, Nat.ble_eq_true_of_le h6.2, e1, cond_false, Nat.zero_mul, Nat.add_zero, Nat.sub_zero]
end Go.Abs
namespace Go.Wg
theorem errW_ok {zs : List Int} (h : errW zs 12 0 = 0) : WF zs ∧ zs.length ≤ 12 := by
  unfold errW at h
  by_cases e1 : 12 < zs.length
  · rw [if_pos e1] at h; cases h
  · rw [if_neg e1, if_neg (by omega)] at h
    by_cases e2 : WF zs
    · exact ⟨e2, by omega⟩
    · rw [if_pos e2] at h; cases h
theorem errW_cases (zs : List Int) (total : Int) (h0 : 0 ≤ total) : (errW zs 12 total = 3 ∧ 12 < zs.length) ∨ (errW zs 12 total = 2 ∧ zs.length ≤ 12 ∧ ¬ WF zs) ∨ (errW zs 12 total = 0 ∧ zs.length ≤ 12 ∧ WF zs) := by
  unfold errW
  by_cases e1 : 12 < zs.length
  · rw [if_pos e1]; exact .inl ⟨rfl, e1⟩
  · rw [if_neg e1, if_neg (by omega)]
    by_cases e2 : WF zs
    · rw [if_neg (by simpa using e2)]; exact .inr (.inr ⟨rfl, by omega, e2⟩)
    · rw [if_pos e2]; exact .inr (.inl ⟨rfl, by omega, e2⟩)
theorem uT_getlen {j : Nat} : (uT j).length = j + 2 := uT_len j
theorem uL_of {n j : Nat} (h : j = 0 ∨ j + 1 ≤ n) (h2 : ¬ j + 1 < n) : uT j = uL n := by
  unfold uL
  congr 1
  omega
end Go.Wg
namespace Go.Proofs.YtelalpohbodolaaDoor
open Go Go.Abs Go.Wg

theorem f14 (a : AV) (zs : List Int) (h : Hp) (hk : Hok h) (ha : Ints h.blks .i64 a zs) (hz : zs.length ≤ 1000) :
    ∃ d, (d = true ↔ errW zs 12 0 = 0 ∧ Dist zs) ∧ Evals Tryd.prog tab false (.func 14) [a] h (.tu [.bool d, .int .i64 (errW zs 12 0)], h) := by
  have C := f36 a zs h.en hk ha hz
  rcases errW_cases zs 0 (Int.le_refl _) with ⟨e, e2⟩ | ⟨e, e2, e3⟩ | ⟨e, e2, e3⟩
  · rw [e] at C ⊢
    refine ⟨false, by simp, ?_⟩
    refine evals_pure c14 rfl hk ?_
    simp only [sf14, initS_cons, initS_nil]
    simp (disch := first|(simp only [Nat.reduceBEq,wE];done)|((repeat' (first|assumption|exact mAx _|refine mBx ?_ ?_|exact mCx (by assumption)|refine mDx ?_|refine mEx ?_ ?_ ?_|exact mFx|refine mGx ?_ ?_ ?_|exact mHx|exact mIx _|(simp only [wM,Nat.reduceAdd,Nat.reduceLT,Nat.reduceLeDiff];done)));done)|omega|decide) only [callT C, ↓wA,wB,wL,resOf,Nat.reduceBEq,Int.reduceBEq,Int.reduceBNe,Int.reduceLT,Int.reduceLE,Int.reduceAdd,Int.reduceSub,Int.reduceMul,Int.reduceToNat]
    exact ⟨_, rfl, rfl, Grown.en⟩
  · rw [e] at C ⊢
    refine ⟨false, by simp, ?_⟩
    refine evals_pure c14 rfl hk ?_
    simp only [sf14, initS_cons, initS_nil]
    simp (disch := first|(simp only [Nat.reduceBEq,wE];done)|((repeat' (first|assumption|exact mAx _|refine mBx ?_ ?_|exact mCx (by assumption)|refine mDx ?_|refine mEx ?_ ?_ ?_|exact mFx|refine mGx ?_ ?_ ?_|exact mHx|exact mIx _|(simp only [wM,Nat.reduceAdd,Nat.reduceLT,Nat.reduceLeDiff];done)));done)|omega|decide) only [callT C, ↓wA,wB,wL,resOf,Nat.reduceBEq,Int.reduceBEq,Int.reduceBNe,Int.reduceLT,Int.reduceLE,Int.reduceAdd,Int.reduceSub,Int.reduceMul,Int.reduceToNat]
    exact ⟨_, rfl, rfl, Grown.en⟩
  · rw [e] at C ⊢
    obtain ⟨d, hd, D⟩ := f37 a zs h.en hk ha e3.2 e2 e3.1.bd
    refine ⟨d, by rw [hd]; simp, ?_⟩
    refine evals_pure c14 rfl hk ?_
    simp only [sf14, initS_cons, initS_nil]
    simp (disch := first|(simp only [Nat.reduceBEq,wE];done)|((repeat' (first|assumption|exact mAx _|refine mBx ?_ ?_|exact mCx (by assumption)|refine mDx ?_|refine mEx ?_ ?_ ?_|exact mFx|refine mGx ?_ ?_ ?_|exact mHx|exact mIx _|(simp only [wM,Nat.reduceAdd,Nat.reduceLT,Nat.reduceLeDiff];done)));done)|omega|decide) only [callT C, callT D, ↓wA,wB,wL,resOf,Nat.reduceBEq,Int.reduceBEq,Int.reduceBNe,Int.reduceLT,Int.reduceLE,Int.reduceAdd,Int.reduceSub,Int.reduceMul,Int.reduceToNat]
    exact ⟨_, rfl, rfl, Grown.en⟩

theorem f68 (x : Nat) (h : Hp) (hk : Hok h) (hx : x ≤ 1000000) : Evals Tryd.prog tab false (.func 68) [.int .i64 x] h (.int .i64 (rt x), h) := by
  refine evals_pure c68 rfl hk ?_
  simp only [sf68, initS_cons, initS_nil]
  have sp := rt_spec x
  simp (disch := first|(simp only [Nat.reduceBEq,wE];done)|((repeat' (first|assumption|exact mAx _|refine mBx ?_ ?_|exact mCx (by assumption)|refine mDx ?_|refine mEx ?_ ?_ ?_|exact mFx|refine mGx ?_ ?_ ?_|exact mHx|exact mIx _|(simp only [wM,Nat.reduceAdd,Nat.reduceLT,Nat.reduceLeDiff];done)));done)|omega|decide) only [↓wA,wB,wL,resOf,Nat.reduceBEq,Int.reduceBEq,Int.reduceBNe,Int.reduceLT,Int.reduceLE,Int.reduceAdd,Int.reduceSub,Int.reduceMul,Int.reduceToNat]
  refine wloop (fun mm ss => ∃ (r : Nat) (u2 u10 : AV), (mm = rt x - r) ∧ (r ≤ rt x) ∧ ss = { fr := [(0, .int .i64 x), (2, u2), (3, .int .i64 r), (10, u10)], hp := h.en }) (rt x) ?_ ?_
  ·
    refine ⟨0, _, _, by omega, by omega, rfl⟩
  rintro nA sA ⟨r, u2, u10, hnA, hr, rfl⟩
  have hb : r * r + r ≤ 1000000 ∨ r = rt x := by
    rcases Nat.lt_or_ge r (rt x) with h1 | h1
    · have := sp.2 r h1; exact .inl (by omega)
    · exact .inr (by omega)
  have rb : rt x ≤ 1001 := by
    rcases Nat.lt_or_ge 1001 (rt x) with h1 | h1
    · have := sp.2 1001 h1; omega
    · exact h1
  have rr : r * r ≤ 1001 * 1001 := Nat.mul_le_mul (by omega) (by omega)
  have m1 : (r : Int) * r = ((r * r : Nat) : Int) := by simp
  by_cases e : r * r + r < x
  · have d1 : decide ((x : Int) > ((r * r : Nat) : Int) + r) = true := decide_eq_true (by omega)
    have hlt : r < rt x := by
      rcases Nat.lt_or_ge r (rt x) with h1 | h1
      · exact h1
      · have : r = rt x := by omega
        have := sp.1
        rw [← ‹r = rt x›] at this
        omega
    simp (disch := first|(simp only [Nat.reduceBEq,wE];done)|((repeat' (first|assumption|exact mAx _|refine mBx ?_ ?_|exact mCx (by assumption)|refine mDx ?_|refine mEx ?_ ?_ ?_|exact mFx|refine mGx ?_ ?_ ?_|exact mHx|exact mIx _|(simp only [wM,Nat.reduceAdd,Nat.reduceLT,Nat.reduceLeDiff];done)));done)|omega|decide) only [m1, d1, ↓wA,wB,wL,resOf,Nat.reduceBEq,Int.reduceBEq,Int.reduceBNe,Int.reduceLT,Int.reduceLE,Int.reduceAdd,Int.reduceSub,Int.reduceMul,Int.reduceToNat]
    refine ⟨_, ?_, r + 1, _, _, rfl, ?_, rfl⟩
    · omega
    omega
  · have d1 : decide ((x : Int) > ((r * r : Nat) : Int) + r) = false := decide_eq_false (by omega)
    have hge : r = rt x := by
      rcases Nat.lt_or_ge r (rt x) with h1 | h1
      · have := sp.2 r h1; omega
      · omega
    simp (disch := first|(simp only [Nat.reduceBEq,wE];done)|((repeat' (first|assumption|exact mAx _|refine mBx ?_ ?_|exact mCx (by assumption)|refine mDx ?_|refine mEx ?_ ?_ ?_|exact mFx|refine mGx ?_ ?_ ?_|exact mHx|exact mIx _|(simp only [wM,Nat.reduceAdd,Nat.reduceLT,Nat.reduceLeDiff];done)));done)|omega|decide) only [m1, d1, ↓wA,wB,wL,resOf,Nat.reduceBEq,Int.reduceBEq,Int.reduceBNe,Int.reduceLT,Int.reduceLE,Int.reduceAdd,Int.reduceSub,Int.reduceMul,Int.reduceToNat]
    exact ⟨_, rfl, by rw [hge], by (repeat' (first|assumption|exact mAx _|refine mBx ?_ ?_|exact mCx (by assumption)|refine mDx ?_|refine mEx ?_ ?_ ?_|exact mFx|refine mGx ?_ ?_ ?_|exact mHx|exact mIx _|(simp only [wM,Nat.reduceAdd,Nat.reduceLT,Nat.reduceLeDiff];done)))⟩

theorem f56 (n : Nat) (h : Hp) (hk : Hok h) (hn : n ≤ 60) (h1n : 1 ≤ n) :
    ∃ v h', Evals Tryd.prog tab false (.func 56) [.int .i64 n] h (v, h') ∧ Grown h h' ∧ Own h.next h'.blks .i64 v (uL n) := by
  refine evals_q c56 (fun v h' => Own h.next h'.blks .i64 v (uL n)) rfl hk ?_ (fun v h1 g q => q.leave)
  simp only [sf56, initS_cons, initS_nil]
  have O : Own h.next (h.en.pu [.int .i64 0, .int .i64 1]).blks .i64 (.sl h.next 0 2 (some 2) 1) (uT 0) := Own.fresh (Nat.le_refl _) rfl rfl rfl (Nat.le_refl _)
  simp (disch := first|(simp only [Nat.reduceBEq,wE];done)|((repeat' (first|assumption|exact mAx _|refine mBx ?_ ?_|exact mCx (by assumption)|refine mDx ?_|refine mEx ?_ ?_ ?_|exact mFx|refine mGx ?_ ?_ ?_|exact mHx|exact mIx _|(simp only [wM,Nat.reduceAdd,Nat.reduceLT,Nat.reduceLeDiff];done)));done)|omega|decide) only [sBS_2, ↓wA,wB,wL,resOf,Nat.reduceBEq,Int.reduceBEq,Int.reduceBNe,Int.reduceLT,Int.reduceLE,Int.reduceAdd,Int.reduceSub,Int.reduceMul,Int.reduceToNat]
  refine wloop (fun mm ss => ∃ (j : Nat) (q : AV) (h1 : Hp) (u2 u8 : AV), (mm = n - (j + 1)) ∧ ((j = 0 ∨ j + 1 ≤ n) ∧ Grown h h1 ∧ Own h.next h1.blks .i64 q (uT j)) ∧ ss = { fr := [(0, .int .i64 n), (2, u2), (3, q), (4, .int .i64 (j + 1 : Nat)), (8, u8)], hp := h1 }) (n - (0 + 1)) ?_ ?_
  ·
    refine ⟨0, _, _, _, _, by omega, ⟨.inl rfl, Grown.pu Grown.en rfl, O⟩, rfl⟩
  rintro nA sA ⟨j, q, h1, u2, u8, hnA, ⟨hj, g1, o1⟩, rfl⟩
  have k1 := g1.ok hk
  have tl := uT_len j
  by_cases e : j + 1 < n
  · have d1 : decide (((j + 1 : Nat) : Int) < (n : Int)) = true := decide_eq_true (by omega)
    have r1 := rt_le (j + 1) (by omega)
    have NR := f68 (2 * (j + 1)) h1 k1 (by omega)
    have c1 : (2 : Int) * ((j + 1 : Nat) : Int) = ((2 * (j + 1) : Nat) : Int) := by omega
    have c2 : ((j + 1 : Nat) : Int) - ((rt (2 * (j + 1)) : Nat) : Int) = ((j + 1 - rt (2 * (j + 1)) : Nat) : Int) := by omega
    have b1 := uT_all j (by omega) ((uT j).getD (j + 1) 0) (by rw [List.getD_eq_getElem?_getD, List.getElem?_eq_getElem (by omega), Option.getD_some]; exact List.getElem_mem _)
    have b2 := uT_all j (by omega) ((uT j).getD (j + 1 - rt (2 * (j + 1))) 0) (by rw [List.getD_eq_getElem?_getD, List.getElem?_eq_getElem (by omega), Option.getD_some]; exact List.getElem_mem _)
    obtain ⟨q2, h2, y1, y2, y3, y4⟩ := own_app1 (v := 2 * (uT j).getD (j + 1) 0 - (uT j).getD (j + 1 - rt (2 * (j + 1))) 0) hk g1 o1 (by omega)
    have s1 : Sub h1.blks ((h1.next, { cells := [.int .i64 (2 * (uT j).getD (j + 1) 0 - (uT j).getD (j + 1 - rt (2 * (j + 1))) 0)], ch := h1.next, wr := true }) :: h1.blks) := Sub.push (Sub.refl _) (HokR.fresh k1)
    simp (disch := first|(simp only [Nat.reduceBEq,wE];done)|((repeat' (first|assumption|exact mAx _|refine mBx ?_ ?_|exact mCx (by assumption)|refine mDx ?_|refine mEx ?_ ?_ ?_|exact mFx|refine mGx ?_ ?_ ?_|exact mHx|exact mIx _|(simp only [wM,Nat.reduceAdd,Nat.reduceLT,Nat.reduceLeDiff];done)));done)|omega|decide) only [d1, o1.ints.ix, o1.ints.ld, c1, callT NR, c2, sBS_1, y1, ↓wA,wB,wL,resOf,Nat.reduceBEq,Int.reduceBEq,Int.reduceBNe,Int.reduceLT,Int.reduceLE,Int.reduceAdd,Int.reduceSub,Int.reduceMul,Int.reduceToNat]
    refine ⟨_, ?_, j + 1, _, _, _, _, rfl, ?_, rfl⟩
    · omega
    exact ⟨by omega, y3, y2⟩
  · have d1 : decide (((j + 1 : Nat) : Int) < (n : Int)) = false := decide_eq_false (by omega)
    have eu := uL_of hj e
    have ul : (uL n).length = n + 1 := by rw [← eu, tl]; omega
    rw [eu] at o1
    have sl := own_all (m := n + 1) o1 (by omega) ul.symm h1
    have c3 : (n : Int) + 1 = ((n + 1 : Nat) : Int) := by omega
    simp (disch := first|(simp only [Nat.reduceBEq,wE];done)|((repeat' (first|assumption|exact mAx _|refine mBx ?_ ?_|exact mCx (by assumption)|refine mDx ?_|refine mEx ?_ ?_ ?_|exact mFx|refine mGx ?_ ?_ ?_|exact mHx|exact mIx _|(simp only [wM,Nat.reduceAdd,Nat.reduceLT,Nat.reduceLeDiff];done)));done)|omega|decide) only [d1, c3, sl, ↓wA,wB,wL,resOf,Nat.reduceBEq,Int.reduceBEq,Int.reduceBNe,Int.reduceLT,Int.reduceLE,Int.reduceAdd,Int.reduceSub,Int.reduceMul,Int.reduceToNat]
    exact ⟨_, rfl, g1, o1⟩
end Go.Proofs.YtelalpohbodolaaDoor
