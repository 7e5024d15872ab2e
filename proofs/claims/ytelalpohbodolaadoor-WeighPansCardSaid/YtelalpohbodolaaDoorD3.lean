/- The iterator of parts. -/
import Derived.Test.YtelalpohbodolaaDoorD2
set_option linter.unusedSimpArgs false
set_option linter.unusedVariables false
set_option maxHeartbeats 4000000
set_option maxRecDepth 20000
namespace Go.Abs
theorem pu_leave {h : Hp} {v : AV} {cells : List AV} (hv : refOK h.next v = false) : leave false h v (h.en.pu cells) = h.pu cells := by
  simp only [leave, cond_false, hv, Bool.false_and]
theorem blt_self (n : Nat) : Nat.blt n n = false := by
  cases h : Nat.blt n n
  · rfl
  · rw [Nat.blt_eq] at h; omega
end Go.Abs
namespace Go.Proofs.YtelalpohbodolaaDoor
open Go Go.Abs Go.Wg

theorem f47 (n : Int) (h : Hp) : Evals Tryd.prog tab false (.func 47) [.int .i64 n] h (.fn (.func 66) [] [.ptr h.next 0], h.pu [.int .i64 n]) := by
  have H : ∃ v h', Evals Tryd.prog tab false (.func 47) [.int .i64 n] h (v, h') ∧ (v = .fn (.func 66) [] [.ptr h.next 0] ∧ h' = h.pu [.int .i64 n]) := by
    refine evals_func c47 (Q := fun v h' => v = .fn (.func 66) [] [.ptr h.next 0] ∧ h' = h.pu [.int .i64 n]) rfl ?_
    simp only [sf47, initS_cons, initS_nil]
    simp (disch := first|(simp only [Nat.reduceBEq,wE];done)|((repeat' (first|assumption|exact mAx _|refine mBx ?_ ?_|exact mCx (by assumption)|refine mDx ?_|refine mEx ?_ ?_ ?_|exact mFx|refine mGx ?_ ?_ ?_|exact mHx|exact mIx _|(simp only [wM,Nat.reduceAdd,Nat.reduceLT,Nat.reduceLeDiff];done)));done)|omega|decide) only [sBox_int, ↓wA,wB,wL,resOf,Nat.reduceBEq,Int.reduceBEq,Int.reduceBNe,Int.reduceLT,Int.reduceLE,Int.reduceAdd,Int.reduceSub,Int.reduceMul,Int.reduceToNat]
    refine ⟨_, rfl, rfl, pu_leave ?_⟩
    simp [refOK, refsOK, blt_self]
  obtain ⟨v, h', e, rfl, rfl⟩ := H
  exact e

theorem f66 (n l i : Nat) (hn : 0 < n) (hn16 : n ≤ 16) (h0 : Hp) (e : LoopA) (he : e.st = 0) (V VF : Nat → List (Nat × Blk) → Prop) (K : Keepy (l + 1) V) (KF : Keepy (l + 1) VF)
    (box : ∀ k bs, V k bs → Box bs i [.int .i64 n])
    (yld : ∀ (k s : Nat) (h : Hp), k < 2 ^ n → (LL n)[k]? = some s → LI h0 l e V k h → ∃ b h', Evals Tryd.prog tab false (.yield l) [.int .u64 s] h (b, h') ∧ Elder h h' ∧ ((b = .bool true ∧ LI h0 l e V (k + 1) h') ∨ (b = .bool false ∧ LI h0 l { e with st := 2, jump := some none } VF k h')))
    (h : Hp) (H : LI h0 l e V 0 h) :
    ∃ v h', Evals Tryd.prog tab false (.func 66) [.yld l, .ptr i 0] h (v, h') ∧ (Elder h h' ∧ (LI h0 l e V (2 ^ n) h' ∨ ∃ k, k < 2 ^ n ∧ LI h0 l { e with st := 2, jump := some none } VF k h')) := by
  refine evals_two c66 (fun v h' => Elder h h' ∧ (LI h0 l e V (2 ^ n) h' ∨ ∃ k, k < 2 ^ n ∧ LI h0 l { e with st := 2, jump := some none } VF k h')) rfl ?_
  simp only [sf66, initS_cons, initS_nil]
  have p0 : 0 < 2 ^ n := Nat.two_pow_pos n
  have p16 : 2 ^ n ≤ 2 ^ 16 := Nat.pow_le_pow_right (by omega) hn16
  simp (disch := first|(simp only [Nat.reduceBEq,wE];done)|((repeat' (first|assumption|exact mAx _|refine mBx ?_ ?_|exact mCx (by assumption)|refine mDx ?_|refine mEx ?_ ?_ ?_|exact mFx|refine mGx ?_ ?_ ?_|exact mHx|exact mIx _|(simp only [wM,Nat.reduceAdd,Nat.reduceLT,Nat.reduceLeDiff];done)));done)|omega|decide) only [↓wA,wB,wL,resOf,Nat.reduceBEq,Int.reduceBEq,Int.reduceBNe,Int.reduceLT,Int.reduceLE,Int.reduceAdd,Int.reduceSub,Int.reduceMul,Int.reduceToNat]
  refine wloop (fun mm ss => ∃ (k s : Nat) (h3 : Hp) (u4 u7 u13 u19 : AV), (mm = 2 ^ n - k) ∧ (k < 2 ^ n ∧ (LL n)[k]? = some s ∧ LI h0 l e V k h3 ∧ Elder h h3) ∧ ss = { fr := [(0, .yld l), (1, .ptr i 0), (3, .int .u64 s), (4, u4), (7, u7), (13, u13), (19, u19)], hp := h3 }) (2 ^ n) ?_ ?_
  ·
    refine ⟨0, 0, h.en, _, _, _, _, by omega, ⟨p0, rfl, H.en, Elder.en⟩, rfl⟩
  rintro nA sA ⟨k, s, h3, u4, u7, u13, u19, hnA, ⟨hk, hs, L3, x3⟩, rfl⟩
  have hsm : s < 2 ^ n := by
    obtain ⟨s', e1, e2⟩ := LL_get hk
    rw [hs] at e1
    cases e1
    exact e2
  obtain ⟨b, h4, ey, x4, q⟩ := yld k s h3 hk hs L3
  have x04 := x3.trans x4
  rcases q with ⟨rfl, L4⟩ | ⟨rfl, L4⟩
  · have bx := (box _ _ L4.v).ld (Sub.refl _) (j := 0)
    have k4 := L4.ok
    have nx := nxt_at hn hs
    have la := f61 s h4 k4 (by omega)
    have bl : blen s ≤ n := blen_le.2 hsm
    unfold nxt at nx
    by_cases e1 : blen s = n
    · rw [if_pos e1] at nx
      have d1 : ((blen s : Int) - 1 == (n : Int) - 1) = true := by simp; omega
      have c1 : (blen s : Int) - 1 = ((n - 1 : Nat) : Int) := by omega
      have s1 : sBin .shl .no (.int .u64 1) (.int .i64 ((blen s : Int) - 1)) = some (.int .u64 ((2 ^ (n - 1) : Nat) : Int)) := by rw [c1]; exact sBinU_shl (by omega)
      have p1 : 2 ^ (n - 1) < 2 ^ n := Nat.pow_lt_pow_right (by omega) (by omega)
      have s2 : sBin .xor .no (.int .u64 (s : Int)) (.int .u64 ((2 ^ (n - 1) : Nat) : Int)) = some (.int .u64 ((s ^^^ 2 ^ (n - 1) : Nat) : Int)) := sBinU_xor (by omega) (by omega)
      obtain ⟨p, hp⟩ : ∃ p, p = s ^^^ 2 ^ (n - 1) := ⟨_, rfl⟩
      have hpm : p < 2 ^ 16 := by rw [hp]; exact Nat.xor_lt_two_pow (by omega) (by omega)
      rw [← hp] at nx s2
      by_cases e2 : p = 0
      · have d2 : ((p : Int) == 0) = true := by simp [e2]
        rw [if_pos e2] at nx
        have ke : k + 1 = 2 ^ n := by
          have hh : ¬ k + 1 < 2 ^ n := fun hlt => by
            obtain ⟨s', e3, _⟩ := LL_get hlt
            rw [← nx] at e3
            cases e3
          omega
        simp (disch := first|(simp only [Nat.reduceBEq,wE];done)|((repeat' (first|assumption|exact mAx _|refine mBx ?_ ?_|exact mCx (by assumption)|refine mDx ?_|refine mEx ?_ ?_ ?_|exact mFx|refine mGx ?_ ?_ ?_|exact mHx|exact mIx _|(simp only [wM,Nat.reduceAdd,Nat.reduceLT,Nat.reduceLeDiff];done)));done)|omega|decide) only [callYT ey, callT la, bx, d1, s1, s2, d2, ↓wA,wB,wL,resOf,Nat.reduceBEq,Int.reduceBEq,Int.reduceBNe,Int.reduceLT,Int.reduceLE,Int.reduceAdd,Int.reduceSub,Int.reduceMul,Int.reduceToNat]
        refine ⟨_, rfl, x04, elder_leave x04, .inl ?_⟩
        rw [← ke]
        exact LI.leave K H L4 rfl (by omega) x04
      · have d2 : ((p : Int) == 0) = false := by simp; omega
        rw [if_neg e2] at nx
        have lb := f61 p h4 k4 (by omega)
        have bp : blen p ≤ 16 := blen_le.2 hpm
        obtain ⟨a, q, eq1, hq, ea⟩ := blen_pos e2
        have c2 : (blen p : Int) - 1 = ((blen p - 1 : Nat) : Int) := by omega
        have pa : 2 ^ (blen p - 1) ≤ 2 ^ 16 := Nat.pow_le_pow_right (by omega) (by omega)
        have pb : 2 ^ blen p ≤ 2 ^ 16 := Nat.pow_le_pow_right (by omega) (by omega)
        have s3 : sBin .shl .no (.int .u64 1) (.int .i64 ((blen p : Int) - 1)) = some (.int .u64 ((2 ^ (blen p - 1) : Nat) : Int)) := by rw [c2]; exact sBinU_shl (by omega)
        have s4 : sBin .xor .no (.int .u64 (p : Int)) (.int .u64 ((2 ^ (blen p - 1) : Nat) : Int)) = some (.int .u64 ((p ^^^ 2 ^ (blen p - 1) : Nat) : Int)) := sBinU_xor (by omega) (by omega)
        have c3 : (blen p : Int) - 1 + 1 = ((blen p : Nat) : Int) := by omega
        have s5 : sBin .shl .no (.int .u64 1) (.int .i64 ((blen p : Int) - 1 + 1)) = some (.int .u64 ((2 ^ blen p : Nat) : Int)) := by rw [c3]; exact sBinU_shl (by omega)
        have hx2 : p ^^^ 2 ^ (blen p - 1) < 2 ^ 17 := Nat.xor_lt_two_pow (by omega) (by omega)
        have s6 : sBin .or .no (.int .u64 ((p ^^^ 2 ^ (blen p - 1) : Nat) : Int)) (.int .u64 ((2 ^ blen p : Nat) : Int)) = some (.int .u64 ((p ^^^ 2 ^ (blen p - 1) ||| 2 ^ blen p : Nat) : Int)) := sBinU_or (by omega) (by omega)
        simp (disch := first|(simp only [Nat.reduceBEq,wE];done)|((repeat' (first|assumption|exact mAx _|refine mBx ?_ ?_|exact mCx (by assumption)|refine mDx ?_|refine mEx ?_ ?_ ?_|exact mFx|refine mGx ?_ ?_ ?_|exact mHx|exact mIx _|(simp only [wM,Nat.reduceAdd,Nat.reduceLT,Nat.reduceLeDiff];done)));done)|omega|decide) only [callYT ey, callT la, callT lb, bx, d1, s1, s2, d2, s3, s4, s5, s6, ↓wA,wB,wL,resOf,Nat.reduceBEq,Int.reduceBEq,Int.reduceBNe,Int.reduceLT,Int.reduceLE,Int.reduceAdd,Int.reduceSub,Int.reduceMul,Int.reduceToNat]
        have kl : k + 1 < 2 ^ n := by
          have := nx.symm
          rw [List.getElem?_eq_some_iff] at this
          obtain ⟨hl, _⟩ := this
          rw [LL_len] at hl
          exact hl
        refine ⟨_, ?_, k + 1, (p ^^^ 2 ^ (blen p - 1) ||| 2 ^ blen p), h4, _, _, _, _, rfl, ?_, rfl⟩
        · omega
        exact ⟨kl, nx.symm, L4, x04⟩
    · rw [if_neg e1] at nx
      have d1 : ((blen s : Int) - 1 == (n : Int) - 1) = false := by simp; omega
      have pb : 2 ^ blen s ≤ 2 ^ 16 := Nat.pow_le_pow_right (by omega) (by omega)
      have c3 : (blen s : Int) - 1 + 1 = ((blen s : Nat) : Int) := by omega
      have s5 : sBin .shl .no (.int .u64 1) (.int .i64 ((blen s : Int) - 1 + 1)) = some (.int .u64 ((2 ^ blen s : Nat) : Int)) := by rw [c3]; exact sBinU_shl (by omega)
      have s6 : sBin .or .no (.int .u64 (s : Int)) (.int .u64 ((2 ^ blen s : Nat) : Int)) = some (.int .u64 ((s ||| 2 ^ blen s : Nat) : Int)) := sBinU_or (by omega) (by omega)
      simp (disch := first|(simp only [Nat.reduceBEq,wE];done)|((repeat' (first|assumption|exact mAx _|refine mBx ?_ ?_|exact mCx (by assumption)|refine mDx ?_|refine mEx ?_ ?_ ?_|exact mFx|refine mGx ?_ ?_ ?_|exact mHx|exact mIx _|(simp only [wM,Nat.reduceAdd,Nat.reduceLT,Nat.reduceLeDiff];done)));done)|omega|decide) only [callYT ey, callT la, bx, d1, s5, s6, ↓wA,wB,wL,resOf,Nat.reduceBEq,Int.reduceBEq,Int.reduceBNe,Int.reduceLT,Int.reduceLE,Int.reduceAdd,Int.reduceSub,Int.reduceMul,Int.reduceToNat]
      have kl : k + 1 < 2 ^ n := by
        have := nx.symm
        rw [List.getElem?_eq_some_iff] at this
        obtain ⟨hl, _⟩ := this
        rw [LL_len] at hl
        exact hl
      refine ⟨_, ?_, k + 1, (s ||| 2 ^ blen s), h4, _, _, _, _, rfl, ?_, rfl⟩
      · omega
      exact ⟨kl, nx.symm, L4, x04⟩
  · simp (disch := first|(simp only [Nat.reduceBEq,wE];done)|((repeat' (first|assumption|exact mAx _|refine mBx ?_ ?_|exact mCx (by assumption)|refine mDx ?_|refine mEx ?_ ?_ ?_|exact mFx|refine mGx ?_ ?_ ?_|exact mHx|exact mIx _|(simp only [wM,Nat.reduceAdd,Nat.reduceLT,Nat.reduceLeDiff];done)));done)|omega|decide) only [callYT ey, ↓wA,wB,wL,resOf,Nat.reduceBEq,Int.reduceBEq,Int.reduceBNe,Int.reduceLT,Int.reduceLE,Int.reduceAdd,Int.reduceSub,Int.reduceMul,Int.reduceToNat]
    refine ⟨_, rfl, x04, elder_leave x04, .inr ⟨k, hk, ?_⟩⟩
    exact LI.leave KF H L4 rfl (by simp) x04
end Go.Proofs.YtelalpohbodolaaDoor
