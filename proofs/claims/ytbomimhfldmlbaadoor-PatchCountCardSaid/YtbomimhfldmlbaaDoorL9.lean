/- PatchCount: the numbers of settings of all permutations. -/
import Derived.Test.YtbomimhfldmlbaaDoorKK
import Derived.Test.YtbomimhfldmlbaaDoorFPatchCount
set_option linter.unusedSimpArgs false
set_option linter.unusedVariables false
set_option maxHeartbeats 4000000
set_option maxRecDepth 20000
namespace Go.Proofs.YtbomimhfldmlbaaDoor
open Go Go.Abs Go.Pa

theorem f12 (x : Int) (h : Hp) (hk : Hok h) (bx : 0 ≤ x ∧ x ≤ 255) :
    ∃ h', Evals Tryd.prog tab false (.func 12) [.int .u8 x] h (.bool true, h') := by
  obtain ⟨x, rfl⟩ : ∃ t : Nat, x = t := ⟨x.toNat, by omega⟩
  suffices H : ∃ v h', Evals Tryd.prog tab false (.func 12) [.int .u8 x] h (v, h') ∧ v = .bool true by
    obtain ⟨v, h', e, rfl⟩ := H
    exact ⟨h', e⟩
  refine evals_func (Q := fun v _ => v = .bool true) c12 rfl ?_
  simp only [sf12, initS_cons, initS_nil]
  have w0 : IntKind.wrap .i64 (x : Int) = x := wrap_i64 (by omega) (by omega)
  obtain ⟨k, ek⟩ : ∃ k, k = x % 2 + 1 := ⟨_, rfl⟩
  have ek' : (x : Int) % 2 + 1 = (k : Int) := by omega
  have hk2 : 1 ≤ k ∧ k ≤ 2 := by omega
  have p8 := pow8 (show k ≤ 3 by omega)
  have r0 : sBin .rem .no (.int .i64 (x : Int)) (.int .i64 2) = some (.int .i64 ((x : Int) % 2)) := sBin_rem (by omega) (by omega)
  have sw := sBin_shl1 (j := k) (by omega)
  obtain ⟨w, ew⟩ : ∃ w, w = 2 ^ k := ⟨_, rfl⟩
  rw [← ew] at sw p8
  have w2 : 2 ≤ w := by
    rw [ew]
    have : 2 ^ 1 ≤ 2 ^ k := Nat.pow_le_pow_right (by omega) hk2.1
    exact this
  obtain ⟨q1, q2⟩ := pow_sw hk2
  simp (disch := first|(simp only [Nat.reduceBEq,wE];done)|((repeat' (first|assumption|exact mAx _|refine mBx ?_ ?_|exact mCx (by assumption)|refine mDx ?_|refine mEx ?_ ?_ ?_|exact mFx|refine mGx ?_ ?_ ?_|exact mHx|exact mIx _|(simp only [wM,Nat.reduceAdd,Nat.reduceLT,Nat.reduceLeDiff];done)));done)|omega|decide) only [w0, r0, ek', ↓wA,wB,wL,resOf,Nat.reduceBEq,Int.reduceBEq,Int.reduceBNe,Int.reduceLT,Int.reduceLE,Int.reduceAdd,Int.reduceSub,Int.reduceMul,Int.reduceToNat]
  refine wloop (fun mm ss => ∃ (i n : Nat) (u0 u2 u7 u8 u9 u10 u11 u12 u13 u14 u22 u30 u38 u67 : AV), (mm = w + 1 - i) ∧ (2 ≤ i ∧ i ≤ w + 1 ∧ n = fct (i - 1)) ∧ ss = { fr := [(0, u0), (2, u2), (3, .int .i64 k), (4, .int .i64 0), (5, .int .i64 n), (6, .int .i64 i), (7, u7), (8, u8), (9, u9), (10, u10), (11, u11), (12, u12), (13, u13), (14, u14), (22, u22), (30, u30), (38, u38), (67, u67)], hp := h.en }) (w - 1) ?_ ?_
  ·
    refine ⟨2, 1, _, _, _, _, _, _, _, _, _, _, _, _, _, _, by omega, ⟨by omega, by omega, by decide⟩, rfl⟩
  rintro nA sA ⟨i, n, u0, u2, u7, u8, u9, u10, u11, u12, u13, u14, u22, u30, u38, u67, hnA, ⟨hi2, hi, hn⟩, rfl⟩
  simp (disch := first|(simp only [Nat.reduceBEq,wE];done)|((repeat' (first|assumption|exact mAx _|refine mBx ?_ ?_|exact mCx (by assumption)|refine mDx ?_|refine mEx ?_ ?_ ?_|exact mFx|refine mGx ?_ ?_ ?_|exact mHx|exact mIx _|(simp only [wM,Nat.reduceAdd,Nat.reduceLT,Nat.reduceLeDiff];done)));done)|omega|decide) only [sw, ↓wA,wB,wL,resOf,Nat.reduceBEq,Int.reduceBEq,Int.reduceBNe,Int.reduceLT,Int.reduceLE,Int.reduceAdd,Int.reduceSub,Int.reduceMul,Int.reduceToNat]
  refine ifThen_intro (fun e => ?_) (fun e => ?_) <;> have eq := e <;> try simp [-List.getD_eq_getElem?_getD] at eq
  · have fi : fct i = i * fct (i - 1) := by
      obtain ⟨j, rfl⟩ : ∃ j, i = j + 1 := ⟨i - 1, by omega⟩
      rfl
    have fl := fct_le i (by omega)
    have m1 : sBin .mul .no (.int .i64 (n : Int)) (.int .i64 (i : Int)) = some (.int .i64 ((fct i : Nat) : Int)) := by
      have em : (n : Int) * (i : Int) = ((fct i : Nat) : Int) := by rw [fi, hn, Nat.mul_comm]; simp
      have : sBin .mul .no (.int .i64 (n : Int)) (.int .i64 (i : Int)) = some (.int .i64 (IntKind.wrap .i64 ((n : Int) * (i : Int)))) := (Eq.refl _).trans rfl
      rw [this, em, wrap_i64 (by omega) (by omega)]
    have em : (n : Int) * (i : Int) = ((fct i : Nat) : Int) := by rw [fi, hn, Nat.mul_comm]; simp
    simp (disch := first|(simp only [Nat.reduceBEq,wE];done)|((repeat' (first|assumption|exact mAx _|refine mBx ?_ ?_|exact mCx (by assumption)|refine mDx ?_|refine mEx ?_ ?_ ?_|exact mFx|refine mGx ?_ ?_ ?_|exact mHx|exact mIx _|(simp only [wM,Nat.reduceAdd,Nat.reduceLT,Nat.reduceLeDiff];done)));done)|omega|decide) only [e, m1, em, ↓wA,wB,wL,resOf,Nat.reduceBEq,Int.reduceBEq,Int.reduceBNe,Int.reduceLT,Int.reduceLE,Int.reduceAdd,Int.reduceSub,Int.reduceMul,Int.reduceToNat]
    refine ⟨_, ?_, i + 1, fct i, _, _, _, _, _, _, _, _, _, _, _, _, _, _, rfl, ?_, rfl⟩
    · omega
    exact ⟨by omega, by omega, rfl⟩
  · have ei : i = w + 1 := by omega
    rw [ei, Nat.add_sub_cancel] at hn
    have nl : n ≤ 40320 := by rw [hn]; exact fct_le w (by omega)
    simp (disch := first|(simp only [Nat.reduceBEq,wE];done)|((repeat' (first|assumption|exact mAx _|refine mBx ?_ ?_|exact mCx (by assumption)|refine mDx ?_|refine mEx ?_ ?_ ?_|exact mFx|refine mGx ?_ ?_ ?_|exact mHx|exact mIx _|(simp only [wM,Nat.reduceAdd,Nat.reduceLT,Nat.reduceLeDiff];done)));done)|omega|decide) only [e, ↓wA,wB,wL,resOf,Nat.reduceBEq,Int.reduceBEq,Int.reduceBNe,Int.reduceLT,Int.reduceLE,Int.reduceAdd,Int.reduceSub,Int.reduceMul,Int.reduceToNat]
    refine wloop (fun mm ss => ∃ (p c : Nat) (h1 : Hp) (u0 u2 u6 u8 u9 u10 u11 u12 u13 u14 u22 u30 u38 u67 : AV), (mm = n - p) ∧ (p ≤ n ∧ Grown h h1 ∧ c = sumW k p) ∧ ss = { fr := [(0, u0), (2, u2), (3, .int .i64 k), (4, .int .i64 c), (5, .int .i64 n), (6, u6), (7, .int .i64 p), (8, u8), (9, u9), (10, u10), (11, u11), (12, u12), (13, u13), (14, u14), (22, u22), (30, u30), (38, u38), (67, u67)], hp := h1 }) (n) ?_ ?_
    ·
      refine ⟨0, 0, h.en, _, _, _, _, _, _, _, _, _, _, _, _, _, _, by omega, ⟨by omega, Grown.en, rfl⟩, rfl⟩
    rintro nB sB ⟨p, c, h1, u0, u2, u6, u8, u9, u10, u11, u12, u13, u14, u22, u30, u38, u67, hnB, ⟨hp, g1, hc⟩, rfl⟩
    have k1 := g1.ok hk
    have cl := sumW_le (k := k) p
    have cl2 : p * 2 ^ swc k ≤ 40320 * 64 := Nat.mul_le_mul (by omega) q1
    simp (disch := first|(simp only [Nat.reduceBEq,wE];done)|((repeat' (first|assumption|exact mAx _|refine mBx ?_ ?_|exact mCx (by assumption)|refine mDx ?_|refine mEx ?_ ?_ ?_|exact mFx|refine mGx ?_ ?_ ?_|exact mHx|exact mIx _|(simp only [wM,Nat.reduceAdd,Nat.reduceLT,Nat.reduceLeDiff];done)));done)|omega|decide) only [e, ↓wA,wB,wL,resOf,Nat.reduceBEq,Int.reduceBEq,Int.reduceBNe,Int.reduceLT,Int.reduceLE,Int.reduceAdd,Int.reduceSub,Int.reduceMul,Int.reduceToNat]
    refine ifThen_intro (fun e2 => ?_) (fun e2 => ?_) <;> have e2q := e2 <;> try simp [-List.getD_eq_getElem?_getD] at e2q
    · have O : Own h1.next (h1.pu []).blks .u8 (.sl h1.next 0 0 (some 0) 1) (ofN (dgts p 0)) := Own.fresh (Nat.le_refl _) rfl rfl rfl (Nat.le_refl _)
      simp (disch := first|(simp only [Nat.reduceBEq,wE];done)|((repeat' (first|assumption|exact mAx _|refine mBx ?_ ?_|exact mCx (by assumption)|refine mDx ?_|refine mEx ?_ ?_ ?_|exact mFx|refine mGx ?_ ?_ ?_|exact mHx|exact mIx _|(simp only [wM,Nat.reduceAdd,Nat.reduceLT,Nat.reduceLeDiff];done)));done)|omega|decide) only [e, e2, ↓wA,wB,wL,resOf,Nat.reduceBEq,Int.reduceBEq,Int.reduceBNe,Int.reduceLT,Int.reduceLE,Int.reduceAdd,Int.reduceSub,Int.reduceMul,Int.reduceToNat]
      refine wloop (fun mm ss => ∃ (i r : Nat) (q : AV) (h2 : Hp) (u0 u2 u6 u11 u12 u13 u14 u22 u30 u38 u67 : AV), (mm = w - i) ∧ (i ≤ w ∧ Grown h1 h2 ∧ Own h1.next h2.blks .u8 q (ofN (dgts p i)) ∧ r = rst p i) ∧ ss = { fr := [(0, u0), (2, u2), (3, .int .i64 k), (4, .int .i64 c), (5, .int .i64 n), (6, u6), (7, .int .i64 p), (8, q), (9, .int .i64 r), (10, .int .i64 i), (11, u11), (12, u12), (13, u13), (14, u14), (22, u22), (30, u30), (38, u38), (67, u67)], hp := h2 }) (w) ?_ ?_
      ·
        refine ⟨0, p, _, _, _, _, _, _, _, _, _, _, _, _, _, by omega, ⟨by omega, Grown.pu Grown.refl rfl, O, rfl⟩, rfl⟩
      rintro nC sC ⟨i, r, q, h2, u0, u2, u6, u11, u12, u13, u14, u22, u30, u38, u67, hnC, ⟨hi3, g2, o2, hr⟩, rfl⟩
      have k2 := g2.ok k1
      have rl := rst_le (p := p) i
      simp (disch := first|(simp only [Nat.reduceBEq,wE];done)|((repeat' (first|assumption|exact mAx _|refine mBx ?_ ?_|exact mCx (by assumption)|refine mDx ?_|refine mEx ?_ ?_ ?_|exact mFx|refine mGx ?_ ?_ ?_|exact mHx|exact mIx _|(simp only [wM,Nat.reduceAdd,Nat.reduceLT,Nat.reduceLeDiff];done)));done)|omega|decide) only [e, e2, sw, ↓wA,wB,wL,resOf,Nat.reduceBEq,Int.reduceBEq,Int.reduceBNe,Int.reduceLT,Int.reduceLE,Int.reduceAdd,Int.reduceSub,Int.reduceMul,Int.reduceToNat]
      refine ifThen_intro (fun e3 => ?_) (fun e3 => ?_) <;> have e3q := e3 <;> try simp [-List.getD_eq_getElem?_getD] at e3q
      · have ad : (i : Int) + 1 = ((i + 1 : Nat) : Int) := by omega
        have rm : sBin .rem .no (.int .i64 (r : Int)) (.int .i64 ((i + 1 : Nat) : Int)) = some (.int .i64 ((r % (i + 1) : Nat) : Int)) := by
          rw [sBin_rem (by omega) (by omega)]; rfl
        have qu : sBin .quo .no (.int .i64 (r : Int)) (.int .i64 ((i + 1 : Nat) : Int)) = some (.int .i64 ((r / (i + 1) : Nat) : Int)) := by
          rw [sBin_quo (by omega) (by omega) (by omega)]; rfl
        have hm : r % (i + 1) < i + 1 := Nat.mod_lt r (Nat.succ_pos i)
        have wu : IntKind.wrap .u8 ((r % (i + 1) : Nat) : Int) = ((r % (i + 1) : Nat) : Int) := wrap_u8 (by omega) (by omega)
        obtain ⟨s5, h5, e5, o5, g5, n5⟩ := own_app1 (k := .u8) (v := ((r % (i + 1) : Nat) : Int)) k1 g2 o2 (by rw [ofN_len, dgts_len]; omega)
        have res : ofN (dgts p i) ++ [((r % (i + 1) : Nat) : Int)] = ofN (dgts p (i + 1)) := by
          rw [dgts, hr]
          simp [ofN]
        rw [res] at o5
        simp (disch := first|(simp only [Nat.reduceBEq,wE];done)|((repeat' (first|assumption|exact mAx _|refine mBx ?_ ?_|exact mCx (by assumption)|refine mDx ?_|refine mEx ?_ ?_ ?_|exact mFx|refine mGx ?_ ?_ ?_|exact mHx|exact mIx _|(simp only [wM,Nat.reduceAdd,Nat.reduceLT,Nat.reduceLeDiff];done)));done)|omega|decide) only [e, e2, e3, ad, rm, wu, qu, e5, ↓wA,wB,wL,resOf,Nat.reduceBEq,Int.reduceBEq,Int.reduceBNe,Int.reduceLT,Int.reduceLE,Int.reduceAdd,Int.reduceSub,Int.reduceMul,Int.reduceToNat]
        refine ⟨_, ?_, i + 1, r / (i + 1), s5, h5, _, _, _, _, _, _, _, _, _, _, _, rfl, ?_, rfl⟩
        · omega
        exact ⟨by omega, g5, o5, by rw [hr]; rfl⟩
      · have ei3 : i = w := by omega
        rw [ei3] at o2
        have bc : ∀ x ∈ dgts p w, x ≤ 255 := fun x hx => by
          obtain ⟨j, hj, rfl⟩ := List.getElem_of_mem hx
          rw [dgts_len] at hj
          have := dgts_at (p := p) hj
          have e4 : (dgts p w).getD j 0 = (dgts p w)[j]'(by rw [dgts_len]; exact hj) := by simp [List.getD_eq_getElem?_getD, List.getElem?_eq_getElem (show j < (dgts p w).length by rw [dgts_len]; exact hj)]
          have hm : rst p j % (j + 1) < j + 1 := Nat.mod_lt (rst p j) (Nat.succ_pos j)
          omega
        obtain ⟨v, h3, ev, g3, o3⟩ := f45 w q (dgts p w) h2 k2 o2.ints (by omega) (by rw [dgts_len]; omega) bc
        have k3 := g3.ok k2
        have hpm : PermI (2 ^ k : Nat) (ofN (nthC (dgts p w) w)) := by rw [← ew]; exact nth_perm
        have OM := Ways_ok k v _ h3 k3 hk2 o3.ints (by rw [ofN_len, nthC_len]; omega) hpm
        have eW : waysN k (ofN (nthC (dgts p w) w)) (2 ^ swc k) = wy k p := by rw [nq_eq w (Nat.le_refl _), ew]; rfl
        rw [eW] at OM
        have g4 : Grown h h3 := GrownR.trans g1 (GrownR.trans g2 g3)
        have pw : 1 ≤ wy k p := posW hk2 (by rw [← ew, ← hn]; exact e2q)
        have wl : wy k p ≤ 2 ^ swc k := waysN_le _
        have d1 : decide (((wy k p : Nat) : Int) < 1) = false := decide_eq_false (by omega)
        have su : (c : Int) + ((wy k p : Nat) : Int) = ((c + wy k p : Nat) : Int) := by omega
        simp (disch := first|(simp only [Nat.reduceBEq,wE];done)|((repeat' (first|assumption|exact mAx _|refine mBx ?_ ?_|exact mCx (by assumption)|refine mDx ?_|refine mEx ?_ ?_ ?_|exact mFx|refine mGx ?_ ?_ ?_|exact mHx|exact mIx _|(simp only [wM,Nat.reduceAdd,Nat.reduceLT,Nat.reduceLeDiff];done)));done)|omega|decide) only [e, e2, e3, sw, callT ev, callT OM, d1, su, ↓wA,wB,wL,resOf,Nat.reduceBEq,Int.reduceBEq,Int.reduceBNe,Int.reduceLT,Int.reduceLE,Int.reduceAdd,Int.reduceSub,Int.reduceMul,Int.reduceToNat]
        refine ⟨_, ?_, p + 1, c + wy k p, h3, _, _, _, _, _, _, _, _, _, _, _, _, _, _, rfl, ?_, rfl⟩
        · omega
        exact ⟨by omega, g4, by rw [sumW, hc]⟩
    · have ep : p = n := by omega
      have WK := Waksman_ok k h1 k1 (by omega)
      have SW := f47 k h1 hk2.1 (by omega) k1
      have s1 := sBin_shl1 (j := swc k) (by omega)
      have fin : ((c : Int) == ((2 ^ swc k : Nat) : Int)) = true := by
        have := sumW_fin hk2
        rw [← ew, ← hn, ← ep, ← hc] at this
        rw [this]
        simp
      have zz : (k - 1) * 2 ^ k + 1 ≤ 5 ∧ n ≤ 2 ^ ((k - 1) * 2 ^ k + 1) := by
        rw [hn, ew]
        have : k = 1 ∨ k = 2 := by omega
        rcases this with h | h <;> rw [h] <;> decide
      obtain ⟨z1, z2⟩ := zz
      have s2 := sBin_shl1 (j := (k - 1) * 2 ^ k + 1) (by omega)
      generalize (k - 1) * 2 ^ k + 1 = z at *
      generalize 2 ^ z = y at *
      have d2 : decide ((y : Int) ≥ (n : Int)) = true := decide_eq_true (by omega)
      simp (disch := first|(simp only [Nat.reduceBEq,wE];done)|((repeat' (first|assumption|exact mAx _|refine mBx ?_ ?_|exact mCx (by assumption)|refine mDx ?_|refine mEx ?_ ?_ ?_|exact mFx|refine mGx ?_ ?_ ?_|exact mHx|exact mIx _|(simp only [wM,Nat.reduceAdd,Nat.reduceLT,Nat.reduceLeDiff];done)));done)|omega|decide) only [e, e2, callT WK, callT SW, s1, fin, s2, d2, callT (lives_ev _), ↓wA,wB,wL,resOf,Nat.reduceBEq,Int.reduceBEq,Int.reduceBNe,Int.reduceLT,Int.reduceLE,Int.reduceAdd,Int.reduceSub,Int.reduceMul,Int.reduceToNat]
      exact ⟨_, rfl, rfl⟩
end Go.Proofs.YtbomimhfldmlbaaDoor
