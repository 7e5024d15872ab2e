/- NormEuler. -/
import Derived.Test.YtpobklkllfokdaaNK
import Derived.Test.YtpobklkllfokdaaNH
import Derived.Test.YtpobklkllfokdaaFNormEuler
set_option linter.unusedSimpArgs false
set_option linter.unusedVariables false
set_option maxHeartbeats 1000000
namespace Go.Nm
theorem splitQ_mul (k l : List Nat) : ∃ a b c d : Int, (splitQ k).mul (splitQ l) = ⟨2 * a, 2 * b, 2 * c, 2 * d⟩ ∧
    a * a + b * b + c * c + d * d = (((k.getD 0 0 : Nat) : Int) * (k.getD 0 0 : Nat) + ((k.getD 1 0 : Nat) : Int) * (k.getD 1 0 : Nat) + ((k.getD 2 0 : Nat) : Int) * (k.getD 2 0 : Nat) + ((k.getD 3 0 : Nat) : Int) * (k.getD 3 0 : Nat)) * (((l.getD 0 0 : Nat) : Int) * (l.getD 0 0 : Nat) + ((l.getD 1 0 : Nat) : Int) * (l.getD 1 0 : Nat) + ((l.getD 2 0 : Nat) : Int) * (l.getD 2 0 : Nat) + ((l.getD 3 0 : Nat) : Int) * (l.getD 3 0 : Nat)) := by
  unfold splitQ
  generalize ((k.getD 0 0 : Nat) : Int) = k0
  generalize ((k.getD 1 0 : Nat) : Int) = k1
  generalize ((k.getD 2 0 : Nat) : Int) = k2
  generalize ((k.getD 3 0 : Nat) : Int) = k3
  generalize ((l.getD 0 0 : Nat) : Int) = l0
  generalize ((l.getD 1 0 : Nat) : Int) = l1
  generalize ((l.getD 2 0 : Nat) : Int) = l2
  generalize ((l.getD 3 0 : Nat) : Int) = l3
  refine ⟨k0 * l0 - k1 * l1 - k2 * l2 - k3 * l3, k0 * l1 + k1 * l0 + k2 * l3 - k3 * l2, k0 * l2 - k1 * l3 + k2 * l0 + k3 * l1, k0 * l3 + k1 * l2 - k2 * l1 + k3 * l0, ?_, by grind⟩
  have h : ∀ x y : Int, x = 4 * y → x / 2 = 2 * y := fun x y h => by omega
  simp only [Qt.mul, Qt.sa, Qt.sb, Qt.sc, Qt.sd, Qt.mk.injEq]
  refine ⟨h _ _ (by grind), h _ _ (by grind), h _ _ (by grind), h _ _ (by grind)⟩
theorem IsSq.four {n m : Nat} {l : List Nat} (s : IsSq 4 n m l) : ((l.getD 0 0 : Nat) : Int) * (l.getD 0 0 : Nat) + ((l.getD 1 0 : Nat) : Int) * (l.getD 1 0 : Nat) + ((l.getD 2 0 : Nat) : Int) * (l.getD 2 0 : Nat) + ((l.getD 3 0 : Nat) : Int) * (l.getD 3 0 : Nat) = n := by
  match l, s with
  | [a, b, c, d], s =>
    have := s.sum
    simp only [sqs] at this
    rw [← this]
    simp
    omega
  | [], s => have := s.len; simp at this
  | [_], s => have := s.len; simp at this
  | [_, _], s => have := s.len; simp at this
  | [_, _, _], s => have := s.len; simp at this
  | _ :: _ :: _ :: _ :: _ :: _, s => have := s.len; simp at this
theorem sq_small {a : Int} (h : a * a ≤ 10000) : -100 ≤ a ∧ a ≤ 100 := by
  rcases Int.lt_or_le a (-100) with h1 | h1
  · exfalso
    have := Int.mul_le_mul_of_nonneg_left (show 101 ≤ -a by omega) (show 0 ≤ -a by omega)
    rw [Int.neg_mul_neg] at this
    omega
  · rcases Int.lt_or_le 100 a with h2 | h2
    · exfalso
      have := Int.mul_le_mul_of_nonneg_left (show 101 ≤ a by omega) (show 0 ≤ a by omega)
      omega
    · exact ⟨h1, h2⟩
theorem IsSq.get_le {k n m : Nat} {l : List Nat} (s : IsSq k n m l) (hn : n ≤ 10000) (i : Nat) : ((l.getD i 0 : Nat) : Int) ≤ 100 := by
  rw [List.getD_eq_getElem?_getD]
  cases hx : l[i]? with
  | none => simp
  | some x =>
    have h1 := sqs_ge (List.mem_of_getElem? hx)
    rw [s.sum] at h1
    have := sq_100 h1 hn
    simp only [Option.getD_some]
    omega
theorem splitQ_ok {l : List Nat} (h : ∀ i, ((l.getD i 0 : Nat) : Int) ≤ 100) : (splitQ l).int ∧ (splitQ l).bd 200 := by
  have h0 := h 0
  have h1 := h 1
  have h2 := h 2
  have h3 := h 3
  simp only [Qt.int, Qt.bd, splitQ]
  omega
end Go.Nm
namespace Go.Proofs.Ytpobklkllfokdaa
open Go Go.Abs Go.Nm
set_option maxRecDepth 100000 in
set_option maxHeartbeats 8000000 in
theorem f15 (x y : Int) (h : Hp) (hk : Hok h) (bx : 0 ≤ x ∧ x ≤ 255) (bY : 0 ≤ y ∧ y ≤ 255) : ∃ h', Evals Try.prog tab false (.func 15) [.int .u8 x, .int .u8 y] h (.bool true, h') := by
  refine ⟨h, evals_pure c15 rfl hk ?_⟩
  simp only [sf15, initS_cons, initS_nil]
  obtain ⟨m, hm⟩ : ∃ n : Nat, x % 100 = (n : Int) := ⟨(x % 100).toNat, by omega⟩
  obtain ⟨n, hn⟩ : ∃ n : Nat, y % 101 = (n : Int) := ⟨(y % 101).toNat, by omega⟩
  have bm : m ≤ 99 := by omega
  have bn : n ≤ 100 := by omega
  have bmn : m * n ≤ 99 * 100 := Nat.mul_le_mul bm bn
  obtain ⟨lm, sm, im⟩ := four_some (n := m) (by omega)
  obtain ⟨ln, sn, iN⟩ := four_some (n := n) (by omega)
  obtain ⟨lp, sp, ip⟩ := four_some (n := m * n) (by omega)
  have gm := im.get_le (by omega)
  have gn := iN.get_le (by omega)
  obtain ⟨im1, bm1⟩ := splitQ_ok gm
  obtain ⟨in1, bn1⟩ := splitQ_ok gn
  obtain ⟨a, b, c, d, em, es⟩ := splitQ_mul lm ln
  rw [im.four, iN.four] at es
  have emn : (m : Int) * n = ((m * n : Nat) : Int) := by push_cast; rfl
  rw [emn] at es
  have n0 := sq_nonneg' a
  have n1 := sq_nonneg' b
  have n2 := sq_nonneg' c
  have n3 := sq_nonneg' d
  have ba := sq_small (a := a) (by omega)
  have bb := sq_small (a := b) (by omega)
  have bc := sq_small (a := c) (by omega)
  have bd := sq_small (a := d) (by omega)
  have p0 : (2 * a % 2 != 0) = false := bne_eq_false_iff_eq.2 (by omega)
  have p1 : (2 * b % 2 != 0) = false := bne_eq_false_iff_eq.2 (by omega)
  have p2 : (2 * c % 2 != 0) = false := bne_eq_false_iff_eq.2 (by omega)
  have p3 : (2 * d % 2 != 0) = false := bne_eq_false_iff_eq.2 (by omega)
  have t0 : (2 * a).tdiv 2 = a := Int.mul_tdiv_cancel_left a (by omega)
  have t1 : (2 * b).tdiv 2 = b := Int.mul_tdiv_cancel_left b (by omega)
  have t2 : (2 * c).tdiv 2 = c := Int.mul_tdiv_cancel_left c (by omega)
  have t3 : (2 * d).tdiv 2 = d := Int.mul_tdiv_cancel_left d (by omega)
  have hlm : (iv lm).length = 4 := by rw [iv_len, im.len]
  have hln : (iv ln).length = 4 := by rw [iv_len, iN.len]
  have gm0 := gm 0
  have gm1 := gm 1
  have gm2 := gm 2
  have gm3 := gm 3
  have gn0 := gn 0
  have gn1 := gn 1
  have gn2 := gn 2
  have gn3 := gn 3
  simp (disch := first|(simp only [Nat.reduceBEq,wE];done)|((repeat' (first|assumption|exact mAx _|refine mBx ?_ ?_|exact mCx (by assumption)|refine mDx ?_|refine mEx ?_ ?_ ?_|exact mFx|refine mGx ?_ ?_ ?_|exact mHx|exact mIx _|(simp only [wM,Nat.reduceAdd,Nat.reduceLT,Nat.reduceLeDiff];done)));done)|omega|decide) only [sBin_rem, hm, hn, ↓wA,wB,wL,resOf,Nat.reduceBEq,Int.reduceBEq,Int.reduceBNe,Int.reduceLT,Int.reduceLE,Int.reduceAdd,Int.reduceSub,Int.reduceMul,Int.reduceToNat]
  refine callE (f34 m _ (by (repeat' (first|assumption|exact mAx _|refine mBx ?_ ?_|exact mCx (by assumption)|refine mDx ?_|refine mEx ?_ ?_ ?_|exact mFx|refine mGx ?_ ?_ ?_|exact mHx|exact mIx _|(simp only [wM,Nat.reduceAdd,Nat.reduceLT,Nat.reduceLeDiff];done))))) ?_
  rintro _ h1 ⟨g1, v, rfl, o1⟩
  rw [sqR_some (by omega) sm] at o1 ⊢
  replace g1 : Grown h h1 := GrownR.of_en g1
  have k1 := g1.ok hk
  simp (disch := first|(simp only [Nat.reduceBEq,wE];done)|((repeat' (first|assumption|exact mAx _|refine mBx ?_ ?_|exact mCx (by assumption)|refine mDx ?_|refine mEx ?_ ?_ ?_|exact mFx|refine mGx ?_ ?_ ?_|exact mHx|exact mIx _|(simp only [wM,Nat.reduceAdd,Nat.reduceLT,Nat.reduceLeDiff];done)));done)|omega|decide) only [↓wA,wB,wL,resOf,Nat.reduceBEq,Int.reduceBEq,Int.reduceBNe,Int.reduceLT,Int.reduceLE,Int.reduceAdd,Int.reduceSub,Int.reduceMul,Int.reduceToNat]
  refine callE (f34 n _ k1) ?_
  rintro _ h2 ⟨g2, w, rfl, o2⟩
  rw [sqR_some (by omega) sn] at o2 ⊢
  have gg := GrownR.trans g1 g2
  have k2 := gg.ok hk
  replace o1 := o1.sub (g2.sub k1)
  clear g2
  have i1 : Ints h2.blks .i64 v (iv lm) := o1.own.ints
  have i2 : Ints h2.blks .i64 w (iv ln) := o2.own.ints
  simp (disch := first|(simp only [Nat.reduceBEq,wE];done)|((repeat' (first|assumption|exact mAx _|refine mBx ?_ ?_|exact mCx (by assumption)|refine mDx ?_|refine mEx ?_ ?_ ?_|exact mFx|refine mGx ?_ ?_ ?_|exact mHx|exact mIx _|(simp only [wM,Nat.reduceAdd,Nat.reduceLT,Nat.reduceLeDiff];done)));done)|omega|decide) only [↓wA,wB,wL,resOf,Nat.reduceBEq,Int.reduceBEq,Int.reduceBNe,Int.reduceLT,Int.reduceLE,Int.reduceAdd,Int.reduceSub,Int.reduceMul,Int.reduceToNat]
  refine callP (f45 _ lm 4 m _ k2 i1 im (by omega) (by omega)) ?_
  simp (disch := first|(simp only [Nat.reduceBEq,wE];done)|((repeat' (first|assumption|exact mAx _|refine mBx ?_ ?_|exact mCx (by assumption)|refine mDx ?_|refine mEx ?_ ?_ ?_|exact mFx|refine mGx ?_ ?_ ?_|exact mHx|exact mIx _|(simp only [wM,Nat.reduceAdd,Nat.reduceLT,Nat.reduceLeDiff];done)));done)|omega|decide) only [↓wA,wB,wL,resOf,Nat.reduceBEq,Int.reduceBEq,Int.reduceBNe,Int.reduceLT,Int.reduceLE,Int.reduceAdd,Int.reduceSub,Int.reduceMul,Int.reduceToNat]
  refine callP (f45 _ ln 4 n _ k2 i2 iN (by omega) (by omega)) ?_
  simp (disch := first|(simp only [Nat.reduceBEq,wE];done)|((repeat' (first|assumption|exact mAx _|refine mBx ?_ ?_|exact mCx (by assumption)|refine mDx ?_|refine mEx ?_ ?_ ?_|exact mFx|refine mGx ?_ ?_ ?_|exact mHx|exact mIx _|(simp only [wM,Nat.reduceAdd,Nat.reduceLT,Nat.reduceLeDiff];done)));done)|omega|decide) only [↓wA,wB,wL,resOf,Nat.reduceBEq,Int.reduceBEq,Int.reduceBNe,Int.reduceLT,Int.reduceLE,Int.reduceAdd,Int.reduceSub,Int.reduceMul,Int.reduceToNat]
  refine callP (f23 _ k2) ?_
  simp (disch := first|(simp only [Nat.reduceBEq,wE];done)|((repeat' (first|assumption|exact mAx _|refine mBx ?_ ?_|exact mCx (by assumption)|refine mDx ?_|refine mEx ?_ ?_ ?_|exact mFx|refine mGx ?_ ?_ ?_|exact mHx|exact mIx _|(simp only [wM,Nat.reduceAdd,Nat.reduceLT,Nat.reduceLeDiff];done)));done)|omega|decide) only [i1.ix, i1.ld, i2.ix, i2.ld, iv_getD, ↓wA,wB,wL,resOf,Nat.reduceBEq,Int.reduceBEq,Int.reduceBNe,Int.reduceLT,Int.reduceLE,Int.reduceAdd,Int.reduceSub,Int.reduceMul,Int.reduceToNat]
  refine callP (f17 (splitQ lm) (splitQ ln) _ (by (repeat' (first|assumption|exact mAx _|refine mBx ?_ ?_|exact mCx (by assumption)|refine mDx ?_|refine mEx ?_ ?_ ?_|exact mFx|refine mGx ?_ ?_ ?_|exact mHx|exact mIx _|(simp only [wM,Nat.reduceAdd,Nat.reduceLT,Nat.reduceLeDiff];done))))) ?_
  rw [okQ_ok (err2 im1 (Qt.bd_mono bm1 (by omega)) in1 (Qt.bd_mono bn1 (by omega))), err2 im1 (Qt.bd_mono bm1 (by omega)) in1 (Qt.bd_mono bn1 (by omega)), em]
  simp (disch := first|(simp only [Nat.reduceBEq,wE];done)|((repeat' (first|assumption|exact mAx _|refine mBx ?_ ?_|exact mCx (by assumption)|refine mDx ?_|refine mEx ?_ ?_ ?_|exact mFx|refine mGx ?_ ?_ ?_|exact mHx|exact mIx _|(simp only [wM,Nat.reduceAdd,Nat.reduceLT,Nat.reduceLeDiff];done)));done)|omega|decide) only [p0, p1, p2, p3, i1.ld, i2.ld, iv_getD, ↓wA,wB,wL,resOf,Nat.reduceBEq,Int.reduceBEq,Int.reduceBNe,Int.reduceLT,Int.reduceLE,Int.reduceAdd,Int.reduceSub,Int.reduceMul,Int.reduceToNat]
  simp (disch := first|(simp only [Nat.reduceBEq,wE];done)|((repeat' (first|assumption|exact mAx _|refine mBx ?_ ?_|exact mCx (by assumption)|refine mDx ?_|refine mEx ?_ ?_ ?_|exact mFx|refine mGx ?_ ?_ ?_|exact mHx|exact mIx _|(simp only [wM,Nat.reduceAdd,Nat.reduceLT,Nat.reduceLeDiff];done)));done)|omega|decide) only [p0, p1, p2, p3, sBin_quoL, t0, t1, t2, t3, emn, i1.ld, i2.ld, iv_getD, ↓wA,wB,wL,resOf,Nat.reduceBEq,Int.reduceBEq,Int.reduceBNe,Int.reduceLT,Int.reduceLE,Int.reduceAdd,Int.reduceSub,Int.reduceMul,Int.reduceToNat]
  refine callE (f34 (m * n : Nat) _ (by (repeat' (first|assumption|exact mAx _|refine mBx ?_ ?_|exact mCx (by assumption)|refine mDx ?_|refine mEx ?_ ?_ ?_|exact mFx|refine mGx ?_ ?_ ?_|exact mHx|exact mIx _|(simp only [wM,Nat.reduceAdd,Nat.reduceLT,Nat.reduceLeDiff];done))))) ?_
  rintro _ h3 ⟨g3, z, rfl, o3⟩
  rw [sqR_some (by omega) sp] at o3 ⊢
  have g4 : Grown h h3 := GrownR.trans (by (repeat' (first|assumption|exact mAx _|refine mBx ?_ ?_|exact mCx (by assumption)|refine mDx ?_|refine mEx ?_ ?_ ?_|exact mFx|refine mGx ?_ ?_ ?_|exact mHx|exact mIx _|(simp only [wM,Nat.reduceAdd,Nat.reduceLT,Nat.reduceLeDiff];done)))) g3
  have k3 := g4.ok hk
  have e9 : (a * a + b * b + c * c + d * d == ((m * n : Nat) : Int)) = true := beq_iff_eq.2 es
  simp (disch := first|(simp only [Nat.reduceBEq,wE];done)|((repeat' (first|assumption|exact mAx _|refine mBx ?_ ?_|exact mCx (by assumption)|refine mDx ?_|refine mEx ?_ ?_ ?_|exact mFx|refine mGx ?_ ?_ ?_|exact mHx|exact mIx _|(simp only [wM,Nat.reduceAdd,Nat.reduceLT,Nat.reduceLeDiff];done)));done)|omega|decide) only [emn, e9, ↓wA,wB,wL,resOf,Nat.reduceBEq,Int.reduceBEq,Int.reduceBNe,Int.reduceLT,Int.reduceLE,Int.reduceAdd,Int.reduceSub,Int.reduceMul,Int.reduceToNat]
  refine callP (f45 _ lp 4 (m * n) _ k3 o3.own.ints ip (by omega) (by omega)) ?_
  simp (disch := first|(simp only [Nat.reduceBEq,wE];done)|((repeat' (first|assumption|exact mAx _|refine mBx ?_ ?_|exact mCx (by assumption)|refine mDx ?_|refine mEx ?_ ?_ ?_|exact mFx|refine mGx ?_ ?_ ?_|exact mHx|exact mIx _|(simp only [wM,Nat.reduceAdd,Nat.reduceLT,Nat.reduceLeDiff];done)));done)|omega|decide) only [↓wA,wB,wL,resOf,Nat.reduceBEq,Int.reduceBEq,Int.reduceBNe,Int.reduceLT,Int.reduceLE,Int.reduceAdd,Int.reduceSub,Int.reduceMul,Int.reduceToNat]
  exact ⟨_, rfl, rfl, g4⟩
end Go.Proofs.Ytpobklkllfokdaa
