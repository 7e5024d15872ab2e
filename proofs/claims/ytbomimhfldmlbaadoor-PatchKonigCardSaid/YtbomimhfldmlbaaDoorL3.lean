/- PatchKonig: Colors uses as many numbers as the degree says. -/
import Derived.Test.YtbomimhfldmlbaaDoorPK
import Derived.Test.YtbomimhfldmlbaaDoorFPatchKonig
set_option linter.unusedSimpArgs false
set_option linter.unusedVariables false
set_option maxHeartbeats 4000000
set_option maxRecDepth 20000
namespace Go.Proofs.YtbomimhfldmlbaaDoor
open Go Go.Abs Go.Pa

theorem f14 (x : AV) (l : List (Int × Int)) (h : Hp) (hk : Hok h)
    (hx : Pairs8 h.blks x l) (Bx : ∀ p ∈ l, 0 ≤ p.1 ∧ p.1 ≤ 255 ∧ 0 ≤ p.2 ∧ p.2 ≤ 255) (Sx : l.length ≤ maxLen) :
    ∃ h', Evals Tryd.prog tab false (.func 14) [x] h (.bool true, h') := by
  have Sx' : l.length < 2 ^ 63 := by have : maxLen = 2 ^ 63 - 1 := rfl; omega
  suffices H : ∃ v h', Evals Tryd.prog tab false (.func 14) [x] h (v, h') ∧ v = .bool true by
    obtain ⟨v, h', e, rfl⟩ := H
    exact ⟨h', e⟩
  refine evals_func (Q := fun v _ => v = .bool true) c14 rfl ?_
  simp only [sf14, initS_cons, initS_nil]
  obtain ⟨s1, h1, e1, g1, o1⟩ := f48 x l h.en hk hx Bx Sx'
  have k1 := g1.ok hk
  obtain ⟨E, eE⟩ : ∃ E, E = gOf l := ⟨_, rfl⟩
  have lE : E.length ≤ 12 := by rw [eE]; exact gOf_len
  have gE : GraphOK 6 6 E := by rw [eE]; exact gOf_ok
  rw [← eE] at o1
  obtain ⟨v, h2, ev, g2, t, ys, rfl, y1, y2, y3, y4, y5, y6⟩ := Colors_ok 6 6 s1 E h1 k1 o1.pairs lE gE
  have k2 := g2.ok k1
  have o2 := o1.sub (g2.sub k1)
  have dl : dg E ≤ E.length := dgU_le 6
  have O : Own h2.next (h2.pu []).blks .i64 (.sl h2.next 0 0 (some 0) 1) [] := Own.fresh (Nat.le_refl _) rfl rfl rfl (Nat.le_refl _)
  simp (disch := first|(simp only [Nat.reduceBEq,wE];done)|((repeat' (first|assumption|exact mAx _|refine mBx ?_ ?_|exact mCx (by assumption)|refine mDx ?_|refine mEx ?_ ?_ ?_|exact mFx|refine mGx ?_ ?_ ?_|exact mHx|exact mIx _|(simp only [wM,Nat.reduceAdd,Nat.reduceLT,Nat.reduceLeDiff];done)));done)|omega|decide) only [callT e1, callT ev, ↓wA,wB,wL,resOf,Nat.reduceBEq,Int.reduceBEq,Int.reduceBNe,Int.reduceLT,Int.reduceLE,Int.reduceAdd,Int.reduceSub,Int.reduceMul,Int.reduceToNat]
  refine wloop (fun mm ss => ∃ (i : Nat) (q : AV) (h3 : Hp) (u0 u2 u19 u28 : AV), (mm = ys.length - i) ∧ (i ≤ ys.length ∧ Grown h2 h3 ∧ Own h2.next h3.blks .i64 q (seenU ys i)) ∧ ss = { fr := [(0, u0), (2, u2), (3, s1), (4, t), (5, .int .i64 0), (6, q), (7, .int .i64 i), (19, u19), (28, u28)], hp := h3 }) (ys.length) ?_ ?_
  ·
    refine ⟨0, _, _, _, _, _, _, by omega, ⟨by omega, Grown.pu Grown.refl rfl, O⟩, rfl⟩
  rintro nA sA ⟨i, q, h3, u0, u2, u19, u28, hnA, ⟨hi, g3, o3⟩, rfl⟩
  have k3 := g3.ok k2
  have t3 := y5.sub (g3.sub k2)
  have sl := seen_len_le (c := ys) i
  simp (disch := first|(simp only [Nat.reduceBEq,wE];done)|((repeat' (first|assumption|exact mAx _|refine mBx ?_ ?_|exact mCx (by assumption)|refine mDx ?_|refine mEx ?_ ?_ ?_|exact mFx|refine mGx ?_ ?_ ?_|exact mHx|exact mIx _|(simp only [wM,Nat.reduceAdd,Nat.reduceLT,Nat.reduceLeDiff];done)));done)|omega|decide) only [t3.len, ↓wA,wB,wL,resOf,Nat.reduceBEq,Int.reduceBEq,Int.reduceBNe,Int.reduceLT,Int.reduceLE,Int.reduceAdd,Int.reduceSub,Int.reduceMul,Int.reduceToNat]
  refine ifThen_intro (fun e => ?_) (fun e => ?_) <;> have eq := e <;> try simp [-List.getD_eq_getElem?_getD] at eq
  · have H := f46 q (seenU ys i) (ys.getD i 0) h3 k3 o3.ints (by omega)
    by_cases c : ys.getD i 0 ∈ seenU ys i
    · rw [decide_eq_true c] at H
      simp (disch := first|(simp only [Nat.reduceBEq,wE];done)|((repeat' (first|assumption|exact mAx _|refine mBx ?_ ?_|exact mCx (by assumption)|refine mDx ?_|refine mEx ?_ ?_ ?_|exact mFx|refine mGx ?_ ?_ ?_|exact mHx|exact mIx _|(simp only [wM,Nat.reduceAdd,Nat.reduceLT,Nat.reduceLeDiff];done)));done)|omega|decide) only [e, t3.ints.ix, t3.ints.ld, callT H, ↓wA,wB,wL,resOf,Nat.reduceBEq,Int.reduceBEq,Int.reduceBNe,Int.reduceLT,Int.reduceLE,Int.reduceAdd,Int.reduceSub,Int.reduceMul,Int.reduceToNat]
      refine ⟨_, ?_, i + 1, q, h3, _, _, _, _, rfl, ?_, rfl⟩
      · omega
      refine ⟨by omega, g3, ?_⟩
      rw [seenU, if_pos c]
      exact o3
    · rw [decide_eq_false c] at H
      obtain ⟨s5, h5, e5, o5, g5, n5⟩ := own_app1 (v := ys.getD i 0) k2 g3 o3 (by omega)
      simp (disch := first|(simp only [Nat.reduceBEq,wE];done)|((repeat' (first|assumption|exact mAx _|refine mBx ?_ ?_|exact mCx (by assumption)|refine mDx ?_|refine mEx ?_ ?_ ?_|exact mFx|refine mGx ?_ ?_ ?_|exact mHx|exact mIx _|(simp only [wM,Nat.reduceAdd,Nat.reduceLT,Nat.reduceLeDiff];done)));done)|omega|decide) only [e, t3.ints.ix, t3.ints.ld, callT H, e5, ↓wA,wB,wL,resOf,Nat.reduceBEq,Int.reduceBEq,Int.reduceBNe,Int.reduceLT,Int.reduceLE,Int.reduceAdd,Int.reduceSub,Int.reduceMul,Int.reduceToNat]
      refine ⟨_, ?_, i + 1, s5, h5, _, _, _, _, rfl, ?_, rfl⟩
      · omega
      refine ⟨by omega, g5, ?_⟩
      rw [seenU, if_neg c]
      exact o5
  · have ei : i = ys.length := by omega
    rw [ei] at o3
    have sd := seen_dg y2 y3 y4
    have s3 := o2.sub (g3.sub k2)
    have e1' : ((ys.length : Int) == (E.length : Int)) = true := by simp; omega
    have e2' : (((seenU ys ys.length).length : Int) == ((dg E : Nat) : Int)) = true := by simp; omega
    have P := f49 s1 t E ys h3 k3 s3.pairs t3.ints (by omega) (by omega)
    rw [decide_eq_true y2] at P
    have em : max ((dg E : Nat) : Int) 1 = ((max (dg E) 1 : Nat) : Int) := by omega
    have C := f50 t ys E.length (max (dg E) 1) h3 k3 t3.ints (by omega) (by omega)
    have hcol : ColI ((max (dg E) 1 : Nat) : Int) (E.length : Nat) ys := ⟨by omega, fun z hz => by have := y4 z hz; omega⟩
    rw [decide_eq_true hcol] at C
    simp (disch := first|(simp only [Nat.reduceBEq,wE];done)|((repeat' (first|assumption|exact mAx _|refine mBx ?_ ?_|exact mCx (by assumption)|refine mDx ?_|refine mEx ?_ ?_ ?_|exact mFx|refine mGx ?_ ?_ ?_|exact mHx|exact mIx _|(simp only [wM,Nat.reduceAdd,Nat.reduceLT,Nat.reduceLeDiff];done)));done)|omega|decide) only [e, t3.len, s3.pairs.len, e1', callT P, o3.len, callT (f43 s1 E h3 k3 s3.pairs (by omega)), e2', em, callT C, callT (lives_ev _), ↓wA,wB,wL,resOf,Nat.reduceBEq,Int.reduceBEq,Int.reduceBNe,Int.reduceLT,Int.reduceLE,Int.reduceAdd,Int.reduceSub,Int.reduceMul,Int.reduceToNat]
    exact ⟨_, rfl, rfl⟩
end Go.Proofs.YtbomimhfldmlbaaDoor
