/- PatchColors: Colors answers as the reference. -/
import Derived.Test.YtbomimhfldmlbaaDoorPK
import Derived.Test.YtbomimhfldmlbaaDoorFPatchColors
set_option linter.unusedSimpArgs false
set_option linter.unusedVariables false
set_option maxHeartbeats 4000000
set_option maxRecDepth 20000
namespace Go.Proofs.YtbomimhfldmlbaaDoor
open Go Go.Abs Go.Pa

theorem f8 (a b : Int) (x : AV) (l : List (Int × Int)) (h : Hp) (hk : Hok h)
    (ba : -9223372036854775808 ≤ a ∧ a ≤ 9223372036854775807) (bb : -9223372036854775808 ≤ b ∧ b ≤ 9223372036854775807)
    (hx : Pairs h.blks x l) (Sx : l.length ≤ maxLen) :
    ∃ h', Evals Tryd.prog tab false (.func 8) [.int .i64 a, .int .i64 b, x] h (.bool true, h') := by
  have Sx' : l.length < 2 ^ 63 := by have : maxLen = 2 ^ 63 - 1 := rfl; omega
  suffices H : ∃ v h', Evals Tryd.prog tab false (.func 8) [.int .i64 a, .int .i64 b, x] h (v, h') ∧ v = .bool true by
    obtain ⟨v, h', e, rfl⟩ := H
    exact ⟨h', e⟩
  refine evals_func (Q := fun v _ => v = .bool true) c8 rfl ?_
  simp only [sf8, initS_cons, initS_nil]
  have k1 : Hok (h.en.pu []) := Hok.pu hk rfl
  have a1 : Pairs (h.en.pu []).blks x l := hx.sub (Sub.pu (h := h.en) hk)
  obtain ⟨x', ea, ia⟩ := a1.upto (m := min l.length 13) (by omega) (h.en.pu [])
  have em : min (l.length : Int) 13 = ((min l.length 13 : Nat) : Int) := by omega
  obtain ⟨E, eE⟩ : ∃ E, E = l.take (min l.length 13) := ⟨_, rfl⟩
  rw [← eE] at ia
  have lE : E.length ≤ 13 := by rw [eE]; simp; omega
  have O : OwnP h.next (h.en.pu []).blks (.sl h.next 0 0 (some 0) 2) [] := OwnP.fresh (Nat.le_refl _) rfl rfl rfl (Nat.le_refl _)
  obtain ⟨s1, h2, e2, o2, g2, _⟩ := own_appP (h0 := h) (h := h.en.pu []) hk (Grown.pu Grown.en rfl) O ia (by rw [List.length_nil]; omega)
  rw [List.nil_append] at o2
  have k2 := g2.ok hk
  by_cases c0 : 12 < E.length
  · have G := f41 a b s1 E h2 k2 o2.pairs (by omega)
    rw [if_pos c0] at G
    simp (disch := first|(simp only [Nat.reduceBEq,wE];done)|((repeat' (first|assumption|exact mAx _|refine mBx ?_ ?_|exact mCx (by assumption)|refine mDx ?_|refine mEx ?_ ?_ ?_|exact mFx|refine mGx ?_ ?_ ?_|exact mHx|exact mIx _|(simp only [wM,Nat.reduceAdd,Nat.reduceLT,Nat.reduceLeDiff];done)));done)|omega|decide) only [a1.len, em, ea, e2, callT (Colors_long a b s1 E h2 k2 o2.pairs c0 (by omega)), callT G, callT (lives_ev _), ↓wA,wB,wL,resOf,Nat.reduceBEq,Int.reduceBEq,Int.reduceBNe,Int.reduceLT,Int.reduceLE,Int.reduceAdd,Int.reduceSub,Int.reduceMul,Int.reduceToNat]
    exact ⟨_, rfl, rfl⟩
  · have G := f41 a b s1 E h2 k2 o2.pairs (by omega)
    rw [if_neg c0] at G
    by_cases c1 : GraphOK a b E
    · obtain ⟨v, h3, ev, g3, t, ys, rfl, y1, y2, y3, y4, y5, y6⟩ := Colors_ok a b s1 E h2 k2 o2.pairs (by omega) c1
      have k3 := g3.ok k2
      have o3 := o2.sub (g3.sub k2)
      have G := f41 a b s1 E h3 k3 o3.pairs (by omega)
      rw [if_neg c0, if_pos c1] at G
      have dl : dg E ≤ E.length := dgU_le 6
      have O3 : Own h3.next (h3.pu []).blks .i64 (.sl h3.next 0 0 (some 0) 1) [] := Own.fresh (Nat.le_refl _) rfl rfl rfl (Nat.le_refl _)
      obtain ⟨w, h4, ev4, g4, q4⟩ := f42 (dg E) s1 E h3 k3 (by omega) o3.pairs (by omega) E.length [] (.sl h3.next 0 0 (some 0) 1) (h3.pu []) h3.next (by simp) (Grown.pu Grown.refl rfl) O3 (by intro e; cases e) (Nat.le_succ _)
      rw [rfE_ext, if_pos prp_nil, y1] at q4
      have g5 : Grown h3 h4 := GrownR.trans (Grown.pu Grown.refl rfl) g4
      have k4 := g5.ok k3
      have y5' := y5.sub (g5.sub k3)
      have S := f26 t w ys ys h4 k4 y5'.ints q4.1.ints (by omega) (by omega)
      rw [decide_eq_true rfl] at S
      simp (disch := first|(simp only [Nat.reduceBEq,wE];done)|((repeat' (first|assumption|exact mAx _|refine mBx ?_ ?_|exact mCx (by assumption)|refine mDx ?_|refine mEx ?_ ?_ ?_|exact mFx|refine mGx ?_ ?_ ?_|exact mHx|exact mIx _|(simp only [wM,Nat.reduceAdd,Nat.reduceLT,Nat.reduceLeDiff];done)));done)|omega|decide) only [a1.len, em, ea, e2, callT ev, callT G, callT (f43 s1 E h3 k3 o3.pairs (by omega)), callT ev4, callT S, callT (lives_ev _), ↓wA,wB,wL,resOf,Nat.reduceBEq,Int.reduceBEq,Int.reduceBNe,Int.reduceLT,Int.reduceLE,Int.reduceAdd,Int.reduceSub,Int.reduceMul,Int.reduceToNat]
      exact ⟨_, rfl, rfl⟩
    · rw [if_neg c1] at G
      simp (disch := first|(simp only [Nat.reduceBEq,wE];done)|((repeat' (first|assumption|exact mAx _|refine mBx ?_ ?_|exact mCx (by assumption)|refine mDx ?_|refine mEx ?_ ?_ ?_|exact mFx|refine mGx ?_ ?_ ?_|exact mHx|exact mIx _|(simp only [wM,Nat.reduceAdd,Nat.reduceLT,Nat.reduceLeDiff];done)));done)|omega|decide) only [a1.len, em, ea, e2, callT (Colors_arg a b s1 E h2 k2 o2.pairs (by omega) c1), callT G, callT (lives_ev _), ↓wA,wB,wL,resOf,Nat.reduceBEq,Int.reduceBEq,Int.reduceBNe,Int.reduceLT,Int.reduceLE,Int.reduceAdd,Int.reduceSub,Int.reduceMul,Int.reduceToNat]
      exact ⟨_, rfl, rfl⟩
end Go.Proofs.YtbomimhfldmlbaaDoor
