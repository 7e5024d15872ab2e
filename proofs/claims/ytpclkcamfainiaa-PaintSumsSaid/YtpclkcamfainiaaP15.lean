/- The law about sums. -/
import Derived.Test.YtpclkcamfainiaaP14
set_option linter.unusedSimpArgs false
set_option linter.unusedVariables false
set_option maxHeartbeats 4000000
set_option maxRecDepth 20000
namespace Go.Proofs.Ytpclkcamfainiaa
open Go Go.Abs Go.Pt

theorem f5 (a : AV) (zs : List Int) (n r : Int) (h : Hp) (hk : Hok h) (ha : Ints h.blks .i64 a zs) (hb : ∀ k ∈ zs, -9223372036854775808 ≤ k ∧ k ≤ 9223372036854775807) (hz : zs.length ≤ maxLen) (hn : -9223372036854775808 ≤ n ∧ n ≤ 9223372036854775807) (hr : -9223372036854775808 ≤ r ∧ r ≤ 9223372036854775807) :
    ∃ h', Evals Try.prog tab false (.func 5) [a, .int .i64 n, .int .i64 r] h (.bool true, h') := by
  obtain ⟨l, h1, ev1, g1, o1⟩ := f16 a zs h.en hk ha hz
  have gh1 : Grown h h1 := GrownR.of_en g1
  have hL : (zs.take 29).length ≤ 29 := by simp; omega
  generalize zs.take 29 = L at o1 hL
  have k1 := gh1.ok hk
  obtain ⟨v2, h2, ev2, g2, s, rfl, q2⟩ := f25 l L h1 k1 o1.ints (by omega)
  have k2 := g2.ok k1
  have gh2 : Grown h h2 := GrownR.trans gh1 g2
  have o2 := o1.sub (g2.sub k1)
  suffices H : ∃ v h', Evals Try.prog tab false (.func 5) [a, .int .i64 n, .int .i64 r] h (v, h') ∧ v = .bool true by
    obtain ⟨v, h', e, rfl⟩ := H
    exact ⟨h', e⟩
  refine evals_func (Q := fun v _ => v = .bool true) c5 rfl ?_
  simp only [sf5, initS_cons, initS_nil]
  rw [wseq, wseq, wseq]
  refine wcut (fun ss => ∃ (hx : Hp) (u0 u6 u7 u8 u9 u10 u11 u33 u40 u46 u60 : AV), (Grown h hx) ∧ ss = { fr := [(0, u0), (1, .int .i64 n), (2, .int .i64 r), (6, u6), (7, u7), (8, u8), (9, u9), (10, u10), (11, u11), (33, u33), (40, u40), (46, u46), (60, u60)], hp := hx }) ?_ ?_
  · have cl := f20 l L L.length 3 h2 k2 o2.ints (by omega) (by omega)
    have e9 : decide ((L.length : Int) = (L.length : Int)) = true := by simp
    by_cases ok : sumOK L
    · rw [if_pos ok] at ev2 q2
      have d1 : decide ((L.length : Int) < 1) = false := by simp; have := ok.1; omega
      have d2 : decide ((14 : Int) < L.length) = false := by simp; have := ok.1; omega
      have e5 := ok.2
      obtain ⟨w, h3, ev3, g3, q3⟩ := f26 l L h2 k2 o2.ints (by omega)
      have q2' : HD h1.next s h3.blks ((sumO L).map pr2) := by
        cases hs : (sumO L).map pr2 with
        | none => rw [hs] at q2; exact q2
        | some cc => rw [hs] at q2; exact ⟨q2.1.sub (g3.sub k2), q2.2⟩
      have fd := lfound s w ((sumO L).map pr2) h1.next h2.next h3 (g3.ok k2) q2' q3 (fun c e => by
        cases hs : sumO L with
        | none => rw [hs] at e; cases e
        | some p => rw [hs] at e; cases e; simp [pr2])
      simp (disch := first | (simp only [Nat.reduceBEq, elem_hit, elem_miss, elem_nil]; done) | ((repeat' (first | assumption | exact Sub.refl _ | refine Sub.push ?_ ?_ | exact HokR.fresh (by assumption) | refine Fresh.push ?_ | refine HokR.push ?_ ?_ ?_ | exact Grown.refl | refine GrownR.push ?_ ?_ ?_ | exact refsOK_ints | exact refsOK_pairs | exact Nat.le_refl _ | (simp only [wM, Nat.reduceAdd, Nat.reduceLT, Nat.reduceLeDiff]; done))); done) | omega | decide) only [callT ev1, callT ev2, o2.len, d1, d2, callT cl, e5, e9, callT ev3, callT fd, cutEx_n, cutEx_r, cutEx_e, wrap_i64, idx?_pos, Int.toNat_natCast, ↓wA, wB, resOf, Option.map_some, Option.map_none, List.map_cons, List.map_nil, List.nil_append, List.append_nil, List.cons_append, Nat.reduceBEq, List.getElem?_cons_zero, List.getElem?_cons_succ, List.getElem?_nil, Option.getD_some, Option.getD_none, cond_false, cond_true, and_true, true_and, Nat.zero_add, Nat.mul_one, Int.reduceBEq, Int.reduceBNe, Int.reduceLT, Int.reduceLE, Int.reduceAdd, Int.reduceSub, Int.reduceMul, decide_true, decide_false, Bool.not_true, Bool.not_false, beq_self_eq_true, bne_self_eq_false, and_self, List.isEmpty_nil, List.isEmpty_cons, Bool.true_or, Bool.false_or, List.set_cons_zero, List.set_cons_succ, List.length_cons, List.length_nil, Option.bind_some, List.all_cons, List.all_nil, Bool.or_true, Bool.true_and, Bool.and_true, Int.reduceToNat]
      exact ⟨h3, _, _, _, _, _, _, _, _, _, _, _, GrownR.trans gh2 g3, rfl⟩
    · rw [if_neg ok] at ev2 q2
      cases q2
      by_cases c1 : (L.length : Int) < 1
      · have d1 : decide ((L.length : Int) < 1) = true := decide_eq_true c1
        simp (disch := first | (simp only [Nat.reduceBEq, elem_hit, elem_miss, elem_nil]; done) | ((repeat' (first | assumption | exact Sub.refl _ | refine Sub.push ?_ ?_ | exact HokR.fresh (by assumption) | refine Fresh.push ?_ | refine HokR.push ?_ ?_ ?_ | exact Grown.refl | refine GrownR.push ?_ ?_ ?_ | exact refsOK_ints | exact refsOK_pairs | exact Nat.le_refl _ | (simp only [wM, Nat.reduceAdd, Nat.reduceLT, Nat.reduceLeDiff]; done))); done) | omega | decide) only [callT ev1, callT ev2, o2.len, d1, sLen_nil, cutEx_n, cutEx_r, cutEx_e, wrap_i64, idx?_pos, Int.toNat_natCast, ↓wA, wB, resOf, Option.map_some, Option.map_none, List.map_cons, List.map_nil, List.nil_append, List.append_nil, List.cons_append, Nat.reduceBEq, List.getElem?_cons_zero, List.getElem?_cons_succ, List.getElem?_nil, Option.getD_some, Option.getD_none, cond_false, cond_true, and_true, true_and, Nat.zero_add, Nat.mul_one, Int.reduceBEq, Int.reduceBNe, Int.reduceLT, Int.reduceLE, Int.reduceAdd, Int.reduceSub, Int.reduceMul, decide_true, decide_false, Bool.not_true, Bool.not_false, beq_self_eq_true, bne_self_eq_false, and_self, List.isEmpty_nil, List.isEmpty_cons, Bool.true_or, Bool.false_or, List.set_cons_zero, List.set_cons_succ, List.length_cons, List.length_nil, Option.bind_some, List.all_cons, List.all_nil, Bool.or_true, Bool.true_and, Bool.and_true, Int.reduceToNat]
        exact ⟨h2, _, _, _, _, _, _, _, _, _, _, _, gh2, rfl⟩
      · have d1 : decide ((L.length : Int) < 1) = false := decide_eq_false c1
        by_cases c2 : (14 : Int) < L.length
        · have d2 : decide ((14 : Int) < L.length) = true := decide_eq_true c2
          simp (disch := first | (simp only [Nat.reduceBEq, elem_hit, elem_miss, elem_nil]; done) | ((repeat' (first | assumption | exact Sub.refl _ | refine Sub.push ?_ ?_ | exact HokR.fresh (by assumption) | refine Fresh.push ?_ | refine HokR.push ?_ ?_ ?_ | exact Grown.refl | refine GrownR.push ?_ ?_ ?_ | exact refsOK_ints | exact refsOK_pairs | exact Nat.le_refl _ | (simp only [wM, Nat.reduceAdd, Nat.reduceLT, Nat.reduceLeDiff]; done))); done) | omega | decide) only [callT ev1, callT ev2, o2.len, d1, d2, sLen_nil, cutEx_n, cutEx_r, cutEx_e, wrap_i64, idx?_pos, Int.toNat_natCast, ↓wA, wB, resOf, Option.map_some, Option.map_none, List.map_cons, List.map_nil, List.nil_append, List.append_nil, List.cons_append, Nat.reduceBEq, List.getElem?_cons_zero, List.getElem?_cons_succ, List.getElem?_nil, Option.getD_some, Option.getD_none, cond_false, cond_true, and_true, true_and, Nat.zero_add, Nat.mul_one, Int.reduceBEq, Int.reduceBNe, Int.reduceLT, Int.reduceLE, Int.reduceAdd, Int.reduceSub, Int.reduceMul, decide_true, decide_false, Bool.not_true, Bool.not_false, beq_self_eq_true, bne_self_eq_false, and_self, List.isEmpty_nil, List.isEmpty_cons, Bool.true_or, Bool.false_or, List.set_cons_zero, List.set_cons_succ, List.length_cons, List.length_nil, Option.bind_some, List.all_cons, List.all_nil, Bool.or_true, Bool.true_and, Bool.and_true, Int.reduceToNat]
          exact ⟨h2, _, _, _, _, _, _, _, _, _, _, _, gh2, rfl⟩
        · have d2 : decide ((14 : Int) < L.length) = false := decide_eq_false c2
          have e5 : okc 3 L = false := by
            cases hc : okc 3 L with
            | false => rfl
            | true => exact absurd ⟨by omega, hc⟩ ok
          simp (disch := first | (simp only [Nat.reduceBEq, elem_hit, elem_miss, elem_nil]; done) | ((repeat' (first | assumption | exact Sub.refl _ | refine Sub.push ?_ ?_ | exact HokR.fresh (by assumption) | refine Fresh.push ?_ | refine HokR.push ?_ ?_ ?_ | exact Grown.refl | refine GrownR.push ?_ ?_ ?_ | exact refsOK_ints | exact refsOK_pairs | exact Nat.le_refl _ | (simp only [wM, Nat.reduceAdd, Nat.reduceLT, Nat.reduceLeDiff]; done))); done) | omega | decide) only [callT ev1, callT ev2, o2.len, d1, d2, callT cl, e5, sLen_nil, cutEx_n, cutEx_r, cutEx_e, wrap_i64, idx?_pos, Int.toNat_natCast, ↓wA, wB, resOf, Option.map_some, Option.map_none, List.map_cons, List.map_nil, List.nil_append, List.append_nil, List.cons_append, Nat.reduceBEq, List.getElem?_cons_zero, List.getElem?_cons_succ, List.getElem?_nil, Option.getD_some, Option.getD_none, cond_false, cond_true, and_true, true_and, Nat.zero_add, Nat.mul_one, Int.reduceBEq, Int.reduceBNe, Int.reduceLT, Int.reduceLE, Int.reduceAdd, Int.reduceSub, Int.reduceMul, decide_true, decide_false, Bool.not_true, Bool.not_false, beq_self_eq_true, bne_self_eq_false, and_self, List.isEmpty_nil, List.isEmpty_cons, Bool.true_or, Bool.false_or, List.set_cons_zero, List.set_cons_succ, List.length_cons, List.length_nil, Option.bind_some, List.all_cons, List.all_nil, Bool.or_true, Bool.true_and, Bool.and_true, Int.reduceToNat]
          exact ⟨h2, _, _, _, _, _, _, _, _, _, _, _, gh2, rfl⟩
  · rintro sC ⟨hx, u0, u6, u7, u8, u9, u10, u11, u33, u40, u46, u60, gx, rfl⟩
    have kx := gx.ok hk
    obtain ⟨v3, h4, ev4, g4, t, rfl, q4⟩ := f27 n r hx kx
    have k4 := g4.ok kx
    have w1 := f18 n 1 14 h4 k4
    have w2 := f18 r 1 3 h4 k4
    have lv := f19
    by_cases e1 : 1 ≤ n ∧ n ≤ 14
    · have d1 : decide (1 ≤ n ∧ n ≤ 14) = true := decide_eq_true e1
      by_cases e2 : 1 ≤ r ∧ r ≤ 3
      · have d2 : decide (1 ≤ r ∧ r ≤ 3) = true := decide_eq_true e2
        have ok : smlOK n r := ⟨e1, e2⟩
        obtain ⟨m, rfl⟩ : ∃ m : Nat, n = m := ⟨n.toNat, by omega⟩
        obtain ⟨k, rfl⟩ : ∃ k : Nat, r = k := ⟨r.toNat, by omega⟩
        have kp : Hok (h4.pu []) := Hok.pu k4 rfl
        have O : Own h4.next (h4.pu []).blks .i64 (.sl h4.next 0 0 (some 0) 1) [] := Own.fresh (Nat.le_refl _) rfl rfl rfl (Nat.le_refl _)
        obtain ⟨w, h5, ev5, g5, q5⟩ := f28 m k (by omega) (by omega) m [] (.sl h4.next 0 0 (some 0) 1) (h4.pu []) h4.next (by simp) kp O (fun e => by cases e) (Nat.le_succ _)
        have eO : smlO m k = refA smOk k m [] := by
          rw [smlO, if_pos ok, refA_all (F := lsF) (fun zs c hz => ?_) m [] rfl]
          · rfl
          · have hs : sumO zs = none := by simpa [smOk] using hz
            have := sum_snoc (c := c) hs
            simpa [smOk] using this
        have eE : smlE m k = if (refA smOk k m []).isSome = true then 0 else 5 := by
          rw [← eO, smlE, smlO, if_pos ok, if_pos ok]
        rw [eE] at ev4
        rw [eO] at q4
        have g45 : Grown h4 h5 := GrownR.trans (Grown.pu Grown.refl rfl) g5
        have q4' : HD hx.next t h5.blks (refA smOk k m []) := by
          cases hs : refA smOk k m [] with
          | none => rw [hs] at q4; exact q4
          | some cc => rw [hs] at q4; exact ⟨q4.1.sub (g45.sub k4), q4.2⟩
        have fd := lfound t w (refA smOk k m []) hx.next h4.next h5 (g5.ok kp) q4' q5 (fun c e => by
          rw [← eO, smlO, if_pos ok] at e
          have := head_len e
          omega)
        simp (disch := first | (simp only [Nat.reduceBEq, elem_hit, elem_miss, elem_nil]; done) | ((repeat' (first | assumption | exact Sub.refl _ | refine Sub.push ?_ ?_ | exact HokR.fresh (by assumption) | refine Fresh.push ?_ | refine HokR.push ?_ ?_ ?_ | exact Grown.refl | refine GrownR.push ?_ ?_ ?_ | exact refsOK_ints | exact refsOK_pairs | exact Nat.le_refl _ | (simp only [wM, Nat.reduceAdd, Nat.reduceLT, Nat.reduceLeDiff]; done))); done) | omega | decide) only [callT ev4, callT w1, callT w2, d1, d2, callT ev5, callT fd, callT (lv h5), wrap_i64, idx?_pos, Int.toNat_natCast, ↓wA, wB, resOf, Option.map_some, Option.map_none, List.map_cons, List.map_nil, List.nil_append, List.append_nil, List.cons_append, Nat.reduceBEq, List.getElem?_cons_zero, List.getElem?_cons_succ, List.getElem?_nil, Option.getD_some, Option.getD_none, cond_false, cond_true, and_true, true_and, Nat.zero_add, Nat.mul_one, Int.reduceBEq, Int.reduceBNe, Int.reduceLT, Int.reduceLE, Int.reduceAdd, Int.reduceSub, Int.reduceMul, decide_true, decide_false, Bool.not_true, Bool.not_false, beq_self_eq_true, bne_self_eq_false, and_self, List.isEmpty_nil, List.isEmpty_cons, Bool.true_or, Bool.false_or, List.set_cons_zero, List.set_cons_succ, List.length_cons, List.length_nil, Option.bind_some, List.all_cons, List.all_nil, Bool.or_true, Bool.true_and, Bool.and_true, Int.reduceToNat]
        exact ⟨_, rfl, rfl⟩
      · have d2 : decide (1 ≤ r ∧ r ≤ 3) = false := decide_eq_false e2
        have ok : ¬ smlOK n r := fun h => e2 h.2
        have eE : smlE n r = 1 := by rw [smlE, if_neg ok]
        rw [smlO, if_neg ok] at q4
        cases q4
        rw [eE] at ev4
        simp (disch := first | (simp only [Nat.reduceBEq, elem_hit, elem_miss, elem_nil]; done) | ((repeat' (first | assumption | exact Sub.refl _ | refine Sub.push ?_ ?_ | exact HokR.fresh (by assumption) | refine Fresh.push ?_ | refine HokR.push ?_ ?_ ?_ | exact Grown.refl | refine GrownR.push ?_ ?_ ?_ | exact refsOK_ints | exact refsOK_pairs | exact Nat.le_refl _ | (simp only [wM, Nat.reduceAdd, Nat.reduceLT, Nat.reduceLeDiff]; done))); done) | omega | decide) only [callT ev4, callT w1, callT w2, d1, d2, sLen_nil, callT (lv h4), wrap_i64, idx?_pos, Int.toNat_natCast, ↓wA, wB, resOf, Option.map_some, Option.map_none, List.map_cons, List.map_nil, List.nil_append, List.append_nil, List.cons_append, Nat.reduceBEq, List.getElem?_cons_zero, List.getElem?_cons_succ, List.getElem?_nil, Option.getD_some, Option.getD_none, cond_false, cond_true, and_true, true_and, Nat.zero_add, Nat.mul_one, Int.reduceBEq, Int.reduceBNe, Int.reduceLT, Int.reduceLE, Int.reduceAdd, Int.reduceSub, Int.reduceMul, decide_true, decide_false, Bool.not_true, Bool.not_false, beq_self_eq_true, bne_self_eq_false, and_self, List.isEmpty_nil, List.isEmpty_cons, Bool.true_or, Bool.false_or, List.set_cons_zero, List.set_cons_succ, List.length_cons, List.length_nil, Option.bind_some, List.all_cons, List.all_nil, Bool.or_true, Bool.true_and, Bool.and_true, Int.reduceToNat]
        exact ⟨_, rfl, rfl⟩
    · have d1 : decide (1 ≤ n ∧ n ≤ 14) = false := decide_eq_false e1
      have ok : ¬ smlOK n r := fun h => e1 h.1
      have eE : smlE n r = 1 := by rw [smlE, if_neg ok]
      rw [smlO, if_neg ok] at q4
      cases q4
      rw [eE] at ev4
      simp (disch := first | (simp only [Nat.reduceBEq, elem_hit, elem_miss, elem_nil]; done) | ((repeat' (first | assumption | exact Sub.refl _ | refine Sub.push ?_ ?_ | exact HokR.fresh (by assumption) | refine Fresh.push ?_ | refine HokR.push ?_ ?_ ?_ | exact Grown.refl | refine GrownR.push ?_ ?_ ?_ | exact refsOK_ints | exact refsOK_pairs | exact Nat.le_refl _ | (simp only [wM, Nat.reduceAdd, Nat.reduceLT, Nat.reduceLeDiff]; done))); done) | omega | decide) only [callT ev4, callT w1, d1, sLen_nil, callT (lv h4), wrap_i64, idx?_pos, Int.toNat_natCast, ↓wA, wB, resOf, Option.map_some, Option.map_none, List.map_cons, List.map_nil, List.nil_append, List.append_nil, List.cons_append, Nat.reduceBEq, List.getElem?_cons_zero, List.getElem?_cons_succ, List.getElem?_nil, Option.getD_some, Option.getD_none, cond_false, cond_true, and_true, true_and, Nat.zero_add, Nat.mul_one, Int.reduceBEq, Int.reduceBNe, Int.reduceLT, Int.reduceLE, Int.reduceAdd, Int.reduceSub, Int.reduceMul, decide_true, decide_false, Bool.not_true, Bool.not_false, beq_self_eq_true, bne_self_eq_false, and_self, List.isEmpty_nil, List.isEmpty_cons, Bool.true_or, Bool.false_or, List.set_cons_zero, List.set_cons_succ, List.length_cons, List.length_nil, Option.bind_some, List.all_cons, List.all_nil, Bool.or_true, Bool.true_and, Bool.and_true, Int.reduceToNat]
      exact ⟨_, rfl, rfl⟩
end Go.Proofs.Ytpclkcamfainiaa
