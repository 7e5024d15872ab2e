/- Law of shift: beginnings. -/
import Derived.Test.YtnaiadkgjhmopaaS12
set_option linter.unusedSimpArgs false
set_option linter.unusedVariables false
set_option maxHeartbeats 4000000
set_option maxRecDepth 20000
namespace Go.Proofs.Ytnaiadkgjhmopaa
open Go Go.Abs Go.Sh
theorem f11 (a : AV) (x : List (Int × Int)) (many : Int) (h : Hp) (hk : Hok h) (ha : Pairs16 h.blks a x) (hx : ∀ p ∈ x, 0 ≤ p.1 ∧ p.1 ≤ 65535 ∧ 0 ≤ p.2 ∧ p.2 ≤ 65535) (hxl : x.length ≤ maxLen) (hby : 0 ≤ many ∧ many ≤ 255) :
    ∃ h', Evals Try.prog tab false (.func 11) [a, .int .u8 many] h (.bool true, h') := by
  refine ⟨h, evals_pure c11 rfl hk ?_⟩
  simp only [sf11, initS_cons, initS_nil]
  unfold maxLen at hxl
  have hl := made_len 60 x
  have hb := made_bad (place := 60) (by omega) x
  simp (disch := first | (simp only [Nat.reduceBEq, elem_hit, elem_miss, elem_nil]; done) | ((repeat' (first | assumption | exact Sub.refl _ | refine Sub.push ?_ ?_ | exact HokR.fresh (by assumption) | refine Fresh.push ?_ | refine HokR.push ?_ ?_ ?_ | exact Grown.refl | refine GrownR.push ?_ ?_ ?_ | exact refsOK_ints | exact refsOK_pairs | exact Nat.le_refl _ | (simp only [wM, Nat.reduceAdd, Nat.reduceLT, Nat.reduceLeDiff]; done))); done) | omega | decide) only [wrap_i64, idx?_pos, Int.toNat_natCast, ↓wA, wB, resOf, Option.map_some, Option.map_none, List.map_cons, List.map_nil, List.nil_append, List.append_nil, List.cons_append, Nat.reduceBEq, List.getElem?_cons_zero, List.getElem?_cons_succ, List.getElem?_nil, Option.getD_some, Option.getD_none, cond_false, cond_true, and_true, true_and, Nat.zero_add, Nat.mul_one, Int.reduceBEq, Int.reduceBNe, Int.reduceLT, Int.reduceLE, Int.reduceAdd, Int.reduceSub, Int.reduceMul, decide_true, decide_false, Bool.not_true, Bool.not_false, beq_self_eq_true, bne_self_eq_false, and_self, List.isEmpty_nil, List.isEmpty_cons, Bool.true_or, Bool.false_or, List.set_cons_zero, List.set_cons_succ, List.length_cons, List.length_nil, Option.bind_some, List.all_cons, List.all_nil, Bool.or_true, Bool.true_and, Bool.and_true, Int.reduceToNat]
  refine callE (f33 a x 60 h.en hk ha hx (by omega) (by omega)) ?_
  rintro v h1 ⟨g1, o1⟩
  have k1 := g1.ok hk
  generalize made 60 x = l at *
  obtain ⟨n, hn, hnl⟩ : ∃ n : Nat, many % ((l.length : Int) + 1) = n ∧ n ≤ l.length := by
    have h1 := Int.emod_nonneg many (show (l.length : Int) + 1 ≠ 0 by omega)
    have h2 := Int.emod_lt_of_pos many (show 0 < (l.length : Int) + 1 by omega)
    exact ⟨(many % ((l.length : Int) + 1)).toNat, by omega, by omega⟩
  have hb2 := bad_take hb n
  obtain ⟨a', ea, ia⟩ := o1.sl3 hnl
  have hln : (l.take n).length ≤ 800 := by simp; omega
  simp (disch := first | (simp only [Nat.reduceBEq, elem_hit, elem_miss, elem_nil]; done) | ((repeat' (first | assumption | exact Sub.refl _ | refine Sub.push ?_ ?_ | exact HokR.fresh (by assumption) | refine Fresh.push ?_ | refine HokR.push ?_ ?_ ?_ | exact Grown.refl | refine GrownR.push ?_ ?_ ?_ | exact refsOK_ints | exact refsOK_pairs | exact Nat.le_refl _ | (simp only [wM, Nat.reduceAdd, Nat.reduceLT, Nat.reduceLeDiff]; done))); done) | omega | decide) only [o1.pairs.len, sBin_rem, hn, wrap_i64, idx?_pos, Int.toNat_natCast, ↓wA, wB, resOf, Option.map_some, Option.map_none, List.map_cons, List.map_nil, List.nil_append, List.append_nil, List.cons_append, Nat.reduceBEq, List.getElem?_cons_zero, List.getElem?_cons_succ, List.getElem?_nil, Option.getD_some, Option.getD_none, cond_false, cond_true, and_true, true_and, Nat.zero_add, Nat.mul_one, Int.reduceBEq, Int.reduceBNe, Int.reduceLT, Int.reduceLE, Int.reduceAdd, Int.reduceSub, Int.reduceMul, decide_true, decide_false, Bool.not_true, Bool.not_false, beq_self_eq_true, bne_self_eq_false, and_self, List.isEmpty_nil, List.isEmpty_cons, Bool.true_or, Bool.false_or, List.set_cons_zero, List.set_cons_succ, List.length_cons, List.length_nil, Option.bind_some, List.all_cons, List.all_nil, Bool.or_true, Bool.true_and, Bool.and_true, Int.reduceToNat]
  refine callE (f25 v l h1 k1 o1.pairs (by omega)) ?_
  rintro r1 h2 ⟨g2, R1⟩
  obtain ⟨v1, rfl, q1⟩ := R1.ok hb
  obtain ⟨b1, eb1, ib1⟩ := q1.sl3 (m := n) (by rw [show (fit l).length = l.length from onl_len _ _ _]; exact hnl)
  have k2 := g2.ok k1
  have G12 := g2
  have o2 := o1.sub (g2.sub k1)
  simp (disch := first | (simp only [Nat.reduceBEq, elem_hit, elem_miss, elem_nil]; done) | ((repeat' (first | assumption | exact Sub.refl _ | refine Sub.push ?_ ?_ | exact HokR.fresh (by assumption) | refine Fresh.push ?_ | refine HokR.push ?_ ?_ ?_ | exact Grown.refl | refine GrownR.push ?_ ?_ ?_ | exact refsOK_ints | exact refsOK_pairs | exact Nat.le_refl _ | (simp only [wM, Nat.reduceAdd, Nat.reduceLT, Nat.reduceLeDiff]; done))); done) | omega | decide) only [wrap_i64, idx?_pos, Int.toNat_natCast, ↓wA, wB, resOf, Option.map_some, Option.map_none, List.map_cons, List.map_nil, List.nil_append, List.append_nil, List.cons_append, Nat.reduceBEq, List.getElem?_cons_zero, List.getElem?_cons_succ, List.getElem?_nil, Option.getD_some, Option.getD_none, cond_false, cond_true, and_true, true_and, Nat.zero_add, Nat.mul_one, Int.reduceBEq, Int.reduceBNe, Int.reduceLT, Int.reduceLE, Int.reduceAdd, Int.reduceSub, Int.reduceMul, decide_true, decide_false, Bool.not_true, Bool.not_false, beq_self_eq_true, bne_self_eq_false, and_self, List.isEmpty_nil, List.isEmpty_cons, Bool.true_or, Bool.false_or, List.set_cons_zero, List.set_cons_succ, List.length_cons, List.length_nil, Option.bind_some, List.all_cons, List.all_nil, Bool.or_true, Bool.true_and, Bool.and_true, Int.reduceToNat]
  refine callE (f30 v l h2 k2 o2.pairs (by omega)) ?_
  rintro r2 h3 ⟨g3, R2⟩
  obtain ⟨v2, rfl, q2⟩ := R2.ok hb
  obtain ⟨b2, eb2, ib2⟩ := q2.sl3 (m := n) (by rw [show (trotter l).length = l.length from onl_len _ _ _]; exact hnl)
  have k3 := g3.ok k2
  have G13 := GrownR.trans G12 g3
  have o3 := o2.sub (g3.sub k2)
  simp (disch := first | (simp only [Nat.reduceBEq, elem_hit, elem_miss, elem_nil]; done) | ((repeat' (first | assumption | exact Sub.refl _ | refine Sub.push ?_ ?_ | exact HokR.fresh (by assumption) | refine Fresh.push ?_ | refine HokR.push ?_ ?_ ?_ | exact Grown.refl | refine GrownR.push ?_ ?_ ?_ | exact refsOK_ints | exact refsOK_pairs | exact Nat.le_refl _ | (simp only [wM, Nat.reduceAdd, Nat.reduceLT, Nat.reduceLeDiff]; done))); done) | omega | decide) only [wrap_i64, idx?_pos, Int.toNat_natCast, ↓wA, wB, resOf, Option.map_some, Option.map_none, List.map_cons, List.map_nil, List.nil_append, List.append_nil, List.cons_append, Nat.reduceBEq, List.getElem?_cons_zero, List.getElem?_cons_succ, List.getElem?_nil, Option.getD_some, Option.getD_none, cond_false, cond_true, and_true, true_and, Nat.zero_add, Nat.mul_one, Int.reduceBEq, Int.reduceBNe, Int.reduceLT, Int.reduceLE, Int.reduceAdd, Int.reduceSub, Int.reduceMul, decide_true, decide_false, Bool.not_true, Bool.not_false, beq_self_eq_true, bne_self_eq_false, and_self, List.isEmpty_nil, List.isEmpty_cons, Bool.true_or, Bool.false_or, List.set_cons_zero, List.set_cons_succ, List.length_cons, List.length_nil, Option.bind_some, List.all_cons, List.all_nil, Bool.or_true, Bool.true_and, Bool.and_true, Int.reduceToNat]
  refine callE (f29 v l h3 k3 o3.pairs (by omega)) ?_
  rintro r3 h4 ⟨g4, R3⟩
  obtain ⟨v3, rfl, q3⟩ := R3.ok hb
  obtain ⟨b3, eb3, ib3⟩ := q3.sl3 (m := n) (by rw [show (leveled l).length = l.length from onl_len _ _ _]; exact hnl)
  have k4 := g4.ok k3
  have G14 := GrownR.trans G13 g4
  have o4 := o3.sub (g4.sub k3)
  simp (disch := first | (simp only [Nat.reduceBEq, elem_hit, elem_miss, elem_nil]; done) | ((repeat' (first | assumption | exact Sub.refl _ | refine Sub.push ?_ ?_ | exact HokR.fresh (by assumption) | refine Fresh.push ?_ | refine HokR.push ?_ ?_ ?_ | exact Grown.refl | refine GrownR.push ?_ ?_ ?_ | exact refsOK_ints | exact refsOK_pairs | exact Nat.le_refl _ | (simp only [wM, Nat.reduceAdd, Nat.reduceLT, Nat.reduceLeDiff]; done))); done) | omega | decide) only [bndV_none, ea, wrap_i64, idx?_pos, Int.toNat_natCast, ↓wA, wB, resOf, Option.map_some, Option.map_none, List.map_cons, List.map_nil, List.nil_append, List.append_nil, List.cons_append, Nat.reduceBEq, List.getElem?_cons_zero, List.getElem?_cons_succ, List.getElem?_nil, Option.getD_some, Option.getD_none, cond_false, cond_true, and_true, true_and, Nat.zero_add, Nat.mul_one, Int.reduceBEq, Int.reduceBNe, Int.reduceLT, Int.reduceLE, Int.reduceAdd, Int.reduceSub, Int.reduceMul, decide_true, decide_false, Bool.not_true, Bool.not_false, beq_self_eq_true, bne_self_eq_false, and_self, List.isEmpty_nil, List.isEmpty_cons, Bool.true_or, Bool.false_or, List.set_cons_zero, List.set_cons_succ, List.length_cons, List.length_nil, Option.bind_some, List.all_cons, List.all_nil, Bool.or_true, Bool.true_and, Bool.and_true, Int.reduceToNat]
  refine callE (f25 a' (l.take n) h4 k4 (ia.sub (G14.sub k1)) hln) ?_
  rintro r4 h5 ⟨g5, R4⟩
  obtain ⟨v4, rfl, q4⟩ := R4.ok hb2
  have k5 := g5.ok k4
  have G15 := GrownR.trans G14 g5
  have o5 := o4.sub (g5.sub k4)
  simp (disch := first | (simp only [Nat.reduceBEq, elem_hit, elem_miss, elem_nil]; done) | ((repeat' (first | assumption | exact Sub.refl _ | refine Sub.push ?_ ?_ | exact HokR.fresh (by assumption) | refine Fresh.push ?_ | refine HokR.push ?_ ?_ ?_ | exact Grown.refl | refine GrownR.push ?_ ?_ ?_ | exact refsOK_ints | exact refsOK_pairs | exact Nat.le_refl _ | (simp only [wM, Nat.reduceAdd, Nat.reduceLT, Nat.reduceLeDiff]; done))); done) | omega | decide) only [bndV_none, ea, wrap_i64, idx?_pos, Int.toNat_natCast, ↓wA, wB, resOf, Option.map_some, Option.map_none, List.map_cons, List.map_nil, List.nil_append, List.append_nil, List.cons_append, Nat.reduceBEq, List.getElem?_cons_zero, List.getElem?_cons_succ, List.getElem?_nil, Option.getD_some, Option.getD_none, cond_false, cond_true, and_true, true_and, Nat.zero_add, Nat.mul_one, Int.reduceBEq, Int.reduceBNe, Int.reduceLT, Int.reduceLE, Int.reduceAdd, Int.reduceSub, Int.reduceMul, decide_true, decide_false, Bool.not_true, Bool.not_false, beq_self_eq_true, bne_self_eq_false, and_self, List.isEmpty_nil, List.isEmpty_cons, Bool.true_or, Bool.false_or, List.set_cons_zero, List.set_cons_succ, List.length_cons, List.length_nil, Option.bind_some, List.all_cons, List.all_nil, Bool.or_true, Bool.true_and, Bool.and_true, Int.reduceToNat]
  refine callE (f30 a' (l.take n) h5 k5 (ia.sub (G15.sub k1)) hln) ?_
  rintro r5 h6 ⟨g6, R5⟩
  obtain ⟨v5, rfl, q5⟩ := R5.ok hb2
  have k6 := g6.ok k5
  have G16 := GrownR.trans G15 g6
  have o6 := o5.sub (g6.sub k5)
  simp (disch := first | (simp only [Nat.reduceBEq, elem_hit, elem_miss, elem_nil]; done) | ((repeat' (first | assumption | exact Sub.refl _ | refine Sub.push ?_ ?_ | exact HokR.fresh (by assumption) | refine Fresh.push ?_ | refine HokR.push ?_ ?_ ?_ | exact Grown.refl | refine GrownR.push ?_ ?_ ?_ | exact refsOK_ints | exact refsOK_pairs | exact Nat.le_refl _ | (simp only [wM, Nat.reduceAdd, Nat.reduceLT, Nat.reduceLeDiff]; done))); done) | omega | decide) only [bndV_none, ea, wrap_i64, idx?_pos, Int.toNat_natCast, ↓wA, wB, resOf, Option.map_some, Option.map_none, List.map_cons, List.map_nil, List.nil_append, List.append_nil, List.cons_append, Nat.reduceBEq, List.getElem?_cons_zero, List.getElem?_cons_succ, List.getElem?_nil, Option.getD_some, Option.getD_none, cond_false, cond_true, and_true, true_and, Nat.zero_add, Nat.mul_one, Int.reduceBEq, Int.reduceBNe, Int.reduceLT, Int.reduceLE, Int.reduceAdd, Int.reduceSub, Int.reduceMul, decide_true, decide_false, Bool.not_true, Bool.not_false, beq_self_eq_true, bne_self_eq_false, and_self, List.isEmpty_nil, List.isEmpty_cons, Bool.true_or, Bool.false_or, List.set_cons_zero, List.set_cons_succ, List.length_cons, List.length_nil, Option.bind_some, List.all_cons, List.all_nil, Bool.or_true, Bool.true_and, Bool.and_true, Int.reduceToNat]
  refine callE (f29 a' (l.take n) h6 k6 (ia.sub (G16.sub k1)) hln) ?_
  rintro r6 h7 ⟨g7, R6⟩
  obtain ⟨v6, rfl, q6⟩ := R6.ok hb2
  have k7 := g7.ok k6
  have o7 := o6.sub (g7.sub k6)
  have G6 := GrownR.trans g6 g7
  have G5 := GrownR.trans g5 G6
  have G4 := GrownR.trans g4 G5
  have G3 := GrownR.trans g3 G4
  have q1' := q1.sub (G3.sub k2)
  have q2' := q2.sub (G4.sub k3)
  have q3' := q3.sub (G5.sub k4)
  have q4' := q4.sub (G6.sub k5)
  have q5' := q5.sub (g7.sub k6)
  have l1 : (fit l).length = l.length := onl_len _ _ _
  have l2 : (trotter l).length = l.length := onl_len _ _ _
  have l3 : (leveled l).length = l.length := onl_len _ _ _
  have l4 : (fit (l.take n)).length = (l.take n).length := onl_len _ _ _
  have l5 : (trotter (l.take n)).length = (l.take n).length := onl_len _ _ _
  have l6 : (leveled (l.take n)).length = (l.take n).length := onl_len _ _ _
  have m1 : ((fit l).take n).length < 2 ^ 62 := by simp; omega
  have m2 : ((trotter l).take n).length < 2 ^ 62 := by simp; omega
  have m3 : ((leveled l).take n).length < 2 ^ 62 := by simp; omega
  simp (disch := first | (simp only [Nat.reduceBEq, elem_hit, elem_miss, elem_nil]; done) | ((repeat' (first | assumption | exact Sub.refl _ | refine Sub.push ?_ ?_ | exact HokR.fresh (by assumption) | refine Fresh.push ?_ | refine HokR.push ?_ ?_ ?_ | exact Grown.refl | refine GrownR.push ?_ ?_ ?_ | exact refsOK_ints | exact refsOK_pairs | exact Nat.le_refl _ | (simp only [wM, Nat.reduceAdd, Nat.reduceLT, Nat.reduceLeDiff]; done))); done) | omega | decide) only [q1'.len, q2'.len, q3'.len, o7.pairs.len, l1, l2, l3, bndV_none, eb1, eb2, eb3,
    callT (f22 b1 v4 _ _ h7 k7 (ib1.sub (G3.sub k2)) q4'.ints m1 (by omega)), decide_eq_true (fit_take l hnl).symm,
    callT (f22 b2 v5 _ _ h7 k7 (ib2.sub (G4.sub k3)) q5'.ints m2 (by omega)), decide_eq_true (trotter_take l hnl).symm,
    callT (f22 b3 v6 _ _ h7 k7 (ib3.sub (G5.sub k4)) q6.ints m3 (by omega)), decide_eq_true (leveled_take l hnl).symm, callT (f19 _), wrap_i64, idx?_pos, Int.toNat_natCast, ↓wA, wB, resOf, Option.map_some, Option.map_none, List.map_cons, List.map_nil, List.nil_append, List.append_nil, List.cons_append, Nat.reduceBEq, List.getElem?_cons_zero, List.getElem?_cons_succ, List.getElem?_nil, Option.getD_some, Option.getD_none, cond_false, cond_true, and_true, true_and, Nat.zero_add, Nat.mul_one, Int.reduceBEq, Int.reduceBNe, Int.reduceLT, Int.reduceLE, Int.reduceAdd, Int.reduceSub, Int.reduceMul, decide_true, decide_false, Bool.not_true, Bool.not_false, beq_self_eq_true, bne_self_eq_false, and_self, List.isEmpty_nil, List.isEmpty_cons, Bool.true_or, Bool.false_or, List.set_cons_zero, List.set_cons_succ, List.length_cons, List.length_nil, Option.bind_some, List.all_cons, List.all_nil, Bool.or_true, Bool.true_and, Bool.and_true, Int.reduceToNat]
  exact ⟨_, rfl, rfl, GrownR.trans g1.of_en (GrownR.trans g2 G3)⟩

end Go.Proofs.Ytnaiadkgjhmopaa
