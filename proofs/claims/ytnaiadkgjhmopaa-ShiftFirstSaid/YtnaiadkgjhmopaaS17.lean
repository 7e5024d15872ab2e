/- Law of shift: First Fit. -/
import Derived.Test.YtnaiadkgjhmopaaS12
import Derived.Test.YtnaiadkgjhmopaaS16
set_option linter.unusedSimpArgs false
set_option linter.unusedVariables false
set_option maxHeartbeats 4000000
set_option maxRecDepth 20000
namespace Go.Proofs.Ytnaiadkgjhmopaa
open Go Go.Abs Go.Sh

theorem f10 (a : AV) (x : List (Int × Int)) (h : Hp) (hk : Hok h) (ha : Pairs16 h.blks a x) (hx : ∀ p ∈ x, 0 ≤ p.1 ∧ p.1 ≤ 65535 ∧ 0 ≤ p.2 ∧ p.2 ≤ 65535) (hxl : x.length ≤ maxLen) :
    ∃ h', Evals Try.prog tab false (.func 10) [a] h (.bool true, h') := by
  refine ⟨h, evals_pure c10 rfl hk ?_⟩
  simp only [sf10, initS_cons, initS_nil]
  unfold maxLen at hxl
  have hl := made_len 60 x
  have hb := made_bad (place := 60) (by omega) x
  simp (disch := first | (simp only [Nat.reduceBEq, elem_hit, elem_miss, elem_nil]; done) | ((repeat' (first | assumption | exact Sub.refl _ | refine Sub.push ?_ ?_ | exact HokR.fresh (by assumption) | refine Fresh.push ?_ | refine HokR.push ?_ ?_ ?_ | exact Grown.refl | refine GrownR.push ?_ ?_ ?_ | exact refsOK_ints | exact refsOK_pairs | exact Nat.le_refl _ | (simp only [wM, Nat.reduceAdd, Nat.reduceLT, Nat.reduceLeDiff]; done))); done) | omega | decide) only [wrap_i64, idx?_pos, Int.toNat_natCast, ↓wA, wB, resOf, Option.map_some, Option.map_none, List.map_cons, List.map_nil, List.nil_append, List.append_nil, List.cons_append, Nat.reduceBEq, List.getElem?_cons_zero, List.getElem?_cons_succ, List.getElem?_nil, Option.getD_some, Option.getD_none, cond_false, cond_true, and_true, true_and, Nat.zero_add, Nat.mul_one, Int.reduceBEq, Int.reduceBNe, Int.reduceLT, Int.reduceLE, Int.reduceAdd, Int.reduceSub, Int.reduceMul, decide_true, decide_false, Bool.not_true, Bool.not_false, beq_self_eq_true, bne_self_eq_false, and_self, List.isEmpty_nil, List.isEmpty_cons, Bool.true_or, Bool.false_or, List.set_cons_zero, List.set_cons_succ, List.length_cons, List.length_nil, Option.bind_some, List.all_cons, List.all_nil, Bool.or_true, Bool.true_and, Bool.and_true, Int.reduceToNat]
  refine callE (f33 a x 60 h.en hk ha hx (by omega) (by omega)) ?_
  rintro v h1 ⟨g1, o1⟩
  have k1 := g1.ok hk
  generalize made 60 x = l at *
  have hok : ∀ s ∈ l, s.1 < s.2 := fun s hs => (bad_ok hb s hs).2.1
  have l1 : (fit l).length = l.length := onl_len _ _ _
  have hfb : ∀ z ∈ fit l, -1000000 ≤ z ∧ z ≤ 1000000 := fun z hz => by
    obtain ⟨j, hj, rfl⟩ := List.getElem_of_mem hz
    have h1 := fc_nn (l := l) (i := j) (by omega)
    have h2 : fc l j = (fit l)[j] := by simp [fc, List.getD_eq_getElem?_getD, List.getElem?_eq_getElem hj]
    omega
  have s1 := fit_seen l
  have s2 := fit_8d hok hl
  have s3 := depth_seen (fit_proper l)
  have hd := deep_nn l
  simp (disch := first | (simp only [Nat.reduceBEq, elem_hit, elem_miss, elem_nil]; done) | ((repeat' (first | assumption | exact Sub.refl _ | refine Sub.push ?_ ?_ | exact HokR.fresh (by assumption) | refine Fresh.push ?_ | refine HokR.push ?_ ?_ ?_ | exact Grown.refl | refine GrownR.push ?_ ?_ ?_ | exact refsOK_ints | exact refsOK_pairs | exact Nat.le_refl _ | (simp only [wM, Nat.reduceAdd, Nat.reduceLT, Nat.reduceLeDiff]; done))); done) | omega | decide) only [wrap_i64, idx?_pos, Int.toNat_natCast, ↓wA, wB, resOf, Option.map_some, Option.map_none, List.map_cons, List.map_nil, List.nil_append, List.append_nil, List.cons_append, Nat.reduceBEq, List.getElem?_cons_zero, List.getElem?_cons_succ, List.getElem?_nil, Option.getD_some, Option.getD_none, cond_false, cond_true, and_true, true_and, Nat.zero_add, Nat.mul_one, Int.reduceBEq, Int.reduceBNe, Int.reduceLT, Int.reduceLE, Int.reduceAdd, Int.reduceSub, Int.reduceMul, decide_true, decide_false, Bool.not_true, Bool.not_false, beq_self_eq_true, bne_self_eq_false, and_self, List.isEmpty_nil, List.isEmpty_cons, Bool.true_or, Bool.false_or, List.set_cons_zero, List.set_cons_succ, List.length_cons, List.length_nil, Option.bind_some, List.all_cons, List.all_nil, Bool.or_true, Bool.true_and, Bool.and_true, Int.reduceToNat]
  refine callE (f25 v l h1 k1 o1.pairs (by omega)) ?_
  rintro r1 h2 ⟨g2, R1⟩
  obtain ⟨t, rfl, q1⟩ := R1.ok hb
  have k2 := g2.ok k1
  have o2 := o1.sub (g2.sub k1)
  have em := f34 t (fit l) h2 k2 q1.ints (by omega) hfb
  rw [l1, s1] at em
  generalize topU (fit l) l.length = T at *
  have hT : T ≤ 10000 ∧ 0 ≤ T := by omega
  simp (disch := first | (simp only [Nat.reduceBEq, elem_hit, elem_miss, elem_nil]; done) | ((repeat' (first | assumption | exact Sub.refl _ | refine Sub.push ?_ ?_ | exact HokR.fresh (by assumption) | refine Fresh.push ?_ | refine HokR.push ?_ ?_ ?_ | exact Grown.refl | refine GrownR.push ?_ ?_ ?_ | exact refsOK_ints | exact refsOK_pairs | exact Nat.le_refl _ | (simp only [wM, Nat.reduceAdd, Nat.reduceLT, Nat.reduceLeDiff]; done))); done) | omega | decide) only [callT (f16 v l h2 k2 o2.pairs (by omega)), hb, if_true, callT em, q1.len, l1, o2.pairs.len, decide_eq_true s2, decide_eq_true (show (deep l).2 ≤ T by omega), callT (f19 _), wrap_i64, idx?_pos, Int.toNat_natCast, ↓wA, wB, resOf, Option.map_some, Option.map_none, List.map_cons, List.map_nil, List.nil_append, List.append_nil, List.cons_append, Nat.reduceBEq, List.getElem?_cons_zero, List.getElem?_cons_succ, List.getElem?_nil, Option.getD_some, Option.getD_none, cond_false, cond_true, and_true, true_and, Nat.zero_add, Nat.mul_one, Int.reduceBEq, Int.reduceBNe, Int.reduceLT, Int.reduceLE, Int.reduceAdd, Int.reduceSub, Int.reduceMul, decide_true, decide_false, Bool.not_true, Bool.not_false, beq_self_eq_true, bne_self_eq_false, and_self, List.isEmpty_nil, List.isEmpty_cons, Bool.true_or, Bool.false_or, List.set_cons_zero, List.set_cons_succ, List.length_cons, List.length_nil, Option.bind_some, List.all_cons, List.all_nil, Bool.or_true, Bool.true_and, Bool.and_true, Int.reduceToNat]
  exact ⟨_, rfl, rfl, GrownR.trans g1.of_en g2⟩
end Go.Proofs.Ytnaiadkgjhmopaa
