/- The reference's colourings of pairs, and the law about Avoid. -/
import Derived.Test.YtpclkcamfainiaaP19
set_option linter.unusedSimpArgs false
set_option linter.unusedVariables false
set_option maxHeartbeats 4000000
set_option maxRecDepth 20000
namespace Go.Proofs.Ytpclkcamfainiaa
open Go Go.Abs Go.Pt

theorem f46 (n k l : Nat) (a : AV) (zs : List Int) (h : Hp) (hk : Hok h) (ha : Ints h.blks .i64 a zs) (hn : n ≤ 8) (hz0 : 0 < zs.length) (hz : zs.length ≤ tri n) (hkk : 2 ≤ k ∧ k ≤ 4) (hll : 2 ≤ l ∧ l ≤ 4) :
    Evals Try.prog tab false (.func 46) [.int .i64 n, a, .int .i64 k, .int .i64 l] h (.bool (!(clF n k l zs)), h) := by
  refine evals_pure c46 rfl hk ?_
  simp only [sf46, initS_cons, initS_nil]
  have tl := tri_lim hn
  have m1 : (zs.length : Int) - 1 = ((zs.length - 1 : Nat) : Int) := by omega
  have hi : zs.length - 1 < zs.length := by omega
  have pk := prAt_ok (i := zs.length - 1) hn (by omega)
  have pk' := pk.2.2
  obtain ⟨c, hc⟩ : ∃ c, c = zs.getD (zs.length - 1) 0 := ⟨_, rfl⟩
  obtain ⟨m, hm⟩ : ∃ m, m = (if (c == 1) = true then l else k) := ⟨_, rfl⟩
  have hm2 : 2 ≤ m ∧ m ≤ 4 := by rw [hm]; by_cases e : (c == 1) = true <;> simp [e] <;> omega
  have fin : wn (kn n zs c) (m - 2) ((List.range n).filter (cq n zs c (prAt n (zs.length - 1)).1 (prAt n (zs.length - 1)).2)) = !(clF n k l zs) := by
    rw [closed_eq hn pk.1 pk.2.1 (by omega) hm2.1, clF, ← hc, ← hm]
    cases gr (joins n zs c) m (prAt n (zs.length - 1)).1 [(prAt n (zs.length - 1)).1, (prAt n (zs.length - 1)).2] 0 <;> rfl
  rw [← fin]
  rw [wseq, wseq, wseq, wseq, wseq]
  refine wcut (fun ss => ∃ (u8 u11 u14 u15 u19 u26 u39 u44 u70 : AV), (Grown h h.en) ∧ ss = { fr := [(0, .int .i64 n), (1, a), (2, .int .i64 k), (3, .int .i64 l), (8, u8), (9, .int .i64 ((prAt n (zs.length - 1)).1 : Nat)), (10, .int .i64 ((prAt n (zs.length - 1)).2 : Nat)), (11, u11), (12, .int .i64 c), (13, .int .i64 m), (14, u14), (15, u15), (19, u19), (26, u26), (39, u39), (44, u44), (70, u70)], hp := h.en }) ?_ ?_
  · have p0 := prAt_0 n hn (by omega)
    simp (disch := first | (simp only [Nat.reduceBEq, elem_hit, elem_miss, elem_nil]; done) | ((repeat' (first | assumption | exact Sub.refl _ | refine Sub.push ?_ ?_ | exact HokR.fresh (by assumption) | refine Fresh.push ?_ | refine HokR.push ?_ ?_ ?_ | exact Grown.refl | refine GrownR.push ?_ ?_ ?_ | exact refsOK_ints | exact refsOK_pairs | exact Nat.le_refl _ | (simp only [wM, Nat.reduceAdd, Nat.reduceLT, Nat.reduceLeDiff]; done))); done) | omega | decide) only [wrap_i64, idx?_pos, Int.toNat_natCast, ↓wA, wB, resOf, Option.map_some, Option.map_none, List.map_cons, List.map_nil, List.nil_append, List.append_nil, List.cons_append, Nat.reduceBEq, List.getElem?_cons_zero, List.getElem?_cons_succ, List.getElem?_nil, Option.getD_some, Option.getD_none, cond_false, cond_true, and_true, true_and, Nat.zero_add, Nat.mul_one, Int.reduceBEq, Int.reduceBNe, Int.reduceLT, Int.reduceLE, Int.reduceAdd, Int.reduceSub, Int.reduceMul, decide_true, decide_false, Bool.not_true, Bool.not_false, beq_self_eq_true, bne_self_eq_false, and_self, List.isEmpty_nil, List.isEmpty_cons, Bool.true_or, Bool.false_or, List.set_cons_zero, List.set_cons_succ, List.length_cons, List.length_nil, Option.bind_some, List.all_cons, List.all_nil, Bool.or_true, Bool.true_and, Bool.and_true, Int.reduceToNat]
    refine wloop (fun mm ss => ∃ (i : Nat) (A : Nat) (B : Nat) (u8 u12 u13 u14 u15 u19 u26 u39 u44 u70 : AV), (mm = zs.length - i) ∧ (1 ≤ i ∧ i ≤ zs.length ∧ prAt n (i - 1) = (A, B)) ∧ ss = { fr := [(0, .int .i64 n), (1, a), (2, .int .i64 k), (3, .int .i64 l), (8, u8), (9, .int .i64 A), (10, .int .i64 B), (11, .int .i64 i), (12, u12), (13, u13), (14, u14), (15, u15), (19, u19), (26, u26), (39, u39), (44, u44), (70, u70)], hp := h.en }) (zs.length - 1) ?_ ?_
    ·
      refine ⟨1, 0, 1, _, _, _, _, _, _, _, _, _, _, by omega, ⟨by omega, by omega, p0⟩, rfl⟩
    rintro nA sA ⟨i, A, B, u8, u12, u13, u14, u15, u19, u26, u39, u44, u70, hnA, ⟨hi1, hi2, hp⟩, rfl⟩
    have pb := prAt_ok (i := i - 1) hn (by omega)
    rw [hp] at pb
    simp only at pb
    simp (disch := first | (simp only [Nat.reduceBEq, elem_hit, elem_miss, elem_nil]; done) | ((repeat' (first | assumption | exact Sub.refl _ | refine Sub.push ?_ ?_ | exact HokR.fresh (by assumption) | refine Fresh.push ?_ | refine HokR.push ?_ ?_ ?_ | exact Grown.refl | refine GrownR.push ?_ ?_ ?_ | exact refsOK_ints | exact refsOK_pairs | exact Nat.le_refl _ | (simp only [wM, Nat.reduceAdd, Nat.reduceLT, Nat.reduceLeDiff]; done))); done) | omega | decide) only [ha.len, wrap_i64, idx?_pos, Int.toNat_natCast, ↓wA, wB, resOf, Option.map_some, Option.map_none, List.map_cons, List.map_nil, List.nil_append, List.append_nil, List.cons_append, Nat.reduceBEq, List.getElem?_cons_zero, List.getElem?_cons_succ, List.getElem?_nil, Option.getD_some, Option.getD_none, cond_false, cond_true, and_true, true_and, Nat.zero_add, Nat.mul_one, Int.reduceBEq, Int.reduceBNe, Int.reduceLT, Int.reduceLE, Int.reduceAdd, Int.reduceSub, Int.reduceMul, decide_true, decide_false, Bool.not_true, Bool.not_false, beq_self_eq_true, bne_self_eq_false, and_self, List.isEmpty_nil, List.isEmpty_cons, Bool.true_or, Bool.false_or, List.set_cons_zero, List.set_cons_succ, List.length_cons, List.length_nil, Option.bind_some, List.all_cons, List.all_nil, Bool.or_true, Bool.true_and, Bool.and_true, Int.reduceToNat]
    refine ifThen_intro (fun e => ?_) (fun e => ?_) <;> have eq := e <;> try simp [-List.getD_eq_getElem?_getD] at eq
    · have st := prAt_step (i := i - 1) hn (by omega)
      rw [hp, show i - 1 + 1 = i by omega, stp] at st
      simp only at st
      by_cases eB : B + 1 = n
      · rw [if_pos eB] at st
        have e3 : ((B : Int) + 1 == (n : Int)) = true := by simp; omega
        simp (disch := first | (simp only [Nat.reduceBEq, elem_hit, elem_miss, elem_nil]; done) | ((repeat' (first | assumption | exact Sub.refl _ | refine Sub.push ?_ ?_ | exact HokR.fresh (by assumption) | refine Fresh.push ?_ | refine HokR.push ?_ ?_ ?_ | exact Grown.refl | refine GrownR.push ?_ ?_ ?_ | exact refsOK_ints | exact refsOK_pairs | exact Nat.le_refl _ | (simp only [wM, Nat.reduceAdd, Nat.reduceLT, Nat.reduceLeDiff]; done))); done) | omega | decide) only [e, e3, wrap_i64, idx?_pos, Int.toNat_natCast, ↓wA, wB, resOf, Option.map_some, Option.map_none, List.map_cons, List.map_nil, List.nil_append, List.append_nil, List.cons_append, Nat.reduceBEq, List.getElem?_cons_zero, List.getElem?_cons_succ, List.getElem?_nil, Option.getD_some, Option.getD_none, cond_false, cond_true, and_true, true_and, Nat.zero_add, Nat.mul_one, Int.reduceBEq, Int.reduceBNe, Int.reduceLT, Int.reduceLE, Int.reduceAdd, Int.reduceSub, Int.reduceMul, decide_true, decide_false, Bool.not_true, Bool.not_false, beq_self_eq_true, bne_self_eq_false, and_self, List.isEmpty_nil, List.isEmpty_cons, Bool.true_or, Bool.false_or, List.set_cons_zero, List.set_cons_succ, List.length_cons, List.length_nil, Option.bind_some, List.all_cons, List.all_nil, Bool.or_true, Bool.true_and, Bool.and_true, Int.reduceToNat]
        refine ⟨_, ?_, i + 1, A + 1, A + 1 + 1, _, _, _, _, _, _, _, _, _, _, rfl, ?_, rfl⟩
        · omega
        exact ⟨by omega, by omega, by rw [Nat.add_sub_cancel]; exact st⟩
      · rw [if_neg eB] at st
        have e3 : ((B : Int) + 1 == (n : Int)) = false := by simp; omega
        simp (disch := first | (simp only [Nat.reduceBEq, elem_hit, elem_miss, elem_nil]; done) | ((repeat' (first | assumption | exact Sub.refl _ | refine Sub.push ?_ ?_ | exact HokR.fresh (by assumption) | refine Fresh.push ?_ | refine HokR.push ?_ ?_ ?_ | exact Grown.refl | refine GrownR.push ?_ ?_ ?_ | exact refsOK_ints | exact refsOK_pairs | exact Nat.le_refl _ | (simp only [wM, Nat.reduceAdd, Nat.reduceLT, Nat.reduceLeDiff]; done))); done) | omega | decide) only [e, e3, wrap_i64, idx?_pos, Int.toNat_natCast, ↓wA, wB, resOf, Option.map_some, Option.map_none, List.map_cons, List.map_nil, List.nil_append, List.append_nil, List.cons_append, Nat.reduceBEq, List.getElem?_cons_zero, List.getElem?_cons_succ, List.getElem?_nil, Option.getD_some, Option.getD_none, cond_false, cond_true, and_true, true_and, Nat.zero_add, Nat.mul_one, Int.reduceBEq, Int.reduceBNe, Int.reduceLT, Int.reduceLE, Int.reduceAdd, Int.reduceSub, Int.reduceMul, decide_true, decide_false, Bool.not_true, Bool.not_false, beq_self_eq_true, bne_self_eq_false, and_self, List.isEmpty_nil, List.isEmpty_cons, Bool.true_or, Bool.false_or, List.set_cons_zero, List.set_cons_succ, List.length_cons, List.length_nil, Option.bind_some, List.all_cons, List.all_nil, Bool.or_true, Bool.true_and, Bool.and_true, Int.reduceToNat]
        refine ⟨_, ?_, i + 1, A, B + 1, _, _, _, _, _, _, _, _, _, _, rfl, ?_, rfl⟩
        · omega
        exact ⟨by omega, by omega, by rw [Nat.add_sub_cancel]; exact st⟩
    · have ei : i = zs.length := by omega
      subst ei
      rw [hp]
      by_cases ec : c = 1
      · have e1 : (c == 1) = true := by simp [ec]
        rw [e1, if_pos rfl] at hm
        subst hm
        simp (disch := first | (simp only [Nat.reduceBEq, elem_hit, elem_miss, elem_nil]; done) | ((repeat' (first | assumption | exact Sub.refl _ | refine Sub.push ?_ ?_ | exact HokR.fresh (by assumption) | refine Fresh.push ?_ | refine HokR.push ?_ ?_ ?_ | exact Grown.refl | refine GrownR.push ?_ ?_ ?_ | exact refsOK_ints | exact refsOK_pairs | exact Nat.le_refl _ | (simp only [wM, Nat.reduceAdd, Nat.reduceLT, Nat.reduceLeDiff]; done))); done) | omega | decide) only [e, ha.len, m1, ha.ix (hi := hi), ha.ld (hi := hi), ← hc, e1, cutEx_n, wrap_i64, idx?_pos, Int.toNat_natCast, ↓wA, wB, resOf, Option.map_some, Option.map_none, List.map_cons, List.map_nil, List.nil_append, List.append_nil, List.cons_append, Nat.reduceBEq, List.getElem?_cons_zero, List.getElem?_cons_succ, List.getElem?_nil, Option.getD_some, Option.getD_none, cond_false, cond_true, and_true, true_and, Nat.zero_add, Nat.mul_one, Int.reduceBEq, Int.reduceBNe, Int.reduceLT, Int.reduceLE, Int.reduceAdd, Int.reduceSub, Int.reduceMul, decide_true, decide_false, Bool.not_true, Bool.not_false, beq_self_eq_true, bne_self_eq_false, and_self, List.isEmpty_nil, List.isEmpty_cons, Bool.true_or, Bool.false_or, List.set_cons_zero, List.set_cons_succ, List.length_cons, List.length_nil, Option.bind_some, List.all_cons, List.all_nil, Bool.or_true, Bool.true_and, Bool.and_true, Int.reduceToNat]
        exact ⟨_, _, _, _, _, _, _, _, _, Grown.en, rfl⟩
      · have e1 : (c == 1) = false := by simp [ec]
        rw [e1, if_neg (by simp)] at hm
        subst hm
        simp (disch := first | (simp only [Nat.reduceBEq, elem_hit, elem_miss, elem_nil]; done) | ((repeat' (first | assumption | exact Sub.refl _ | refine Sub.push ?_ ?_ | exact HokR.fresh (by assumption) | refine Fresh.push ?_ | refine HokR.push ?_ ?_ ?_ | exact Grown.refl | refine GrownR.push ?_ ?_ ?_ | exact refsOK_ints | exact refsOK_pairs | exact Nat.le_refl _ | (simp only [wM, Nat.reduceAdd, Nat.reduceLT, Nat.reduceLeDiff]; done))); done) | omega | decide) only [e, ha.len, m1, ha.ix (hi := hi), ha.ld (hi := hi), ← hc, e1, cutEx_n, wrap_i64, idx?_pos, Int.toNat_natCast, ↓wA, wB, resOf, Option.map_some, Option.map_none, List.map_cons, List.map_nil, List.nil_append, List.append_nil, List.cons_append, Nat.reduceBEq, List.getElem?_cons_zero, List.getElem?_cons_succ, List.getElem?_nil, Option.getD_some, Option.getD_none, cond_false, cond_true, and_true, true_and, Nat.zero_add, Nat.mul_one, Int.reduceBEq, Int.reduceBNe, Int.reduceLT, Int.reduceLE, Int.reduceAdd, Int.reduceSub, Int.reduceMul, decide_true, decide_false, Bool.not_true, Bool.not_false, beq_self_eq_true, bne_self_eq_false, and_self, List.isEmpty_nil, List.isEmpty_cons, Bool.true_or, Bool.false_or, List.set_cons_zero, List.set_cons_succ, List.length_cons, List.length_nil, Option.bind_some, List.all_cons, List.all_nil, Bool.or_true, Bool.true_and, Bool.and_true, Int.reduceToNat]
        exact ⟨_, _, _, _, _, _, _, _, _, Grown.en, rfl⟩
  · rintro sC ⟨u8, u11, u14, u15, u19, u26, u39, u44, u70, _, rfl⟩
    generalize (prAt n (zs.length - 1)).1 = A at pk fin ⊢
    generalize (prAt n (zs.length - 1)).2 = B at pk fin ⊢
    have g1 : Grown h (h.en.pu []) := Grown.pu Grown.en rfl
    have O1 : Own h.next (h.en.pu []).blks .i64 (.sl h.next 0 0 (some 0) 1) [] := Own.fresh (Nat.le_refl _) rfl rfl rfl (Nat.le_refl _)
    simp (disch := first | (simp only [Nat.reduceBEq, elem_hit, elem_miss, elem_nil]; done) | ((repeat' (first | assumption | exact Sub.refl _ | refine Sub.push ?_ ?_ | exact HokR.fresh (by assumption) | refine Fresh.push ?_ | refine HokR.push ?_ ?_ ?_ | exact Grown.refl | refine GrownR.push ?_ ?_ ?_ | exact refsOK_ints | exact refsOK_pairs | exact Nat.le_refl _ | (simp only [wM, Nat.reduceAdd, Nat.reduceLT, Nat.reduceLeDiff]; done))); done) | omega | decide) only [wrap_i64, idx?_pos, Int.toNat_natCast, ↓wA, wB, resOf, Option.map_some, Option.map_none, List.map_cons, List.map_nil, List.nil_append, List.append_nil, List.cons_append, Nat.reduceBEq, List.getElem?_cons_zero, List.getElem?_cons_succ, List.getElem?_nil, Option.getD_some, Option.getD_none, cond_false, cond_true, and_true, true_and, Nat.zero_add, Nat.mul_one, Int.reduceBEq, Int.reduceBNe, Int.reduceLT, Int.reduceLE, Int.reduceAdd, Int.reduceSub, Int.reduceMul, decide_true, decide_false, Bool.not_true, Bool.not_false, beq_self_eq_true, bne_self_eq_false, and_self, List.isEmpty_nil, List.isEmpty_cons, Bool.true_or, Bool.false_or, List.set_cons_zero, List.set_cons_succ, List.length_cons, List.length_nil, Option.bind_some, List.all_cons, List.all_nil, Bool.or_true, Bool.true_and, Bool.and_true, Int.reduceToNat]
    refine wloop (fun mm ss => ∃ (v : Nat) (r : AV) (h3 : Hp) (u2 u3 u8 u11 u19 u26 u39 u44 u70 : AV), (mm = n - v) ∧ (v ≤ n ∧ Grown h h3 ∧ Own h.next h3.blks .i64 r (nz ((List.range v).filter (cq n zs c A B)))) ∧ ss = { fr := [(0, .int .i64 n), (1, a), (2, u2), (3, u3), (8, u8), (9, .int .i64 A), (10, .int .i64 B), (11, u11), (12, .int .i64 c), (13, .int .i64 m), (14, r), (15, .int .i64 v), (19, u19), (26, u26), (39, u39), (44, u44), (70, u70)], hp := h3 }) (n) ?_ ?_
    ·
      refine ⟨0, _, _, _, _, _, _, _, _, _, _, _, by omega, ⟨by omega, g1, O1⟩, rfl⟩
    rintro nB sB ⟨v, r, h3, u2, u3, u8, u11, u19, u26, u39, u44, u70, hnB, ⟨hv, g3, O3⟩, rfl⟩
    have k3 := g3.ok hk
    have a3 := ha.sub (g3.sub hk)
    simp (disch := first | (simp only [Nat.reduceBEq, elem_hit, elem_miss, elem_nil]; done) | ((repeat' (first | assumption | exact Sub.refl _ | refine Sub.push ?_ ?_ | exact HokR.fresh (by assumption) | refine Fresh.push ?_ | refine HokR.push ?_ ?_ ?_ | exact Grown.refl | refine GrownR.push ?_ ?_ ?_ | exact refsOK_ints | exact refsOK_pairs | exact Nat.le_refl _ | (simp only [wM, Nat.reduceAdd, Nat.reduceLT, Nat.reduceLeDiff]; done))); done) | omega | decide) only [wrap_i64, idx?_pos, Int.toNat_natCast, ↓wA, wB, resOf, Option.map_some, Option.map_none, List.map_cons, List.map_nil, List.nil_append, List.append_nil, List.cons_append, Nat.reduceBEq, List.getElem?_cons_zero, List.getElem?_cons_succ, List.getElem?_nil, Option.getD_some, Option.getD_none, cond_false, cond_true, and_true, true_and, Nat.zero_add, Nat.mul_one, Int.reduceBEq, Int.reduceBNe, Int.reduceLT, Int.reduceLE, Int.reduceAdd, Int.reduceSub, Int.reduceMul, decide_true, decide_false, Bool.not_true, Bool.not_false, beq_self_eq_true, bne_self_eq_false, and_self, List.isEmpty_nil, List.isEmpty_cons, Bool.true_or, Bool.false_or, List.set_cons_zero, List.set_cons_succ, List.length_cons, List.length_nil, Option.bind_some, List.all_cons, List.all_nil, Bool.or_true, Bool.true_and, Bool.and_true, Int.reduceToNat]
    refine ifThen_intro (fun e => ?_) (fun e => ?_) <;> have eq := e <;> try simp [-List.getD_eq_getElem?_getD] at eq
    · have ef : (List.range (v + 1)).filter (cq n zs c A B) = (List.range v).filter (cq n zs c A B) ++ (if cq n zs c A B v = true then [v] else []) := by
        rw [List.range_succ, List.filter_append, List.filter_cons, List.filter_nil]
      have lb : ((List.range v).filter (cq n zs c A B)).length ≤ 8 := by
        refine Nat.le_trans (List.length_filter_le _ _) ?_
        simp
        omega
      by_cases v1 : v = A
      · have q : ¬ cq n zs c A B v = true := by simp [cq, v1]
        rw [if_neg q, List.append_nil] at ef
        have d1 : ((v : Int) != (A : Int)) = false := by simp [v1]
        simp (disch := first | (simp only [Nat.reduceBEq, elem_hit, elem_miss, elem_nil]; done) | ((repeat' (first | assumption | exact Sub.refl _ | refine Sub.push ?_ ?_ | exact HokR.fresh (by assumption) | refine Fresh.push ?_ | refine HokR.push ?_ ?_ ?_ | exact Grown.refl | refine GrownR.push ?_ ?_ ?_ | exact refsOK_ints | exact refsOK_pairs | exact Nat.le_refl _ | (simp only [wM, Nat.reduceAdd, Nat.reduceLT, Nat.reduceLeDiff]; done))); done) | omega | decide) only [e, d1, wrap_i64, idx?_pos, Int.toNat_natCast, ↓wA, wB, resOf, Option.map_some, Option.map_none, List.map_cons, List.map_nil, List.nil_append, List.append_nil, List.cons_append, Nat.reduceBEq, List.getElem?_cons_zero, List.getElem?_cons_succ, List.getElem?_nil, Option.getD_some, Option.getD_none, cond_false, cond_true, and_true, true_and, Nat.zero_add, Nat.mul_one, Int.reduceBEq, Int.reduceBNe, Int.reduceLT, Int.reduceLE, Int.reduceAdd, Int.reduceSub, Int.reduceMul, decide_true, decide_false, Bool.not_true, Bool.not_false, beq_self_eq_true, bne_self_eq_false, and_self, List.isEmpty_nil, List.isEmpty_cons, Bool.true_or, Bool.false_or, List.set_cons_zero, List.set_cons_succ, List.length_cons, List.length_nil, Option.bind_some, List.all_cons, List.all_nil, Bool.or_true, Bool.true_and, Bool.and_true, Int.reduceToNat]
        refine ⟨_, ?_, v + 1, r, h3, _, _, _, _, _, _, _, _, _, rfl, ?_, rfl⟩
        · omega
        exact ⟨by omega, g3, by rw [ef]; exact O3⟩
      · have d1 : ((v : Int) != (A : Int)) = true := by simp; omega
        by_cases v2 : v = B
        · have q : ¬ cq n zs c A B v = true := by simp [cq, v2]
          rw [if_neg q, List.append_nil] at ef
          have d2 : ((v : Int) != (B : Int)) = false := by simp [v2]
          simp (disch := first | (simp only [Nat.reduceBEq, elem_hit, elem_miss, elem_nil]; done) | ((repeat' (first | assumption | exact Sub.refl _ | refine Sub.push ?_ ?_ | exact HokR.fresh (by assumption) | refine Fresh.push ?_ | refine HokR.push ?_ ?_ ?_ | exact Grown.refl | refine GrownR.push ?_ ?_ ?_ | exact refsOK_ints | exact refsOK_pairs | exact Nat.le_refl _ | (simp only [wM, Nat.reduceAdd, Nat.reduceLT, Nat.reduceLeDiff]; done))); done) | omega | decide) only [e, d1, d2, wrap_i64, idx?_pos, Int.toNat_natCast, ↓wA, wB, resOf, Option.map_some, Option.map_none, List.map_cons, List.map_nil, List.nil_append, List.append_nil, List.cons_append, Nat.reduceBEq, List.getElem?_cons_zero, List.getElem?_cons_succ, List.getElem?_nil, Option.getD_some, Option.getD_none, cond_false, cond_true, and_true, true_and, Nat.zero_add, Nat.mul_one, Int.reduceBEq, Int.reduceBNe, Int.reduceLT, Int.reduceLE, Int.reduceAdd, Int.reduceSub, Int.reduceMul, decide_true, decide_false, Bool.not_true, Bool.not_false, beq_self_eq_true, bne_self_eq_false, and_self, List.isEmpty_nil, List.isEmpty_cons, Bool.true_or, Bool.false_or, List.set_cons_zero, List.set_cons_succ, List.length_cons, List.length_nil, Option.bind_some, List.all_cons, List.all_nil, Bool.or_true, Bool.true_and, Bool.and_true, Int.reduceToNat]
          refine ⟨_, ?_, v + 1, r, h3, _, _, _, _, _, _, _, _, _, rfl, ?_, rfl⟩
          · omega
          exact ⟨by omega, g3, by rw [ef]; exact O3⟩
        · have d2 : ((v : Int) != (B : Int)) = true := by simp; omega
          have K1 := f57 n v A a zs c h3 k3 a3 (by omega) hn (by omega) (by omega) v1
          have K2 := f57 n v B a zs c h3 k3 a3 (by omega) hn (by omega) (by omega) v2
          have c1 : (v == A) = false := by simp [v1]
          have c2 : (v == B) = false := by simp [v2]
          have q0 : cq n zs c A B v = (kn n zs c v A && kn n zs c v B) := by simp only [cq, c1, c2, Bool.not_false, Bool.true_and]
          rw [q0] at ef
          cases x1 : kn n zs c v A with
          | false =>
            rw [x1] at ef K1
            simp only [Bool.false_and, Bool.false_eq_true, if_false, List.append_nil] at ef
            simp (disch := first | (simp only [Nat.reduceBEq, elem_hit, elem_miss, elem_nil]; done) | ((repeat' (first | assumption | exact Sub.refl _ | refine Sub.push ?_ ?_ | exact HokR.fresh (by assumption) | refine Fresh.push ?_ | refine HokR.push ?_ ?_ ?_ | exact Grown.refl | refine GrownR.push ?_ ?_ ?_ | exact refsOK_ints | exact refsOK_pairs | exact Nat.le_refl _ | (simp only [wM, Nat.reduceAdd, Nat.reduceLT, Nat.reduceLeDiff]; done))); done) | omega | decide) only [e, d1, d2, callT K1, wrap_i64, idx?_pos, Int.toNat_natCast, ↓wA, wB, resOf, Option.map_some, Option.map_none, List.map_cons, List.map_nil, List.nil_append, List.append_nil, List.cons_append, Nat.reduceBEq, List.getElem?_cons_zero, List.getElem?_cons_succ, List.getElem?_nil, Option.getD_some, Option.getD_none, cond_false, cond_true, and_true, true_and, Nat.zero_add, Nat.mul_one, Int.reduceBEq, Int.reduceBNe, Int.reduceLT, Int.reduceLE, Int.reduceAdd, Int.reduceSub, Int.reduceMul, decide_true, decide_false, Bool.not_true, Bool.not_false, beq_self_eq_true, bne_self_eq_false, and_self, List.isEmpty_nil, List.isEmpty_cons, Bool.true_or, Bool.false_or, List.set_cons_zero, List.set_cons_succ, List.length_cons, List.length_nil, Option.bind_some, List.all_cons, List.all_nil, Bool.or_true, Bool.true_and, Bool.and_true, Int.reduceToNat]
            refine ⟨_, ?_, v + 1, r, h3, _, _, _, _, _, _, _, _, _, rfl, ?_, rfl⟩
            · omega
            exact ⟨by omega, g3, by rw [ef]; exact O3⟩
          | true =>
            rw [x1] at ef K1
            cases x2 : kn n zs c v B with
            | false =>
              rw [x2] at ef K2
              simp only [Bool.true_and, Bool.false_eq_true, if_false, List.append_nil] at ef
              simp (disch := first | (simp only [Nat.reduceBEq, elem_hit, elem_miss, elem_nil]; done) | ((repeat' (first | assumption | exact Sub.refl _ | refine Sub.push ?_ ?_ | exact HokR.fresh (by assumption) | refine Fresh.push ?_ | refine HokR.push ?_ ?_ ?_ | exact Grown.refl | refine GrownR.push ?_ ?_ ?_ | exact refsOK_ints | exact refsOK_pairs | exact Nat.le_refl _ | (simp only [wM, Nat.reduceAdd, Nat.reduceLT, Nat.reduceLeDiff]; done))); done) | omega | decide) only [e, d1, d2, callT K1, callT K2, wrap_i64, idx?_pos, Int.toNat_natCast, ↓wA, wB, resOf, Option.map_some, Option.map_none, List.map_cons, List.map_nil, List.nil_append, List.append_nil, List.cons_append, Nat.reduceBEq, List.getElem?_cons_zero, List.getElem?_cons_succ, List.getElem?_nil, Option.getD_some, Option.getD_none, cond_false, cond_true, and_true, true_and, Nat.zero_add, Nat.mul_one, Int.reduceBEq, Int.reduceBNe, Int.reduceLT, Int.reduceLE, Int.reduceAdd, Int.reduceSub, Int.reduceMul, decide_true, decide_false, Bool.not_true, Bool.not_false, beq_self_eq_true, bne_self_eq_false, and_self, List.isEmpty_nil, List.isEmpty_cons, Bool.true_or, Bool.false_or, List.set_cons_zero, List.set_cons_succ, List.length_cons, List.length_nil, Option.bind_some, List.all_cons, List.all_nil, Bool.or_true, Bool.true_and, Bool.and_true, Int.reduceToNat]
              refine ⟨_, ?_, v + 1, r, h3, _, _, _, _, _, _, _, _, _, rfl, ?_, rfl⟩
              · omega
              exact ⟨by omega, g3, by rw [ef]; exact O3⟩
            | true =>
              rw [x2] at ef K2
              simp only [Bool.true_and, if_true] at ef
              obtain ⟨s5, h5, e5, o5, g5, n5⟩ := own_app1 (v := (v : Int)) hk g3 O3 (by rw [nz_len]; omega)
              rw [← nz_app, ← ef] at o5
              simp (disch := first | (simp only [Nat.reduceBEq, elem_hit, elem_miss, elem_nil]; done) | ((repeat' (first | assumption | exact Sub.refl _ | refine Sub.push ?_ ?_ | exact HokR.fresh (by assumption) | refine Fresh.push ?_ | refine HokR.push ?_ ?_ ?_ | exact Grown.refl | refine GrownR.push ?_ ?_ ?_ | exact refsOK_ints | exact refsOK_pairs | exact Nat.le_refl _ | (simp only [wM, Nat.reduceAdd, Nat.reduceLT, Nat.reduceLeDiff]; done))); done) | omega | decide) only [e, d1, d2, callT K1, callT K2, e5, wrap_i64, idx?_pos, Int.toNat_natCast, ↓wA, wB, resOf, Option.map_some, Option.map_none, List.map_cons, List.map_nil, List.nil_append, List.append_nil, List.cons_append, Nat.reduceBEq, List.getElem?_cons_zero, List.getElem?_cons_succ, List.getElem?_nil, Option.getD_some, Option.getD_none, cond_false, cond_true, and_true, true_and, Nat.zero_add, Nat.mul_one, Int.reduceBEq, Int.reduceBNe, Int.reduceLT, Int.reduceLE, Int.reduceAdd, Int.reduceSub, Int.reduceMul, decide_true, decide_false, Bool.not_true, Bool.not_false, beq_self_eq_true, bne_self_eq_false, and_self, List.isEmpty_nil, List.isEmpty_cons, Bool.true_or, Bool.false_or, List.set_cons_zero, List.set_cons_succ, List.length_cons, List.length_nil, Option.bind_some, List.all_cons, List.all_nil, Bool.or_true, Bool.true_and, Bool.and_true, Int.reduceToNat]
              refine ⟨_, ?_, v + 1, s5, h5, _, _, _, _, _, _, _, _, _, rfl, ?_, rfl⟩
              · omega
              exact ⟨by omega, g5, o5⟩
    · have ev : v = n := by omega
      subst ev
      have sub : ((List.range v).filter (cq v zs c A B)).Sublist (List.range v) := List.filter_sublist
      have R := f58 v a zs c (by omega) hn (m - 2) _ r h3 k3 a3 O3.ints (by have := sub.length_le; rw [List.length_range] at this; omega) (fun u hu => List.mem_range.1 (sub.subset hu)) (List.Pairwise.sublist sub (by rw [List.range_eq_range']; exact List.pairwise_lt_range')) (by omega)
      have ms : (m : Int) - 2 = ((m - 2 : Nat) : Int) := by omega
      simp (disch := first | (simp only [Nat.reduceBEq, elem_hit, elem_miss, elem_nil]; done) | ((repeat' (first | assumption | exact Sub.refl _ | refine Sub.push ?_ ?_ | exact HokR.fresh (by assumption) | refine Fresh.push ?_ | refine HokR.push ?_ ?_ ?_ | exact Grown.refl | refine GrownR.push ?_ ?_ ?_ | exact refsOK_ints | exact refsOK_pairs | exact Nat.le_refl _ | (simp only [wM, Nat.reduceAdd, Nat.reduceLT, Nat.reduceLeDiff]; done))); done) | omega | decide) only [e, ms, callT R, wrap_i64, idx?_pos, Int.toNat_natCast, ↓wA, wB, resOf, Option.map_some, Option.map_none, List.map_cons, List.map_nil, List.nil_append, List.append_nil, List.cons_append, Nat.reduceBEq, List.getElem?_cons_zero, List.getElem?_cons_succ, List.getElem?_nil, Option.getD_some, Option.getD_none, cond_false, cond_true, and_true, true_and, Nat.zero_add, Nat.mul_one, Int.reduceBEq, Int.reduceBNe, Int.reduceLT, Int.reduceLE, Int.reduceAdd, Int.reduceSub, Int.reduceMul, decide_true, decide_false, Bool.not_true, Bool.not_false, beq_self_eq_true, bne_self_eq_false, and_self, List.isEmpty_nil, List.isEmpty_cons, Bool.true_or, Bool.false_or, List.set_cons_zero, List.set_cons_succ, List.length_cons, List.length_nil, Option.bind_some, List.all_cons, List.all_nil, Bool.or_true, Bool.true_and, Bool.and_true, Int.reduceToNat]
      exact ⟨_, rfl, rfl, g3⟩

def okA (n k l : Nat) (zs : List Int) : Bool := zs.isEmpty || clF n k l zs

theorem f24 (n k l : Nat) (hn : 1 ≤ n ∧ n ≤ 8) (hkk : 2 ≤ k ∧ k ≤ 4) (hll : 2 ≤ l ∧ l ≤ 4) :
    ∀ (f : Nat) (zs : List Int) (s : AV) (h : Hp) (d : Nat), zs.length + f = tri n → Hok h → Own d h.blks .i64 s zs → s ≠ .nilsl → d ≤ h.next →
    ∃ v h', Evals Try.prog tab false (.func 24) [.int .i64 n, .int .i64 k, .int .i64 l, s] h (v, h') ∧ Grown h h' ∧ HD d v h'.blks (refA (okA n k l) 2 f zs) := by
  obtain ⟨M, hM⟩ : ∃ M : Nat, M = n * (n - 1) := ⟨_, rfl⟩
  have hM2 : (n : Int) * ((n : Int) - 1) = (M : Int) := by rw [show (n : Int) - 1 = ((n - 1 : Nat) : Int) by omega, hM]; rfl
  have hM3 : M ≤ 56 := by rw [hM]; exact Nat.le_trans (Nat.mul_le_mul hn.2 (show n - 1 ≤ 7 by omega)) (by omega)
  have hM4 : tri n = M / 2 := by rw [tri, hM]
  have eq := @sBin_quo
  have tl := tri_lim hn.2
  have stp : ∀ (zs : List Int) (s : AV) (h : Hp), Hok h → Ints h.blks .i64 s zs → zs.length ≤ tri n → 0 < zs.length → Evals Try.prog tab false (.func 46) [.int .i64 n, s, .int .i64 k, .int .i64 l] h (.bool (!(okA n k l zs)), h) := fun zs s h hk hs hz h0 => by
    have := f46 n k l s zs h hk hs hn.2 h0 hz hkk hll
    cases zs with
    | nil => simp at h0
    | cons z zs => exact this
  have e00 : ∀ zs : List Int, ¬ 0 < zs.length → okA n k l zs = true := fun zs h => by
    have := List.length_eq_zero_iff.1 (show zs.length = 0 by omega)
    subst this
    rfl
  intro f
  induction f with
  | zero =>
    intro zs s h d hlen hk os hne hd
    refine evals_q c24 (fun v h' => HD d v h'.blks (refA (okA n k l) 2 0 zs)) rfl hk ?_ (fun v h1 g q => ⟨fun hr => q.lk hr (fun id hid => (g.lkB hid).symm), fun _ => q⟩)
    simp only [sf24, initS_cons, initS_nil]
    have e0 : ((zs.length : Int) == (M : Int) / 2) = true := by simp; omega
    by_cases hp : 0 < zs.length
    · have dp : decide ((0 : Int) < (zs.length : Int)) = true := decide_eq_true (by omega)
      have C := stp zs s h.en hk os.ints (by omega) hp
      cases hs : okA n k l zs with
      | false =>
        rw [hs] at C
        simp (disch := first | (simp only [Nat.reduceBEq, elem_hit, elem_miss, elem_nil]; done) | ((repeat' (first | assumption | exact Sub.refl _ | refine Sub.push ?_ ?_ | exact HokR.fresh (by assumption) | refine Fresh.push ?_ | refine HokR.push ?_ ?_ ?_ | exact Grown.refl | refine GrownR.push ?_ ?_ ?_ | exact refsOK_ints | exact refsOK_pairs | exact Nat.le_refl _ | (simp only [wM, Nat.reduceAdd, Nat.reduceLT, Nat.reduceLeDiff]; done))); done) | omega | decide) only [os.len, dp, callT C, wrap_i64, idx?_pos, Int.toNat_natCast, ↓wA, wB, resOf, Option.map_some, Option.map_none, List.map_cons, List.map_nil, List.nil_append, List.append_nil, List.cons_append, Nat.reduceBEq, List.getElem?_cons_zero, List.getElem?_cons_succ, List.getElem?_nil, Option.getD_some, Option.getD_none, cond_false, cond_true, and_true, true_and, Nat.zero_add, Nat.mul_one, Int.reduceBEq, Int.reduceBNe, Int.reduceLT, Int.reduceLE, Int.reduceAdd, Int.reduceSub, Int.reduceMul, decide_true, decide_false, Bool.not_true, Bool.not_false, beq_self_eq_true, bne_self_eq_false, and_self, List.isEmpty_nil, List.isEmpty_cons, Bool.true_or, Bool.false_or, List.set_cons_zero, List.set_cons_succ, List.length_cons, List.length_nil, Option.bind_some, List.all_cons, List.all_nil, Bool.or_true, Bool.true_and, Bool.and_true, Int.reduceToNat]
        refine ⟨_, rfl, Grown.en, ?_⟩
        rw [refA, if_neg (by simp [hs])]
        rfl
      | true =>
        rw [hs] at C
        simp (disch := first | (simp only [Nat.reduceBEq, elem_hit, elem_miss, elem_nil]; done) | ((repeat' (first | assumption | exact Sub.refl _ | refine Sub.push ?_ ?_ | exact HokR.fresh (by assumption) | refine Fresh.push ?_ | refine HokR.push ?_ ?_ ?_ | exact Grown.refl | refine GrownR.push ?_ ?_ ?_ | exact refsOK_ints | exact refsOK_pairs | exact Nat.le_refl _ | (simp only [wM, Nat.reduceAdd, Nat.reduceLT, Nat.reduceLeDiff]; done))); done) | omega | decide) only [os.len, dp, callT C, hM2, eq, e0, wrap_i64, idx?_pos, Int.toNat_natCast, ↓wA, wB, resOf, Option.map_some, Option.map_none, List.map_cons, List.map_nil, List.nil_append, List.append_nil, List.cons_append, Nat.reduceBEq, List.getElem?_cons_zero, List.getElem?_cons_succ, List.getElem?_nil, Option.getD_some, Option.getD_none, cond_false, cond_true, and_true, true_and, Nat.zero_add, Nat.mul_one, Int.reduceBEq, Int.reduceBNe, Int.reduceLT, Int.reduceLE, Int.reduceAdd, Int.reduceSub, Int.reduceMul, decide_true, decide_false, Bool.not_true, Bool.not_false, beq_self_eq_true, bne_self_eq_false, and_self, List.isEmpty_nil, List.isEmpty_cons, Bool.true_or, Bool.false_or, List.set_cons_zero, List.set_cons_succ, List.length_cons, List.length_nil, Option.bind_some, List.all_cons, List.all_nil, Bool.or_true, Bool.true_and, Bool.and_true, Int.reduceToNat]
        refine ⟨_, rfl, Grown.en, ?_⟩
        rw [refA, if_pos hs]
        exact ⟨os, hne⟩
    · have dp : decide ((0 : Int) < (zs.length : Int)) = false := decide_eq_false (by omega)
      simp (disch := first | (simp only [Nat.reduceBEq, elem_hit, elem_miss, elem_nil]; done) | ((repeat' (first | assumption | exact Sub.refl _ | refine Sub.push ?_ ?_ | exact HokR.fresh (by assumption) | refine Fresh.push ?_ | refine HokR.push ?_ ?_ ?_ | exact Grown.refl | refine GrownR.push ?_ ?_ ?_ | exact refsOK_ints | exact refsOK_pairs | exact Nat.le_refl _ | (simp only [wM, Nat.reduceAdd, Nat.reduceLT, Nat.reduceLeDiff]; done))); done) | omega | decide) only [os.len, dp, hM2, eq, e0, wrap_i64, idx?_pos, Int.toNat_natCast, ↓wA, wB, resOf, Option.map_some, Option.map_none, List.map_cons, List.map_nil, List.nil_append, List.append_nil, List.cons_append, Nat.reduceBEq, List.getElem?_cons_zero, List.getElem?_cons_succ, List.getElem?_nil, Option.getD_some, Option.getD_none, cond_false, cond_true, and_true, true_and, Nat.zero_add, Nat.mul_one, Int.reduceBEq, Int.reduceBNe, Int.reduceLT, Int.reduceLE, Int.reduceAdd, Int.reduceSub, Int.reduceMul, decide_true, decide_false, Bool.not_true, Bool.not_false, beq_self_eq_true, bne_self_eq_false, and_self, List.isEmpty_nil, List.isEmpty_cons, Bool.true_or, Bool.false_or, List.set_cons_zero, List.set_cons_succ, List.length_cons, List.length_nil, Option.bind_some, List.all_cons, List.all_nil, Bool.or_true, Bool.true_and, Bool.and_true, Int.reduceToNat]
      refine ⟨_, rfl, Grown.en, ?_⟩
      rw [refA, if_pos (e00 zs hp)]
      exact ⟨os, hne⟩
  | succ f IH =>
    intro zs s h d hlen hk os hne hd
    refine evals_q c24 (fun v h' => HD d v h'.blks (refA (okA n k l) 2 (f + 1) zs)) rfl hk ?_ (fun v h1 g q => ⟨fun hr => q.lk hr (fun id hid => (g.lkB hid).symm), fun _ => q⟩)
    simp only [sf24, initS_cons, initS_nil]
    have e0 : ((zs.length : Int) == (M : Int) / 2) = false := by simp; omega
    cases hs : okA n k l zs with
    | false =>
      have hp : 0 < zs.length := by
        by_cases h0 : 0 < zs.length
        · exact h0
        · rw [e00 zs h0] at hs; cases hs
      have dp : decide ((0 : Int) < (zs.length : Int)) = true := decide_eq_true (by omega)
      have C := stp zs s h.en hk os.ints (by omega) hp
      rw [hs] at C
      simp (disch := first | (simp only [Nat.reduceBEq, elem_hit, elem_miss, elem_nil]; done) | ((repeat' (first | assumption | exact Sub.refl _ | refine Sub.push ?_ ?_ | exact HokR.fresh (by assumption) | refine Fresh.push ?_ | refine HokR.push ?_ ?_ ?_ | exact Grown.refl | refine GrownR.push ?_ ?_ ?_ | exact refsOK_ints | exact refsOK_pairs | exact Nat.le_refl _ | (simp only [wM, Nat.reduceAdd, Nat.reduceLT, Nat.reduceLeDiff]; done))); done) | omega | decide) only [os.len, dp, callT C, wrap_i64, idx?_pos, Int.toNat_natCast, ↓wA, wB, resOf, Option.map_some, Option.map_none, List.map_cons, List.map_nil, List.nil_append, List.append_nil, List.cons_append, Nat.reduceBEq, List.getElem?_cons_zero, List.getElem?_cons_succ, List.getElem?_nil, Option.getD_some, Option.getD_none, cond_false, cond_true, and_true, true_and, Nat.zero_add, Nat.mul_one, Int.reduceBEq, Int.reduceBNe, Int.reduceLT, Int.reduceLE, Int.reduceAdd, Int.reduceSub, Int.reduceMul, decide_true, decide_false, Bool.not_true, Bool.not_false, beq_self_eq_true, bne_self_eq_false, and_self, List.isEmpty_nil, List.isEmpty_cons, Bool.true_or, Bool.false_or, List.set_cons_zero, List.set_cons_succ, List.length_cons, List.length_nil, Option.bind_some, List.all_cons, List.all_nil, Bool.or_true, Bool.true_and, Bool.and_true, Int.reduceToNat]
      refine ⟨_, rfl, Grown.en, ?_⟩
      rw [refA, if_neg (by simp [hs])]
      rfl
    | true =>
      rw [wseq]
      refine wcut (fun ss => ∃ (u8 u9 u10 u20 u28 u31 u45 : AV), (Grown h h.en) ∧ ss = { fr := [(0, .int .i64 n), (1, .int .i64 k), (2, .int .i64 l), (3, s), (8, u8), (9, u9), (10, u10), (20, u20), (28, u28), (31, u31), (45, u45)], hp := h.en }) ?_ ?_
      · by_cases hp : 0 < zs.length
        · have dp : decide ((0 : Int) < (zs.length : Int)) = true := decide_eq_true (by omega)
          have C := stp zs s h.en hk os.ints (by omega) hp
          rw [hs] at C
          simp (disch := first | (simp only [Nat.reduceBEq, elem_hit, elem_miss, elem_nil]; done) | ((repeat' (first | assumption | exact Sub.refl _ | refine Sub.push ?_ ?_ | exact HokR.fresh (by assumption) | refine Fresh.push ?_ | refine HokR.push ?_ ?_ ?_ | exact Grown.refl | refine GrownR.push ?_ ?_ ?_ | exact refsOK_ints | exact refsOK_pairs | exact Nat.le_refl _ | (simp only [wM, Nat.reduceAdd, Nat.reduceLT, Nat.reduceLeDiff]; done))); done) | omega | decide) only [os.len, dp, callT C, cutEx_n, wrap_i64, idx?_pos, Int.toNat_natCast, ↓wA, wB, resOf, Option.map_some, Option.map_none, List.map_cons, List.map_nil, List.nil_append, List.append_nil, List.cons_append, Nat.reduceBEq, List.getElem?_cons_zero, List.getElem?_cons_succ, List.getElem?_nil, Option.getD_some, Option.getD_none, cond_false, cond_true, and_true, true_and, Nat.zero_add, Nat.mul_one, Int.reduceBEq, Int.reduceBNe, Int.reduceLT, Int.reduceLE, Int.reduceAdd, Int.reduceSub, Int.reduceMul, decide_true, decide_false, Bool.not_true, Bool.not_false, beq_self_eq_true, bne_self_eq_false, and_self, List.isEmpty_nil, List.isEmpty_cons, Bool.true_or, Bool.false_or, List.set_cons_zero, List.set_cons_succ, List.length_cons, List.length_nil, Option.bind_some, List.all_cons, List.all_nil, Bool.or_true, Bool.true_and, Bool.and_true, Int.reduceToNat]
          exact ⟨_, _, _, _, _, _, _, Grown.en, rfl⟩
        · have dp : decide ((0 : Int) < (zs.length : Int)) = false := decide_eq_false (by omega)
          simp (disch := first | (simp only [Nat.reduceBEq, elem_hit, elem_miss, elem_nil]; done) | ((repeat' (first | assumption | exact Sub.refl _ | refine Sub.push ?_ ?_ | exact HokR.fresh (by assumption) | refine Fresh.push ?_ | refine HokR.push ?_ ?_ ?_ | exact Grown.refl | refine GrownR.push ?_ ?_ ?_ | exact refsOK_ints | exact refsOK_pairs | exact Nat.le_refl _ | (simp only [wM, Nat.reduceAdd, Nat.reduceLT, Nat.reduceLeDiff]; done))); done) | omega | decide) only [os.len, dp, cutEx_n, wrap_i64, idx?_pos, Int.toNat_natCast, ↓wA, wB, resOf, Option.map_some, Option.map_none, List.map_cons, List.map_nil, List.nil_append, List.append_nil, List.cons_append, Nat.reduceBEq, List.getElem?_cons_zero, List.getElem?_cons_succ, List.getElem?_nil, Option.getD_some, Option.getD_none, cond_false, cond_true, and_true, true_and, Nat.zero_add, Nat.mul_one, Int.reduceBEq, Int.reduceBNe, Int.reduceLT, Int.reduceLE, Int.reduceAdd, Int.reduceSub, Int.reduceMul, decide_true, decide_false, Bool.not_true, Bool.not_false, beq_self_eq_true, bne_self_eq_false, and_self, List.isEmpty_nil, List.isEmpty_cons, Bool.true_or, Bool.false_or, List.set_cons_zero, List.set_cons_succ, List.length_cons, List.length_nil, Option.bind_some, List.all_cons, List.all_nil, Bool.or_true, Bool.true_and, Bool.and_true, Int.reduceToNat]
          exact ⟨_, _, _, _, _, _, _, Grown.en, rfl⟩
      · rintro sC ⟨u8, u9, u10, u20, u28, u31, u45, _, rfl⟩
        simp (disch := first | (simp only [Nat.reduceBEq, elem_hit, elem_miss, elem_nil]; done) | ((repeat' (first | assumption | exact Sub.refl _ | refine Sub.push ?_ ?_ | exact HokR.fresh (by assumption) | refine Fresh.push ?_ | refine HokR.push ?_ ?_ ?_ | exact Grown.refl | refine GrownR.push ?_ ?_ ?_ | exact refsOK_ints | exact refsOK_pairs | exact Nat.le_refl _ | (simp only [wM, Nat.reduceAdd, Nat.reduceLT, Nat.reduceLeDiff]; done))); done) | omega | decide) only [os.len, hM2, eq, e0, wrap_i64, idx?_pos, Int.toNat_natCast, ↓wA, wB, resOf, Option.map_some, Option.map_none, List.map_cons, List.map_nil, List.nil_append, List.append_nil, List.cons_append, Nat.reduceBEq, List.getElem?_cons_zero, List.getElem?_cons_succ, List.getElem?_nil, Option.getD_some, Option.getD_none, cond_false, cond_true, and_true, true_and, Nat.zero_add, Nat.mul_one, Int.reduceBEq, Int.reduceBNe, Int.reduceLT, Int.reduceLE, Int.reduceAdd, Int.reduceSub, Int.reduceMul, decide_true, decide_false, Bool.not_true, Bool.not_false, beq_self_eq_true, bne_self_eq_false, and_self, List.isEmpty_nil, List.isEmpty_cons, Bool.true_or, Bool.false_or, List.set_cons_zero, List.set_cons_succ, List.length_cons, List.length_nil, Option.bind_some, List.all_cons, List.all_nil, Bool.or_true, Bool.true_and, Bool.and_true, Int.reduceToNat]
        refine wloop (fun mm ss => ∃ (i : Nat) (h3 : Hp) (u8 u10 u20 u28 u31 u45 : AV), (mm = 2 - i) ∧ (i ≤ 2 ∧ Grown h h3 ∧ refA (okA n k l) 2 (f + 1) zs = refL (refA (okA n k l) 2 f) zs (2 - i) i) ∧ ss = { fr := [(0, .int .i64 n), (1, .int .i64 k), (2, .int .i64 l), (3, s), (8, u8), (9, .int .i64 i), (10, u10), (20, u20), (28, u28), (31, u31), (45, u45)], hp := h3 }) (2) ?_ ?_
        ·
          refine ⟨0, h.en, _, _, _, _, _, _, by omega, ⟨by omega, Grown.en, by rw [refA, if_pos hs]⟩, rfl⟩
        rintro nA sA ⟨i, h3, u8, u10, u20, u28, u31, u45, hnA, ⟨hi, g3, hg⟩, rfl⟩
        have k3 := g3.ok hk
        simp (disch := first | (simp only [Nat.reduceBEq, elem_hit, elem_miss, elem_nil]; done) | ((repeat' (first | assumption | exact Sub.refl _ | refine Sub.push ?_ ?_ | exact HokR.fresh (by assumption) | refine Fresh.push ?_ | refine HokR.push ?_ ?_ ?_ | exact Grown.refl | refine GrownR.push ?_ ?_ ?_ | exact refsOK_ints | exact refsOK_pairs | exact Nat.le_refl _ | (simp only [wM, Nat.reduceAdd, Nat.reduceLT, Nat.reduceLeDiff]; done))); done) | omega | decide) only [wrap_i64, idx?_pos, Int.toNat_natCast, ↓wA, wB, resOf, Option.map_some, Option.map_none, List.map_cons, List.map_nil, List.nil_append, List.append_nil, List.cons_append, Nat.reduceBEq, List.getElem?_cons_zero, List.getElem?_cons_succ, List.getElem?_nil, Option.getD_some, Option.getD_none, cond_false, cond_true, and_true, true_and, Nat.zero_add, Nat.mul_one, Int.reduceBEq, Int.reduceBNe, Int.reduceLT, Int.reduceLE, Int.reduceAdd, Int.reduceSub, Int.reduceMul, decide_true, decide_false, Bool.not_true, Bool.not_false, beq_self_eq_true, bne_self_eq_false, and_self, List.isEmpty_nil, List.isEmpty_cons, Bool.true_or, Bool.false_or, List.set_cons_zero, List.set_cons_succ, List.length_cons, List.length_nil, Option.bind_some, List.all_cons, List.all_nil, Bool.or_true, Bool.true_and, Bool.and_true, Int.reduceToNat]
        refine ifThen_intro (fun e => ?_) (fun e => ?_) <;> have eq := e <;> try simp [-List.getD_eq_getElem?_getD] at eq
        · have os3 := os.sub (g3.sub hk)
          have O : Own h3.next (h3.pu []).blks .i64 (.sl h3.next 0 0 (some 0) 1) [] := Own.fresh (Nat.le_refl _) rfl rfl rfl (Nat.le_refl _)
          obtain ⟨s1, h4, e4, o4, g4, _⟩ := own_appI (h0 := h3) (h := h3.pu []) k3 (Grown.pu Grown.refl rfl) O (os3.ints.sub (Sub.pu k3)) (by rw [List.length_nil]; omega)
          rw [List.nil_append] at o4
          obtain ⟨s2, h5, e5, o5, g5, n5⟩ := own_app1 (v := (i : Int)) k3 g4 o4 (by omega)
          obtain ⟨v, h6, ev, g6, q6⟩ := IH (zs ++ [(i : Int)]) s2 h5 h3.next (by rw [List.length_append, List.length_singleton]; omega) (g5.ok k3) o5 n5 g5.next
          have g6' : Grown h h6 := GrownR.trans g3 (GrownR.trans g5 g6)
          rw [show 2 - i = (2 - (i + 1)) + 1 by omega, refL] at hg
          cases hrc : refA (okA n k l) 2 f (zs ++ [(i : Int)]) with
          | none =>
            rw [hrc] at q6 hg
            cases q6
            simp (disch := first | (simp only [Nat.reduceBEq, elem_hit, elem_miss, elem_nil]; done) | ((repeat' (first | assumption | exact Sub.refl _ | refine Sub.push ?_ ?_ | exact HokR.fresh (by assumption) | refine Fresh.push ?_ | refine HokR.push ?_ ?_ ?_ | exact Grown.refl | refine GrownR.push ?_ ?_ ?_ | exact refsOK_ints | exact refsOK_pairs | exact Nat.le_refl _ | (simp only [wM, Nat.reduceAdd, Nat.reduceLT, Nat.reduceLeDiff]; done))); done) | omega | decide) only [e, e4, e5, callT ev, sBin_nil', wrap_i64, idx?_pos, Int.toNat_natCast, ↓wA, wB, resOf, Option.map_some, Option.map_none, List.map_cons, List.map_nil, List.nil_append, List.append_nil, List.cons_append, Nat.reduceBEq, List.getElem?_cons_zero, List.getElem?_cons_succ, List.getElem?_nil, Option.getD_some, Option.getD_none, cond_false, cond_true, and_true, true_and, Nat.zero_add, Nat.mul_one, Int.reduceBEq, Int.reduceBNe, Int.reduceLT, Int.reduceLE, Int.reduceAdd, Int.reduceSub, Int.reduceMul, decide_true, decide_false, Bool.not_true, Bool.not_false, beq_self_eq_true, bne_self_eq_false, and_self, List.isEmpty_nil, List.isEmpty_cons, Bool.true_or, Bool.false_or, List.set_cons_zero, List.set_cons_succ, List.length_cons, List.length_nil, Option.bind_some, List.all_cons, List.all_nil, Bool.or_true, Bool.true_and, Bool.and_true, Int.reduceToNat]
            refine ⟨_, ?_, i + 1, h6, _, _, _, _, _, _, rfl, ?_, rfl⟩
            · omega
            exact ⟨by omega, g6', hg⟩
          | some c5 =>
            rw [hrc] at q6 hg
            simp (disch := first | (simp only [Nat.reduceBEq, elem_hit, elem_miss, elem_nil]; done) | ((repeat' (first | assumption | exact Sub.refl _ | refine Sub.push ?_ ?_ | exact HokR.fresh (by assumption) | refine Fresh.push ?_ | refine HokR.push ?_ ?_ ?_ | exact Grown.refl | refine GrownR.push ?_ ?_ ?_ | exact refsOK_ints | exact refsOK_pairs | exact Nat.le_refl _ | (simp only [wM, Nat.reduceAdd, Nat.reduceLT, Nat.reduceLeDiff]; done))); done) | omega | decide) only [e, e4, e5, callT ev, (q6.1.eql q6.2).2, wrap_i64, idx?_pos, Int.toNat_natCast, ↓wA, wB, resOf, Option.map_some, Option.map_none, List.map_cons, List.map_nil, List.nil_append, List.append_nil, List.cons_append, Nat.reduceBEq, List.getElem?_cons_zero, List.getElem?_cons_succ, List.getElem?_nil, Option.getD_some, Option.getD_none, cond_false, cond_true, and_true, true_and, Nat.zero_add, Nat.mul_one, Int.reduceBEq, Int.reduceBNe, Int.reduceLT, Int.reduceLE, Int.reduceAdd, Int.reduceSub, Int.reduceMul, decide_true, decide_false, Bool.not_true, Bool.not_false, beq_self_eq_true, bne_self_eq_false, and_self, List.isEmpty_nil, List.isEmpty_cons, Bool.true_or, Bool.false_or, List.set_cons_zero, List.set_cons_succ, List.length_cons, List.length_nil, Option.bind_some, List.all_cons, List.all_nil, Bool.or_true, Bool.true_and, Bool.and_true, Int.reduceToNat]
            refine ⟨_, rfl, g6', ?_⟩
            rw [hg]
            exact ⟨q6.1.le (by have := g3.next; omega), q6.2⟩
        · simp (disch := first | (simp only [Nat.reduceBEq, elem_hit, elem_miss, elem_nil]; done) | ((repeat' (first | assumption | exact Sub.refl _ | refine Sub.push ?_ ?_ | exact HokR.fresh (by assumption) | refine Fresh.push ?_ | refine HokR.push ?_ ?_ ?_ | exact Grown.refl | refine GrownR.push ?_ ?_ ?_ | exact refsOK_ints | exact refsOK_pairs | exact Nat.le_refl _ | (simp only [wM, Nat.reduceAdd, Nat.reduceLT, Nat.reduceLeDiff]; done))); done) | omega | decide) only [e, wrap_i64, idx?_pos, Int.toNat_natCast, ↓wA, wB, resOf, Option.map_some, Option.map_none, List.map_cons, List.map_nil, List.nil_append, List.append_nil, List.cons_append, Nat.reduceBEq, List.getElem?_cons_zero, List.getElem?_cons_succ, List.getElem?_nil, Option.getD_some, Option.getD_none, cond_false, cond_true, and_true, true_and, Nat.zero_add, Nat.mul_one, Int.reduceBEq, Int.reduceBNe, Int.reduceLT, Int.reduceLE, Int.reduceAdd, Int.reduceSub, Int.reduceMul, decide_true, decide_false, Bool.not_true, Bool.not_false, beq_self_eq_true, bne_self_eq_false, and_self, List.isEmpty_nil, List.isEmpty_cons, Bool.true_or, Bool.false_or, List.set_cons_zero, List.set_cons_succ, List.length_cons, List.length_nil, Option.bind_some, List.all_cons, List.all_nil, Bool.or_true, Bool.true_and, Bool.and_true, Int.reduceToNat]
          refine ⟨_, rfl, g3, ?_⟩
          rw [hg, show 2 - i = 0 by omega, refL]
          rfl

theorem f4 (n k l : Int) (h : Hp) (hk : Hok h) (hn : -9223372036854775808 ≤ n ∧ n ≤ 9223372036854775807) (hr : -9223372036854775808 ≤ k ∧ k ≤ 9223372036854775807) (hkb : -9223372036854775808 ≤ l ∧ l ≤ 9223372036854775807) :
    ∃ h', Evals Try.prog tab false (.func 4) [.int .i64 n, .int .i64 k, .int .i64 l] h (.bool true, h') := by
  suffices H : ∃ v h', Evals Try.prog tab false (.func 4) [.int .i64 n, .int .i64 k, .int .i64 l] h (v, h') ∧ v = .bool true by
    obtain ⟨v, h', e, rfl⟩ := H
    exact ⟨h', e⟩
  refine evals_func (Q := fun v _ => v = .bool true) c4 rfl ?_
  simp only [sf4, initS_cons, initS_nil]
  obtain ⟨v3, h4, ev4, g4, t, rfl, q4⟩ := f23 n k l h.en hk
  have k4 := g4.ok hk
  have w1 := f18 n 1 8 h4 k4
  have w2 := f18 k 2 4 h4 k4
  have w3 := f18 l 2 4 h4 k4
  have lv := f19
  have bad : ¬ avdOK n k l → avdE n k l = 1 ∧ t = .nilsl := fun ok => by
    rw [avdO, if_neg ok] at q4
    exact ⟨by rw [avdE, if_neg ok], q4⟩
  by_cases e1 : 1 ≤ n ∧ n ≤ 8
  · have d1 : decide (1 ≤ n ∧ n ≤ 8) = true := decide_eq_true e1
    by_cases e2 : 2 ≤ k ∧ k ≤ 4
    · have d2 : decide (2 ≤ k ∧ k ≤ 4) = true := decide_eq_true e2
      by_cases e3 : 2 ≤ l ∧ l ≤ 4
      · have d3 : decide (2 ≤ l ∧ l ≤ 4) = true := decide_eq_true e3
        have ok : avdOK n k l := ⟨e1, e2, e3⟩
        obtain ⟨m, rfl⟩ : ∃ m : Nat, n = m := ⟨n.toNat, by omega⟩
        obtain ⟨p, rfl⟩ : ∃ p : Nat, k = p := ⟨k.toNat, by omega⟩
        obtain ⟨q, rfl⟩ : ∃ q : Nat, l = q := ⟨l.toNat, by omega⟩
        have kp : Hok (h4.pu []) := Hok.pu k4 rfl
        have O : Own h4.next (h4.pu []).blks .i64 (.sl h4.next 0 0 (some 0) 1) [] := Own.fresh (Nat.le_refl _) rfl rfl rfl (Nat.le_refl _)
        obtain ⟨w, h5, ev5, g5, q5⟩ := f24 m p q (by omega) (by omega) (by omega) (tri m) [] (.sl h4.next 0 0 (some 0) 1) (h4.pu []) h4.next (by simp) kp O (fun e => by cases e) (Nat.le_succ _)
        have eO : avdO m p q = refA (okA m p q) 2 (tri m) [] := by
          rw [avdO, if_pos ok, refA_all (F := clF m p q) (fun zs c hz => ?_) (tri m) [] rfl]
          · rfl
          · have : okA m p q (zs ++ [c]) = clF m p q (zs ++ [c]) := by cases zs <;> rfl
            rw [this]
        have eE : avdE m p q = if (refA (okA m p q) 2 (tri m) []).isSome = true then 0 else 5 := by
          rw [← eO, avdE, avdO, if_pos ok, if_pos ok]
        rw [eE] at ev4
        rw [eO] at q4
        have g45 : Grown h4 h5 := GrownR.trans (Grown.pu Grown.refl rfl) g5
        have tl := tri_lim (show m ≤ 8 by omega)
        have q4' : HD h.next t h5.blks (refA (okA m p q) 2 (tri m) []) := by
          cases hs : refA (okA m p q) 2 (tri m) [] with
          | none => rw [hs] at q4; exact q4
          | some cc => rw [hs] at q4; exact ⟨q4.1.sub (g45.sub k4), q4.2⟩
        have fd := lfound t w (refA (okA m p q) 2 (tri m) []) h.next h4.next h5 (g5.ok kp) q4' q5 (fun c e => by
          rw [← eO, avdO, if_pos ok] at e
          have := head_len e
          simp only [Int.toNat_natCast] at this
          omega)
        simp (disch := first | (simp only [Nat.reduceBEq, elem_hit, elem_miss, elem_nil]; done) | ((repeat' (first | assumption | exact Sub.refl _ | refine Sub.push ?_ ?_ | exact HokR.fresh (by assumption) | refine Fresh.push ?_ | refine HokR.push ?_ ?_ ?_ | exact Grown.refl | refine GrownR.push ?_ ?_ ?_ | exact refsOK_ints | exact refsOK_pairs | exact Nat.le_refl _ | (simp only [wM, Nat.reduceAdd, Nat.reduceLT, Nat.reduceLeDiff]; done))); done) | omega | decide) only [callT ev4, callT w1, callT w2, callT w3, d1, d2, d3, callT ev5, callT fd, callT (lv h5), wrap_i64, idx?_pos, Int.toNat_natCast, ↓wA, wB, resOf, Option.map_some, Option.map_none, List.map_cons, List.map_nil, List.nil_append, List.append_nil, List.cons_append, Nat.reduceBEq, List.getElem?_cons_zero, List.getElem?_cons_succ, List.getElem?_nil, Option.getD_some, Option.getD_none, cond_false, cond_true, and_true, true_and, Nat.zero_add, Nat.mul_one, Int.reduceBEq, Int.reduceBNe, Int.reduceLT, Int.reduceLE, Int.reduceAdd, Int.reduceSub, Int.reduceMul, decide_true, decide_false, Bool.not_true, Bool.not_false, beq_self_eq_true, bne_self_eq_false, and_self, List.isEmpty_nil, List.isEmpty_cons, Bool.true_or, Bool.false_or, List.set_cons_zero, List.set_cons_succ, List.length_cons, List.length_nil, Option.bind_some, List.all_cons, List.all_nil, Bool.or_true, Bool.true_and, Bool.and_true, Int.reduceToNat]
        exact ⟨_, rfl, rfl⟩
      · have d3 : decide (2 ≤ l ∧ l ≤ 4) = false := decide_eq_false e3
        obtain ⟨eE, rfl⟩ := bad fun h => e3 h.2.2
        rw [eE] at ev4
        simp (disch := first | (simp only [Nat.reduceBEq, elem_hit, elem_miss, elem_nil]; done) | ((repeat' (first | assumption | exact Sub.refl _ | refine Sub.push ?_ ?_ | exact HokR.fresh (by assumption) | refine Fresh.push ?_ | refine HokR.push ?_ ?_ ?_ | exact Grown.refl | refine GrownR.push ?_ ?_ ?_ | exact refsOK_ints | exact refsOK_pairs | exact Nat.le_refl _ | (simp only [wM, Nat.reduceAdd, Nat.reduceLT, Nat.reduceLeDiff]; done))); done) | omega | decide) only [callT ev4, callT w1, callT w2, callT w3, d1, d2, d3, sLen_nil, callT (lv h4), wrap_i64, idx?_pos, Int.toNat_natCast, ↓wA, wB, resOf, Option.map_some, Option.map_none, List.map_cons, List.map_nil, List.nil_append, List.append_nil, List.cons_append, Nat.reduceBEq, List.getElem?_cons_zero, List.getElem?_cons_succ, List.getElem?_nil, Option.getD_some, Option.getD_none, cond_false, cond_true, and_true, true_and, Nat.zero_add, Nat.mul_one, Int.reduceBEq, Int.reduceBNe, Int.reduceLT, Int.reduceLE, Int.reduceAdd, Int.reduceSub, Int.reduceMul, decide_true, decide_false, Bool.not_true, Bool.not_false, beq_self_eq_true, bne_self_eq_false, and_self, List.isEmpty_nil, List.isEmpty_cons, Bool.true_or, Bool.false_or, List.set_cons_zero, List.set_cons_succ, List.length_cons, List.length_nil, Option.bind_some, List.all_cons, List.all_nil, Bool.or_true, Bool.true_and, Bool.and_true, Int.reduceToNat]
        exact ⟨_, rfl, rfl⟩
    · have d2 : decide (2 ≤ k ∧ k ≤ 4) = false := decide_eq_false e2
      obtain ⟨eE, rfl⟩ := bad fun h => e2 h.2.1
      rw [eE] at ev4
      simp (disch := first | (simp only [Nat.reduceBEq, elem_hit, elem_miss, elem_nil]; done) | ((repeat' (first | assumption | exact Sub.refl _ | refine Sub.push ?_ ?_ | exact HokR.fresh (by assumption) | refine Fresh.push ?_ | refine HokR.push ?_ ?_ ?_ | exact Grown.refl | refine GrownR.push ?_ ?_ ?_ | exact refsOK_ints | exact refsOK_pairs | exact Nat.le_refl _ | (simp only [wM, Nat.reduceAdd, Nat.reduceLT, Nat.reduceLeDiff]; done))); done) | omega | decide) only [callT ev4, callT w1, callT w2, d1, d2, sLen_nil, callT (lv h4), wrap_i64, idx?_pos, Int.toNat_natCast, ↓wA, wB, resOf, Option.map_some, Option.map_none, List.map_cons, List.map_nil, List.nil_append, List.append_nil, List.cons_append, Nat.reduceBEq, List.getElem?_cons_zero, List.getElem?_cons_succ, List.getElem?_nil, Option.getD_some, Option.getD_none, cond_false, cond_true, and_true, true_and, Nat.zero_add, Nat.mul_one, Int.reduceBEq, Int.reduceBNe, Int.reduceLT, Int.reduceLE, Int.reduceAdd, Int.reduceSub, Int.reduceMul, decide_true, decide_false, Bool.not_true, Bool.not_false, beq_self_eq_true, bne_self_eq_false, and_self, List.isEmpty_nil, List.isEmpty_cons, Bool.true_or, Bool.false_or, List.set_cons_zero, List.set_cons_succ, List.length_cons, List.length_nil, Option.bind_some, List.all_cons, List.all_nil, Bool.or_true, Bool.true_and, Bool.and_true, Int.reduceToNat]
      exact ⟨_, rfl, rfl⟩
  · have d1 : decide (1 ≤ n ∧ n ≤ 8) = false := decide_eq_false e1
    obtain ⟨eE, rfl⟩ := bad fun h => e1 h.1
    rw [eE] at ev4
    simp (disch := first | (simp only [Nat.reduceBEq, elem_hit, elem_miss, elem_nil]; done) | ((repeat' (first | assumption | exact Sub.refl _ | refine Sub.push ?_ ?_ | exact HokR.fresh (by assumption) | refine Fresh.push ?_ | refine HokR.push ?_ ?_ ?_ | exact Grown.refl | refine GrownR.push ?_ ?_ ?_ | exact refsOK_ints | exact refsOK_pairs | exact Nat.le_refl _ | (simp only [wM, Nat.reduceAdd, Nat.reduceLT, Nat.reduceLeDiff]; done))); done) | omega | decide) only [callT ev4, callT w1, d1, sLen_nil, callT (lv h4), wrap_i64, idx?_pos, Int.toNat_natCast, ↓wA, wB, resOf, Option.map_some, Option.map_none, List.map_cons, List.map_nil, List.nil_append, List.append_nil, List.cons_append, Nat.reduceBEq, List.getElem?_cons_zero, List.getElem?_cons_succ, List.getElem?_nil, Option.getD_some, Option.getD_none, cond_false, cond_true, and_true, true_and, Nat.zero_add, Nat.mul_one, Int.reduceBEq, Int.reduceBNe, Int.reduceLT, Int.reduceLE, Int.reduceAdd, Int.reduceSub, Int.reduceMul, decide_true, decide_false, Bool.not_true, Bool.not_false, beq_self_eq_true, bne_self_eq_false, and_self, List.isEmpty_nil, List.isEmpty_cons, Bool.true_or, Bool.false_or, List.set_cons_zero, List.set_cons_succ, List.length_cons, List.length_nil, Option.bind_some, List.all_cons, List.all_nil, Bool.or_true, Bool.true_and, Bool.and_true, Int.reduceToNat]
    exact ⟨_, rfl, rfl⟩
end Go.Proofs.Ytpclkcamfainiaa
