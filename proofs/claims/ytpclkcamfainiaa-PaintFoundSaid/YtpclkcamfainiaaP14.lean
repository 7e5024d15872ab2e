/- Sum, Sumless, and the law about them. -/
import Derived.Test.YtpclkcamfainiaaP13
import Derived.Test.YtpclkcamfainiaaVV
set_option linter.unusedSimpArgs false
set_option linter.unusedVariables false
set_option maxHeartbeats 4000000
set_option maxRecDepth 20000
namespace Go.Pt
open Go Go.Abs
theorem colsL_mem {F : List Int → Bool} {A : List Int → List (List Int)} {zs x : List Int} : ∀ {k i : Nat}, x ∈ colsL F A zs k i → ∃ c : Nat, c < i + k ∧ F (zs ++ [(c : Int)]) = true ∧ x ∈ A (zs ++ [(c : Int)])
  | 0, _, h => by simp [colsL] at h
  | k + 1, i, h => by
    rw [colsL, List.mem_append] at h
    rcases h with h | h
    · by_cases hF : F (zs ++ [(i : Int)]) = true
      · rw [if_pos hF] at h; exact ⟨i, by omega, hF, h⟩
      · rw [if_neg hF] at h; simp at h
    · obtain ⟨c, h1, h2⟩ := colsL_mem h
      exact ⟨c, by omega, h2⟩
theorem allC_len {F : List Int → Bool} {r : Nat} : ∀ {f : Nat} {zs x : List Int}, x ∈ allC F r f zs → x.length = zs.length + f
  | 0, zs, x, h => by simp [allC] at h; subst h; rfl
  | f + 1, zs, x, h => by
    rw [allC] at h
    obtain ⟨c, _, _, h2⟩ := colsL_mem h
    rw [allC_len h2, List.length_append, List.length_singleton]
    omega
theorem head_len {F : List Int → Bool} {r f : Nat} {x : List Int} (h : (allC F r f []).head? = some x) : x.length = f := by
  have := allC_len (List.mem_of_mem_head? (by rw [h]; rfl))
  simpa using this
def sumOK (zs : List Int) : Prop := (1 ≤ zs.length ∧ zs.length ≤ 14) ∧ okc 3 zs = true
instance {zs : List Int} : Decidable (sumOK zs) := inferInstanceAs (Decidable (_ ∧ _))
end Go.Pt
namespace Go.Proofs.Ytpclkcamfainiaa
open Go Go.Abs Go.Pt

theorem f25 (a : AV) (zs : List Int) (h : Hp) (hk : Hok h) (ha : Ints h.blks .i64 a zs) (hz : zs.length ≤ 1000) :
    ∃ v h', Evals Try.prog tab false (.func 25) [a] h (v, h') ∧ Grown h h' ∧ ∃ r, v = .tu [r, .int .i64 (if sumOK zs then (if ((sumO zs).map pr2).isSome = true then 0 else 5) else 2)] ∧ HD h.next r h'.blks (if sumOK zs then (sumO zs).map pr2 else none) := by
  refine evals_q c25 (fun v h' => ∃ r, v = .tu [r, .int .i64 (if sumOK zs then (if ((sumO zs).map pr2).isSome = true then 0 else 5) else 2)] ∧ HD h.next r h'.blks (if sumOK zs then (sumO zs).map pr2 else none)) rfl hk ?_ (fun v h1 g q => by
    obtain ⟨r, rfl, q⟩ := q
    refine ⟨fun hr => ⟨r, rfl, q.lk (d := h.next) ?_ (fun id hid => (g.lkB hid).symm)⟩, fun _ => ⟨r, rfl, q⟩⟩
    simp only [refOK, refsOK_cons, Bool.and_eq_true] at hr
    exact hr.1)
  simp only [sf25, initS_cons, initS_nil]
  have w1 := f38 zs.length 1 14 h.en hk
  have pt := f39 a zs 3 h.en hk ha hz (by omega)
  by_cases e1 : (1 : Int) ≤ zs.length ∧ (zs.length : Int) ≤ 14
  · have d1 : decide ((1 : Int) ≤ zs.length ∧ (zs.length : Int) ≤ 14) = true := decide_eq_true e1
    by_cases e5 : okc 3 zs = true
    · have ok : sumOK zs := ⟨by omega, e5⟩
      obtain ⟨r, h1, ev, g1, q1⟩ := f47 a zs h.en hk ha hz
      have gh1 : Grown h h1 := GrownR.of_en g1
      have fd := pfound r h.next ((sumO zs).map pr2) h1 (gh1.ok hk) q1
      simp (disch := first | (simp only [Nat.reduceBEq, elem_hit, elem_miss, elem_nil]; done) | ((repeat' (first | assumption | exact Sub.refl _ | refine Sub.push ?_ ?_ | exact HokR.fresh (by assumption) | refine Fresh.push ?_ | refine HokR.push ?_ ?_ ?_ | exact Grown.refl | refine GrownR.push ?_ ?_ ?_ | exact refsOK_ints | exact refsOK_pairs | exact Nat.le_refl _ | (simp only [wM, Nat.reduceAdd, Nat.reduceLT, Nat.reduceLeDiff]; done))); done) | omega | decide) only [ha.len, callT w1, d1, callT pt, e5, callT ev, callT fd, wrap_i64, idx?_pos, Int.toNat_natCast, ↓wA, wB, resOf, Option.map_some, Option.map_none, List.map_cons, List.map_nil, List.nil_append, List.append_nil, List.cons_append, Nat.reduceBEq, List.getElem?_cons_zero, List.getElem?_cons_succ, List.getElem?_nil, Option.getD_some, Option.getD_none, cond_false, cond_true, and_true, true_and, Nat.zero_add, Nat.mul_one, Int.reduceBEq, Int.reduceBNe, Int.reduceLT, Int.reduceLE, Int.reduceAdd, Int.reduceSub, Int.reduceMul, decide_true, decide_false, Bool.not_true, Bool.not_false, beq_self_eq_true, bne_self_eq_false, and_self, List.isEmpty_nil, List.isEmpty_cons, Bool.true_or, Bool.false_or, List.set_cons_zero, List.set_cons_succ, List.length_cons, List.length_nil, Option.bind_some, List.all_cons, List.all_nil, Bool.or_true, Bool.true_and, Bool.and_true, Int.reduceToNat]
      refine ⟨_, rfl, gh1, r, ?_, ?_⟩
      · rw [if_pos ok]
      · rw [if_pos ok]; exact q1
    · have ok : ¬ sumOK zs := fun h => e5 h.2
      have e5' : okc 3 zs = false := by simpa using e5
      simp (disch := first | (simp only [Nat.reduceBEq, elem_hit, elem_miss, elem_nil]; done) | ((repeat' (first | assumption | exact Sub.refl _ | refine Sub.push ?_ ?_ | exact HokR.fresh (by assumption) | refine Fresh.push ?_ | refine HokR.push ?_ ?_ ?_ | exact Grown.refl | refine GrownR.push ?_ ?_ ?_ | exact refsOK_ints | exact refsOK_pairs | exact Nat.le_refl _ | (simp only [wM, Nat.reduceAdd, Nat.reduceLT, Nat.reduceLeDiff]; done))); done) | omega | decide) only [ha.len, callT w1, d1, callT pt, e5', wrap_i64, idx?_pos, Int.toNat_natCast, ↓wA, wB, resOf, Option.map_some, Option.map_none, List.map_cons, List.map_nil, List.nil_append, List.append_nil, List.cons_append, Nat.reduceBEq, List.getElem?_cons_zero, List.getElem?_cons_succ, List.getElem?_nil, Option.getD_some, Option.getD_none, cond_false, cond_true, and_true, true_and, Nat.zero_add, Nat.mul_one, Int.reduceBEq, Int.reduceBNe, Int.reduceLT, Int.reduceLE, Int.reduceAdd, Int.reduceSub, Int.reduceMul, decide_true, decide_false, Bool.not_true, Bool.not_false, beq_self_eq_true, bne_self_eq_false, and_self, List.isEmpty_nil, List.isEmpty_cons, Bool.true_or, Bool.false_or, List.set_cons_zero, List.set_cons_succ, List.length_cons, List.length_nil, Option.bind_some, List.all_cons, List.all_nil, Bool.or_true, Bool.true_and, Bool.and_true, Int.reduceToNat]
      exact ⟨_, rfl, Grown.en, .nilsl, by rw [if_neg ok], by rw [if_neg ok]; rfl⟩
  · have d1 : decide ((1 : Int) ≤ zs.length ∧ (zs.length : Int) ≤ 14) = false := decide_eq_false e1
    have ok : ¬ sumOK zs := fun h => e1 (by have := h.1; omega)
    simp (disch := first | (simp only [Nat.reduceBEq, elem_hit, elem_miss, elem_nil]; done) | ((repeat' (first | assumption | exact Sub.refl _ | refine Sub.push ?_ ?_ | exact HokR.fresh (by assumption) | refine Fresh.push ?_ | refine HokR.push ?_ ?_ ?_ | exact Grown.refl | refine GrownR.push ?_ ?_ ?_ | exact refsOK_ints | exact refsOK_pairs | exact Nat.le_refl _ | (simp only [wM, Nat.reduceAdd, Nat.reduceLT, Nat.reduceLeDiff]; done))); done) | omega | decide) only [ha.len, callT w1, d1, wrap_i64, idx?_pos, Int.toNat_natCast, ↓wA, wB, resOf, Option.map_some, Option.map_none, List.map_cons, List.map_nil, List.nil_append, List.append_nil, List.cons_append, Nat.reduceBEq, List.getElem?_cons_zero, List.getElem?_cons_succ, List.getElem?_nil, Option.getD_some, Option.getD_none, cond_false, cond_true, and_true, true_and, Nat.zero_add, Nat.mul_one, Int.reduceBEq, Int.reduceBNe, Int.reduceLT, Int.reduceLE, Int.reduceAdd, Int.reduceSub, Int.reduceMul, decide_true, decide_false, Bool.not_true, Bool.not_false, beq_self_eq_true, bne_self_eq_false, and_self, List.isEmpty_nil, List.isEmpty_cons, Bool.true_or, Bool.false_or, List.set_cons_zero, List.set_cons_succ, List.length_cons, List.length_nil, Option.bind_some, List.all_cons, List.all_nil, Bool.or_true, Bool.true_and, Bool.and_true, Int.reduceToNat]
    exact ⟨_, rfl, Grown.en, .nilsl, by rw [if_neg ok], by rw [if_neg ok]; rfl⟩

def smlOK (n r : Int) : Prop := (1 ≤ n ∧ n ≤ 14) ∧ 1 ≤ r ∧ r ≤ 3
instance {n r : Int} : Decidable (smlOK n r) := inferInstanceAs (Decidable (_ ∧ _))
def smlO (n r : Int) : Option (List Int) := if smlOK n r then (allC lsF r.toNat n.toNat []).head? else none
def smlE (n r : Int) : Int := if smlOK n r then (if (allC lsF r.toNat n.toNat []).head?.isSome = true then 0 else 5) else 1

theorem f27 (n r : Int) (h : Hp) (hk : Hok h) :
    ∃ v h', Evals Try.prog tab false (.func 27) [.int .i64 n, .int .i64 r] h (v, h') ∧ Grown h h' ∧ ∃ a, v = .tu [a, .int .i64 (smlE n r)] ∧ HD h.next a h'.blks (smlO n r) := by
  refine evals_q c27 (fun v h' => ∃ a, v = .tu [a, .int .i64 (smlE n r)] ∧ HD h.next a h'.blks (smlO n r)) rfl hk ?_ (fun v h1 g q => by
    obtain ⟨r, rfl, q⟩ := q
    refine ⟨fun hr => ⟨r, rfl, q.lk (d := h.next) ?_ (fun id hid => (g.lkB hid).symm)⟩, fun _ => ⟨r, rfl, q⟩⟩
    simp only [refOK, refsOK_cons, Bool.and_eq_true] at hr
    exact hr.1)
  simp only [sf27, initS_cons, initS_nil]
  have w1 := f38 n 1 14 h.en hk
  have w2 := f38 r 1 3 h.en hk
  by_cases e1 : 1 ≤ n ∧ n ≤ 14
  · have d1 : decide (1 ≤ n ∧ n ≤ 14) = true := decide_eq_true e1
    by_cases e2 : 1 ≤ r ∧ r ≤ 3
    · have d2 : decide (1 ≤ r ∧ r ≤ 3) = true := decide_eq_true e2
      have ok : smlOK n r := ⟨e1, e2⟩
      obtain ⟨m, rfl⟩ : ∃ m : Nat, n = m := ⟨n.toNat, by omega⟩
      obtain ⟨k, rfl⟩ : ∃ k : Nat, r = k := ⟨r.toNat, by omega⟩
      obtain ⟨v1, h1, ev1, g1, i1, i2, i3, i4, rfl, _, b1, b2, b3, b4⟩ := f48 49 m k [] h.en hk rfl
      have gh1 : Grown h h1 := GrownR.of_en g1
      have k1 := gh1.ok hk
      obtain ⟨v2, h2, ev2, g2, a, rfl, q2⟩ := f44 49 m k i1 i2 i3 i4 [] lsF h1 k1 (by omega) (by omega) b1.box b2.box b3.box b4.box (fun zs h' id hk' _ hi _ _ hl _ => f49 _ zs h' hk' hi (by omega))
      simp (disch := first | (simp only [Nat.reduceBEq, elem_hit, elem_miss, elem_nil]; done) | ((repeat' (first | assumption | exact Sub.refl _ | refine Sub.push ?_ ?_ | exact HokR.fresh (by assumption) | refine Fresh.push ?_ | refine HokR.push ?_ ?_ ?_ | exact Grown.refl | refine GrownR.push ?_ ?_ ?_ | exact refsOK_ints | exact refsOK_pairs | exact Nat.le_refl _ | (simp only [wM, Nat.reduceAdd, Nat.reduceLT, Nat.reduceLeDiff]; done))); done) | omega | decide) only [callT w1, callT w2, d1, d2, callT ev1, callT ev2, wrap_i64, idx?_pos, Int.toNat_natCast, ↓wA, wB, resOf, Option.map_some, Option.map_none, List.map_cons, List.map_nil, List.nil_append, List.append_nil, List.cons_append, Nat.reduceBEq, List.getElem?_cons_zero, List.getElem?_cons_succ, List.getElem?_nil, Option.getD_some, Option.getD_none, cond_false, cond_true, and_true, true_and, Nat.zero_add, Nat.mul_one, Int.reduceBEq, Int.reduceBNe, Int.reduceLT, Int.reduceLE, Int.reduceAdd, Int.reduceSub, Int.reduceMul, decide_true, decide_false, Bool.not_true, Bool.not_false, beq_self_eq_true, bne_self_eq_false, and_self, List.isEmpty_nil, List.isEmpty_cons, Bool.true_or, Bool.false_or, List.set_cons_zero, List.set_cons_succ, List.length_cons, List.length_nil, Option.bind_some, List.all_cons, List.all_nil, Bool.or_true, Bool.true_and, Bool.and_true, Int.reduceToNat]
      refine ⟨_, rfl, GrownR.trans gh1 g2, a, ?_, ?_⟩
      · rw [smlE, if_pos ok]; rfl
      · rw [smlO, if_pos ok]
        have hn : h.next ≤ h1.next := gh1.next
        cases hh : (allC lsF (k : Int).toNat (m : Int).toNat []).head? with
        | none => simp only [Int.toNat_natCast] at hh; rw [hh] at q2; exact q2
        | some zs => simp only [Int.toNat_natCast] at hh; rw [hh] at q2; exact ⟨q2.1.le hn, q2.2⟩
    · have d2 : decide (1 ≤ r ∧ r ≤ 3) = false := decide_eq_false e2
      have ok : ¬ smlOK n r := fun h => e2 h.2
      simp (disch := first | (simp only [Nat.reduceBEq, elem_hit, elem_miss, elem_nil]; done) | ((repeat' (first | assumption | exact Sub.refl _ | refine Sub.push ?_ ?_ | exact HokR.fresh (by assumption) | refine Fresh.push ?_ | refine HokR.push ?_ ?_ ?_ | exact Grown.refl | refine GrownR.push ?_ ?_ ?_ | exact refsOK_ints | exact refsOK_pairs | exact Nat.le_refl _ | (simp only [wM, Nat.reduceAdd, Nat.reduceLT, Nat.reduceLeDiff]; done))); done) | omega | decide) only [callT w1, callT w2, d1, d2, wrap_i64, idx?_pos, Int.toNat_natCast, ↓wA, wB, resOf, Option.map_some, Option.map_none, List.map_cons, List.map_nil, List.nil_append, List.append_nil, List.cons_append, Nat.reduceBEq, List.getElem?_cons_zero, List.getElem?_cons_succ, List.getElem?_nil, Option.getD_some, Option.getD_none, cond_false, cond_true, and_true, true_and, Nat.zero_add, Nat.mul_one, Int.reduceBEq, Int.reduceBNe, Int.reduceLT, Int.reduceLE, Int.reduceAdd, Int.reduceSub, Int.reduceMul, decide_true, decide_false, Bool.not_true, Bool.not_false, beq_self_eq_true, bne_self_eq_false, and_self, List.isEmpty_nil, List.isEmpty_cons, Bool.true_or, Bool.false_or, List.set_cons_zero, List.set_cons_succ, List.length_cons, List.length_nil, Option.bind_some, List.all_cons, List.all_nil, Bool.or_true, Bool.true_and, Bool.and_true, Int.reduceToNat]
      exact ⟨_, rfl, Grown.en, .nilsl, by rw [smlE, if_neg ok], by rw [smlO, if_neg ok]; rfl⟩
  · have d1 : decide (1 ≤ n ∧ n ≤ 14) = false := decide_eq_false e1
    have ok : ¬ smlOK n r := fun h => e1 h.1
    simp (disch := first | (simp only [Nat.reduceBEq, elem_hit, elem_miss, elem_nil]; done) | ((repeat' (first | assumption | exact Sub.refl _ | refine Sub.push ?_ ?_ | exact HokR.fresh (by assumption) | refine Fresh.push ?_ | refine HokR.push ?_ ?_ ?_ | exact Grown.refl | refine GrownR.push ?_ ?_ ?_ | exact refsOK_ints | exact refsOK_pairs | exact Nat.le_refl _ | (simp only [wM, Nat.reduceAdd, Nat.reduceLT, Nat.reduceLeDiff]; done))); done) | omega | decide) only [callT w1, d1, wrap_i64, idx?_pos, Int.toNat_natCast, ↓wA, wB, resOf, Option.map_some, Option.map_none, List.map_cons, List.map_nil, List.nil_append, List.append_nil, List.cons_append, Nat.reduceBEq, List.getElem?_cons_zero, List.getElem?_cons_succ, List.getElem?_nil, Option.getD_some, Option.getD_none, cond_false, cond_true, and_true, true_and, Nat.zero_add, Nat.mul_one, Int.reduceBEq, Int.reduceBNe, Int.reduceLT, Int.reduceLE, Int.reduceAdd, Int.reduceSub, Int.reduceMul, decide_true, decide_false, Bool.not_true, Bool.not_false, beq_self_eq_true, bne_self_eq_false, and_self, List.isEmpty_nil, List.isEmpty_cons, Bool.true_or, Bool.false_or, List.set_cons_zero, List.set_cons_succ, List.length_cons, List.length_nil, Option.bind_some, List.all_cons, List.all_nil, Bool.or_true, Bool.true_and, Bool.and_true, Int.reduceToNat]
    exact ⟨_, rfl, Grown.en, .nilsl, by rw [smlE, if_neg ok], by rw [smlO, if_neg ok]; rfl⟩
end Go.Proofs.Ytpclkcamfainiaa
