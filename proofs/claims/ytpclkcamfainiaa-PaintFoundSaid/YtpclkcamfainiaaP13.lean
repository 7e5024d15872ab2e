/- Colourings without sums. -/
import Derived.Test.YtpclkcamfainiaaP12
import Derived.Test.YtpclkcamfainiaaP6
set_option linter.unusedSimpArgs false
set_option linter.unusedVariables false
set_option maxHeartbeats 4000000
set_option maxRecDepth 20000
namespace Go.Pt
open Go Go.Abs
theorem syL_none {P : Nat → Nat → Bool} {n x : Nat} : ∀ {f y : Nat}, syL P n x f y = none ↔ ∀ j, y ≤ j → j < y + f → x + j ≤ n → P x j = false
  | 0, y => ⟨fun _ j h1 h2 => by omega, fun _ => rfl⟩
  | f + 1, y => by
    rw [syL]
    by_cases h : x + y ≤ n
    · rw [if_pos h]
      by_cases hp : P x y = true
      · rw [if_pos hp]
        exact ⟨fun e => by simp at e, fun e => by have := e y (Nat.le_refl _) (by omega) h; rw [hp] at this; cases this⟩
      · rw [if_neg hp, syL_none]
        exact ⟨fun e j h1 h2 h3 => by
          by_cases hj : j = y
          · subst hj; simpa using hp
          · exact e j (by omega) (by omega) h3, fun e j h1 h2 h3 => e j (by omega) (by omega) h3⟩
    · rw [if_neg h]
      exact ⟨fun _ j h1 h2 h3 => by omega, fun _ => rfl⟩
theorem sxL_none {P : Nat → Nat → Bool} {n : Nat} : ∀ {f x : Nat}, sxL P n f x = none ↔ ∀ i, x ≤ i → i < x + f → syL P n i n i = none
  | 0, x => ⟨fun _ j h1 h2 => by omega, fun _ => rfl⟩
  | f + 1, x => by
    rw [sxL]
    cases hs : syL P n x n x with
    | some r => exact ⟨fun e => by simp at e, fun e => by have := e x (Nat.le_refl _) (by omega); rw [hs] at this; cases this⟩
    | none =>
      simp only
      rw [sxL_none]
      exact ⟨fun e j h1 h2 => by
        by_cases hj : j = x
        · subst hj; exact hs
        · exact e j (by omega) (by omega), fun e j h1 h2 => e j (by omega) (by omega)⟩
theorem sumO_none {zs : List Int} : sumO zs = none ↔ ∀ x y, 1 ≤ x → x ≤ y → x + y ≤ zs.length → sp zs x y = false := by
  rw [sumO, sxL_none]
  exact ⟨fun e x y h1 h2 h3 => syL_none.1 (e x h1 (by omega)) y h2 (by omega) h3, fun e x h1 h2 => syL_none.2 fun y h3 h4 h5 => e x y h1 h3 h5⟩
theorem lsL_true {zs : List Int} {n : Nat} : ∀ {f x : Nat}, lsL zs n f x = true ↔ ∀ j, x ≤ j → j < x + f → j + j ≤ n → sp zs j (n - j) = false
  | 0, y => ⟨fun _ j h1 h2 => by omega, fun _ => rfl⟩
  | f + 1, y => by
    rw [lsL]
    by_cases h : y + y ≤ n
    · rw [if_pos h]
      by_cases hp : sp zs y (n - y) = true
      · rw [if_pos hp]
        exact ⟨fun e => by simp at e, fun e => by have := e y (Nat.le_refl _) (by omega) h; rw [hp] at this; cases this⟩
      · rw [if_neg hp, lsL_true]
        exact ⟨fun e j h1 h2 h3 => by
          by_cases hj : j = y
          · subst hj; simpa using hp
          · exact e j (by omega) (by omega) h3, fun e j h1 h2 h3 => e j (by omega) (by omega) h3⟩
    · rw [if_neg h]
      exact ⟨fun _ j h1 h2 h3 => by omega, fun _ => rfl⟩
theorem lsF_true {zs : List Int} : lsF zs = true ↔ ∀ x, 1 ≤ x → x + x ≤ zs.length → sp zs x (zs.length - x) = false := by
  rw [lsF, lsL_true]
  exact ⟨fun e x h1 h2 => e x h1 (by omega) h2, fun e x h1 h2 h3 => e x h1 h3⟩
theorem getD_snoc {zs : List Int} {c : Int} {i : Nat} (h : i < zs.length) : (zs ++ [c]).getD i 0 = zs.getD i 0 := by
  simp only [List.getD_eq_getElem?_getD]
  rw [List.getElem?_append_left h]
theorem sp_snoc {zs : List Int} {c : Int} {x y : Nat} (hx : 1 ≤ x) (hy : 1 ≤ y) (h : x + y ≤ zs.length) : sp (zs ++ [c]) x y = sp zs x y := by
  rw [sp, sp, getD_snoc (by omega), getD_snoc (by omega), getD_snoc (by omega)]
theorem sum_snoc {zs : List Int} {c : Int} (h : sumO zs = none) : sumO (zs ++ [c]) = none ↔ lsF (zs ++ [c]) = true := by
  rw [sumO_none, lsF_true]
  have hl : (zs ++ [c]).length = zs.length + 1 := by simp
  rw [hl]
  refine ⟨fun e x h1 h2 => e x _ h1 (by omega) (by omega), fun e x y h1 h2 h3 => ?_⟩
  by_cases hxy : x + y ≤ zs.length
  · rw [sp_snoc h1 (by omega) hxy]
    exact sumO_none.1 h x y h1 h2 hxy
  · have := e x h1 (by omega)
    rw [show zs.length + 1 - x = y by omega] at this
    exact this
/-- The reference's search. -/
def refL (A : List Int → Option (List Int)) (zs : List Int) : Nat → Nat → Option (List Int)
  | 0, _ => none
  | k + 1, i => match A (zs ++ [(i : Int)]) with
    | some r => some r
    | none => refL A zs k (i + 1)
def refA (ok : List Int → Bool) (r : Nat) : Nat → List Int → Option (List Int)
  | 0, zs => if ok zs = true then some zs else none
  | f + 1, zs => if ok zs = true then refL (refA ok r f) zs r 0 else none
theorem refL_cols {F : List Int → Bool} {A : List Int → Option (List Int)} {B : List Int → List (List Int)} {zs : List Int} (h : ∀ c : Nat, A (zs ++ [(c : Int)]) = if F (zs ++ [(c : Int)]) = true then (B (zs ++ [(c : Int)])).head? else none) :
    ∀ k i, refL A zs k i = (colsL F B zs k i).head?
  | 0, _ => rfl
  | k + 1, i => by
    rw [refL, colsL, h i, refL_cols h k (i + 1)]
    by_cases hF : F (zs ++ [(i : Int)]) = true
    · rw [if_pos hF, if_pos hF, List.head?_append]
      cases (B (zs ++ [(i : Int)])).head? <;> rfl
    · rw [if_neg hF, if_neg hF, List.nil_append]
theorem refA_all {ok F : List Int → Bool} {r : Nat} (h : ∀ zs c, ok zs = true → (ok (zs ++ [c]) = true ↔ F (zs ++ [c]) = true)) : ∀ f zs, ok zs = true → refA ok r f zs = (allC F r f zs).head?
  | 0, zs, hk => by rw [refA, if_pos hk, allC]; rfl
  | f + 1, zs, hk => by
    rw [refA, if_pos hk, allC]
    refine refL_cols (fun c => ?_) r 0
    by_cases hF : F (zs ++ [(c : Int)]) = true
    · rw [if_pos hF]
      exact refA_all h f _ ((h zs c hk).2 hF)
    · rw [if_neg hF]
      have : ¬ ok (zs ++ [(c : Int)]) = true := fun e => hF ((h zs c hk).1 e)
      cases f <;> rw [refA, if_neg this]
def smOk (zs : List Int) : Bool := (sumO zs).isNone
end Go.Pt
namespace Go.Proofs.Ytpclkcamfainiaa
open Go Go.Abs Go.Pt

theorem pfound (r : AV) (c : Nat) (o : Option (List Int)) (h : Hp) (hk : Hok h) (hr : HD c r h.blks o) :
    Evals Try.prog tab false (.func 40) [r] h (.tu [r, .int .i64 (if o.isSome = true then 0 else 5)], h) := by
  have hrf : refOK h.next r = true := by
    cases o with
    | none => cases hr; rfl
    | some cl => exact hr.1.ref hk
  refine evals_pure c40 rfl hk ?_ (by simp [refOK, refsOK_cons, refsOK_nil, hrf])
  simp only [sf40, initS_cons, initS_nil]
  cases o with
  | none =>
    cases hr
    simp (disch := first | (simp only [Nat.reduceBEq, elem_hit, elem_miss, elem_nil]; done) | ((repeat' (first | assumption | exact Sub.refl _ | refine Sub.push ?_ ?_ | exact HokR.fresh (by assumption) | refine Fresh.push ?_ | refine HokR.push ?_ ?_ ?_ | exact Grown.refl | refine GrownR.push ?_ ?_ ?_ | exact refsOK_ints | exact refsOK_pairs | exact Nat.le_refl _ | (simp only [wM, Nat.reduceAdd, Nat.reduceLT, Nat.reduceLeDiff]; done))); done) | omega | decide) only [sBin_nil, wrap_i64, idx?_pos, Int.toNat_natCast, ↓wA, wB, resOf, Option.map_some, Option.map_none, List.map_cons, List.map_nil, List.nil_append, List.append_nil, List.cons_append, Nat.reduceBEq, List.getElem?_cons_zero, List.getElem?_cons_succ, List.getElem?_nil, Option.getD_some, Option.getD_none, cond_false, cond_true, and_true, true_and, Nat.zero_add, Nat.mul_one, Int.reduceBEq, Int.reduceBNe, Int.reduceLT, Int.reduceLE, Int.reduceAdd, Int.reduceSub, Int.reduceMul, decide_true, decide_false, Bool.not_true, Bool.not_false, beq_self_eq_true, bne_self_eq_false, and_self, List.isEmpty_nil, List.isEmpty_cons, Bool.true_or, Bool.false_or, List.set_cons_zero, List.set_cons_succ, List.length_cons, List.length_nil, Option.bind_some, List.all_cons, List.all_nil, Bool.or_true, Bool.true_and, Bool.and_true, Int.reduceToNat]
    exact ⟨_, rfl, rfl, by (repeat' (first | assumption | exact Sub.refl _ | refine Sub.push ?_ ?_ | exact HokR.fresh (by assumption) | refine Fresh.push ?_ | refine HokR.push ?_ ?_ ?_ | exact Grown.refl | refine GrownR.push ?_ ?_ ?_ | exact refsOK_ints | exact refsOK_pairs | exact Nat.le_refl _ | (simp only [wM, Nat.reduceAdd, Nat.reduceLT, Nat.reduceLeDiff]; done)))⟩
  | some cl =>
    simp (disch := first | (simp only [Nat.reduceBEq, elem_hit, elem_miss, elem_nil]; done) | ((repeat' (first | assumption | exact Sub.refl _ | refine Sub.push ?_ ?_ | exact HokR.fresh (by assumption) | refine Fresh.push ?_ | refine HokR.push ?_ ?_ ?_ | exact Grown.refl | refine GrownR.push ?_ ?_ ?_ | exact refsOK_ints | exact refsOK_pairs | exact Nat.le_refl _ | (simp only [wM, Nat.reduceAdd, Nat.reduceLT, Nat.reduceLeDiff]; done))); done) | omega | decide) only [(hr.1.eql hr.2).1, wrap_i64, idx?_pos, Int.toNat_natCast, ↓wA, wB, resOf, Option.map_some, Option.map_none, List.map_cons, List.map_nil, List.nil_append, List.append_nil, List.cons_append, Nat.reduceBEq, List.getElem?_cons_zero, List.getElem?_cons_succ, List.getElem?_nil, Option.getD_some, Option.getD_none, cond_false, cond_true, and_true, true_and, Nat.zero_add, Nat.mul_one, Int.reduceBEq, Int.reduceBNe, Int.reduceLT, Int.reduceLE, Int.reduceAdd, Int.reduceSub, Int.reduceMul, decide_true, decide_false, Bool.not_true, Bool.not_false, beq_self_eq_true, bne_self_eq_false, and_self, List.isEmpty_nil, List.isEmpty_cons, Bool.true_or, Bool.false_or, List.set_cons_zero, List.set_cons_succ, List.length_cons, List.length_nil, Option.bind_some, List.all_cons, List.all_nil, Bool.or_true, Bool.true_and, Bool.and_true, Int.reduceToNat]
    exact ⟨_, rfl, rfl, by (repeat' (first | assumption | exact Sub.refl _ | refine Sub.push ?_ ?_ | exact HokR.fresh (by assumption) | refine Fresh.push ?_ | refine HokR.push ?_ ?_ ?_ | exact Grown.refl | refine GrownR.push ?_ ?_ ?_ | exact refsOK_ints | exact refsOK_pairs | exact Nat.le_refl _ | (simp only [wM, Nat.reduceAdd, Nat.reduceLT, Nat.reduceLeDiff]; done)))⟩

theorem lfound (r1 r2 : AV) (o : Option (List Int)) (c d : Nat) (h : Hp) (hk : Hok h) (h1 : HD c r1 h.blks o) (h2 : HD d r2 h.blks o) (hb : ∀ cl, o = some cl → cl.length ≤ 1000) :
    Evals Try.prog tab false (.func 21) [r1, .int .i64 (if o.isSome = true then 0 else 5), r2] h (.bool true, h) := by
  refine evals_pure c21 rfl hk ?_
  simp only [sf21, initS_cons, initS_nil]
  cases o with
  | none =>
    cases h1
    cases h2
    have e5 : (if (none : Option (List Int)).isSome = true then (0 : Int) else 5) = 5 := rfl
    simp (disch := first | (simp only [Nat.reduceBEq, elem_hit, elem_miss, elem_nil]; done) | ((repeat' (first | assumption | exact Sub.refl _ | refine Sub.push ?_ ?_ | exact HokR.fresh (by assumption) | refine Fresh.push ?_ | refine HokR.push ?_ ?_ ?_ | exact Grown.refl | refine GrownR.push ?_ ?_ ?_ | exact refsOK_ints | exact refsOK_pairs | exact Nat.le_refl _ | (simp only [wM, Nat.reduceAdd, Nat.reduceLT, Nat.reduceLeDiff]; done))); done) | omega | decide) only [sBin_nil, sLen_nil, e5, wrap_i64, idx?_pos, Int.toNat_natCast, ↓wA, wB, resOf, Option.map_some, Option.map_none, List.map_cons, List.map_nil, List.nil_append, List.append_nil, List.cons_append, Nat.reduceBEq, List.getElem?_cons_zero, List.getElem?_cons_succ, List.getElem?_nil, Option.getD_some, Option.getD_none, cond_false, cond_true, and_true, true_and, Nat.zero_add, Nat.mul_one, Int.reduceBEq, Int.reduceBNe, Int.reduceLT, Int.reduceLE, Int.reduceAdd, Int.reduceSub, Int.reduceMul, decide_true, decide_false, Bool.not_true, Bool.not_false, beq_self_eq_true, bne_self_eq_false, and_self, List.isEmpty_nil, List.isEmpty_cons, Bool.true_or, Bool.false_or, List.set_cons_zero, List.set_cons_succ, List.length_cons, List.length_nil, Option.bind_some, List.all_cons, List.all_nil, Bool.or_true, Bool.true_and, Bool.and_true, Int.reduceToNat]
    exact ⟨_, rfl, rfl, by (repeat' (first | assumption | exact Sub.refl _ | refine Sub.push ?_ ?_ | exact HokR.fresh (by assumption) | refine Fresh.push ?_ | refine HokR.push ?_ ?_ ?_ | exact Grown.refl | refine GrownR.push ?_ ?_ ?_ | exact refsOK_ints | exact refsOK_pairs | exact Nat.le_refl _ | (simp only [wM, Nat.reduceAdd, Nat.reduceLT, Nat.reduceLeDiff]; done)))⟩
  | some cl =>
    have e0 : (if (some cl).isSome = true then (0 : Int) else 5) = 0 := rfl
    have hl := hb cl rfl
    have sm := f42 r1 r2 cl cl h.en hk h1.1.ints h2.1.ints (by omega) (by omega)
    rw [decide_eq_true (rfl : cl = cl)] at sm
    simp (disch := first | (simp only [Nat.reduceBEq, elem_hit, elem_miss, elem_nil]; done) | ((repeat' (first | assumption | exact Sub.refl _ | refine Sub.push ?_ ?_ | exact HokR.fresh (by assumption) | refine Fresh.push ?_ | refine HokR.push ?_ ?_ ?_ | exact Grown.refl | refine GrownR.push ?_ ?_ ?_ | exact refsOK_ints | exact refsOK_pairs | exact Nat.le_refl _ | (simp only [wM, Nat.reduceAdd, Nat.reduceLT, Nat.reduceLeDiff]; done))); done) | omega | decide) only [(h2.1.eql h2.2).1, callT sm, e0, wrap_i64, idx?_pos, Int.toNat_natCast, ↓wA, wB, resOf, Option.map_some, Option.map_none, List.map_cons, List.map_nil, List.nil_append, List.append_nil, List.cons_append, Nat.reduceBEq, List.getElem?_cons_zero, List.getElem?_cons_succ, List.getElem?_nil, Option.getD_some, Option.getD_none, cond_false, cond_true, and_true, true_and, Nat.zero_add, Nat.mul_one, Int.reduceBEq, Int.reduceBNe, Int.reduceLT, Int.reduceLE, Int.reduceAdd, Int.reduceSub, Int.reduceMul, decide_true, decide_false, Bool.not_true, Bool.not_false, beq_self_eq_true, bne_self_eq_false, and_self, List.isEmpty_nil, List.isEmpty_cons, Bool.true_or, Bool.false_or, List.set_cons_zero, List.set_cons_succ, List.length_cons, List.length_nil, Option.bind_some, List.all_cons, List.all_nil, Bool.or_true, Bool.true_and, Bool.and_true, Int.reduceToNat]
    exact ⟨_, rfl, rfl, by (repeat' (first | assumption | exact Sub.refl _ | refine Sub.push ?_ ?_ | exact HokR.fresh (by assumption) | refine Fresh.push ?_ | refine HokR.push ?_ ?_ ?_ | exact Grown.refl | refine GrownR.push ?_ ?_ ?_ | exact refsOK_ints | exact refsOK_pairs | exact Nat.le_refl _ | (simp only [wM, Nat.reduceAdd, Nat.reduceLT, Nat.reduceLeDiff]; done)))⟩

theorem f28 (n r : Nat) (hn : n ≤ 100) (hr : r ≤ 100) :
    ∀ (f : Nat) (zs : List Int) (s : AV) (h : Hp) (d : Nat), zs.length + f = n → Hok h → Own d h.blks .i64 s zs → s ≠ .nilsl → d ≤ h.next →
    ∃ v h', Evals Try.prog tab false (.func 28) [.int .i64 n, .int .i64 r, s] h (v, h') ∧ Grown h h' ∧ HD d v h'.blks (refA smOk r f zs) := by
  intro f
  induction f with
  | zero =>
    intro zs s h d hlen hk os hne hd
    refine evals_q c28 (fun v h' => HD d v h'.blks (refA smOk r 0 zs)) rfl hk ?_ (fun v h1 g q => ⟨fun hr => q.lk hr (fun id hid => (g.lkB hid).symm), fun _ => q⟩)
    simp only [sf28, initS_cons, initS_nil]
    obtain ⟨r1, h1, ev1, g1, q1⟩ := f26 s zs h.en hk os.ints (by omega)
    have gh1 : Grown h h1 := GrownR.of_en g1
    have os1 := os.sub (gh1.sub hk)
    have e0 : ((zs.length : Int) == (n : Int)) = true := by simp; omega
    cases hs : sumO zs with
    | some p =>
      rw [hs] at q1
      simp (disch := first | (simp only [Nat.reduceBEq, elem_hit, elem_miss, elem_nil]; done) | ((repeat' (first | assumption | exact Sub.refl _ | refine Sub.push ?_ ?_ | exact HokR.fresh (by assumption) | refine Fresh.push ?_ | refine HokR.push ?_ ?_ ?_ | exact Grown.refl | refine GrownR.push ?_ ?_ ?_ | exact refsOK_ints | exact refsOK_pairs | exact Nat.le_refl _ | (simp only [wM, Nat.reduceAdd, Nat.reduceLT, Nat.reduceLeDiff]; done))); done) | omega | decide) only [callT ev1, (q1.1.eql q1.2).2, wrap_i64, idx?_pos, Int.toNat_natCast, ↓wA, wB, resOf, Option.map_some, Option.map_none, List.map_cons, List.map_nil, List.nil_append, List.append_nil, List.cons_append, Nat.reduceBEq, List.getElem?_cons_zero, List.getElem?_cons_succ, List.getElem?_nil, Option.getD_some, Option.getD_none, cond_false, cond_true, and_true, true_and, Nat.zero_add, Nat.mul_one, Int.reduceBEq, Int.reduceBNe, Int.reduceLT, Int.reduceLE, Int.reduceAdd, Int.reduceSub, Int.reduceMul, decide_true, decide_false, Bool.not_true, Bool.not_false, beq_self_eq_true, bne_self_eq_false, and_self, List.isEmpty_nil, List.isEmpty_cons, Bool.true_or, Bool.false_or, List.set_cons_zero, List.set_cons_succ, List.length_cons, List.length_nil, Option.bind_some, List.all_cons, List.all_nil, Bool.or_true, Bool.true_and, Bool.and_true, Int.reduceToNat]
      refine ⟨_, rfl, gh1, ?_⟩
      rw [refA, if_neg (by simp [smOk, hs])]
      rfl
    | none =>
      rw [hs] at q1
      cases q1
      simp (disch := first | (simp only [Nat.reduceBEq, elem_hit, elem_miss, elem_nil]; done) | ((repeat' (first | assumption | exact Sub.refl _ | refine Sub.push ?_ ?_ | exact HokR.fresh (by assumption) | refine Fresh.push ?_ | refine HokR.push ?_ ?_ ?_ | exact Grown.refl | refine GrownR.push ?_ ?_ ?_ | exact refsOK_ints | exact refsOK_pairs | exact Nat.le_refl _ | (simp only [wM, Nat.reduceAdd, Nat.reduceLT, Nat.reduceLeDiff]; done))); done) | omega | decide) only [callT ev1, sBin_nil', os1.len, e0, wrap_i64, idx?_pos, Int.toNat_natCast, ↓wA, wB, resOf, Option.map_some, Option.map_none, List.map_cons, List.map_nil, List.nil_append, List.append_nil, List.cons_append, Nat.reduceBEq, List.getElem?_cons_zero, List.getElem?_cons_succ, List.getElem?_nil, Option.getD_some, Option.getD_none, cond_false, cond_true, and_true, true_and, Nat.zero_add, Nat.mul_one, Int.reduceBEq, Int.reduceBNe, Int.reduceLT, Int.reduceLE, Int.reduceAdd, Int.reduceSub, Int.reduceMul, decide_true, decide_false, Bool.not_true, Bool.not_false, beq_self_eq_true, bne_self_eq_false, and_self, List.isEmpty_nil, List.isEmpty_cons, Bool.true_or, Bool.false_or, List.set_cons_zero, List.set_cons_succ, List.length_cons, List.length_nil, Option.bind_some, List.all_cons, List.all_nil, Bool.or_true, Bool.true_and, Bool.and_true, Int.reduceToNat]
      refine ⟨_, rfl, gh1, ?_⟩
      rw [refA, if_pos (by simp [smOk, hs])]
      exact ⟨os1, hne⟩
  | succ f IH =>
    intro zs s h d hlen hk os hne hd
    refine evals_q c28 (fun v h' => HD d v h'.blks (refA smOk r (f + 1) zs)) rfl hk ?_ (fun v h1 g q => ⟨fun hr => q.lk hr (fun id hid => (g.lkB hid).symm), fun _ => q⟩)
    simp only [sf28, initS_cons, initS_nil]
    obtain ⟨r1, h1, ev1, g1, q1⟩ := f26 s zs h.en hk os.ints (by omega)
    have gh1 : Grown h h1 := GrownR.of_en g1
    have os1 := os.sub (gh1.sub hk)
    have e0 : ((zs.length : Int) == (n : Int)) = false := by simp; omega
    cases hs : sumO zs with
    | some p =>
      rw [hs] at q1
      simp (disch := first | (simp only [Nat.reduceBEq, elem_hit, elem_miss, elem_nil]; done) | ((repeat' (first | assumption | exact Sub.refl _ | refine Sub.push ?_ ?_ | exact HokR.fresh (by assumption) | refine Fresh.push ?_ | refine HokR.push ?_ ?_ ?_ | exact Grown.refl | refine GrownR.push ?_ ?_ ?_ | exact refsOK_ints | exact refsOK_pairs | exact Nat.le_refl _ | (simp only [wM, Nat.reduceAdd, Nat.reduceLT, Nat.reduceLeDiff]; done))); done) | omega | decide) only [callT ev1, (q1.1.eql q1.2).2, wrap_i64, idx?_pos, Int.toNat_natCast, ↓wA, wB, resOf, Option.map_some, Option.map_none, List.map_cons, List.map_nil, List.nil_append, List.append_nil, List.cons_append, Nat.reduceBEq, List.getElem?_cons_zero, List.getElem?_cons_succ, List.getElem?_nil, Option.getD_some, Option.getD_none, cond_false, cond_true, and_true, true_and, Nat.zero_add, Nat.mul_one, Int.reduceBEq, Int.reduceBNe, Int.reduceLT, Int.reduceLE, Int.reduceAdd, Int.reduceSub, Int.reduceMul, decide_true, decide_false, Bool.not_true, Bool.not_false, beq_self_eq_true, bne_self_eq_false, and_self, List.isEmpty_nil, List.isEmpty_cons, Bool.true_or, Bool.false_or, List.set_cons_zero, List.set_cons_succ, List.length_cons, List.length_nil, Option.bind_some, List.all_cons, List.all_nil, Bool.or_true, Bool.true_and, Bool.and_true, Int.reduceToNat]
      refine ⟨_, rfl, gh1, ?_⟩
      rw [refA, if_neg (by simp [smOk, hs])]
      rfl
    | none =>
      rw [hs] at q1
      cases q1
      simp (disch := first | (simp only [Nat.reduceBEq, elem_hit, elem_miss, elem_nil]; done) | ((repeat' (first | assumption | exact Sub.refl _ | refine Sub.push ?_ ?_ | exact HokR.fresh (by assumption) | refine Fresh.push ?_ | refine HokR.push ?_ ?_ ?_ | exact Grown.refl | refine GrownR.push ?_ ?_ ?_ | exact refsOK_ints | exact refsOK_pairs | exact Nat.le_refl _ | (simp only [wM, Nat.reduceAdd, Nat.reduceLT, Nat.reduceLeDiff]; done))); done) | omega | decide) only [callT ev1, sBin_nil', os1.len, e0, wrap_i64, idx?_pos, Int.toNat_natCast, ↓wA, wB, resOf, Option.map_some, Option.map_none, List.map_cons, List.map_nil, List.nil_append, List.append_nil, List.cons_append, Nat.reduceBEq, List.getElem?_cons_zero, List.getElem?_cons_succ, List.getElem?_nil, Option.getD_some, Option.getD_none, cond_false, cond_true, and_true, true_and, Nat.zero_add, Nat.mul_one, Int.reduceBEq, Int.reduceBNe, Int.reduceLT, Int.reduceLE, Int.reduceAdd, Int.reduceSub, Int.reduceMul, decide_true, decide_false, Bool.not_true, Bool.not_false, beq_self_eq_true, bne_self_eq_false, and_self, List.isEmpty_nil, List.isEmpty_cons, Bool.true_or, Bool.false_or, List.set_cons_zero, List.set_cons_succ, List.length_cons, List.length_nil, Option.bind_some, List.all_cons, List.all_nil, Bool.or_true, Bool.true_and, Bool.and_true, Int.reduceToNat]
      refine wloop (fun mm ss => ∃ (i : Nat) (h3 : Hp) (u6 u8 u11 u15 u19 u32 : AV), (mm = r - i) ∧ (i ≤ r ∧ Grown h h3 ∧ refA smOk r (f + 1) zs = refL (refA smOk r f) zs (r - i) i) ∧ ss = { fr := [(0, .int .i64 n), (1, .int .i64 r), (2, s), (6, u6), (7, .int .i64 i), (8, u8), (11, u11), (15, u15), (19, u19), (32, u32)], hp := h3 }) (r) ?_ ?_
      ·
        refine ⟨0, h1, _, _, _, _, _, _, by omega, ⟨by omega, gh1, by rw [refA, if_pos (by simp [smOk, hs])]; rfl⟩, rfl⟩
      rintro nA sA ⟨i, h3, u6, u8, u11, u15, u19, u32, hnA, ⟨hi, g3, hg⟩, rfl⟩
      have k3 := g3.ok hk
      simp (disch := first | (simp only [Nat.reduceBEq, elem_hit, elem_miss, elem_nil]; done) | ((repeat' (first | assumption | exact Sub.refl _ | refine Sub.push ?_ ?_ | exact HokR.fresh (by assumption) | refine Fresh.push ?_ | refine HokR.push ?_ ?_ ?_ | exact Grown.refl | refine GrownR.push ?_ ?_ ?_ | exact refsOK_ints | exact refsOK_pairs | exact Nat.le_refl _ | (simp only [wM, Nat.reduceAdd, Nat.reduceLT, Nat.reduceLeDiff]; done))); done) | omega | decide) only [wrap_i64, idx?_pos, Int.toNat_natCast, ↓wA, wB, resOf, Option.map_some, Option.map_none, List.map_cons, List.map_nil, List.nil_append, List.append_nil, List.cons_append, Nat.reduceBEq, List.getElem?_cons_zero, List.getElem?_cons_succ, List.getElem?_nil, Option.getD_some, Option.getD_none, cond_false, cond_true, and_true, true_and, Nat.zero_add, Nat.mul_one, Int.reduceBEq, Int.reduceBNe, Int.reduceLT, Int.reduceLE, Int.reduceAdd, Int.reduceSub, Int.reduceMul, decide_true, decide_false, Bool.not_true, Bool.not_false, beq_self_eq_true, bne_self_eq_false, and_self, List.isEmpty_nil, List.isEmpty_cons, Bool.true_or, Bool.false_or, List.set_cons_zero, List.set_cons_succ, List.length_cons, List.length_nil, Option.bind_some, List.all_cons, List.all_nil, Bool.or_true, Bool.true_and, Bool.and_true, Int.reduceToNat]
      refine ifThen_intro (fun e => ?_) (fun e => ?_) <;> have eq := e <;> try simp [-List.getD_eq_getElem?_getD] at eq
      · have os3 := os.sub (g3.sub hk)
        have O : Own h3.next (h3.pu []).blks .i64 (.sl h3.next 0 0 (some 0) 1) [] := Own.fresh (Nat.le_refl _) rfl rfl rfl (Nat.le_refl _)
        obtain ⟨s1, h4, e4, o4, g4, _⟩ := own_appI (h0 := h3) (h := h3.pu []) k3 (Grown.pu Grown.refl rfl) O (os3.ints.sub (Sub.pu k3)) (by rw [List.length_nil]; omega)
        rw [List.nil_append] at o4
        obtain ⟨s2, h5, e5, o5, g5, n5⟩ := own_app1 (v := (i : Int)) k3 g4 o4 (by omega)
        obtain ⟨v, h6, ev, g6, q6⟩ := IH (zs ++ [(i : Int)]) s2 h5 h3.next (by rw [List.length_append, List.length_singleton]; omega) (g5.ok k3) o5 n5 g5.next
        have g6' : Grown h h6 := GrownR.trans g3 (GrownR.trans g5 g6)
        rw [show r - i = (r - (i + 1)) + 1 by omega, refL] at hg
        cases hrc : refA smOk r f (zs ++ [(i : Int)]) with
        | none =>
          rw [hrc] at q6 hg
          cases q6
          simp (disch := first | (simp only [Nat.reduceBEq, elem_hit, elem_miss, elem_nil]; done) | ((repeat' (first | assumption | exact Sub.refl _ | refine Sub.push ?_ ?_ | exact HokR.fresh (by assumption) | refine Fresh.push ?_ | refine HokR.push ?_ ?_ ?_ | exact Grown.refl | refine GrownR.push ?_ ?_ ?_ | exact refsOK_ints | exact refsOK_pairs | exact Nat.le_refl _ | (simp only [wM, Nat.reduceAdd, Nat.reduceLT, Nat.reduceLeDiff]; done))); done) | omega | decide) only [e, e4, e5, callT ev, sBin_nil', wrap_i64, idx?_pos, Int.toNat_natCast, ↓wA, wB, resOf, Option.map_some, Option.map_none, List.map_cons, List.map_nil, List.nil_append, List.append_nil, List.cons_append, Nat.reduceBEq, List.getElem?_cons_zero, List.getElem?_cons_succ, List.getElem?_nil, Option.getD_some, Option.getD_none, cond_false, cond_true, and_true, true_and, Nat.zero_add, Nat.mul_one, Int.reduceBEq, Int.reduceBNe, Int.reduceLT, Int.reduceLE, Int.reduceAdd, Int.reduceSub, Int.reduceMul, decide_true, decide_false, Bool.not_true, Bool.not_false, beq_self_eq_true, bne_self_eq_false, and_self, List.isEmpty_nil, List.isEmpty_cons, Bool.true_or, Bool.false_or, List.set_cons_zero, List.set_cons_succ, List.length_cons, List.length_nil, Option.bind_some, List.all_cons, List.all_nil, Bool.or_true, Bool.true_and, Bool.and_true, Int.reduceToNat]
          refine ⟨_, ?_, i + 1, h6, _, _, _, _, _, _, rfl, ?_, rfl⟩
          · omega
          exact ⟨by omega, g6', hg⟩
        | some c5 =>
          rw [hrc] at q6 hg
          simp (disch := first | (simp only [Nat.reduceBEq, elem_hit, elem_miss, elem_nil]; done) | ((repeat' (first | assumption | exact Sub.refl _ | refine Sub.push ?_ ?_ | exact HokR.fresh (by assumption) | refine Fresh.push ?_ | refine HokR.push ?_ ?_ ?_ | exact Grown.refl | refine GrownR.push ?_ ?_ ?_ | exact refsOK_ints | exact refsOK_pairs | exact Nat.le_refl _ | (simp only [wM, Nat.reduceAdd, Nat.reduceLT, Nat.reduceLeDiff]; done))); done) | omega | decide) only [e, e4, e5, callT ev, (q6.1.eql q6.2).2, wrap_i64, idx?_pos, Int.toNat_natCast, ↓wA, wB, resOf, Option.map_some, Option.map_none, List.map_cons, List.map_nil, List.nil_append, List.append_nil, List.cons_append, Nat.reduceBEq, List.getElem?_cons_zero, List.getElem?_cons_succ, List.getElem?_nil, Option.getD_some, Option.getD_none, cond_false, cond_true, and_true, true_and, Nat.zero_add, Nat.mul_one, Int.reduceBEq, Int.reduceBNe, Int.reduceLT, Int.reduceLE, Int.reduceAdd, Int.reduceSub, Int.reduceMul, decide_true, decide_false, Bool.not_true, Bool.not_false, beq_self_eq_true, bne_self_eq_false, and_self, List.isEmpty_nil, List.isEmpty_cons, Bool.true_or, Bool.false_or, List.set_cons_zero, List.set_cons_succ, List.length_cons, List.length_nil, Option.bind_some, List.all_cons, List.all_nil, Bool.or_true, Bool.true_and, Bool.and_true, Int.reduceToNat]
          refine ⟨_, rfl, g6', ?_⟩
          rw [hg]
          exact ⟨q6.1.le (by have := g3.next; omega), q6.2⟩
      · simp (disch := first | (simp only [Nat.reduceBEq, elem_hit, elem_miss, elem_nil]; done) | ((repeat' (first | assumption | exact Sub.refl _ | refine Sub.push ?_ ?_ | exact HokR.fresh (by assumption) | refine Fresh.push ?_ | refine HokR.push ?_ ?_ ?_ | exact Grown.refl | refine GrownR.push ?_ ?_ ?_ | exact refsOK_ints | exact refsOK_pairs | exact Nat.le_refl _ | (simp only [wM, Nat.reduceAdd, Nat.reduceLT, Nat.reduceLeDiff]; done))); done) | omega | decide) only [e, wrap_i64, idx?_pos, Int.toNat_natCast, ↓wA, wB, resOf, Option.map_some, Option.map_none, List.map_cons, List.map_nil, List.nil_append, List.append_nil, List.cons_append, Nat.reduceBEq, List.getElem?_cons_zero, List.getElem?_cons_succ, List.getElem?_nil, Option.getD_some, Option.getD_none, cond_false, cond_true, and_true, true_and, Nat.zero_add, Nat.mul_one, Int.reduceBEq, Int.reduceBNe, Int.reduceLT, Int.reduceLE, Int.reduceAdd, Int.reduceSub, Int.reduceMul, decide_true, decide_false, Bool.not_true, Bool.not_false, beq_self_eq_true, bne_self_eq_false, and_self, List.isEmpty_nil, List.isEmpty_cons, Bool.true_or, Bool.false_or, List.set_cons_zero, List.set_cons_succ, List.length_cons, List.length_nil, Option.bind_some, List.all_cons, List.all_nil, Bool.or_true, Bool.true_and, Bool.and_true, Int.reduceToNat]
        refine ⟨_, rfl, g3, ?_⟩
        rw [hg, show r - i = 0 by omega, refL]
        rfl
end Go.Proofs.Ytpclkcamfainiaa
