/- Laws of shift: proper colourings, the best one. -/
import Derived.Test.YtnaiadkgjhmopaaS24
set_option linter.unusedSimpArgs false
set_option linter.unusedVariables false
set_option maxHeartbeats 4000000
set_option maxRecDepth 20000
namespace Go.Abs
theorem sBS_3v {h : Hp} {a b c : AV} (pa : a.parts = some [a] ∧ a.isCell = true) (pb : b.parts = some [b] ∧ b.isCell = true) (pc : c.parts = some [c] ∧ c.isCell = true) :
    sBS [.nilsl] 3 1 h [(0, a), (1, b), (2, c)] = some (.sl h.next 0 3 (some 3) 1, { next := h.next + 1, blks := (h.next, { cells := [a, b, c], ch := h.next, wr := true }) :: h.blks, loops := h.loops, base := h.base, esc := h.esc }) := by
  have : fillA (fun i => some (i * 1, 1)) (repl [.nilsl] 3) [(0, a), (1, b), (2, c)] = some [a, b, c] := by
    simp only [fillA, pa.1, pb.1, pc.1]
    rfl
  simp only [sBS, this]
end Go.Abs
namespace Go.Sh
theorem trotter_proper {l : List Span} : IsProper l (trotter l) := fun i j hi hj ho he => by
  have hlt : (l.take i).length = i := by simp; omega
  have e1 : (trotter l).getD i 0 = mex (max 0 (3 * (leveled l).getD i 0 - 5)) (takenU (sg l i) l (onl (troR (leveled l)) l i) i) := by
    have := onl_get (troR (leveled l)) l hi
    show (onl (troR (leveled l)) l l.length).getD i 0 = _
    rw [this]
    show mex (max 0 (3 * (leveled l).getD (l.take i).length 0 - 5)) (Sh.taken (sg l i) (l.take i) (onl (troR (leveled l)) l i)) = _
    rw [Sh.taken, hlt, takenU_take _ _ _ _ (Nat.le_refl _)]
  have h1 := (mex_spec (takenU (sg l i) l (onl (troR (leveled l)) l i) i) (max 0 (3 * (leveled l).getD i 0 - 5))).2.1
  rw [← e1] at h1
  refine h1 (mem_takenU.2 ⟨j, hj, ho, ?_⟩)
  rw [onl_get _ _ hj, ← he]
  exact (onl_get (troR (leveled l)) l (show j < l.length by omega)).symm
/-- Another colouring. -/
def othU (ys : List Int) : Nat → List Int
  | 0 => []
  | i + 1 => othU ys i ++ [if i < ys.length then ys.getD i 0 % 6 else (i : Int)]
theorem othU_len (ys : List Int) : ∀ i, (othU ys i).length = i
  | 0 => rfl
  | i + 1 => by simp [othU, othU_len ys i]
theorem othU_bd (ys : List Int) : ∀ i, ∀ z ∈ othU ys i, 0 ≤ z ∧ z ≤ 6 + i
  | 0, z, h => by simp [othU] at h
  | i + 1, z, h => by
    simp only [othU, List.mem_append, List.mem_singleton] at h
    rcases h with h | h
    · have := othU_bd ys i z h
      omega
    · split at h
      · have h1 := Int.emod_nonneg (ys.getD i 0) (show (6 : Int) ≠ 0 by omega)
        have h2 := Int.emod_lt_of_pos (ys.getD i 0) (show (0 : Int) < 6 by omega)
        omega
      · omega
end Go.Sh
namespace Go.Proofs.Ytnaiadkgjhmopaa
open Go Go.Abs Go.Sh

theorem f8 (a : AV) (x : List (Int × Int)) (b : AV) (ys : List Int) (h : Hp) (hk : Hok h) (ha : Pairs16 h.blks a x) (hx : ∀ p ∈ x, 0 ≤ p.1 ∧ p.1 ≤ 65535 ∧ 0 ≤ p.2 ∧ p.2 ≤ 65535) (hxl : x.length ≤ maxLen)
    (hb' : Ints h.blks .u8 b ys) (hys : ∀ z ∈ ys, 0 ≤ z ∧ z ≤ 255) (hyl : ys.length ≤ maxLen) :
    ∃ h', Evals Try.prog tab false (.func 8) [a, b] h (.bool true, h') := by
  refine ⟨h, evals_pure c8 rfl hk ?_⟩
  simp only [sf8, initS_cons, initS_nil]
  unfold maxLen at hxl hyl
  have hl := made_len 40 x
  have hb := made_bad (place := 40) (by omega) x
  simp (disch := first | (simp only [Nat.reduceBEq, elem_hit, elem_miss, elem_nil]; done) | ((repeat' (first | assumption | exact Sub.refl _ | refine Sub.push ?_ ?_ | exact HokR.fresh (by assumption) | refine Fresh.push ?_ | refine HokR.push ?_ ?_ ?_ | exact Grown.refl | refine GrownR.push ?_ ?_ ?_ | exact refsOK_ints | exact refsOK_pairs | exact Nat.le_refl _ | (simp only [wM, Nat.reduceAdd, Nat.reduceLT, Nat.reduceLeDiff]; done))); done) | omega | decide) only [wrap_i64, idx?_pos, Int.toNat_natCast, ↓wA, wB, resOf, Option.map_some, Option.map_none, List.map_cons, List.map_nil, List.nil_append, List.append_nil, List.cons_append, Nat.reduceBEq, List.getElem?_cons_zero, List.getElem?_cons_succ, List.getElem?_nil, Option.getD_some, Option.getD_none, cond_false, cond_true, and_true, true_and, Nat.zero_add, Nat.mul_one, Int.reduceBEq, Int.reduceBNe, Int.reduceLT, Int.reduceLE, Int.reduceAdd, Int.reduceSub, Int.reduceMul, decide_true, decide_false, Bool.not_true, Bool.not_false, beq_self_eq_true, bne_self_eq_false, and_self, List.isEmpty_nil, List.isEmpty_cons, Bool.true_or, Bool.false_or, List.set_cons_zero, List.set_cons_succ, List.length_cons, List.length_nil, Option.bind_some, List.all_cons, List.all_nil, Bool.or_true, Bool.true_and, Bool.and_true, Int.reduceToNat]
  refine callE (f33 a x 40 h.en hk ha hx (by omega) (by omega)) ?_
  rintro v h1 ⟨g1, o1⟩
  have k1 := g1.ok hk
  have y1 := hb'.sub (g1.of_en.sub hk)
  generalize made 40 x = l at *
  have hok : ∀ s ∈ l, s.1 < s.2 := fun s hs => (bad_ok hb s hs).2.1
  have hd := deep_nn l
  simp (disch := first | (simp only [Nat.reduceBEq, elem_hit, elem_miss, elem_nil]; done) | ((repeat' (first | assumption | exact Sub.refl _ | refine Sub.push ?_ ?_ | exact HokR.fresh (by assumption) | refine Fresh.push ?_ | refine HokR.push ?_ ?_ ?_ | exact Grown.refl | refine GrownR.push ?_ ?_ ?_ | exact refsOK_ints | exact refsOK_pairs | exact Nat.le_refl _ | (simp only [wM, Nat.reduceAdd, Nat.reduceLT, Nat.reduceLeDiff]; done))); done) | omega | decide) only [wrap_i64, idx?_pos, Int.toNat_natCast, ↓wA, wB, resOf, Option.map_some, Option.map_none, List.map_cons, List.map_nil, List.nil_append, List.append_nil, List.cons_append, Nat.reduceBEq, List.getElem?_cons_zero, List.getElem?_cons_succ, List.getElem?_nil, Option.getD_some, Option.getD_none, cond_false, cond_true, and_true, true_and, Nat.zero_add, Nat.mul_one, Int.reduceBEq, Int.reduceBNe, Int.reduceLT, Int.reduceLE, Int.reduceAdd, Int.reduceSub, Int.reduceMul, decide_true, decide_false, Bool.not_true, Bool.not_false, beq_self_eq_true, bne_self_eq_false, and_self, List.isEmpty_nil, List.isEmpty_cons, Bool.true_or, Bool.false_or, List.set_cons_zero, List.set_cons_succ, List.length_cons, List.length_nil, Option.bind_some, List.all_cons, List.all_nil, Bool.or_true, Bool.true_and, Bool.and_true, Int.reduceToNat]
  refine callE (f26 v l h1 k1 o1.pairs (o1.ref k1) hb) ?_
  rintro r h2 ⟨g2, ord, C, R, B⟩
  obtain ⟨c, rfl, q⟩ := R.ok rfl
  have k2 := g2.ok k1
  have o2 := o1.sub (g2.sub k1)
  have y2 := y1.sub (g2.sub k1)
  have G : Grown h h2 := GrownR.trans g1.of_en g2
  obtain ⟨t1, t2⟩ := best_top hok B
  have lC := B.clen
  have hCb : ∀ z ∈ C, -1000000 ≤ z ∧ z ≤ 1000000 := fun z hz => by
    obtain ⟨j, hj, rfl⟩ := List.getElem_of_mem hz
    have h1 := best_nn B (j := j) (by omega)
    have h2 : gz C j = C[j] := by simp [gz, List.getD_eq_getElem?_getD, List.getElem?_eq_getElem hj]
    omega
  have em := f34 c C h2 k2 q.ints (by omega) hCb
  rw [lC, t1, t2] at em
  simp (disch := first | (simp only [Nat.reduceBEq, elem_hit, elem_miss, elem_nil]; done) | ((repeat' (first | assumption | exact Sub.refl _ | refine Sub.push ?_ ?_ | exact HokR.fresh (by assumption) | refine Fresh.push ?_ | refine HokR.push ?_ ?_ ?_ | exact Grown.refl | refine GrownR.push ?_ ?_ ?_ | exact refsOK_ints | exact refsOK_pairs | exact Nat.le_refl _ | (simp only [wM, Nat.reduceAdd, Nat.reduceLT, Nat.reduceLeDiff]; done))); done) | omega | decide) only [callT (f16 v l h2 k2 o2.pairs (by omega)), hb, if_true, callT em, q.len, lC, o2.pairs.len, callT (f19 _), wrap_i64, idx?_pos, Int.toNat_natCast, ↓wA, wB, resOf, Option.map_some, Option.map_none, List.map_cons, List.map_nil, List.nil_append, List.append_nil, List.cons_append, Nat.reduceBEq, List.getElem?_cons_zero, List.getElem?_cons_succ, List.getElem?_nil, Option.getD_some, Option.getD_none, cond_false, cond_true, and_true, true_and, Nat.zero_add, Nat.mul_one, Int.reduceBEq, Int.reduceBNe, Int.reduceLT, Int.reduceLE, Int.reduceAdd, Int.reduceSub, Int.reduceMul, decide_true, decide_false, Bool.not_true, Bool.not_false, beq_self_eq_true, bne_self_eq_false, and_self, List.isEmpty_nil, List.isEmpty_cons, Bool.true_or, Bool.false_or, List.set_cons_zero, List.set_cons_succ, List.length_cons, List.length_nil, Option.bind_some, List.all_cons, List.all_nil, Bool.or_true, Bool.true_and, Bool.and_true, Int.reduceToNat]
  refine wloop (fun mm ss => ∃ (i : Nat) (w : AV) (h3 : Hp) (u0 u4 u6 u7 u9 u10 u11 u14 u15 u16 u17 u62 u67 u74 : AV), (mm = l.length - i) ∧ (i ≤ l.length ∧ Grown h2 h3 ∧ Own h2.next h3.blks .i64 w (othU ys i)) ∧ ss = { fr := [(0, u0), (1, b), (4, u4), (5, v), (6, u6), (7, u7), (8, .int .i64 (deep l).2), (9, u9), (10, u10), (11, u11), (12, w), (13, .int .i64 i), (14, u14), (15, u15), (16, u16), (17, u17), (62, u62), (67, u67), (74, u74)], hp := h3 }) (l.length) ?_ ?_
  ·
    refine ⟨0, _, h2.pu [], _, _, _, _, _, _, _, _, _, _, _, _, _, _, by omega, ⟨by omega, by (repeat' (first | assumption | exact Sub.refl _ | refine Sub.push ?_ ?_ | exact HokR.fresh (by assumption) | refine Fresh.push ?_ | refine HokR.push ?_ ?_ ?_ | exact Grown.refl | refine GrownR.push ?_ ?_ ?_ | exact refsOK_ints | exact refsOK_pairs | exact Nat.le_refl _ | (simp only [wM, Nat.reduceAdd, Nat.reduceLT, Nat.reduceLeDiff]; done))), Own.fresh (Nat.le_refl _) rfl rfl rfl (Nat.le_refl _)⟩, rfl⟩
  rintro nA sA ⟨i, w, h3, u0, u4, u6, u7, u9, u10, u11, u14, u15, u16, u17, u62, u67, u74, hnA, ⟨hi, g3, w3⟩, rfl⟩
  have k3 := g3.ok k2
  have o3 := o2.sub (g3.sub k2)
  have y3 := y2.sub (g3.sub k2)
  have hol := othU_len ys i
  simp (disch := first | (simp only [Nat.reduceBEq, elem_hit, elem_miss, elem_nil]; done) | ((repeat' (first | assumption | exact Sub.refl _ | refine Sub.push ?_ ?_ | exact HokR.fresh (by assumption) | refine Fresh.push ?_ | refine HokR.push ?_ ?_ ?_ | exact Grown.refl | refine GrownR.push ?_ ?_ ?_ | exact refsOK_ints | exact refsOK_pairs | exact Nat.le_refl _ | (simp only [wM, Nat.reduceAdd, Nat.reduceLT, Nat.reduceLeDiff]; done))); done) | omega | decide) only [o3.pairs.len, wrap_i64, idx?_pos, Int.toNat_natCast, ↓wA, wB, resOf, Option.map_some, Option.map_none, List.map_cons, List.map_nil, List.nil_append, List.append_nil, List.cons_append, Nat.reduceBEq, List.getElem?_cons_zero, List.getElem?_cons_succ, List.getElem?_nil, Option.getD_some, Option.getD_none, cond_false, cond_true, and_true, true_and, Nat.zero_add, Nat.mul_one, Int.reduceBEq, Int.reduceBNe, Int.reduceLT, Int.reduceLE, Int.reduceAdd, Int.reduceSub, Int.reduceMul, decide_true, decide_false, Bool.not_true, Bool.not_false, beq_self_eq_true, bne_self_eq_false, and_self, List.isEmpty_nil, List.isEmpty_cons, Bool.true_or, Bool.false_or, List.set_cons_zero, List.set_cons_succ, List.length_cons, List.length_nil, Option.bind_some, List.all_cons, List.all_nil, Bool.or_true, Bool.true_and, Bool.and_true, Int.reduceToNat]
  refine ifThen_intro (fun e => ?_) (fun e => ?_) <;> have eq := e <;> try simp [-List.getD_eq_getElem?_getD] at eq
  · by_cases hi2 : i < ys.length
    · have hm : ys.getD i 0 ∈ ys := by simp [List.getD_eq_getElem?_getD, List.getElem?_eq_getElem hi2]
      have hyb := hys _ hm
      have h1m := Int.emod_nonneg (ys.getD i 0) (show (6 : Int) ≠ 0 by omega)
      have h2m := Int.emod_lt_of_pos (ys.getD i 0) (show (0 : Int) < 6 by omega)
      obtain ⟨s2, h4, z1, z2, z3, z4⟩ := own_app1 (v := ys.getD i 0 % 6) (h := h3) k2 g3 w3 (by omega)
      simp (disch := first | (simp only [Nat.reduceBEq, elem_hit, elem_miss, elem_nil]; done) | ((repeat' (first | assumption | exact Sub.refl _ | refine Sub.push ?_ ?_ | exact HokR.fresh (by assumption) | refine Fresh.push ?_ | refine HokR.push ?_ ?_ ?_ | exact Grown.refl | refine GrownR.push ?_ ?_ ?_ | exact refsOK_ints | exact refsOK_pairs | exact Nat.le_refl _ | (simp only [wM, Nat.reduceAdd, Nat.reduceLT, Nat.reduceLeDiff]; done))); done) | omega | decide) only [e, y3.len, decide_eq_true (show (i : Int) < (ys.length : Int) by omega), y3.ix, y3.ld, sBin_rem, z1, wrap_i64, idx?_pos, Int.toNat_natCast, ↓wA, wB, resOf, Option.map_some, Option.map_none, List.map_cons, List.map_nil, List.nil_append, List.append_nil, List.cons_append, Nat.reduceBEq, List.getElem?_cons_zero, List.getElem?_cons_succ, List.getElem?_nil, Option.getD_some, Option.getD_none, cond_false, cond_true, and_true, true_and, Nat.zero_add, Nat.mul_one, Int.reduceBEq, Int.reduceBNe, Int.reduceLT, Int.reduceLE, Int.reduceAdd, Int.reduceSub, Int.reduceMul, decide_true, decide_false, Bool.not_true, Bool.not_false, beq_self_eq_true, bne_self_eq_false, and_self, List.isEmpty_nil, List.isEmpty_cons, Bool.true_or, Bool.false_or, List.set_cons_zero, List.set_cons_succ, List.length_cons, List.length_nil, Option.bind_some, List.all_cons, List.all_nil, Bool.or_true, Bool.true_and, Bool.and_true, Int.reduceToNat]
      refine ⟨_, ?_, i + 1, _, _, _, _, _, _, _, _, _, _, _, _, _, _, _, _, rfl, ?_, rfl⟩
      · omega
      exact ⟨by omega, z3, by rw [othU, if_pos hi2]; exact z2⟩
    · obtain ⟨s2, h4, z1, z2, z3, z4⟩ := own_app1 (v := (i : Int)) (h := h3) k2 g3 w3 (by omega)
      simp (disch := first | (simp only [Nat.reduceBEq, elem_hit, elem_miss, elem_nil]; done) | ((repeat' (first | assumption | exact Sub.refl _ | refine Sub.push ?_ ?_ | exact HokR.fresh (by assumption) | refine Fresh.push ?_ | refine HokR.push ?_ ?_ ?_ | exact Grown.refl | refine GrownR.push ?_ ?_ ?_ | exact refsOK_ints | exact refsOK_pairs | exact Nat.le_refl _ | (simp only [wM, Nat.reduceAdd, Nat.reduceLT, Nat.reduceLeDiff]; done))); done) | omega | decide) only [e, y3.len, decide_eq_false (show ¬ (i : Int) < (ys.length : Int) by omega), z1, wrap_i64, idx?_pos, Int.toNat_natCast, ↓wA, wB, resOf, Option.map_some, Option.map_none, List.map_cons, List.map_nil, List.nil_append, List.append_nil, List.cons_append, Nat.reduceBEq, List.getElem?_cons_zero, List.getElem?_cons_succ, List.getElem?_nil, Option.getD_some, Option.getD_none, cond_false, cond_true, and_true, true_and, Nat.zero_add, Nat.mul_one, Int.reduceBEq, Int.reduceBNe, Int.reduceLT, Int.reduceLE, Int.reduceAdd, Int.reduceSub, Int.reduceMul, decide_true, decide_false, Bool.not_true, Bool.not_false, beq_self_eq_true, bne_self_eq_false, and_self, List.isEmpty_nil, List.isEmpty_cons, Bool.true_or, Bool.false_or, List.set_cons_zero, List.set_cons_succ, List.length_cons, List.length_nil, Option.bind_some, List.all_cons, List.all_nil, Bool.or_true, Bool.true_and, Bool.and_true, Int.reduceToNat]
      refine ⟨_, ?_, i + 1, _, _, _, _, _, _, _, _, _, _, _, _, _, _, _, _, rfl, ?_, rfl⟩
      · omega
      exact ⟨by omega, z3, by rw [othU, if_neg hi2]; exact z2⟩
  · have hil : i = l.length := by omega
    rw [hil] at w3 hol
    have hob : ∀ z ∈ othU ys l.length, -1000000 ≤ z ∧ z ≤ 1000000 := fun z hz => by
      have := othU_bd ys _ z hz
      omega
    have hon : ∀ j, j < (othU ys l.length).length → 0 ≤ (othU ys l.length).getD j 0 := fun j hj => by
      have hm : (othU ys l.length).getD j 0 ∈ othU ys l.length := by simp [List.getD_eq_getElem?_getD, List.getElem?_eq_getElem hj]
      exact (othU_bd ys _ _ hm).1
    have em2 := f34 w (othU ys l.length) h3 k3 w3.ints (by omega) hob
    have ep := f23 v w l (othU ys l.length) h3 k3 o3.pairs w3.ints hb hol hon
    rw [hol] at em2
    cases hp : propU l (othU ys l.length) l.length
    · rw [hp] at ep
      simp (disch := first | (simp only [Nat.reduceBEq, elem_hit, elem_miss, elem_nil]; done) | ((repeat' (first | assumption | exact Sub.refl _ | refine Sub.push ?_ ?_ | exact HokR.fresh (by assumption) | refine Fresh.push ?_ | refine HokR.push ?_ ?_ ?_ | exact Grown.refl | refine GrownR.push ?_ ?_ ?_ | exact refsOK_ints | exact refsOK_pairs | exact Nat.le_refl _ | (simp only [wM, Nat.reduceAdd, Nat.reduceLT, Nat.reduceLeDiff]; done))); done) | omega | decide) only [e, callT ep, callT em2, wrap_i64, idx?_pos, Int.toNat_natCast, ↓wA, wB, resOf, Option.map_some, Option.map_none, List.map_cons, List.map_nil, List.nil_append, List.append_nil, List.cons_append, Nat.reduceBEq, List.getElem?_cons_zero, List.getElem?_cons_succ, List.getElem?_nil, Option.getD_some, Option.getD_none, cond_false, cond_true, and_true, true_and, Nat.zero_add, Nat.mul_one, Int.reduceBEq, Int.reduceBNe, Int.reduceLT, Int.reduceLE, Int.reduceAdd, Int.reduceSub, Int.reduceMul, decide_true, decide_false, Bool.not_true, Bool.not_false, beq_self_eq_true, bne_self_eq_false, and_self, List.isEmpty_nil, List.isEmpty_cons, Bool.true_or, Bool.false_or, List.set_cons_zero, List.set_cons_succ, List.length_cons, List.length_nil, Option.bind_some, List.all_cons, List.all_nil, Bool.or_true, Bool.true_and, Bool.and_true, Int.reduceToNat]
      exact ⟨_, rfl, rfl, GrownR.trans G g3⟩
    · rw [hp] at ep
      have hmn := depth_seen (propU_iff.1 hp)
      simp (disch := first | (simp only [Nat.reduceBEq, elem_hit, elem_miss, elem_nil]; done) | ((repeat' (first | assumption | exact Sub.refl _ | refine Sub.push ?_ ?_ | exact HokR.fresh (by assumption) | refine Fresh.push ?_ | refine HokR.push ?_ ?_ ?_ | exact Grown.refl | refine GrownR.push ?_ ?_ ?_ | exact refsOK_ints | exact refsOK_pairs | exact Nat.le_refl _ | (simp only [wM, Nat.reduceAdd, Nat.reduceLT, Nat.reduceLeDiff]; done))); done) | omega | decide) only [e, callT ep, callT em2, decide_eq_true hmn, wrap_i64, idx?_pos, Int.toNat_natCast, ↓wA, wB, resOf, Option.map_some, Option.map_none, List.map_cons, List.map_nil, List.nil_append, List.append_nil, List.cons_append, Nat.reduceBEq, List.getElem?_cons_zero, List.getElem?_cons_succ, List.getElem?_nil, Option.getD_some, Option.getD_none, cond_false, cond_true, and_true, true_and, Nat.zero_add, Nat.mul_one, Int.reduceBEq, Int.reduceBNe, Int.reduceLT, Int.reduceLE, Int.reduceAdd, Int.reduceSub, Int.reduceMul, decide_true, decide_false, Bool.not_true, Bool.not_false, beq_self_eq_true, bne_self_eq_false, and_self, List.isEmpty_nil, List.isEmpty_cons, Bool.true_or, Bool.false_or, List.set_cons_zero, List.set_cons_succ, List.length_cons, List.length_nil, Option.bind_some, List.all_cons, List.all_nil, Bool.or_true, Bool.true_and, Bool.and_true, Int.reduceToNat]
      exact ⟨_, rfl, rfl, GrownR.trans G g3⟩

theorem f7 (a : AV) (x : List (Int × Int)) (h : Hp) (hk : Hok h) (ha : Pairs16 h.blks a x) (hx : ∀ p ∈ x, 0 ≤ p.1 ∧ p.1 ≤ 65535 ∧ 0 ≤ p.2 ∧ p.2 ≤ 65535) (hxl : x.length ≤ maxLen) :
    ∃ h', Evals Try.prog tab false (.func 7) [a] h (.bool true, h') := by
  refine ⟨h, evals_pure c7 rfl hk ?_⟩
  simp only [sf7, initS_cons, initS_nil]
  unfold maxLen at hxl
  have hl := made_len 60 x
  have hb := made_bad (place := 60) (by omega) x
  simp (disch := first | (simp only [Nat.reduceBEq, elem_hit, elem_miss, elem_nil]; done) | ((repeat' (first | assumption | exact Sub.refl _ | refine Sub.push ?_ ?_ | exact HokR.fresh (by assumption) | refine Fresh.push ?_ | refine HokR.push ?_ ?_ ?_ | exact Grown.refl | refine GrownR.push ?_ ?_ ?_ | exact refsOK_ints | exact refsOK_pairs | exact Nat.le_refl _ | (simp only [wM, Nat.reduceAdd, Nat.reduceLT, Nat.reduceLeDiff]; done))); done) | omega | decide) only [wrap_i64, idx?_pos, Int.toNat_natCast, ↓wA, wB, resOf, Option.map_some, Option.map_none, List.map_cons, List.map_nil, List.nil_append, List.append_nil, List.cons_append, Nat.reduceBEq, List.getElem?_cons_zero, List.getElem?_cons_succ, List.getElem?_nil, Option.getD_some, Option.getD_none, cond_false, cond_true, and_true, true_and, Nat.zero_add, Nat.mul_one, Int.reduceBEq, Int.reduceBNe, Int.reduceLT, Int.reduceLE, Int.reduceAdd, Int.reduceSub, Int.reduceMul, decide_true, decide_false, Bool.not_true, Bool.not_false, beq_self_eq_true, bne_self_eq_false, and_self, List.isEmpty_nil, List.isEmpty_cons, Bool.true_or, Bool.false_or, List.set_cons_zero, List.set_cons_succ, List.length_cons, List.length_nil, Option.bind_some, List.all_cons, List.all_nil, Bool.or_true, Bool.true_and, Bool.and_true, Int.reduceToNat]
  refine callE (f33 a x 60 h.en hk ha hx (by omega) (by omega)) ?_
  rintro v h1 ⟨g1, o1⟩
  have k1 := g1.ok hk
  generalize made 60 x = l at *
  have hok : ∀ s ∈ l, s.1 < s.2 := fun s hs => (bad_ok hb s hs).2.1
  have l1 : (fit l).length = l.length := onl_len _ _ _
  have l2 : (trotter l).length = l.length := onl_len _ _ _
  simp (disch := first | (simp only [Nat.reduceBEq, elem_hit, elem_miss, elem_nil]; done) | ((repeat' (first | assumption | exact Sub.refl _ | refine Sub.push ?_ ?_ | exact HokR.fresh (by assumption) | refine Fresh.push ?_ | refine HokR.push ?_ ?_ ?_ | exact Grown.refl | refine GrownR.push ?_ ?_ ?_ | exact refsOK_ints | exact refsOK_pairs | exact Nat.le_refl _ | (simp only [wM, Nat.reduceAdd, Nat.reduceLT, Nat.reduceLeDiff]; done))); done) | omega | decide) only [wrap_i64, idx?_pos, Int.toNat_natCast, ↓wA, wB, resOf, Option.map_some, Option.map_none, List.map_cons, List.map_nil, List.nil_append, List.append_nil, List.cons_append, Nat.reduceBEq, List.getElem?_cons_zero, List.getElem?_cons_succ, List.getElem?_nil, Option.getD_some, Option.getD_none, cond_false, cond_true, and_true, true_and, Nat.zero_add, Nat.mul_one, Int.reduceBEq, Int.reduceBNe, Int.reduceLT, Int.reduceLE, Int.reduceAdd, Int.reduceSub, Int.reduceMul, decide_true, decide_false, Bool.not_true, Bool.not_false, beq_self_eq_true, bne_self_eq_false, and_self, List.isEmpty_nil, List.isEmpty_cons, Bool.true_or, Bool.false_or, List.set_cons_zero, List.set_cons_succ, List.length_cons, List.length_nil, Option.bind_some, List.all_cons, List.all_nil, Bool.or_true, Bool.true_and, Bool.and_true, Int.reduceToNat]
  refine callE (f25 v l h1 k1 o1.pairs (by omega)) ?_
  rintro r1 h2 ⟨g2, R1⟩
  obtain ⟨v1, rfl, q1⟩ := R1.ok hb
  have k2 := g2.ok k1
  have o2 := o1.sub (g2.sub k1)
  simp (disch := first | (simp only [Nat.reduceBEq, elem_hit, elem_miss, elem_nil]; done) | ((repeat' (first | assumption | exact Sub.refl _ | refine Sub.push ?_ ?_ | exact HokR.fresh (by assumption) | refine Fresh.push ?_ | refine HokR.push ?_ ?_ ?_ | exact Grown.refl | refine GrownR.push ?_ ?_ ?_ | exact refsOK_ints | exact refsOK_pairs | exact Nat.le_refl _ | (simp only [wM, Nat.reduceAdd, Nat.reduceLT, Nat.reduceLeDiff]; done))); done) | omega | decide) only [wrap_i64, idx?_pos, Int.toNat_natCast, ↓wA, wB, resOf, Option.map_some, Option.map_none, List.map_cons, List.map_nil, List.nil_append, List.append_nil, List.cons_append, Nat.reduceBEq, List.getElem?_cons_zero, List.getElem?_cons_succ, List.getElem?_nil, Option.getD_some, Option.getD_none, cond_false, cond_true, and_true, true_and, Nat.zero_add, Nat.mul_one, Int.reduceBEq, Int.reduceBNe, Int.reduceLT, Int.reduceLE, Int.reduceAdd, Int.reduceSub, Int.reduceMul, decide_true, decide_false, Bool.not_true, Bool.not_false, beq_self_eq_true, bne_self_eq_false, and_self, List.isEmpty_nil, List.isEmpty_cons, Bool.true_or, Bool.false_or, List.set_cons_zero, List.set_cons_succ, List.length_cons, List.length_nil, Option.bind_some, List.all_cons, List.all_nil, Bool.or_true, Bool.true_and, Bool.and_true, Int.reduceToNat]
  refine callE (f30 v l h2 k2 o2.pairs (by omega)) ?_
  rintro r2 h3 ⟨g3, R2⟩
  obtain ⟨v2, rfl, q2⟩ := R2.ok hb
  have k3 := g3.ok k2
  have o3 := o2.sub (g3.sub k2)
  simp (disch := first | (simp only [Nat.reduceBEq, elem_hit, elem_miss, elem_nil]; done) | ((repeat' (first | assumption | exact Sub.refl _ | refine Sub.push ?_ ?_ | exact HokR.fresh (by assumption) | refine Fresh.push ?_ | refine HokR.push ?_ ?_ ?_ | exact Grown.refl | refine GrownR.push ?_ ?_ ?_ | exact refsOK_ints | exact refsOK_pairs | exact Nat.le_refl _ | (simp only [wM, Nat.reduceAdd, Nat.reduceLT, Nat.reduceLeDiff]; done))); done) | omega | decide) only [wrap_i64, idx?_pos, Int.toNat_natCast, ↓wA, wB, resOf, Option.map_some, Option.map_none, List.map_cons, List.map_nil, List.nil_append, List.append_nil, List.cons_append, Nat.reduceBEq, List.getElem?_cons_zero, List.getElem?_cons_succ, List.getElem?_nil, Option.getD_some, Option.getD_none, cond_false, cond_true, and_true, true_and, Nat.zero_add, Nat.mul_one, Int.reduceBEq, Int.reduceBNe, Int.reduceLT, Int.reduceLE, Int.reduceAdd, Int.reduceSub, Int.reduceMul, decide_true, decide_false, Bool.not_true, Bool.not_false, beq_self_eq_true, bne_self_eq_false, and_self, List.isEmpty_nil, List.isEmpty_cons, Bool.true_or, Bool.false_or, List.set_cons_zero, List.set_cons_succ, List.length_cons, List.length_nil, Option.bind_some, List.all_cons, List.all_nil, Bool.or_true, Bool.true_and, Bool.and_true, Int.reduceToNat]
  refine callE (f26 v l h3 k3 o3.pairs (o3.ref k3) hb) ?_
  rintro r3 h4 ⟨g4, ord, C, R3, B⟩
  obtain ⟨v3, rfl, q3⟩ := R3.ok rfl
  have k4 := g4.ok k3
  have o4 := o3.sub (g4.sub k3)
  have q14 := q1.sub ((GrownR.trans g3 g4).sub k2)
  have q24 := q2.sub (g4.sub k3)
  have lC := B.clen
  have k5 : Hok (h4.pu [v1, v2, v3]) := Hok.pu k4 (by
    simp only [refsOK_cons, refsOK_nil, Bool.and_true, Bool.and_eq_true]
    exact ⟨refOK_mono (Nat.le_succ _) (q14.ref k4), refOK_mono (Nat.le_succ _) (q24.ref k4), refOK_mono (Nat.le_succ _) (q3.ref k4)⟩)
  have o5 := o4.sub (Sub.pu (cs := [v1, v2, v3]) k4)
  have arr : Arr (h4.pu [v1, v2, v3]).blks 1 (.sl h4.next 0 3 (some 3) 1) 3 [v1, v2, v3] :=
    ⟨rfl, .inr ⟨h4.next, 0, some 3, rfl, Nat.le_refl _, fun j hj => by rw [cellB_hit, Nat.zero_add]⟩⟩
  have each : ∀ t, t < 3 → ∃ e z, ([v1, v2, v3] : List AV)[t]? = some e ∧ Ints (h4.pu [v1, v2, v3]).blks .i64 e z ∧ z.length = l.length ∧ (∀ j, j < z.length → 0 ≤ z.getD j 0) ∧ IsProper l z := fun t ht => by
    have s5 := Sub.pu (cs := [v1, v2, v3]) k4
    rcases (by omega : t = 0 ∨ t = 1 ∨ t = 2) with rfl | rfl | rfl
    · exact ⟨v1, fit l, rfl, q14.ints.sub s5, l1, fun j hj => (fc_nn (l := l) (i := j) (by omega)).1, fit_proper l⟩
    · exact ⟨v2, trotter l, rfl, q24.ints.sub s5, l2, fun j hj => by
        have := trotter_in hok (i := j) (by omega)
        unfold InLevel at this
        omega, trotter_proper⟩
    · exact ⟨v3, C, rfl, q3.ints.sub s5, lC, fun j hj => (best_nn B (j := j) (by omega)).1, best_proper B⟩
  have G : Grown h (h4.pu [v1, v2, v3]) := Grown.pu (GrownR.trans g1.of_en (GrownR.trans g2 (GrownR.trans g3 g4))) (by
    simp only [refsOK_cons, refsOK_nil, Bool.and_true, Bool.and_eq_true]
    exact ⟨refOK_mono (Nat.le_succ _) (q14.ref k4), refOK_mono (Nat.le_succ _) (q24.ref k4), refOK_mono (Nat.le_succ _) (q3.ref k4)⟩)
  simp (disch := first | (simp only [Nat.reduceBEq, elem_hit, elem_miss, elem_nil]; done) | ((repeat' (first | assumption | exact Sub.refl _ | refine Sub.push ?_ ?_ | exact HokR.fresh (by assumption) | refine Fresh.push ?_ | refine HokR.push ?_ ?_ ?_ | exact Grown.refl | refine GrownR.push ?_ ?_ ?_ | exact refsOK_ints | exact refsOK_pairs | exact Nat.le_refl _ | (simp only [wM, Nat.reduceAdd, Nat.reduceLT, Nat.reduceLeDiff]; done))); done) | omega | decide) only [q14.len, q24.len, q3.len, o4.pairs.len, l1, l2, lC, callT (f19 _), sBS_3v (Arr.cell q14.ints) (Arr.cell q24.ints) (Arr.cell q3.ints), wrap_i64, idx?_pos, Int.toNat_natCast, ↓wA, wB, resOf, Option.map_some, Option.map_none, List.map_cons, List.map_nil, List.nil_append, List.append_nil, List.cons_append, Nat.reduceBEq, List.getElem?_cons_zero, List.getElem?_cons_succ, List.getElem?_nil, Option.getD_some, Option.getD_none, cond_false, cond_true, and_true, true_and, Nat.zero_add, Nat.mul_one, Int.reduceBEq, Int.reduceBNe, Int.reduceLT, Int.reduceLE, Int.reduceAdd, Int.reduceSub, Int.reduceMul, decide_true, decide_false, Bool.not_true, Bool.not_false, beq_self_eq_true, bne_self_eq_false, and_self, List.isEmpty_nil, List.isEmpty_cons, Bool.true_or, Bool.false_or, List.set_cons_zero, List.set_cons_succ, List.length_cons, List.length_nil, Option.bind_some, List.all_cons, List.all_nil, Bool.or_true, Bool.true_and, Bool.and_true, Int.reduceToNat]
  refine wloop (fun mm ss => ∃ (t : Nat) (u0 u2 u4 u5 u6 u7 u8 u9 u11 u12 u13 u65 u72 u92 : AV), (mm = 3 - t) ∧ (t ≤ 3) ∧ ss = { fr := [(0, u0), (2, u2), (3, v), (4, u4), (5, u5), (6, u6), (7, u7), (8, u8), (9, u9), (11, u11), (12, u12), (13, u13), (65, u65), (69, .sl h4.next 0 3 (some 3) 1), (70, .int .i64 (3 : Nat)), (71, .int .i64 t), (72, u72), (92, u92)], hp := h4.pu [v1, v2, v3] }) (3) ?_ ?_
  ·
    refine ⟨0, _, _, _, _, _, _, _, _, _, _, _, _, _, _, rfl, by omega, rfl⟩
  rintro nA sA ⟨t, u0, u2, u4, u5, u6, u7, u8, u9, u11, u12, u13, u65, u72, u92, hnA, ht, rfl⟩
  simp (disch := first | (simp only [Nat.reduceBEq, elem_hit, elem_miss, elem_nil]; done) | ((repeat' (first | assumption | exact Sub.refl _ | refine Sub.push ?_ ?_ | exact HokR.fresh (by assumption) | refine Fresh.push ?_ | refine HokR.push ?_ ?_ ?_ | exact Grown.refl | refine GrownR.push ?_ ?_ ?_ | exact refsOK_ints | exact refsOK_pairs | exact Nat.le_refl _ | (simp only [wM, Nat.reduceAdd, Nat.reduceLT, Nat.reduceLeDiff]; done))); done) | omega | decide) only [wrap_i64, idx?_pos, Int.toNat_natCast, ↓wA, wB, resOf, Option.map_some, Option.map_none, List.map_cons, List.map_nil, List.nil_append, List.append_nil, List.cons_append, Nat.reduceBEq, List.getElem?_cons_zero, List.getElem?_cons_succ, List.getElem?_nil, Option.getD_some, Option.getD_none, cond_false, cond_true, and_true, true_and, Nat.zero_add, Nat.mul_one, Int.reduceBEq, Int.reduceBNe, Int.reduceLT, Int.reduceLE, Int.reduceAdd, Int.reduceSub, Int.reduceMul, decide_true, decide_false, Bool.not_true, Bool.not_false, beq_self_eq_true, bne_self_eq_false, and_self, List.isEmpty_nil, List.isEmpty_cons, Bool.true_or, Bool.false_or, List.set_cons_zero, List.set_cons_succ, List.length_cons, List.length_nil, Option.bind_some, List.all_cons, List.all_nil, Bool.or_true, Bool.true_and, Bool.and_true, Int.reduceToNat]
  refine ifThen_intro (fun e => ?_) (fun e => ?_) <;> have eq := e <;> try simp [-List.getD_eq_getElem?_getD] at eq
  · obtain ⟨e1, z, he, hz, lz, nz, pz⟩ := each t (by omega)
    have hld : cellV (h4.pu [v1, v2, v3]).blks (.sl h4.next 0 3 (some 3) 1) t 0 = some e1 := by
      rw [Arr.ld arr (Sub.refl _) (by omega) (by omega), Nat.mul_one, Nat.add_zero, he]
    have hix := fun (hh : Hp) => Arr.ix arr (i := t) hh (by omega)
    have hp := propU_iff.2 pz
    have ep := f23 v e1 l z (h4.pu [v1, v2, v3]) k5 o5.pairs hz hb lz nz
    have er := f24 v e1 l z (h4.pu [v1, v2, v3]) k5 o5.pairs hz (by omega) lz
    rw [hp] at ep er
    simp (disch := first | (simp only [Nat.reduceBEq, elem_hit, elem_miss, elem_nil]; done) | ((repeat' (first | assumption | exact Sub.refl _ | refine Sub.push ?_ ?_ | exact HokR.fresh (by assumption) | refine Fresh.push ?_ | refine HokR.push ?_ ?_ ?_ | exact Grown.refl | refine GrownR.push ?_ ?_ ?_ | exact refsOK_ints | exact refsOK_pairs | exact Nat.le_refl _ | (simp only [wM, Nat.reduceAdd, Nat.reduceLT, Nat.reduceLeDiff]; done))); done) | omega | decide) only [e, hix, hld, callT ep, callT er, wrap_i64, idx?_pos, Int.toNat_natCast, ↓wA, wB, resOf, Option.map_some, Option.map_none, List.map_cons, List.map_nil, List.nil_append, List.append_nil, List.cons_append, Nat.reduceBEq, List.getElem?_cons_zero, List.getElem?_cons_succ, List.getElem?_nil, Option.getD_some, Option.getD_none, cond_false, cond_true, and_true, true_and, Nat.zero_add, Nat.mul_one, Int.reduceBEq, Int.reduceBNe, Int.reduceLT, Int.reduceLE, Int.reduceAdd, Int.reduceSub, Int.reduceMul, decide_true, decide_false, Bool.not_true, Bool.not_false, beq_self_eq_true, bne_self_eq_false, and_self, List.isEmpty_nil, List.isEmpty_cons, Bool.true_or, Bool.false_or, List.set_cons_zero, List.set_cons_succ, List.length_cons, List.length_nil, Option.bind_some, List.all_cons, List.all_nil, Bool.or_true, Bool.true_and, Bool.and_true, Int.reduceToNat]
    refine ⟨_, ?_, t + 1, _, _, _, _, _, _, _, _, _, _, _, _, _, _, rfl, ?_, rfl⟩
    · omega
    omega
  · simp (disch := first | (simp only [Nat.reduceBEq, elem_hit, elem_miss, elem_nil]; done) | ((repeat' (first | assumption | exact Sub.refl _ | refine Sub.push ?_ ?_ | exact HokR.fresh (by assumption) | refine Fresh.push ?_ | refine HokR.push ?_ ?_ ?_ | exact Grown.refl | refine GrownR.push ?_ ?_ ?_ | exact refsOK_ints | exact refsOK_pairs | exact Nat.le_refl _ | (simp only [wM, Nat.reduceAdd, Nat.reduceLT, Nat.reduceLeDiff]; done))); done) | omega | decide) only [e, wrap_i64, idx?_pos, Int.toNat_natCast, ↓wA, wB, resOf, Option.map_some, Option.map_none, List.map_cons, List.map_nil, List.nil_append, List.append_nil, List.cons_append, Nat.reduceBEq, List.getElem?_cons_zero, List.getElem?_cons_succ, List.getElem?_nil, Option.getD_some, Option.getD_none, cond_false, cond_true, and_true, true_and, Nat.zero_add, Nat.mul_one, Int.reduceBEq, Int.reduceBNe, Int.reduceLT, Int.reduceLE, Int.reduceAdd, Int.reduceSub, Int.reduceMul, decide_true, decide_false, Bool.not_true, Bool.not_false, beq_self_eq_true, bne_self_eq_false, and_self, List.isEmpty_nil, List.isEmpty_cons, Bool.true_or, Bool.false_or, List.set_cons_zero, List.set_cons_succ, List.length_cons, List.length_nil, Option.bind_some, List.all_cons, List.all_nil, Bool.or_true, Bool.true_and, Bool.and_true, Int.reduceToNat]
    exact ⟨_, rfl, rfl, G⟩
end Go.Proofs.Ytnaiadkgjhmopaa
