/- The law about Clique. -/
import Derived.Test.YtpclkcamfainiaaP6
import Derived.Test.YtpclkcamfainiaaVA
set_option linter.unusedSimpArgs false
set_option linter.unusedVariables false
set_option maxHeartbeats 4000000
set_option maxRecDepth 20000
namespace Go.Pt
open Go Go.Abs
theorem grL_len {J : List Nat → Nat → Bool} {k : Nat} : ∀ {f : Nat} {cl : List Nat} {v : Nat} {r : List Nat}, grL J k f cl v = some r → r.length = k
  | 0, _, _, _, h => by simp [grL] at h
  | f + 1, cl, v, r, h => by
    rw [grL_s] at h
    by_cases e : J cl v = true
    · rw [if_pos e] at h
      cases hg : gr J k f (cl ++ [v]) (v + 1) with
      | none => rw [hg] at h; exact grL_len h
      | some x =>
        rw [hg] at h
        cases h
        rw [gr] at hg
        by_cases e2 : (cl ++ [v]).length = k
        · rw [if_pos e2] at hg; cases hg; exact e2
        · rw [if_neg e2] at hg; exact grL_len hg
    · rw [if_neg e] at h
      exact grL_len h
theorem gr_len {J : List Nat → Nat → Bool} {k f v : Nat} {cl r : List Nat} (h : gr J k f cl v = some r) : r.length = k := by
  rw [gr] at h
  by_cases e2 : cl.length = k
  · rw [if_pos e2] at h; cases h; exact e2
  · rw [if_neg e2] at h; exact grL_len h
end Go.Pt
namespace Go.Abs
theorem sIxA_ptr {len n : Nat} {h : Hp} {j id off : Nat} (hj : j < len) : sIxA len n h (some j) (.ptr id off) = some (.ptr id (off + j * n), h) := by
  have : Nat.blt j len = true := by simpa [Nat.blt_eq] using hj
  simp only [sIxA, this, cond_true]
end Go.Abs
namespace Go.Proofs.Ytpclkcamfainiaa
open Go Go.Abs Go.Pt

theorem f21 (r1 r2 : AV) (o : Option (List Nat)) (c d : Nat) (h : Hp) (hk : Hok h) (h1 : GR c r1 h.blks o) (h2 : GR d r2 h.blks o) (hb : ∀ cl, o = some cl → cl.length ≤ 1000) :
    Evals Try.prog tab false (.func 21) [r1, .int .i64 (if o.isSome = true then 0 else 5), r2] h (.bool true, h) := by
  refine evals_pure c21 rfl hk ?_
  simp only [sf21, initS_cons, initS_nil]
  cases o with
  | none =>
    cases h1
    cases h2
    have e5 : (if (none : Option (List Nat)).isSome = true then (0 : Int) else 5) = 5 := rfl
    simp (disch := first | (simp only [Nat.reduceBEq, elem_hit, elem_miss, elem_nil]; done) | ((repeat' (first | assumption | exact Sub.refl _ | refine Sub.push ?_ ?_ | exact HokR.fresh (by assumption) | refine Fresh.push ?_ | refine HokR.push ?_ ?_ ?_ | exact Grown.refl | refine GrownR.push ?_ ?_ ?_ | exact refsOK_ints | exact refsOK_pairs | exact Nat.le_refl _ | (simp only [wM, Nat.reduceAdd, Nat.reduceLT, Nat.reduceLeDiff]; done))); done) | omega | decide) only [sBin_nil, sLen_nil, e5, wrap_i64, idx?_pos, Int.toNat_natCast, ↓wA, wB, resOf, Option.map_some, Option.map_none, List.map_cons, List.map_nil, List.nil_append, List.append_nil, List.cons_append, Nat.reduceBEq, List.getElem?_cons_zero, List.getElem?_cons_succ, List.getElem?_nil, Option.getD_some, Option.getD_none, cond_false, cond_true, and_true, true_and, Nat.zero_add, Nat.mul_one, Int.reduceBEq, Int.reduceBNe, Int.reduceLT, Int.reduceLE, Int.reduceAdd, Int.reduceSub, Int.reduceMul, decide_true, decide_false, Bool.not_true, Bool.not_false, beq_self_eq_true, bne_self_eq_false, and_self, List.isEmpty_nil, List.isEmpty_cons, Bool.true_or, Bool.false_or, List.set_cons_zero, List.set_cons_succ, List.length_cons, List.length_nil, Option.bind_some, List.all_cons, List.all_nil, Bool.or_true, Bool.true_and, Bool.and_true, Int.reduceToNat]
    exact ⟨_, rfl, rfl, by (repeat' (first | assumption | exact Sub.refl _ | refine Sub.push ?_ ?_ | exact HokR.fresh (by assumption) | refine Fresh.push ?_ | refine HokR.push ?_ ?_ ?_ | exact Grown.refl | refine GrownR.push ?_ ?_ ?_ | exact refsOK_ints | exact refsOK_pairs | exact Nat.le_refl _ | (simp only [wM, Nat.reduceAdd, Nat.reduceLT, Nat.reduceLeDiff]; done)))⟩
  | some cl =>
    have e0 : (if (some cl).isSome = true then (0 : Int) else 5) = 0 := rfl
    have hl := hb cl rfl
    have sm := f42 r1 r2 (nz cl) (nz cl) h.en hk h1.1.ints h2.1.ints (by rw [nz_len]; omega) (by rw [nz_len]; omega)
    rw [decide_eq_true (rfl : nz cl = nz cl)] at sm
    simp (disch := first | (simp only [Nat.reduceBEq, elem_hit, elem_miss, elem_nil]; done) | ((repeat' (first | assumption | exact Sub.refl _ | refine Sub.push ?_ ?_ | exact HokR.fresh (by assumption) | refine Fresh.push ?_ | refine HokR.push ?_ ?_ ?_ | exact Grown.refl | refine GrownR.push ?_ ?_ ?_ | exact refsOK_ints | exact refsOK_pairs | exact Nat.le_refl _ | (simp only [wM, Nat.reduceAdd, Nat.reduceLT, Nat.reduceLeDiff]; done))); done) | omega | decide) only [(h2.1.eql h2.2).1, callT sm, e0, wrap_i64, idx?_pos, Int.toNat_natCast, ↓wA, wB, resOf, Option.map_some, Option.map_none, List.map_cons, List.map_nil, List.nil_append, List.append_nil, List.cons_append, Nat.reduceBEq, List.getElem?_cons_zero, List.getElem?_cons_succ, List.getElem?_nil, Option.getD_some, Option.getD_none, cond_false, cond_true, and_true, true_and, Nat.zero_add, Nat.mul_one, Int.reduceBEq, Int.reduceBNe, Int.reduceLT, Int.reduceLE, Int.reduceAdd, Int.reduceSub, Int.reduceMul, decide_true, decide_false, Bool.not_true, Bool.not_false, beq_self_eq_true, bne_self_eq_false, and_self, List.isEmpty_nil, List.isEmpty_cons, Bool.true_or, Bool.false_or, List.set_cons_zero, List.set_cons_succ, List.length_cons, List.length_nil, Option.bind_some, List.all_cons, List.all_nil, Bool.or_true, Bool.true_and, Bool.and_true, Int.reduceToNat]
    exact ⟨_, rfl, rfl, by (repeat' (first | assumption | exact Sub.refl _ | refine Sub.push ?_ ?_ | exact HokR.fresh (by assumption) | refine Fresh.push ?_ | refine HokR.push ?_ ?_ ?_ | exact Grown.refl | refine GrownR.push ?_ ?_ ?_ | exact refsOK_ints | exact refsOK_pairs | exact Nat.le_refl _ | (simp only [wM, Nat.reduceAdd, Nat.reduceLT, Nat.reduceLeDiff]; done)))⟩

theorem f3 (n : Int) (a : AV) (zs : List Int) (p q : Int) (h : Hp) (hk : Hok h) (hn : -9223372036854775808 ≤ n ∧ n ≤ 9223372036854775807) (ha : Ints h.blks .i64 a zs) (hb : ∀ k ∈ zs, -9223372036854775808 ≤ k ∧ k ≤ 9223372036854775807) (hz : zs.length ≤ maxLen) (hp : -9223372036854775808 ≤ p ∧ p ≤ 9223372036854775807) (hq : -9223372036854775808 ≤ q ∧ q ≤ 9223372036854775807) :
    ∃ h', Evals Try.prog tab false (.func 3) [.int .i64 n, a, .ag [.int .i64 p, .int .i64 q]] h (.bool true, h') := by
  have kb : Hok (h.en.pu [.int .i64 p, .int .i64 q]) := Hok.pu hk rfl
  have gb : Grown h (h.en.pu [.int .i64 p, .int .i64 q]) := Grown.pu Grown.en rfl
  have ab : Ints (h.en.pu [.int .i64 p, .int .i64 q]).blks .i64 a zs := ha.sub (gb.sub hk)
  have bx : Box (h.en.pu [.int .i64 p, .int .i64 q]).blks h.next [.int .i64 p, .int .i64 q] := Box.top
  obtain ⟨l, h1, ev1, g1, o1⟩ := f16 a zs (h.en.pu [.int .i64 p, .int .i64 q]) kb ab hz
  have hL : (zs.take 29).length ≤ 29 := by simp; omega
  generalize zs.take 29 = L at o1 hL
  have k1 := g1.ok kb
  obtain ⟨v2, h2, ev2, g2, r, rfl, q2⟩ := f17 n p q l L h1 k1 o1.ints (o1.ref k1) (by omega)
  have k2 := g2.ok k1
  have o2 := o1.sub (g2.sub k1)
  have b1 := bx.sub (g1.sub kb)
  have b2 := b1.sub (g2.sub k1)
  have w1 := f18 n 1 8 h2 k2
  have w2 := f18 p 0 1 h2 k2
  have w3 := f18 q 1 4 h2 k2
  have lv := f19
  have ix := fun (hh : Hp) (id : Nat) => And.intro (sIxA_ptr (len := 2) (n := 1) (h := hh) (j := 0) (id := id) (off := 0) (by omega)) (sIxA_ptr (len := 2) (n := 1) (h := hh) (j := 1) (id := id) (off := 0) (by omega))
  have out : ∀ E, cqE n L p q = E → cqO n L p q = none → r = .nilsl := fun E _ h0 => by rw [h0] at q2; exact q2
  suffices H : ∃ v h', Evals Try.prog tab false (.func 3) [.int .i64 n, a, .ag [.int .i64 p, .int .i64 q]] h (v, h') ∧ v = .bool true by
    obtain ⟨v, h', e, rfl⟩ := H
    exact ⟨h', e⟩
  refine evals_func (Q := fun v _ => v = .bool true) c3 rfl ?_
  simp only [sf3, initS_cons, initS_nil]
  by_cases e1 : 1 ≤ n ∧ n ≤ 8
  · have d1 : decide (1 ≤ n ∧ n ≤ 8) = true := decide_eq_true e1
    by_cases e2 : 0 ≤ p ∧ p ≤ 1
    · have d2 : decide (0 ≤ p ∧ p ≤ 1) = true := decide_eq_true e2
      by_cases e3 : 1 ≤ q ∧ q ≤ 4
      · have d3 : decide (1 ≤ q ∧ q ≤ 4) = true := decide_eq_true e3
        have ok : cqOK n p q := ⟨e1, e2, e3⟩
        obtain ⟨m, rfl⟩ : ∃ m : Nat, n = m := ⟨n.toNat, by omega⟩
        obtain ⟨j, rfl⟩ : ∃ j : Nat, q = j := ⟨q.toNat, by omega⟩
        have hm : 1 ≤ m ∧ m ≤ 8 := by omega
        obtain ⟨M, hM⟩ : ∃ M : Nat, M = m * (m - 1) := ⟨_, rfl⟩
        have hM2 : (m : Int) * ((m : Int) - 1) = (M : Int) := by rw [show (m : Int) - 1 = ((m - 1 : Nat) : Int) by omega, hM]; rfl
        have hM3 : M ≤ 56 := by rw [hM]; exact Nat.le_trans (Nat.mul_le_mul hm.2 (show m - 1 ≤ 7 by omega)) (by omega)
        have cl := f20 l L ((M : Int) / 2) 2 h2 k2 o2.ints (by omega) (by omega)
        have eq := @sBin_quo
        by_cases hF : cqF m L
        · have d4 : (okc 2 L && decide ((L.length : Int) = (M : Int) / 2)) = true := by
            rw [Bool.and_eq_true, decide_eq_true_eq, ← hM2]
            exact ⟨hF.2, hF.1⟩
          have hzl : L.length = m * (m - 1) / 2 := by
            have := hF.1
            rw [hM2] at this
            rw [← hM]
            omega
          obtain ⟨r2, h3, ev3, g3, q3⟩ := f22 m j l L p h2 k2 o2.ints hm.2 (by omega) (by omega) hzl m 0 [] .nilsl h2 h2.next (by omega) Grown.refl Own.nil (Nat.le_refl _) (by simp) (.inl ⟨rfl, rfl⟩) (by simp) (by omega)
          have k3 := g3.ok k2
          have O : cqO m L p j = gr (joins m L p) j m [] 0 := by rw [cqO, if_pos ok, if_pos hF]; rfl
          have E : cqE m L p j = if (gr (joins m L p) j m [] 0).isSome = true then 0 else 5 := by rw [cqE, if_pos ok, if_pos hF]; rfl
          rw [O] at q2
          rw [E] at ev2
          have q2' : GR h1.next r h3.blks (gr (joins m L p) j m [] 0) := by
            cases hgr : gr (joins m L p) j m [] 0 with
            | none => rw [hgr] at q2; exact q2
            | some cc => rw [hgr] at q2; exact ⟨q2.1.sub (g3.sub k2), q2.2⟩
          have fd := f21 r r2 (gr (joins m L p) j m [] 0) h1.next h2.next h3 k3 q2' q3 (fun c e => by have := gr_len e; omega)
          simp (disch := first | (simp only [Nat.reduceBEq, elem_hit, elem_miss, elem_nil]; done) | ((repeat' (first | assumption | exact Sub.refl _ | refine Sub.push ?_ ?_ | exact HokR.fresh (by assumption) | refine Fresh.push ?_ | refine HokR.push ?_ ?_ ?_ | exact Grown.refl | refine GrownR.push ?_ ?_ ?_ | exact refsOK_ints | exact refsOK_pairs | exact Nat.le_refl _ | (simp only [wM, Nat.reduceAdd, Nat.reduceLT, Nat.reduceLeDiff]; done))); done) | omega | decide) only [sBox_ag, callT ev1, ix, b1.ld (Sub.refl _), b2.ld (Sub.refl _), callT ev2, callT w1, callT w2, callT w3, d1, d2, d3, hM2, eq, callT cl, d4, callT ev3, callT fd, callT (lv h3), wrap_i64, idx?_pos, Int.toNat_natCast, ↓wA, wB, resOf, Option.map_some, Option.map_none, List.map_cons, List.map_nil, List.nil_append, List.append_nil, List.cons_append, Nat.reduceBEq, List.getElem?_cons_zero, List.getElem?_cons_succ, List.getElem?_nil, Option.getD_some, Option.getD_none, cond_false, cond_true, and_true, true_and, Nat.zero_add, Nat.mul_one, Int.reduceBEq, Int.reduceBNe, Int.reduceLT, Int.reduceLE, Int.reduceAdd, Int.reduceSub, Int.reduceMul, decide_true, decide_false, Bool.not_true, Bool.not_false, beq_self_eq_true, bne_self_eq_false, and_self, List.isEmpty_nil, List.isEmpty_cons, Bool.true_or, Bool.false_or, List.set_cons_zero, List.set_cons_succ, List.length_cons, List.length_nil, Option.bind_some, List.all_cons, List.all_nil, Bool.or_true, Bool.true_and, Bool.and_true, Int.reduceToNat]
          exact ⟨_, rfl, rfl⟩
        · have d4 : (okc 2 L && decide ((L.length : Int) = (M : Int) / 2)) = false := by
            rw [Bool.eq_false_iff]
            intro h4
            rw [Bool.and_eq_true, decide_eq_true_eq, ← hM2] at h4
            exact hF ⟨h4.2, h4.1⟩
          have E : cqE m L p j = 2 := by rw [cqE, if_pos ok, if_neg hF]
          cases out 2 E (by rw [cqO, if_pos ok, if_neg hF])
          rw [E] at ev2
          simp (disch := first | (simp only [Nat.reduceBEq, elem_hit, elem_miss, elem_nil]; done) | ((repeat' (first | assumption | exact Sub.refl _ | refine Sub.push ?_ ?_ | exact HokR.fresh (by assumption) | refine Fresh.push ?_ | refine HokR.push ?_ ?_ ?_ | exact Grown.refl | refine GrownR.push ?_ ?_ ?_ | exact refsOK_ints | exact refsOK_pairs | exact Nat.le_refl _ | (simp only [wM, Nat.reduceAdd, Nat.reduceLT, Nat.reduceLeDiff]; done))); done) | omega | decide) only [sBox_ag, callT ev1, ix, b1.ld (Sub.refl _), b2.ld (Sub.refl _), callT ev2, callT w1, callT w2, callT w3, d1, d2, d3, hM2, eq, callT cl, d4, sLen_nil, callT (lv h2), wrap_i64, idx?_pos, Int.toNat_natCast, ↓wA, wB, resOf, Option.map_some, Option.map_none, List.map_cons, List.map_nil, List.nil_append, List.append_nil, List.cons_append, Nat.reduceBEq, List.getElem?_cons_zero, List.getElem?_cons_succ, List.getElem?_nil, Option.getD_some, Option.getD_none, cond_false, cond_true, and_true, true_and, Nat.zero_add, Nat.mul_one, Int.reduceBEq, Int.reduceBNe, Int.reduceLT, Int.reduceLE, Int.reduceAdd, Int.reduceSub, Int.reduceMul, decide_true, decide_false, Bool.not_true, Bool.not_false, beq_self_eq_true, bne_self_eq_false, and_self, List.isEmpty_nil, List.isEmpty_cons, Bool.true_or, Bool.false_or, List.set_cons_zero, List.set_cons_succ, List.length_cons, List.length_nil, Option.bind_some, List.all_cons, List.all_nil, Bool.or_true, Bool.true_and, Bool.and_true, Int.reduceToNat]
          exact ⟨_, rfl, rfl⟩
      · have d3 : decide (1 ≤ q ∧ q ≤ 4) = false := decide_eq_false e3
        have ok : ¬ cqOK n p q := fun h => e3 h.2.2
        have E : cqE n L p q = 1 := by rw [cqE, if_neg ok]
        cases out 1 E (by rw [cqO, if_neg ok])
        rw [E] at ev2
        simp (disch := first | (simp only [Nat.reduceBEq, elem_hit, elem_miss, elem_nil]; done) | ((repeat' (first | assumption | exact Sub.refl _ | refine Sub.push ?_ ?_ | exact HokR.fresh (by assumption) | refine Fresh.push ?_ | refine HokR.push ?_ ?_ ?_ | exact Grown.refl | refine GrownR.push ?_ ?_ ?_ | exact refsOK_ints | exact refsOK_pairs | exact Nat.le_refl _ | (simp only [wM, Nat.reduceAdd, Nat.reduceLT, Nat.reduceLeDiff]; done))); done) | omega | decide) only [sBox_ag, callT ev1, ix, b1.ld (Sub.refl _), b2.ld (Sub.refl _), callT ev2, callT w1, callT w2, callT w3, d1, d2, d3, sLen_nil, callT (lv h2), wrap_i64, idx?_pos, Int.toNat_natCast, ↓wA, wB, resOf, Option.map_some, Option.map_none, List.map_cons, List.map_nil, List.nil_append, List.append_nil, List.cons_append, Nat.reduceBEq, List.getElem?_cons_zero, List.getElem?_cons_succ, List.getElem?_nil, Option.getD_some, Option.getD_none, cond_false, cond_true, and_true, true_and, Nat.zero_add, Nat.mul_one, Int.reduceBEq, Int.reduceBNe, Int.reduceLT, Int.reduceLE, Int.reduceAdd, Int.reduceSub, Int.reduceMul, decide_true, decide_false, Bool.not_true, Bool.not_false, beq_self_eq_true, bne_self_eq_false, and_self, List.isEmpty_nil, List.isEmpty_cons, Bool.true_or, Bool.false_or, List.set_cons_zero, List.set_cons_succ, List.length_cons, List.length_nil, Option.bind_some, List.all_cons, List.all_nil, Bool.or_true, Bool.true_and, Bool.and_true, Int.reduceToNat]
        exact ⟨_, rfl, rfl⟩
    · have d2 : decide (0 ≤ p ∧ p ≤ 1) = false := decide_eq_false e2
      have ok : ¬ cqOK n p q := fun h => e2 h.2.1
      have E : cqE n L p q = 1 := by rw [cqE, if_neg ok]
      cases out 1 E (by rw [cqO, if_neg ok])
      rw [E] at ev2
      simp (disch := first | (simp only [Nat.reduceBEq, elem_hit, elem_miss, elem_nil]; done) | ((repeat' (first | assumption | exact Sub.refl _ | refine Sub.push ?_ ?_ | exact HokR.fresh (by assumption) | refine Fresh.push ?_ | refine HokR.push ?_ ?_ ?_ | exact Grown.refl | refine GrownR.push ?_ ?_ ?_ | exact refsOK_ints | exact refsOK_pairs | exact Nat.le_refl _ | (simp only [wM, Nat.reduceAdd, Nat.reduceLT, Nat.reduceLeDiff]; done))); done) | omega | decide) only [sBox_ag, callT ev1, ix, b1.ld (Sub.refl _), b2.ld (Sub.refl _), callT ev2, callT w1, callT w2, callT w3, d1, d2, sLen_nil, callT (lv h2), wrap_i64, idx?_pos, Int.toNat_natCast, ↓wA, wB, resOf, Option.map_some, Option.map_none, List.map_cons, List.map_nil, List.nil_append, List.append_nil, List.cons_append, Nat.reduceBEq, List.getElem?_cons_zero, List.getElem?_cons_succ, List.getElem?_nil, Option.getD_some, Option.getD_none, cond_false, cond_true, and_true, true_and, Nat.zero_add, Nat.mul_one, Int.reduceBEq, Int.reduceBNe, Int.reduceLT, Int.reduceLE, Int.reduceAdd, Int.reduceSub, Int.reduceMul, decide_true, decide_false, Bool.not_true, Bool.not_false, beq_self_eq_true, bne_self_eq_false, and_self, List.isEmpty_nil, List.isEmpty_cons, Bool.true_or, Bool.false_or, List.set_cons_zero, List.set_cons_succ, List.length_cons, List.length_nil, Option.bind_some, List.all_cons, List.all_nil, Bool.or_true, Bool.true_and, Bool.and_true, Int.reduceToNat]
      exact ⟨_, rfl, rfl⟩
  · have d1 : decide (1 ≤ n ∧ n ≤ 8) = false := decide_eq_false e1
    have ok : ¬ cqOK n p q := fun h => e1 h.1
    have E : cqE n L p q = 1 := by rw [cqE, if_neg ok]
    cases out 1 E (by rw [cqO, if_neg ok])
    rw [E] at ev2
    simp (disch := first | (simp only [Nat.reduceBEq, elem_hit, elem_miss, elem_nil]; done) | ((repeat' (first | assumption | exact Sub.refl _ | refine Sub.push ?_ ?_ | exact HokR.fresh (by assumption) | refine Fresh.push ?_ | refine HokR.push ?_ ?_ ?_ | exact Grown.refl | refine GrownR.push ?_ ?_ ?_ | exact refsOK_ints | exact refsOK_pairs | exact Nat.le_refl _ | (simp only [wM, Nat.reduceAdd, Nat.reduceLT, Nat.reduceLeDiff]; done))); done) | omega | decide) only [sBox_ag, callT ev1, ix, b1.ld (Sub.refl _), b2.ld (Sub.refl _), callT ev2, callT w1, callT w2, callT w3, d1, sLen_nil, callT (lv h2), wrap_i64, idx?_pos, Int.toNat_natCast, ↓wA, wB, resOf, Option.map_some, Option.map_none, List.map_cons, List.map_nil, List.nil_append, List.append_nil, List.cons_append, Nat.reduceBEq, List.getElem?_cons_zero, List.getElem?_cons_succ, List.getElem?_nil, Option.getD_some, Option.getD_none, cond_false, cond_true, and_true, true_and, Nat.zero_add, Nat.mul_one, Int.reduceBEq, Int.reduceBNe, Int.reduceLT, Int.reduceLE, Int.reduceAdd, Int.reduceSub, Int.reduceMul, decide_true, decide_false, Bool.not_true, Bool.not_false, beq_self_eq_true, bne_self_eq_false, and_self, List.isEmpty_nil, List.isEmpty_cons, Bool.true_or, Bool.false_or, List.set_cons_zero, List.set_cons_succ, List.length_cons, List.length_nil, Option.bind_some, List.all_cons, List.all_nil, Bool.or_true, Bool.true_and, Bool.and_true, Int.reduceToNat]
    exact ⟨_, rfl, rfl⟩
end Go.Proofs.Ytpclkcamfainiaa
