/- Clique, and the law about it. -/
import Derived.Test.YtpclkcamfainiaaP5
import Derived.Test.YtpclkcamfainiaaSO
set_option linter.unusedSimpArgs false
set_option linter.unusedVariables false
set_option maxHeartbeats 4000000
set_option maxRecDepth 20000
namespace Go.Pt
open Go Go.Abs
def cqOK (n c k : Int) : Prop := (1 ≤ n ∧ n ≤ 8) ∧ (0 ≤ c ∧ c ≤ 1) ∧ 1 ≤ k ∧ k ≤ 4
instance {n c k : Int} : Decidable (cqOK n c k) := inferInstanceAs (Decidable (_ ∧ _))
def cqF (n : Int) (zs : List Int) : Prop := (zs.length : Int) = n * (n - 1) / 2 ∧ okc 2 zs = true
instance {n : Int} {zs : List Int} : Decidable (cqF n zs) := inferInstanceAs (Decidable (_ ∧ _))
def cqO (n : Int) (zs : List Int) (c k : Int) : Option (List Nat) := if cqOK n c k then (if cqF n zs then gr (joins n.toNat zs c) k.toNat n.toNat [] 0 else none) else none
def cqE (n : Int) (zs : List Int) (c k : Int) : Int := if cqOK n c k then (if cqF n zs then (if (gr (joins n.toNat zs c) k.toNat n.toNat [] 0).isSome = true then 0 else 5) else 2) else 1
end Go.Pt
namespace Go.Abs
theorem sBuild_v {k : IntKind} {a : Int} {x y v : AV} (hv : v.parts = some [v] ∧ v.isCell = true) : sBuild [x, y] [(0, 1), (1, 1)] [(0, .int k a), (1, v)] = some (.ag [.int k a, v]) := by
  obtain ⟨h1, h2⟩ := hv
  cases v <;> first | rfl | cases h2
end Go.Abs
namespace Go.Proofs.Ytpclkcamfainiaa
open Go Go.Abs Go.Pt

theorem f19 (h : Hp) : Evals Try.prog tab false (.func 19) [] h (.bool true, h) := evals_tab rfl

theorem f41 (n lim k : Nat) (cs : AV) (zs : List Int) (c : Int) (h0 : Hp) (ho : Hok h0) (hc : Ints h0.blks .i64 cs zs) (hr : refOK h0.next cs = true) (hn : n ≤ 8) (hlim : lim ≤ n) (hk1 : 1 ≤ k) (hk2 : k ≤ 4)
    (hnew : ∀ a b, a < b → b < lim → pix n a b < zs.length)
    (cl : List Nat) (s : AV) (h : Hp) (g0 : Grown h0 h) (os : OwnF h0.next h.blks .i64 s (nz cl)) (hlen : cl.length ≤ k)
    (hf : ∀ u, u < lim → ∀ w ∈ cl, w < n ∧ u ≠ w ∧ pix n (min u w) (max u w) < zs.length) :
    ∃ r h', Evals Try.prog tab false (.func 41) [.ag [.int .i64 n, cs], s, .int .i64 lim, .int .i64 c, .int .i64 k] h (r, h') ∧ (Grown h0 h' ∧ Elder h h' ∧
      GR h0.next r h'.blks (gr (joins n zs c) k lim cl 0)) := by
  have hk := g0.ok ho
  refine evals_own c41 ho g0 (fun r bs => GR h0.next r bs (gr (joins n zs c) k lim cl 0)) rfl ?_ (fun v bs bs' hl hr q => q.lk hr hl)
  simp only [sf41, initS_cons, initS_nil]
  have hcr : refOK h.next cs = true := refOK_mono g0.next hr
  have hrr : refsOK (h.next + 1) [.int .i64 n, cs] = true := by simp only [refsOK_cons, refsOK_nil, Bool.and_true, Bool.and_eq_true]; exact ⟨rfl, refOK_mono (Nat.le_succ _) hcr⟩
  have gb : Grown h (h.en.pu [.int .i64 n, cs]) := Grown.pu Grown.en hrr
  have g0b : Grown h0 (h.en.pu [.int .i64 n, cs]) := GrownR.trans g0 gb
  have sb : Sub h.blks (h.en.pu [.int .i64 n, cs]).blks := Sub.pu (h := h.en) hk
  have osb : OwnF h0.next (h.en.pu [.int .i64 n, cs]).blks .i64 s (nz cl) := (Keep.sub (m := cl.length) sb s (nz cl) (by rw [nz_len]; omega) os).1
  have bx : Box (h.en.pu [.int .i64 n, cs]).blks h.next [.int .i64 n, cs] := Box.top
  obtain ⟨r, h1, ev, g1, x1, q1, _, _⟩ := f53 n lim k cs zs c h0 ho hc hr hn hlim hk1 hk2 hnew lim 0 cl s (h.en.pu [.int .i64 n, cs]) (by omega) g0b osb hlen (fun u _ h2 w hw => hf u h2 w hw)
  rw [show ((0 : Nat) : Int) = 0 from rfl] at ev
  simp (disch := first | (simp only [Nat.reduceBEq, elem_hit, elem_miss, elem_nil]; done) | ((repeat' (first | assumption | exact Sub.refl _ | refine Sub.push ?_ ?_ | exact HokR.fresh (by assumption) | refine Fresh.push ?_ | refine HokR.push ?_ ?_ ?_ | exact Grown.refl | refine GrownR.push ?_ ?_ ?_ | exact refsOK_ints | exact refsOK_pairs | exact Nat.le_refl _ | (simp only [wM, Nat.reduceAdd, Nat.reduceLT, Nat.reduceLeDiff]; done))); done) | omega | decide) only [sBox_ag, bx.lda (Sub.refl _), slice?_2, callT ev, wrap_i64, idx?_pos, Int.toNat_natCast, ↓wA, wB, resOf, Option.map_some, Option.map_none, List.map_cons, List.map_nil, List.nil_append, List.append_nil, List.cons_append, Nat.reduceBEq, List.getElem?_cons_zero, List.getElem?_cons_succ, List.getElem?_nil, Option.getD_some, Option.getD_none, cond_false, cond_true, and_true, true_and, Nat.zero_add, Nat.mul_one, Int.reduceBEq, Int.reduceBNe, Int.reduceLT, Int.reduceLE, Int.reduceAdd, Int.reduceSub, Int.reduceMul, decide_true, decide_false, Bool.not_true, Bool.not_false, beq_self_eq_true, bne_self_eq_false, and_self, List.isEmpty_nil, List.isEmpty_cons, Bool.true_or, Bool.false_or, List.set_cons_zero, List.set_cons_succ, List.length_cons, List.length_nil, Option.bind_some, List.all_cons, List.all_nil, Bool.or_true, Bool.true_and, Bool.and_true, Int.reduceToNat]
  exact ⟨_, rfl, g1, (GrownR.elder gb).trans x1, q1⟩

theorem f17 (n c k : Int) (a : AV) (zs : List Int) (h : Hp) (hk : Hok h) (ha : Ints h.blks .i64 a zs) (hr : refOK h.next a = true) (hz : zs.length ≤ 1000) :
    ∃ v h', Evals Try.prog tab false (.func 17) [.int .i64 n, a, .int .i64 c, .int .i64 k] h (v, h') ∧ Grown h h' ∧ ∃ r, v = .tu [r, .int .i64 (cqE n zs c k)] ∧ GR h.next r h'.blks (cqO n zs c k) := by
  refine evals_q c17 (fun v h' => ∃ r, v = .tu [r, .int .i64 (cqE n zs c k)] ∧ GR h.next r h'.blks (cqO n zs c k)) rfl hk ?_ (fun v h1 g q => by
    obtain ⟨r, rfl, q⟩ := q
    refine ⟨fun hr => ⟨r, rfl, q.lk (d := h.next) ?_ (fun id hid => (g.lkB hid).symm)⟩, fun _ => ⟨r, rfl, q⟩⟩
    simp only [refOK, refsOK_cons, Bool.and_eq_true] at hr
    exact hr.1)
  simp only [sf17, initS_cons, initS_nil]
  have w1 := f38 n 1 8 h.en hk
  have w2 := f38 c 0 1 h.en hk
  have w3 := f38 k 1 4 h.en hk
  by_cases e1 : 1 ≤ n ∧ n ≤ 8
  · by_cases e2 : 0 ≤ c ∧ c ≤ 1
    · by_cases e3 : 1 ≤ k ∧ k ≤ 4
      · have d1 : decide (1 ≤ n ∧ n ≤ 8) = true := decide_eq_true e1
        have d2 : decide (0 ≤ c ∧ c ≤ 1) = true := decide_eq_true e2
        have d3 : decide (1 ≤ k ∧ k ≤ 4) = true := decide_eq_true e3
        have ok : cqOK n c k := ⟨e1, e2, e3⟩
        obtain ⟨m, rfl⟩ : ∃ m : Nat, n = m := ⟨n.toNat, by omega⟩
        obtain ⟨j, rfl⟩ : ∃ j : Nat, k = j := ⟨k.toNat, by omega⟩
        have hm : 1 ≤ m ∧ m ≤ 8 := by omega
        obtain ⟨M, hM⟩ : ∃ M : Nat, M = m * (m - 1) := ⟨_, rfl⟩
        have hM2 : (m : Int) * ((m : Int) - 1) = (M : Int) := by rw [show (m : Int) - 1 = ((m - 1 : Nat) : Int) by omega, hM]; rfl
        have hM3 : M ≤ 56 := by rw [hM]; exact Nat.le_trans (Nat.mul_le_mul hm.2 (show m - 1 ≤ 7 by omega)) (by omega)
        have pt := f39 a zs 2 h.en hk ha hz (by omega)
        have eq := @sBin_quo
        by_cases e4 : (zs.length : Int) = (M : Int) / 2
        · have d4 : ((zs.length : Int) != (M : Int) / 2) = false := by simp [e4]
          by_cases e5 : okc 2 zs = true
          · have hF : cqF m zs := ⟨by rw [hM2]; exact e4, e5⟩
            have hzl : zs.length = m * (m - 1) / 2 := by rw [← hM]; omega
            obtain ⟨r, h1, ev, g1, x1, q1⟩ := f41 m m j a zs c h.en hk ha hr hm.2 (Nat.le_refl _) (by omega) (by omega) (fun x y h1 h2 => by rw [hzl]; exact pix_lt m hm.2 y h2 x h1) [] .nilsl h.en Grown.refl OwnF.nil (by simp) (fun u _ w hw => by simp at hw)
            have k1 := g1.ok hk
            have sb := fun (k : Int) => sBuild_v (k := .i64) (a := k) (x := .int .i64 0) (y := .nilsl) (Arr.cell ha)
            have fd := f40 r h.next (gr (joins m zs c) j m [] 0) h1 k1 q1
            simp (disch := first | (simp only [Nat.reduceBEq, elem_hit, elem_miss, elem_nil]; done) | ((repeat' (first | assumption | exact Sub.refl _ | refine Sub.push ?_ ?_ | exact HokR.fresh (by assumption) | refine Fresh.push ?_ | refine HokR.push ?_ ?_ ?_ | exact Grown.refl | refine GrownR.push ?_ ?_ ?_ | exact refsOK_ints | exact refsOK_pairs | exact Nat.le_refl _ | (simp only [wM, Nat.reduceAdd, Nat.reduceLT, Nat.reduceLeDiff]; done))); done) | omega | decide) only [callT w1, callT w2, callT w3, d1, d2, d3, ha.len, hM2, eq, d4, callT pt, e5, sb, callT ev, callT fd, wrap_i64, idx?_pos, Int.toNat_natCast, ↓wA, wB, resOf, Option.map_some, Option.map_none, List.map_cons, List.map_nil, List.nil_append, List.append_nil, List.cons_append, Nat.reduceBEq, List.getElem?_cons_zero, List.getElem?_cons_succ, List.getElem?_nil, Option.getD_some, Option.getD_none, cond_false, cond_true, and_true, true_and, Nat.zero_add, Nat.mul_one, Int.reduceBEq, Int.reduceBNe, Int.reduceLT, Int.reduceLE, Int.reduceAdd, Int.reduceSub, Int.reduceMul, decide_true, decide_false, Bool.not_true, Bool.not_false, beq_self_eq_true, bne_self_eq_false, and_self, List.isEmpty_nil, List.isEmpty_cons, Bool.true_or, Bool.false_or, List.set_cons_zero, List.set_cons_succ, List.length_cons, List.length_nil, Option.bind_some, List.all_cons, List.all_nil, Bool.or_true, Bool.true_and, Bool.and_true, Int.reduceToNat]
            refine ⟨_, rfl, GrownR.of_en g1, r, ?_, ?_⟩
            · rw [cqE, if_pos ok, if_pos hF]; rfl
            · rw [cqO, if_pos ok, if_pos hF]; exact q1
          · have hF : ¬ cqF m zs := fun h => e5 h.2
            have e5' : okc 2 zs = false := by simpa using e5
            simp (disch := first | (simp only [Nat.reduceBEq, elem_hit, elem_miss, elem_nil]; done) | ((repeat' (first | assumption | exact Sub.refl _ | refine Sub.push ?_ ?_ | exact HokR.fresh (by assumption) | refine Fresh.push ?_ | refine HokR.push ?_ ?_ ?_ | exact Grown.refl | refine GrownR.push ?_ ?_ ?_ | exact refsOK_ints | exact refsOK_pairs | exact Nat.le_refl _ | (simp only [wM, Nat.reduceAdd, Nat.reduceLT, Nat.reduceLeDiff]; done))); done) | omega | decide) only [callT w1, callT w2, callT w3, d1, d2, d3, ha.len, hM2, eq, d4, callT pt, e5', wrap_i64, idx?_pos, Int.toNat_natCast, ↓wA, wB, resOf, Option.map_some, Option.map_none, List.map_cons, List.map_nil, List.nil_append, List.append_nil, List.cons_append, Nat.reduceBEq, List.getElem?_cons_zero, List.getElem?_cons_succ, List.getElem?_nil, Option.getD_some, Option.getD_none, cond_false, cond_true, and_true, true_and, Nat.zero_add, Nat.mul_one, Int.reduceBEq, Int.reduceBNe, Int.reduceLT, Int.reduceLE, Int.reduceAdd, Int.reduceSub, Int.reduceMul, decide_true, decide_false, Bool.not_true, Bool.not_false, beq_self_eq_true, bne_self_eq_false, and_self, List.isEmpty_nil, List.isEmpty_cons, Bool.true_or, Bool.false_or, List.set_cons_zero, List.set_cons_succ, List.length_cons, List.length_nil, Option.bind_some, List.all_cons, List.all_nil, Bool.or_true, Bool.true_and, Bool.and_true, Int.reduceToNat]
            refine ⟨_, rfl, Grown.en, .nilsl, ?_, ?_⟩
            · rw [cqE, if_pos ok, if_neg hF]
            · rw [cqO, if_pos ok, if_neg hF]; rfl
        · have d4 : ((zs.length : Int) != (M : Int) / 2) = true := by simpa using e4
          have hF : ¬ cqF m zs := fun h => e4 (by rw [← hM2]; exact h.1)
          simp (disch := first | (simp only [Nat.reduceBEq, elem_hit, elem_miss, elem_nil]; done) | ((repeat' (first | assumption | exact Sub.refl _ | refine Sub.push ?_ ?_ | exact HokR.fresh (by assumption) | refine Fresh.push ?_ | refine HokR.push ?_ ?_ ?_ | exact Grown.refl | refine GrownR.push ?_ ?_ ?_ | exact refsOK_ints | exact refsOK_pairs | exact Nat.le_refl _ | (simp only [wM, Nat.reduceAdd, Nat.reduceLT, Nat.reduceLeDiff]; done))); done) | omega | decide) only [callT w1, callT w2, callT w3, d1, d2, d3, ha.len, hM2, eq, d4, wrap_i64, idx?_pos, Int.toNat_natCast, ↓wA, wB, resOf, Option.map_some, Option.map_none, List.map_cons, List.map_nil, List.nil_append, List.append_nil, List.cons_append, Nat.reduceBEq, List.getElem?_cons_zero, List.getElem?_cons_succ, List.getElem?_nil, Option.getD_some, Option.getD_none, cond_false, cond_true, and_true, true_and, Nat.zero_add, Nat.mul_one, Int.reduceBEq, Int.reduceBNe, Int.reduceLT, Int.reduceLE, Int.reduceAdd, Int.reduceSub, Int.reduceMul, decide_true, decide_false, Bool.not_true, Bool.not_false, beq_self_eq_true, bne_self_eq_false, and_self, List.isEmpty_nil, List.isEmpty_cons, Bool.true_or, Bool.false_or, List.set_cons_zero, List.set_cons_succ, List.length_cons, List.length_nil, Option.bind_some, List.all_cons, List.all_nil, Bool.or_true, Bool.true_and, Bool.and_true, Int.reduceToNat]
          refine ⟨_, rfl, Grown.en, .nilsl, ?_, ?_⟩
          · rw [cqE, if_pos ok, if_neg hF]
          · rw [cqO, if_pos ok, if_neg hF]; rfl
      · have d1 : decide (1 ≤ n ∧ n ≤ 8) = true := decide_eq_true e1
        have d2 : decide (0 ≤ c ∧ c ≤ 1) = true := decide_eq_true e2
        have d3 : decide (1 ≤ k ∧ k ≤ 4) = false := decide_eq_false e3
        have ok : ¬ cqOK n c k := fun h => e3 h.2.2
        simp (disch := first | (simp only [Nat.reduceBEq, elem_hit, elem_miss, elem_nil]; done) | ((repeat' (first | assumption | exact Sub.refl _ | refine Sub.push ?_ ?_ | exact HokR.fresh (by assumption) | refine Fresh.push ?_ | refine HokR.push ?_ ?_ ?_ | exact Grown.refl | refine GrownR.push ?_ ?_ ?_ | exact refsOK_ints | exact refsOK_pairs | exact Nat.le_refl _ | (simp only [wM, Nat.reduceAdd, Nat.reduceLT, Nat.reduceLeDiff]; done))); done) | omega | decide) only [callT w1, callT w2, callT w3, d1, d2, d3, wrap_i64, idx?_pos, Int.toNat_natCast, ↓wA, wB, resOf, Option.map_some, Option.map_none, List.map_cons, List.map_nil, List.nil_append, List.append_nil, List.cons_append, Nat.reduceBEq, List.getElem?_cons_zero, List.getElem?_cons_succ, List.getElem?_nil, Option.getD_some, Option.getD_none, cond_false, cond_true, and_true, true_and, Nat.zero_add, Nat.mul_one, Int.reduceBEq, Int.reduceBNe, Int.reduceLT, Int.reduceLE, Int.reduceAdd, Int.reduceSub, Int.reduceMul, decide_true, decide_false, Bool.not_true, Bool.not_false, beq_self_eq_true, bne_self_eq_false, and_self, List.isEmpty_nil, List.isEmpty_cons, Bool.true_or, Bool.false_or, List.set_cons_zero, List.set_cons_succ, List.length_cons, List.length_nil, Option.bind_some, List.all_cons, List.all_nil, Bool.or_true, Bool.true_and, Bool.and_true, Int.reduceToNat]
        exact ⟨_, rfl, Grown.en, .nilsl, by rw [cqE, if_neg ok], by rw [cqO, if_neg ok]; rfl⟩
    · have d1 : decide (1 ≤ n ∧ n ≤ 8) = true := decide_eq_true e1
      have d2 : decide (0 ≤ c ∧ c ≤ 1) = false := decide_eq_false e2
      have ok : ¬ cqOK n c k := fun h => e2 h.2.1
      simp (disch := first | (simp only [Nat.reduceBEq, elem_hit, elem_miss, elem_nil]; done) | ((repeat' (first | assumption | exact Sub.refl _ | refine Sub.push ?_ ?_ | exact HokR.fresh (by assumption) | refine Fresh.push ?_ | refine HokR.push ?_ ?_ ?_ | exact Grown.refl | refine GrownR.push ?_ ?_ ?_ | exact refsOK_ints | exact refsOK_pairs | exact Nat.le_refl _ | (simp only [wM, Nat.reduceAdd, Nat.reduceLT, Nat.reduceLeDiff]; done))); done) | omega | decide) only [callT w1, callT w2, d1, d2, wrap_i64, idx?_pos, Int.toNat_natCast, ↓wA, wB, resOf, Option.map_some, Option.map_none, List.map_cons, List.map_nil, List.nil_append, List.append_nil, List.cons_append, Nat.reduceBEq, List.getElem?_cons_zero, List.getElem?_cons_succ, List.getElem?_nil, Option.getD_some, Option.getD_none, cond_false, cond_true, and_true, true_and, Nat.zero_add, Nat.mul_one, Int.reduceBEq, Int.reduceBNe, Int.reduceLT, Int.reduceLE, Int.reduceAdd, Int.reduceSub, Int.reduceMul, decide_true, decide_false, Bool.not_true, Bool.not_false, beq_self_eq_true, bne_self_eq_false, and_self, List.isEmpty_nil, List.isEmpty_cons, Bool.true_or, Bool.false_or, List.set_cons_zero, List.set_cons_succ, List.length_cons, List.length_nil, Option.bind_some, List.all_cons, List.all_nil, Bool.or_true, Bool.true_and, Bool.and_true, Int.reduceToNat]
      exact ⟨_, rfl, Grown.en, .nilsl, by rw [cqE, if_neg ok], by rw [cqO, if_neg ok]; rfl⟩
  · have d1 : decide (1 ≤ n ∧ n ≤ 8) = false := decide_eq_false e1
    have ok : ¬ cqOK n c k := fun h => e1 h.1
    simp (disch := first | (simp only [Nat.reduceBEq, elem_hit, elem_miss, elem_nil]; done) | ((repeat' (first | assumption | exact Sub.refl _ | refine Sub.push ?_ ?_ | exact HokR.fresh (by assumption) | refine Fresh.push ?_ | refine HokR.push ?_ ?_ ?_ | exact Grown.refl | refine GrownR.push ?_ ?_ ?_ | exact refsOK_ints | exact refsOK_pairs | exact Nat.le_refl _ | (simp only [wM, Nat.reduceAdd, Nat.reduceLT, Nat.reduceLeDiff]; done))); done) | omega | decide) only [callT w1, d1, wrap_i64, idx?_pos, Int.toNat_natCast, ↓wA, wB, resOf, Option.map_some, Option.map_none, List.map_cons, List.map_nil, List.nil_append, List.append_nil, List.cons_append, Nat.reduceBEq, List.getElem?_cons_zero, List.getElem?_cons_succ, List.getElem?_nil, Option.getD_some, Option.getD_none, cond_false, cond_true, and_true, true_and, Nat.zero_add, Nat.mul_one, Int.reduceBEq, Int.reduceBNe, Int.reduceLT, Int.reduceLE, Int.reduceAdd, Int.reduceSub, Int.reduceMul, decide_true, decide_false, Bool.not_true, Bool.not_false, beq_self_eq_true, bne_self_eq_false, and_self, List.isEmpty_nil, List.isEmpty_cons, Bool.true_or, Bool.false_or, List.set_cons_zero, List.set_cons_succ, List.length_cons, List.length_nil, Option.bind_some, List.all_cons, List.all_nil, Bool.or_true, Bool.true_and, Bool.and_true, Int.reduceToNat]
    exact ⟨_, rfl, Grown.en, .nilsl, by rw [cqE, if_neg ok], by rw [cqO, if_neg ok]; rfl⟩
end Go.Proofs.Ytpclkcamfainiaa
