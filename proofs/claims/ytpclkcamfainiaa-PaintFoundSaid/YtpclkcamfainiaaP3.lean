/- The first clique. -/
import Derived.Test.YtpclkcamfainiaaP2
set_option linter.unusedSimpArgs false
set_option linter.unusedVariables false
set_option maxHeartbeats 4000000
set_option maxRecDepth 20000
namespace Go.Pt
open Go Go.Abs
def GR (c : Nat) (r : AV) (bs : List (Nat × Blk)) : Option (List Nat) → Prop
  | none => r = .nilsl
  | some cl => Own c bs .i64 r (nz cl) ∧ r ≠ .nilsl
theorem GR.lk {c d : Nat} {r : AV} {bs bs' : List (Nat × Blk)} {o : Option (List Nat)} (G : GR c r bs o) (hr : refOK d r = true) (hl : ∀ id, id < d → lkB bs' id = lkB bs id) : GR c r bs' o := by
  cases o with
  | none => exact G
  | some cl => exact ⟨OwnA.lk G.1 hr hl, G.2⟩
end Go.Pt
namespace Go.Proofs.Ytpclkcamfainiaa
open Go Go.Abs Go.Pt

theorem f53 (n lim k : Nat) (cs : AV) (zs : List Int) (c : Int) (h0 : Hp) (ho : Hok h0) (hc : Ints h0.blks .i64 cs zs) (hr : refOK h0.next cs = true) (hn : n ≤ 8) (hlim : lim ≤ n) (hk1 : 1 ≤ k) (hk2 : k ≤ 4)
    (hnew : ∀ a b, a < b → b < lim → pix n a b < zs.length) :
    ∀ (f v : Nat) (cl : List Nat) (s : AV) (h : Hp), lim - v ≤ f → Grown h0 h → OwnF h0.next h.blks .i64 s (nz cl) → cl.length ≤ k →
    (∀ u, v ≤ u → u < lim → ∀ w ∈ cl, w < n ∧ u ≠ w ∧ pix n (min u w) (max u w) < zs.length) →
    ∃ r h', Evals Try.prog tab false (.func 53) [.ag [.int .i64 n, cs], .int .i64 v, s, .int .i64 lim, .int .i64 c, .int .i64 k] h (r, h') ∧ (Grown h0 h' ∧ Elder h h' ∧
      (GR h0.next r h'.blks (gr (joins n zs c) k (lim - v) cl v) ∧ Keep h0.next .i64 cl.length h.blks h'.blks ∧ Off (chOf h.blks s) h.blks h'.blks)) := by
  intro f
  induction f using Nat.strongRecOn with
  | ind f IH =>
  intro v cl s h hfv g0 os hlen hf
  have hk := g0.ok ho
  refine evals_own c53 ho g0 (fun r bs => GR h0.next r bs (gr (joins n zs c) k (lim - v) cl v) ∧ Keep h0.next .i64 cl.length h.blks bs ∧ Off (chOf h.blks s) h.blks bs) rfl ?_ (fun v bs bs' hl hr q => ⟨q.1.lk hr hl, q.2.1.lk (d := 0) hk hl, q.2.2.lk hk hl⟩)
  simp only [sf53, initS_cons, initS_nil]
  have hcr : refOK h.next cs = true := refOK_mono g0.next hr
  have hrr : refsOK (h.next + 1) [.int .i64 n, cs] = true := by simp only [refsOK_cons, refsOK_nil, Bool.and_true, Bool.and_eq_true]; exact ⟨rfl, refOK_mono (Nat.le_succ _) hcr⟩
  have kb : Hok (h.en.pu [.int .i64 n, cs]) := Hok.pu hk hrr
  have gb : Grown h (h.en.pu [.int .i64 n, cs]) := Grown.pu Grown.en hrr
  have g0b : Grown h0 (h.en.pu [.int .i64 n, cs]) := GrownR.trans g0 gb
  have sb : Sub h.blks (h.en.pu [.int .i64 n, cs]).blks := Sub.pu (h := h.en) hk
  have osb : OwnF h0.next (h.en.pu [.int .i64 n, cs]).blks .i64 s (nz cl) := (Keep.sub (m := cl.length) sb s (nz cl) (by rw [nz_len]; omega) os).1
  have ecb : chOf (h.en.pu [.int .i64 n, cs]).blks s = chOf h.blks s := (Keep.sub (m := cl.length) sb s (nz cl) (by rw [nz_len]; omega) os).2
  have bx : lkB (h.en.pu [.int .i64 n, cs]).blks h.next = some { cells := [.int .i64 n, cs], ch := h.next, wr := true } := lkB_top
  have hcne : some h.next ≠ chOf h.blks s := fun e => absurd (chOf_lt hk os _ e.symm) (by omega)
  by_cases e0 : cl.length = k
  · obtain ⟨r, h1, ev, g1, o1, n1⟩ := f61 s (nz cl) (h.en.pu [.int .i64 n, cs]) kb osb.own.ints (by rw [nz_len]; omega) (by rw [nz_len]; omega)
    have e0' : ((cl.length : Int) == (k : Int)) = true := by simp; omega
    simp (disch := first | (simp only [Nat.reduceBEq, elem_hit, elem_miss, elem_nil]; done) | ((repeat' (first | assumption | exact Sub.refl _ | refine Sub.push ?_ ?_ | exact HokR.fresh (by assumption) | refine Fresh.push ?_ | refine HokR.push ?_ ?_ ?_ | exact Grown.refl | refine GrownR.push ?_ ?_ ?_ | exact refsOK_ints | exact refsOK_pairs | exact Nat.le_refl _ | (simp only [wM, Nat.reduceAdd, Nat.reduceLT, Nat.reduceLeDiff]; done))); done) | omega | decide) only [sBox_ag, osb.own.len, nz_len, callT ev, e0', wrap_i64, idx?_pos, Int.toNat_natCast, ↓wA, wB, resOf, Option.map_some, Option.map_none, List.map_cons, List.map_nil, List.nil_append, List.append_nil, List.cons_append, Nat.reduceBEq, List.getElem?_cons_zero, List.getElem?_cons_succ, List.getElem?_nil, Option.getD_some, Option.getD_none, cond_false, cond_true, and_true, true_and, Nat.zero_add, Nat.mul_one, Int.reduceBEq, Int.reduceBNe, Int.reduceLT, Int.reduceLE, Int.reduceAdd, Int.reduceSub, Int.reduceMul, decide_true, decide_false, Bool.not_true, Bool.not_false, beq_self_eq_true, bne_self_eq_false, and_self, List.isEmpty_nil, List.isEmpty_cons, Bool.true_or, Bool.false_or, List.set_cons_zero, List.set_cons_succ, List.length_cons, List.length_nil, Option.bind_some, List.all_cons, List.all_nil, Bool.or_true, Bool.true_and, Bool.and_true, Int.reduceToNat]
    refine ⟨_, rfl, GrownR.trans g0b g1, ((GrownR.elder gb).trans (GrownR.elder g1)), ?_, Keep.sub (sb.trans (g1.sub kb)), Off.sub (sb.trans (g1.sub kb))⟩
    rw [gr, if_pos e0]
    exact ⟨o1.le (by have := g0b.next; exact this), n1⟩
  · have e0' : ((cl.length : Int) == (k : Int)) = false := by simp; omega
    simp (disch := first | (simp only [Nat.reduceBEq, elem_hit, elem_miss, elem_nil]; done) | ((repeat' (first | assumption | exact Sub.refl _ | refine Sub.push ?_ ?_ | exact HokR.fresh (by assumption) | refine Fresh.push ?_ | refine HokR.push ?_ ?_ ?_ | exact Grown.refl | refine GrownR.push ?_ ?_ ?_ | exact refsOK_ints | exact refsOK_pairs | exact Nat.le_refl _ | (simp only [wM, Nat.reduceAdd, Nat.reduceLT, Nat.reduceLeDiff]; done))); done) | omega | decide) only [sBox_ag, osb.own.len, nz_len, e0', wrap_i64, idx?_pos, Int.toNat_natCast, ↓wA, wB, resOf, Option.map_some, Option.map_none, List.map_cons, List.map_nil, List.nil_append, List.append_nil, List.cons_append, Nat.reduceBEq, List.getElem?_cons_zero, List.getElem?_cons_succ, List.getElem?_nil, Option.getD_some, Option.getD_none, cond_false, cond_true, and_true, true_and, Nat.zero_add, Nat.mul_one, Int.reduceBEq, Int.reduceBNe, Int.reduceLT, Int.reduceLE, Int.reduceAdd, Int.reduceSub, Int.reduceMul, decide_true, decide_false, Bool.not_true, Bool.not_false, beq_self_eq_true, bne_self_eq_false, and_self, List.isEmpty_nil, List.isEmpty_cons, Bool.true_or, Bool.false_or, List.set_cons_zero, List.set_cons_succ, List.length_cons, List.length_nil, Option.bind_some, List.all_cons, List.all_nil, Bool.or_true, Bool.true_and, Bool.and_true, Int.reduceToNat]
    refine wloop (fun mm ss => ∃ (i : Nat) (h3 : Hp) (u0 u1 u12 u14 u18 u24 u32 u45 : AV), (mm = lim - i) ∧ (v ≤ i ∧ Grown h0 h3 ∧ Elder (h.en.pu [.int .i64 n, cs]) h3 ∧ OwnF h0.next h3.blks .i64 s (nz cl) ∧ Keep h0.next .i64 cl.length (h.en.pu [.int .i64 n, cs]).blks h3.blks ∧ Off (chOf h.blks s) (h.en.pu [.int .i64 n, cs]).blks h3.blks ∧ gr (joins n zs c) k (lim - v) cl v = grL (joins n zs c) k (lim - i) cl i) ∧ ss = { fr := [(0, u0), (1, u1), (2, s), (3, .int .i64 lim), (4, .int .i64 c), (5, .int .i64 k), (6, .ptr h.next 0), (12, u12), (13, .int .i64 i), (14, u14), (18, u18), (24, u24), (32, u32), (45, u45)], hp := h3 }) (lim - v) ?_ ?_
    ·
      refine ⟨v, _, _, _, _, _, _, _, _, _, by omega, ⟨by omega, g0b, Elder.refl, osb, Keep.refl, Off.refl, by rw [gr, if_neg e0]⟩, rfl⟩
    rintro nA sA ⟨i, h3, u0, u1, u12, u14, u18, u24, u32, u45, hnA, ⟨hi, g3, x3, o3, K3, f3, hg⟩, rfl⟩
    have k3 := g3.ok ho
    have b3 : Box h3.blks h.next [.int .i64 n, cs] := Box.off bx f3 hcne
    simp (disch := first | (simp only [Nat.reduceBEq, elem_hit, elem_miss, elem_nil]; done) | ((repeat' (first | assumption | exact Sub.refl _ | refine Sub.push ?_ ?_ | exact HokR.fresh (by assumption) | refine Fresh.push ?_ | refine HokR.push ?_ ?_ ?_ | exact Grown.refl | refine GrownR.push ?_ ?_ ?_ | exact refsOK_ints | exact refsOK_pairs | exact Nat.le_refl _ | (simp only [wM, Nat.reduceAdd, Nat.reduceLT, Nat.reduceLeDiff]; done))); done) | omega | decide) only [wrap_i64, idx?_pos, Int.toNat_natCast, ↓wA, wB, resOf, Option.map_some, Option.map_none, List.map_cons, List.map_nil, List.nil_append, List.append_nil, List.cons_append, Nat.reduceBEq, List.getElem?_cons_zero, List.getElem?_cons_succ, List.getElem?_nil, Option.getD_some, Option.getD_none, cond_false, cond_true, and_true, true_and, Nat.zero_add, Nat.mul_one, Int.reduceBEq, Int.reduceBNe, Int.reduceLT, Int.reduceLE, Int.reduceAdd, Int.reduceSub, Int.reduceMul, decide_true, decide_false, Bool.not_true, Bool.not_false, beq_self_eq_true, bne_self_eq_false, and_self, List.isEmpty_nil, List.isEmpty_cons, Bool.true_or, Bool.false_or, List.set_cons_zero, List.set_cons_succ, List.length_cons, List.length_nil, Option.bind_some, List.all_cons, List.all_nil, Bool.or_true, Bool.true_and, Bool.and_true, Int.reduceToNat]
    refine ifThen_intro (fun e => ?_) (fun e => ?_) <;> have eq := e <;> try simp [-List.getD_eq_getElem?_getD] at eq
    · have hfi := hf i hi eq
      have J := f64 n cs zs i s cl c h3 k3 (hc.sub (g3.sub ho)) (refOK_mono g3.next hr) o3.own.ints hn (by omega) (by omega) (fun w hw => hf i hi eq w hw)
      have l3 := b3.lda (Sub.refl _) (off := 0) (k := 2)
      by_cases ej : joins n zs c cl i = true
      · obtain ⟨s', h4, e4, o4, g4, x4, K4, f4, c4, n4⟩ := app_keep (v := (i : Int)) ho g3 o3 (by rw [nz_len]; omega)
        rw [← nz_app] at o4
        have b3' : Box (h3.pu (Abs.ints .i64 [(i : Int)])).blks h.next [.int .i64 n, cs] := b3.sub (Sub.pu k3)
        have ec3 : chOf h3.blks s = chOf h.blks s := by rw [← ecb]; exact (K3 s (nz cl) (by rw [nz_len]; omega) osb).2
        rw [ec3] at f4 c4
        have b4 : Box h4.blks h.next [.int .i64 n, cs] := Box.off bx (f3.trans f4) hcne
        obtain ⟨r, h5, ev, g5, x5, q5, K5, f5⟩ := IH (lim - (i + 1)) (by omega) (i + 1) (cl ++ [i]) s' h4 (by omega) g4 o4 (by rw [List.length_append, List.length_singleton]; omega) (fun u h1 h2 w hw => by
          rw [List.mem_append, List.mem_singleton] at hw
          rcases hw with hw | rfl
          · exact hf u (by omega) h2 w hw
          · refine ⟨by omega, by omega, ?_⟩
            rw [show min u w = w by omega, show max u w = u by omega]
            exact hnew _ _ (by omega) h2)
        rw [show ((i + 1 : Nat) : Int) = (i : Int) + 1 from rfl] at ev
        have K5' : Keep h0.next .i64 cl.length h3.blks h5.blks := fun t ds hd O => by
          have hz : (nz cl).length = cl.length := nz_len
          exact (K4.trans (K5 : Keep h0.next .i64 (cl ++ [i]).length h4.blks h5.blks) (by rw [hz, List.length_append]; omega)) t ds (by omega) O
        have f5' : Off (chOf h.blks s) (h.en.pu [.int .i64 n, cs]).blks h5.blks := f3.trans (Off.new k3 (fun id x hx => ⟨(k3.get hx).1, (k3.get hx).2.1⟩) f4 f5 c4)
        have x5' : Elder (h.en.pu [.int .i64 n, cs]) h5 := x3.trans (x4.trans x5)
        have k5 := g5.ok ho
        have eg := @grL_s (joins n zs c) k (lim - (i + 1)) i cl
        rw [if_pos ej, show lim - (i + 1) + 1 = lim - i by omega] at eg
        cases hgr : gr (joins n zs c) k (lim - (i + 1)) (cl ++ [i]) (i + 1) with
        | none =>
          rw [hgr] at q5 eg
          cases q5
          simp (disch := first | (simp only [Nat.reduceBEq, elem_hit, elem_miss, elem_nil]; done) | ((repeat' (first | assumption | exact Sub.refl _ | refine Sub.push ?_ ?_ | exact HokR.fresh (by assumption) | refine Fresh.push ?_ | refine HokR.push ?_ ?_ ?_ | exact Grown.refl | refine GrownR.push ?_ ?_ ?_ | exact refsOK_ints | exact refsOK_pairs | exact Nat.le_refl _ | (simp only [wM, Nat.reduceAdd, Nat.reduceLT, Nat.reduceLeDiff]; done))); done) | omega | decide) only [e, l3, slice?_2, callT J, ej, e4, callT ev, b3'.lda (Sub.refl _), b4.lda (Sub.refl _), sBin_nil', wrap_i64, idx?_pos, Int.toNat_natCast, ↓wA, wB, resOf, Option.map_some, Option.map_none, List.map_cons, List.map_nil, List.nil_append, List.append_nil, List.cons_append, Nat.reduceBEq, List.getElem?_cons_zero, List.getElem?_cons_succ, List.getElem?_nil, Option.getD_some, Option.getD_none, cond_false, cond_true, and_true, true_and, Nat.zero_add, Nat.mul_one, Int.reduceBEq, Int.reduceBNe, Int.reduceLT, Int.reduceLE, Int.reduceAdd, Int.reduceSub, Int.reduceMul, decide_true, decide_false, Bool.not_true, Bool.not_false, beq_self_eq_true, bne_self_eq_false, and_self, List.isEmpty_nil, List.isEmpty_cons, Bool.true_or, Bool.false_or, List.set_cons_zero, List.set_cons_succ, List.length_cons, List.length_nil, Option.bind_some, List.all_cons, List.all_nil, Bool.or_true, Bool.true_and, Bool.and_true, Int.reduceToNat]
          refine ⟨_, ?_, i + 1, h5, _, _, _, _, _, _, _, _, rfl, ?_, rfl⟩
          · omega
          refine ⟨by omega, g5, x5', ?_, K3.trans K5' (Nat.le_refl _), f5', by rw [hg, eg]⟩
          exact (K5' s (nz cl) (by rw [nz_len]; omega) o3).1
        | some c5 =>
          rw [hgr] at q5 eg
          simp (disch := first | (simp only [Nat.reduceBEq, elem_hit, elem_miss, elem_nil]; done) | ((repeat' (first | assumption | exact Sub.refl _ | refine Sub.push ?_ ?_ | exact HokR.fresh (by assumption) | refine Fresh.push ?_ | refine HokR.push ?_ ?_ ?_ | exact Grown.refl | refine GrownR.push ?_ ?_ ?_ | exact refsOK_ints | exact refsOK_pairs | exact Nat.le_refl _ | (simp only [wM, Nat.reduceAdd, Nat.reduceLT, Nat.reduceLeDiff]; done))); done) | omega | decide) only [e, l3, slice?_2, callT J, ej, e4, callT ev, b3'.lda (Sub.refl _), b4.lda (Sub.refl _), (q5.1.eql q5.2).2, wrap_i64, idx?_pos, Int.toNat_natCast, ↓wA, wB, resOf, Option.map_some, Option.map_none, List.map_cons, List.map_nil, List.nil_append, List.append_nil, List.cons_append, Nat.reduceBEq, List.getElem?_cons_zero, List.getElem?_cons_succ, List.getElem?_nil, Option.getD_some, Option.getD_none, cond_false, cond_true, and_true, true_and, Nat.zero_add, Nat.mul_one, Int.reduceBEq, Int.reduceBNe, Int.reduceLT, Int.reduceLE, Int.reduceAdd, Int.reduceSub, Int.reduceMul, decide_true, decide_false, Bool.not_true, Bool.not_false, beq_self_eq_true, bne_self_eq_false, and_self, List.isEmpty_nil, List.isEmpty_cons, Bool.true_or, Bool.false_or, List.set_cons_zero, List.set_cons_succ, List.length_cons, List.length_nil, Option.bind_some, List.all_cons, List.all_nil, Bool.or_true, Bool.true_and, Bool.and_true, Int.reduceToNat]
          refine ⟨_, rfl, g5, (GrownR.elder gb).trans x5', ?_, (Keep.sub sb).trans (K3.trans K5' (Nat.le_refl _)) (Nat.le_refl _), (Off.sub sb).trans f5'⟩
          rw [hg, eg]
          exact ⟨q5.1.le (by have := x5'.next; have := x3.next; have := x4.next; have := gb.next; omega), q5.2⟩
      · simp (disch := first | (simp only [Nat.reduceBEq, elem_hit, elem_miss, elem_nil]; done) | ((repeat' (first | assumption | exact Sub.refl _ | refine Sub.push ?_ ?_ | exact HokR.fresh (by assumption) | refine Fresh.push ?_ | refine HokR.push ?_ ?_ ?_ | exact Grown.refl | refine GrownR.push ?_ ?_ ?_ | exact refsOK_ints | exact refsOK_pairs | exact Nat.le_refl _ | (simp only [wM, Nat.reduceAdd, Nat.reduceLT, Nat.reduceLeDiff]; done))); done) | omega | decide) only [e, l3, slice?_2, callT J, ej, wrap_i64, idx?_pos, Int.toNat_natCast, ↓wA, wB, resOf, Option.map_some, Option.map_none, List.map_cons, List.map_nil, List.nil_append, List.append_nil, List.cons_append, Nat.reduceBEq, List.getElem?_cons_zero, List.getElem?_cons_succ, List.getElem?_nil, Option.getD_some, Option.getD_none, cond_false, cond_true, and_true, true_and, Nat.zero_add, Nat.mul_one, Int.reduceBEq, Int.reduceBNe, Int.reduceLT, Int.reduceLE, Int.reduceAdd, Int.reduceSub, Int.reduceMul, decide_true, decide_false, Bool.not_true, Bool.not_false, beq_self_eq_true, bne_self_eq_false, and_self, List.isEmpty_nil, List.isEmpty_cons, Bool.true_or, Bool.false_or, List.set_cons_zero, List.set_cons_succ, List.length_cons, List.length_nil, Option.bind_some, List.all_cons, List.all_nil, Bool.or_true, Bool.true_and, Bool.and_true, Int.reduceToNat]
        refine ⟨_, ?_, i + 1, h3, _, _, _, _, _, _, _, _, rfl, ?_, rfl⟩
        · omega
        refine ⟨by omega, g3, x3, o3, K3, f3, ?_⟩
        rw [hg, show lim - i = (lim - (i + 1)) + 1 by omega, grL_s, if_neg ej]
    · simp (disch := first | (simp only [Nat.reduceBEq, elem_hit, elem_miss, elem_nil]; done) | ((repeat' (first | assumption | exact Sub.refl _ | refine Sub.push ?_ ?_ | exact HokR.fresh (by assumption) | refine Fresh.push ?_ | refine HokR.push ?_ ?_ ?_ | exact Grown.refl | refine GrownR.push ?_ ?_ ?_ | exact refsOK_ints | exact refsOK_pairs | exact Nat.le_refl _ | (simp only [wM, Nat.reduceAdd, Nat.reduceLT, Nat.reduceLeDiff]; done))); done) | omega | decide) only [e, wrap_i64, idx?_pos, Int.toNat_natCast, ↓wA, wB, resOf, Option.map_some, Option.map_none, List.map_cons, List.map_nil, List.nil_append, List.append_nil, List.cons_append, Nat.reduceBEq, List.getElem?_cons_zero, List.getElem?_cons_succ, List.getElem?_nil, Option.getD_some, Option.getD_none, cond_false, cond_true, and_true, true_and, Nat.zero_add, Nat.mul_one, Int.reduceBEq, Int.reduceBNe, Int.reduceLT, Int.reduceLE, Int.reduceAdd, Int.reduceSub, Int.reduceMul, decide_true, decide_false, Bool.not_true, Bool.not_false, beq_self_eq_true, bne_self_eq_false, and_self, List.isEmpty_nil, List.isEmpty_cons, Bool.true_or, Bool.false_or, List.set_cons_zero, List.set_cons_succ, List.length_cons, List.length_nil, Option.bind_some, List.all_cons, List.all_nil, Bool.or_true, Bool.true_and, Bool.and_true, Int.reduceToNat]
      refine ⟨_, rfl, g3, (GrownR.elder gb).trans x3, ?_, (Keep.sub sb).trans K3 (Nat.le_refl _), (Off.sub sb).trans f3⟩
      rw [hg, show lim - i = 0 by omega, grL]
      rfl
end Go.Proofs.Ytpclkcamfainiaa
