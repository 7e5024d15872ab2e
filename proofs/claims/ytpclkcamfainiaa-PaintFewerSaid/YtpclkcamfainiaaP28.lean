/- The law: restrictions have no patterns. -/
import Derived.Test.YtpclkcamfainiaaP26
set_option linter.unusedSimpArgs false
set_option linter.unusedVariables false
set_option maxHeartbeats 4000000
set_option maxRecDepth 20000
namespace Go.Abs
/-- s[:m:m] -/
theorem Own.upto3 {c : Nat} {bs : List (Nat × Blk)} {k : IntKind} {s : AV} {zs : List Int} (O : Own c bs k s zs) (hs : s ≠ .nilsl) {m : Nat} (h0 : 0 < m) (hm : m ≤ zs.length) (h : Hp) :
    ∃ a', sSl3 1 h (some m) (some m) (some 0) s = some (a', h) ∧ Ints bs k a' (zs.take m) := by
  have A := O.ints
  obtain ⟨hl, ⟨_, rfl⟩ | ⟨id, b, cap, rfl, h1, h2, h3, h4, h5, h6⟩⟩ := O
  · exact absurd rfl hs
  · have e0 : Nat.ble 0 m = true := Nat.ble_eq_true_of_le (Nat.zero_le _)
    have e1 : Nat.ble m m = true := Nat.ble_eq_true_of_le (Nat.le_refl _)
    have e2 : Nat.ble m (cap.getD zs.length) = true := by
      refine Nat.ble_eq_true_of_le ?_
      cases cap with
      | none => exact hm
      | some q => exact Nat.le_trans hm h6.2
    have e3 : Nat.beq m 0 = false := by cases m with | zero => omega | succ m => rfl
    simp only [sSl3, e0, e1, e2, e3, Nat.beq_refl, Bool.and_self, cond_true, cond_false, Nat.sub_zero, Nat.zero_mul, Nat.add_zero]
    refine ⟨_, rfl, ?_⟩
    have := Arr.pre A rfl hm (cap' := some m) (Nat.le_refl m)
    unfold Ints
    rw [Nat.mul_one, ints_take] at this
    rw [List.length_take, Nat.min_eq_left hm]
    exact this
end Go.Abs
namespace Go.Pt
open Go Go.Abs Go.Proofs.Ytpclkcamfainiaa
theorem av_less {n k l : Nat} {x : List Int} (hn : 2 ≤ n ∧ n ≤ 8) (hk : 2 ≤ k ∧ k ≤ 4) (hl : 2 ≤ l ∧ l ≤ 4) (H : x ∈ avA n k l) : avdE (n - 1 : Nat) k l = 0 := by
  have := rsV_av hn.2 hk.1 hl.1 H
  rw [avd_eE ⟨by omega, by omega, by omega⟩, emp_iff.2 ⟨_, this⟩]
  rfl
end Go.Pt
namespace Go.Proofs.Ytpclkcamfainiaa
open Go Go.Abs Go.Pt

theorem f11 (xa xb xc ya yb : Int) (h : Hp) (hk : Hok h) (hxa : 0 ≤ xa ∧ xa ≤ 255) (hxb : 0 ≤ xb ∧ xb ≤ 255) (hxc : 0 ≤ xc ∧ xc ≤ 255) (hya : 0 ≤ ya ∧ ya ≤ 255) (hyb : 0 ≤ yb ∧ yb ≤ 255) :
    ∃ h', Evals Try.prog tab false (.func 11) [.ag [.int .u8 xa, .int .u8 xb, .int .u8 xc], .ag [.int .u8 ya, .int .u8 yb]] h (.bool true, h') := by
  suffices H : ∃ v h', Evals Try.prog tab false (.func 11) [.ag [.int .u8 xa, .int .u8 xb, .int .u8 xc], .ag [.int .u8 ya, .int .u8 yb]] h (v, h') ∧ v = .bool true by
    obtain ⟨v, h', e, rfl⟩ := H
    exact ⟨h', e⟩
  obtain ⟨n, n1, n2, bn⟩ := f35 xa 2 8 hxa (by omega) (by omega) (by omega)
  obtain ⟨k, k1, k2, bk⟩ := f35 xb 2 4 hxb (by omega) (by omega) (by omega)
  obtain ⟨l, l1, l2, bl⟩ := f35 xc 2 4 hxc (by omega) (by omega) (by omega)
  obtain ⟨sn, s1, s2, bsn⟩ := f35 ya 2 14 hya (by omega) (by omega) (by omega)
  obtain ⟨sr, s3, s4, bsr⟩ := f35 yb 1 3 hyb (by omega) (by omega) (by omega)
  have gb : Grown h ((h.en.pu [.int .u8 xa, .int .u8 xb, .int .u8 xc]).pu [.int .u8 ya, .int .u8 yb]) := Grown.pu (Grown.pu Grown.en rfl) rfl
  have kb := gb.ok hk
  have by' : Box ((h.en.pu [.int .u8 xa, .int .u8 xb, .int .u8 xc]).pu [.int .u8 ya, .int .u8 yb]).blks (h.next + 1) [.int .u8 ya, .int .u8 yb] := Box.top
  have bx : Box ((h.en.pu [.int .u8 xa, .int .u8 xb, .int .u8 xc]).pu [.int .u8 ya, .int .u8 yb]).blks h.next [.int .u8 xa, .int .u8 xb, .int .u8 xc] := ⟨h.next, true, by rw [lkB_push (show h.next ≠ h.next + 1 by omega), lkB_top]⟩
  have ix3 := fun (hh : Hp) (id : Nat) => And.intro (sIxA_ptr (len := 3) (n := 1) (h := hh) (j := 0) (id := id) (off := 0) (by omega)) (And.intro (sIxA_ptr (len := 3) (n := 1) (h := hh) (j := 1) (id := id) (off := 0) (by omega)) (sIxA_ptr (len := 3) (n := 1) (h := hh) (j := 2) (id := id) (off := 0) (by omega)))
  have ix2 := fun (hh : Hp) (id : Nat) => And.intro (sIxA_ptr (len := 2) (n := 1) (h := hh) (j := 0) (id := id) (off := 0) (by omega)) (sIxA_ptr (len := 2) (n := 1) (h := hh) (j := 1) (id := id) (off := 0) (by omega))
  have lv := f19
  have m1 : (n : Int) - 1 = ((n - 1 : Nat) : Int) := by omega
  refine evals_func (Q := fun v _ => v = .bool true) c11 rfl ?_
  simp only [sf11, initS_cons, initS_nil]
  rw [wseq, wseq, wseq, wseq]
  refine wcut (fun ss => ∃ (hx : Hp) (u0 u1 u2 u4 u5 u6 u7 u8 u9 u11 u12 u13 u14 u15 u17 u19 u20 u21 u22 u23 u25 u27 u53 u58 u66 u76 u109 u130 u143 : AV), (Grown ((h.en.pu [.int .u8 xa, .int .u8 xb, .int .u8 xc]).pu [.int .u8 ya, .int .u8 yb]) hx) ∧ ss = { fr := [(0, u0), (1, u1), (2, u2), (3, .ptr (h.next + 1) 0), (4, u4), (5, u5), (6, u6), (7, u7), (8, u8), (9, u9), (11, u11), (12, u12), (13, u13), (14, u14), (15, u15), (17, u17), (19, u19), (20, u20), (21, u21), (22, u22), (23, u23), (25, u25), (27, u27), (53, u53), (58, u58), (66, u66), (76, u76), (109, u109), (130, u130), (143, u143)], hp := hx }) ?_ ?_
  · have x0 := bx.ld (Sub.refl _) (j := 0)
    have x1 := bx.ld (Sub.refl _) (j := 1)
    have x2 := bx.ld (Sub.refl _) (j := 2)
    have en := bn _ kb
    have ek := bk _ kb
    have el := bl _ kb
    obtain ⟨v, h3, ev, g3, a, rfl, q3⟩ := f23 n k l _ kb
    have ok3 : avdOK n k l := ⟨by omega, by omega, by omega⟩
    have k3 := g3.ok kb
    obtain ⟨v4, h4, ev4, g4, a4, rfl, q4⟩ := f23 (n - 1 : Nat) k l h3 k3
    have k4 := g4.ok k3
    have g34 := GrownR.trans g3 g4
    cases hh : (avA n k l).head? with
    | none =>
      rw [(avd_none ok3 hh).1] at ev
      simp (disch := first | (simp only [Nat.reduceBEq, elem_hit, elem_miss, elem_nil]; done) | ((repeat' (first | assumption | exact Sub.refl _ | refine Sub.push ?_ ?_ | exact HokR.fresh (by assumption) | refine Fresh.push ?_ | refine HokR.push ?_ ?_ ?_ | exact Grown.refl | refine GrownR.push ?_ ?_ ?_ | exact refsOK_ints | exact refsOK_pairs | exact Nat.le_refl _ | (simp only [wM, Nat.reduceAdd, Nat.reduceLT, Nat.reduceLeDiff]; done))); done) | omega | decide) only [sBox_ag, ix3, x0, x1, x2, callT en, callT ek, callT el, m1, callT ev, callT ev4, cutEx_n, wrap_i64, idx?_pos, Int.toNat_natCast, ↓wA, wB, resOf, Option.map_some, Option.map_none, List.map_cons, List.map_nil, List.nil_append, List.append_nil, List.cons_append, Nat.reduceBEq, List.getElem?_cons_zero, List.getElem?_cons_succ, List.getElem?_nil, Option.getD_some, Option.getD_none, cond_false, cond_true, and_true, true_and, Nat.zero_add, Nat.mul_one, Int.reduceBEq, Int.reduceBNe, Int.reduceLT, Int.reduceLE, Int.reduceAdd, Int.reduceSub, Int.reduceMul, decide_true, decide_false, Bool.not_true, Bool.not_false, beq_self_eq_true, bne_self_eq_false, and_self, List.isEmpty_nil, List.isEmpty_cons, Bool.true_or, Bool.false_or, List.set_cons_zero, List.set_cons_succ, List.length_cons, List.length_nil, Option.bind_some, List.all_cons, List.all_nil, Bool.or_true, Bool.true_and, Bool.and_true, Int.reduceToNat]
      exact ⟨h4, _, _, _, _, _, _, _, _, _, _, _, _, _, _, _, _, _, _, _, _, _, _, _, _, _, _, _, _, _, g34, rfl⟩
    | some zs =>
      rw [(avd_some ok3 hh).1] at ev
      rw [(avd_some ok3 hh).2] at q3
      have hm := head_mem hh
      have hl := head_len' hm
      have tl := tri_lim (show n ≤ 8 by omega)
      rw [av_less (by omega) (by omega) (by omega) hm] at ev4
      have o4 := q3.1.sub (g4.sub k3)
      have g5 : Grown h4 (h4.pu []) := Grown.pu Grown.refl rfl
      have O5 : Own h4.next (h4.pu []).blks .i64 (.sl h4.next 0 0 (some 0) 1) [] := Own.fresh (Nat.le_refl _) rfl rfl rfl (Nat.le_refl _)
      simp (disch := first | (simp only [Nat.reduceBEq, elem_hit, elem_miss, elem_nil]; done) | ((repeat' (first | assumption | exact Sub.refl _ | refine Sub.push ?_ ?_ | exact HokR.fresh (by assumption) | refine Fresh.push ?_ | refine HokR.push ?_ ?_ ?_ | exact Grown.refl | refine GrownR.push ?_ ?_ ?_ | exact refsOK_ints | exact refsOK_pairs | exact Nat.le_refl _ | (simp only [wM, Nat.reduceAdd, Nat.reduceLT, Nat.reduceLeDiff]; done))); done) | omega | decide) only [sBox_ag, ix3, x0, x1, x2, callT en, callT ek, callT el, m1, callT ev, callT ev4, wrap_i64, idx?_pos, Int.toNat_natCast, ↓wA, wB, resOf, Option.map_some, Option.map_none, List.map_cons, List.map_nil, List.nil_append, List.append_nil, List.cons_append, Nat.reduceBEq, List.getElem?_cons_zero, List.getElem?_cons_succ, List.getElem?_nil, Option.getD_some, Option.getD_none, cond_false, cond_true, and_true, true_and, Nat.zero_add, Nat.mul_one, Int.reduceBEq, Int.reduceBNe, Int.reduceLT, Int.reduceLE, Int.reduceAdd, Int.reduceSub, Int.reduceMul, decide_true, decide_false, Bool.not_true, Bool.not_false, beq_self_eq_true, bne_self_eq_false, and_self, List.isEmpty_nil, List.isEmpty_cons, Bool.true_or, Bool.false_or, List.set_cons_zero, List.set_cons_succ, List.length_cons, List.length_nil, Option.bind_some, List.all_cons, List.all_nil, Bool.or_true, Bool.true_and, Bool.and_true, Int.reduceToNat]
      refine wloop (fun mm ss => ∃ (u : Nat) (s : AV) (h6 : Hp) (u0 u1 u2 u4 u9 u14 u15 u17 u19 u20 u21 u22 u23 u25 u27 u53 u58 u66 u76 u109 u130 u143 : AV), (mm = n - 1 - u) ∧ (u ≤ n - 1 ∧ Grown h4 h6 ∧ Own h4.next h6.blks .i64 s ((prI (n - 1) u).map fun p => zs.getD (pix n p.1 p.2) 0)) ∧ ss = { fr := [(0, u0), (1, u1), (2, u2), (3, .ptr (h.next + 1) 0), (4, u4), (5, .int .i64 n), (6, .int .i64 k), (7, .int .i64 l), (8, a), (9, u9), (11, .int .i64 0), (12, s), (13, .int .i64 u), (14, u14), (15, u15), (17, u17), (19, u19), (20, u20), (21, u21), (22, u22), (23, u23), (25, u25), (27, u27), (53, u53), (58, u58), (66, u66), (76, u76), (109, u109), (130, u130), (143, u143)], hp := h6 }) (n - 1) ?_ ?_
      ·
        refine ⟨0, _, _, _, _, _, _, _, _, _, _, _, _, _, _, _, _, _, _, _, _, _, _, _, _, by omega, ⟨by omega, g5, O5⟩, rfl⟩
      rintro nA sA ⟨u, s, h6, u0, u1, u2, u4, u9, u14, u15, u17, u19, u20, u21, u22, u23, u25, u27, u53, u58, u66, u76, u109, u130, u143, hnA, ⟨hu, g6, O6⟩, rfl⟩
      have hl2 := prL_le' (n - 1) (by omega) u (by omega)
      simp (disch := first | (simp only [Nat.reduceBEq, elem_hit, elem_miss, elem_nil]; done) | ((repeat' (first | assumption | exact Sub.refl _ | refine Sub.push ?_ ?_ | exact HokR.fresh (by assumption) | refine Fresh.push ?_ | refine HokR.push ?_ ?_ ?_ | exact Grown.refl | refine GrownR.push ?_ ?_ ?_ | exact refsOK_ints | exact refsOK_pairs | exact Nat.le_refl _ | (simp only [wM, Nat.reduceAdd, Nat.reduceLT, Nat.reduceLeDiff]; done))); done) | omega | decide) only [m1, wrap_i64, idx?_pos, Int.toNat_natCast, ↓wA, wB, resOf, Option.map_some, Option.map_none, List.map_cons, List.map_nil, List.nil_append, List.append_nil, List.cons_append, Nat.reduceBEq, List.getElem?_cons_zero, List.getElem?_cons_succ, List.getElem?_nil, Option.getD_some, Option.getD_none, cond_false, cond_true, and_true, true_and, Nat.zero_add, Nat.mul_one, Int.reduceBEq, Int.reduceBNe, Int.reduceLT, Int.reduceLE, Int.reduceAdd, Int.reduceSub, Int.reduceMul, decide_true, decide_false, Bool.not_true, Bool.not_false, beq_self_eq_true, bne_self_eq_false, and_self, List.isEmpty_nil, List.isEmpty_cons, Bool.true_or, Bool.false_or, List.set_cons_zero, List.set_cons_succ, List.length_cons, List.length_nil, Option.bind_some, List.all_cons, List.all_nil, Bool.or_true, Bool.true_and, Bool.and_true, Int.reduceToNat]
      refine ifThen_intro (fun e => ?_) (fun e => ?_) <;> have eq := e <;> try simp [-List.getD_eq_getElem?_getD] at eq
      · simp (disch := first | (simp only [Nat.reduceBEq, elem_hit, elem_miss, elem_nil]; done) | ((repeat' (first | assumption | exact Sub.refl _ | refine Sub.push ?_ ?_ | exact HokR.fresh (by assumption) | refine Fresh.push ?_ | refine HokR.push ?_ ?_ ?_ | exact Grown.refl | refine GrownR.push ?_ ?_ ?_ | exact refsOK_ints | exact refsOK_pairs | exact Nat.le_refl _ | (simp only [wM, Nat.reduceAdd, Nat.reduceLT, Nat.reduceLeDiff]; done))); done) | omega | decide) only [e, wrap_i64, idx?_pos, Int.toNat_natCast, ↓wA, wB, resOf, Option.map_some, Option.map_none, List.map_cons, List.map_nil, List.nil_append, List.append_nil, List.cons_append, Nat.reduceBEq, List.getElem?_cons_zero, List.getElem?_cons_succ, List.getElem?_nil, Option.getD_some, Option.getD_none, cond_false, cond_true, and_true, true_and, Nat.zero_add, Nat.mul_one, Int.reduceBEq, Int.reduceBNe, Int.reduceLT, Int.reduceLE, Int.reduceAdd, Int.reduceSub, Int.reduceMul, decide_true, decide_false, Bool.not_true, Bool.not_false, beq_self_eq_true, bne_self_eq_false, and_self, List.isEmpty_nil, List.isEmpty_cons, Bool.true_or, Bool.false_or, List.set_cons_zero, List.set_cons_succ, List.length_cons, List.length_nil, Option.bind_some, List.all_cons, List.all_nil, Bool.or_true, Bool.true_and, Bool.and_true, Int.reduceToNat]
        refine wloop (fun mm ss => ∃ (v : Nat) (s7 : AV) (h7 : Hp) (u0 u1 u2 u4 u9 u15 u17 u19 u20 u21 u22 u23 u25 u27 u53 u58 u66 u76 u109 u130 u143 : AV), (mm = n - 1 - v) ∧ (u + 1 ≤ v ∧ v ≤ n - 1 ∧ Grown h4 h7 ∧ Own h4.next h7.blks .i64 s7 ((prI (n - 1) u ++ prR (n - 1) u (v - (u + 1))).map fun p => zs.getD (pix n p.1 p.2) 0)) ∧ ss = { fr := [(0, u0), (1, u1), (2, u2), (3, .ptr (h.next + 1) 0), (4, u4), (5, .int .i64 n), (6, .int .i64 k), (7, .int .i64 l), (8, a), (9, u9), (11, .int .i64 0), (12, s7), (13, .int .i64 u), (14, .int .i64 v), (15, u15), (17, u17), (19, u19), (20, u20), (21, u21), (22, u22), (23, u23), (25, u25), (27, u27), (53, u53), (58, u58), (66, u66), (76, u76), (109, u109), (130, u130), (143, u143)], hp := h7 }) (n - 1 - (u + 1)) ?_ ?_
        ·
          refine ⟨u + 1, s, h6, _, _, _, _, _, _, _, _, _, _, _, _, _, _, _, _, _, _, _, _, _, by omega, ⟨by omega, by omega, g6, by rw [Nat.sub_self]; simpa [prR] using O6⟩, rfl⟩
        rintro nB sB ⟨v, s7, h7, u0, u1, u2, u4, u9, u15, u17, u19, u20, u21, u22, u23, u25, u27, u53, u58, u66, u76, u109, u130, u143, hnB, ⟨hv1, hv2, g7, O7⟩, rfl⟩
        have k7 := g7.ok k4
        simp (disch := first | (simp only [Nat.reduceBEq, elem_hit, elem_miss, elem_nil]; done) | ((repeat' (first | assumption | exact Sub.refl _ | refine Sub.push ?_ ?_ | exact HokR.fresh (by assumption) | refine Fresh.push ?_ | refine HokR.push ?_ ?_ ?_ | exact Grown.refl | refine GrownR.push ?_ ?_ ?_ | exact refsOK_ints | exact refsOK_pairs | exact Nat.le_refl _ | (simp only [wM, Nat.reduceAdd, Nat.reduceLT, Nat.reduceLeDiff]; done))); done) | omega | decide) only [e, m1, wrap_i64, idx?_pos, Int.toNat_natCast, ↓wA, wB, resOf, Option.map_some, Option.map_none, List.map_cons, List.map_nil, List.nil_append, List.append_nil, List.cons_append, Nat.reduceBEq, List.getElem?_cons_zero, List.getElem?_cons_succ, List.getElem?_nil, Option.getD_some, Option.getD_none, cond_false, cond_true, and_true, true_and, Nat.zero_add, Nat.mul_one, Int.reduceBEq, Int.reduceBNe, Int.reduceLT, Int.reduceLE, Int.reduceAdd, Int.reduceSub, Int.reduceMul, decide_true, decide_false, Bool.not_true, Bool.not_false, beq_self_eq_true, bne_self_eq_false, and_self, List.isEmpty_nil, List.isEmpty_cons, Bool.true_or, Bool.false_or, List.set_cons_zero, List.set_cons_succ, List.length_cons, List.length_nil, Option.bind_some, List.all_cons, List.all_nil, Bool.or_true, Bool.true_and, Bool.and_true, Int.reduceToNat]
        refine ifThen_intro (fun e2 => ?_) (fun e2 => ?_) <;> have e2q := e2 <;> try simp [-List.getD_eq_getElem?_getD] at e2q
        · have pr := f36 n u v h7 k7 (by omega) (by omega) (by omega)
          have pt := pix_tri (n := n) (a := u) (b := v) (by omega) (by omega) (by omega)
          have pl : pix n u v < zs.length := by rw [hl]; exact pt
          have dp : decide ((pix n u v : Int) < (zs.length : Int)) = true := decide_eq_true (by omega)
          have o7 := o4.sub (g7.sub k4)
          obtain ⟨s8, h8, e8, o8, g8, n8⟩ := own_app1 (v := zs.getD (pix n u v) 0) k4 g7 O7 (by simp [prR]; omega)
          have es : ((prI (n - 1) u ++ prR (n - 1) u (v - (u + 1))).map fun p => zs.getD (pix n p.1 p.2) 0) ++ [zs.getD (pix n u v) 0] = (prI (n - 1) u ++ prR (n - 1) u (v + 1 - (u + 1))).map fun p => zs.getD (pix n p.1 p.2) 0 := by
            rw [show v + 1 - (u + 1) = (v - (u + 1)) + 1 by omega, prR_s, ← List.append_assoc, List.map_append (l₂ := [_]), List.map_singleton, show u + 1 + (v - (u + 1)) = v by omega]
          rw [es] at o8
          simp (disch := first | (simp only [Nat.reduceBEq, elem_hit, elem_miss, elem_nil]; done) | ((repeat' (first | assumption | exact Sub.refl _ | refine Sub.push ?_ ?_ | exact HokR.fresh (by assumption) | refine Fresh.push ?_ | refine HokR.push ?_ ?_ ?_ | exact Grown.refl | refine GrownR.push ?_ ?_ ?_ | exact refsOK_ints | exact refsOK_pairs | exact Nat.le_refl _ | (simp only [wM, Nat.reduceAdd, Nat.reduceLT, Nat.reduceLeDiff]; done))); done) | omega | decide) only [e, e2, callT pr, o7.len, dp, o7.ints.ix (hi := pl), o7.ints.ld (hi := pl), e8, wrap_i64, idx?_pos, Int.toNat_natCast, ↓wA, wB, resOf, Option.map_some, Option.map_none, List.map_cons, List.map_nil, List.nil_append, List.append_nil, List.cons_append, Nat.reduceBEq, List.getElem?_cons_zero, List.getElem?_cons_succ, List.getElem?_nil, Option.getD_some, Option.getD_none, cond_false, cond_true, and_true, true_and, Nat.zero_add, Nat.mul_one, Int.reduceBEq, Int.reduceBNe, Int.reduceLT, Int.reduceLE, Int.reduceAdd, Int.reduceSub, Int.reduceMul, decide_true, decide_false, Bool.not_true, Bool.not_false, beq_self_eq_true, bne_self_eq_false, and_self, List.isEmpty_nil, List.isEmpty_cons, Bool.true_or, Bool.false_or, List.set_cons_zero, List.set_cons_succ, List.length_cons, List.length_nil, Option.bind_some, List.all_cons, List.all_nil, Bool.or_true, Bool.true_and, Bool.and_true, Int.reduceToNat]
          refine ⟨_, ?_, v + 1, s8, h8, _, _, _, _, _, _, _, _, _, _, _, _, _, _, _, _, _, _, _, _, _, rfl, ?_, rfl⟩
          · omega
          exact ⟨by omega, by omega, g8, o8⟩
        · simp (disch := first | (simp only [Nat.reduceBEq, elem_hit, elem_miss, elem_nil]; done) | ((repeat' (first | assumption | exact Sub.refl _ | refine Sub.push ?_ ?_ | exact HokR.fresh (by assumption) | refine Fresh.push ?_ | refine HokR.push ?_ ?_ ?_ | exact Grown.refl | refine GrownR.push ?_ ?_ ?_ | exact refsOK_ints | exact refsOK_pairs | exact Nat.le_refl _ | (simp only [wM, Nat.reduceAdd, Nat.reduceLT, Nat.reduceLeDiff]; done))); done) | omega | decide) only [e, e2, wrap_i64, idx?_pos, Int.toNat_natCast, ↓wA, wB, resOf, Option.map_some, Option.map_none, List.map_cons, List.map_nil, List.nil_append, List.append_nil, List.cons_append, Nat.reduceBEq, List.getElem?_cons_zero, List.getElem?_cons_succ, List.getElem?_nil, Option.getD_some, Option.getD_none, cond_false, cond_true, and_true, true_and, Nat.zero_add, Nat.mul_one, Int.reduceBEq, Int.reduceBNe, Int.reduceLT, Int.reduceLE, Int.reduceAdd, Int.reduceSub, Int.reduceMul, decide_true, decide_false, Bool.not_true, Bool.not_false, beq_self_eq_true, bne_self_eq_false, and_self, List.isEmpty_nil, List.isEmpty_cons, Bool.true_or, Bool.false_or, List.set_cons_zero, List.set_cons_succ, List.length_cons, List.length_nil, Option.bind_some, List.all_cons, List.all_nil, Bool.or_true, Bool.true_and, Bool.and_true, Int.reduceToNat]
          have eb : v = n - 1 := by omega
          subst eb
          rw [← prI_s] at O7
          refine ⟨_, ?_, u + 1, s7, h7, _, _, _, _, _, _, _, _, _, _, _, _, _, _, _, _, _, _, _, _, _, _, rfl, ?_, rfl⟩
          · omega
          exact ⟨by omega, g7, O7⟩
      · have eu : u = n - 1 := by omega
        subst eu
        have O6' : Own h4.next h6.blks .i64 s (rsV n zs) := O6
        have k6 := g6.ok k4
        have hm' := rsV_av (show n ≤ 8 by omega) (show 2 ≤ k by omega) (show 2 ≤ l by omega) hm
        have hr := rsV_len (n := n) (x := zs) (by omega)
        have tl' := tri_lim (show n - 1 ≤ 8 by omega)
        obtain ⟨c0, c1⟩ := cqE_av (by omega) (by omega) (by omega) hm'
        obtain ⟨v8, h8, ev8, g8, r8, rfl, q8⟩ := f17 (n - 1 : Nat) 0 k s (rsV n zs) h6 k6 O6'.ints (O6'.ref k6) (by omega)
        have k8 := g8.ok k6
        have o8 := O6'.sub (g8.sub k6)
        obtain ⟨v9, h9, ev9, g9, r9, rfl, q9⟩ := f17 (n - 1 : Nat) 1 l s (rsV n zs) h8 k8 o8.ints (o8.ref k8) (by omega)
        rw [c0] at ev8
        rw [c1] at ev9
        simp (disch := first | (simp only [Nat.reduceBEq, elem_hit, elem_miss, elem_nil]; done) | ((repeat' (first | assumption | exact Sub.refl _ | refine Sub.push ?_ ?_ | exact HokR.fresh (by assumption) | refine Fresh.push ?_ | refine HokR.push ?_ ?_ ?_ | exact Grown.refl | refine GrownR.push ?_ ?_ ?_ | exact refsOK_ints | exact refsOK_pairs | exact Nat.le_refl _ | (simp only [wM, Nat.reduceAdd, Nat.reduceLT, Nat.reduceLeDiff]; done))); done) | omega | decide) only [e, m1, callT ev8, callT ev9, cutEx_n, wrap_i64, idx?_pos, Int.toNat_natCast, ↓wA, wB, resOf, Option.map_some, Option.map_none, List.map_cons, List.map_nil, List.nil_append, List.append_nil, List.cons_append, Nat.reduceBEq, List.getElem?_cons_zero, List.getElem?_cons_succ, List.getElem?_nil, Option.getD_some, Option.getD_none, cond_false, cond_true, and_true, true_and, Nat.zero_add, Nat.mul_one, Int.reduceBEq, Int.reduceBNe, Int.reduceLT, Int.reduceLE, Int.reduceAdd, Int.reduceSub, Int.reduceMul, decide_true, decide_false, Bool.not_true, Bool.not_false, beq_self_eq_true, bne_self_eq_false, and_self, List.isEmpty_nil, List.isEmpty_cons, Bool.true_or, Bool.false_or, List.set_cons_zero, List.set_cons_succ, List.length_cons, List.length_nil, Option.bind_some, List.all_cons, List.all_nil, Bool.or_true, Bool.true_and, Bool.and_true, Int.reduceToNat]
        exact ⟨h9, _, _, _, _, _, _, _, _, _, _, _, _, _, _, _, _, _, _, _, _, _, _, _, _, _, _, _, _, _, GrownR.trans g34 (GrownR.trans g6 (GrownR.trans g8 g9)), rfl⟩
  · rintro sC ⟨hx, u0, u1, u2, u4, u5, u6, u7, u8, u9, u11, u12, u13, u14, u15, u17, u19, u20, u21, u22, u23, u25, u27, u53, u58, u66, u76, u109, u130, u143, gx, rfl⟩
    have kx := gx.ok kb
    have byx := by'.sub (gx.sub kb)
    obtain ⟨v, h3, ev, g3, a, rfl, q3⟩ := f27 sn sr hx kx
    have ok3 : smlOK sn sr := ⟨by omega, by omega⟩
    have k3 := g3.ok kx
    obtain ⟨v4, h4, ev4, g4, a4, rfl, q4⟩ := f27 (sn - 1 : Nat) sr h3 k3
    have k4 := g4.ok k3
    have x0 := byx.ld (Sub.refl _) (j := 0)
    have x1 := byx.ld (Sub.refl _) (j := 1)
    have en := bsn _ kx
    have er := bsr _ kx
    have ms : (sn : Int) - 1 = ((sn - 1 : Nat) : Int) := by omega
    cases hh : (allC lsF sr sn []).head? with
    | none =>
      rw [(sml_none ok3 hh).1] at ev
      simp (disch := first | (simp only [Nat.reduceBEq, elem_hit, elem_miss, elem_nil]; done) | ((repeat' (first | assumption | exact Sub.refl _ | refine Sub.push ?_ ?_ | exact HokR.fresh (by assumption) | refine Fresh.push ?_ | refine HokR.push ?_ ?_ ?_ | exact Grown.refl | refine GrownR.push ?_ ?_ ?_ | exact refsOK_ints | exact refsOK_pairs | exact Nat.le_refl _ | (simp only [wM, Nat.reduceAdd, Nat.reduceLT, Nat.reduceLeDiff]; done))); done) | omega | decide) only [ix2, x0, x1, callT en, callT er, ms, callT ev, callT ev4, callT (lv h4), wrap_i64, idx?_pos, Int.toNat_natCast, ↓wA, wB, resOf, Option.map_some, Option.map_none, List.map_cons, List.map_nil, List.nil_append, List.append_nil, List.cons_append, Nat.reduceBEq, List.getElem?_cons_zero, List.getElem?_cons_succ, List.getElem?_nil, Option.getD_some, Option.getD_none, cond_false, cond_true, and_true, true_and, Nat.zero_add, Nat.mul_one, Int.reduceBEq, Int.reduceBNe, Int.reduceLT, Int.reduceLE, Int.reduceAdd, Int.reduceSub, Int.reduceMul, decide_true, decide_false, Bool.not_true, Bool.not_false, beq_self_eq_true, bne_self_eq_false, and_self, List.isEmpty_nil, List.isEmpty_cons, Bool.true_or, Bool.false_or, List.set_cons_zero, List.set_cons_succ, List.length_cons, List.length_nil, Option.bind_some, List.all_cons, List.all_nil, Bool.or_true, Bool.true_and, Bool.and_true, Int.reduceToNat]
      exact ⟨_, rfl, rfl⟩
    | some zs =>
      rw [(sml_some ok3 hh).1] at ev
      rw [(sml_some ok3 hh).2] at q3
      have hm := head_mem hh
      have hl := head_len' hm
      have hp := all_pre (show sn - 1 ≤ sn by omega) hm
      rw [sml_eE ⟨by omega, by omega⟩, emp_iff.2 ⟨_, hp⟩, show eE false = 0 from rfl] at ev4
      have o4 := q3.1.sub (g4.sub k3)
      obtain ⟨a5, e5, i5⟩ := o4.upto3 q3.2 (m := sn - 1) (by omega) (by omega) h4
      obtain ⟨v6, h6, ev6, g6, r6, rfl, q6⟩ := f25 a5 (zs.take (sn - 1)) h4 k4 i5 (by simp; omega)
      rw [sumE_of (by omega) (by omega) hp] at ev6
      have dl : ((zs.length : Int) != (sn : Int)) = false := by simp; omega
      have b0 : bndV 0 none = some 0 := rfl
      simp (disch := first | (simp only [Nat.reduceBEq, elem_hit, elem_miss, elem_nil]; done) | ((repeat' (first | assumption | exact Sub.refl _ | refine Sub.push ?_ ?_ | exact HokR.fresh (by assumption) | refine Fresh.push ?_ | refine HokR.push ?_ ?_ ?_ | exact Grown.refl | refine GrownR.push ?_ ?_ ?_ | exact refsOK_ints | exact refsOK_pairs | exact Nat.le_refl _ | (simp only [wM, Nat.reduceAdd, Nat.reduceLT, Nat.reduceLeDiff]; done))); done) | omega | decide) only [ix2, x0, x1, callT en, callT er, ms, callT ev, callT ev4, o4.len, dl, b0, e5, callT ev6, callT (lv h6), wrap_i64, idx?_pos, Int.toNat_natCast, ↓wA, wB, resOf, Option.map_some, Option.map_none, List.map_cons, List.map_nil, List.nil_append, List.append_nil, List.cons_append, Nat.reduceBEq, List.getElem?_cons_zero, List.getElem?_cons_succ, List.getElem?_nil, Option.getD_some, Option.getD_none, cond_false, cond_true, and_true, true_and, Nat.zero_add, Nat.mul_one, Int.reduceBEq, Int.reduceBNe, Int.reduceLT, Int.reduceLE, Int.reduceAdd, Int.reduceSub, Int.reduceMul, decide_true, decide_false, Bool.not_true, Bool.not_false, beq_self_eq_true, bne_self_eq_false, and_self, List.isEmpty_nil, List.isEmpty_cons, Bool.true_or, Bool.false_or, List.set_cons_zero, List.set_cons_succ, List.length_cons, List.length_nil, Option.bind_some, List.all_cons, List.all_nil, Bool.or_true, Bool.true_and, Bool.and_true, Int.reduceToNat]
      exact ⟨_, rfl, rfl⟩
end Go.Proofs.Ytpclkcamfainiaa
