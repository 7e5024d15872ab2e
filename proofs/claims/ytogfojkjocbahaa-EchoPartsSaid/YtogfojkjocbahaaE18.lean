/- The law EchoParts. -/
import Derived.Test.YtogfojkjocbahaaE15
import Derived.Test.YtogfojkjocbahaaE17
import Derived.Test.YtogfojkjocbahaaE9
import Derived.Test.YtogfojkjocbahaaSR
set_option linter.unusedSimpArgs false
set_option linter.unusedVariables false
set_option maxHeartbeats 8000000
set_option maxRecDepth 100000
namespace Go.Proofs.Ytogfojkjocbahaa
open Go Go.Abs

theorem rev_take {zs : List Int} {i : Nat} (hi : i < zs.length) : zs.reverse.take (i + 1) = zs.reverse.take i ++ [zs.getD (zs.length - 1 - i) 0] := by
  rw [List.take_add_one, List.getElem?_reverse hi, List.getElem?_eq_getElem (by omega)]
  simp [List.getD_eq_getElem?_getD, List.getElem?_eq_getElem (show zs.length - 1 - i < zs.length by omega)]

theorem map_take {zs : List Int} {i : Nat} (hi : i < zs.length) : (zs.map (3 - ·)).take (i + 1) = (zs.map (3 - ·)).take i ++ [3 - zs.getD i 0] := by
  rw [List.take_add_one, List.getElem?_map, List.getElem?_eq_getElem hi]
  simp [List.getD_eq_getElem?_getD, List.getElem?_eq_getElem hi]

theorem f34 (a : AV) (zs : List Int) (h : Hp) (hok : Hok h) (ha : Ints h.blks .i64 a zs) (hot : ot zs) (hz : zs.length ≤ 1000) :
    ∃ v w h', Evals Try.prog tab false (.func 34) [a] h (.tu [v, w], h') ∧ Own h.next h'.blks .i64 v zs.reverse ∧ Own h.next h'.blks .i64 w (zs.map (3 - ·)) ∧ Grown h h' := by
  have := evals_func (T := tab) (g := false) (Q := fun r h' => ∃ v w, r = .tu [v, w] ∧ Own h.next h'.blks .i64 v zs.reverse ∧ Own h.next h'.blks .i64 w (zs.map (3 - ·)) ∧ Grown h h') c34 (args := [a]) (h := h) rfl (by
    have G1 : Grown h { next := h.next + 1, blks := (h.next, { cells := [], ch := h.next, wr := true }) :: h.blks, loops := h.loops, base := h.next, esc := false } := Grown.push
    have G2 : Grown h { next := h.next + 1 + 1, blks := (h.next + 1, { cells := [], ch := h.next + 1, wr := true }) :: (h.next, { cells := [], ch := h.next, wr := true }) :: h.blks, loops := h.loops, base := h.next, esc := false } := G1.trans Grown.push
    have O1 : OwnC h.next h.next ((h.next + 1, { cells := [], ch := h.next + 1, wr := true }) :: (h.next, { cells := [], ch := h.next, wr := true }) :: h.blks) .i64 (.sl h.next 0 0 (some 0) 1) [] :=
      .inr ⟨h.next, { cells := [], ch := h.next, wr := true }, some 0, rfl, by rw [lkB_push (by omega)]; simp [lkB], rfl, Nat.le_refl _, rfl, rfl, rfl, Nat.le_refl _⟩
    have O2 : OwnC (h.next + 1) h.next ((h.next + 1, { cells := [], ch := h.next + 1, wr := true }) :: (h.next, { cells := [], ch := h.next, wr := true }) :: h.blks) .i64 (.sl (h.next + 1) 0 0 (some 0) 1) [] :=
      OwnC.fresh (by omega) rfl rfl rfl (Nat.le_refl _)
    simp only [sf34, initS_cons, initS_nil]
    simp (disch := first | (simp only [Nat.reduceBEq, Go.Abs.elem_hit, Go.Abs.elem_miss, Go.Abs.elem_nil]; done) | omega) only [Go.Abs.wrap_i64, Go.Abs.idx?_pos, Int.toNat_natCast, ↓Go.Abs.wpG_none, ↓Go.Abs.wpG_true, ↓Go.Abs.wpG_false, ↓Go.Abs.wpOps_nil, ↓Go.Abs.wpOps_cons, ↓Go.Abs.sput_some, ↓Go.Abs.sput_none, ↓Go.Abs.sev_t, ↓Go.Abs.sev_c, ↓Go.Abs.look_nil, ↓Go.Abs.look_miss, ↓Go.Abs.lkF_miss, ↓Go.Abs.lkF_nil, ↓Go.Abs.setF_miss, ↓Go.Abs.commitS_nil, ↓Go.Abs.commitS_in, ↓Go.Abs.commitS_out, ↓Go.Abs.wp_skip, ↓Go.Abs.wp_ops, ↓Go.Abs.wp_seq, ↓Go.Abs.wp_cond, ↓Go.Abs.wp_block, ↓Go.Abs.wp_exit, ↓Go.Abs.wp_ret, ↓Go.Abs.onEx_normal, ↓Go.Abs.onEx_exit, ↓Go.Abs.onEx_ret, ↓Go.Abs.onBlk_normal, ↓Go.Abs.onBlk_ret, ↓Go.Abs.onBlk_miss, ↓Go.Abs.wpOp_call, ↓Go.Abs.wpOp_mov, ↓Go.Abs.wpOp_pick, ↓Go.Abs.wpOp_new, ↓Go.Abs.wpOp_bin, ↓Go.Abs.wpOp_not, ↓Go.Abs.wpOp_neg, ↓Go.Abs.wpOp_conv, ↓Go.Abs.wpOp_ext, ↓Go.Abs.wpOp_lenS, ↓Go.Abs.look_hit, ↓Go.Abs.lkF_hit, ↓Go.Abs.setF_hit, ↓Go.Abs.onBlk_hit, Go.Abs.andThen_some, Go.Abs.andThen_none, Go.Abs.setF_nil, Go.Abs.sNot_bool, Go.Abs.sNeg_int, Go.Abs.sConv_int, Go.Abs.sExt_tu, Go.Abs.sLen_sl, Go.Abs.sLen_nil, Go.Abs.sLen_esl, Go.Abs.sBin_lss, Go.Abs.sBin_leq, Go.Abs.sBin_gtr, Go.Abs.sBin_geq, Go.Abs.sBin_eql, Go.Abs.sBin_neq, Go.Abs.sBin_add, Go.Abs.sBin_sub, Go.Abs.sBin_mul, Go.Abs.sresVs_nil, Go.Abs.sresVs_tmp, Go.Abs.elem_hit, Go.Abs.elem_miss, Go.Abs.elem_nil, Go.Abs.initS_nil, Go.Abs.initS_cons, Option.map_some, Option.map_none, List.map_cons, List.map_nil, List.nil_append, List.append_nil, List.cons_append, Nat.reduceBEq, List.getElem?_cons_zero, List.getElem?_cons_succ, List.getElem?_nil, Option.getD_some, Option.getD_none, Go.Abs.ifThen_true, Go.Abs.ifThen_false, Go.Abs.resOf, Go.Abs.leave, cond_false, cond_true, and_true, true_and, ↓Go.Abs.wpOp_load, ↓Go.Abs.wpOp_ixS, Go.Abs.idx?_nat, Go.Abs.sLoad_ptr, ↓Go.Abs.wpOp_mks, ↓Go.Abs.wpOp_store, Go.Abs.int?_int, Go.Abs.sStore_int, Nat.zero_add, Nat.mul_one, ↓Go.Abs.wpOp_buildS, Go.Abs.sBS_2, Go.Abs.sLoad_cell, ↓Go.Abs.wpOp_app, ↓Go.Abs.wpOp_slice, ↓Go.Abs.wpOp_mn, ↓Go.Abs.wpOp_mx, Go.Abs.sMin_int, Go.Abs.sMax_int, Go.Abs.sBS_0, Go.Abs.sBS_1, Go.Abs.andT_some, ↓Go.Abs.wp_loopT, Go.Abs.sb_none, Go.Abs.sb_some, Int.reduceBEq, Int.reduceBNe, Int.reduceLT, Int.reduceLE, Int.reduceAdd, Int.reduceSub, Int.reduceMul, decide_true, decide_false, Bool.not_true, Bool.not_false, beq_self_eq_true, bne_self_eq_false, ↓Go.Abs.wpOp_slice3, and_self, Go.Abs.gT_t, Go.Abs.gT_f, Go.Abs.gT_u]
    refine wloop (fun mm ss => ∃ (i : Nat) (cp : Nat) (cq : Nat) (p : AV) (q : AV) (h1 : Hp) (u12 : AV), (mm = zs.length - i) ∧ (i ≤ zs.length ∧ Grown h h1 ∧ OwnC cp h.next h1.blks .i64 p (zs.reverse.take i) ∧ OwnC cq h.next h1.blks .i64 q ((zs.map (3 - ·)).take i) ∧ cp ≠ cq ∧ h.next ≤ cp ∧ h.next ≤ cq ∧ cp < h1.next ∧ cq < h1.next) ∧ ss = { fr := [(0, a), (2, .nilsl), (3, .nilsl), (4, p), (5, q), (6, .int .i64 i), (12, u12)], hp := h1 }) (zs.length) ?_ ?_
    ·
      refine ⟨0, h.next, h.next + 1, .sl h.next 0 0 (some 0) 1, .sl (h.next + 1) 0 0 (some 0) 1, { next := h.next + 1 + 1, blks := (h.next + 1, { cells := [], ch := h.next + 1, wr := true }) :: (h.next, { cells := [], ch := h.next, wr := true }) :: h.blks, loops := h.loops, base := h.next, esc := false }, _, by omega, ⟨by omega, G2, O1, O2, by omega, by omega, by omega, by simp; omega, by simp⟩, rfl⟩
    rintro nA sA ⟨i, cp, cq, p, q, h1, u12, hnA, ⟨hi, hg, hp, hq, hne, hcp, hcq, hlp, hlq⟩, rfl⟩
    have ha1 := ha.grown hok hg
    simp (disch := first | (simp only [Nat.reduceBEq, Go.Abs.elem_hit, Go.Abs.elem_miss, Go.Abs.elem_nil]; done) | omega) only [ha1.len, Go.Abs.wrap_i64, Go.Abs.idx?_pos, Int.toNat_natCast, ↓Go.Abs.wpG_none, ↓Go.Abs.wpG_true, ↓Go.Abs.wpG_false, ↓Go.Abs.wpOps_nil, ↓Go.Abs.wpOps_cons, ↓Go.Abs.sput_some, ↓Go.Abs.sput_none, ↓Go.Abs.sev_t, ↓Go.Abs.sev_c, ↓Go.Abs.look_nil, ↓Go.Abs.look_miss, ↓Go.Abs.lkF_miss, ↓Go.Abs.lkF_nil, ↓Go.Abs.setF_miss, ↓Go.Abs.commitS_nil, ↓Go.Abs.commitS_in, ↓Go.Abs.commitS_out, ↓Go.Abs.wp_skip, ↓Go.Abs.wp_ops, ↓Go.Abs.wp_seq, ↓Go.Abs.wp_cond, ↓Go.Abs.wp_block, ↓Go.Abs.wp_exit, ↓Go.Abs.wp_ret, ↓Go.Abs.onEx_normal, ↓Go.Abs.onEx_exit, ↓Go.Abs.onEx_ret, ↓Go.Abs.onBlk_normal, ↓Go.Abs.onBlk_ret, ↓Go.Abs.onBlk_miss, ↓Go.Abs.wpOp_call, ↓Go.Abs.wpOp_mov, ↓Go.Abs.wpOp_pick, ↓Go.Abs.wpOp_new, ↓Go.Abs.wpOp_bin, ↓Go.Abs.wpOp_not, ↓Go.Abs.wpOp_neg, ↓Go.Abs.wpOp_conv, ↓Go.Abs.wpOp_ext, ↓Go.Abs.wpOp_lenS, ↓Go.Abs.look_hit, ↓Go.Abs.lkF_hit, ↓Go.Abs.setF_hit, ↓Go.Abs.onBlk_hit, Go.Abs.andThen_some, Go.Abs.andThen_none, Go.Abs.setF_nil, Go.Abs.sNot_bool, Go.Abs.sNeg_int, Go.Abs.sConv_int, Go.Abs.sExt_tu, Go.Abs.sLen_sl, Go.Abs.sLen_nil, Go.Abs.sLen_esl, Go.Abs.sBin_lss, Go.Abs.sBin_leq, Go.Abs.sBin_gtr, Go.Abs.sBin_geq, Go.Abs.sBin_eql, Go.Abs.sBin_neq, Go.Abs.sBin_add, Go.Abs.sBin_sub, Go.Abs.sBin_mul, Go.Abs.sresVs_nil, Go.Abs.sresVs_tmp, Go.Abs.elem_hit, Go.Abs.elem_miss, Go.Abs.elem_nil, Go.Abs.initS_nil, Go.Abs.initS_cons, Option.map_some, Option.map_none, List.map_cons, List.map_nil, List.nil_append, List.append_nil, List.cons_append, Nat.reduceBEq, List.getElem?_cons_zero, List.getElem?_cons_succ, List.getElem?_nil, Option.getD_some, Option.getD_none, Go.Abs.ifThen_true, Go.Abs.ifThen_false, Go.Abs.resOf, Go.Abs.leave, cond_false, cond_true, and_true, true_and, ↓Go.Abs.wpOp_load, ↓Go.Abs.wpOp_ixS, Go.Abs.idx?_nat, Go.Abs.sLoad_ptr, ↓Go.Abs.wpOp_mks, ↓Go.Abs.wpOp_store, Go.Abs.int?_int, Go.Abs.sStore_int, Nat.zero_add, Nat.mul_one, ↓Go.Abs.wpOp_buildS, Go.Abs.sBS_2, Go.Abs.sLoad_cell, ↓Go.Abs.wpOp_app, ↓Go.Abs.wpOp_slice, ↓Go.Abs.wpOp_mn, ↓Go.Abs.wpOp_mx, Go.Abs.sMin_int, Go.Abs.sMax_int, Go.Abs.sBS_0, Go.Abs.sBS_1, Go.Abs.andT_some, ↓Go.Abs.wp_loopT, Go.Abs.sb_none, Go.Abs.sb_some, Int.reduceBEq, Int.reduceBNe, Int.reduceLT, Int.reduceLE, Int.reduceAdd, Int.reduceSub, Int.reduceMul, decide_true, decide_false, Bool.not_true, Bool.not_false, beq_self_eq_true, bne_self_eq_false, ↓Go.Abs.wpOp_slice3, and_self, Go.Abs.gT_t, Go.Abs.gT_f, Go.Abs.gT_u]
    refine Go.Abs.ifThen_intro (fun e1 => ?_) (fun e1 => ?_) <;> have e1q := e1 <;> try simp [-List.getD_eq_getElem?_getD] at e1q
    · have hb := hot _ (getD_mem e1q)
      obtain ⟨s2, h2, cp', x1, x2, x3, x4, x5, x6, x7, x8⟩ := ownC_app1 (v := zs.getD (zs.length - 1 - i) 0) hok hg hp hcp hlp (by simp; omega)
      have hq2 := hq.keep x8 (fun e => hne e.symm)
      have hcpq : cp' ≠ cq := by rcases x4 with c | c <;> omega
      obtain ⟨s3, h3, cq', y1, y2, y3, y4, y5, y6, y7, y8⟩ := ownC_app1 (v := 3 - zs.getD i 0) hok x3 hq2 hcq (by omega) (by simp; omega)
      have hp3 := x2.keep y8 hcpq
      have ha2 := ha.grown hok x3
      have hT : ((zs.length : Int) - 1 - i).toNat = zs.length - 1 - i := by omega
      simp (disch := first | (simp only [Nat.reduceBEq, Go.Abs.elem_hit, Go.Abs.elem_miss, Go.Abs.elem_nil]; done) | omega) only [e1, ha1.len, ha1.ix, ha1.ld, hT, x1, ha2.ix, ha2.ld, y1, Go.Abs.wrap_i64, Go.Abs.idx?_pos, Int.toNat_natCast, ↓Go.Abs.wpG_none, ↓Go.Abs.wpG_true, ↓Go.Abs.wpG_false, ↓Go.Abs.wpOps_nil, ↓Go.Abs.wpOps_cons, ↓Go.Abs.sput_some, ↓Go.Abs.sput_none, ↓Go.Abs.sev_t, ↓Go.Abs.sev_c, ↓Go.Abs.look_nil, ↓Go.Abs.look_miss, ↓Go.Abs.lkF_miss, ↓Go.Abs.lkF_nil, ↓Go.Abs.setF_miss, ↓Go.Abs.commitS_nil, ↓Go.Abs.commitS_in, ↓Go.Abs.commitS_out, ↓Go.Abs.wp_skip, ↓Go.Abs.wp_ops, ↓Go.Abs.wp_seq, ↓Go.Abs.wp_cond, ↓Go.Abs.wp_block, ↓Go.Abs.wp_exit, ↓Go.Abs.wp_ret, ↓Go.Abs.onEx_normal, ↓Go.Abs.onEx_exit, ↓Go.Abs.onEx_ret, ↓Go.Abs.onBlk_normal, ↓Go.Abs.onBlk_ret, ↓Go.Abs.onBlk_miss, ↓Go.Abs.wpOp_call, ↓Go.Abs.wpOp_mov, ↓Go.Abs.wpOp_pick, ↓Go.Abs.wpOp_new, ↓Go.Abs.wpOp_bin, ↓Go.Abs.wpOp_not, ↓Go.Abs.wpOp_neg, ↓Go.Abs.wpOp_conv, ↓Go.Abs.wpOp_ext, ↓Go.Abs.wpOp_lenS, ↓Go.Abs.look_hit, ↓Go.Abs.lkF_hit, ↓Go.Abs.setF_hit, ↓Go.Abs.onBlk_hit, Go.Abs.andThen_some, Go.Abs.andThen_none, Go.Abs.setF_nil, Go.Abs.sNot_bool, Go.Abs.sNeg_int, Go.Abs.sConv_int, Go.Abs.sExt_tu, Go.Abs.sLen_sl, Go.Abs.sLen_nil, Go.Abs.sLen_esl, Go.Abs.sBin_lss, Go.Abs.sBin_leq, Go.Abs.sBin_gtr, Go.Abs.sBin_geq, Go.Abs.sBin_eql, Go.Abs.sBin_neq, Go.Abs.sBin_add, Go.Abs.sBin_sub, Go.Abs.sBin_mul, Go.Abs.sresVs_nil, Go.Abs.sresVs_tmp, Go.Abs.elem_hit, Go.Abs.elem_miss, Go.Abs.elem_nil, Go.Abs.initS_nil, Go.Abs.initS_cons, Option.map_some, Option.map_none, List.map_cons, List.map_nil, List.nil_append, List.append_nil, List.cons_append, Nat.reduceBEq, List.getElem?_cons_zero, List.getElem?_cons_succ, List.getElem?_nil, Option.getD_some, Option.getD_none, Go.Abs.ifThen_true, Go.Abs.ifThen_false, Go.Abs.resOf, Go.Abs.leave, cond_false, cond_true, and_true, true_and, ↓Go.Abs.wpOp_load, ↓Go.Abs.wpOp_ixS, Go.Abs.idx?_nat, Go.Abs.sLoad_ptr, ↓Go.Abs.wpOp_mks, ↓Go.Abs.wpOp_store, Go.Abs.int?_int, Go.Abs.sStore_int, Nat.zero_add, Nat.mul_one, ↓Go.Abs.wpOp_buildS, Go.Abs.sBS_2, Go.Abs.sLoad_cell, ↓Go.Abs.wpOp_app, ↓Go.Abs.wpOp_slice, ↓Go.Abs.wpOp_mn, ↓Go.Abs.wpOp_mx, Go.Abs.sMin_int, Go.Abs.sMax_int, Go.Abs.sBS_0, Go.Abs.sBS_1, Go.Abs.andT_some, ↓Go.Abs.wp_loopT, Go.Abs.sb_none, Go.Abs.sb_some, Int.reduceBEq, Int.reduceBNe, Int.reduceLT, Int.reduceLE, Int.reduceAdd, Int.reduceSub, Int.reduceMul, decide_true, decide_false, Bool.not_true, Bool.not_false, beq_self_eq_true, bne_self_eq_false, ↓Go.Abs.wpOp_slice3, and_self, Go.Abs.gT_t, Go.Abs.gT_f, Go.Abs.gT_u]
      refine ⟨_, ?_, i + 1, cp', cq', s2, s3, h3, _, rfl, ?_, rfl⟩
      · omega
      refine ⟨by omega, y3, ?_, ?_, ?_, x6, y6, by omega, y7⟩
      · rw [rev_take e1q]; exact hp3
      · rw [map_take e1q]; exact y2
      · rcases y4 with c | c <;> omega
    · have hil : i = zs.length := by omega
      subst hil
      rw [List.take_of_length_le (by simp)] at hp hq
      simp (disch := first | (simp only [Nat.reduceBEq, Go.Abs.elem_hit, Go.Abs.elem_miss, Go.Abs.elem_nil]; done) | omega) only [e1, Go.Abs.wrap_i64, Go.Abs.idx?_pos, Int.toNat_natCast, ↓Go.Abs.wpG_none, ↓Go.Abs.wpG_true, ↓Go.Abs.wpG_false, ↓Go.Abs.wpOps_nil, ↓Go.Abs.wpOps_cons, ↓Go.Abs.sput_some, ↓Go.Abs.sput_none, ↓Go.Abs.sev_t, ↓Go.Abs.sev_c, ↓Go.Abs.look_nil, ↓Go.Abs.look_miss, ↓Go.Abs.lkF_miss, ↓Go.Abs.lkF_nil, ↓Go.Abs.setF_miss, ↓Go.Abs.commitS_nil, ↓Go.Abs.commitS_in, ↓Go.Abs.commitS_out, ↓Go.Abs.wp_skip, ↓Go.Abs.wp_ops, ↓Go.Abs.wp_seq, ↓Go.Abs.wp_cond, ↓Go.Abs.wp_block, ↓Go.Abs.wp_exit, ↓Go.Abs.wp_ret, ↓Go.Abs.onEx_normal, ↓Go.Abs.onEx_exit, ↓Go.Abs.onEx_ret, ↓Go.Abs.onBlk_normal, ↓Go.Abs.onBlk_ret, ↓Go.Abs.onBlk_miss, ↓Go.Abs.wpOp_call, ↓Go.Abs.wpOp_mov, ↓Go.Abs.wpOp_pick, ↓Go.Abs.wpOp_new, ↓Go.Abs.wpOp_bin, ↓Go.Abs.wpOp_not, ↓Go.Abs.wpOp_neg, ↓Go.Abs.wpOp_conv, ↓Go.Abs.wpOp_ext, ↓Go.Abs.wpOp_lenS, ↓Go.Abs.look_hit, ↓Go.Abs.lkF_hit, ↓Go.Abs.setF_hit, ↓Go.Abs.onBlk_hit, Go.Abs.andThen_some, Go.Abs.andThen_none, Go.Abs.setF_nil, Go.Abs.sNot_bool, Go.Abs.sNeg_int, Go.Abs.sConv_int, Go.Abs.sExt_tu, Go.Abs.sLen_sl, Go.Abs.sLen_nil, Go.Abs.sLen_esl, Go.Abs.sBin_lss, Go.Abs.sBin_leq, Go.Abs.sBin_gtr, Go.Abs.sBin_geq, Go.Abs.sBin_eql, Go.Abs.sBin_neq, Go.Abs.sBin_add, Go.Abs.sBin_sub, Go.Abs.sBin_mul, Go.Abs.sresVs_nil, Go.Abs.sresVs_tmp, Go.Abs.elem_hit, Go.Abs.elem_miss, Go.Abs.elem_nil, Go.Abs.initS_nil, Go.Abs.initS_cons, Option.map_some, Option.map_none, List.map_cons, List.map_nil, List.nil_append, List.append_nil, List.cons_append, Nat.reduceBEq, List.getElem?_cons_zero, List.getElem?_cons_succ, List.getElem?_nil, Option.getD_some, Option.getD_none, Go.Abs.ifThen_true, Go.Abs.ifThen_false, Go.Abs.resOf, Go.Abs.leave, cond_false, cond_true, and_true, true_and, ↓Go.Abs.wpOp_load, ↓Go.Abs.wpOp_ixS, Go.Abs.idx?_nat, Go.Abs.sLoad_ptr, ↓Go.Abs.wpOp_mks, ↓Go.Abs.wpOp_store, Go.Abs.int?_int, Go.Abs.sStore_int, Nat.zero_add, Nat.mul_one, ↓Go.Abs.wpOp_buildS, Go.Abs.sBS_2, Go.Abs.sLoad_cell, ↓Go.Abs.wpOp_app, ↓Go.Abs.wpOp_slice, ↓Go.Abs.wpOp_mn, ↓Go.Abs.wpOp_mx, Go.Abs.sMin_int, Go.Abs.sMax_int, Go.Abs.sBS_0, Go.Abs.sBS_1, Go.Abs.andT_some, ↓Go.Abs.wp_loopT, Go.Abs.sb_none, Go.Abs.sb_some, Int.reduceBEq, Int.reduceBNe, Int.reduceLT, Int.reduceLE, Int.reduceAdd, Int.reduceSub, Int.reduceMul, decide_true, decide_false, Bool.not_true, Bool.not_false, beq_self_eq_true, bne_self_eq_false, ↓Go.Abs.wpOp_slice3, and_self, Go.Abs.gT_t, Go.Abs.gT_f, Go.Abs.gT_u]
      exact ⟨_, rfl, p, q, rfl, hp.own hcp, hq.own hcq, hg.fields rfl rfl rfl rfl rfl rfl⟩)
  obtain ⟨r, h', ev, v, w, rfl, h1, h2, h3⟩ := this
  exact ⟨v, w, h', ev, h1, h2, h3⟩

/-- A value of one cell. -/
def One (a : AV) : Prop := a.parts = some [a]

theorem Ints.one {bs : List (Nat × Blk)} {k : IntKind} {a : AV} {zs : List Int} (H : Ints bs k a zs) : One a := by
  rcases H with ⟨rfl, _⟩ | ⟨rfl, _⟩ | ⟨id, off, cap, rfl, _⟩ <;> rfl

theorem sBS_5 {h : Hp} {z a b c d e : AV} (ha : One a) (hb : One b) (hc : One c) (hd : One d) (he : One e) : sBS [z] 5 1 h [(0, a), (1, b), (2, c), (3, d), (4, e)] =
    some (.sl h.next 0 5 (some 5) 1, { next := h.next + 1, blks := (h.next, { cells := [a, b, c, d, e], ch := h.next, wr := true }) :: h.blks, loops := h.loops, base := h.base, esc := h.esc }) := by
  unfold One at *
  simp only [sBS, repl, fillA, ha, hb, hc, hd, he]
  rfl

/-- A part of a slice, cut at its end. -/
theorem ints_sl3p {bs : List (Nat × Blk)} {k : IntKind} {a : AV} {zs : List Int} {l m : Nat} (H : Ints bs k a zs) (hc : CapOk a) (hl : l ≤ m) (hm : m ≤ zs.length) : ∃ s', (∀ h, sSl3 1 h (some m) (some m) (some l) a = some (s', h)) ∧ Ints bs k s' ((zs.take m).drop l) := by
  have J := H
  rcases H with ⟨rfl, rfl⟩ | ⟨rfl, rfl⟩ | ⟨id, off, cap, rfl, h⟩
  · have : m = 0 := by simpa using hm
    subst this
    have : l = 0 := by omega
    subst this
    exact ⟨.nilsl, fun h => rfl, by simpa using Ints.nil⟩
  · exact hc.elim
  · have hle : m ≤ cap.getD zs.length := by
      cases cap with
      | none => exact hm
      | some c => exact Nat.le_trans hm hc
    by_cases h0 : m = l
    · subst h0
      refine ⟨.sl id off 0 (some 0) 1, fun h => ?_, Ints.sl (by simp) fun i hi => by omega⟩
      simp only [sSl3, Nat.ble_eq_true_of_le (Nat.le_refl _), Nat.beq_refl, Bool.and_self, cond_true, Nat.sub_self, Nat.ble_eq_true_of_le hle]
    · refine ⟨.sl id (off + l) (m - l) (some (m - l)) 1, fun h => ?_, Ints.sl (by simp; omega) fun i hi => ?_⟩
      · simp only [sSl3, Nat.ble_eq_true_of_le hl, Nat.beq_refl, Bool.and_self, cond_true, Nat.ble_eq_true_of_le (Nat.le_refl m), Nat.ble_eq_true_of_le hle, nb h0, cond_false, Nat.mul_one]
      · have := h (l + i) (by omega)
        rw [show off + l + i = off + (l + i) by omega, this]
        simp [List.getD_eq_getElem?_getD, List.getElem?_take, show l + i < m by omega]

/-- A part of a slice. -/
theorem ints_slp {bs : List (Nat × Blk)} {k : IntKind} {a : AV} {zs : List Int} {l m : Nat} (H : Ints bs k a zs) (hc : CapE a) (hl : l ≤ m) (hm : m ≤ zs.length) : ∃ s', (∀ h, sSl 1 h (some (some l)) (some (some m)) a = some (s', h)) ∧ Ints bs k s' ((zs.take m).drop l) := by
  have J := H
  have pt : ∀ {id off cap cap'}, (∀ i, i < zs.length → cellB bs id (off + i) = some (.int k (zs.getD i 0))) → a = .sl id off zs.length cap 1 → Ints bs k (.sl id (off + l) (m - l) cap' 1) ((zs.take m).drop l) := fun h _ => Ints.sl (by simp; omega) fun i hi => by
    have := h (l + i) (by omega)
    rw [show ∀ o : Nat, o + l + i = o + (l + i) by omega, this]
    simp [List.getD_eq_getElem?_getD, List.getElem?_take, show l + i < m by omega]
  rcases H with ⟨rfl, rfl⟩ | ⟨rfl, rfl⟩ | ⟨id, off, cap, rfl, hh⟩
  · have : m = 0 := by simpa using hm
    subst this
    have : l = 0 := by omega
    subst this
    exact ⟨.nilsl, fun h => rfl, by simpa using Ints.nil⟩
  · have : m = 0 := by simpa using hm
    subst this
    have : l = 0 := by omega
    subst this
    exact ⟨.esl, fun h => rfl, by simpa using Ints.esl⟩
  · cases cap with
    | none =>
      by_cases h0 : l < zs.length
      · refine ⟨.sl id (off + l) (m - l) none 1, fun h => ?_, pt hh rfl⟩
        have e1 : Nat.blt l zs.length = true := Nat.ble_eq_true_of_le h0
        simp only [sSl, bndV, Nat.ble_eq_true_of_le hl, Nat.beq_refl, Bool.and_self, cond_true, Nat.ble_eq_true_of_le hm, e1, Nat.mul_one]
      · have hz : (zs.take m).drop l = [] := List.drop_eq_nil_of_le (by simp; omega)
        refine ⟨.esl, fun h => ?_, by rw [hz]; exact Ints.esl⟩
        have e1 : Nat.blt l zs.length = false := by
          cases hb : Nat.blt l zs.length
          · rfl
          · exact absurd (Nat.le_of_ble_eq_true hb) (by omega)
        simp only [sSl, bndV, Nat.ble_eq_true_of_le hl, Nat.beq_refl, Bool.and_self, cond_true, Nat.ble_eq_true_of_le hm, e1, cond_false]
    | some c =>
      have hc' : zs.length ≤ c := hc
      by_cases h0 : c = l
      · subst h0
        have hz : (zs.take m).drop c = [] := List.drop_eq_nil_of_le (by simp; omega)
        refine ⟨.sl id off (m - c) (some 0) 1, fun h => ?_, by rw [hz]; exact Ints.sl (by simp; omega) fun i hi => by omega⟩
        simp only [sSl, bndV, Nat.ble_eq_true_of_le hl, Nat.beq_refl, Bool.and_self, cond_true, Nat.ble_eq_true_of_le (show m ≤ c by omega)]
      · refine ⟨.sl id (off + l) (m - l) (some (c - l)) 1, fun h => ?_, pt hh rfl⟩
        simp only [sSl, bndV, Nat.ble_eq_true_of_le hl, Nat.beq_refl, Bool.and_self, cond_true, Nat.ble_eq_true_of_le (show m ≤ c by omega), nb h0, cond_false, Nat.mul_one]

theorem ot_take {zs : List Int} (h : ot zs) (i j : Nat) : ot ((zs.take i).drop j) := fun z hz => h z (List.mem_of_mem_take (List.mem_of_mem_drop hz))

theorem f8 (a : AV) (zs : List Int) (h : Hp) (hok : Hok h) (A : ArgK .u8 h.blks a zs) (u : Int) (hu : 0 ≤ u ∧ u ≤ 65535) (w : Int) (hw : 0 ≤ w ∧ w ≤ 65535) : ∃ h', Evals Try.prog tab false (.func 8) [a, .int .u16 u, .int .u16 w] h (.bool true, h') := by
  have := evals_func (T := tab) (g := false) (Q := fun r h' => r = .bool true) c8 (args := [a, .int .u16 u, .int .u16 w]) (h := h) rfl (by
    obtain ⟨v, h1, ys, ev1, o1, g1, hot, hsm, hlen⟩ := f33 a zs 60 { h with base := h.next, esc := false } hok A (by omega)
    have hok1 : Hok h1 := g1.ok hok
    have cap1 := own_cap o1
    have i1 := o1.ints
    -- the numbers
    have b1 := Int.emod_nonneg u (show (ys.length : Int) - 0 + 1 ≠ 0 by omega)
    have b2 := Int.emod_lt_of_pos u (show 0 < (ys.length : Int) - 0 + 1 by omega)
    obtain ⟨p, hp⟩ : ∃ p : Nat, (p : Int) = 0 + u % ((ys.length : Int) - 0 + 1) := ⟨(0 + u % ((ys.length : Int) - 0 + 1)).toNat, by omega⟩
    have b3 := Int.emod_nonneg w (show (ys.length : Int) - p + 1 ≠ 0 by omega)
    have b4 := Int.emod_lt_of_pos w (show 0 < (ys.length : Int) - p + 1 by omega)
    obtain ⟨q, hq⟩ : ∃ q : Nat, (q : Int) = p + w % ((ys.length : Int) - p + 1) := ⟨(p + w % ((ys.length : Int) - p + 1)).toNat, by omega⟩
    obtain ⟨s, hs⟩ : ∃ s : Nat, (s : Int) = 0 + u % (200 - 0 + 1) := ⟨(0 + u % (200 - 0 + 1)).toNat, by omega⟩
    obtain ⟨t, ht⟩ : ∃ t : Nat, (t : Int) = 0 + w % (100 - 0 + 1) := ⟨(0 + w % (100 - 0 + 1)).toNat, by omega⟩
    have e1 := fun h => f32 u 0 ys.length p hu (by omega) hp h
    have e2 := fun h => f32 w p ys.length q hw (by omega) hq h
    have e3 := fun h => f32 u 0 200 s hu (by omega) hs h
    have e4 := fun h => f32 w 0 100 t hw (by omega) ht h
    have hpq : p ≤ q ∧ q ≤ ys.length ∧ s ≤ 200 ∧ t ≤ 100 := by omega
    obtain ⟨n, hn⟩ : ∃ n : Nat, (n : Int) = 300 + p + q := ⟨300 + p + q, by omega⟩
    obtain ⟨m, hm⟩ : ∃ m : Nat, (m : Int) = s + t := ⟨s + t, by omega⟩
    obtain ⟨bv, ov, h2, ev2, ob, oo, g2⟩ := f34 v ys h1 hok1 i1 hot (by omega)
    have hok2 := g2.ok hok1
    obtain ⟨kv, h3, ev3, ik, kl, g3, ck⟩ := f19_cap 1 2 n h2 hok2 (by decide) (by decide) (by decide) (by omega)
    have hok3 := g3.ok hok2
    have i3 := (i1.grown hok1 g2).grown hok2 g3
    obtain ⟨c1, sc1, ic1⟩ := ints_sl3p i3 cap1 hpq.1 hpq.2.1
    obtain ⟨c2, sc2, ic2⟩ := ints_slp ik ck.e (show s ≤ m by omega) (show m ≤ (kol 1 2 n).length by omega)
    have ib := ob.ints.grown hok2 g3
    have io := oo.ints.grown hok2 g3
    have eN : ((kol 1 2 n).length : Int) = n := by omega
    have eB : ((n : Int) != n) = false := bne_self_eq_false _
    -- the heap with the five words
    obtain ⟨hB, hhB⟩ : ∃ hB : Hp, hB = { next := h3.next + 1, blks := (h3.next, { cells := [v, c1, bv, ov, c2], ch := h3.next, wr := true }) :: h3.blks, loops := h3.loops, base := h3.base, esc := h3.esc } := ⟨_, rfl⟩
    have gB : Grown h3 hB := by rw [hhB]; exact Grown.push
    have hokB := gB.ok hok3
    have cells : ∀ i, i < 5 → ∃ x xs, cellB hB.blks h3.next i = some x ∧ Ints hB.blks .i64 x xs ∧ ot xs ∧ sm xs ∧ xs.length ≤ 200 := by
      have cb : ∀ i, cellB hB.blks h3.next i = [v, c1, bv, ov, c2][i]? := fun i => by rw [hhB]; simp [cellB, lkB]
      have kot : ot (kol 1 2 n) := kol_mem
      have ksm := sm_kol n n (Nat.le_refl n)
      intro i hi
      have : i = 0 ∨ i = 1 ∨ i = 2 ∨ i = 3 ∨ i = 4 := by omega
      rcases this with rfl | rfl | rfl | rfl | rfl
      · exact ⟨v, ys, cb 0, i3.grown hok3 gB, hot, hsm, by omega⟩
      · refine ⟨c1, _, cb 1, ic1.grown hok3 gB, ot_take hot _ _, ?_, by simp; omega⟩
        have := sm_suf (xs := (ys.take q).take p) (ys := (ys.take q).drop p) (by rw [List.take_append_drop]; simpa using sm_part hsm 0 q)
        exact this
      · exact ⟨bv, _, cb 2, ib.grown hok3 gB, fun z hz => hot z (List.mem_reverse.1 hz), sm_rev _ _ (Nat.le_refl _) hsm, by simp; omega⟩
      · refine ⟨ov, _, cb 3, io.grown hok3 gB, fun z hz => ?_, sm_map hsm, by simp; omega⟩
        obtain ⟨y, hy, rfl⟩ := List.mem_map.1 hz
        have := hot y hy
        omega
      · refine ⟨c2, _, cb 4, ic2.grown hok3 gB, ot_take kot _ _, ?_, by simp; omega⟩
        have := sm_suf (xs := ((kol 1 2 n).take m).take s) (ys := ((kol 1 2 n).take m).drop s) (by rw [List.take_append_drop]; simpa using sm_part ksm 0 m)
        exact this
    simp only [sf8, initS_cons, initS_nil]
    simp (disch := first | (simp only [Nat.reduceBEq, Go.Abs.elem_hit, Go.Abs.elem_miss, Go.Abs.elem_nil]; done) | omega) only [show (AV.int .i64 60) = .int .i64 ((60 : Nat) : Int) from rfl, callT ev1, i1.len, callT (e1 _), callT (e2 _), callT (e3 _), callT (e4 _), callT ev2, ← hn, callT ev3, ik.len, eN, eB, callT (f16 _), bndVs, sc1, sc2, ← hm, Go.Abs.wpOp_slice3, sBS_5 (Ints.one i3) (Ints.one ic1) (Ints.one ib) (Ints.one io) (Ints.one ic2), Go.Abs.wrap_i64, Go.Abs.idx?_pos, Int.toNat_natCast, ↓Go.Abs.wpG_none, ↓Go.Abs.wpG_true, ↓Go.Abs.wpG_false, ↓Go.Abs.wpOps_nil, ↓Go.Abs.wpOps_cons, ↓Go.Abs.sput_some, ↓Go.Abs.sput_none, ↓Go.Abs.sev_t, ↓Go.Abs.sev_c, ↓Go.Abs.look_nil, ↓Go.Abs.look_miss, ↓Go.Abs.lkF_miss, ↓Go.Abs.lkF_nil, ↓Go.Abs.setF_miss, ↓Go.Abs.commitS_nil, ↓Go.Abs.commitS_in, ↓Go.Abs.commitS_out, ↓Go.Abs.wp_skip, ↓Go.Abs.wp_ops, ↓Go.Abs.wp_seq, ↓Go.Abs.wp_cond, ↓Go.Abs.wp_block, ↓Go.Abs.wp_exit, ↓Go.Abs.wp_ret, ↓Go.Abs.onEx_normal, ↓Go.Abs.onEx_exit, ↓Go.Abs.onEx_ret, ↓Go.Abs.onBlk_normal, ↓Go.Abs.onBlk_ret, ↓Go.Abs.onBlk_miss, ↓Go.Abs.wpOp_call, ↓Go.Abs.wpOp_mov, ↓Go.Abs.wpOp_pick, ↓Go.Abs.wpOp_new, ↓Go.Abs.wpOp_bin, ↓Go.Abs.wpOp_not, ↓Go.Abs.wpOp_neg, ↓Go.Abs.wpOp_conv, ↓Go.Abs.wpOp_ext, ↓Go.Abs.wpOp_lenS, ↓Go.Abs.look_hit, ↓Go.Abs.lkF_hit, ↓Go.Abs.setF_hit, ↓Go.Abs.onBlk_hit, Go.Abs.andThen_some, Go.Abs.andThen_none, Go.Abs.setF_nil, Go.Abs.sNot_bool, Go.Abs.sNeg_int, Go.Abs.sConv_int, Go.Abs.sExt_tu, Go.Abs.sLen_sl, Go.Abs.sLen_nil, Go.Abs.sLen_esl, Go.Abs.sBin_lss, Go.Abs.sBin_leq, Go.Abs.sBin_gtr, Go.Abs.sBin_geq, Go.Abs.sBin_eql, Go.Abs.sBin_neq, Go.Abs.sBin_add, Go.Abs.sBin_sub, Go.Abs.sBin_mul, Go.Abs.sresVs_nil, Go.Abs.sresVs_tmp, Go.Abs.elem_hit, Go.Abs.elem_miss, Go.Abs.elem_nil, Go.Abs.initS_nil, Go.Abs.initS_cons, Option.map_some, Option.map_none, List.map_cons, List.map_nil, List.nil_append, List.append_nil, List.cons_append, Nat.reduceBEq, List.getElem?_cons_zero, List.getElem?_cons_succ, List.getElem?_nil, Option.getD_some, Option.getD_none, Go.Abs.ifThen_true, Go.Abs.ifThen_false, Go.Abs.resOf, Go.Abs.leave, cond_false, cond_true, and_true, true_and, ↓Go.Abs.wpOp_load, ↓Go.Abs.wpOp_ixS, Go.Abs.idx?_nat, Go.Abs.sLoad_ptr, ↓Go.Abs.wpOp_mks, ↓Go.Abs.wpOp_store, Go.Abs.int?_int, Go.Abs.sStore_int, Nat.zero_add, Nat.mul_one, ↓Go.Abs.wpOp_buildS, Go.Abs.sBS_2, Go.Abs.sLoad_cell, ↓Go.Abs.wpOp_app, ↓Go.Abs.wpOp_slice, ↓Go.Abs.wpOp_mn, ↓Go.Abs.wpOp_mx, Go.Abs.sMin_int, Go.Abs.sMax_int, Go.Abs.sBS_0, Go.Abs.sBS_1, Go.Abs.andT_some, ↓Go.Abs.wp_loopT, Go.Abs.sb_none, Go.Abs.sb_some, Int.reduceBEq, Int.reduceBNe, Int.reduceLT, Int.reduceLE, Int.reduceAdd, Int.reduceSub, Int.reduceMul, decide_true, decide_false, Bool.not_true, Bool.not_false, beq_self_eq_true, bne_self_eq_false, ↓Go.Abs.wpOp_slice3, and_self, Go.Abs.gT_t, Go.Abs.gT_f, Go.Abs.gT_u]
    rw [← hhB]
    refine wloop (fun mm ss => ∃ (i : Nat) (h4 : Hp) (u0 u1 u2 u7 u8 u9 u10 u11 u12 u13 u14 u16 u17 u18 u57 u78 u93 : AV), (mm = 5 - i) ∧ (i ≤ 5 ∧ Grown hB h4) ∧ ss = { fr := [(0, u0), (1, u1), (2, u2), (6, .bool false), (7, u7), (8, u8), (9, u9), (10, u10), (11, u11), (12, u12), (13, u13), (14, u14), (16, u16), (17, u17), (18, u18), (57, u57), (75, .sl h3.next 0 5 (some 5) 1), (76, .int .i64 5), (77, .int .i64 i), (78, u78), (93, u93)], hp := h4 }) (5) ?_ ?_
    ·
      refine ⟨0, hB, _, _, _, _, _, _, _, _, _, _, _, _, _, _, _, _, _, rfl, ⟨by omega, Grown.refl⟩, rfl⟩
    rintro nA sA ⟨i, h4, u0, u1, u2, u7, u8, u9, u10, u11, u12, u13, u14, u16, u17, u18, u57, u78, u93, hnA, ⟨hi, hg⟩, rfl⟩
    have hok4 := hg.ok hokB
    simp (disch := first | (simp only [Nat.reduceBEq, Go.Abs.elem_hit, Go.Abs.elem_miss, Go.Abs.elem_nil]; done) | omega) only [Go.Abs.wrap_i64, Go.Abs.idx?_pos, Int.toNat_natCast, ↓Go.Abs.wpG_none, ↓Go.Abs.wpG_true, ↓Go.Abs.wpG_false, ↓Go.Abs.wpOps_nil, ↓Go.Abs.wpOps_cons, ↓Go.Abs.sput_some, ↓Go.Abs.sput_none, ↓Go.Abs.sev_t, ↓Go.Abs.sev_c, ↓Go.Abs.look_nil, ↓Go.Abs.look_miss, ↓Go.Abs.lkF_miss, ↓Go.Abs.lkF_nil, ↓Go.Abs.setF_miss, ↓Go.Abs.commitS_nil, ↓Go.Abs.commitS_in, ↓Go.Abs.commitS_out, ↓Go.Abs.wp_skip, ↓Go.Abs.wp_ops, ↓Go.Abs.wp_seq, ↓Go.Abs.wp_cond, ↓Go.Abs.wp_block, ↓Go.Abs.wp_exit, ↓Go.Abs.wp_ret, ↓Go.Abs.onEx_normal, ↓Go.Abs.onEx_exit, ↓Go.Abs.onEx_ret, ↓Go.Abs.onBlk_normal, ↓Go.Abs.onBlk_ret, ↓Go.Abs.onBlk_miss, ↓Go.Abs.wpOp_call, ↓Go.Abs.wpOp_mov, ↓Go.Abs.wpOp_pick, ↓Go.Abs.wpOp_new, ↓Go.Abs.wpOp_bin, ↓Go.Abs.wpOp_not, ↓Go.Abs.wpOp_neg, ↓Go.Abs.wpOp_conv, ↓Go.Abs.wpOp_ext, ↓Go.Abs.wpOp_lenS, ↓Go.Abs.look_hit, ↓Go.Abs.lkF_hit, ↓Go.Abs.setF_hit, ↓Go.Abs.onBlk_hit, Go.Abs.andThen_some, Go.Abs.andThen_none, Go.Abs.setF_nil, Go.Abs.sNot_bool, Go.Abs.sNeg_int, Go.Abs.sConv_int, Go.Abs.sExt_tu, Go.Abs.sLen_sl, Go.Abs.sLen_nil, Go.Abs.sLen_esl, Go.Abs.sBin_lss, Go.Abs.sBin_leq, Go.Abs.sBin_gtr, Go.Abs.sBin_geq, Go.Abs.sBin_eql, Go.Abs.sBin_neq, Go.Abs.sBin_add, Go.Abs.sBin_sub, Go.Abs.sBin_mul, Go.Abs.sresVs_nil, Go.Abs.sresVs_tmp, Go.Abs.elem_hit, Go.Abs.elem_miss, Go.Abs.elem_nil, Go.Abs.initS_nil, Go.Abs.initS_cons, Option.map_some, Option.map_none, List.map_cons, List.map_nil, List.nil_append, List.append_nil, List.cons_append, Nat.reduceBEq, List.getElem?_cons_zero, List.getElem?_cons_succ, List.getElem?_nil, Option.getD_some, Option.getD_none, Go.Abs.ifThen_true, Go.Abs.ifThen_false, Go.Abs.resOf, Go.Abs.leave, cond_false, cond_true, and_true, true_and, ↓Go.Abs.wpOp_load, ↓Go.Abs.wpOp_ixS, Go.Abs.idx?_nat, Go.Abs.sLoad_ptr, ↓Go.Abs.wpOp_mks, ↓Go.Abs.wpOp_store, Go.Abs.int?_int, Go.Abs.sStore_int, Nat.zero_add, Nat.mul_one, ↓Go.Abs.wpOp_buildS, Go.Abs.sBS_2, Go.Abs.sLoad_cell, ↓Go.Abs.wpOp_app, ↓Go.Abs.wpOp_slice, ↓Go.Abs.wpOp_mn, ↓Go.Abs.wpOp_mx, Go.Abs.sMin_int, Go.Abs.sMax_int, Go.Abs.sBS_0, Go.Abs.sBS_1, Go.Abs.andT_some, ↓Go.Abs.wp_loopT, Go.Abs.sb_none, Go.Abs.sb_some, Int.reduceBEq, Int.reduceBNe, Int.reduceLT, Int.reduceLE, Int.reduceAdd, Int.reduceSub, Int.reduceMul, decide_true, decide_false, Bool.not_true, Bool.not_false, beq_self_eq_true, bne_self_eq_false, ↓Go.Abs.wpOp_slice3, and_self, Go.Abs.gT_t, Go.Abs.gT_f, Go.Abs.gT_u]
    refine Go.Abs.ifThen_intro (fun e5 => ?_) (fun e5 => ?_)
    · have e5q : i < 5 := by
        have : (i : Int) < 5 := by simpa only [decide_eq_true_eq] using e5
        omega
      obtain ⟨x, xs, hc, ix, hxo, hxs, hxl⟩ := cells i e5q
      have hc4 : cellB h4.blks h3.next i = some x := by
        unfold cellB at hc ⊢
        rw [hg.lkB (by rw [hhB]; simp)]
        exact hc
      have ix4 := ix.grown hokB hg
      obtain ⟨s5, h5, x1, x2, x3⟩ := own_copy hok4 Grown.refl ix4 (by omega)
      obtain ⟨h6, ev6, g6⟩ := f26 s5 xs h5 (x3.ok hok4) x2.ints (by omega)
      have hsx : (height xs).isSome = true := hxs
      rw [wrong_ot (most := 200) hxo (by omega), hsx] at ev6
      simp only [decide_true, Bool.and_self] at ev6
      simp (disch := first | (simp only [Nat.reduceBEq, Go.Abs.elem_hit, Go.Abs.elem_miss, Go.Abs.elem_nil]; done) | omega) only [e5, sIxS_sl e5q, hc4, x1, callT ev6, Go.Abs.wrap_i64, Go.Abs.idx?_pos, Int.toNat_natCast, ↓Go.Abs.wpG_none, ↓Go.Abs.wpG_true, ↓Go.Abs.wpG_false, ↓Go.Abs.wpOps_nil, ↓Go.Abs.wpOps_cons, ↓Go.Abs.sput_some, ↓Go.Abs.sput_none, ↓Go.Abs.sev_t, ↓Go.Abs.sev_c, ↓Go.Abs.look_nil, ↓Go.Abs.look_miss, ↓Go.Abs.lkF_miss, ↓Go.Abs.lkF_nil, ↓Go.Abs.setF_miss, ↓Go.Abs.commitS_nil, ↓Go.Abs.commitS_in, ↓Go.Abs.commitS_out, ↓Go.Abs.wp_skip, ↓Go.Abs.wp_ops, ↓Go.Abs.wp_seq, ↓Go.Abs.wp_cond, ↓Go.Abs.wp_block, ↓Go.Abs.wp_exit, ↓Go.Abs.wp_ret, ↓Go.Abs.onEx_normal, ↓Go.Abs.onEx_exit, ↓Go.Abs.onEx_ret, ↓Go.Abs.onBlk_normal, ↓Go.Abs.onBlk_ret, ↓Go.Abs.onBlk_miss, ↓Go.Abs.wpOp_call, ↓Go.Abs.wpOp_mov, ↓Go.Abs.wpOp_pick, ↓Go.Abs.wpOp_new, ↓Go.Abs.wpOp_bin, ↓Go.Abs.wpOp_not, ↓Go.Abs.wpOp_neg, ↓Go.Abs.wpOp_conv, ↓Go.Abs.wpOp_ext, ↓Go.Abs.wpOp_lenS, ↓Go.Abs.look_hit, ↓Go.Abs.lkF_hit, ↓Go.Abs.setF_hit, ↓Go.Abs.onBlk_hit, Go.Abs.andThen_some, Go.Abs.andThen_none, Go.Abs.setF_nil, Go.Abs.sNot_bool, Go.Abs.sNeg_int, Go.Abs.sConv_int, Go.Abs.sExt_tu, Go.Abs.sLen_sl, Go.Abs.sLen_nil, Go.Abs.sLen_esl, Go.Abs.sBin_lss, Go.Abs.sBin_leq, Go.Abs.sBin_gtr, Go.Abs.sBin_geq, Go.Abs.sBin_eql, Go.Abs.sBin_neq, Go.Abs.sBin_add, Go.Abs.sBin_sub, Go.Abs.sBin_mul, Go.Abs.sresVs_nil, Go.Abs.sresVs_tmp, Go.Abs.elem_hit, Go.Abs.elem_miss, Go.Abs.elem_nil, Go.Abs.initS_nil, Go.Abs.initS_cons, Option.map_some, Option.map_none, List.map_cons, List.map_nil, List.nil_append, List.append_nil, List.cons_append, Nat.reduceBEq, List.getElem?_cons_zero, List.getElem?_cons_succ, List.getElem?_nil, Option.getD_some, Option.getD_none, Go.Abs.ifThen_true, Go.Abs.ifThen_false, Go.Abs.resOf, Go.Abs.leave, cond_false, cond_true, and_true, true_and, ↓Go.Abs.wpOp_load, ↓Go.Abs.wpOp_ixS, Go.Abs.idx?_nat, Go.Abs.sLoad_ptr, ↓Go.Abs.wpOp_mks, ↓Go.Abs.wpOp_store, Go.Abs.int?_int, Go.Abs.sStore_int, Nat.zero_add, Nat.mul_one, ↓Go.Abs.wpOp_buildS, Go.Abs.sBS_2, Go.Abs.sLoad_cell, ↓Go.Abs.wpOp_app, ↓Go.Abs.wpOp_slice, ↓Go.Abs.wpOp_mn, ↓Go.Abs.wpOp_mx, Go.Abs.sMin_int, Go.Abs.sMax_int, Go.Abs.sBS_0, Go.Abs.sBS_1, Go.Abs.andT_some, ↓Go.Abs.wp_loopT, Go.Abs.sb_none, Go.Abs.sb_some, Int.reduceBEq, Int.reduceBNe, Int.reduceLT, Int.reduceLE, Int.reduceAdd, Int.reduceSub, Int.reduceMul, decide_true, decide_false, Bool.not_true, Bool.not_false, beq_self_eq_true, bne_self_eq_false, ↓Go.Abs.wpOp_slice3, and_self, Go.Abs.gT_t, Go.Abs.gT_f, Go.Abs.gT_u]
      refine ⟨_, ?_, i + 1, h6, _, _, _, _, _, _, _, _, _, _, _, _, _, _, _, _, _, rfl, ?_, rfl⟩
      · omega
      exact ⟨by omega, (hg.trans x3).trans g6⟩
    · simp (disch := first | (simp only [Nat.reduceBEq, Go.Abs.elem_hit, Go.Abs.elem_miss, Go.Abs.elem_nil]; done) | omega) only [e5, Go.Abs.wrap_i64, Go.Abs.idx?_pos, Int.toNat_natCast, ↓Go.Abs.wpG_none, ↓Go.Abs.wpG_true, ↓Go.Abs.wpG_false, ↓Go.Abs.wpOps_nil, ↓Go.Abs.wpOps_cons, ↓Go.Abs.sput_some, ↓Go.Abs.sput_none, ↓Go.Abs.sev_t, ↓Go.Abs.sev_c, ↓Go.Abs.look_nil, ↓Go.Abs.look_miss, ↓Go.Abs.lkF_miss, ↓Go.Abs.lkF_nil, ↓Go.Abs.setF_miss, ↓Go.Abs.commitS_nil, ↓Go.Abs.commitS_in, ↓Go.Abs.commitS_out, ↓Go.Abs.wp_skip, ↓Go.Abs.wp_ops, ↓Go.Abs.wp_seq, ↓Go.Abs.wp_cond, ↓Go.Abs.wp_block, ↓Go.Abs.wp_exit, ↓Go.Abs.wp_ret, ↓Go.Abs.onEx_normal, ↓Go.Abs.onEx_exit, ↓Go.Abs.onEx_ret, ↓Go.Abs.onBlk_normal, ↓Go.Abs.onBlk_ret, ↓Go.Abs.onBlk_miss, ↓Go.Abs.wpOp_call, ↓Go.Abs.wpOp_mov, ↓Go.Abs.wpOp_pick, ↓Go.Abs.wpOp_new, ↓Go.Abs.wpOp_bin, ↓Go.Abs.wpOp_not, ↓Go.Abs.wpOp_neg, ↓Go.Abs.wpOp_conv, ↓Go.Abs.wpOp_ext, ↓Go.Abs.wpOp_lenS, ↓Go.Abs.look_hit, ↓Go.Abs.lkF_hit, ↓Go.Abs.setF_hit, ↓Go.Abs.onBlk_hit, Go.Abs.andThen_some, Go.Abs.andThen_none, Go.Abs.setF_nil, Go.Abs.sNot_bool, Go.Abs.sNeg_int, Go.Abs.sConv_int, Go.Abs.sExt_tu, Go.Abs.sLen_sl, Go.Abs.sLen_nil, Go.Abs.sLen_esl, Go.Abs.sBin_lss, Go.Abs.sBin_leq, Go.Abs.sBin_gtr, Go.Abs.sBin_geq, Go.Abs.sBin_eql, Go.Abs.sBin_neq, Go.Abs.sBin_add, Go.Abs.sBin_sub, Go.Abs.sBin_mul, Go.Abs.sresVs_nil, Go.Abs.sresVs_tmp, Go.Abs.elem_hit, Go.Abs.elem_miss, Go.Abs.elem_nil, Go.Abs.initS_nil, Go.Abs.initS_cons, Option.map_some, Option.map_none, List.map_cons, List.map_nil, List.nil_append, List.append_nil, List.cons_append, Nat.reduceBEq, List.getElem?_cons_zero, List.getElem?_cons_succ, List.getElem?_nil, Option.getD_some, Option.getD_none, Go.Abs.ifThen_true, Go.Abs.ifThen_false, Go.Abs.resOf, Go.Abs.leave, cond_false, cond_true, and_true, true_and, ↓Go.Abs.wpOp_load, ↓Go.Abs.wpOp_ixS, Go.Abs.idx?_nat, Go.Abs.sLoad_ptr, ↓Go.Abs.wpOp_mks, ↓Go.Abs.wpOp_store, Go.Abs.int?_int, Go.Abs.sStore_int, Nat.zero_add, Nat.mul_one, ↓Go.Abs.wpOp_buildS, Go.Abs.sBS_2, Go.Abs.sLoad_cell, ↓Go.Abs.wpOp_app, ↓Go.Abs.wpOp_slice, ↓Go.Abs.wpOp_mn, ↓Go.Abs.wpOp_mx, Go.Abs.sMin_int, Go.Abs.sMax_int, Go.Abs.sBS_0, Go.Abs.sBS_1, Go.Abs.andT_some, ↓Go.Abs.wp_loopT, Go.Abs.sb_none, Go.Abs.sb_some, Int.reduceBEq, Int.reduceBNe, Int.reduceLT, Int.reduceLE, Int.reduceAdd, Int.reduceSub, Int.reduceMul, decide_true, decide_false, Bool.not_true, Bool.not_false, beq_self_eq_true, bne_self_eq_false, ↓Go.Abs.wpOp_slice3, and_self, Go.Abs.gT_t, Go.Abs.gT_f, Go.Abs.gT_u]
      exact ⟨_, rfl, rfl⟩)
  obtain ⟨r, h', ev, rfl⟩ := this
  exact ⟨h', ev⟩

end Go.Proofs.Ytogfojkjocbahaa
