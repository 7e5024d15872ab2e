/- The law EchoGolomb. -/
import Derived.Test.YtogfojkjocbahaaE19
set_option linter.unusedSimpArgs false
set_option linter.unusedVariables false
set_option maxHeartbeats 8000000
set_option maxRecDepth 100000
namespace Go.Proofs.Ytogfojkjocbahaa
open Go Go.Abs

/-- How often v is among the first i terms. -/
def cntN (i v : Nat) : Nat := min i (GS v) - min i (GS (v - 1))
def cnt (m i : Nat) : List Int := (List.range (m + 2)).map fun v => ((cntN i v : Nat) : Int)

theorem cnt_len (m i : Nat) : (cnt m i).length = m + 2 := by simp [cnt]
theorem cnt_get {m i v : Nat} (h : v < m + 2) : (cnt m i).getD v 0 = (cntN i v : Int) := by
  simp [cnt, List.getD_eq_getElem?_getD, h]

theorem cnt_zero (m : Nat) : cnt m 0 = List.replicate (m + 2) 0 := by
  refine List.ext_getElem? fun v => ?_
  by_cases h : v < m + 2
  · simp [cnt, cntN, h]
  · rw [List.getElem?_eq_none (by rw [cnt_len]; omega), List.getElem?_eq_none (by simp; omega)]

theorem cntN_step (i v : Nat) : cntN (i + 1) v = if v = G (i + 1) then cntN i v + 1 else cntN i v := by
  have P := GPk (show 1 ≤ i + 1 by omega)
  have h1 := P.lo
  have h2 := P.hi
  have hm := GS_mono (show v - 1 ≤ v by omega)
  unfold cntN
  split
  · rename_i h
    rw [← h] at h1 h2
    omega
  · rename_i h
    have : ¬ (GS (v - 1) < i + 1 ∧ i + 1 ≤ GS v) := fun hh => h (G_val hh.1 hh.2).symm
    omega

theorem cnt_step {m i : Nat} (hi : i < m) : (cnt m i).set (G (i + 1)) ((cntN i (G (i + 1)) : Nat) + 1 : Int) = cnt m (i + 1) := by
  have P := (GPk (show 1 ≤ i + 1 by omega)).le
  refine List.ext_getElem? fun v => ?_
  rw [List.getElem?_set]
  by_cases h : v < m + 2
  · have l1 : (cnt m i)[v]? = some ((cntN i v : Nat) : Int) := by simp [cnt, h]
    have l2 : (cnt m (i + 1))[v]? = some ((cntN (i + 1) v : Nat) : Int) := by simp [cnt, h]
    rw [l1, l2, cntN_step]
    by_cases e : G (i + 1) = v
    · rw [if_pos e, if_pos (by rw [cnt_len]; omega), if_pos e.symm, e]
      simp
    · rw [if_neg e, if_neg (fun h => e h.symm)]
  · rw [List.getElem?_eq_none (l := cnt m (i + 1)) (by rw [cnt_len]; omega)]
    split
    · rw [if_neg (by rw [cnt_len]; omega)]
    · rw [List.getElem?_eq_none (by rw [cnt_len]; omega)]

theorem cnt_end {m v : Nat} (hv : 1 ≤ v) (h : v < G m) (hm : 1 ≤ m) : cntN m v = G v := by
  have P := GPk hm
  have h1 := P.lo
  have h2 := GS_mono (show v ≤ G m - 1 by omega)
  have h3 : GS v = GS (v - 1) + G v := by
    obtain ⟨u, rfl⟩ : ∃ u, v = u + 1 := ⟨v - 1, by omega⟩
    rfl
  unfold cntN
  omega

theorem f7 (k : Int) (hk : 0 ≤ k ∧ k ≤ 65535) (h : Hp) (hok : Hok h) : ∃ h', Evals Try.prog tab false (.func 7) [.int .u16 k] h (.bool true, h') := by
  have := evals_func (T := tab) (g := false) (Q := fun r h' => r = .bool true) c7 (args := [.int .u16 k]) (h := h) rfl (by
    obtain ⟨m, hm⟩ : ∃ m : Nat, (m : Int) = 1 + k % (2000 - 1 + 1) := ⟨(1 + k % (2000 - 1 + 1)).toNat, by omega⟩
    have hmb : 1 ≤ m ∧ m ≤ 2000 := by omega
    have ev0 := fun h => f32 k 1 2000 m hk (by omega) hm h
    obtain ⟨v, h1, ev1, iv, g1, cv⟩ := f20_ok m { h with base := h.next, esc := false } hok (by omega)
    have hok1 : Hok h1 := g1.ok hok
    have ll := gl_len m
    have l0 : ((m : Int) != m) = false := bne_self_eq_false _
    have g0 : (gl m).getD 0 0 = 1 := by rw [gl_get (by omega), show G (0 + 1) = 1 from G_one]; rfl
    have mk : ∀ h : Hp, sMks [.int .i64 0] 1 h (some ((m : Int) + 2)) (some ((m : Int) + 2)) = some (.sl h.next 0 (m + 2) (some (m + 2)) 1, { next := h.next + 1, blks := (h.next, { cells := repl [.int .i64 0] (m + 2), ch := h.next, wr := true }) :: h.blks, loops := h.loops, base := h.base, esc := h.esc }) := fun h =>
      sMks_ok (z := [.int .i64 0]) (n := 1) (h := h) (l := m + 2) (c := m + 2) (by omega) (by omega)
    have G0 : Grown h1 { next := h1.next + 1, blks := (h1.next, { cells := ints .i64 (List.replicate (m + 2) 0), ch := h1.next, wr := true }) :: h1.blks, loops := h1.loops, base := h1.base, esc := h1.esc } := Grown.push
    have O0 : Own h1.next ((h1.next, { cells := ints .i64 (List.replicate (m + 2) 0), ch := h1.next, wr := true }) :: h1.blks) .i64 (.sl h1.next 0 (m + 2) (some (m + 2)) 1) (cnt m 0) := Own.fresh (Nat.le_refl _) (cnt_len m 0) (by rw [cnt_zero]; simp [ints]) (by simp [ints]) (Nat.le_refl _)
    simp only [sf7, initS_cons, initS_nil]
    simp (disch := first | (simp only [Nat.reduceBEq, Go.Abs.elem_hit, Go.Abs.elem_miss, Go.Abs.elem_nil]; done) | omega) only [callT (ev0 _), callT ev1, iv.len, ll, l0, show idx? (.int .i64 0) = some 0 from rfl, iv.ix, iv.ld, g0, callT (f16 _), mk, repl_ints, Go.Abs.wrap_i64, Go.Abs.idx?_pos, Int.toNat_natCast, ↓Go.Abs.wpG_none, ↓Go.Abs.wpG_true, ↓Go.Abs.wpG_false, ↓Go.Abs.wpOps_nil, ↓Go.Abs.wpOps_cons, ↓Go.Abs.sput_some, ↓Go.Abs.sput_none, ↓Go.Abs.sev_t, ↓Go.Abs.sev_c, ↓Go.Abs.look_nil, ↓Go.Abs.look_miss, ↓Go.Abs.lkF_miss, ↓Go.Abs.lkF_nil, ↓Go.Abs.setF_miss, ↓Go.Abs.commitS_nil, ↓Go.Abs.commitS_in, ↓Go.Abs.commitS_out, ↓Go.Abs.wp_skip, ↓Go.Abs.wp_ops, ↓Go.Abs.wp_seq, ↓Go.Abs.wp_cond, ↓Go.Abs.wp_block, ↓Go.Abs.wp_exit, ↓Go.Abs.wp_ret, ↓Go.Abs.onEx_normal, ↓Go.Abs.onEx_exit, ↓Go.Abs.onEx_ret, ↓Go.Abs.onBlk_normal, ↓Go.Abs.onBlk_ret, ↓Go.Abs.onBlk_miss, ↓Go.Abs.wpOp_call, ↓Go.Abs.wpOp_mov, ↓Go.Abs.wpOp_pick, ↓Go.Abs.wpOp_new, ↓Go.Abs.wpOp_bin, ↓Go.Abs.wpOp_not, ↓Go.Abs.wpOp_neg, ↓Go.Abs.wpOp_conv, ↓Go.Abs.wpOp_ext, ↓Go.Abs.wpOp_lenS, ↓Go.Abs.look_hit, ↓Go.Abs.lkF_hit, ↓Go.Abs.setF_hit, ↓Go.Abs.onBlk_hit, Go.Abs.andThen_some, Go.Abs.andThen_none, Go.Abs.setF_nil, Go.Abs.sNot_bool, Go.Abs.sNeg_int, Go.Abs.sConv_int, Go.Abs.sExt_tu, Go.Abs.sLen_sl, Go.Abs.sLen_nil, Go.Abs.sLen_esl, Go.Abs.sBin_lss, Go.Abs.sBin_leq, Go.Abs.sBin_gtr, Go.Abs.sBin_geq, Go.Abs.sBin_eql, Go.Abs.sBin_neq, Go.Abs.sBin_add, Go.Abs.sBin_sub, Go.Abs.sBin_mul, Go.Abs.sresVs_nil, Go.Abs.sresVs_tmp, Go.Abs.elem_hit, Go.Abs.elem_miss, Go.Abs.elem_nil, Go.Abs.initS_nil, Go.Abs.initS_cons, Option.map_some, Option.map_none, List.map_cons, List.map_nil, List.nil_append, List.append_nil, List.cons_append, Nat.reduceBEq, List.getElem?_cons_zero, List.getElem?_cons_succ, List.getElem?_nil, Option.getD_some, Option.getD_none, Go.Abs.ifThen_true, Go.Abs.ifThen_false, Go.Abs.resOf, Go.Abs.leave, cond_false, cond_true, and_true, true_and, ↓Go.Abs.wpOp_load, ↓Go.Abs.wpOp_ixS, Go.Abs.idx?_nat, Go.Abs.sLoad_ptr, ↓Go.Abs.wpOp_mks, ↓Go.Abs.wpOp_store, Go.Abs.int?_int, Go.Abs.sStore_int, Nat.zero_add, Nat.mul_one, ↓Go.Abs.wpOp_buildS, Go.Abs.sBS_2, Go.Abs.sLoad_cell, ↓Go.Abs.wpOp_app, ↓Go.Abs.wpOp_slice, ↓Go.Abs.wpOp_mn, ↓Go.Abs.wpOp_mx, Go.Abs.sMin_int, Go.Abs.sMax_int, Go.Abs.sBS_0, Go.Abs.sBS_1, Go.Abs.andT_some, ↓Go.Abs.wp_loopT, Go.Abs.sb_none, Go.Abs.sb_some, Int.reduceBEq, Int.reduceBNe, Int.reduceLT, Int.reduceLE, Int.reduceAdd, Int.reduceSub, Int.reduceMul, decide_true, decide_false, Bool.not_true, Bool.not_false, beq_self_eq_true, bne_self_eq_false, ↓Go.Abs.wpOp_slice3, and_self, Go.Abs.gT_t, Go.Abs.gT_f, Go.Abs.gT_u]
    refine wloop (fun mm ss => ∃ (i : Nat) (q : AV) (h2 : Hp) (u0 u8 u9 u10 u35 u41 u86 u102 u114 u117 u151 : AV), (mm = m - i) ∧ (i ≤ m ∧ Grown h1 h2 ∧ Own h1.next h2.blks .i64 q (cnt m i)) ∧ ss = { fr := [(0, u0), (2, .bool false), (3, .int .i64 m), (4, v), (5, .int .i64 0), (6, q), (7, .int .i64 i), (8, u8), (9, u9), (10, u10), (35, u35), (41, u41), (86, u86), (102, u102), (114, u114), (117, u117), (151, u151)], hp := h2 }) (m) ?_ ?_
    ·
      refine ⟨0, .sl h1.next 0 (m + 2) (some (m + 2)) 1, { next := h1.next + 1, blks := (h1.next, { cells := ints .i64 (List.replicate (m + 2) 0), ch := h1.next, wr := true }) :: h1.blks, loops := h1.loops, base := h1.base, esc := h1.esc }, _, _, _, _, _, _, _, _, _, _, _, by omega, ⟨by omega, G0, O0⟩, rfl⟩
    rintro nA sA ⟨i, q, h2, u0, u8, u9, u10, u35, u41, u86, u102, u114, u117, u151, hnA, ⟨hi, hg, hO⟩, rfl⟩
    have hok2 := hg.ok hok1
    have iv2 := iv.grown hok1 hg
    simp (disch := first | (simp only [Nat.reduceBEq, Go.Abs.elem_hit, Go.Abs.elem_miss, Go.Abs.elem_nil]; done) | omega) only [Go.Abs.wrap_i64, Go.Abs.idx?_pos, Int.toNat_natCast, ↓Go.Abs.wpG_none, ↓Go.Abs.wpG_true, ↓Go.Abs.wpG_false, ↓Go.Abs.wpOps_nil, ↓Go.Abs.wpOps_cons, ↓Go.Abs.sput_some, ↓Go.Abs.sput_none, ↓Go.Abs.sev_t, ↓Go.Abs.sev_c, ↓Go.Abs.look_nil, ↓Go.Abs.look_miss, ↓Go.Abs.lkF_miss, ↓Go.Abs.lkF_nil, ↓Go.Abs.setF_miss, ↓Go.Abs.commitS_nil, ↓Go.Abs.commitS_in, ↓Go.Abs.commitS_out, ↓Go.Abs.wp_skip, ↓Go.Abs.wp_ops, ↓Go.Abs.wp_seq, ↓Go.Abs.wp_cond, ↓Go.Abs.wp_block, ↓Go.Abs.wp_exit, ↓Go.Abs.wp_ret, ↓Go.Abs.onEx_normal, ↓Go.Abs.onEx_exit, ↓Go.Abs.onEx_ret, ↓Go.Abs.onBlk_normal, ↓Go.Abs.onBlk_ret, ↓Go.Abs.onBlk_miss, ↓Go.Abs.wpOp_call, ↓Go.Abs.wpOp_mov, ↓Go.Abs.wpOp_pick, ↓Go.Abs.wpOp_new, ↓Go.Abs.wpOp_bin, ↓Go.Abs.wpOp_not, ↓Go.Abs.wpOp_neg, ↓Go.Abs.wpOp_conv, ↓Go.Abs.wpOp_ext, ↓Go.Abs.wpOp_lenS, ↓Go.Abs.look_hit, ↓Go.Abs.lkF_hit, ↓Go.Abs.setF_hit, ↓Go.Abs.onBlk_hit, Go.Abs.andThen_some, Go.Abs.andThen_none, Go.Abs.setF_nil, Go.Abs.sNot_bool, Go.Abs.sNeg_int, Go.Abs.sConv_int, Go.Abs.sExt_tu, Go.Abs.sLen_sl, Go.Abs.sLen_nil, Go.Abs.sLen_esl, Go.Abs.sBin_lss, Go.Abs.sBin_leq, Go.Abs.sBin_gtr, Go.Abs.sBin_geq, Go.Abs.sBin_eql, Go.Abs.sBin_neq, Go.Abs.sBin_add, Go.Abs.sBin_sub, Go.Abs.sBin_mul, Go.Abs.sresVs_nil, Go.Abs.sresVs_tmp, Go.Abs.elem_hit, Go.Abs.elem_miss, Go.Abs.elem_nil, Go.Abs.initS_nil, Go.Abs.initS_cons, Option.map_some, Option.map_none, List.map_cons, List.map_nil, List.nil_append, List.append_nil, List.cons_append, Nat.reduceBEq, List.getElem?_cons_zero, List.getElem?_cons_succ, List.getElem?_nil, Option.getD_some, Option.getD_none, Go.Abs.ifThen_true, Go.Abs.ifThen_false, Go.Abs.resOf, Go.Abs.leave, cond_false, cond_true, and_true, true_and, ↓Go.Abs.wpOp_load, ↓Go.Abs.wpOp_ixS, Go.Abs.idx?_nat, Go.Abs.sLoad_ptr, ↓Go.Abs.wpOp_mks, ↓Go.Abs.wpOp_store, Go.Abs.int?_int, Go.Abs.sStore_int, Nat.zero_add, Nat.mul_one, ↓Go.Abs.wpOp_buildS, Go.Abs.sBS_2, Go.Abs.sLoad_cell, ↓Go.Abs.wpOp_app, ↓Go.Abs.wpOp_slice, ↓Go.Abs.wpOp_mn, ↓Go.Abs.wpOp_mx, Go.Abs.sMin_int, Go.Abs.sMax_int, Go.Abs.sBS_0, Go.Abs.sBS_1, Go.Abs.andT_some, ↓Go.Abs.wp_loopT, Go.Abs.sb_none, Go.Abs.sb_some, Int.reduceBEq, Int.reduceBNe, Int.reduceLT, Int.reduceLE, Int.reduceAdd, Int.reduceSub, Int.reduceMul, decide_true, decide_false, Bool.not_true, Bool.not_false, beq_self_eq_true, bne_self_eq_false, ↓Go.Abs.wpOp_slice3, and_self, Go.Abs.gT_t, Go.Abs.gT_f, Go.Abs.gT_u]
    refine Go.Abs.ifThen_intro (fun e1 => ?_) (fun e1 => ?_)
    · have e1q : i < m := by
        have : (i : Int) < m := by simpa only [decide_eq_true_eq] using e1
        omega
      have P := GPk (show 1 ≤ i + 1 by omega)
      have P1 := P.pos
      have P2 := P.le
      have gg := gl_get e1q
      have a1 : decide (((G (i + 1) : Nat) : Int) < 1) = false := by simp only [decide_eq_false_iff_not]; omega
      have a2 : decide ((i : Int) + 1 < ((G (i + 1) : Nat) : Int)) = false := by simp only [decide_eq_false_iff_not]; omega
      have hc := cnt_get (m := m) (i := i) (v := G (i + 1)) (by omega)
      have hcb : cntN i (G (i + 1)) ≤ i := by unfold cntN; omega
      obtain ⟨h3, x1, x2, x3⟩ := own_set (i := G (i + 1)) (v := ((cntN i (G (i + 1)) : Nat) : Int) + 1) hok1 hg hO (by rw [cnt_len]; omega)
      rw [cnt_step e1q] at x2
      have hcl := cnt_len m i
      by_cases h0 : i = 0
      · have a3 : decide ((0 : Int) < (i : Int)) = false := by simp only [decide_eq_false_iff_not]; omega
        simp (disch := first | (simp only [Nat.reduceBEq, Go.Abs.elem_hit, Go.Abs.elem_miss, Go.Abs.elem_nil]; done) | omega) only [e1, iv2.ix, iv2.ld, gg, a1, a2, a3, hO.ints.ix, hO.ints.ld, hc, x1, Go.Abs.wrap_i64, Go.Abs.idx?_pos, Int.toNat_natCast, ↓Go.Abs.wpG_none, ↓Go.Abs.wpG_true, ↓Go.Abs.wpG_false, ↓Go.Abs.wpOps_nil, ↓Go.Abs.wpOps_cons, ↓Go.Abs.sput_some, ↓Go.Abs.sput_none, ↓Go.Abs.sev_t, ↓Go.Abs.sev_c, ↓Go.Abs.look_nil, ↓Go.Abs.look_miss, ↓Go.Abs.lkF_miss, ↓Go.Abs.lkF_nil, ↓Go.Abs.setF_miss, ↓Go.Abs.commitS_nil, ↓Go.Abs.commitS_in, ↓Go.Abs.commitS_out, ↓Go.Abs.wp_skip, ↓Go.Abs.wp_ops, ↓Go.Abs.wp_seq, ↓Go.Abs.wp_cond, ↓Go.Abs.wp_block, ↓Go.Abs.wp_exit, ↓Go.Abs.wp_ret, ↓Go.Abs.onEx_normal, ↓Go.Abs.onEx_exit, ↓Go.Abs.onEx_ret, ↓Go.Abs.onBlk_normal, ↓Go.Abs.onBlk_ret, ↓Go.Abs.onBlk_miss, ↓Go.Abs.wpOp_call, ↓Go.Abs.wpOp_mov, ↓Go.Abs.wpOp_pick, ↓Go.Abs.wpOp_new, ↓Go.Abs.wpOp_bin, ↓Go.Abs.wpOp_not, ↓Go.Abs.wpOp_neg, ↓Go.Abs.wpOp_conv, ↓Go.Abs.wpOp_ext, ↓Go.Abs.wpOp_lenS, ↓Go.Abs.look_hit, ↓Go.Abs.lkF_hit, ↓Go.Abs.setF_hit, ↓Go.Abs.onBlk_hit, Go.Abs.andThen_some, Go.Abs.andThen_none, Go.Abs.setF_nil, Go.Abs.sNot_bool, Go.Abs.sNeg_int, Go.Abs.sConv_int, Go.Abs.sExt_tu, Go.Abs.sLen_sl, Go.Abs.sLen_nil, Go.Abs.sLen_esl, Go.Abs.sBin_lss, Go.Abs.sBin_leq, Go.Abs.sBin_gtr, Go.Abs.sBin_geq, Go.Abs.sBin_eql, Go.Abs.sBin_neq, Go.Abs.sBin_add, Go.Abs.sBin_sub, Go.Abs.sBin_mul, Go.Abs.sresVs_nil, Go.Abs.sresVs_tmp, Go.Abs.elem_hit, Go.Abs.elem_miss, Go.Abs.elem_nil, Go.Abs.initS_nil, Go.Abs.initS_cons, Option.map_some, Option.map_none, List.map_cons, List.map_nil, List.nil_append, List.append_nil, List.cons_append, Nat.reduceBEq, List.getElem?_cons_zero, List.getElem?_cons_succ, List.getElem?_nil, Option.getD_some, Option.getD_none, Go.Abs.ifThen_true, Go.Abs.ifThen_false, Go.Abs.resOf, Go.Abs.leave, cond_false, cond_true, and_true, true_and, ↓Go.Abs.wpOp_load, ↓Go.Abs.wpOp_ixS, Go.Abs.idx?_nat, Go.Abs.sLoad_ptr, ↓Go.Abs.wpOp_mks, ↓Go.Abs.wpOp_store, Go.Abs.int?_int, Go.Abs.sStore_int, Nat.zero_add, Nat.mul_one, ↓Go.Abs.wpOp_buildS, Go.Abs.sBS_2, Go.Abs.sLoad_cell, ↓Go.Abs.wpOp_app, ↓Go.Abs.wpOp_slice, ↓Go.Abs.wpOp_mn, ↓Go.Abs.wpOp_mx, Go.Abs.sMin_int, Go.Abs.sMax_int, Go.Abs.sBS_0, Go.Abs.sBS_1, Go.Abs.andT_some, ↓Go.Abs.wp_loopT, Go.Abs.sb_none, Go.Abs.sb_some, Int.reduceBEq, Int.reduceBNe, Int.reduceLT, Int.reduceLE, Int.reduceAdd, Int.reduceSub, Int.reduceMul, decide_true, decide_false, Bool.not_true, Bool.not_false, beq_self_eq_true, bne_self_eq_false, ↓Go.Abs.wpOp_slice3, and_self, Go.Abs.gT_t, Go.Abs.gT_f, Go.Abs.gT_u]
        refine ⟨_, ?_, i + 1, q, h3, _, _, _, _, _, _, _, _, _, _, _, rfl, ?_, rfl⟩
        · omega
        exact ⟨by omega, x3, x2⟩
      · have a3 : decide ((0 : Int) < (i : Int)) = true := by simp only [decide_eq_true_eq]; omega
        obtain ⟨j, rfl⟩ : ∃ j, i = j + 1 := ⟨i - 1, by omega⟩
        have hU := P.up (by omega)
        have gg2 := gl_get (show j < m by omega)
        have tj : (((j + 1 : Nat) : Int) - 1).toNat = j := by omega
        rw [show j + 1 + 1 - 1 = j + 1 by omega] at hU
        have a4 : decide (((G (j + 1 + 1) : Nat) : Int) < ((G (j + 1) : Nat) : Int)) = false := by simp only [decide_eq_false_iff_not]; omega
        have a5 : decide (((G (j + 1) : Nat) : Int) + 1 < ((G (j + 1 + 1) : Nat) : Int)) = false := by simp only [decide_eq_false_iff_not]; omega
        simp (disch := first | (simp only [Nat.reduceBEq, Go.Abs.elem_hit, Go.Abs.elem_miss, Go.Abs.elem_nil]; done) | omega) only [e1, iv2.ix, iv2.ld, gg, a1, a2, a3, tj, gg2, a4, a5, hO.ints.ix, hO.ints.ld, hc, x1, Go.Abs.wrap_i64, Go.Abs.idx?_pos, Int.toNat_natCast, ↓Go.Abs.wpG_none, ↓Go.Abs.wpG_true, ↓Go.Abs.wpG_false, ↓Go.Abs.wpOps_nil, ↓Go.Abs.wpOps_cons, ↓Go.Abs.sput_some, ↓Go.Abs.sput_none, ↓Go.Abs.sev_t, ↓Go.Abs.sev_c, ↓Go.Abs.look_nil, ↓Go.Abs.look_miss, ↓Go.Abs.lkF_miss, ↓Go.Abs.lkF_nil, ↓Go.Abs.setF_miss, ↓Go.Abs.commitS_nil, ↓Go.Abs.commitS_in, ↓Go.Abs.commitS_out, ↓Go.Abs.wp_skip, ↓Go.Abs.wp_ops, ↓Go.Abs.wp_seq, ↓Go.Abs.wp_cond, ↓Go.Abs.wp_block, ↓Go.Abs.wp_exit, ↓Go.Abs.wp_ret, ↓Go.Abs.onEx_normal, ↓Go.Abs.onEx_exit, ↓Go.Abs.onEx_ret, ↓Go.Abs.onBlk_normal, ↓Go.Abs.onBlk_ret, ↓Go.Abs.onBlk_miss, ↓Go.Abs.wpOp_call, ↓Go.Abs.wpOp_mov, ↓Go.Abs.wpOp_pick, ↓Go.Abs.wpOp_new, ↓Go.Abs.wpOp_bin, ↓Go.Abs.wpOp_not, ↓Go.Abs.wpOp_neg, ↓Go.Abs.wpOp_conv, ↓Go.Abs.wpOp_ext, ↓Go.Abs.wpOp_lenS, ↓Go.Abs.look_hit, ↓Go.Abs.lkF_hit, ↓Go.Abs.setF_hit, ↓Go.Abs.onBlk_hit, Go.Abs.andThen_some, Go.Abs.andThen_none, Go.Abs.setF_nil, Go.Abs.sNot_bool, Go.Abs.sNeg_int, Go.Abs.sConv_int, Go.Abs.sExt_tu, Go.Abs.sLen_sl, Go.Abs.sLen_nil, Go.Abs.sLen_esl, Go.Abs.sBin_lss, Go.Abs.sBin_leq, Go.Abs.sBin_gtr, Go.Abs.sBin_geq, Go.Abs.sBin_eql, Go.Abs.sBin_neq, Go.Abs.sBin_add, Go.Abs.sBin_sub, Go.Abs.sBin_mul, Go.Abs.sresVs_nil, Go.Abs.sresVs_tmp, Go.Abs.elem_hit, Go.Abs.elem_miss, Go.Abs.elem_nil, Go.Abs.initS_nil, Go.Abs.initS_cons, Option.map_some, Option.map_none, List.map_cons, List.map_nil, List.nil_append, List.append_nil, List.cons_append, Nat.reduceBEq, List.getElem?_cons_zero, List.getElem?_cons_succ, List.getElem?_nil, Option.getD_some, Option.getD_none, Go.Abs.ifThen_true, Go.Abs.ifThen_false, Go.Abs.resOf, Go.Abs.leave, cond_false, cond_true, and_true, true_and, ↓Go.Abs.wpOp_load, ↓Go.Abs.wpOp_ixS, Go.Abs.idx?_nat, Go.Abs.sLoad_ptr, ↓Go.Abs.wpOp_mks, ↓Go.Abs.wpOp_store, Go.Abs.int?_int, Go.Abs.sStore_int, Nat.zero_add, Nat.mul_one, ↓Go.Abs.wpOp_buildS, Go.Abs.sBS_2, Go.Abs.sLoad_cell, ↓Go.Abs.wpOp_app, ↓Go.Abs.wpOp_slice, ↓Go.Abs.wpOp_mn, ↓Go.Abs.wpOp_mx, Go.Abs.sMin_int, Go.Abs.sMax_int, Go.Abs.sBS_0, Go.Abs.sBS_1, Go.Abs.andT_some, ↓Go.Abs.wp_loopT, Go.Abs.sb_none, Go.Abs.sb_some, Int.reduceBEq, Int.reduceBNe, Int.reduceLT, Int.reduceLE, Int.reduceAdd, Int.reduceSub, Int.reduceMul, decide_true, decide_false, Bool.not_true, Bool.not_false, beq_self_eq_true, bne_self_eq_false, ↓Go.Abs.wpOp_slice3, and_self, Go.Abs.gT_t, Go.Abs.gT_f, Go.Abs.gT_u]
        refine ⟨_, ?_, j + 1 + 1, q, h3, _, _, _, _, _, _, _, _, _, _, _, rfl, ?_, rfl⟩
        · omega
        exact ⟨by omega, x3, x2⟩
    · have him : i = m := by
        have : ¬ (i : Int) < m := by simpa only [decide_eq_false_iff_not] using e1
        omega
      subst him
      have Pm := GPk hmb.1
      have Pm1 := Pm.pos
      have Pm2 := Pm.le
      have tm : ((i : Int) - 1).toNat = i - 1 := by omega
      have gm := gl_get (show i - 1 < i by omega)
      rw [show i - 1 + 1 = i by omega] at gm
      have hcl := cnt_len i i
      have hcI := hO.ints
      simp (disch := first | (simp only [Nat.reduceBEq, Go.Abs.elem_hit, Go.Abs.elem_miss, Go.Abs.elem_nil]; done) | omega) only [e1, Go.Abs.wrap_i64, Go.Abs.idx?_pos, Int.toNat_natCast, ↓Go.Abs.wpG_none, ↓Go.Abs.wpG_true, ↓Go.Abs.wpG_false, ↓Go.Abs.wpOps_nil, ↓Go.Abs.wpOps_cons, ↓Go.Abs.sput_some, ↓Go.Abs.sput_none, ↓Go.Abs.sev_t, ↓Go.Abs.sev_c, ↓Go.Abs.look_nil, ↓Go.Abs.look_miss, ↓Go.Abs.lkF_miss, ↓Go.Abs.lkF_nil, ↓Go.Abs.setF_miss, ↓Go.Abs.commitS_nil, ↓Go.Abs.commitS_in, ↓Go.Abs.commitS_out, ↓Go.Abs.wp_skip, ↓Go.Abs.wp_ops, ↓Go.Abs.wp_seq, ↓Go.Abs.wp_cond, ↓Go.Abs.wp_block, ↓Go.Abs.wp_exit, ↓Go.Abs.wp_ret, ↓Go.Abs.onEx_normal, ↓Go.Abs.onEx_exit, ↓Go.Abs.onEx_ret, ↓Go.Abs.onBlk_normal, ↓Go.Abs.onBlk_ret, ↓Go.Abs.onBlk_miss, ↓Go.Abs.wpOp_call, ↓Go.Abs.wpOp_mov, ↓Go.Abs.wpOp_pick, ↓Go.Abs.wpOp_new, ↓Go.Abs.wpOp_bin, ↓Go.Abs.wpOp_not, ↓Go.Abs.wpOp_neg, ↓Go.Abs.wpOp_conv, ↓Go.Abs.wpOp_ext, ↓Go.Abs.wpOp_lenS, ↓Go.Abs.look_hit, ↓Go.Abs.lkF_hit, ↓Go.Abs.setF_hit, ↓Go.Abs.onBlk_hit, Go.Abs.andThen_some, Go.Abs.andThen_none, Go.Abs.setF_nil, Go.Abs.sNot_bool, Go.Abs.sNeg_int, Go.Abs.sConv_int, Go.Abs.sExt_tu, Go.Abs.sLen_sl, Go.Abs.sLen_nil, Go.Abs.sLen_esl, Go.Abs.sBin_lss, Go.Abs.sBin_leq, Go.Abs.sBin_gtr, Go.Abs.sBin_geq, Go.Abs.sBin_eql, Go.Abs.sBin_neq, Go.Abs.sBin_add, Go.Abs.sBin_sub, Go.Abs.sBin_mul, Go.Abs.sresVs_nil, Go.Abs.sresVs_tmp, Go.Abs.elem_hit, Go.Abs.elem_miss, Go.Abs.elem_nil, Go.Abs.initS_nil, Go.Abs.initS_cons, Option.map_some, Option.map_none, List.map_cons, List.map_nil, List.nil_append, List.append_nil, List.cons_append, Nat.reduceBEq, List.getElem?_cons_zero, List.getElem?_cons_succ, List.getElem?_nil, Option.getD_some, Option.getD_none, Go.Abs.ifThen_true, Go.Abs.ifThen_false, Go.Abs.resOf, Go.Abs.leave, cond_false, cond_true, and_true, true_and, ↓Go.Abs.wpOp_load, ↓Go.Abs.wpOp_ixS, Go.Abs.idx?_nat, Go.Abs.sLoad_ptr, ↓Go.Abs.wpOp_mks, ↓Go.Abs.wpOp_store, Go.Abs.int?_int, Go.Abs.sStore_int, Nat.zero_add, Nat.mul_one, ↓Go.Abs.wpOp_buildS, Go.Abs.sBS_2, Go.Abs.sLoad_cell, ↓Go.Abs.wpOp_app, ↓Go.Abs.wpOp_slice, ↓Go.Abs.wpOp_mn, ↓Go.Abs.wpOp_mx, Go.Abs.sMin_int, Go.Abs.sMax_int, Go.Abs.sBS_0, Go.Abs.sBS_1, Go.Abs.andT_some, ↓Go.Abs.wp_loopT, Go.Abs.sb_none, Go.Abs.sb_some, Int.reduceBEq, Int.reduceBNe, Int.reduceLT, Int.reduceLE, Int.reduceAdd, Int.reduceSub, Int.reduceMul, decide_true, decide_false, Bool.not_true, Bool.not_false, beq_self_eq_true, bne_self_eq_false, ↓Go.Abs.wpOp_slice3, and_self, Go.Abs.gT_t, Go.Abs.gT_f, Go.Abs.gT_u]
      refine wloop (fun mm ss => ∃ (w : Nat) (u0 u5 u7 u9 u10 u35 u41 u86 u102 u114 u117 u151 : AV), (mm = G i - w) ∧ (w + 1 ≤ G i) ∧ ss = { fr := [(0, u0), (2, .bool false), (3, .int .i64 i), (4, v), (5, u5), (6, q), (7, u7), (8, .int .i64 (w + 1 : Nat)), (9, u9), (10, u10), (35, u35), (41, u41), (86, u86), (102, u102), (114, u114), (117, u117), (151, u151)], hp := h2 }) (G i) ?_ ?_
      ·
        refine ⟨0, _, _, _, _, _, _, _, _, _, _, _, _, rfl, Pm1, rfl⟩
      rintro nB sB ⟨w, u0, u5, u7, u9, u10, u35, u41, u86, u102, u114, u117, u151, hnB, hw, rfl⟩
      simp (disch := first | (simp only [Nat.reduceBEq, Go.Abs.elem_hit, Go.Abs.elem_miss, Go.Abs.elem_nil]; done) | omega) only [tm, iv2.ix, iv2.ld, gm, Go.Abs.wrap_i64, Go.Abs.idx?_pos, Int.toNat_natCast, ↓Go.Abs.wpG_none, ↓Go.Abs.wpG_true, ↓Go.Abs.wpG_false, ↓Go.Abs.wpOps_nil, ↓Go.Abs.wpOps_cons, ↓Go.Abs.sput_some, ↓Go.Abs.sput_none, ↓Go.Abs.sev_t, ↓Go.Abs.sev_c, ↓Go.Abs.look_nil, ↓Go.Abs.look_miss, ↓Go.Abs.lkF_miss, ↓Go.Abs.lkF_nil, ↓Go.Abs.setF_miss, ↓Go.Abs.commitS_nil, ↓Go.Abs.commitS_in, ↓Go.Abs.commitS_out, ↓Go.Abs.wp_skip, ↓Go.Abs.wp_ops, ↓Go.Abs.wp_seq, ↓Go.Abs.wp_cond, ↓Go.Abs.wp_block, ↓Go.Abs.wp_exit, ↓Go.Abs.wp_ret, ↓Go.Abs.onEx_normal, ↓Go.Abs.onEx_exit, ↓Go.Abs.onEx_ret, ↓Go.Abs.onBlk_normal, ↓Go.Abs.onBlk_ret, ↓Go.Abs.onBlk_miss, ↓Go.Abs.wpOp_call, ↓Go.Abs.wpOp_mov, ↓Go.Abs.wpOp_pick, ↓Go.Abs.wpOp_new, ↓Go.Abs.wpOp_bin, ↓Go.Abs.wpOp_not, ↓Go.Abs.wpOp_neg, ↓Go.Abs.wpOp_conv, ↓Go.Abs.wpOp_ext, ↓Go.Abs.wpOp_lenS, ↓Go.Abs.look_hit, ↓Go.Abs.lkF_hit, ↓Go.Abs.setF_hit, ↓Go.Abs.onBlk_hit, Go.Abs.andThen_some, Go.Abs.andThen_none, Go.Abs.setF_nil, Go.Abs.sNot_bool, Go.Abs.sNeg_int, Go.Abs.sConv_int, Go.Abs.sExt_tu, Go.Abs.sLen_sl, Go.Abs.sLen_nil, Go.Abs.sLen_esl, Go.Abs.sBin_lss, Go.Abs.sBin_leq, Go.Abs.sBin_gtr, Go.Abs.sBin_geq, Go.Abs.sBin_eql, Go.Abs.sBin_neq, Go.Abs.sBin_add, Go.Abs.sBin_sub, Go.Abs.sBin_mul, Go.Abs.sresVs_nil, Go.Abs.sresVs_tmp, Go.Abs.elem_hit, Go.Abs.elem_miss, Go.Abs.elem_nil, Go.Abs.initS_nil, Go.Abs.initS_cons, Option.map_some, Option.map_none, List.map_cons, List.map_nil, List.nil_append, List.append_nil, List.cons_append, Nat.reduceBEq, List.getElem?_cons_zero, List.getElem?_cons_succ, List.getElem?_nil, Option.getD_some, Option.getD_none, Go.Abs.ifThen_true, Go.Abs.ifThen_false, Go.Abs.resOf, Go.Abs.leave, cond_false, cond_true, and_true, true_and, ↓Go.Abs.wpOp_load, ↓Go.Abs.wpOp_ixS, Go.Abs.idx?_nat, Go.Abs.sLoad_ptr, ↓Go.Abs.wpOp_mks, ↓Go.Abs.wpOp_store, Go.Abs.int?_int, Go.Abs.sStore_int, Nat.zero_add, Nat.mul_one, ↓Go.Abs.wpOp_buildS, Go.Abs.sBS_2, Go.Abs.sLoad_cell, ↓Go.Abs.wpOp_app, ↓Go.Abs.wpOp_slice, ↓Go.Abs.wpOp_mn, ↓Go.Abs.wpOp_mx, Go.Abs.sMin_int, Go.Abs.sMax_int, Go.Abs.sBS_0, Go.Abs.sBS_1, Go.Abs.andT_some, ↓Go.Abs.wp_loopT, Go.Abs.sb_none, Go.Abs.sb_some, Int.reduceBEq, Int.reduceBNe, Int.reduceLT, Int.reduceLE, Int.reduceAdd, Int.reduceSub, Int.reduceMul, decide_true, decide_false, Bool.not_true, Bool.not_false, beq_self_eq_true, bne_self_eq_false, ↓Go.Abs.wpOp_slice3, and_self, Go.Abs.gT_t, Go.Abs.gT_f, Go.Abs.gT_u]
      refine Go.Abs.ifThen_intro (fun e2 => ?_) (fun e2 => ?_)
      · have e2q : w + 1 < G i := by
          have : ((w + 1 : Nat) : Int) < (G i : Nat) := by simpa only [decide_eq_true_eq] using e2
          omega
        have hc := cnt_get (m := i) (i := i) (v := w + 1) (by omega)
        rw [cnt_end (by omega) e2q hmb.1] at hc
        have gw := gl_get (n := i) (i := w) (by omega)
        have tw : (((w + 1 : Nat) : Int) - 1).toNat = w := by omega
        have bb : (((G (w + 1) : Nat) : Int) != ((G (w + 1) : Nat) : Int)) = false := bne_self_eq_false _
        simp (disch := first | (simp only [Nat.reduceBEq, Go.Abs.elem_hit, Go.Abs.elem_miss, Go.Abs.elem_nil]; done) | omega) only [e2, hcI.ix, hcI.ld, hc, tw, iv2.ix, iv2.ld, gw, bb, Go.Abs.wrap_i64, Go.Abs.idx?_pos, Int.toNat_natCast, ↓Go.Abs.wpG_none, ↓Go.Abs.wpG_true, ↓Go.Abs.wpG_false, ↓Go.Abs.wpOps_nil, ↓Go.Abs.wpOps_cons, ↓Go.Abs.sput_some, ↓Go.Abs.sput_none, ↓Go.Abs.sev_t, ↓Go.Abs.sev_c, ↓Go.Abs.look_nil, ↓Go.Abs.look_miss, ↓Go.Abs.lkF_miss, ↓Go.Abs.lkF_nil, ↓Go.Abs.setF_miss, ↓Go.Abs.commitS_nil, ↓Go.Abs.commitS_in, ↓Go.Abs.commitS_out, ↓Go.Abs.wp_skip, ↓Go.Abs.wp_ops, ↓Go.Abs.wp_seq, ↓Go.Abs.wp_cond, ↓Go.Abs.wp_block, ↓Go.Abs.wp_exit, ↓Go.Abs.wp_ret, ↓Go.Abs.onEx_normal, ↓Go.Abs.onEx_exit, ↓Go.Abs.onEx_ret, ↓Go.Abs.onBlk_normal, ↓Go.Abs.onBlk_ret, ↓Go.Abs.onBlk_miss, ↓Go.Abs.wpOp_call, ↓Go.Abs.wpOp_mov, ↓Go.Abs.wpOp_pick, ↓Go.Abs.wpOp_new, ↓Go.Abs.wpOp_bin, ↓Go.Abs.wpOp_not, ↓Go.Abs.wpOp_neg, ↓Go.Abs.wpOp_conv, ↓Go.Abs.wpOp_ext, ↓Go.Abs.wpOp_lenS, ↓Go.Abs.look_hit, ↓Go.Abs.lkF_hit, ↓Go.Abs.setF_hit, ↓Go.Abs.onBlk_hit, Go.Abs.andThen_some, Go.Abs.andThen_none, Go.Abs.setF_nil, Go.Abs.sNot_bool, Go.Abs.sNeg_int, Go.Abs.sConv_int, Go.Abs.sExt_tu, Go.Abs.sLen_sl, Go.Abs.sLen_nil, Go.Abs.sLen_esl, Go.Abs.sBin_lss, Go.Abs.sBin_leq, Go.Abs.sBin_gtr, Go.Abs.sBin_geq, Go.Abs.sBin_eql, Go.Abs.sBin_neq, Go.Abs.sBin_add, Go.Abs.sBin_sub, Go.Abs.sBin_mul, Go.Abs.sresVs_nil, Go.Abs.sresVs_tmp, Go.Abs.elem_hit, Go.Abs.elem_miss, Go.Abs.elem_nil, Go.Abs.initS_nil, Go.Abs.initS_cons, Option.map_some, Option.map_none, List.map_cons, List.map_nil, List.nil_append, List.append_nil, List.cons_append, Nat.reduceBEq, List.getElem?_cons_zero, List.getElem?_cons_succ, List.getElem?_nil, Option.getD_some, Option.getD_none, Go.Abs.ifThen_true, Go.Abs.ifThen_false, Go.Abs.resOf, Go.Abs.leave, cond_false, cond_true, and_true, true_and, ↓Go.Abs.wpOp_load, ↓Go.Abs.wpOp_ixS, Go.Abs.idx?_nat, Go.Abs.sLoad_ptr, ↓Go.Abs.wpOp_mks, ↓Go.Abs.wpOp_store, Go.Abs.int?_int, Go.Abs.sStore_int, Nat.zero_add, Nat.mul_one, ↓Go.Abs.wpOp_buildS, Go.Abs.sBS_2, Go.Abs.sLoad_cell, ↓Go.Abs.wpOp_app, ↓Go.Abs.wpOp_slice, ↓Go.Abs.wpOp_mn, ↓Go.Abs.wpOp_mx, Go.Abs.sMin_int, Go.Abs.sMax_int, Go.Abs.sBS_0, Go.Abs.sBS_1, Go.Abs.andT_some, ↓Go.Abs.wp_loopT, Go.Abs.sb_none, Go.Abs.sb_some, Int.reduceBEq, Int.reduceBNe, Int.reduceLT, Int.reduceLE, Int.reduceAdd, Int.reduceSub, Int.reduceMul, decide_true, decide_false, Bool.not_true, Bool.not_false, beq_self_eq_true, bne_self_eq_false, ↓Go.Abs.wpOp_slice3, and_self, Go.Abs.gT_t, Go.Abs.gT_f, Go.Abs.gT_u]
        refine ⟨_, ?_, w + 1, _, _, _, _, _, _, _, _, _, _, _, _, rfl, ?_, rfl⟩
        · omega
        omega
      · simp (disch := first | (simp only [Nat.reduceBEq, Go.Abs.elem_hit, Go.Abs.elem_miss, Go.Abs.elem_nil]; done) | omega) only [e2, Go.Abs.wrap_i64, Go.Abs.idx?_pos, Int.toNat_natCast, ↓Go.Abs.wpG_none, ↓Go.Abs.wpG_true, ↓Go.Abs.wpG_false, ↓Go.Abs.wpOps_nil, ↓Go.Abs.wpOps_cons, ↓Go.Abs.sput_some, ↓Go.Abs.sput_none, ↓Go.Abs.sev_t, ↓Go.Abs.sev_c, ↓Go.Abs.look_nil, ↓Go.Abs.look_miss, ↓Go.Abs.lkF_miss, ↓Go.Abs.lkF_nil, ↓Go.Abs.setF_miss, ↓Go.Abs.commitS_nil, ↓Go.Abs.commitS_in, ↓Go.Abs.commitS_out, ↓Go.Abs.wp_skip, ↓Go.Abs.wp_ops, ↓Go.Abs.wp_seq, ↓Go.Abs.wp_cond, ↓Go.Abs.wp_block, ↓Go.Abs.wp_exit, ↓Go.Abs.wp_ret, ↓Go.Abs.onEx_normal, ↓Go.Abs.onEx_exit, ↓Go.Abs.onEx_ret, ↓Go.Abs.onBlk_normal, ↓Go.Abs.onBlk_ret, ↓Go.Abs.onBlk_miss, ↓Go.Abs.wpOp_call, ↓Go.Abs.wpOp_mov, ↓Go.Abs.wpOp_pick, ↓Go.Abs.wpOp_new, ↓Go.Abs.wpOp_bin, ↓Go.Abs.wpOp_not, ↓Go.Abs.wpOp_neg, ↓Go.Abs.wpOp_conv, ↓Go.Abs.wpOp_ext, ↓Go.Abs.wpOp_lenS, ↓Go.Abs.look_hit, ↓Go.Abs.lkF_hit, ↓Go.Abs.setF_hit, ↓Go.Abs.onBlk_hit, Go.Abs.andThen_some, Go.Abs.andThen_none, Go.Abs.setF_nil, Go.Abs.sNot_bool, Go.Abs.sNeg_int, Go.Abs.sConv_int, Go.Abs.sExt_tu, Go.Abs.sLen_sl, Go.Abs.sLen_nil, Go.Abs.sLen_esl, Go.Abs.sBin_lss, Go.Abs.sBin_leq, Go.Abs.sBin_gtr, Go.Abs.sBin_geq, Go.Abs.sBin_eql, Go.Abs.sBin_neq, Go.Abs.sBin_add, Go.Abs.sBin_sub, Go.Abs.sBin_mul, Go.Abs.sresVs_nil, Go.Abs.sresVs_tmp, Go.Abs.elem_hit, Go.Abs.elem_miss, Go.Abs.elem_nil, Go.Abs.initS_nil, Go.Abs.initS_cons, Option.map_some, Option.map_none, List.map_cons, List.map_nil, List.nil_append, List.append_nil, List.cons_append, Nat.reduceBEq, List.getElem?_cons_zero, List.getElem?_cons_succ, List.getElem?_nil, Option.getD_some, Option.getD_none, Go.Abs.ifThen_true, Go.Abs.ifThen_false, Go.Abs.resOf, Go.Abs.leave, cond_false, cond_true, and_true, true_and, ↓Go.Abs.wpOp_load, ↓Go.Abs.wpOp_ixS, Go.Abs.idx?_nat, Go.Abs.sLoad_ptr, ↓Go.Abs.wpOp_mks, ↓Go.Abs.wpOp_store, Go.Abs.int?_int, Go.Abs.sStore_int, Nat.zero_add, Nat.mul_one, ↓Go.Abs.wpOp_buildS, Go.Abs.sBS_2, Go.Abs.sLoad_cell, ↓Go.Abs.wpOp_app, ↓Go.Abs.wpOp_slice, ↓Go.Abs.wpOp_mn, ↓Go.Abs.wpOp_mx, Go.Abs.sMin_int, Go.Abs.sMax_int, Go.Abs.sBS_0, Go.Abs.sBS_1, Go.Abs.andT_some, ↓Go.Abs.wp_loopT, Go.Abs.sb_none, Go.Abs.sb_some, Int.reduceBEq, Int.reduceBNe, Int.reduceLT, Int.reduceLE, Int.reduceAdd, Int.reduceSub, Int.reduceMul, decide_true, decide_false, Bool.not_true, Bool.not_false, beq_self_eq_true, bne_self_eq_false, ↓Go.Abs.wpOp_slice3, and_self, Go.Abs.gT_t, Go.Abs.gT_f, Go.Abs.gT_u]
        refine wloop (fun mm ss => ∃ (x : Nat) (u0 u5 u6 u7 u8 u10 u35 u41 u86 u102 u114 u117 u151 : AV), (mm = i - x) ∧ (x + 1 ≤ i) ∧ ss = { fr := [(0, u0), (2, .bool false), (3, .int .i64 i), (4, v), (5, u5), (6, u6), (7, u7), (8, u8), (9, .int .i64 (x + 1 : Nat)), (10, u10), (35, u35), (41, u41), (86, u86), (102, u102), (114, u114), (117, u117), (151, u151)], hp := h2 }) (i) ?_ ?_
        ·
          refine ⟨0, _, _, _, _, _, _, _, _, _, _, _, _, _, rfl, hmb.1, rfl⟩
        rintro nC sC ⟨x, u0, u5, u6, u7, u8, u10, u35, u41, u86, u102, u114, u117, u151, hnC, hx, rfl⟩
        simp (disch := first | (simp only [Nat.reduceBEq, Go.Abs.elem_hit, Go.Abs.elem_miss, Go.Abs.elem_nil]; done) | omega) only [Go.Abs.wrap_i64, Go.Abs.idx?_pos, Int.toNat_natCast, ↓Go.Abs.wpG_none, ↓Go.Abs.wpG_true, ↓Go.Abs.wpG_false, ↓Go.Abs.wpOps_nil, ↓Go.Abs.wpOps_cons, ↓Go.Abs.sput_some, ↓Go.Abs.sput_none, ↓Go.Abs.sev_t, ↓Go.Abs.sev_c, ↓Go.Abs.look_nil, ↓Go.Abs.look_miss, ↓Go.Abs.lkF_miss, ↓Go.Abs.lkF_nil, ↓Go.Abs.setF_miss, ↓Go.Abs.commitS_nil, ↓Go.Abs.commitS_in, ↓Go.Abs.commitS_out, ↓Go.Abs.wp_skip, ↓Go.Abs.wp_ops, ↓Go.Abs.wp_seq, ↓Go.Abs.wp_cond, ↓Go.Abs.wp_block, ↓Go.Abs.wp_exit, ↓Go.Abs.wp_ret, ↓Go.Abs.onEx_normal, ↓Go.Abs.onEx_exit, ↓Go.Abs.onEx_ret, ↓Go.Abs.onBlk_normal, ↓Go.Abs.onBlk_ret, ↓Go.Abs.onBlk_miss, ↓Go.Abs.wpOp_call, ↓Go.Abs.wpOp_mov, ↓Go.Abs.wpOp_pick, ↓Go.Abs.wpOp_new, ↓Go.Abs.wpOp_bin, ↓Go.Abs.wpOp_not, ↓Go.Abs.wpOp_neg, ↓Go.Abs.wpOp_conv, ↓Go.Abs.wpOp_ext, ↓Go.Abs.wpOp_lenS, ↓Go.Abs.look_hit, ↓Go.Abs.lkF_hit, ↓Go.Abs.setF_hit, ↓Go.Abs.onBlk_hit, Go.Abs.andThen_some, Go.Abs.andThen_none, Go.Abs.setF_nil, Go.Abs.sNot_bool, Go.Abs.sNeg_int, Go.Abs.sConv_int, Go.Abs.sExt_tu, Go.Abs.sLen_sl, Go.Abs.sLen_nil, Go.Abs.sLen_esl, Go.Abs.sBin_lss, Go.Abs.sBin_leq, Go.Abs.sBin_gtr, Go.Abs.sBin_geq, Go.Abs.sBin_eql, Go.Abs.sBin_neq, Go.Abs.sBin_add, Go.Abs.sBin_sub, Go.Abs.sBin_mul, Go.Abs.sresVs_nil, Go.Abs.sresVs_tmp, Go.Abs.elem_hit, Go.Abs.elem_miss, Go.Abs.elem_nil, Go.Abs.initS_nil, Go.Abs.initS_cons, Option.map_some, Option.map_none, List.map_cons, List.map_nil, List.nil_append, List.append_nil, List.cons_append, Nat.reduceBEq, List.getElem?_cons_zero, List.getElem?_cons_succ, List.getElem?_nil, Option.getD_some, Option.getD_none, Go.Abs.ifThen_true, Go.Abs.ifThen_false, Go.Abs.resOf, Go.Abs.leave, cond_false, cond_true, and_true, true_and, ↓Go.Abs.wpOp_load, ↓Go.Abs.wpOp_ixS, Go.Abs.idx?_nat, Go.Abs.sLoad_ptr, ↓Go.Abs.wpOp_mks, ↓Go.Abs.wpOp_store, Go.Abs.int?_int, Go.Abs.sStore_int, Nat.zero_add, Nat.mul_one, ↓Go.Abs.wpOp_buildS, Go.Abs.sBS_2, Go.Abs.sLoad_cell, ↓Go.Abs.wpOp_app, ↓Go.Abs.wpOp_slice, ↓Go.Abs.wpOp_mn, ↓Go.Abs.wpOp_mx, Go.Abs.sMin_int, Go.Abs.sMax_int, Go.Abs.sBS_0, Go.Abs.sBS_1, Go.Abs.andT_some, ↓Go.Abs.wp_loopT, Go.Abs.sb_none, Go.Abs.sb_some, Int.reduceBEq, Int.reduceBNe, Int.reduceLT, Int.reduceLE, Int.reduceAdd, Int.reduceSub, Int.reduceMul, decide_true, decide_false, Bool.not_true, Bool.not_false, beq_self_eq_true, bne_self_eq_false, ↓Go.Abs.wpOp_slice3, and_self, Go.Abs.gT_t, Go.Abs.gT_f, Go.Abs.gT_u]
        refine Go.Abs.ifThen_intro (fun e3 => ?_) (fun e3 => ?_)
        · have e3q : x + 1 < i := by
            have : ((x + 1 : Nat) : Int) < i := by simpa only [decide_eq_true_eq] using e3
            omega
          have Q := GPk (show 1 ≤ x + 1 by omega)
          have Q1 := Q.pos
          have Q2 := Q.le
          have R := GPk Q1
          have R1 := R.pos
          have R2 := R.le
          have gx := gl_get (n := i) (i := x) (by omega)
          have ggx := gl_get (n := i) (i := G (x + 1) - 1) (by omega)
          rw [show G (x + 1) - 1 + 1 = G (x + 1) by omega] at ggx
          have tx : (((x + 1 : Nat) : Int) - 1).toNat = x := by omega
          have tgx : (((G (x + 1) : Nat) : Int) - 1).toNat = G (x + 1) - 1 := by omega
          obtain ⟨at', hat⟩ : ∃ at', at' = x + 1 + 1 - G (G (x + 1)) := ⟨_, rfl⟩
          have hatI : ((x + 1 : Nat) : Int) + 1 - ((G (G (x + 1)) : Nat) : Int) = (at' : Int) := by omega
          have c1 : decide ((at' : Int) < 1) = false := by simp only [decide_eq_false_iff_not]; omega
          have c2 : decide ((i : Int) < (at' : Int)) = false := by simp only [decide_eq_false_iff_not]; omega
          have gx1 := gl_get e3q
          have ga := gl_get (n := i) (i := at' - 1) (by omega)
          rw [show at' - 1 + 1 = at' by omega] at ga
          have ta : ((at' : Int) - 1).toNat = at' - 1 := by omega
          have W := (GPk (show 1 ≤ at' by omega)).le
          have hr := G_rec (show 1 ≤ x + 1 by omega)
          rw [← hat] at hr
          have c3 : (((G (x + 1 + 1) : Nat) : Int) != 1 + ((G at' : Nat) : Int)) = false := by
            simp only [bne_eq_false_iff_eq]
            omega
          simp (disch := first | (simp only [Nat.reduceBEq, Go.Abs.elem_hit, Go.Abs.elem_miss, Go.Abs.elem_nil]; done) | omega) only [e3, tx, iv2.ix, iv2.ld, gx, tgx, ggx, hatI, c1, c2, gx1, ta, ga, c3, Go.Abs.wrap_i64, Go.Abs.idx?_pos, Int.toNat_natCast, ↓Go.Abs.wpG_none, ↓Go.Abs.wpG_true, ↓Go.Abs.wpG_false, ↓Go.Abs.wpOps_nil, ↓Go.Abs.wpOps_cons, ↓Go.Abs.sput_some, ↓Go.Abs.sput_none, ↓Go.Abs.sev_t, ↓Go.Abs.sev_c, ↓Go.Abs.look_nil, ↓Go.Abs.look_miss, ↓Go.Abs.lkF_miss, ↓Go.Abs.lkF_nil, ↓Go.Abs.setF_miss, ↓Go.Abs.commitS_nil, ↓Go.Abs.commitS_in, ↓Go.Abs.commitS_out, ↓Go.Abs.wp_skip, ↓Go.Abs.wp_ops, ↓Go.Abs.wp_seq, ↓Go.Abs.wp_cond, ↓Go.Abs.wp_block, ↓Go.Abs.wp_exit, ↓Go.Abs.wp_ret, ↓Go.Abs.onEx_normal, ↓Go.Abs.onEx_exit, ↓Go.Abs.onEx_ret, ↓Go.Abs.onBlk_normal, ↓Go.Abs.onBlk_ret, ↓Go.Abs.onBlk_miss, ↓Go.Abs.wpOp_call, ↓Go.Abs.wpOp_mov, ↓Go.Abs.wpOp_pick, ↓Go.Abs.wpOp_new, ↓Go.Abs.wpOp_bin, ↓Go.Abs.wpOp_not, ↓Go.Abs.wpOp_neg, ↓Go.Abs.wpOp_conv, ↓Go.Abs.wpOp_ext, ↓Go.Abs.wpOp_lenS, ↓Go.Abs.look_hit, ↓Go.Abs.lkF_hit, ↓Go.Abs.setF_hit, ↓Go.Abs.onBlk_hit, Go.Abs.andThen_some, Go.Abs.andThen_none, Go.Abs.setF_nil, Go.Abs.sNot_bool, Go.Abs.sNeg_int, Go.Abs.sConv_int, Go.Abs.sExt_tu, Go.Abs.sLen_sl, Go.Abs.sLen_nil, Go.Abs.sLen_esl, Go.Abs.sBin_lss, Go.Abs.sBin_leq, Go.Abs.sBin_gtr, Go.Abs.sBin_geq, Go.Abs.sBin_eql, Go.Abs.sBin_neq, Go.Abs.sBin_add, Go.Abs.sBin_sub, Go.Abs.sBin_mul, Go.Abs.sresVs_nil, Go.Abs.sresVs_tmp, Go.Abs.elem_hit, Go.Abs.elem_miss, Go.Abs.elem_nil, Go.Abs.initS_nil, Go.Abs.initS_cons, Option.map_some, Option.map_none, List.map_cons, List.map_nil, List.nil_append, List.append_nil, List.cons_append, Nat.reduceBEq, List.getElem?_cons_zero, List.getElem?_cons_succ, List.getElem?_nil, Option.getD_some, Option.getD_none, Go.Abs.ifThen_true, Go.Abs.ifThen_false, Go.Abs.resOf, Go.Abs.leave, cond_false, cond_true, and_true, true_and, ↓Go.Abs.wpOp_load, ↓Go.Abs.wpOp_ixS, Go.Abs.idx?_nat, Go.Abs.sLoad_ptr, ↓Go.Abs.wpOp_mks, ↓Go.Abs.wpOp_store, Go.Abs.int?_int, Go.Abs.sStore_int, Nat.zero_add, Nat.mul_one, ↓Go.Abs.wpOp_buildS, Go.Abs.sBS_2, Go.Abs.sLoad_cell, ↓Go.Abs.wpOp_app, ↓Go.Abs.wpOp_slice, ↓Go.Abs.wpOp_mn, ↓Go.Abs.wpOp_mx, Go.Abs.sMin_int, Go.Abs.sMax_int, Go.Abs.sBS_0, Go.Abs.sBS_1, Go.Abs.andT_some, ↓Go.Abs.wp_loopT, Go.Abs.sb_none, Go.Abs.sb_some, Int.reduceBEq, Int.reduceBNe, Int.reduceLT, Int.reduceLE, Int.reduceAdd, Int.reduceSub, Int.reduceMul, decide_true, decide_false, Bool.not_true, Bool.not_false, beq_self_eq_true, bne_self_eq_false, ↓Go.Abs.wpOp_slice3, and_self, Go.Abs.gT_t, Go.Abs.gT_f, Go.Abs.gT_u]
          refine ⟨_, ?_, x + 1, _, _, _, _, _, _, _, _, _, _, _, _, _, rfl, ?_, rfl⟩
          · omega
          omega
        · simp (disch := first | (simp only [Nat.reduceBEq, Go.Abs.elem_hit, Go.Abs.elem_miss, Go.Abs.elem_nil]; done) | omega) only [e3, Go.Abs.wrap_i64, Go.Abs.idx?_pos, Int.toNat_natCast, ↓Go.Abs.wpG_none, ↓Go.Abs.wpG_true, ↓Go.Abs.wpG_false, ↓Go.Abs.wpOps_nil, ↓Go.Abs.wpOps_cons, ↓Go.Abs.sput_some, ↓Go.Abs.sput_none, ↓Go.Abs.sev_t, ↓Go.Abs.sev_c, ↓Go.Abs.look_nil, ↓Go.Abs.look_miss, ↓Go.Abs.lkF_miss, ↓Go.Abs.lkF_nil, ↓Go.Abs.setF_miss, ↓Go.Abs.commitS_nil, ↓Go.Abs.commitS_in, ↓Go.Abs.commitS_out, ↓Go.Abs.wp_skip, ↓Go.Abs.wp_ops, ↓Go.Abs.wp_seq, ↓Go.Abs.wp_cond, ↓Go.Abs.wp_block, ↓Go.Abs.wp_exit, ↓Go.Abs.wp_ret, ↓Go.Abs.onEx_normal, ↓Go.Abs.onEx_exit, ↓Go.Abs.onEx_ret, ↓Go.Abs.onBlk_normal, ↓Go.Abs.onBlk_ret, ↓Go.Abs.onBlk_miss, ↓Go.Abs.wpOp_call, ↓Go.Abs.wpOp_mov, ↓Go.Abs.wpOp_pick, ↓Go.Abs.wpOp_new, ↓Go.Abs.wpOp_bin, ↓Go.Abs.wpOp_not, ↓Go.Abs.wpOp_neg, ↓Go.Abs.wpOp_conv, ↓Go.Abs.wpOp_ext, ↓Go.Abs.wpOp_lenS, ↓Go.Abs.look_hit, ↓Go.Abs.lkF_hit, ↓Go.Abs.setF_hit, ↓Go.Abs.onBlk_hit, Go.Abs.andThen_some, Go.Abs.andThen_none, Go.Abs.setF_nil, Go.Abs.sNot_bool, Go.Abs.sNeg_int, Go.Abs.sConv_int, Go.Abs.sExt_tu, Go.Abs.sLen_sl, Go.Abs.sLen_nil, Go.Abs.sLen_esl, Go.Abs.sBin_lss, Go.Abs.sBin_leq, Go.Abs.sBin_gtr, Go.Abs.sBin_geq, Go.Abs.sBin_eql, Go.Abs.sBin_neq, Go.Abs.sBin_add, Go.Abs.sBin_sub, Go.Abs.sBin_mul, Go.Abs.sresVs_nil, Go.Abs.sresVs_tmp, Go.Abs.elem_hit, Go.Abs.elem_miss, Go.Abs.elem_nil, Go.Abs.initS_nil, Go.Abs.initS_cons, Option.map_some, Option.map_none, List.map_cons, List.map_nil, List.nil_append, List.append_nil, List.cons_append, Nat.reduceBEq, List.getElem?_cons_zero, List.getElem?_cons_succ, List.getElem?_nil, Option.getD_some, Option.getD_none, Go.Abs.ifThen_true, Go.Abs.ifThen_false, Go.Abs.resOf, Go.Abs.leave, cond_false, cond_true, and_true, true_and, ↓Go.Abs.wpOp_load, ↓Go.Abs.wpOp_ixS, Go.Abs.idx?_nat, Go.Abs.sLoad_ptr, ↓Go.Abs.wpOp_mks, ↓Go.Abs.wpOp_store, Go.Abs.int?_int, Go.Abs.sStore_int, Nat.zero_add, Nat.mul_one, ↓Go.Abs.wpOp_buildS, Go.Abs.sBS_2, Go.Abs.sLoad_cell, ↓Go.Abs.wpOp_app, ↓Go.Abs.wpOp_slice, ↓Go.Abs.wpOp_mn, ↓Go.Abs.wpOp_mx, Go.Abs.sMin_int, Go.Abs.sMax_int, Go.Abs.sBS_0, Go.Abs.sBS_1, Go.Abs.andT_some, ↓Go.Abs.wp_loopT, Go.Abs.sb_none, Go.Abs.sb_some, Int.reduceBEq, Int.reduceBNe, Int.reduceLT, Int.reduceLE, Int.reduceAdd, Int.reduceSub, Int.reduceMul, decide_true, decide_false, Bool.not_true, Bool.not_false, beq_self_eq_true, bne_self_eq_false, ↓Go.Abs.wpOp_slice3, and_self, Go.Abs.gT_t, Go.Abs.gT_f, Go.Abs.gT_u]
          exact ⟨_, rfl, rfl⟩)
  obtain ⟨r, h', ev, rfl⟩ := this
  exact ⟨h', ev⟩

end Go.Proofs.Ytogfojkjocbahaa
