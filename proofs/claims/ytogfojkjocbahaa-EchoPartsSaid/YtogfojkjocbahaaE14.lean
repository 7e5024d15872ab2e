/- The laws EchoDerived and EchoExtended. -/
import Derived.Test.YtogfojkjocbahaaE13
set_option linter.unusedSimpArgs false
set_option linter.unusedVariables false
set_option maxHeartbeats 4000000
set_option maxRecDepth 100000
namespace Go.Proofs.Ytogfojkjocbahaa
open Go Go.Abs

theorem wrong_ot {ys : List Int} {most : Nat} (h : ot ys) (hl : ys.length ≤ most) : wrong ys most 2 = 0 := by
  have : ys.all (fun z => decide (1 ≤ z ∧ z ≤ 2)) = true := by
    rw [List.all_eq_true]
    intro z hz
    have := h z hz
    simp
    omega
  rw [wrong, if_neg (by omega), if_pos this]

theorem deriv_ot {ys d : List Int} (h : deriv ys = some d) : ot d := by
  unfold deriv at h
  split at h
  · rename_i hl
    cases h
    have h1 := ot_trimL (ot_trim (runs_isRuns ys ys.length).1 hl)
    intro z hz
    unfold trimR at hz
    split at hz
    · exact h1 z (List.mem_of_mem_take hz)
    · exact h1 z hz
  · cases h

theorem f9 (a : AV) (zs : List Int) (h : Hp) (hok : Hok h) (A : ArgK .u8 h.blks a zs) : ∃ h', Evals Try.prog tab false (.func 9) [a] h (.bool true, h') := by
  have := evals_func (T := tab) (g := false) (Q := fun r h' => r = .bool true) c9 (args := [a]) (h := h) rfl (by
    obtain ⟨v, h1, ys, ev1, o1, g1, hot, hsm, hlen⟩ := f33 a zs 100 { h with base := h.next, esc := false } hok A (by omega)
    have hok1 : Hok h1 := g1.ok hok
    have hw := wrong_ot (most := 200) hot (by omega)
    obtain ⟨dv, h2, ev2, g2, hd⟩ := f25 v ys h1 hok1 o1.ints (by omega)
    have hok2 := g2.ok hok1
    have i2 := o1.ints.grown hok1 g2
    obtain ⟨h3, ev3, g3⟩ := f27 v ys h2 hok2 i2 (by omega)
    have hok3 := g3.ok hok2
    obtain ⟨d, hdd, hsd⟩ : ∃ d, deriv ys = some d ∧ sm d := by
      by_cases hy : ys = []
      · subst hy
        exact ⟨[], by simp [deriv, runsUpto, trimL, trimR], sm_nil⟩
      · rw [sm_iff hy] at hsm
        exact ⟨_, deriv_some hsm.1, hsm.2⟩
    have hdl : d.length ≤ 100 := by
      by_cases hy : ys = []
      · subst hy
        simp [deriv, runsUpto, trimL, trimR] at hdd
        subst hdd
        simp
      · have := deriv_len hy hdd
        omega
    have hwd := wrong_ot (most := 200) (deriv_ot hdd) (by omega)
    rw [hw, if_pos rfl, hdd] at hd
    have id3 := hd.1.grown hok2 g3
    obtain ⟨h4, ev4, g4⟩ := f26 dv d h3 hok3 id3 (by omega)
    have hok4 := g4.ok hok3
    obtain ⟨h5, ev5, g5⟩ := f27 dv d h4 hok4 (id3.grown hok3 g4) (by omega)
    have e1 : errOf 0 true = 0 := by simp [errOf]
    rw [hw, hdd] at ev2
    rw [hw, if_pos rfl] at ev3
    rw [hwd] at ev4
    rw [hwd, if_pos rfl] at ev5
    obtain ⟨k, hk⟩ : ∃ k, height d = some k := Option.isSome_iff_exists.1 hsd
    rw [hk] at ev4 ev5
    simp only [Option.isSome_some, e1, Option.getD_some, decide_true, Bool.true_and] at ev2 ev3 ev4 ev5
    simp only [sf9, initS_cons, initS_nil]
    by_cases hy : ys = []
    · subst hy
      have hd0 : d = [] := by
        simp [deriv, runsUpto, trimL, trimR] at hdd
        exact hdd
      subst hd0
      have hk0 : k = 0 := by
        rw [height_nil] at hk
        exact (Option.some.inj hk).symm
      subst hk0
      rw [height_nil] at ev3
      simp only [Option.isSome_some, e1, Option.getD_some] at ev3
      simp (disch := first | (simp only [Nat.reduceBEq, Go.Abs.elem_hit, Go.Abs.elem_miss, Go.Abs.elem_nil]; done) | omega) only [show (AV.int .i64 100) = .int .i64 ((100 : Nat) : Int) from rfl, callT ev1, callT ev2, callT ev3, callT ev4, callT ev5, o1.ints.len, hd.1.len, List.length_nil, show ((0 : Nat) : Int) = 0 from rfl, callT (f16 _), Go.Abs.wrap_i64, Go.Abs.idx?_pos, Int.toNat_natCast, ↓Go.Abs.wpG_none, ↓Go.Abs.wpG_true, ↓Go.Abs.wpG_false, ↓Go.Abs.wpOps_nil, ↓Go.Abs.wpOps_cons, ↓Go.Abs.sput_some, ↓Go.Abs.sput_none, ↓Go.Abs.sev_t, ↓Go.Abs.sev_c, ↓Go.Abs.look_nil, ↓Go.Abs.look_miss, ↓Go.Abs.lkF_miss, ↓Go.Abs.lkF_nil, ↓Go.Abs.setF_miss, ↓Go.Abs.commitS_nil, ↓Go.Abs.commitS_in, ↓Go.Abs.commitS_out, ↓Go.Abs.wp_skip, ↓Go.Abs.wp_ops, ↓Go.Abs.wp_seq, ↓Go.Abs.wp_cond, ↓Go.Abs.wp_block, ↓Go.Abs.wp_exit, ↓Go.Abs.wp_ret, ↓Go.Abs.onEx_normal, ↓Go.Abs.onEx_exit, ↓Go.Abs.onEx_ret, ↓Go.Abs.onBlk_normal, ↓Go.Abs.onBlk_ret, ↓Go.Abs.onBlk_miss, ↓Go.Abs.wpOp_call, ↓Go.Abs.wpOp_mov, ↓Go.Abs.wpOp_pick, ↓Go.Abs.wpOp_new, ↓Go.Abs.wpOp_bin, ↓Go.Abs.wpOp_not, ↓Go.Abs.wpOp_neg, ↓Go.Abs.wpOp_conv, ↓Go.Abs.wpOp_ext, ↓Go.Abs.wpOp_lenS, ↓Go.Abs.look_hit, ↓Go.Abs.lkF_hit, ↓Go.Abs.setF_hit, ↓Go.Abs.onBlk_hit, Go.Abs.andThen_some, Go.Abs.andThen_none, Go.Abs.setF_nil, Go.Abs.sNot_bool, Go.Abs.sNeg_int, Go.Abs.sConv_int, Go.Abs.sExt_tu, Go.Abs.sLen_sl, Go.Abs.sLen_nil, Go.Abs.sLen_esl, Go.Abs.sBin_lss, Go.Abs.sBin_leq, Go.Abs.sBin_gtr, Go.Abs.sBin_geq, Go.Abs.sBin_eql, Go.Abs.sBin_neq, Go.Abs.sBin_add, Go.Abs.sBin_sub, Go.Abs.sBin_mul, Go.Abs.sresVs_nil, Go.Abs.sresVs_tmp, Go.Abs.elem_hit, Go.Abs.elem_miss, Go.Abs.elem_nil, Go.Abs.initS_nil, Go.Abs.initS_cons, Option.map_some, Option.map_none, List.map_cons, List.map_nil, List.nil_append, List.append_nil, List.cons_append, Nat.reduceBEq, List.getElem?_cons_zero, List.getElem?_cons_succ, List.getElem?_nil, Option.getD_some, Option.getD_none, Go.Abs.ifThen_true, Go.Abs.ifThen_false, Go.Abs.resOf, Go.Abs.leave, cond_false, cond_true, and_true, true_and, ↓Go.Abs.wpOp_load, ↓Go.Abs.wpOp_ixS, Go.Abs.idx?_nat, Go.Abs.sLoad_ptr, ↓Go.Abs.wpOp_mks, ↓Go.Abs.wpOp_store, Go.Abs.int?_int, Go.Abs.sStore_int, Nat.zero_add, Nat.mul_one, ↓Go.Abs.wpOp_buildS, Go.Abs.sBS_2, Go.Abs.sLoad_cell, ↓Go.Abs.wpOp_app, ↓Go.Abs.wpOp_slice, ↓Go.Abs.wpOp_mn, ↓Go.Abs.wpOp_mx, Go.Abs.sMin_int, Go.Abs.sMax_int, Go.Abs.sBS_0, Go.Abs.sBS_1, Go.Abs.andT_some, ↓Go.Abs.wp_loopT, Go.Abs.sb_none, Go.Abs.sb_some, Int.reduceBEq, Int.reduceBNe, Int.reduceLT, Int.reduceLE, Int.reduceAdd, Int.reduceSub, Int.reduceMul, decide_true, decide_false, Bool.not_true, Bool.not_false, beq_self_eq_true, bne_self_eq_false, ↓Go.Abs.wpOp_slice3, and_self, Go.Abs.gT_t, Go.Abs.gT_f, Go.Abs.gT_u]
      trace_state
      exact ⟨_, rfl, rfl⟩
    · have hks := height_some hy hdd
      rw [hk] at hks
      rw [hks] at ev3
      simp only [Option.isSome_some, e1, Option.getD_some, Option.map_some] at ev3
      have hl0 := List.length_pos_iff.2 hy
      have hlt := deriv_len hy hdd
      have hA : ((ys.length : Int) == 0) = false := by simp only [beq_eq_false_iff_ne]; omega
      have hB : decide (0 < (ys.length : Int)) = true := by simp only [decide_eq_true_eq]; omega
      have hC : decide ((d.length : Int) < ys.length) = true := by simp only [decide_eq_true_eq]; omega
      have hk1 : k ≤ 1000 := by
        have : ∀ (f : Nat) (zs : List Int) (m : Nat), hgt f zs = some m → m ≤ f := by
          intro f
          induction f with
          | zero =>
            intro zs m hm
            cases zs with
            | nil => simp [hgt] at hm; omega
            | cons => simp [hgt] at hm
          | succ f ih =>
            intro zs m hm
            cases zs with
            | nil => simp [hgt] at hm; omega
            | cons z zs =>
              simp only [hgt] at hm
              cases hq : deriv (z :: zs) with
              | none => rw [hq] at hm; cases hm
              | some q =>
                rw [hq] at hm
                simp only [Option.map_eq_some_iff] at hm
                obtain ⟨x, hx, rfl⟩ := hm
                have := ih _ _ hx
                omega
        have := this _ _ _ hk
        omega
      have hD : ((k : Int) == ((k + 1 : Nat) : Int) - 1) = true := by simp only [beq_iff_eq]; omega
      simp (disch := first | (simp only [Nat.reduceBEq, Go.Abs.elem_hit, Go.Abs.elem_miss, Go.Abs.elem_nil]; done) | omega) only [show (AV.int .i64 100) = .int .i64 ((100 : Nat) : Int) from rfl, callT ev1, callT ev2, callT ev3, callT ev4, callT ev5, o1.ints.len, hd.1.len, hA, hB, hC, hD, callT (f16 _), Go.Abs.wrap_i64, Go.Abs.idx?_pos, Int.toNat_natCast, ↓Go.Abs.wpG_none, ↓Go.Abs.wpG_true, ↓Go.Abs.wpG_false, ↓Go.Abs.wpOps_nil, ↓Go.Abs.wpOps_cons, ↓Go.Abs.sput_some, ↓Go.Abs.sput_none, ↓Go.Abs.sev_t, ↓Go.Abs.sev_c, ↓Go.Abs.look_nil, ↓Go.Abs.look_miss, ↓Go.Abs.lkF_miss, ↓Go.Abs.lkF_nil, ↓Go.Abs.setF_miss, ↓Go.Abs.commitS_nil, ↓Go.Abs.commitS_in, ↓Go.Abs.commitS_out, ↓Go.Abs.wp_skip, ↓Go.Abs.wp_ops, ↓Go.Abs.wp_seq, ↓Go.Abs.wp_cond, ↓Go.Abs.wp_block, ↓Go.Abs.wp_exit, ↓Go.Abs.wp_ret, ↓Go.Abs.onEx_normal, ↓Go.Abs.onEx_exit, ↓Go.Abs.onEx_ret, ↓Go.Abs.onBlk_normal, ↓Go.Abs.onBlk_ret, ↓Go.Abs.onBlk_miss, ↓Go.Abs.wpOp_call, ↓Go.Abs.wpOp_mov, ↓Go.Abs.wpOp_pick, ↓Go.Abs.wpOp_new, ↓Go.Abs.wpOp_bin, ↓Go.Abs.wpOp_not, ↓Go.Abs.wpOp_neg, ↓Go.Abs.wpOp_conv, ↓Go.Abs.wpOp_ext, ↓Go.Abs.wpOp_lenS, ↓Go.Abs.look_hit, ↓Go.Abs.lkF_hit, ↓Go.Abs.setF_hit, ↓Go.Abs.onBlk_hit, Go.Abs.andThen_some, Go.Abs.andThen_none, Go.Abs.setF_nil, Go.Abs.sNot_bool, Go.Abs.sNeg_int, Go.Abs.sConv_int, Go.Abs.sExt_tu, Go.Abs.sLen_sl, Go.Abs.sLen_nil, Go.Abs.sLen_esl, Go.Abs.sBin_lss, Go.Abs.sBin_leq, Go.Abs.sBin_gtr, Go.Abs.sBin_geq, Go.Abs.sBin_eql, Go.Abs.sBin_neq, Go.Abs.sBin_add, Go.Abs.sBin_sub, Go.Abs.sBin_mul, Go.Abs.sresVs_nil, Go.Abs.sresVs_tmp, Go.Abs.elem_hit, Go.Abs.elem_miss, Go.Abs.elem_nil, Go.Abs.initS_nil, Go.Abs.initS_cons, Option.map_some, Option.map_none, List.map_cons, List.map_nil, List.nil_append, List.append_nil, List.cons_append, Nat.reduceBEq, List.getElem?_cons_zero, List.getElem?_cons_succ, List.getElem?_nil, Option.getD_some, Option.getD_none, Go.Abs.ifThen_true, Go.Abs.ifThen_false, Go.Abs.resOf, Go.Abs.leave, cond_false, cond_true, and_true, true_and, ↓Go.Abs.wpOp_load, ↓Go.Abs.wpOp_ixS, Go.Abs.idx?_nat, Go.Abs.sLoad_ptr, ↓Go.Abs.wpOp_mks, ↓Go.Abs.wpOp_store, Go.Abs.int?_int, Go.Abs.sStore_int, Nat.zero_add, Nat.mul_one, ↓Go.Abs.wpOp_buildS, Go.Abs.sBS_2, Go.Abs.sLoad_cell, ↓Go.Abs.wpOp_app, ↓Go.Abs.wpOp_slice, ↓Go.Abs.wpOp_mn, ↓Go.Abs.wpOp_mx, Go.Abs.sMin_int, Go.Abs.sMax_int, Go.Abs.sBS_0, Go.Abs.sBS_1, Go.Abs.andT_some, ↓Go.Abs.wp_loopT, Go.Abs.sb_none, Go.Abs.sb_some, Int.reduceBEq, Int.reduceBNe, Int.reduceLT, Int.reduceLE, Int.reduceAdd, Int.reduceSub, Int.reduceMul, decide_true, decide_false, Bool.not_true, Bool.not_false, beq_self_eq_true, bne_self_eq_false, ↓Go.Abs.wpOp_slice3, and_self, Go.Abs.gT_t, Go.Abs.gT_f, Go.Abs.gT_u]
      exact ⟨_, rfl, rfl⟩)
  obtain ⟨r, h', ev, rfl⟩ := this
  exact ⟨h', ev⟩

end Go.Proofs.Ytogfojkjocbahaa
