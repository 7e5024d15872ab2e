/- The rules of simp, put together. -/
import Derived.Test.YthalpbiifpfagaaSV
set_option linter.unusedSimpArgs false
set_option linter.unusedVariables false
set_option maxRecDepth 10000

namespace Go.Abs

theorem wA : type_of%
  (And.intro (And.intro (And.intro (And.intro (And.intro (And.intro @wpG_none @wpG_true) (And.intro @wpG_false @wpOps_nil)) (And.intro (And.intro @wpOps_cons @sput_some) (And.intro @sput_none @sev_t)))
  (And.intro (And.intro (And.intro @sev_c @look_nil) (And.intro @look_miss @lkF_miss)) (And.intro (And.intro @lkF_nil @setF_miss) (And.intro @commitS_nil @commitS_in)))) (And.intro (And.intro (And.intro
  (And.intro @commitS_out @wp_skip) (And.intro @wp_ops @wp_seq)) (And.intro (And.intro @wp_cond @wp_block) (And.intro @wp_exit @wp_ret))) (And.intro (And.intro (And.intro @onEx_normal @onEx_exit)
  (And.intro @onEx_ret @onBlk_normal)) (And.intro (And.intro @onBlk_ret @onBlk_miss) (And.intro @wpOp_call (And.intro @wpOp_mov @wpOp_pick)))))) (And.intro (And.intro (And.intro (And.intro (And.intro
  @wpOp_new @wpOp_bin) (And.intro @wpOp_not @wpOp_neg)) (And.intro (And.intro @wpOp_conv @wpOp_ext) (And.intro @wpOp_lenS @look_hit))) (And.intro (And.intro (And.intro @lkF_hit @setF_hit) (And.intro
  @onBlk_hit @wpOp_load)) (And.intro (And.intro @wpOp_ixS @wpOp_mks) (And.intro @wpOp_store (And.intro @wpOp_buildS @wpOp_app))))) (And.intro (And.intro (And.intro (And.intro @wpOp_slice @wpOp_mn)
  (And.intro @wpOp_mx @wp_loopT)) (And.intro (And.intro @wpOp_slice3 @wpOp_box) (And.intro @wpOp_fa @wpOp_fld))) (And.intro (And.intro (And.intro @wpOp_build @wpOp_mkf) (And.intro @wp_draw
  @wpTrace_nil)) (And.intro (And.intro @wpTrace_cons @wpOp_ixA) (And.intro @wpOp_ix (And.intro @wpOp_arr @wpOp_buildA))))))) :=
  (And.intro (And.intro (And.intro (And.intro (And.intro (And.intro @wpG_none @wpG_true) (And.intro @wpG_false @wpOps_nil)) (And.intro (And.intro @wpOps_cons @sput_some) (And.intro @sput_none @sev_t)))
  (And.intro (And.intro (And.intro @sev_c @look_nil) (And.intro @look_miss @lkF_miss)) (And.intro (And.intro @lkF_nil @setF_miss) (And.intro @commitS_nil @commitS_in)))) (And.intro (And.intro (And.intro
  (And.intro @commitS_out @wp_skip) (And.intro @wp_ops @wp_seq)) (And.intro (And.intro @wp_cond @wp_block) (And.intro @wp_exit @wp_ret))) (And.intro (And.intro (And.intro @onEx_normal @onEx_exit)
  (And.intro @onEx_ret @onBlk_normal)) (And.intro (And.intro @onBlk_ret @onBlk_miss) (And.intro @wpOp_call (And.intro @wpOp_mov @wpOp_pick)))))) (And.intro (And.intro (And.intro (And.intro (And.intro
  @wpOp_new @wpOp_bin) (And.intro @wpOp_not @wpOp_neg)) (And.intro (And.intro @wpOp_conv @wpOp_ext) (And.intro @wpOp_lenS @look_hit))) (And.intro (And.intro (And.intro @lkF_hit @setF_hit) (And.intro
  @onBlk_hit @wpOp_load)) (And.intro (And.intro @wpOp_ixS @wpOp_mks) (And.intro @wpOp_store (And.intro @wpOp_buildS @wpOp_app))))) (And.intro (And.intro (And.intro (And.intro @wpOp_slice @wpOp_mn)
  (And.intro @wpOp_mx @wp_loopT)) (And.intro (And.intro @wpOp_slice3 @wpOp_box) (And.intro @wpOp_fa @wpOp_fld))) (And.intro (And.intro (And.intro @wpOp_build @wpOp_mkf) (And.intro @wp_draw
  @wpTrace_nil)) (And.intro (And.intro @wpTrace_cons @wpOp_ixA) (And.intro @wpOp_ix (And.intro @wpOp_arr @wpOp_buildA)))))))
theorem wB : type_of%
  (And.intro (And.intro (And.intro (And.intro (And.intro (And.intro @andThen_some (And.intro @andThen_none @setF_nil)) (And.intro @sNot_bool (And.intro @sNeg_int @sConv_int))) (And.intro (And.intro
  @sExt_tu (And.intro @sLen_sl @sLen_nil)) (And.intro @sLen_esl (And.intro @sBin_lss @sBin_leq)))) (And.intro (And.intro (And.intro @sBin_gtr (And.intro @sBin_geq @sBin_eql)) (And.intro @sBin_neq
  (And.intro @sBin_add @sBin_sub))) (And.intro (And.intro @sBin_mul (And.intro @sresVs_nil @sresVs_tmp)) (And.intro (And.intro @elem_hit @elem_miss) (And.intro @elem_nil @initS_nil))))) (And.intro
  (And.intro (And.intro (And.intro @initS_cons (And.intro @ifThen_true @ifThen_false)) (And.intro @idx?_nat (And.intro @int?_int @sBS_2))) (And.intro (And.intro @sLoad_cell (And.intro @sMin_int
  @sMax_int)) (And.intro @sBS_0 (And.intro @sBS_1 @andT_some)))) (And.intro (And.intro (And.intro @sb_none (And.intro @sb_some @gT_t)) (And.intro @gT_f (And.intro @gT_u @sBox_ag))) (And.intro (And.intro
  @sBox_int (And.intro @sFa_ptr @sFld_ag)) (And.intro (And.intro @sBuild_0 @sBuild_2) (And.intro @sStore_ag @sStore_i)))))) (And.intro (And.intro (And.intro (And.intro (And.intro @sLoad_agg (And.intro
  @aggB_hit @aggB_miss)) (And.intro @cellB_hit (And.intro @cellB_miss @slice?_2))) (And.intro (And.intro @slice?_3 (And.intro @slice?_4 @sBin_flat_eq)) (And.intro @sBin_flat_ne (And.intro @agEq_2
  @sLoad_cellF)))) (And.intro (And.intro (And.intro @sLoad_aggAt (And.intro @sEffs_n @sEffs_t)) (And.intro @sEffs_f (And.intro @sReads_n @sReads_f))) (And.intro (And.intro @sReads_w (And.intro @sBS_ag2
  @sLoad_ptr)) (And.intro (And.intro @sStore_under @pushB_some) (And.intro @sresVs_cell @sCellV_n))))) (And.intro (And.intro (And.intro (And.intro @sCellV_s (And.intro @sReads_t @chk_some)) (And.intro
  @AV.beq_refl (And.intro @sexec_load @sexec_lenS))) (And.intro (And.intro @skip_t (And.intro @skip_f @wrap_u64)) (And.intro @sBin_shr1 (And.intro @cutEx_n @cutEx_r)))) (And.intro (And.intro (And.intro
  @cutEx_e (And.intro @sIx_ag @sIxA_ptr)) (And.intro @sArr_ptr (And.intro @sBuildA_0 @sBuildA_1))) (And.intro (And.intro @sBuildA_4 (And.intro @sBuild_4 @sBuild_41)) (And.intro (And.intro @sBS_q1
  @sBS_q2) (And.intro @agEq_4 @sBin_and1))))))) :=
  (And.intro (And.intro (And.intro (And.intro (And.intro (And.intro @andThen_some (And.intro @andThen_none @setF_nil)) (And.intro @sNot_bool (And.intro @sNeg_int @sConv_int))) (And.intro (And.intro
  @sExt_tu (And.intro @sLen_sl @sLen_nil)) (And.intro @sLen_esl (And.intro @sBin_lss @sBin_leq)))) (And.intro (And.intro (And.intro @sBin_gtr (And.intro @sBin_geq @sBin_eql)) (And.intro @sBin_neq
  (And.intro @sBin_add @sBin_sub))) (And.intro (And.intro @sBin_mul (And.intro @sresVs_nil @sresVs_tmp)) (And.intro (And.intro @elem_hit @elem_miss) (And.intro @elem_nil @initS_nil))))) (And.intro
  (And.intro (And.intro (And.intro @initS_cons (And.intro @ifThen_true @ifThen_false)) (And.intro @idx?_nat (And.intro @int?_int @sBS_2))) (And.intro (And.intro @sLoad_cell (And.intro @sMin_int
  @sMax_int)) (And.intro @sBS_0 (And.intro @sBS_1 @andT_some)))) (And.intro (And.intro (And.intro @sb_none (And.intro @sb_some @gT_t)) (And.intro @gT_f (And.intro @gT_u @sBox_ag))) (And.intro (And.intro
  @sBox_int (And.intro @sFa_ptr @sFld_ag)) (And.intro (And.intro @sBuild_0 @sBuild_2) (And.intro @sStore_ag @sStore_i)))))) (And.intro (And.intro (And.intro (And.intro (And.intro @sLoad_agg (And.intro
  @aggB_hit @aggB_miss)) (And.intro @cellB_hit (And.intro @cellB_miss @slice?_2))) (And.intro (And.intro @slice?_3 (And.intro @slice?_4 @sBin_flat_eq)) (And.intro @sBin_flat_ne (And.intro @agEq_2
  @sLoad_cellF)))) (And.intro (And.intro (And.intro @sLoad_aggAt (And.intro @sEffs_n @sEffs_t)) (And.intro @sEffs_f (And.intro @sReads_n @sReads_f))) (And.intro (And.intro @sReads_w (And.intro @sBS_ag2
  @sLoad_ptr)) (And.intro (And.intro @sStore_under @pushB_some) (And.intro @sresVs_cell @sCellV_n))))) (And.intro (And.intro (And.intro (And.intro @sCellV_s (And.intro @sReads_t @chk_some)) (And.intro
  @AV.beq_refl (And.intro @sexec_load @sexec_lenS))) (And.intro (And.intro @skip_t (And.intro @skip_f @wrap_u64)) (And.intro @sBin_shr1 (And.intro @cutEx_n @cutEx_r)))) (And.intro (And.intro (And.intro
  @cutEx_e (And.intro @sIx_ag @sIxA_ptr)) (And.intro @sArr_ptr (And.intro @sBuildA_0 @sBuildA_1))) (And.intro (And.intro @sBuildA_4 (And.intro @sBuild_4 @sBuild_41)) (And.intro (And.intro @sBS_q1
  @sBS_q2) (And.intro @agEq_4 @sBin_and1)))))))
theorem wM : type_of%
  (And.intro (And.intro (And.intro (And.intro (@List.all_cons AV) (@List.all_nil AV)) (And.intro (@List.any_cons AV) (And.intro (@List.any_nil AV) @isCell_int))) (And.intro (And.intro @isCell_bool
  (And.intro @isCell_str @hasRef_int)) (And.intro @hasRef_bool (And.intro @hasRef_str @refOK_int)))) (And.intro (And.intro (And.intro @refOK_bool (And.intro @refOK_str @refOK_nilsl)) (And.intro
  @refsOK_nil (And.intro @refsOK_cons @refOK_ag))) (And.intro (And.intro @refOK_tu (And.intro @Bool.and_self @Bool.or_self)) (And.intro (@List.length_cons AV) (And.intro (@List.length_nil AV)
  @Nat.zero_add))))) :=
  (And.intro (And.intro (And.intro (And.intro (@List.all_cons AV) (@List.all_nil AV)) (And.intro (@List.any_cons AV) (And.intro (@List.any_nil AV) @isCell_int))) (And.intro (And.intro @isCell_bool
  (And.intro @isCell_str @hasRef_int)) (And.intro @hasRef_bool (And.intro @hasRef_str @refOK_int)))) (And.intro (And.intro (And.intro @refOK_bool (And.intro @refOK_str @refOK_nilsl)) (And.intro
  @refsOK_nil (And.intro @refsOK_cons @refOK_ag))) (And.intro (And.intro @refOK_tu (And.intro @Bool.and_self @Bool.or_self)) (And.intro (@List.length_cons AV) (And.intro (@List.length_nil AV)
  @Nat.zero_add)))))
theorem wL : type_of%
  (And.intro (And.intro (And.intro (And.intro (And.intro @Option.map_some.{0,0} @Option.map_none.{0,0}) (And.intro @List.map_cons.{0,0} (And.intro @List.map_nil.{0,0} @List.nil_append.{0}))) (And.intro
  (And.intro @List.append_nil.{0} @List.cons_append.{0}) (And.intro @List.getElem?_cons_zero.{0} (And.intro @List.getElem?_cons_succ.{0} @List.getElem?_nil.{0})))) (And.intro (And.intro (And.intro
  @Option.getD_some.{0} @Option.getD_none.{0}) (And.intro @cond_false.{1} (And.intro @cond_true.{1} @and_true))) (And.intro (And.intro @true_and (And.intro @Nat.zero_add @Nat.mul_one)) (And.intro
  @decide_true (And.intro @decide_false @Bool.not_true))))) (And.intro (And.intro (And.intro (And.intro @Bool.not_false @beq_self_eq_true.{0}) (And.intro @bne_self_eq_false.{0} (And.intro @and_self
  @List.isEmpty_nil.{0}))) (And.intro (And.intro @List.isEmpty_cons.{0} (And.intro @Bool.true_or @Bool.false_or)) (And.intro @List.set_cons_zero.{0} (And.intro @List.set_cons_succ.{0}
  @List.length_cons.{0})))) (And.intro (And.intro (And.intro @List.length_nil.{0} @Option.bind_some.{0,0}) (And.intro @List.all_cons.{0} (And.intro @List.all_nil.{0} @Bool.or_true))) (And.intro
  (And.intro @Bool.true_and (And.intro @Bool.and_true @Int.cast_ofNat_Int)) (And.intro @idx?_pos (And.intro @Int.toNat_natCast @wrap_i64)))))) :=
  (And.intro (And.intro (And.intro (And.intro (And.intro @Option.map_some.{0,0} @Option.map_none.{0,0}) (And.intro @List.map_cons.{0,0} (And.intro @List.map_nil.{0,0} @List.nil_append.{0}))) (And.intro
  (And.intro @List.append_nil.{0} @List.cons_append.{0}) (And.intro @List.getElem?_cons_zero.{0} (And.intro @List.getElem?_cons_succ.{0} @List.getElem?_nil.{0})))) (And.intro (And.intro (And.intro
  @Option.getD_some.{0} @Option.getD_none.{0}) (And.intro @cond_false.{1} (And.intro @cond_true.{1} @and_true))) (And.intro (And.intro @true_and (And.intro @Nat.zero_add @Nat.mul_one)) (And.intro
  @decide_true (And.intro @decide_false @Bool.not_true))))) (And.intro (And.intro (And.intro (And.intro @Bool.not_false @beq_self_eq_true.{0}) (And.intro @bne_self_eq_false.{0} (And.intro @and_self
  @List.isEmpty_nil.{0}))) (And.intro (And.intro @List.isEmpty_cons.{0} (And.intro @Bool.true_or @Bool.false_or)) (And.intro @List.set_cons_zero.{0} (And.intro @List.set_cons_succ.{0}
  @List.length_cons.{0})))) (And.intro (And.intro (And.intro @List.length_nil.{0} @Option.bind_some.{0,0}) (And.intro @List.all_cons.{0} (And.intro @List.all_nil.{0} @Bool.or_true))) (And.intro
  (And.intro @Bool.true_and (And.intro @Bool.and_true @Int.cast_ofNat_Int)) (And.intro @idx?_pos (And.intro @Int.toNat_natCast @wrap_i64))))))
theorem wE : type_of% (And.intro @elem_hit (And.intro @elem_miss @elem_nil)) := And.intro @elem_hit (And.intro @elem_miss @elem_nil)
theorem mAx : type_of% @Sub.refl := @Sub.refl
theorem mBx : type_of% @Sub.push := @Sub.push
theorem mCx : type_of% @HokR.fresh := @HokR.fresh
theorem mDx : type_of% @Fresh.push := @Fresh.push
theorem mEx : type_of% @HokR.push := @HokR.push
theorem mFx : type_of% @Grown.refl := @Grown.refl
theorem mGx : type_of% @GrownR.push := @GrownR.push
theorem mHx : type_of% @refsOK_ints := @refsOK_ints
theorem mIx : type_of% @Nat.le_refl := @Nat.le_refl

end Go.Abs

