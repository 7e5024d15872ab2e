/- The rules of simp, put together. -/
import Derived.Test.YtelalpohbodolaaDoorMV
set_option linter.unusedSimpArgs false
set_option linter.unusedVariables false
set_option maxRecDepth 10000
namespace Go.Abs
theorem wA : type_of%
  (And.intro (And.intro (And.intro (And.intro (And.intro (And.intro @wpG_none @wpG_true) (And.intro @wpG_false (And.intro @wpOps_nil @wpOps_cons))) (And.intro (And.intro @sput_some (And.intro @sput_none
  @sev_t)) (And.intro @sev_c (And.intro @look_nil @look_miss)))) (And.intro (And.intro (And.intro @lkF_miss (And.intro @lkF_nil @setF_miss)) (And.intro @commitS_nil (And.intro @commitS_in
  @commitS_out))) (And.intro (And.intro @wp_skip (And.intro @wp_ops @wp_seq)) (And.intro @wp_cond (And.intro @wp_block @wp_exit))))) (And.intro (And.intro (And.intro (And.intro @wp_ret @onEx_normal)
  (And.intro @onEx_exit (And.intro @onEx_ret @onBlk_normal))) (And.intro (And.intro @onBlk_ret (And.intro @onBlk_miss @wpOp_call)) (And.intro @wpOp_mov (And.intro @wpOp_pick @wpOp_new)))) (And.intro
  (And.intro (And.intro @wpOp_bin (And.intro @wpOp_not @wpOp_neg)) (And.intro @wpOp_conv (And.intro @wpOp_ext @wpOp_lenS))) (And.intro (And.intro @look_hit (And.intro @lkF_hit @setF_hit)) (And.intro
  @onBlk_hit (And.intro @wpOp_load @wpOp_ixS)))))) (And.intro (And.intro (And.intro (And.intro (And.intro @wpOp_mks @wpOp_store) (And.intro @wpOp_buildS (And.intro @wpOp_app @wpOp_slice))) (And.intro
  (And.intro @wpOp_mn (And.intro @wpOp_mx @wp_loopT)) (And.intro @wpOp_slice3 (And.intro @wpOp_box @wpOp_fa)))) (And.intro (And.intro (And.intro @wpOp_fld (And.intro @wpOp_build @wpOp_mkf)) (And.intro
  @wp_draw (And.intro @wpTrace_nil @wpTrace_cons))) (And.intro (And.intro @wpOp_ixA (And.intro @wpOp_ix @wpOp_arr)) (And.intro @wpOp_buildA (And.intro @wpOp_mkm0 @wpOp_mkm))))) (And.intro (And.intro
  (And.intro (And.intro @wpOp_lkp @wpOp_mup) (And.intro @wpOp_mdel (And.intro @wpOp_lenM @wpOp_capS))) (And.intro (And.intro @wpOp_rng (And.intro @wpOp_ent @wpOp_s2b)) (And.intro @wpOp_b2s (And.intro
  @wpOp_ixT @wpOp_slT)))) (And.intro (And.intro (And.intro @wpOp_lenT (And.intro @wpN_skip @wpN_exit)) (And.intro @wpN_ret (And.intro @wpN_seq @wpN_cond))) (And.intro (And.intro @wpN_block (And.intro
  @wpN_draw @wpN_loop)) (And.intro @wpN_ops (And.intro @wpOp_mx3 @wpOp_clr))))))) :=
  (And.intro (And.intro (And.intro (And.intro (And.intro (And.intro @wpG_none @wpG_true) (And.intro @wpG_false (And.intro @wpOps_nil @wpOps_cons))) (And.intro (And.intro @sput_some (And.intro @sput_none
  @sev_t)) (And.intro @sev_c (And.intro @look_nil @look_miss)))) (And.intro (And.intro (And.intro @lkF_miss (And.intro @lkF_nil @setF_miss)) (And.intro @commitS_nil (And.intro @commitS_in
  @commitS_out))) (And.intro (And.intro @wp_skip (And.intro @wp_ops @wp_seq)) (And.intro @wp_cond (And.intro @wp_block @wp_exit))))) (And.intro (And.intro (And.intro (And.intro @wp_ret @onEx_normal)
  (And.intro @onEx_exit (And.intro @onEx_ret @onBlk_normal))) (And.intro (And.intro @onBlk_ret (And.intro @onBlk_miss @wpOp_call)) (And.intro @wpOp_mov (And.intro @wpOp_pick @wpOp_new)))) (And.intro
  (And.intro (And.intro @wpOp_bin (And.intro @wpOp_not @wpOp_neg)) (And.intro @wpOp_conv (And.intro @wpOp_ext @wpOp_lenS))) (And.intro (And.intro @look_hit (And.intro @lkF_hit @setF_hit)) (And.intro
  @onBlk_hit (And.intro @wpOp_load @wpOp_ixS)))))) (And.intro (And.intro (And.intro (And.intro (And.intro @wpOp_mks @wpOp_store) (And.intro @wpOp_buildS (And.intro @wpOp_app @wpOp_slice))) (And.intro
  (And.intro @wpOp_mn (And.intro @wpOp_mx @wp_loopT)) (And.intro @wpOp_slice3 (And.intro @wpOp_box @wpOp_fa)))) (And.intro (And.intro (And.intro @wpOp_fld (And.intro @wpOp_build @wpOp_mkf)) (And.intro
  @wp_draw (And.intro @wpTrace_nil @wpTrace_cons))) (And.intro (And.intro @wpOp_ixA (And.intro @wpOp_ix @wpOp_arr)) (And.intro @wpOp_buildA (And.intro @wpOp_mkm0 @wpOp_mkm))))) (And.intro (And.intro
  (And.intro (And.intro @wpOp_lkp @wpOp_mup) (And.intro @wpOp_mdel (And.intro @wpOp_lenM @wpOp_capS))) (And.intro (And.intro @wpOp_rng (And.intro @wpOp_ent @wpOp_s2b)) (And.intro @wpOp_b2s (And.intro
  @wpOp_ixT @wpOp_slT)))) (And.intro (And.intro (And.intro @wpOp_lenT (And.intro @wpN_skip @wpN_exit)) (And.intro @wpN_ret (And.intro @wpN_seq @wpN_cond))) (And.intro (And.intro @wpN_block (And.intro
  @wpN_draw @wpN_loop)) (And.intro @wpN_ops (And.intro @wpOp_mx3 @wpOp_clr)))))))
theorem wB : type_of%
  (And.intro (And.intro (And.intro (And.intro (And.intro (And.intro @andThen_some (And.intro @andThen_none @setF_nil)) (And.intro @sNot_bool (And.intro @sNeg_int @sConv_int))) (And.intro (And.intro
  @sExt_tu (And.intro @sLen_sl @sLen_nil)) (And.intro (And.intro @sLen_esl @sBin_lss) (And.intro @sBin_leq @sBin_gtr)))) (And.intro (And.intro (And.intro @sBin_geq (And.intro @sBin_eql @sBin_neq))
  (And.intro (And.intro @sBin_add @sBin_sub) (And.intro @sBin_mul @sresVs_nil))) (And.intro (And.intro @sresVs_tmp (And.intro @elem_hit @elem_miss)) (And.intro (And.intro @elem_nil @initS_nil)
  (And.intro @initS_cons @ifThen_true))))) (And.intro (And.intro (And.intro (And.intro @ifThen_false (And.intro @idx?_nat @int?_int)) (And.intro @sBS_2 (And.intro @sLoad_cell @sMin_int))) (And.intro
  (And.intro @sMax_int (And.intro @sBS_0 @sBS_1)) (And.intro (And.intro @andT_some @sb_none) (And.intro @sb_some @gT_t)))) (And.intro (And.intro (And.intro @gT_f (And.intro @gT_u @sBox_ag)) (And.intro
  (And.intro @sBox_int @sFa_ptr) (And.intro @sFld_ag @sBuild_0))) (And.intro (And.intro @sBuild_2 (And.intro @sStore_ag @sStore_i)) (And.intro (And.intro @sLoad_agg @aggB_hit) (And.intro @aggB_miss
  @cellB_hit)))))) (And.intro (And.intro (And.intro (And.intro (And.intro @cellB_miss (And.intro @slice?_2 @slice?_3)) (And.intro @slice?_4 (And.intro @sBin_flat_eq @sBin_flat_ne))) (And.intro
  (And.intro @agEq_2 (And.intro @sLoad_cellF @sLoad_aggAt)) (And.intro (And.intro @sEffs_n @sEffs_t) (And.intro @sEffs_f @sReads_n)))) (And.intro (And.intro (And.intro @sReads_f (And.intro @sReads_w
  @sBS_ag2)) (And.intro (And.intro @sLoad_ptr @sStore_under) (And.intro @pushB_some @sresVs_cell))) (And.intro (And.intro @sCellV_n (And.intro @sCellV_s @sReads_t)) (And.intro (And.intro @chk_some
  @AV.beq_refl) (And.intro @sexec_load @sexec_lenS))))) (And.intro (And.intro (And.intro (And.intro @skip_t (And.intro @skip_f @wrap_u64)) (And.intro @sBin_shr1 (And.intro @cutEx_n @cutEx_r)))
  (And.intro (And.intro @cutEx_e (And.intro @sIx_ag @sIxA_ptr)) (And.intro (And.intro @sArr_ptr @sBuildA_0) (And.intro @sBuildA_1 @sBuildA_4)))) (And.intro (And.intro (And.intro @sBuild_4 (And.intro
  @sBuild_41 @sBS_q1)) (And.intro (And.intro @sBS_q2 @agEq_4) (And.intro @sBin_and1 @sMkmV_int))) (And.intro (And.intro @mLenNil (And.intro @sLenTV_str @sBin_bool)) (And.intro (And.intro @sBin_boolN
  @sMax3_int) (And.intro @sBin_strE @sBin_strN))))))) :=
  (And.intro (And.intro (And.intro (And.intro (And.intro (And.intro @andThen_some (And.intro @andThen_none @setF_nil)) (And.intro @sNot_bool (And.intro @sNeg_int @sConv_int))) (And.intro (And.intro
  @sExt_tu (And.intro @sLen_sl @sLen_nil)) (And.intro (And.intro @sLen_esl @sBin_lss) (And.intro @sBin_leq @sBin_gtr)))) (And.intro (And.intro (And.intro @sBin_geq (And.intro @sBin_eql @sBin_neq))
  (And.intro (And.intro @sBin_add @sBin_sub) (And.intro @sBin_mul @sresVs_nil))) (And.intro (And.intro @sresVs_tmp (And.intro @elem_hit @elem_miss)) (And.intro (And.intro @elem_nil @initS_nil)
  (And.intro @initS_cons @ifThen_true))))) (And.intro (And.intro (And.intro (And.intro @ifThen_false (And.intro @idx?_nat @int?_int)) (And.intro @sBS_2 (And.intro @sLoad_cell @sMin_int))) (And.intro
  (And.intro @sMax_int (And.intro @sBS_0 @sBS_1)) (And.intro (And.intro @andT_some @sb_none) (And.intro @sb_some @gT_t)))) (And.intro (And.intro (And.intro @gT_f (And.intro @gT_u @sBox_ag)) (And.intro
  (And.intro @sBox_int @sFa_ptr) (And.intro @sFld_ag @sBuild_0))) (And.intro (And.intro @sBuild_2 (And.intro @sStore_ag @sStore_i)) (And.intro (And.intro @sLoad_agg @aggB_hit) (And.intro @aggB_miss
  @cellB_hit)))))) (And.intro (And.intro (And.intro (And.intro (And.intro @cellB_miss (And.intro @slice?_2 @slice?_3)) (And.intro @slice?_4 (And.intro @sBin_flat_eq @sBin_flat_ne))) (And.intro
  (And.intro @agEq_2 (And.intro @sLoad_cellF @sLoad_aggAt)) (And.intro (And.intro @sEffs_n @sEffs_t) (And.intro @sEffs_f @sReads_n)))) (And.intro (And.intro (And.intro @sReads_f (And.intro @sReads_w
  @sBS_ag2)) (And.intro (And.intro @sLoad_ptr @sStore_under) (And.intro @pushB_some @sresVs_cell))) (And.intro (And.intro @sCellV_n (And.intro @sCellV_s @sReads_t)) (And.intro (And.intro @chk_some
  @AV.beq_refl) (And.intro @sexec_load @sexec_lenS))))) (And.intro (And.intro (And.intro (And.intro @skip_t (And.intro @skip_f @wrap_u64)) (And.intro @sBin_shr1 (And.intro @cutEx_n @cutEx_r)))
  (And.intro (And.intro @cutEx_e (And.intro @sIx_ag @sIxA_ptr)) (And.intro (And.intro @sArr_ptr @sBuildA_0) (And.intro @sBuildA_1 @sBuildA_4)))) (And.intro (And.intro (And.intro @sBuild_4 (And.intro
  @sBuild_41 @sBS_q1)) (And.intro (And.intro @sBS_q2 @agEq_4) (And.intro @sBin_and1 @sMkmV_int))) (And.intro (And.intro @mLenNil (And.intro @sLenTV_str @sBin_bool)) (And.intro (And.intro @sBin_boolN
  @sMax3_int) (And.intro @sBin_strE @sBin_strN)))))))
theorem wM : type_of%
  (And.intro (And.intro (And.intro (And.intro (@List.all_cons AV) (@List.all_nil AV)) (And.intro (@List.any_cons AV) (And.intro (@List.any_nil AV) @isCell_int))) (And.intro (And.intro @isCell_bool
  (And.intro @isCell_str @hasRef_int)) (And.intro @hasRef_bool (And.intro @hasRef_str @refOK_int)))) (And.intro (And.intro (And.intro @refOK_bool (And.intro @refOK_str @refOK_nilsl)) (And.intro
  @refsOK_nil (And.intro @refsOK_cons @refOK_ag))) (And.intro (And.intro @refOK_tu (And.intro @Bool.and_self @Bool.or_self)) (And.intro (@List.length_cons AV) (And.intro (@List.length_nil AV)
  @Nat.zero_add))))) :=
  (And.intro (And.intro (And.intro (And.intro (@List.all_cons AV) (@List.all_nil AV)) (And.intro (@List.any_cons AV) (And.intro (@List.any_nil AV) @isCell_int))) (And.intro (And.intro @isCell_bool
  (And.intro @isCell_str @hasRef_int)) (And.intro @hasRef_bool (And.intro @hasRef_str @refOK_int)))) (And.intro (And.intro (And.intro @refOK_bool (And.intro @refOK_str @refOK_nilsl)) (And.intro
  @refsOK_nil (And.intro @refsOK_cons @refOK_ag))) (And.intro (And.intro @refOK_tu (And.intro @Bool.and_self @Bool.or_self)) (And.intro (@List.length_cons AV) (And.intro (@List.length_nil AV)
  @Nat.zero_add)))))
theorem wL : type_of%
  (And.intro (And.intro (And.intro (And.intro (And.intro @Option.map_some.{0,0} @Option.map_none.{0,0}) (And.intro @List.map_cons.{0,0} (And.intro @List.map_nil.{0,0} @List.nil_append.{0}))) (And.intro
  (And.intro @List.append_nil.{0} @List.cons_append.{0}) (And.intro @List.getElem?_cons_zero.{0} (And.intro @List.getElem?_cons_succ.{0} @List.getElem?_nil.{0})))) (And.intro (And.intro (And.intro
  @Option.getD_some.{0} @Option.getD_none.{0}) (And.intro @cond_false.{1} (And.intro @cond_true.{1} @and_true))) (And.intro (And.intro @true_and (And.intro @Nat.zero_add @Nat.mul_one)) (And.intro
  @decide_true (And.intro @decide_false @Bool.not_true))))) (And.intro (And.intro (And.intro (And.intro @Bool.not_false @beq_self_eq_true.{0}) (And.intro @bne_self_eq_false.{0} (And.intro @and_self
  @List.isEmpty_nil.{0}))) (And.intro (And.intro @List.isEmpty_cons.{0} (And.intro @Bool.true_or @Bool.false_or)) (And.intro @List.set_cons_zero.{0} (And.intro @List.set_cons_succ.{0}
  @List.length_cons.{0})))) (And.intro (And.intro (And.intro @List.length_nil.{0} @Option.bind_some.{0,0}) (And.intro @List.all_cons.{0} (And.intro @List.all_nil.{0} @Bool.or_true))) (And.intro
  (And.intro @Bool.true_and (And.intro @Bool.and_true @Int.cast_ofNat_Int)) (And.intro @idx?_pos (And.intro @Int.toNat_natCast @wrap_i64)))))) :=
  (And.intro (And.intro (And.intro (And.intro (And.intro @Option.map_some.{0,0} @Option.map_none.{0,0}) (And.intro @List.map_cons.{0,0} (And.intro @List.map_nil.{0,0} @List.nil_append.{0}))) (And.intro
  (And.intro @List.append_nil.{0} @List.cons_append.{0}) (And.intro @List.getElem?_cons_zero.{0} (And.intro @List.getElem?_cons_succ.{0} @List.getElem?_nil.{0})))) (And.intro (And.intro (And.intro
  @Option.getD_some.{0} @Option.getD_none.{0}) (And.intro @cond_false.{1} (And.intro @cond_true.{1} @and_true))) (And.intro (And.intro @true_and (And.intro @Nat.zero_add @Nat.mul_one)) (And.intro
  @decide_true (And.intro @decide_false @Bool.not_true))))) (And.intro (And.intro (And.intro (And.intro @Bool.not_false @beq_self_eq_true.{0}) (And.intro @bne_self_eq_false.{0} (And.intro @and_self
  @List.isEmpty_nil.{0}))) (And.intro (And.intro @List.isEmpty_cons.{0} (And.intro @Bool.true_or @Bool.false_or)) (And.intro @List.set_cons_zero.{0} (And.intro @List.set_cons_succ.{0}
  @List.length_cons.{0})))) (And.intro (And.intro (And.intro @List.length_nil.{0} @Option.bind_some.{0,0}) (And.intro @List.all_cons.{0} (And.intro @List.all_nil.{0} @Bool.or_true))) (And.intro
  (And.intro @Bool.true_and (And.intro @Bool.and_true @Int.cast_ofNat_Int)) (And.intro @idx?_pos (And.intro @Int.toNat_natCast @wrap_i64))))))
theorem wE : type_of% (And.intro @elem_hit (And.intro @elem_miss @elem_nil)) := And.intro @elem_hit (And.intro @elem_miss @elem_nil)
theorem mAx : type_of% @Sub.refl := @Sub.refl
theorem mBx : type_of% @Sub.push := @Sub.push
theorem mCx : type_of% @HokR.fresh := @HokR.fresh
theorem mDx : type_of% @Fresh.push := @Fresh.push
theorem mEx : type_of% @HokR.push := @HokR.push
theorem mFx : type_of% @Grown.refl := @Grown.refl
theorem mGx : type_of% @GrownR.push := @GrownR.push
theorem mHx : type_of% @refsOK_ints := @refsOK_ints
theorem mIx : type_of% @Nat.le_refl := @Nat.le_refl
end Go.Abs
