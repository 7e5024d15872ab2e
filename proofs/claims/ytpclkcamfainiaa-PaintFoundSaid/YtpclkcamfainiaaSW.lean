/- The rules of simp, put together. -/
import Derived.Test.YtpclkcamfainiaaSR
set_option linter.unusedSimpArgs false
set_option linter.unusedVariables false
set_option maxRecDepth 10000
namespace Go.Abs
theorem wA : type_of%
  (And.intro (And.intro (And.intro (And.intro (And.intro (And.intro @wpG_none @wpG_true) (And.intro @wpG_false @wpOps_nil)) (And.intro (And.intro @wpOps_cons @sput_some) (And.intro @sput_none @sev_t)))
  (And.intro (And.intro (And.intro @sev_c @look_nil) (And.intro @look_miss @lkF_miss)) (And.intro (And.intro @lkF_nil @setF_miss) (And.intro @commitS_nil @commitS_in)))) (And.intro (And.intro (And.intro
  (And.intro @commitS_out @wp_skip) (And.intro @wp_ops @wp_seq)) (And.intro (And.intro @wp_cond @wp_block) (And.intro @wp_exit @wp_ret))) (And.intro (And.intro (And.intro @onEx_normal @onEx_exit)
  (And.intro @onEx_ret @onBlk_normal)) (And.intro (And.intro @onBlk_ret @onBlk_miss) (And.intro @wpOp_call @wpOp_mov))))) (And.intro (And.intro (And.intro (And.intro (And.intro @wpOp_pick @wpOp_new)
  (And.intro @wpOp_bin @wpOp_not)) (And.intro (And.intro @wpOp_neg @wpOp_conv) (And.intro @wpOp_ext @wpOp_lenS))) (And.intro (And.intro (And.intro @look_hit @lkF_hit) (And.intro @setF_hit @onBlk_hit))
  (And.intro (And.intro @wpOp_load @wpOp_ixS) (And.intro @wpOp_mks @wpOp_store)))) (And.intro (And.intro (And.intro (And.intro @wpOp_buildS @wpOp_app) (And.intro @wpOp_slice @wpOp_mn)) (And.intro
  (And.intro @wpOp_mx @wp_loopT) (And.intro @wpOp_slice3 @wpOp_box))) (And.intro (And.intro (And.intro @wpOp_fa @wpOp_fld) (And.intro @wpOp_build @wpOp_mkf)) (And.intro (And.intro @wp_draw @wpTrace_nil)
  (And.intro @wpTrace_cons @wpOp_ixA)))))) :=
  (And.intro (And.intro (And.intro (And.intro (And.intro (And.intro @wpG_none @wpG_true) (And.intro @wpG_false @wpOps_nil)) (And.intro (And.intro @wpOps_cons @sput_some) (And.intro @sput_none @sev_t)))
  (And.intro (And.intro (And.intro @sev_c @look_nil) (And.intro @look_miss @lkF_miss)) (And.intro (And.intro @lkF_nil @setF_miss) (And.intro @commitS_nil @commitS_in)))) (And.intro (And.intro (And.intro
  (And.intro @commitS_out @wp_skip) (And.intro @wp_ops @wp_seq)) (And.intro (And.intro @wp_cond @wp_block) (And.intro @wp_exit @wp_ret))) (And.intro (And.intro (And.intro @onEx_normal @onEx_exit)
  (And.intro @onEx_ret @onBlk_normal)) (And.intro (And.intro @onBlk_ret @onBlk_miss) (And.intro @wpOp_call @wpOp_mov))))) (And.intro (And.intro (And.intro (And.intro (And.intro @wpOp_pick @wpOp_new)
  (And.intro @wpOp_bin @wpOp_not)) (And.intro (And.intro @wpOp_neg @wpOp_conv) (And.intro @wpOp_ext @wpOp_lenS))) (And.intro (And.intro (And.intro @look_hit @lkF_hit) (And.intro @setF_hit @onBlk_hit))
  (And.intro (And.intro @wpOp_load @wpOp_ixS) (And.intro @wpOp_mks @wpOp_store)))) (And.intro (And.intro (And.intro (And.intro @wpOp_buildS @wpOp_app) (And.intro @wpOp_slice @wpOp_mn)) (And.intro
  (And.intro @wpOp_mx @wp_loopT) (And.intro @wpOp_slice3 @wpOp_box))) (And.intro (And.intro (And.intro @wpOp_fa @wpOp_fld) (And.intro @wpOp_build @wpOp_mkf)) (And.intro (And.intro @wp_draw @wpTrace_nil)
  (And.intro @wpTrace_cons @wpOp_ixA))))))
theorem wB : type_of%
  (And.intro (And.intro (And.intro (And.intro (And.intro (And.intro @andThen_some @andThen_none) (And.intro @setF_nil (And.intro @sNot_bool @sNeg_int))) (And.intro (And.intro @sConv_int (And.intro
  @sExt_tu @sLen_sl)) (And.intro @sLen_nil (And.intro @sLen_esl @sBin_lss)))) (And.intro (And.intro (And.intro @sBin_leq @sBin_gtr) (And.intro @sBin_geq (And.intro @sBin_eql @sBin_neq))) (And.intro
  (And.intro @sBin_add (And.intro @sBin_sub @sBin_mul)) (And.intro @sresVs_nil (And.intro @sresVs_tmp @elem_hit))))) (And.intro (And.intro (And.intro (And.intro @elem_miss @elem_nil) (And.intro
  @initS_nil (And.intro @initS_cons @ifThen_true))) (And.intro (And.intro @ifThen_false (And.intro @idx?_nat @int?_int)) (And.intro @sBS_2 (And.intro @sLoad_cell @sMin_int)))) (And.intro (And.intro
  (And.intro @sMax_int @sBS_0) (And.intro @sBS_1 (And.intro @andT_some @sb_none))) (And.intro (And.intro @sb_some (And.intro @gT_t @gT_f)) (And.intro @gT_u (And.intro @sBox_ag @sBox_int)))))) (And.intro
  (And.intro (And.intro (And.intro (And.intro @sFa_ptr @sFld_ag) (And.intro @sBuild_0 (And.intro @sBuild_2 @sStore_ag))) (And.intro (And.intro @sStore_i (And.intro @sLoad_agg @aggB_hit)) (And.intro
  @aggB_miss (And.intro @cellB_hit @cellB_miss)))) (And.intro (And.intro (And.intro @slice?_2 @slice?_3) (And.intro @slice?_4 (And.intro @sBin_flat_eq @sBin_flat_ne))) (And.intro (And.intro @agEq_2
  (And.intro @sLoad_cellF @sLoad_aggAt)) (And.intro @sEffs_n (And.intro @sEffs_t @sEffs_f))))) (And.intro (And.intro (And.intro (And.intro @sReads_n @sReads_f) (And.intro @sReads_w (And.intro @sBS_ag2
  @sLoad_ptr))) (And.intro (And.intro @sStore_under (And.intro @pushB_some @sresVs_cell)) (And.intro @sCellV_n (And.intro @sCellV_s @sReads_t)))) (And.intro (And.intro (And.intro @chk_some @AV.beq_refl)
  (And.intro @sexec_load (And.intro @sexec_lenS @skip_t))) (And.intro (And.intro @skip_f (And.intro @wrap_u64 @sBin_shr1)) (And.intro @cutEx_n (And.intro @cutEx_r @cutEx_e))))))) :=
  (And.intro (And.intro (And.intro (And.intro (And.intro (And.intro @andThen_some @andThen_none) (And.intro @setF_nil (And.intro @sNot_bool @sNeg_int))) (And.intro (And.intro @sConv_int (And.intro
  @sExt_tu @sLen_sl)) (And.intro @sLen_nil (And.intro @sLen_esl @sBin_lss)))) (And.intro (And.intro (And.intro @sBin_leq @sBin_gtr) (And.intro @sBin_geq (And.intro @sBin_eql @sBin_neq))) (And.intro
  (And.intro @sBin_add (And.intro @sBin_sub @sBin_mul)) (And.intro @sresVs_nil (And.intro @sresVs_tmp @elem_hit))))) (And.intro (And.intro (And.intro (And.intro @elem_miss @elem_nil) (And.intro
  @initS_nil (And.intro @initS_cons @ifThen_true))) (And.intro (And.intro @ifThen_false (And.intro @idx?_nat @int?_int)) (And.intro @sBS_2 (And.intro @sLoad_cell @sMin_int)))) (And.intro (And.intro
  (And.intro @sMax_int @sBS_0) (And.intro @sBS_1 (And.intro @andT_some @sb_none))) (And.intro (And.intro @sb_some (And.intro @gT_t @gT_f)) (And.intro @gT_u (And.intro @sBox_ag @sBox_int)))))) (And.intro
  (And.intro (And.intro (And.intro (And.intro @sFa_ptr @sFld_ag) (And.intro @sBuild_0 (And.intro @sBuild_2 @sStore_ag))) (And.intro (And.intro @sStore_i (And.intro @sLoad_agg @aggB_hit)) (And.intro
  @aggB_miss (And.intro @cellB_hit @cellB_miss)))) (And.intro (And.intro (And.intro @slice?_2 @slice?_3) (And.intro @slice?_4 (And.intro @sBin_flat_eq @sBin_flat_ne))) (And.intro (And.intro @agEq_2
  (And.intro @sLoad_cellF @sLoad_aggAt)) (And.intro @sEffs_n (And.intro @sEffs_t @sEffs_f))))) (And.intro (And.intro (And.intro (And.intro @sReads_n @sReads_f) (And.intro @sReads_w (And.intro @sBS_ag2
  @sLoad_ptr))) (And.intro (And.intro @sStore_under (And.intro @pushB_some @sresVs_cell)) (And.intro @sCellV_n (And.intro @sCellV_s @sReads_t)))) (And.intro (And.intro (And.intro @chk_some @AV.beq_refl)
  (And.intro @sexec_load (And.intro @sexec_lenS @skip_t))) (And.intro (And.intro @skip_f (And.intro @wrap_u64 @sBin_shr1)) (And.intro @cutEx_n (And.intro @cutEx_r @cutEx_e)))))))
theorem wM : type_of%
  (And.intro (And.intro (And.intro (And.intro (@List.all_cons AV) (@List.all_nil AV)) (And.intro (@List.any_cons AV) (And.intro (@List.any_nil AV) @isCell_int))) (And.intro (And.intro @isCell_bool
  (And.intro @isCell_str @hasRef_int)) (And.intro @hasRef_bool (And.intro @hasRef_str @refOK_int)))) (And.intro (And.intro (And.intro @refOK_bool (And.intro @refOK_str @refOK_nilsl)) (And.intro
  @refsOK_nil (And.intro @refsOK_cons @refOK_ag))) (And.intro (And.intro @refOK_tu (And.intro @Bool.and_self @Bool.or_self)) (And.intro (@List.length_cons AV) (And.intro (@List.length_nil AV)
  @Nat.zero_add))))) :=
  (And.intro (And.intro (And.intro (And.intro (@List.all_cons AV) (@List.all_nil AV)) (And.intro (@List.any_cons AV) (And.intro (@List.any_nil AV) @isCell_int))) (And.intro (And.intro @isCell_bool
  (And.intro @isCell_str @hasRef_int)) (And.intro @hasRef_bool (And.intro @hasRef_str @refOK_int)))) (And.intro (And.intro (And.intro @refOK_bool (And.intro @refOK_str @refOK_nilsl)) (And.intro
  @refsOK_nil (And.intro @refsOK_cons @refOK_ag))) (And.intro (And.intro @refOK_tu (And.intro @Bool.and_self @Bool.or_self)) (And.intro (@List.length_cons AV) (And.intro (@List.length_nil AV)
  @Nat.zero_add)))))
end Go.Abs
