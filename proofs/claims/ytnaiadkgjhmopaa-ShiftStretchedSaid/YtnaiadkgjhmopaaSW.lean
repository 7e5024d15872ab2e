/- The rules of simp, put together. -/
import Derived.Test.YtnaiadkgjhmopaaSR
set_option linter.unusedSimpArgs false
set_option linter.unusedVariables false
set_option maxRecDepth 10000
namespace Go.Abs
def wA :=
  (And.intro (And.intro (And.intro (And.intro (And.intro (And.intro @wpG_none @wpG_true) (And.intro @wpG_false @wpOps_nil)) (And.intro (And.intro @wpOps_cons @sput_some) (And.intro @sput_none @sev_t)))
  (And.intro (And.intro (And.intro @sev_c @look_nil) (And.intro @look_miss @lkF_miss)) (And.intro (And.intro @lkF_nil @setF_miss) (And.intro @commitS_nil @commitS_in)))) (And.intro (And.intro (And.intro
  (And.intro @commitS_out @wp_skip) (And.intro @wp_ops @wp_seq)) (And.intro (And.intro @wp_cond @wp_block) (And.intro @wp_exit @wp_ret))) (And.intro (And.intro (And.intro @onEx_normal @onEx_exit)
  (And.intro @onEx_ret @onBlk_normal)) (And.intro (And.intro @onBlk_ret @onBlk_miss) (And.intro @wpOp_call @wpOp_mov))))) (And.intro (And.intro (And.intro (And.intro (And.intro @wpOp_pick @wpOp_new)
  (And.intro @wpOp_bin @wpOp_not)) (And.intro (And.intro @wpOp_neg @wpOp_conv) (And.intro @wpOp_ext @wpOp_lenS))) (And.intro (And.intro (And.intro @look_hit @lkF_hit) (And.intro @setF_hit @onBlk_hit))
  (And.intro (And.intro @wpOp_load @wpOp_ixS) (And.intro @wpOp_mks @wpOp_store)))) (And.intro (And.intro (And.intro (And.intro @wpOp_buildS @wpOp_app) (And.intro @wpOp_slice @wpOp_mn)) (And.intro
  (And.intro @wpOp_mx @wp_loopT) (And.intro @wpOp_slice3 @wpOp_box))) (And.intro (And.intro (And.intro @wpOp_fa @wpOp_fld) (And.intro @wpOp_build @wpOp_mkf)) (And.intro (And.intro @wp_draw @wpTrace_nil)
  (And.intro @wpTrace_cons @wpOp_ixA))))))
def wB :=
  (And.intro (And.intro (And.intro (And.intro (And.intro (And.intro @andThen_some @andThen_none) (And.intro @setF_nil (And.intro @sNot_bool @sNeg_int))) (And.intro (And.intro @sConv_int @sExt_tu)
  (And.intro @sLen_sl (And.intro @sLen_nil @sLen_esl)))) (And.intro (And.intro (And.intro @sBin_lss @sBin_leq) (And.intro @sBin_gtr (And.intro @sBin_geq @sBin_eql))) (And.intro (And.intro @sBin_neq
  @sBin_add) (And.intro @sBin_sub (And.intro @sBin_mul @sresVs_nil))))) (And.intro (And.intro (And.intro (And.intro @sresVs_tmp @elem_hit) (And.intro @elem_miss (And.intro @elem_nil @initS_nil)))
  (And.intro (And.intro @initS_cons @ifThen_true) (And.intro @ifThen_false (And.intro @idx?_nat @int?_int)))) (And.intro (And.intro (And.intro @sBS_2 @sLoad_cell) (And.intro @sMin_int (And.intro
  @sMax_int @sBS_0))) (And.intro (And.intro @sBS_1 @andT_some) (And.intro @sb_none (And.intro @sb_some @gT_t)))))) (And.intro (And.intro (And.intro (And.intro (And.intro @gT_f @gT_u) (And.intro @sBox_ag
  (And.intro @sBox_int @sFa_ptr))) (And.intro (And.intro @sFld_ag @sBuild_0) (And.intro @sBuild_2 (And.intro @sStore_ag @sStore_i)))) (And.intro (And.intro (And.intro @sLoad_agg @aggB_hit) (And.intro
  @aggB_miss (And.intro @cellB_hit @cellB_miss))) (And.intro (And.intro @slice?_2 @slice?_3) (And.intro @slice?_4 (And.intro @sBin_flat_eq @sBin_flat_ne))))) (And.intro (And.intro (And.intro (And.intro
  @agEq_2 @sLoad_cellF) (And.intro @sLoad_aggAt (And.intro @sEffs_n @sEffs_t))) (And.intro (And.intro @sEffs_f @sReads_n) (And.intro @sReads_f (And.intro @sReads_w @sBS_ag2)))) (And.intro (And.intro
  (And.intro @sLoad_ptr @sStore_under) (And.intro @pushB_some (And.intro @sresVs_cell @sCellV_n))) (And.intro (And.intro @sCellV_s (And.intro @sReads_t @chk_some)) (And.intro @AV.beq_refl (And.intro
  @sexec_load @sexec_lenS)))))))
def wM :=
  (And.intro (And.intro (And.intro (And.intro (@List.all_cons AV) (@List.all_nil AV)) (And.intro (@List.any_cons AV) (And.intro (@List.any_nil AV) @isCell_int))) (And.intro (And.intro @isCell_bool
  (And.intro @isCell_str @hasRef_int)) (And.intro @hasRef_bool (And.intro @hasRef_str @refOK_int)))) (And.intro (And.intro (And.intro @refOK_bool (And.intro @refOK_str @refOK_nilsl)) (And.intro
  @refsOK_nil (And.intro @refsOK_cons @refOK_ag))) (And.intro (And.intro @refOK_tu (And.intro @Bool.and_self @Bool.or_self)) (And.intro (@List.length_cons AV) (And.intro (@List.length_nil AV)
  @Nat.zero_add)))))
end Go.Abs
