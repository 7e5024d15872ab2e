/- Derivatives of words. -/
import Derived.Test.YtogfojkjocbahaaE8
set_option linter.unusedSimpArgs false
set_option linter.unusedVariables false
set_option maxHeartbeats 4000000
namespace Go.Proofs.Ytogfojkjocbahaa
open Go Go.Abs

theorem bndVn {d : Nat} : bndV d none = some d := rfl
theorem bndVs {d : Nat} {x : Option Nat} : bndV d (some x) = x := rfl

/-- As CapOk, of empty slices too. -/
def CapE : AV → Prop
  | .sl _ _ len (some c) _ => len ≤ c
  | _ => True

theorem CapOk.e {a : AV} (h : CapOk a) : CapE a := by
  cases a <;> try exact trivial
  case sl id off len cap sz => cases cap <;> exact h

theorem ints_drop {bs : List (Nat × Blk)} {k : IntKind} {a : AV} {zs : List Int} (H : Ints bs k a zs) (hc : CapE a) (hl : 0 < zs.length) :
    ∃ a', (∀ h, sSl 1 h (some (some 1)) none a = some (a', h)) ∧ Ints bs k a' (zs.drop 1) ∧ CapE a' := by
  rcases H with ⟨rfl, rfl⟩ | ⟨rfl, rfl⟩ | ⟨id, off, cap, rfl, hh⟩
  · simp at hl
  · simp at hl
  · have hi : ∀ cap', Ints bs k (.sl id (off + 1) (zs.length - 1) cap' 1) (zs.drop 1) := fun cap' => Ints.sl (by simp) fun i hi => by
      have := hh (i + 1) (by omega)
      rw [show off + (i + 1) = off + 1 + i by omega] at this
      rw [this]
      simp [List.getD_eq_getElem?_getD, Nat.add_comm]
    cases cap with
    | none =>
      by_cases h1 : 1 < zs.length
      · refine ⟨_, fun h => ?_, hi none, trivial⟩
        have e1 : Nat.blt 1 zs.length = true := Nat.ble_eq_true_of_le h1
        simp only [sSl, bndV, Nat.ble_eq_true_of_le (show 1 ≤ zs.length from hl), Nat.beq_refl, Bool.and_self, cond_true, Nat.ble_eq_true_of_le (Nat.le_refl zs.length), e1]
      · have hz : zs.drop 1 = [] := List.drop_eq_nil_of_le (by omega)
        refine ⟨.esl, fun h => ?_, by rw [hz]; exact Ints.esl, trivial⟩
        have e1 : Nat.blt 1 zs.length = false := by
          cases hb : Nat.blt 1 zs.length
          · rfl
          · exact absurd (Nat.le_of_ble_eq_true hb) (by omega)
        simp only [sSl, bndV, Nat.ble_eq_true_of_le (show 1 ≤ zs.length from hl), Nat.beq_refl, Bool.and_self, cond_true, Nat.ble_eq_true_of_le (Nat.le_refl zs.length), e1, cond_false]
    | some c =>
      have hc' : zs.length ≤ c := hc
      by_cases h1 : c = 1
      · subst h1
        have hz : zs.drop 1 = [] := List.drop_eq_nil_of_le (by omega)
        refine ⟨.sl id off (zs.length - 1) (some 0) 1, fun h => ?_, by rw [hz]; exact Ints.sl (by simp; omega) fun i hi => by omega, show zs.length - 1 ≤ 0 by omega⟩
        simp only [sSl, bndV, Nat.ble_eq_true_of_le (show 1 ≤ zs.length from hl), Nat.beq_refl, Bool.and_self, cond_true, Nat.ble_eq_true_of_le hc']
      · refine ⟨_, fun h => ?_, hi (some (c - 1)), show zs.length - 1 ≤ c - 1 by omega⟩
        simp only [sSl, bndV, Nat.ble_eq_true_of_le (show 1 ≤ zs.length from hl), Nat.beq_refl, Bool.and_self, cond_true, Nat.ble_eq_true_of_le hc', nb h1, cond_false, Nat.one_mul]

theorem ints_take {bs : List (Nat × Blk)} {k : IntKind} {a : AV} {zs : List Int} {m : Nat} (H : Ints bs k a zs) (hc : CapE a) (hm : m ≤ zs.length) :
    ∃ a', (∀ h, sSl 1 h none (some (some m)) a = some (a', h)) ∧ Ints bs k a' (zs.take m) ∧ CapE a' := by
  have J := H
  rcases H with ⟨rfl, rfl⟩ | ⟨rfl, rfl⟩ | ⟨id, off, cap, rfl, hh⟩
  · have : m = 0 := by simpa using hm
    subst this
    exact ⟨.nilsl, fun h => rfl, by simpa using Ints.nil, trivial⟩
  · have : m = 0 := by simpa using hm
    subst this
    exact ⟨.esl, fun h => rfl, by simpa using Ints.esl, trivial⟩
  · cases cap with
    | none =>
      by_cases h0 : 0 < zs.length
      · refine ⟨.sl id off m none 1, fun h => ?_, J.pre rfl hm none, trivial⟩
        have e1 : Nat.blt 0 zs.length = true := Nat.ble_eq_true_of_le h0
        simp only [sSl, bndV, Nat.ble_eq_true_of_le (Nat.zero_le m), Nat.beq_refl, Bool.and_self, cond_true, Nat.ble_eq_true_of_le hm, e1, Nat.zero_mul, Nat.add_zero, Nat.sub_zero]
      · have hz : zs = [] := List.length_eq_zero_iff.1 (by omega)
        subst hz
        have : m = 0 := by simpa using hm
        subst this
        exact ⟨.esl, fun h => rfl, by simpa using Ints.esl, trivial⟩
    | some c =>
      have hc' : zs.length ≤ c := hc
      by_cases h0 : c = 0
      · subst h0
        have : m = 0 := by omega
        subst this
        refine ⟨.sl id off 0 (some 0) 1, fun h => ?_, J.pre rfl (Nat.zero_le _) _, Nat.le_refl 0⟩
        simp only [sSl, bndV, Nat.ble_eq_true_of_le (Nat.zero_le _), Nat.beq_refl, Bool.and_self, cond_true, Nat.sub_self]
      · refine ⟨.sl id off m (some c) 1, fun h => sSl_pre (by omega) (by omega), J.pre rfl hm _, show m ≤ c by omega⟩

/-- Without a 1 at either end. -/
def trimL (r : List Int) : List Int := if 0 < r.length ∧ r.getD 0 0 = 1 then r.drop 1 else r
def trimR (r : List Int) : List Int := if 0 < r.length ∧ r.getD (r.length - 1) 0 = 1 then r.take (r.length - 1) else r

def deriv (zs : List Int) : Option (List Int) := if (runsUpto zs zs.length).all (fun z => decide (z ≤ 2)) = true then some (trimR (trimL (runsUpto zs zs.length))) else none

def hgt : Nat → List Int → Option Nat
  | _, [] => some 0
  | 0, _ :: _ => none
  | f + 1, z :: zs => match deriv (z :: zs) with
    | none => none
    | some d => (hgt f d).map (· + 1)

theorem trimL_len (r : List Int) : (trimL r).length ≤ r.length := by unfold trimL; split <;> simp
theorem trimR_len (r : List Int) : (trimR r).length ≤ r.length := by unfold trimR; split <;> simp

theorem deriv_len {zs d : List Int} (hz : zs ≠ []) (h : deriv zs = some d) : d.length < zs.length := by
  unfold deriv at h
  split at h
  · cases h
    have h1 := (runs_len zs zs.length).1
    have h2 := (runs_len zs zs.length).2 (List.length_pos_iff.2 hz)
    have h3 := trimR_len (trimL (runsUpto zs zs.length))
    have h4 := trimL_len (runsUpto zs zs.length)
    obtain ⟨p1, p2, _⟩ := runs_isRuns zs zs.length
    by_cases he : (runsUpto zs zs.length).length = zs.length
    · have h5 : (trimL (runsUpto zs zs.length)).length + 1 = (runsUpto zs zs.length).length := by
        have : (runsUpto zs zs.length).getD 0 0 = 1 := by
          generalize runsUpto zs zs.length = r at *
          cases r with
          | nil => simp at h2
          | cons a l =>
            have ha := p1 a (by simp)
            have hl : ∀ l : List Int, (∀ x ∈ l, 1 ≤ x) → (l.length : Int) ≤ l.sum := by
              intro l
              induction l with
              | nil => simp
              | cons b l ih =>
                intro hh
                have := hh b (by simp)
                have := ih fun x hx => hh x (by simp [hx])
                simp only [List.length_cons, List.sum_cons]
                omega
            have := hl l fun x hx => p1 x (by simp [hx])
            simp only [List.length_cons, List.sum_cons] at he p2
            show a = 1
            omega
        rw [trimL, if_pos ⟨h2, this⟩]
        simp
        omega
      omega
    · omega
  · cases h

theorem hgt_fuel : ∀ (f g : Nat) (zs : List Int), zs.length ≤ f → zs.length ≤ g → hgt f zs = hgt g zs
  | _, _, [], _, _ => by simp [hgt]
  | 0, _, _ :: _, h, _ => by simp at h
  | _, 0, _ :: _, _, h => by simp at h
  | f + 1, g + 1, z :: zs, h1, h2 => by
    simp only [hgt]
    cases hd : deriv (z :: zs) with
    | none => rfl
    | some d =>
      have := deriv_len (by simp) hd
      simp only
      rw [hgt_fuel f g d (by omega) (by omega)]

/-- The height of a word: none if it is not smooth. -/
def height (zs : List Int) : Option Nat := hgt zs.length zs

theorem f45 (a : AV) (r : List Int) (hl : r.length < 2 ^ 62) (h : Hp) (ha : Ints h.blks .i64 a r) (hc : CapE a) :
    ∃ v, Evals Try.prog tab false (.func 45) [a] h (v, h) ∧ Ints h.blks .i64 v (trimR (trimL r)) ∧ CapE v := by
  -- the first half
  obtain ⟨a1, r1, i1, c1, hle, er, hp⟩ : ∃ a1 r1, Ints h.blks .i64 a1 r1 ∧ CapE a1 ∧ r1.length ≤ r.length ∧ trimL r = r1 ∧
      ((decide (0 < (r.length : Int)) = true ∧ (r.getD 0 0 == 1) = true ∧ 0 < r.length ∧ ∀ h, sSl 1 h (some (some 1)) none a = some (a1, h)) ∨ (decide (0 < (r.length : Int)) = true ∧ (r.getD 0 0 == 1) = false ∧ 0 < r.length ∧ a1 = a ∧ r1 = r) ∨ (decide (0 < (r.length : Int)) = false ∧ a1 = a ∧ r1 = r)) := by
    rw [trimL]
    by_cases h0 : 0 < r.length
    · have e0 : decide (0 < (r.length : Int)) = true := by simp only [decide_eq_true_eq]; omega
      by_cases h1 : r.getD 0 0 = 1
      · rw [if_pos ⟨h0, h1⟩]
        obtain ⟨a1, q1, q2, q3⟩ := ints_drop ha hc h0
        exact ⟨a1, _, q2, q3, by simp, rfl, .inl ⟨e0, by simpa only [beq_iff_eq] using h1, h0, q1⟩⟩
      · rw [if_neg (fun hh => h1 hh.2)]
        exact ⟨a, r, ha, hc, Nat.le_refl _, rfl, .inr (.inl ⟨e0, by simpa only [beq_eq_false_iff_ne] using h1, h0, rfl, rfl⟩)⟩
    · rw [if_neg (fun hh => h0 hh.1)]
      exact ⟨a, r, ha, hc, Nat.le_refl _, rfl, .inr (.inr ⟨by simp only [decide_eq_false_iff_not]; omega, rfl, rfl⟩)⟩
  -- the second half
  obtain ⟨v, iv, cv, hq⟩ : ∃ v, Ints h.blks .i64 v (trimR r1) ∧ CapE v ∧
      ((decide (0 ≤ (r1.length : Int) - 1) = true ∧ (r1.getD (r1.length - 1) 0 == 1) = true ∧ 0 < r1.length ∧ ∀ h, sSl 1 h none (some (some (r1.length - 1))) a1 = some (v, h)) ∨ (decide (0 ≤ (r1.length : Int) - 1) = true ∧ (r1.getD (r1.length - 1) 0 == 1) = false ∧ 0 < r1.length ∧ v = a1) ∨ (decide (0 ≤ (r1.length : Int) - 1) = false ∧ v = a1)) := by
    rw [trimR]
    by_cases h0 : 0 < r1.length
    · have e0 : decide (0 ≤ (r1.length : Int) - 1) = true := by simp only [decide_eq_true_eq]; omega
      by_cases h1 : r1.getD (r1.length - 1) 0 = 1
      · rw [if_pos ⟨h0, h1⟩]
        obtain ⟨v, q1, q2, q3⟩ := ints_take i1 c1 (show r1.length - 1 ≤ r1.length by omega)
        exact ⟨v, q2, q3, .inl ⟨e0, by simpa only [beq_iff_eq] using h1, h0, q1⟩⟩
      · rw [if_neg (fun hh => h1 hh.2)]
        exact ⟨a1, i1, c1, .inr (.inl ⟨e0, by simpa only [beq_eq_false_iff_ne] using h1, h0, rfl⟩)⟩
    · rw [if_neg (fun hh => h0 hh.1)]
      exact ⟨a1, i1, c1, .inr (.inr ⟨by simp only [decide_eq_false_iff_not]; omega, rfl⟩)⟩
  have hto : ∀ hh : 0 < r1.length, ((r1.length : Int) - 1).toNat = r1.length - 1 := fun hh => by omega
  refine ⟨v, evals_pure c45 rfl ?_, by rw [er]; exact iv, cv⟩
  simp only [sf45, initS_cons, initS_nil]
  rcases hp with ⟨g1, g2, g3, g4⟩ | ⟨g1, g2, g3, rfl, rfl⟩ | ⟨g1, rfl, rfl⟩
  all_goals first
    | simp (disch := first | (simp only [Nat.reduceBEq, Go.Abs.elem_hit, Go.Abs.elem_miss, Go.Abs.elem_nil]; done) | omega) only [ha.len, g1, show idx? (.int .i64 0) = some 0 from rfl, show idx? (.int .i64 1) = some 1 from rfl, ha.ix, ha.ld, g2, g4, i1.len, Go.Abs.wrap_i64, Go.Abs.idx?_pos, Int.toNat_natCast, ↓Go.Abs.wpG_none, ↓Go.Abs.wpG_true, ↓Go.Abs.wpG_false, ↓Go.Abs.wpOps_nil, ↓Go.Abs.wpOps_cons, ↓Go.Abs.sput_some, ↓Go.Abs.sput_none, ↓Go.Abs.sev_t, ↓Go.Abs.sev_c, ↓Go.Abs.look_nil, ↓Go.Abs.look_miss, ↓Go.Abs.lkF_miss, ↓Go.Abs.lkF_nil, ↓Go.Abs.setF_miss, ↓Go.Abs.commitS_nil, ↓Go.Abs.commitS_in, ↓Go.Abs.commitS_out, ↓Go.Abs.wp_skip, ↓Go.Abs.wp_ops, ↓Go.Abs.wp_seq, ↓Go.Abs.wp_cond, ↓Go.Abs.wp_block, ↓Go.Abs.wp_exit, ↓Go.Abs.wp_ret, ↓Go.Abs.onEx_normal, ↓Go.Abs.onEx_exit, ↓Go.Abs.onEx_ret, ↓Go.Abs.onBlk_normal, ↓Go.Abs.onBlk_ret, ↓Go.Abs.onBlk_miss, ↓Go.Abs.wpOp_call, ↓Go.Abs.wpOp_mov, ↓Go.Abs.wpOp_pick, ↓Go.Abs.wpOp_new, ↓Go.Abs.wpOp_bin, ↓Go.Abs.wpOp_not, ↓Go.Abs.wpOp_neg, ↓Go.Abs.wpOp_conv, ↓Go.Abs.wpOp_ext, ↓Go.Abs.wpOp_lenS, ↓Go.Abs.look_hit, ↓Go.Abs.lkF_hit, ↓Go.Abs.setF_hit, ↓Go.Abs.onBlk_hit, Go.Abs.andThen_some, Go.Abs.andThen_none, Go.Abs.setF_nil, Go.Abs.sNot_bool, Go.Abs.sNeg_int, Go.Abs.sConv_int, Go.Abs.sExt_tu, Go.Abs.sLen_sl, Go.Abs.sLen_nil, Go.Abs.sLen_esl, Go.Abs.sBin_lss, Go.Abs.sBin_leq, Go.Abs.sBin_gtr, Go.Abs.sBin_geq, Go.Abs.sBin_eql, Go.Abs.sBin_neq, Go.Abs.sBin_add, Go.Abs.sBin_sub, Go.Abs.sBin_mul, Go.Abs.sresVs_nil, Go.Abs.sresVs_tmp, Go.Abs.elem_hit, Go.Abs.elem_miss, Go.Abs.elem_nil, Go.Abs.initS_nil, Go.Abs.initS_cons, Option.map_some, Option.map_none, List.map_cons, List.map_nil, List.nil_append, List.append_nil, List.cons_append, Nat.reduceBEq, List.getElem?_cons_zero, List.getElem?_cons_succ, List.getElem?_nil, Option.getD_some, Option.getD_none, Go.Abs.ifThen_true, Go.Abs.ifThen_false, Go.Abs.resOf, Go.Abs.leave, cond_false, cond_true, and_true, true_and, ↓Go.Abs.wpOp_load, ↓Go.Abs.wpOp_ixS, Go.Abs.idx?_nat, Go.Abs.sLoad_ptr, ↓Go.Abs.wpOp_mks, ↓Go.Abs.wpOp_store, Go.Abs.int?_int, Go.Abs.sStore_int, Nat.zero_add, Nat.mul_one, ↓Go.Abs.wpOp_buildS, Go.Abs.sBS_2, Go.Abs.sLoad_cell, ↓Go.Abs.wpOp_app, ↓Go.Abs.wpOp_slice, ↓Go.Abs.wpOp_mn, ↓Go.Abs.wpOp_mx, Go.Abs.sMin_int, Go.Abs.sMax_int, Go.Abs.sBS_0, Go.Abs.sBS_1, Go.Abs.andT_some, ↓Go.Abs.wp_loopT, Go.Abs.sb_none, Go.Abs.sb_some, Int.reduceBEq, Int.reduceBNe, Int.reduceLT, Int.reduceLE, Int.reduceAdd, Int.reduceSub, Int.reduceMul, decide_true, decide_false, Bool.not_true, Bool.not_false, beq_self_eq_true, bne_self_eq_false, ↓Go.Abs.wpOp_slice3, and_self, Go.Abs.gT_t, Go.Abs.gT_f, Go.Abs.gT_u]
    | simp (disch := first | (simp only [Nat.reduceBEq, Go.Abs.elem_hit, Go.Abs.elem_miss, Go.Abs.elem_nil]; done) | omega) only [ha.len, g1, show idx? (.int .i64 0) = some 0 from rfl, ha.ix, ha.ld, g2, i1.len, Go.Abs.wrap_i64, Go.Abs.idx?_pos, Int.toNat_natCast, ↓Go.Abs.wpG_none, ↓Go.Abs.wpG_true, ↓Go.Abs.wpG_false, ↓Go.Abs.wpOps_nil, ↓Go.Abs.wpOps_cons, ↓Go.Abs.sput_some, ↓Go.Abs.sput_none, ↓Go.Abs.sev_t, ↓Go.Abs.sev_c, ↓Go.Abs.look_nil, ↓Go.Abs.look_miss, ↓Go.Abs.lkF_miss, ↓Go.Abs.lkF_nil, ↓Go.Abs.setF_miss, ↓Go.Abs.commitS_nil, ↓Go.Abs.commitS_in, ↓Go.Abs.commitS_out, ↓Go.Abs.wp_skip, ↓Go.Abs.wp_ops, ↓Go.Abs.wp_seq, ↓Go.Abs.wp_cond, ↓Go.Abs.wp_block, ↓Go.Abs.wp_exit, ↓Go.Abs.wp_ret, ↓Go.Abs.onEx_normal, ↓Go.Abs.onEx_exit, ↓Go.Abs.onEx_ret, ↓Go.Abs.onBlk_normal, ↓Go.Abs.onBlk_ret, ↓Go.Abs.onBlk_miss, ↓Go.Abs.wpOp_call, ↓Go.Abs.wpOp_mov, ↓Go.Abs.wpOp_pick, ↓Go.Abs.wpOp_new, ↓Go.Abs.wpOp_bin, ↓Go.Abs.wpOp_not, ↓Go.Abs.wpOp_neg, ↓Go.Abs.wpOp_conv, ↓Go.Abs.wpOp_ext, ↓Go.Abs.wpOp_lenS, ↓Go.Abs.look_hit, ↓Go.Abs.lkF_hit, ↓Go.Abs.setF_hit, ↓Go.Abs.onBlk_hit, Go.Abs.andThen_some, Go.Abs.andThen_none, Go.Abs.setF_nil, Go.Abs.sNot_bool, Go.Abs.sNeg_int, Go.Abs.sConv_int, Go.Abs.sExt_tu, Go.Abs.sLen_sl, Go.Abs.sLen_nil, Go.Abs.sLen_esl, Go.Abs.sBin_lss, Go.Abs.sBin_leq, Go.Abs.sBin_gtr, Go.Abs.sBin_geq, Go.Abs.sBin_eql, Go.Abs.sBin_neq, Go.Abs.sBin_add, Go.Abs.sBin_sub, Go.Abs.sBin_mul, Go.Abs.sresVs_nil, Go.Abs.sresVs_tmp, Go.Abs.elem_hit, Go.Abs.elem_miss, Go.Abs.elem_nil, Go.Abs.initS_nil, Go.Abs.initS_cons, Option.map_some, Option.map_none, List.map_cons, List.map_nil, List.nil_append, List.append_nil, List.cons_append, Nat.reduceBEq, List.getElem?_cons_zero, List.getElem?_cons_succ, List.getElem?_nil, Option.getD_some, Option.getD_none, Go.Abs.ifThen_true, Go.Abs.ifThen_false, Go.Abs.resOf, Go.Abs.leave, cond_false, cond_true, and_true, true_and, ↓Go.Abs.wpOp_load, ↓Go.Abs.wpOp_ixS, Go.Abs.idx?_nat, Go.Abs.sLoad_ptr, ↓Go.Abs.wpOp_mks, ↓Go.Abs.wpOp_store, Go.Abs.int?_int, Go.Abs.sStore_int, Nat.zero_add, Nat.mul_one, ↓Go.Abs.wpOp_buildS, Go.Abs.sBS_2, Go.Abs.sLoad_cell, ↓Go.Abs.wpOp_app, ↓Go.Abs.wpOp_slice, ↓Go.Abs.wpOp_mn, ↓Go.Abs.wpOp_mx, Go.Abs.sMin_int, Go.Abs.sMax_int, Go.Abs.sBS_0, Go.Abs.sBS_1, Go.Abs.andT_some, ↓Go.Abs.wp_loopT, Go.Abs.sb_none, Go.Abs.sb_some, Int.reduceBEq, Int.reduceBNe, Int.reduceLT, Int.reduceLE, Int.reduceAdd, Int.reduceSub, Int.reduceMul, decide_true, decide_false, Bool.not_true, Bool.not_false, beq_self_eq_true, bne_self_eq_false, ↓Go.Abs.wpOp_slice3, and_self, Go.Abs.gT_t, Go.Abs.gT_f, Go.Abs.gT_u]
    | simp (disch := first | (simp only [Nat.reduceBEq, Go.Abs.elem_hit, Go.Abs.elem_miss, Go.Abs.elem_nil]; done) | omega) only [ha.len, g1, i1.len, Go.Abs.wrap_i64, Go.Abs.idx?_pos, Int.toNat_natCast, ↓Go.Abs.wpG_none, ↓Go.Abs.wpG_true, ↓Go.Abs.wpG_false, ↓Go.Abs.wpOps_nil, ↓Go.Abs.wpOps_cons, ↓Go.Abs.sput_some, ↓Go.Abs.sput_none, ↓Go.Abs.sev_t, ↓Go.Abs.sev_c, ↓Go.Abs.look_nil, ↓Go.Abs.look_miss, ↓Go.Abs.lkF_miss, ↓Go.Abs.lkF_nil, ↓Go.Abs.setF_miss, ↓Go.Abs.commitS_nil, ↓Go.Abs.commitS_in, ↓Go.Abs.commitS_out, ↓Go.Abs.wp_skip, ↓Go.Abs.wp_ops, ↓Go.Abs.wp_seq, ↓Go.Abs.wp_cond, ↓Go.Abs.wp_block, ↓Go.Abs.wp_exit, ↓Go.Abs.wp_ret, ↓Go.Abs.onEx_normal, ↓Go.Abs.onEx_exit, ↓Go.Abs.onEx_ret, ↓Go.Abs.onBlk_normal, ↓Go.Abs.onBlk_ret, ↓Go.Abs.onBlk_miss, ↓Go.Abs.wpOp_call, ↓Go.Abs.wpOp_mov, ↓Go.Abs.wpOp_pick, ↓Go.Abs.wpOp_new, ↓Go.Abs.wpOp_bin, ↓Go.Abs.wpOp_not, ↓Go.Abs.wpOp_neg, ↓Go.Abs.wpOp_conv, ↓Go.Abs.wpOp_ext, ↓Go.Abs.wpOp_lenS, ↓Go.Abs.look_hit, ↓Go.Abs.lkF_hit, ↓Go.Abs.setF_hit, ↓Go.Abs.onBlk_hit, Go.Abs.andThen_some, Go.Abs.andThen_none, Go.Abs.setF_nil, Go.Abs.sNot_bool, Go.Abs.sNeg_int, Go.Abs.sConv_int, Go.Abs.sExt_tu, Go.Abs.sLen_sl, Go.Abs.sLen_nil, Go.Abs.sLen_esl, Go.Abs.sBin_lss, Go.Abs.sBin_leq, Go.Abs.sBin_gtr, Go.Abs.sBin_geq, Go.Abs.sBin_eql, Go.Abs.sBin_neq, Go.Abs.sBin_add, Go.Abs.sBin_sub, Go.Abs.sBin_mul, Go.Abs.sresVs_nil, Go.Abs.sresVs_tmp, Go.Abs.elem_hit, Go.Abs.elem_miss, Go.Abs.elem_nil, Go.Abs.initS_nil, Go.Abs.initS_cons, Option.map_some, Option.map_none, List.map_cons, List.map_nil, List.nil_append, List.append_nil, List.cons_append, Nat.reduceBEq, List.getElem?_cons_zero, List.getElem?_cons_succ, List.getElem?_nil, Option.getD_some, Option.getD_none, Go.Abs.ifThen_true, Go.Abs.ifThen_false, Go.Abs.resOf, Go.Abs.leave, cond_false, cond_true, and_true, true_and, ↓Go.Abs.wpOp_load, ↓Go.Abs.wpOp_ixS, Go.Abs.idx?_nat, Go.Abs.sLoad_ptr, ↓Go.Abs.wpOp_mks, ↓Go.Abs.wpOp_store, Go.Abs.int?_int, Go.Abs.sStore_int, Nat.zero_add, Nat.mul_one, ↓Go.Abs.wpOp_buildS, Go.Abs.sBS_2, Go.Abs.sLoad_cell, ↓Go.Abs.wpOp_app, ↓Go.Abs.wpOp_slice, ↓Go.Abs.wpOp_mn, ↓Go.Abs.wpOp_mx, Go.Abs.sMin_int, Go.Abs.sMax_int, Go.Abs.sBS_0, Go.Abs.sBS_1, Go.Abs.andT_some, ↓Go.Abs.wp_loopT, Go.Abs.sb_none, Go.Abs.sb_some, Int.reduceBEq, Int.reduceBNe, Int.reduceLT, Int.reduceLE, Int.reduceAdd, Int.reduceSub, Int.reduceMul, decide_true, decide_false, Bool.not_true, Bool.not_false, beq_self_eq_true, bne_self_eq_false, ↓Go.Abs.wpOp_slice3, and_self, Go.Abs.gT_t, Go.Abs.gT_f, Go.Abs.gT_u]
  all_goals rcases hq with ⟨k1, k2, k3, k4⟩ | ⟨k1, k2, k3, rfl⟩ | ⟨k1, rfl⟩
  all_goals first
    | simp (disch := first | (simp only [Nat.reduceBEq, Go.Abs.elem_hit, Go.Abs.elem_miss, Go.Abs.elem_nil]; done) | omega) only [k1, i1.ix, i1.ld, hto k3, k2, k4, Go.Abs.wrap_i64, Go.Abs.idx?_pos, Int.toNat_natCast, ↓Go.Abs.wpG_none, ↓Go.Abs.wpG_true, ↓Go.Abs.wpG_false, ↓Go.Abs.wpOps_nil, ↓Go.Abs.wpOps_cons, ↓Go.Abs.sput_some, ↓Go.Abs.sput_none, ↓Go.Abs.sev_t, ↓Go.Abs.sev_c, ↓Go.Abs.look_nil, ↓Go.Abs.look_miss, ↓Go.Abs.lkF_miss, ↓Go.Abs.lkF_nil, ↓Go.Abs.setF_miss, ↓Go.Abs.commitS_nil, ↓Go.Abs.commitS_in, ↓Go.Abs.commitS_out, ↓Go.Abs.wp_skip, ↓Go.Abs.wp_ops, ↓Go.Abs.wp_seq, ↓Go.Abs.wp_cond, ↓Go.Abs.wp_block, ↓Go.Abs.wp_exit, ↓Go.Abs.wp_ret, ↓Go.Abs.onEx_normal, ↓Go.Abs.onEx_exit, ↓Go.Abs.onEx_ret, ↓Go.Abs.onBlk_normal, ↓Go.Abs.onBlk_ret, ↓Go.Abs.onBlk_miss, ↓Go.Abs.wpOp_call, ↓Go.Abs.wpOp_mov, ↓Go.Abs.wpOp_pick, ↓Go.Abs.wpOp_new, ↓Go.Abs.wpOp_bin, ↓Go.Abs.wpOp_not, ↓Go.Abs.wpOp_neg, ↓Go.Abs.wpOp_conv, ↓Go.Abs.wpOp_ext, ↓Go.Abs.wpOp_lenS, ↓Go.Abs.look_hit, ↓Go.Abs.lkF_hit, ↓Go.Abs.setF_hit, ↓Go.Abs.onBlk_hit, Go.Abs.andThen_some, Go.Abs.andThen_none, Go.Abs.setF_nil, Go.Abs.sNot_bool, Go.Abs.sNeg_int, Go.Abs.sConv_int, Go.Abs.sExt_tu, Go.Abs.sLen_sl, Go.Abs.sLen_nil, Go.Abs.sLen_esl, Go.Abs.sBin_lss, Go.Abs.sBin_leq, Go.Abs.sBin_gtr, Go.Abs.sBin_geq, Go.Abs.sBin_eql, Go.Abs.sBin_neq, Go.Abs.sBin_add, Go.Abs.sBin_sub, Go.Abs.sBin_mul, Go.Abs.sresVs_nil, Go.Abs.sresVs_tmp, Go.Abs.elem_hit, Go.Abs.elem_miss, Go.Abs.elem_nil, Go.Abs.initS_nil, Go.Abs.initS_cons, Option.map_some, Option.map_none, List.map_cons, List.map_nil, List.nil_append, List.append_nil, List.cons_append, Nat.reduceBEq, List.getElem?_cons_zero, List.getElem?_cons_succ, List.getElem?_nil, Option.getD_some, Option.getD_none, Go.Abs.ifThen_true, Go.Abs.ifThen_false, Go.Abs.resOf, Go.Abs.leave, cond_false, cond_true, and_true, true_and, ↓Go.Abs.wpOp_load, ↓Go.Abs.wpOp_ixS, Go.Abs.idx?_nat, Go.Abs.sLoad_ptr, ↓Go.Abs.wpOp_mks, ↓Go.Abs.wpOp_store, Go.Abs.int?_int, Go.Abs.sStore_int, Nat.zero_add, Nat.mul_one, ↓Go.Abs.wpOp_buildS, Go.Abs.sBS_2, Go.Abs.sLoad_cell, ↓Go.Abs.wpOp_app, ↓Go.Abs.wpOp_slice, ↓Go.Abs.wpOp_mn, ↓Go.Abs.wpOp_mx, Go.Abs.sMin_int, Go.Abs.sMax_int, Go.Abs.sBS_0, Go.Abs.sBS_1, Go.Abs.andT_some, ↓Go.Abs.wp_loopT, Go.Abs.sb_none, Go.Abs.sb_some, Int.reduceBEq, Int.reduceBNe, Int.reduceLT, Int.reduceLE, Int.reduceAdd, Int.reduceSub, Int.reduceMul, decide_true, decide_false, Bool.not_true, Bool.not_false, beq_self_eq_true, bne_self_eq_false, ↓Go.Abs.wpOp_slice3, and_self, Go.Abs.gT_t, Go.Abs.gT_f, Go.Abs.gT_u]
    | simp (disch := first | (simp only [Nat.reduceBEq, Go.Abs.elem_hit, Go.Abs.elem_miss, Go.Abs.elem_nil]; done) | omega) only [k1, i1.ix, i1.ld, hto k3, k2, Go.Abs.wrap_i64, Go.Abs.idx?_pos, Int.toNat_natCast, ↓Go.Abs.wpG_none, ↓Go.Abs.wpG_true, ↓Go.Abs.wpG_false, ↓Go.Abs.wpOps_nil, ↓Go.Abs.wpOps_cons, ↓Go.Abs.sput_some, ↓Go.Abs.sput_none, ↓Go.Abs.sev_t, ↓Go.Abs.sev_c, ↓Go.Abs.look_nil, ↓Go.Abs.look_miss, ↓Go.Abs.lkF_miss, ↓Go.Abs.lkF_nil, ↓Go.Abs.setF_miss, ↓Go.Abs.commitS_nil, ↓Go.Abs.commitS_in, ↓Go.Abs.commitS_out, ↓Go.Abs.wp_skip, ↓Go.Abs.wp_ops, ↓Go.Abs.wp_seq, ↓Go.Abs.wp_cond, ↓Go.Abs.wp_block, ↓Go.Abs.wp_exit, ↓Go.Abs.wp_ret, ↓Go.Abs.onEx_normal, ↓Go.Abs.onEx_exit, ↓Go.Abs.onEx_ret, ↓Go.Abs.onBlk_normal, ↓Go.Abs.onBlk_ret, ↓Go.Abs.onBlk_miss, ↓Go.Abs.wpOp_call, ↓Go.Abs.wpOp_mov, ↓Go.Abs.wpOp_pick, ↓Go.Abs.wpOp_new, ↓Go.Abs.wpOp_bin, ↓Go.Abs.wpOp_not, ↓Go.Abs.wpOp_neg, ↓Go.Abs.wpOp_conv, ↓Go.Abs.wpOp_ext, ↓Go.Abs.wpOp_lenS, ↓Go.Abs.look_hit, ↓Go.Abs.lkF_hit, ↓Go.Abs.setF_hit, ↓Go.Abs.onBlk_hit, Go.Abs.andThen_some, Go.Abs.andThen_none, Go.Abs.setF_nil, Go.Abs.sNot_bool, Go.Abs.sNeg_int, Go.Abs.sConv_int, Go.Abs.sExt_tu, Go.Abs.sLen_sl, Go.Abs.sLen_nil, Go.Abs.sLen_esl, Go.Abs.sBin_lss, Go.Abs.sBin_leq, Go.Abs.sBin_gtr, Go.Abs.sBin_geq, Go.Abs.sBin_eql, Go.Abs.sBin_neq, Go.Abs.sBin_add, Go.Abs.sBin_sub, Go.Abs.sBin_mul, Go.Abs.sresVs_nil, Go.Abs.sresVs_tmp, Go.Abs.elem_hit, Go.Abs.elem_miss, Go.Abs.elem_nil, Go.Abs.initS_nil, Go.Abs.initS_cons, Option.map_some, Option.map_none, List.map_cons, List.map_nil, List.nil_append, List.append_nil, List.cons_append, Nat.reduceBEq, List.getElem?_cons_zero, List.getElem?_cons_succ, List.getElem?_nil, Option.getD_some, Option.getD_none, Go.Abs.ifThen_true, Go.Abs.ifThen_false, Go.Abs.resOf, Go.Abs.leave, cond_false, cond_true, and_true, true_and, ↓Go.Abs.wpOp_load, ↓Go.Abs.wpOp_ixS, Go.Abs.idx?_nat, Go.Abs.sLoad_ptr, ↓Go.Abs.wpOp_mks, ↓Go.Abs.wpOp_store, Go.Abs.int?_int, Go.Abs.sStore_int, Nat.zero_add, Nat.mul_one, ↓Go.Abs.wpOp_buildS, Go.Abs.sBS_2, Go.Abs.sLoad_cell, ↓Go.Abs.wpOp_app, ↓Go.Abs.wpOp_slice, ↓Go.Abs.wpOp_mn, ↓Go.Abs.wpOp_mx, Go.Abs.sMin_int, Go.Abs.sMax_int, Go.Abs.sBS_0, Go.Abs.sBS_1, Go.Abs.andT_some, ↓Go.Abs.wp_loopT, Go.Abs.sb_none, Go.Abs.sb_some, Int.reduceBEq, Int.reduceBNe, Int.reduceLT, Int.reduceLE, Int.reduceAdd, Int.reduceSub, Int.reduceMul, decide_true, decide_false, Bool.not_true, Bool.not_false, beq_self_eq_true, bne_self_eq_false, ↓Go.Abs.wpOp_slice3, and_self, Go.Abs.gT_t, Go.Abs.gT_f, Go.Abs.gT_u]
    | simp (disch := first | (simp only [Nat.reduceBEq, Go.Abs.elem_hit, Go.Abs.elem_miss, Go.Abs.elem_nil]; done) | omega) only [k1, Go.Abs.wrap_i64, Go.Abs.idx?_pos, Int.toNat_natCast, ↓Go.Abs.wpG_none, ↓Go.Abs.wpG_true, ↓Go.Abs.wpG_false, ↓Go.Abs.wpOps_nil, ↓Go.Abs.wpOps_cons, ↓Go.Abs.sput_some, ↓Go.Abs.sput_none, ↓Go.Abs.sev_t, ↓Go.Abs.sev_c, ↓Go.Abs.look_nil, ↓Go.Abs.look_miss, ↓Go.Abs.lkF_miss, ↓Go.Abs.lkF_nil, ↓Go.Abs.setF_miss, ↓Go.Abs.commitS_nil, ↓Go.Abs.commitS_in, ↓Go.Abs.commitS_out, ↓Go.Abs.wp_skip, ↓Go.Abs.wp_ops, ↓Go.Abs.wp_seq, ↓Go.Abs.wp_cond, ↓Go.Abs.wp_block, ↓Go.Abs.wp_exit, ↓Go.Abs.wp_ret, ↓Go.Abs.onEx_normal, ↓Go.Abs.onEx_exit, ↓Go.Abs.onEx_ret, ↓Go.Abs.onBlk_normal, ↓Go.Abs.onBlk_ret, ↓Go.Abs.onBlk_miss, ↓Go.Abs.wpOp_call, ↓Go.Abs.wpOp_mov, ↓Go.Abs.wpOp_pick, ↓Go.Abs.wpOp_new, ↓Go.Abs.wpOp_bin, ↓Go.Abs.wpOp_not, ↓Go.Abs.wpOp_neg, ↓Go.Abs.wpOp_conv, ↓Go.Abs.wpOp_ext, ↓Go.Abs.wpOp_lenS, ↓Go.Abs.look_hit, ↓Go.Abs.lkF_hit, ↓Go.Abs.setF_hit, ↓Go.Abs.onBlk_hit, Go.Abs.andThen_some, Go.Abs.andThen_none, Go.Abs.setF_nil, Go.Abs.sNot_bool, Go.Abs.sNeg_int, Go.Abs.sConv_int, Go.Abs.sExt_tu, Go.Abs.sLen_sl, Go.Abs.sLen_nil, Go.Abs.sLen_esl, Go.Abs.sBin_lss, Go.Abs.sBin_leq, Go.Abs.sBin_gtr, Go.Abs.sBin_geq, Go.Abs.sBin_eql, Go.Abs.sBin_neq, Go.Abs.sBin_add, Go.Abs.sBin_sub, Go.Abs.sBin_mul, Go.Abs.sresVs_nil, Go.Abs.sresVs_tmp, Go.Abs.elem_hit, Go.Abs.elem_miss, Go.Abs.elem_nil, Go.Abs.initS_nil, Go.Abs.initS_cons, Option.map_some, Option.map_none, List.map_cons, List.map_nil, List.nil_append, List.append_nil, List.cons_append, Nat.reduceBEq, List.getElem?_cons_zero, List.getElem?_cons_succ, List.getElem?_nil, Option.getD_some, Option.getD_none, Go.Abs.ifThen_true, Go.Abs.ifThen_false, Go.Abs.resOf, Go.Abs.leave, cond_false, cond_true, and_true, true_and, ↓Go.Abs.wpOp_load, ↓Go.Abs.wpOp_ixS, Go.Abs.idx?_nat, Go.Abs.sLoad_ptr, ↓Go.Abs.wpOp_mks, ↓Go.Abs.wpOp_store, Go.Abs.int?_int, Go.Abs.sStore_int, Nat.zero_add, Nat.mul_one, ↓Go.Abs.wpOp_buildS, Go.Abs.sBS_2, Go.Abs.sLoad_cell, ↓Go.Abs.wpOp_app, ↓Go.Abs.wpOp_slice, ↓Go.Abs.wpOp_mn, ↓Go.Abs.wpOp_mx, Go.Abs.sMin_int, Go.Abs.sMax_int, Go.Abs.sBS_0, Go.Abs.sBS_1, Go.Abs.andT_some, ↓Go.Abs.wp_loopT, Go.Abs.sb_none, Go.Abs.sb_some, Int.reduceBEq, Int.reduceBNe, Int.reduceLT, Int.reduceLE, Int.reduceAdd, Int.reduceSub, Int.reduceMul, decide_true, decide_false, Bool.not_true, Bool.not_false, beq_self_eq_true, bne_self_eq_false, ↓Go.Abs.wpOp_slice3, and_self, Go.Abs.gT_t, Go.Abs.gT_f, Go.Abs.gT_u]
  all_goals exact ⟨_, rfl, rfl⟩

end Go.Proofs.Ytogfojkjocbahaa
