/- Bits, and the small functions that the program and the references share. -/
import Derived.Test.YtelalpohbodolaaDoorSN
import Derived.Test.YtelalpohbodolaaDoorSW
import Derived.Test.YtelalpohbodolaaDoorSX
import Derived.Test.YtelalpohbodolaaDoorSV
import Derived.Test.YtelalpohbodolaaDoorMD
set_option linter.unusedSimpArgs false
set_option linter.unusedVariables false
set_option maxHeartbeats 4000000
set_option maxRecDepth 20000
namespace Go.Abs
open Go
theorem wrap_u {n : Nat} (h : n < 2 ^ 62) : IntKind.wrap .u64 (n : Int) = n := wrap_u64 (by omega) (by omega)
theorem sBinU_shl {j : Nat} (hj : j ≤ 40) : sBin .shl .no (.int .u64 1) (.int .i64 (j : Int)) = some (.int .u64 ((2 ^ j : Nat) : Int)) := by
  have hm : min ((j : Int).toNat) IntKind.u64.bits = j := by rw [Int.toNat_natCast]; show min j 64 = j; omega
  simp only [sBin, abShift, hm]
  rw [if_neg (by omega)]
  have : (1 : Int) * 2 ^ j = ((2 ^ j : Nat) : Int) := by simp
  rw [this, wrap_u (Nat.lt_of_le_of_lt (Nat.pow_le_pow_right (by omega) hj) (by omega))]
theorem sBinU_shr {a j : Nat} (hj : j ≤ 40) : sBin .shr .no (.int .u64 (a : Int)) (.int .i64 (j : Int)) = some (.int .u64 ((a / 2 ^ j : Nat) : Int)) := by
  have hm : min ((j : Int).toNat) IntKind.u64.bits = j := by rw [Int.toNat_natCast]; show min j 64 = j; omega
  simp only [sBin, abShift, hm]
  rw [if_neg (by omega), Int.fdiv_eq_ediv_of_nonneg _ (by have := Int.pow_pos (n := 2) (m := j) (by omega); omega)]
  simp
theorem bvU {a : Nat} (h : a < 2 ^ 62) : (BitVec.ofInt 64 (a : Int)).toNat = a := by
  rw [BitVec.ofInt_natCast, BitVec.toNat_ofNat, Nat.mod_eq_of_lt (by omega)]
theorem sBinU_and {a b : Nat} (ha : a < 2 ^ 62) (hb : b < 2 ^ 62) : sBin .and .no (.int .u64 (a : Int)) (.int .u64 (b : Int)) = some (.int .u64 ((a &&& b : Nat) : Int)) := by
  have e : sBin .and .no (.int .u64 (a : Int)) (.int .u64 (b : Int)) = some (.int .u64 (IntKind.wrap .u64 ((BitVec.ofInt 64 (a : Int) &&& BitVec.ofInt 64 (b : Int)).toNat : Int))) := rfl
  rw [e, BitVec.toNat_and, bvU ha, bvU hb, wrap_u (Nat.lt_of_le_of_lt Nat.and_le_left ha)]
theorem sBinU_or {a b : Nat} (ha : a < 2 ^ 62) (hb : b < 2 ^ 62) : sBin .or .no (.int .u64 (a : Int)) (.int .u64 (b : Int)) = some (.int .u64 ((a ||| b : Nat) : Int)) := by
  have e : sBin .or .no (.int .u64 (a : Int)) (.int .u64 (b : Int)) = some (.int .u64 (IntKind.wrap .u64 ((BitVec.ofInt 64 (a : Int) ||| BitVec.ofInt 64 (b : Int)).toNat : Int))) := rfl
  rw [e, BitVec.toNat_or, bvU ha, bvU hb, wrap_u (Nat.or_lt_two_pow ha hb)]
theorem sBinU_xor {a b : Nat} (ha : a < 2 ^ 62) (hb : b < 2 ^ 62) : sBin .xor .no (.int .u64 (a : Int)) (.int .u64 (b : Int)) = some (.int .u64 ((a ^^^ b : Nat) : Int)) := by
  have e : sBin .xor .no (.int .u64 (a : Int)) (.int .u64 (b : Int)) = some (.int .u64 (IntKind.wrap .u64 ((BitVec.ofInt 64 (a : Int) ^^^ BitVec.ofInt 64 (b : Int)).toNat : Int))) := rfl
  rw [e, BitVec.toNat_xor, bvU ha, bvU hb, wrap_u (Nat.xor_lt_two_pow ha hb)]
theorem sBinU_and1 {a : Nat} (ha : a < 2 ^ 62) : sBin .and .no (.int .u64 (a : Int)) (.int .u64 1) = some (.int .u64 ((a % 2 : Nat) : Int)) := by
  have := sBinU_and (b := 1) ha (by omega)
  rw [Nat.and_one_is_mod] at this
  exact this
theorem sIxT_8 {h : Hp} {l : List UInt8} {i b : Nat} (hb : (l[i]?).map (·.toNat) = some b) : sIxT h (some i) (.str l) = some (.int .u8 (b : Int), h) := by
  cases e : l[i]? with
  | none => rw [e] at hb; cases hb
  | some x =>
    rw [e] at hb
    simp only [sIxT, e, Option.map_some] at hb ⊢
    cases hb
    rfl
end Go.Abs
namespace Go.Wg
/-- A row of weights. -/
def WFp (zs : List Int) : Prop := zs.Pairwise (· < ·) ∧ ∀ z ∈ zs, 1 ≤ z ∧ z ≤ 100000
def WF (zs : List Int) : Prop := WFp zs ∧ 0 < zs.length
instance (zs : List Int) : Decidable (WFp zs) := inferInstanceAs (Decidable (_ ∧ _))
instance (zs : List Int) : Decidable (WF zs) := inferInstanceAs (Decidable (_ ∧ _))
/-- The element before one. -/
def bfr (zs : List Int) (i : Nat) : Int := if i = 0 then 0 else zs.getD (i - 1) 0
theorem WFp.bfr {zs : List Int} {i : Nat} (h : WFp (zs.take i)) (hi : i ≤ zs.length) : 0 ≤ bfr zs i ∧ bfr zs i ≤ 100000 := by
  unfold Wg.bfr
  by_cases e : i = 0
  · rw [if_pos e]; omega
  · rw [if_neg e]
    have := h.2 (zs.getD (i - 1) 0) (by
      rw [List.getD_eq_getElem?_getD, List.getElem?_eq_getElem (show i - 1 < zs.length by omega), Option.getD_some]
      exact List.mem_take_iff_getElem.2 ⟨i - 1, by omega, rfl⟩)
    omega
theorem wf_step {zs : List Int} {i : Nat} (h : WFp (zs.take i)) (hi : i < zs.length) : WFp (zs.take (i + 1)) ↔ bfr zs i + 1 ≤ zs.getD i 0 ∧ zs.getD i 0 ≤ 100000 := by
  have hb := h.bfr (by omega)
  rw [List.take_succ_eq_append_getElem hi]
  have ge : zs.getD i 0 = zs[i] := by rw [List.getD_eq_getElem?_getD, List.getElem?_eq_getElem hi, Option.getD_some]
  rw [ge]
  unfold WFp
  rw [List.pairwise_append]
  constructor
  · rintro ⟨⟨_, _, h3⟩, h4⟩
    have a1 := h4 zs[i] (List.mem_append_right _ (List.mem_singleton.2 rfl))
    refine ⟨?_, a1.2⟩
    unfold Wg.bfr
    by_cases e : i = 0
    · rw [if_pos e]; omega
    · rw [if_neg e, List.getD_eq_getElem?_getD, List.getElem?_eq_getElem (show i - 1 < zs.length by omega), Option.getD_some]
      have := h3 zs[i - 1] (List.mem_take_iff_getElem.2 ⟨i - 1, by omega, rfl⟩) zs[i] (by simp)
      omega
  · rintro ⟨h1, h2⟩
    refine ⟨⟨h.1, List.pairwise_singleton _ _, fun a ha b hb' => ?_⟩, fun z hz => ?_⟩
    · rw [List.mem_singleton] at hb'
      subst hb'
      obtain ⟨j, hj, rfl⟩ := List.mem_take_iff_getElem.1 ha
      unfold Wg.bfr at h1
      rw [if_neg (by omega), List.getD_eq_getElem?_getD, List.getElem?_eq_getElem (show i - 1 < zs.length by omega), Option.getD_some] at h1
      by_cases e : j = i - 1
      · subst e; omega
      · have hp := List.pairwise_iff_getElem.1 h.1 j (i - 1) (by simp; omega) (by simp; omega) (by omega)
        simp at hp
        omega
    · rw [List.mem_append, List.mem_singleton] at hz
      rcases hz with hz | rfl
      · exact h.2 z hz
      · omega
theorem WFp.take {zs : List Int} (h : WFp zs) (i : Nat) : WFp (zs.take i) := ⟨h.1.sublist (List.take_sublist _ _), fun z hz => h.2 z (List.mem_of_mem_take hz)⟩
theorem bfr_suc {zs : List Int} {i : Nat} : bfr zs (i + 1) = zs.getD i 0 := by unfold bfr; rw [if_neg (by omega), Nat.add_sub_cancel]
/-- What is wrong with weights. -/
def errW (zs : List Int) (most : Nat) (total : Int) : Int := if most < zs.length then 3 else if total < 0 then 1 else if ¬ WF zs then 2 else 0
def l8 : List UInt8 := [0, 1, 2, 2, 3, 3, 3, 3, 4, 4, 4, 4, 4, 4, 4, 4, 5, 5, 5, 5, 5, 5, 5, 5, 5, 5, 5, 5, 5, 5, 5, 5, 6, 6, 6, 6, 6, 6, 6, 6, 6, 6, 6, 6, 6, 6, 6, 6, 6, 6, 6, 6, 6, 6, 6, 6, 6, 6, 6, 6, 6, 6, 6, 6, 7, 7, 7, 7, 7, 7, 7, 7, 7, 7, 7, 7, 7, 7, 7, 7, 7, 7, 7, 7, 7, 7, 7, 7, 7, 7, 7, 7, 7, 7, 7, 7, 7, 7, 7, 7, 7, 7, 7, 7, 7, 7, 7, 7, 7, 7, 7, 7, 7, 7, 7, 7, 7, 7, 7, 7, 7, 7, 7, 7, 7, 7, 7, 7, 8, 8, 8, 8, 8, 8, 8, 8, 8, 8, 8, 8, 8, 8, 8, 8, 8, 8, 8, 8, 8, 8, 8, 8, 8, 8, 8, 8, 8, 8, 8, 8, 8, 8, 8, 8, 8, 8, 8, 8, 8, 8, 8, 8, 8, 8, 8, 8, 8, 8, 8, 8, 8, 8, 8, 8, 8, 8, 8, 8, 8, 8, 8, 8, 8, 8, 8, 8, 8, 8, 8, 8, 8, 8, 8, 8, 8, 8, 8, 8, 8, 8, 8, 8, 8, 8, 8, 8, 8, 8, 8, 8, 8, 8, 8, 8, 8, 8, 8, 8, 8, 8, 8, 8, 8, 8, 8, 8, 8, 8, 8, 8, 8, 8, 8, 8, 8, 8, 8, 8, 8, 8, 8, 8, 8, 8, 8, 8]
theorem l8_all : ∀ v : Fin 256, (l8[v.1]?).map (·.toNat) = some (blen v.1) := by decide +kernel
theorem blen_shift {x : Nat} (h : 256 ≤ x) : blen x = blen (x / 256) + 8 := by
  obtain ⟨a, p, rfl, hp, e⟩ := blen_pos (show x ≠ 0 by omega)
  rw [e]
  have ha : 8 ≤ a := by
    rcases Nat.lt_or_ge a 8 with h1 | h1
    · have : 2 ^ a ≤ 2 ^ 7 := Nat.pow_le_pow_right (by omega) (by omega)
      omega
    · exact h1
  obtain ⟨c, rfl⟩ : ∃ c, a = c + 8 := ⟨a - 8, by omega⟩
  have e2 : 2 ^ (c + 8) = 2 ^ c * 256 := by rw [Nat.pow_add]
  have e3 : (p + 2 ^ (c + 8)) / 256 = p / 256 + 2 ^ c := by rw [e2, Nat.add_mul_div_right _ _ (by omega)]
  rw [e3, blen_add (by rw [e2] at hp; omega)]
end Go.Wg
namespace Go.Proofs.YtelalpohbodolaaDoor
open Go Go.Abs Go.Wg
theorem f27 (a b c : Int) (h : Hp) (hk : Hok h) : Evals Tryd.prog tab false (.func 27) [.int .i64 a, .int .i64 b, .int .i64 c] h (.bool (decide (b ≤ a ∧ a ≤ c)), h) := by
  refine evals_pure c27 rfl hk ?_
  simp only [sf27, initS_cons, initS_nil]
  simp only [↓wA,wB,wL,resOf,Nat.reduceBEq,Int.reduceBEq,Int.reduceBNe,Int.reduceLT,Int.reduceLE,Int.reduceAdd,Int.reduceSub,Int.reduceMul,Int.reduceToNat]
  refine ifThen_intro (fun e => ?_) (fun e => ?_) <;> have eq := e <;> try simp [-List.getD_eq_getElem?_getD] at eq <;> simp only [e, ↓wA,wB,wL,resOf,Nat.reduceBEq,Int.reduceBEq,Int.reduceBNe,Int.reduceLT,Int.reduceLE,Int.reduceAdd,Int.reduceSub,Int.reduceMul,Int.reduceToNat] <;> refine ⟨_, rfl, ?_, by (repeat' (first|assumption|exact mAx _|refine mBx ?_ ?_|exact mCx (by assumption)|refine mDx ?_|refine mEx ?_ ?_ ?_|exact mFx|refine mGx ?_ ?_ ?_|exact mHx|exact mIx _|(simp only [wM,Nat.reduceAdd,Nat.reduceLT,Nat.reduceLeDiff];done)))⟩ <;> simp <;> omega

theorem f31 (a : AV) (zs : List Int) (v : Int) (h : Hp) (hk : Hok h) (ha : Ints h.blks .i64 a zs) (hz : zs.length < 2 ^ 62) :
    Evals Tryd.prog tab false (.func 31) [a, .int .i64 v] h (.bool (decide (v ∈ zs)), h) := by
  refine evals_pure c31 rfl hk ?_
  simp only [sf31, initS_cons, initS_nil]
  simp (disch := first|(simp only [Nat.reduceBEq,wE];done)|((repeat' (first|assumption|exact mAx _|refine mBx ?_ ?_|exact mCx (by assumption)|refine mDx ?_|refine mEx ?_ ?_ ?_|exact mFx|refine mGx ?_ ?_ ?_|exact mHx|exact mIx _|(simp only [wM,Nat.reduceAdd,Nat.reduceLT,Nat.reduceLeDiff];done)));done)|omega|decide) only [↓wA,wB,wL,resOf,Nat.reduceBEq,Int.reduceBEq,Int.reduceBNe,Int.reduceLT,Int.reduceLE,Int.reduceAdd,Int.reduceSub,Int.reduceMul,Int.reduceToNat]
  refine wloop (fun mm ss => ∃ (i : Nat) (u4 u9 u17 : AV), (mm = zs.length - i) ∧ (i ≤ zs.length ∧ v ∉ zs.take i) ∧ ss = { fr := [(0, a), (1, .int .i64 v), (4, u4), (5, .int .i64 i), (9, u9), (17, u17)], hp := h.en }) (zs.length) ?_ ?_
  ·
    refine ⟨0, _, _, _, by omega, ⟨by omega, by simp⟩, rfl⟩
  rintro nA sA ⟨i, u4, u9, u17, hnA, ⟨hi, hn⟩, rfl⟩
  simp (disch := first|(simp only [Nat.reduceBEq,wE];done)|((repeat' (first|assumption|exact mAx _|refine mBx ?_ ?_|exact mCx (by assumption)|refine mDx ?_|refine mEx ?_ ?_ ?_|exact mFx|refine mGx ?_ ?_ ?_|exact mHx|exact mIx _|(simp only [wM,Nat.reduceAdd,Nat.reduceLT,Nat.reduceLeDiff];done)));done)|omega|decide) only [ha.len, ↓wA,wB,wL,resOf,Nat.reduceBEq,Int.reduceBEq,Int.reduceBNe,Int.reduceLT,Int.reduceLE,Int.reduceAdd,Int.reduceSub,Int.reduceMul,Int.reduceToNat]
  refine ifThen_intro (fun e => ?_) (fun e => ?_) <;> have eq := e <;> try simp [-List.getD_eq_getElem?_getD] at eq
  · simp (disch := first|(simp only [Nat.reduceBEq,wE];done)|((repeat' (first|assumption|exact mAx _|refine mBx ?_ ?_|exact mCx (by assumption)|refine mDx ?_|refine mEx ?_ ?_ ?_|exact mFx|refine mGx ?_ ?_ ?_|exact mHx|exact mIx _|(simp only [wM,Nat.reduceAdd,Nat.reduceLT,Nat.reduceLeDiff];done)));done)|omega|decide) only [e, ha.ix, ha.ld, ↓wA,wB,wL,resOf,Nat.reduceBEq,Int.reduceBEq,Int.reduceBNe,Int.reduceLT,Int.reduceLE,Int.reduceAdd,Int.reduceSub,Int.reduceMul,Int.reduceToNat]
    refine ifThen_intro (fun e2 => ?_) (fun e2 => ?_) <;> have e2q := e2 <;> try simp [-List.getD_eq_getElem?_getD] at e2q
    · simp (disch := first|(simp only [Nat.reduceBEq,wE];done)|((repeat' (first|assumption|exact mAx _|refine mBx ?_ ?_|exact mCx (by assumption)|refine mDx ?_|refine mEx ?_ ?_ ?_|exact mFx|refine mGx ?_ ?_ ?_|exact mHx|exact mIx _|(simp only [wM,Nat.reduceAdd,Nat.reduceLT,Nat.reduceLeDiff];done)));done)|omega|decide) only [e, e2, ↓wA,wB,wL,resOf,Nat.reduceBEq,Int.reduceBEq,Int.reduceBNe,Int.reduceLT,Int.reduceLE,Int.reduceAdd,Int.reduceSub,Int.reduceMul,Int.reduceToNat]
      refine ⟨_, rfl, ?_, by (repeat' (first|assumption|exact mAx _|refine mBx ?_ ?_|exact mCx (by assumption)|refine mDx ?_|refine mEx ?_ ?_ ?_|exact mFx|refine mGx ?_ ?_ ?_|exact mHx|exact mIx _|(simp only [wM,Nat.reduceAdd,Nat.reduceLT,Nat.reduceLeDiff];done)))⟩
      have hm : v ∈ zs := by rw [← e2q]; simp [List.getD_eq_getElem?_getD, List.getElem?_eq_getElem eq]
      rw [decide_eq_true hm]
    · simp (disch := first|(simp only [Nat.reduceBEq,wE];done)|((repeat' (first|assumption|exact mAx _|refine mBx ?_ ?_|exact mCx (by assumption)|refine mDx ?_|refine mEx ?_ ?_ ?_|exact mFx|refine mGx ?_ ?_ ?_|exact mHx|exact mIx _|(simp only [wM,Nat.reduceAdd,Nat.reduceLT,Nat.reduceLeDiff];done)));done)|omega|decide) only [e, e2, ↓wA,wB,wL,resOf,Nat.reduceBEq,Int.reduceBEq,Int.reduceBNe,Int.reduceLT,Int.reduceLE,Int.reduceAdd,Int.reduceSub,Int.reduceMul,Int.reduceToNat]
      refine ⟨_, ?_, i + 1, _, _, _, rfl, ?_, rfl⟩
      · omega
      refine ⟨by omega, fun hm => ?_⟩
      rw [List.take_succ_eq_append_getElem eq, List.mem_append, List.mem_singleton] at hm
      rcases hm with hm | hm
      · exact hn hm
      · exact e2q (by rw [hm]; simp [List.getD_eq_getElem?_getD, List.getElem?_eq_getElem eq])
  · simp (disch := first|(simp only [Nat.reduceBEq,wE];done)|((repeat' (first|assumption|exact mAx _|refine mBx ?_ ?_|exact mCx (by assumption)|refine mDx ?_|refine mEx ?_ ?_ ?_|exact mFx|refine mGx ?_ ?_ ?_|exact mHx|exact mIx _|(simp only [wM,Nat.reduceAdd,Nat.reduceLT,Nat.reduceLeDiff];done)));done)|omega|decide) only [e, ↓wA,wB,wL,resOf,Nat.reduceBEq,Int.reduceBEq,Int.reduceBNe,Int.reduceLT,Int.reduceLE,Int.reduceAdd,Int.reduceSub,Int.reduceMul,Int.reduceToNat]
    refine ⟨_, rfl, ?_, by (repeat' (first|assumption|exact mAx _|refine mBx ?_ ?_|exact mCx (by assumption)|refine mDx ?_|refine mEx ?_ ?_ ?_|exact mFx|refine mGx ?_ ?_ ?_|exact mHx|exact mIx _|(simp only [wM,Nat.reduceAdd,Nat.reduceLT,Nat.reduceLeDiff];done)))⟩
    rw [List.take_of_length_le (by omega)] at hn
    rw [decide_eq_false hn]

theorem lt_split {xs ys : List Int} {i : Nat} (hall : xs.take i = ys.take i) : xs < ys ↔ xs.drop i < ys.drop i := by
  conv => lhs; rw [← List.take_append_drop i xs, ← List.take_append_drop i ys, hall]
  generalize ys.take i = p
  induction p with
  | nil => simp
  | cons a p ih => simp [List.cons_lt_cons_iff, ih]

theorem lt_at {xs ys : List Int} {i : Nat} (h1 : i < xs.length) (h2 : i < ys.length) (hall : xs.take i = ys.take i) (hne : ¬ xs.getD i 0 = ys.getD i 0) : xs < ys ↔ xs.getD i 0 < ys.getD i 0 := by
  rw [lt_split hall, List.drop_eq_getElem_cons h1, List.drop_eq_getElem_cons h2, List.cons_lt_cons_iff]
  simp only [List.getD_eq_getElem?_getD, List.getElem?_eq_getElem h1, List.getElem?_eq_getElem h2, Option.getD_some] at hne ⊢
  simp [hne]

theorem take_step {xs ys : List Int} {i : Nat} (h1 : i < xs.length) (h2 : i < ys.length) (hall : xs.take i = ys.take i) (he : xs.getD i 0 = ys.getD i 0) : xs.take (i + 1) = ys.take (i + 1) := by
  simp only [List.getD_eq_getElem?_getD, List.getElem?_eq_getElem h1, List.getElem?_eq_getElem h2, Option.getD_some] at he
  rw [List.take_add_one, List.take_add_one, hall, List.getElem?_eq_getElem h1, List.getElem?_eq_getElem h2, he]

theorem lt_end2 {xs ys : List Int} {i : Nat} (h2 : ys.length ≤ i) (hall : xs.take i = ys.take i) (hj : i ≤ ys.length) : xs.length < ys.length ↔ xs < ys := by
  rw [lt_split hall, List.drop_of_length_le h2]
  simp only [List.not_lt_nil, iff_false]
  have := congrArg List.length hall
  simp only [List.length_take] at this
  have h3 : i = ys.length := by omega
  omega

theorem lt_end1 {xs ys : List Int} {i : Nat} (h1 : xs.length ≤ i) (hall : xs.take i = ys.take i) (hj : i ≤ xs.length) : xs.length < ys.length ↔ xs < ys := by
  rw [lt_split hall, List.drop_of_length_le h1]
  by_cases h : i < ys.length
  · rw [List.drop_eq_getElem_cons h]
    simp only [List.nil_lt_cons, iff_true]
    omega
  · rw [List.drop_of_length_le (by omega)]
    simp only [List.not_lt_nil, iff_false]
    omega

theorem f33 (a b : AV) (xs ys : List Int) (h : Hp) (hk : Hok h) (ha : Ints h.blks .i64 a xs) (hb : Ints h.blks .i64 b ys) (hx : xs.length < 2 ^ 62) (hy : ys.length < 2 ^ 62) :
    Evals Tryd.prog tab false (.func 33) [a, b] h (.bool (decide (xs < ys)), h) := by
  refine evals_pure c33 rfl hk ?_
  simp only [sf33, initS_cons, initS_nil]
  simp (disch := first|(simp only [Nat.reduceBEq,wE];done)|((repeat' (first|assumption|exact mAx _|refine mBx ?_ ?_|exact mCx (by assumption)|refine mDx ?_|refine mEx ?_ ?_ ?_|exact mFx|refine mGx ?_ ?_ ?_|exact mHx|exact mIx _|(simp only [wM,Nat.reduceAdd,Nat.reduceLT,Nat.reduceLeDiff];done)));done)|omega|decide) only [↓wA,wB,wL,resOf,Nat.reduceBEq,Int.reduceBEq,Int.reduceBNe,Int.reduceLT,Int.reduceLE,Int.reduceAdd,Int.reduceSub,Int.reduceMul,Int.reduceToNat]
  refine wloop (fun mm ss => ∃ (i : Nat) (u15 u26 : AV), (mm = xs.length - i) ∧ (i ≤ xs.length ∧ i ≤ ys.length ∧ xs.take i = ys.take i) ∧ ss = { fr := [(0, a), (1, b), (4, .bool false), (5, .int .i64 i), (15, u15), (26, u26)], hp := h.en }) (xs.length) ?_ ?_
  ·
    refine ⟨0, _, _, by omega, ⟨by omega, by omega, by simp⟩, rfl⟩
  rintro nA sA ⟨i, u15, u26, hnA, ⟨hi, hj, hall⟩, rfl⟩
  simp (disch := first|(simp only [Nat.reduceBEq,wE];done)|((repeat' (first|assumption|exact mAx _|refine mBx ?_ ?_|exact mCx (by assumption)|refine mDx ?_|refine mEx ?_ ?_ ?_|exact mFx|refine mGx ?_ ?_ ?_|exact mHx|exact mIx _|(simp only [wM,Nat.reduceAdd,Nat.reduceLT,Nat.reduceLeDiff];done)));done)|omega|decide) only [ha.len, hb.len, ↓wA,wB,wL,resOf,Nat.reduceBEq,Int.reduceBEq,Int.reduceBNe,Int.reduceLT,Int.reduceLE,Int.reduceAdd,Int.reduceSub,Int.reduceMul,Int.reduceToNat]
  refine ifThen_intro (fun e1 => ?_) (fun e1 => ?_) <;> have e1q := e1 <;> try simp [-List.getD_eq_getElem?_getD] at e1q
  · simp (disch := first|(simp only [Nat.reduceBEq,wE];done)|((repeat' (first|assumption|exact mAx _|refine mBx ?_ ?_|exact mCx (by assumption)|refine mDx ?_|refine mEx ?_ ?_ ?_|exact mFx|refine mGx ?_ ?_ ?_|exact mHx|exact mIx _|(simp only [wM,Nat.reduceAdd,Nat.reduceLT,Nat.reduceLeDiff];done)));done)|omega|decide) only [e1, ha.len, hb.len, ↓wA,wB,wL,resOf,Nat.reduceBEq,Int.reduceBEq,Int.reduceBNe,Int.reduceLT,Int.reduceLE,Int.reduceAdd,Int.reduceSub,Int.reduceMul,Int.reduceToNat]
    refine ifThen_intro (fun e2 => ?_) (fun e2 => ?_) <;> have e2q := e2 <;> try simp [-List.getD_eq_getElem?_getD] at e2q
    · simp (disch := first|(simp only [Nat.reduceBEq,wE];done)|((repeat' (first|assumption|exact mAx _|refine mBx ?_ ?_|exact mCx (by assumption)|refine mDx ?_|refine mEx ?_ ?_ ?_|exact mFx|refine mGx ?_ ?_ ?_|exact mHx|exact mIx _|(simp only [wM,Nat.reduceAdd,Nat.reduceLT,Nat.reduceLeDiff];done)));done)|omega|decide) only [e1, e2, ha.ix, ha.ld, hb.ix, hb.ld, ↓wA,wB,wL,resOf,Nat.reduceBEq,Int.reduceBEq,Int.reduceBNe,Int.reduceLT,Int.reduceLE,Int.reduceAdd,Int.reduceSub,Int.reduceMul,Int.reduceToNat]
      refine ifThen_intro (fun e3 => ?_) (fun e3 => ?_) <;> have e3q := e3 <;> try simp [-List.getD_eq_getElem?_getD] at e3q
      · simp (disch := first|(simp only [Nat.reduceBEq,wE];done)|((repeat' (first|assumption|exact mAx _|refine mBx ?_ ?_|exact mCx (by assumption)|refine mDx ?_|refine mEx ?_ ?_ ?_|exact mFx|refine mGx ?_ ?_ ?_|exact mHx|exact mIx _|(simp only [wM,Nat.reduceAdd,Nat.reduceLT,Nat.reduceLeDiff];done)));done)|omega|decide) only [e1, e2, e3, ha.ix, ha.ld, hb.ix, hb.ld, ↓wA,wB,wL,resOf,Nat.reduceBEq,Int.reduceBEq,Int.reduceBNe,Int.reduceLT,Int.reduceLE,Int.reduceAdd,Int.reduceSub,Int.reduceMul,Int.reduceToNat]
        refine ⟨_, rfl, ?_, by (repeat' (first|assumption|exact mAx _|refine mBx ?_ ?_|exact mCx (by assumption)|refine mDx ?_|refine mEx ?_ ?_ ?_|exact mFx|refine mGx ?_ ?_ ?_|exact mHx|exact mIx _|(simp only [wM,Nat.reduceAdd,Nat.reduceLT,Nat.reduceLeDiff];done)))⟩
        simp only [AV.bool.injEq, decide_eq_decide]
        exact (lt_at e1q e2q hall e3q).symm
      · simp (disch := first|(simp only [Nat.reduceBEq,wE];done)|((repeat' (first|assumption|exact mAx _|refine mBx ?_ ?_|exact mCx (by assumption)|refine mDx ?_|refine mEx ?_ ?_ ?_|exact mFx|refine mGx ?_ ?_ ?_|exact mHx|exact mIx _|(simp only [wM,Nat.reduceAdd,Nat.reduceLT,Nat.reduceLeDiff];done)));done)|omega|decide) only [e1, e2, e3, ↓wA,wB,wL,resOf,Nat.reduceBEq,Int.reduceBEq,Int.reduceBNe,Int.reduceLT,Int.reduceLE,Int.reduceAdd,Int.reduceSub,Int.reduceMul,Int.reduceToNat]
        refine ⟨_, ?_, i + 1, _, _, rfl, ?_, rfl⟩
        · omega
        exact ⟨by omega, by omega, take_step e1q e2q hall e3q⟩
    · simp (disch := first|(simp only [Nat.reduceBEq,wE];done)|((repeat' (first|assumption|exact mAx _|refine mBx ?_ ?_|exact mCx (by assumption)|refine mDx ?_|refine mEx ?_ ?_ ?_|exact mFx|refine mGx ?_ ?_ ?_|exact mHx|exact mIx _|(simp only [wM,Nat.reduceAdd,Nat.reduceLT,Nat.reduceLeDiff];done)));done)|omega|decide) only [e1, e2, ha.len, hb.len, ↓wA,wB,wL,resOf,Nat.reduceBEq,Int.reduceBEq,Int.reduceBNe,Int.reduceLT,Int.reduceLE,Int.reduceAdd,Int.reduceSub,Int.reduceMul,Int.reduceToNat]
      refine ⟨_, rfl, ?_, by (repeat' (first|assumption|exact mAx _|refine mBx ?_ ?_|exact mCx (by assumption)|refine mDx ?_|refine mEx ?_ ?_ ?_|exact mFx|refine mGx ?_ ?_ ?_|exact mHx|exact mIx _|(simp only [wM,Nat.reduceAdd,Nat.reduceLT,Nat.reduceLeDiff];done)))⟩
      simp only [AV.bool.injEq, decide_eq_decide]
      exact (by omega : (xs.length : Int) < ys.length ↔ xs.length < ys.length).trans (lt_end2 e2q hall hj)
  · simp (disch := first|(simp only [Nat.reduceBEq,wE];done)|((repeat' (first|assumption|exact mAx _|refine mBx ?_ ?_|exact mCx (by assumption)|refine mDx ?_|refine mEx ?_ ?_ ?_|exact mFx|refine mGx ?_ ?_ ?_|exact mHx|exact mIx _|(simp only [wM,Nat.reduceAdd,Nat.reduceLT,Nat.reduceLeDiff];done)));done)|omega|decide) only [e1, ha.len, hb.len, ↓wA,wB,wL,resOf,Nat.reduceBEq,Int.reduceBEq,Int.reduceBNe,Int.reduceLT,Int.reduceLE,Int.reduceAdd,Int.reduceSub,Int.reduceMul,Int.reduceToNat]
    refine ⟨_, rfl, ?_, by (repeat' (first|assumption|exact mAx _|refine mBx ?_ ?_|exact mCx (by assumption)|refine mDx ?_|refine mEx ?_ ?_ ?_|exact mFx|refine mGx ?_ ?_ ?_|exact mHx|exact mIx _|(simp only [wM,Nat.reduceAdd,Nat.reduceLT,Nat.reduceLeDiff];done)))⟩
    simp only [AV.bool.injEq, decide_eq_decide]
    exact (by omega : (xs.length : Int) < ys.length ↔ xs.length < ys.length).trans (lt_end1 e1q hall hi)

theorem f19 (a b : AV) (xs ys : List Int) (h : Hp) (hk : Hok h) (ha : Ints h.blks .i64 a xs) (hb : Ints h.blks .i64 b ys) (hx : xs.length < 2 ^ 62) (hy : ys.length < 2 ^ 62) :
    Evals Tryd.prog tab false (.func 19) [a, b] h (.bool (decide (xs = ys)), h) := by
  refine evals_pure c19 rfl hk ?_
  simp only [sf19, initS_cons, initS_nil]
  have tri : xs = ys ↔ ¬ xs < ys ∧ ¬ ys < xs := ⟨fun e => by subst e; exact ⟨List.lt_irrefl _, List.lt_irrefl _⟩, fun ⟨h1, h2⟩ => List.le_antisymm (List.not_lt.1 h2) (List.not_lt.1 h1)⟩
  simp (disch := first|(simp only [Nat.reduceBEq,wE];done)|((repeat' (first|assumption|exact mAx _|refine mBx ?_ ?_|exact mCx (by assumption)|refine mDx ?_|refine mEx ?_ ?_ ?_|exact mFx|refine mGx ?_ ?_ ?_|exact mHx|exact mIx _|(simp only [wM,Nat.reduceAdd,Nat.reduceLT,Nat.reduceLeDiff];done)));done)|omega|decide) only [callT (f33 a b xs ys h.en hk ha hb hx hy), ↓wA,wB,wL,resOf,Nat.reduceBEq,Int.reduceBEq,Int.reduceBNe,Int.reduceLT,Int.reduceLE,Int.reduceAdd,Int.reduceSub,Int.reduceMul,Int.reduceToNat]
  refine ifThen_intro (fun e1 => ?_) (fun e1 => ?_) <;> have e1q := e1 <;> try simp [-List.getD_eq_getElem?_getD] at e1q
  · simp (disch := first|(simp only [Nat.reduceBEq,wE];done)|((repeat' (first|assumption|exact mAx _|refine mBx ?_ ?_|exact mCx (by assumption)|refine mDx ?_|refine mEx ?_ ?_ ?_|exact mFx|refine mGx ?_ ?_ ?_|exact mHx|exact mIx _|(simp only [wM,Nat.reduceAdd,Nat.reduceLT,Nat.reduceLeDiff];done)));done)|omega|decide) only [e1, callT (f33 b a ys xs h.en hk hb ha hy hx), ↓wA,wB,wL,resOf,Nat.reduceBEq,Int.reduceBEq,Int.reduceBNe,Int.reduceLT,Int.reduceLE,Int.reduceAdd,Int.reduceSub,Int.reduceMul,Int.reduceToNat]
    have e2 : ¬ xs < ys := by simpa using e1
    refine ⟨_, rfl, congrArg AV.bool ?_, by (repeat' (first|assumption|exact mAx _|refine mBx ?_ ?_|exact mCx (by assumption)|refine mDx ?_|refine mEx ?_ ?_ ?_|exact mFx|refine mGx ?_ ?_ ?_|exact mHx|exact mIx _|(simp only [wM,Nat.reduceAdd,Nat.reduceLT,Nat.reduceLeDiff];done)))⟩
    rw [Bool.eq_iff_iff]
    simp only [tri, Bool.not_eq_true', decide_eq_false_iff_not, decide_eq_true_eq]
    exact ⟨fun h => ⟨e2, h⟩, fun h => h.2⟩
  · simp (disch := first|(simp only [Nat.reduceBEq,wE];done)|((repeat' (first|assumption|exact mAx _|refine mBx ?_ ?_|exact mCx (by assumption)|refine mDx ?_|refine mEx ?_ ?_ ?_|exact mFx|refine mGx ?_ ?_ ?_|exact mHx|exact mIx _|(simp only [wM,Nat.reduceAdd,Nat.reduceLT,Nat.reduceLeDiff];done)));done)|omega|decide) only [e1, ↓wA,wB,wL,resOf,Nat.reduceBEq,Int.reduceBEq,Int.reduceBNe,Int.reduceLT,Int.reduceLE,Int.reduceAdd,Int.reduceSub,Int.reduceMul,Int.reduceToNat]
    refine ⟨_, rfl, ?_, by (repeat' (first|assumption|exact mAx _|refine mBx ?_ ?_|exact mCx (by assumption)|refine mDx ?_|refine mEx ?_ ?_ ?_|exact mFx|refine mGx ?_ ?_ ?_|exact mHx|exact mIx _|(simp only [wM,Nat.reduceAdd,Nat.reduceLT,Nat.reduceLeDiff];done)))⟩
    simp only [AV.bool.injEq, tri]
    simp [e1q]

theorem f55 (a b c : Int) (h : Hp) (hk : Hok h) : Evals Tryd.prog tab false (.func 55) [.int .i64 a, .int .i64 b, .int .i64 c] h (.bool (decide (b ≤ a ∧ a ≤ c)), h) := by
  refine evals_pure c55 rfl hk ?_
  simp only [sf55, initS_cons, initS_nil]
  simp only [↓wA,wB,wL,resOf,Nat.reduceBEq,Int.reduceBEq,Int.reduceBNe,Int.reduceLT,Int.reduceLE,Int.reduceAdd,Int.reduceSub,Int.reduceMul,Int.reduceToNat]
  refine ifThen_intro (fun e => ?_) (fun e => ?_) <;> have eq := e <;> try simp [-List.getD_eq_getElem?_getD] at eq <;> simp only [e, ↓wA,wB,wL,resOf,Nat.reduceBEq,Int.reduceBEq,Int.reduceBNe,Int.reduceLT,Int.reduceLE,Int.reduceAdd,Int.reduceSub,Int.reduceMul,Int.reduceToNat] <;> refine ⟨_, rfl, ?_, by (repeat' (first|assumption|exact mAx _|refine mBx ?_ ?_|exact mCx (by assumption)|refine mDx ?_|refine mEx ?_ ?_ ?_|exact mFx|refine mGx ?_ ?_ ?_|exact mHx|exact mIx _|(simp only [wM,Nat.reduceAdd,Nat.reduceLT,Nat.reduceLeDiff];done)))⟩ <;> simp <;> omega

theorem f87 (x : Nat) (h : Hp) (hk : Hok h) (hx : x < 65536) : Evals Tryd.prog tab false (.func 87) [.int .u64 x] h (.int .i64 (blen x), h) := by
  refine evals_pure c87 rfl hk ?_
  simp only [sf87, initS_cons, initS_nil]
  have e1 : decide ((x : Int) ≥ 4294967296) = false := decide_eq_false (by omega)
  have e2 : decide ((x : Int) ≥ 65536) = false := decide_eq_false (by omega)
  have el : ∀ l : List UInt8, l = l8 → ∀ v, v < 256 → (l[v]?).map (·.toNat) = some (blen v) := fun l e v hv => by rw [e]; exact l8_all ⟨v, hv⟩
  have el := el _ rfl
  have w8 : ∀ v : Nat, v < 256 → IntKind.wrap .u8 (v : Int) = v := fun v hv => by simp [IntKind.wrap, IntKind.bits, IntKind.signed]; omega
  by_cases h8 : 256 ≤ x
  · have e3 : decide ((x : Int) ≥ 256) = true := decide_eq_true (by omega)
    have sh : sBin .shr .no (.int .u64 (x : Int)) (.int .u64 8) = some (.int .u64 ((x / 256 : Nat) : Int)) := by
      have hm : min ((8 : Int).toNat) IntKind.u64.bits = 8 := rfl
      simp only [sBin, abShift, hm]
      rw [if_neg (by omega), Int.fdiv_eq_ediv_of_nonneg _ (by omega)]
      rfl
    have hv : x / 256 < 256 := by omega
    have st := fun (h : Hp) => sIxT_8 (h := h) (i := x / 256) (el (x / 256) hv)
    have ix : idx? (.int .u8 ((x / 256 : Nat) : Int)) = some (x / 256) := by simp [idx?]; omega
    unfold l8 at st
    have hb : blen (x / 256) ≤ 8 := blen_le.2 (by omega)
    simp (disch := first|(simp only [Nat.reduceBEq,wE];done)|((repeat' (first|assumption|exact mAx _|refine mBx ?_ ?_|exact mCx (by assumption)|refine mDx ?_|refine mEx ?_ ?_ ?_|exact mFx|refine mGx ?_ ?_ ?_|exact mHx|exact mIx _|(simp only [wM,Nat.reduceAdd,Nat.reduceLT,Nat.reduceLeDiff];done)));done)|omega|decide) only [e1, e2, e3, sh, w8, wpOp_ixT, ix, st, wrap_i64, ↓wA,wB,wL,resOf,Nat.reduceBEq,Int.reduceBEq,Int.reduceBNe,Int.reduceLT,Int.reduceLE,Int.reduceAdd,Int.reduceSub,Int.reduceMul,Int.reduceToNat]
    refine ⟨_, rfl, congrArg (AV.int .i64) ?_, by (repeat' (first|assumption|exact mAx _|refine mBx ?_ ?_|exact mCx (by assumption)|refine mDx ?_|refine mEx ?_ ?_ ?_|exact mFx|refine mGx ?_ ?_ ?_|exact mHx|exact mIx _|(simp only [wM,Nat.reduceAdd,Nat.reduceLT,Nat.reduceLeDiff];done)))⟩
    rw [blen_shift h8]
    omega
  · have e3 : decide ((x : Int) ≥ 256) = false := decide_eq_false (by omega)
    have hv : x < 256 := by omega
    have st := fun (h : Hp) => sIxT_8 (h := h) (i := x) (el x hv)
    have ix : idx? (.int .u8 (x : Int)) = some x := by simp [idx?]
    unfold l8 at st
    have hb : blen x ≤ 8 := blen_le.2 (by omega)
    simp (disch := first|(simp only [Nat.reduceBEq,wE];done)|((repeat' (first|assumption|exact mAx _|refine mBx ?_ ?_|exact mCx (by assumption)|refine mDx ?_|refine mEx ?_ ?_ ?_|exact mFx|refine mGx ?_ ?_ ?_|exact mHx|exact mIx _|(simp only [wM,Nat.reduceAdd,Nat.reduceLT,Nat.reduceLeDiff];done)));done)|omega|decide) only [e1, e2, e3, w8, wpOp_ixT, ix, st, wrap_i64, ↓wA,wB,wL,resOf,Nat.reduceBEq,Int.reduceBEq,Int.reduceBNe,Int.reduceLT,Int.reduceLE,Int.reduceAdd,Int.reduceSub,Int.reduceMul,Int.reduceToNat]
    exact ⟨_, rfl, congrArg (AV.int .i64) (by omega), by (repeat' (first|assumption|exact mAx _|refine mBx ?_ ?_|exact mCx (by assumption)|refine mDx ?_|refine mEx ?_ ?_ ?_|exact mFx|refine mGx ?_ ?_ ?_|exact mHx|exact mIx _|(simp only [wM,Nat.reduceAdd,Nat.reduceLT,Nat.reduceLeDiff];done)))⟩

theorem f70 (x : Nat) (h : Hp) (hk : Hok h) (hx : x < 65536) : Evals Tryd.prog tab false (.func 70) [.int .u64 x] h (.int .i64 (blen x), h) := by
  refine evals_pure c70 rfl hk ?_
  simp only [sf70, initS_cons, initS_nil]
  simp (disch := first|(simp only [Nat.reduceBEq,wE];done)|((repeat' (first|assumption|exact mAx _|refine mBx ?_ ?_|exact mCx (by assumption)|refine mDx ?_|refine mEx ?_ ?_ ?_|exact mFx|refine mGx ?_ ?_ ?_|exact mHx|exact mIx _|(simp only [wM,Nat.reduceAdd,Nat.reduceLT,Nat.reduceLeDiff];done)));done)|omega|decide) only [callT (f87 x h.en hk hx), ↓wA,wB,wL,resOf,Nat.reduceBEq,Int.reduceBEq,Int.reduceBNe,Int.reduceLT,Int.reduceLE,Int.reduceAdd,Int.reduceSub,Int.reduceMul,Int.reduceToNat]
  exact ⟨_, rfl, rfl, by (repeat' (first|assumption|exact mAx _|refine mBx ?_ ?_|exact mCx (by assumption)|refine mDx ?_|refine mEx ?_ ?_ ?_|exact mFx|refine mGx ?_ ?_ ?_|exact mHx|exact mIx _|(simp only [wM,Nat.reduceAdd,Nat.reduceLT,Nat.reduceLeDiff];done)))⟩

theorem f61 (x : Nat) (h : Hp) (hk : Hok h) (hx : x < 65536) : Evals Tryd.prog tab false (.func 61) [.int .u64 x] h (.int .i64 ((blen x : Int) - 1), h) := by
  refine evals_pure c61 rfl hk ?_
  simp only [sf61, initS_cons, initS_nil]
  have hb : blen x ≤ 16 := blen_le.2 (by omega)
  simp (disch := first|(simp only [Nat.reduceBEq,wE];done)|((repeat' (first|assumption|exact mAx _|refine mBx ?_ ?_|exact mCx (by assumption)|refine mDx ?_|refine mEx ?_ ?_ ?_|exact mFx|refine mGx ?_ ?_ ?_|exact mHx|exact mIx _|(simp only [wM,Nat.reduceAdd,Nat.reduceLT,Nat.reduceLeDiff];done)));done)|omega|decide) only [callT (f70 x h.en hk hx), ↓wA,wB,wL,resOf,Nat.reduceBEq,Int.reduceBEq,Int.reduceBNe,Int.reduceLT,Int.reduceLE,Int.reduceAdd,Int.reduceSub,Int.reduceMul,Int.reduceToNat]
  exact ⟨_, rfl, rfl, by (repeat' (first|assumption|exact mAx _|refine mBx ?_ ?_|exact mCx (by assumption)|refine mDx ?_|refine mEx ?_ ?_ ?_|exact mFx|refine mGx ?_ ?_ ?_|exact mHx|exact mIx _|(simp only [wM,Nat.reduceAdd,Nat.reduceLT,Nat.reduceLeDiff];done)))⟩

theorem f62 (x i : Nat) (h : Hp) (hk : Hok h) (hx : x < 65536) (hi : i ≤ 40) : Evals Tryd.prog tab false (.func 62) [.int .u64 x, .int .i64 i] h (.bool (bt x i), h) := by
  refine evals_pure c62 rfl hk ?_
  simp only [sf62, initS_cons, initS_nil]
  have s1 : sBin .shr .no (.int .u64 (x : Int)) (.int .i64 (i : Int)) = some (.int .u64 ((x / 2 ^ i : Nat) : Int)) := sBinU_shr hi
  have hd : x / 2 ^ i ≤ x := Nat.div_le_self _ _
  have s2 : sBin .and .no (.int .u64 ((x / 2 ^ i : Nat) : Int)) (.int .u64 1) = some (.int .u64 ((x / 2 ^ i % 2 : Nat) : Int)) := sBinU_and1 (by omega)
  simp (disch := first|(simp only [Nat.reduceBEq,wE];done)|((repeat' (first|assumption|exact mAx _|refine mBx ?_ ?_|exact mCx (by assumption)|refine mDx ?_|refine mEx ?_ ?_ ?_|exact mFx|refine mGx ?_ ?_ ?_|exact mHx|exact mIx _|(simp only [wM,Nat.reduceAdd,Nat.reduceLT,Nat.reduceLeDiff];done)));done)|omega|decide) only [s1, s2, ↓wA,wB,wL,resOf,Nat.reduceBEq,Int.reduceBEq,Int.reduceBNe,Int.reduceLT,Int.reduceLE,Int.reduceAdd,Int.reduceSub,Int.reduceMul,Int.reduceToNat]
  refine ⟨_, rfl, congrArg AV.bool ?_, by (repeat' (first|assumption|exact mAx _|refine mBx ?_ ?_|exact mCx (by assumption)|refine mDx ?_|refine mEx ?_ ?_ ?_|exact mFx|refine mGx ?_ ?_ ?_|exact mHx|exact mIx _|(simp only [wM,Nat.reduceAdd,Nat.reduceLT,Nat.reduceLeDiff];done)))⟩
  unfold bt
  rw [Bool.eq_iff_iff]
  simp only [beq_iff_eq, decide_eq_true_eq]
  omega

theorem f65 (a : AV) (zs : List Int) (h : Hp) (hk : Hok h) (ha : Ints h.blks .i64 a zs) (hz : zs.length ≤ 1000) :
    Evals Tryd.prog tab false (.func 65) [a] h (.bool (decide (WF zs)), h) := by
  refine evals_pure c65 rfl hk ?_
  simp only [sf65, initS_cons, initS_nil]
  simp (disch := first|(simp only [Nat.reduceBEq,wE];done)|((repeat' (first|assumption|exact mAx _|refine mBx ?_ ?_|exact mCx (by assumption)|refine mDx ?_|refine mEx ?_ ?_ ?_|exact mFx|refine mGx ?_ ?_ ?_|exact mHx|exact mIx _|(simp only [wM,Nat.reduceAdd,Nat.reduceLT,Nat.reduceLeDiff];done)));done)|omega|decide) only [ha.len, ↓wA,wB,wL,resOf,Nat.reduceBEq,Int.reduceBEq,Int.reduceBNe,Int.reduceLT,Int.reduceLE,Int.reduceAdd,Int.reduceSub,Int.reduceMul,Int.reduceToNat]
  refine wloop (fun mm ss => ∃ (i : Nat) (u2 u5 u9 u16 : AV), (mm = zs.length - i) ∧ (i ≤ zs.length ∧ WFp (zs.take i)) ∧ ss = { fr := [(0, a), (2, u2), (3, .int .i64 (bfr zs i)), (5, u5), (6, a), (7, .int .i64 zs.length), (8, .int .i64 i), (9, u9), (16, u16)], hp := h.en }) (zs.length) ?_ ?_
  ·
    refine ⟨0, _, _, _, _, by omega, ⟨by omega, by simp [WFp]⟩, rfl⟩
  rintro nA sA ⟨i, u2, u5, u9, u16, hnA, ⟨hi, hp⟩, rfl⟩
  have hb := hp.bfr hi
  simp (disch := first|(simp only [Nat.reduceBEq,wE];done)|((repeat' (first|assumption|exact mAx _|refine mBx ?_ ?_|exact mCx (by assumption)|refine mDx ?_|refine mEx ?_ ?_ ?_|exact mFx|refine mGx ?_ ?_ ?_|exact mHx|exact mIx _|(simp only [wM,Nat.reduceAdd,Nat.reduceLT,Nat.reduceLeDiff];done)));done)|omega|decide) only [↓wA,wB,wL,resOf,Nat.reduceBEq,Int.reduceBEq,Int.reduceBNe,Int.reduceLT,Int.reduceLE,Int.reduceAdd,Int.reduceSub,Int.reduceMul,Int.reduceToNat]
  refine ifThen_intro (fun e => ?_) (fun e => ?_) <;> have eq := e <;> try simp [-List.getD_eq_getElem?_getD] at eq
  · have w := f55 (zs.getD i 0) (bfr zs i + 1) 100000 h.en hk
    by_cases e2 : bfr zs i + 1 ≤ zs.getD i 0 ∧ zs.getD i 0 ≤ 100000
    · simp (disch := first|(simp only [Nat.reduceBEq,wE];done)|((repeat' (first|assumption|exact mAx _|refine mBx ?_ ?_|exact mCx (by assumption)|refine mDx ?_|refine mEx ?_ ?_ ?_|exact mFx|refine mGx ?_ ?_ ?_|exact mHx|exact mIx _|(simp only [wM,Nat.reduceAdd,Nat.reduceLT,Nat.reduceLeDiff];done)));done)|omega|decide) only [e, ha.ix, ha.ld, callT w, decide_eq_true e2, ↓wA,wB,wL,resOf,Nat.reduceBEq,Int.reduceBEq,Int.reduceBNe,Int.reduceLT,Int.reduceLE,Int.reduceAdd,Int.reduceSub,Int.reduceMul,Int.reduceToNat]
      refine ⟨_, ?_, i + 1, _, _, _, _, rfl, ?_, rfl⟩
      · omega
      exact ⟨by omega, (wf_step hp eq).2 e2⟩
    · simp (disch := first|(simp only [Nat.reduceBEq,wE];done)|((repeat' (first|assumption|exact mAx _|refine mBx ?_ ?_|exact mCx (by assumption)|refine mDx ?_|refine mEx ?_ ?_ ?_|exact mFx|refine mGx ?_ ?_ ?_|exact mHx|exact mIx _|(simp only [wM,Nat.reduceAdd,Nat.reduceLT,Nat.reduceLeDiff];done)));done)|omega|decide) only [e, ha.ix, ha.ld, callT w, decide_eq_false e2, ↓wA,wB,wL,resOf,Nat.reduceBEq,Int.reduceBEq,Int.reduceBNe,Int.reduceLT,Int.reduceLE,Int.reduceAdd,Int.reduceSub,Int.reduceMul,Int.reduceToNat]
      refine ⟨_, rfl, ?_, by (repeat' (first|assumption|exact mAx _|refine mBx ?_ ?_|exact mCx (by assumption)|refine mDx ?_|refine mEx ?_ ?_ ?_|exact mFx|refine mGx ?_ ?_ ?_|exact mHx|exact mIx _|(simp only [wM,Nat.reduceAdd,Nat.reduceLT,Nat.reduceLeDiff];done)))⟩
      rw [decide_eq_false fun hw => e2 ((wf_step hp eq).1 (hw.1.take _))]
  · simp (disch := first|(simp only [Nat.reduceBEq,wE];done)|((repeat' (first|assumption|exact mAx _|refine mBx ?_ ?_|exact mCx (by assumption)|refine mDx ?_|refine mEx ?_ ?_ ?_|exact mFx|refine mGx ?_ ?_ ?_|exact mHx|exact mIx _|(simp only [wM,Nat.reduceAdd,Nat.reduceLT,Nat.reduceLeDiff];done)));done)|omega|decide) only [e, ha.len, ↓wA,wB,wL,resOf,Nat.reduceBEq,Int.reduceBEq,Int.reduceBNe,Int.reduceLT,Int.reduceLE,Int.reduceAdd,Int.reduceSub,Int.reduceMul,Int.reduceToNat]
    rw [List.take_of_length_le (by omega)] at hp
    refine ⟨_, rfl, ?_, by (repeat' (first|assumption|exact mAx _|refine mBx ?_ ?_|exact mCx (by assumption)|refine mDx ?_|refine mEx ?_ ?_ ?_|exact mFx|refine mGx ?_ ?_ ?_|exact mHx|exact mIx _|(simp only [wM,Nat.reduceAdd,Nat.reduceLT,Nat.reduceLeDiff];done)))⟩
    refine congrArg AV.bool ?_
    rw [Bool.eq_iff_iff]
    simp only [decide_eq_true_eq]
    exact ⟨fun h0 => ⟨hp, by omega⟩, fun h0 => by have := h0.2; omega⟩

theorem f45 (a : AV) (zs : List Int) (most : Nat) (total : Int) (h : Hp) (hk : Hok h) (ha : Ints h.blks .i64 a zs) (hz : zs.length ≤ 1000) (hm : most ≤ 1000) :
    Evals Tryd.prog tab false (.func 45) [a, .int .i64 most, .int .i64 total] h (.int .i64 (errW zs most total), h) := by
  refine evals_pure c45 rfl hk ?_
  simp only [sf45, initS_cons, initS_nil]
  unfold errW
  have w := f65 a zs h.en hk ha hz
  by_cases e1 : most < zs.length
  · have d1 : decide ((zs.length : Int) > (most : Int)) = true := decide_eq_true (by omega)
    simp (disch := first|(simp only [Nat.reduceBEq,wE];done)|((repeat' (first|assumption|exact mAx _|refine mBx ?_ ?_|exact mCx (by assumption)|refine mDx ?_|refine mEx ?_ ?_ ?_|exact mFx|refine mGx ?_ ?_ ?_|exact mHx|exact mIx _|(simp only [wM,Nat.reduceAdd,Nat.reduceLT,Nat.reduceLeDiff];done)));done)|omega|decide) only [ha.len, d1, e1, ↓wA,wB,wL,resOf,Nat.reduceBEq,Int.reduceBEq,Int.reduceBNe,Int.reduceLT,Int.reduceLE,Int.reduceAdd,Int.reduceSub,Int.reduceMul,Int.reduceToNat]
    exact ⟨_, rfl, rfl, by (repeat' (first|assumption|exact mAx _|refine mBx ?_ ?_|exact mCx (by assumption)|refine mDx ?_|refine mEx ?_ ?_ ?_|exact mFx|refine mGx ?_ ?_ ?_|exact mHx|exact mIx _|(simp only [wM,Nat.reduceAdd,Nat.reduceLT,Nat.reduceLeDiff];done)))⟩
  · have d1 : decide ((zs.length : Int) > (most : Int)) = false := decide_eq_false (by omega)
    by_cases e2 : total < 0
    · simp (disch := first|(simp only [Nat.reduceBEq,wE];done)|((repeat' (first|assumption|exact mAx _|refine mBx ?_ ?_|exact mCx (by assumption)|refine mDx ?_|refine mEx ?_ ?_ ?_|exact mFx|refine mGx ?_ ?_ ?_|exact mHx|exact mIx _|(simp only [wM,Nat.reduceAdd,Nat.reduceLT,Nat.reduceLeDiff];done)));done)|omega|decide) only [ha.len, d1, e1, e2, ↓wA,wB,wL,resOf,Nat.reduceBEq,Int.reduceBEq,Int.reduceBNe,Int.reduceLT,Int.reduceLE,Int.reduceAdd,Int.reduceSub,Int.reduceMul,Int.reduceToNat]
      exact ⟨_, rfl, rfl, by (repeat' (first|assumption|exact mAx _|refine mBx ?_ ?_|exact mCx (by assumption)|refine mDx ?_|refine mEx ?_ ?_ ?_|exact mFx|refine mGx ?_ ?_ ?_|exact mHx|exact mIx _|(simp only [wM,Nat.reduceAdd,Nat.reduceLT,Nat.reduceLeDiff];done)))⟩
    · by_cases e3 : WF zs
      · simp (disch := first|(simp only [Nat.reduceBEq,wE];done)|((repeat' (first|assumption|exact mAx _|refine mBx ?_ ?_|exact mCx (by assumption)|refine mDx ?_|refine mEx ?_ ?_ ?_|exact mFx|refine mGx ?_ ?_ ?_|exact mHx|exact mIx _|(simp only [wM,Nat.reduceAdd,Nat.reduceLT,Nat.reduceLeDiff];done)));done)|omega|decide) only [ha.len, d1, e1, e2, callT w, e3, ↓wA,wB,wL,resOf,Nat.reduceBEq,Int.reduceBEq,Int.reduceBNe,Int.reduceLT,Int.reduceLE,Int.reduceAdd,Int.reduceSub,Int.reduceMul,Int.reduceToNat]
        exact ⟨_, rfl, rfl, by (repeat' (first|assumption|exact mAx _|refine mBx ?_ ?_|exact mCx (by assumption)|refine mDx ?_|refine mEx ?_ ?_ ?_|exact mFx|refine mGx ?_ ?_ ?_|exact mHx|exact mIx _|(simp only [wM,Nat.reduceAdd,Nat.reduceLT,Nat.reduceLeDiff];done)))⟩
      · simp (disch := first|(simp only [Nat.reduceBEq,wE];done)|((repeat' (first|assumption|exact mAx _|refine mBx ?_ ?_|exact mCx (by assumption)|refine mDx ?_|refine mEx ?_ ?_ ?_|exact mFx|refine mGx ?_ ?_ ?_|exact mHx|exact mIx _|(simp only [wM,Nat.reduceAdd,Nat.reduceLT,Nat.reduceLeDiff];done)));done)|omega|decide) only [ha.len, d1, e1, e2, callT w, e3, ↓wA,wB,wL,resOf,Nat.reduceBEq,Int.reduceBEq,Int.reduceBNe,Int.reduceLT,Int.reduceLE,Int.reduceAdd,Int.reduceSub,Int.reduceMul,Int.reduceToNat]
        exact ⟨_, rfl, rfl, by (repeat' (first|assumption|exact mAx _|refine mBx ?_ ?_|exact mCx (by assumption)|refine mDx ?_|refine mEx ?_ ?_ ?_|exact mFx|refine mGx ?_ ?_ ?_|exact mHx|exact mIx _|(simp only [wM,Nat.reduceAdd,Nat.reduceLT,Nat.reduceLeDiff];done)))⟩

theorem f36 (a : AV) (zs : List Int) (h : Hp) (hk : Hok h) (ha : Ints h.blks .i64 a zs) (hz : zs.length ≤ 1000) :
    Evals Tryd.prog tab false (.func 36) [a] h (.int .i64 (errW zs 12 0), h) := by
  refine evals_pure c36 rfl hk ?_
  simp only [sf36, initS_cons, initS_nil]
  have w : Evals Tryd.prog tab false (.func 45) [a, .int .i64 12, .int .i64 0] h.en (.int .i64 (errW zs 12 0), h.en) := f45 a zs 12 0 h.en hk ha hz (by omega)
  simp (disch := first|(simp only [Nat.reduceBEq,wE];done)|((repeat' (first|assumption|exact mAx _|refine mBx ?_ ?_|exact mCx (by assumption)|refine mDx ?_|refine mEx ?_ ?_ ?_|exact mFx|refine mGx ?_ ?_ ?_|exact mHx|exact mIx _|(simp only [wM,Nat.reduceAdd,Nat.reduceLT,Nat.reduceLeDiff];done)));done)|omega|decide) only [callT w, ↓wA,wB,wL,resOf,Nat.reduceBEq,Int.reduceBEq,Int.reduceBNe,Int.reduceLT,Int.reduceLE,Int.reduceAdd,Int.reduceSub,Int.reduceMul,Int.reduceToNat]
  exact ⟨_, rfl, rfl, by (repeat' (first|assumption|exact mAx _|refine mBx ?_ ?_|exact mCx (by assumption)|refine mDx ?_|refine mEx ?_ ?_ ?_|exact mFx|refine mGx ?_ ?_ ?_|exact mHx|exact mIx _|(simp only [wM,Nat.reduceAdd,Nat.reduceLT,Nat.reduceLeDiff];done)))⟩

end Go.Proofs.YtelalpohbodolaaDoor
