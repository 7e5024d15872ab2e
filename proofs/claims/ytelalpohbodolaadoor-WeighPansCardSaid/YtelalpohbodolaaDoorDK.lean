/- What a weighing weighs. -/
import Derived.Test.YtelalpohbodolaaDoorDJ
set_option linter.unusedSimpArgs false
set_option linter.unusedVariables false
set_option maxHeartbeats 4000000
set_option maxRecDepth 20000
namespace Go.Wg
def wsum (w zs : List Int) : Nat → Int
  | 0 => 0
  | i + 1 => wsum w zs i + w.getD i 0 * zs.getD i 0
def wOK (w : List Int) : Prop := w.length = 9 ∧ ∀ x ∈ w, -1 ≤ x ∧ x ≤ 1
theorem wOK.get {w : List Int} (h : wOK w) (i : Nat) : -1 ≤ w.getD i 0 ∧ w.getD i 0 ≤ 1 := by
  rw [List.getD_eq_getElem?_getD]
  rcases Nat.lt_or_ge i w.length with hi | hi
  · rw [List.getElem?_eq_getElem hi, Option.getD_some]; exact h.2 _ (List.getElem_mem hi)
  · rw [List.getElem?_eq_none hi, Option.getD_none]; omega
theorem mul3 {x z : Int} (h : -1 ≤ x ∧ x ≤ 1) (hz : 0 ≤ z ∧ z ≤ 100000) : -100000 ≤ x * z ∧ x * z ≤ 100000 := by
  have : x = -1 ∨ x = 0 ∨ x = 1 := by omega
  rcases this with rfl | rfl | rfl <;> omega
theorem wsum_bd {w zs : List Int} (h : wOK w) (hz : ∀ z ∈ zs, 0 ≤ z ∧ z ≤ 100000) : ∀ i, i ≤ zs.length → -(100000 * i : Int) ≤ wsum w zs i ∧ wsum w zs i ≤ 100000 * i
  | 0, _ => by simp [wsum]
  | i + 1, hi => by
    have ih := wsum_bd h hz i (by omega)
    have m := mul3 (h.get i) (hz (zs.getD i 0) (by rw [List.getD_eq_getElem?_getD, List.getElem?_eq_getElem (by omega), Option.getD_some]; exact List.getElem_mem _))
    rw [wsum]
    omega
theorem wg_bd : ∀ n k, ∀ x ∈ wg n k, -1 ≤ x ∧ x ≤ 1
  | 0, _, x, hx => by simp [wg] at hx
  | n + 1, k, x, hx => by
    rw [wg, List.mem_append, List.mem_singleton] at hx
    rcases hx with hx | rfl
    · exact wg_bd n _ x hx
    · omega
theorem cw_ok {n k : Nat} (hn : n ≤ 9) : wOK (cw n k 0) := by
  refine ⟨cw_len hn (Nat.zero_le _), fun x hx => ?_⟩
  unfold cw at hx
  simp only [List.mem_append, List.replicate_zero, List.not_mem_nil, or_false, List.mem_replicate] at hx
  rcases hx with hx | hx
  · exact wg_bd _ _ x hx
  · omega
def wP (zs : List Int) (total : Int) (k : Nat) : Bool := decide (wsum (cw zs.length k 0) zs zs.length = total)
end Go.Wg
namespace Go.Proofs.YtelalpohbodolaaDoor
open Go Go.Abs Go.Wg

theorem f53 (w : List Int) (hw : wOK w) (a : AV) (zs : List Int) (h : Hp) (hk : Hok h) (ha : Ints h.blks .i64 a zs) (hz : zs.length ≤ 9) (hb : ∀ z ∈ zs, 0 ≤ z ∧ z ≤ 100000) :
    Evals Tryd.prog tab false (.func 53) [.ag (ints .i64 w), a] h (.int .i64 (wsum w zs zs.length), h) := by
  refine evals_pure c53 rfl hk ?_
  simp only [sf53, initS_cons, initS_nil]
  have gp : Grown h (h.en.pu (ints .i64 w)) := Grown.pu Grown.en refsOK_ints
  have s1 : Sub h.blks ((h.next, { cells := ints .i64 w, ch := h.next, wr := true }) :: h.blks) := Sub.push (Sub.refl _) (HokR.fresh hk)
  simp (disch := first|(simp only [Nat.reduceBEq,wE];done)|((repeat' (first|assumption|exact mAx _|refine mBx ?_ ?_|exact mCx (by assumption)|refine mDx ?_|refine mEx ?_ ?_ ?_|exact mFx|refine mGx ?_ ?_ ?_|exact mHx|exact mIx _|(simp only [wM,Nat.reduceAdd,Nat.reduceLT,Nat.reduceLeDiff];done)));done)|omega|decide) only [sBox_ag, ha.len, ↓wA,wB,wL,resOf,Nat.reduceBEq,Int.reduceBEq,Int.reduceBNe,Int.reduceLT,Int.reduceLE,Int.reduceAdd,Int.reduceSub,Int.reduceMul,Int.reduceToNat]
  refine wloop (fun mm ss => ∃ (i : Nat) (u0 u1 u4 u6 u7 u11 : AV), (mm = zs.length - i) ∧ (i ≤ zs.length) ∧ ss = { fr := [(0, u0), (1, u1), (2, .ptr h.next 0), (4, u4), (5, .int .i64 (wsum w zs i)), (6, u6), (7, u7), (8, a), (9, .int .i64 zs.length), (10, .int .i64 i), (11, u11)], hp := h.en.pu (ints .i64 w) }) (zs.length) ?_ ?_
  ·
    refine ⟨0, _, _, _, _, _, _, by omega, by omega, rfl⟩
  rintro nA sA ⟨i, u0, u1, u4, u6, u7, u11, hnA, hi, rfl⟩
  have b0 := wsum_bd hw hb i hi
  by_cases e : i < zs.length
  · have d1 : decide ((i : Int) < (zs.length : Int)) = true := decide_eq_true (by omega)
    have b1 := wsum_bd hw hb (i + 1) e
    have zb := hb (zs.getD i 0) (by rw [List.getD_eq_getElem?_getD, List.getElem?_eq_getElem e, Option.getD_some]; exact List.getElem_mem _)
    have m := mul3 (hw.get i) zb
    have ws : wsum w zs i + w.getD i 0 * zs.getD i 0 = wsum w zs (i + 1) := rfl
    have ix' : ∀ (hh : Hp), sIxA 9 1 hh (some i) (.ptr h.next 0) = some (.ptr h.next i, hh) := fun hh => by rw [sIxA_ptr (by omega)]; simp
    have l1 : cellB ((h.next, { cells := ints .i64 w, ch := h.next, wr := true }) :: h.blks) h.next i = some (.int .i64 (w.getD i 0)) := by
      rw [cellB_hit, ints_get (by rw [hw.1]; omega)]
    simp (disch := first|(simp only [Nat.reduceBEq,wE];done)|((repeat' (first|assumption|exact mAx _|refine mBx ?_ ?_|exact mCx (by assumption)|refine mDx ?_|refine mEx ?_ ?_ ?_|exact mFx|refine mGx ?_ ?_ ?_|exact mHx|exact mIx _|(simp only [wM,Nat.reduceAdd,Nat.reduceLT,Nat.reduceLeDiff];done)));done)|omega|decide) only [d1, ha.ix, ha.ld, ix', l1, ws, ↓wA,wB,wL,resOf,Nat.reduceBEq,Int.reduceBEq,Int.reduceBNe,Int.reduceLT,Int.reduceLE,Int.reduceAdd,Int.reduceSub,Int.reduceMul,Int.reduceToNat]
    refine ⟨_, ?_, i + 1, _, _, _, _, _, _, rfl, ?_, rfl⟩
    · omega
    omega
  · have d1 : decide ((i : Int) < (zs.length : Int)) = false := decide_eq_false (by omega)
    have ei : i = zs.length := by omega
    subst ei
    simp (disch := first|(simp only [Nat.reduceBEq,wE];done)|((repeat' (first|assumption|exact mAx _|refine mBx ?_ ?_|exact mCx (by assumption)|refine mDx ?_|refine mEx ?_ ?_ ?_|exact mFx|refine mGx ?_ ?_ ?_|exact mHx|exact mIx _|(simp only [wM,Nat.reduceAdd,Nat.reduceLT,Nat.reduceLeDiff];done)));done)|omega|decide) only [d1, ↓wA,wB,wL,resOf,Nat.reduceBEq,Int.reduceBEq,Int.reduceBNe,Int.reduceLT,Int.reduceLE,Int.reduceAdd,Int.reduceSub,Int.reduceMul,Int.reduceToNat]
    exact ⟨_, rfl, rfl, gp⟩

theorem f52 (k p q : Nat) (a : AV) (zs : List Int) (total : Int) (h : Hp) (hk : Hok h) (bp : Box h.blks p [a]) (bq : Box h.blks q [.int .i64 total]) (ha : Ints h.blks .i64 a zs) (hz : zs.length ≤ 9) (hb : ∀ z ∈ zs, 0 ≤ z ∧ z ≤ 100000) :
    Evals Tryd.prog tab false (.func 52) [.ag (ints .i64 (cw zs.length k 0)), .ptr p 0, .ptr q 0] h (.bool (wP zs total k), h) := by
  refine evals_pure c52 rfl hk ?_
  simp only [sf52, initS_cons, initS_nil]
  obtain ⟨w, hw⟩ : ∃ w, w = cw zs.length k 0 := ⟨_, rfl⟩
  have ok : wOK w := by rw [hw]; exact cw_ok hz
  have eP : wP zs total k = decide (wsum w zs zs.length = total) := by rw [hw]; rfl
  rw [← hw, eP]
  have gp : Grown h (h.en.pu (ints .i64 w)) := Grown.pu Grown.en refsOK_ints
  have s1 : Sub h.blks ((h.next, { cells := ints .i64 w, ch := h.next, wr := true }) :: h.blks) := Sub.push (Sub.refl _) (HokR.fresh hk)
  have x1 : cellB ((h.next, { cells := ints .i64 w, ch := h.next, wr := true }) :: h.blks) p 0 = some a := bp.ld s1 (j := 0)
  have x2 : cellB ((h.next, { cells := ints .i64 w, ch := h.next, wr := true }) :: h.blks) q 0 = some (.int .i64 total) := bq.ld s1 (j := 0)
  have x3 : aggB ((h.next, { cells := ints .i64 w, ch := h.next, wr := true }) :: h.blks) h.next 0 9 = some (.ag (ints .i64 w)) := by
    rw [aggB_hit]
    simp only
    rw [show slice? (ints .i64 w) 0 9 = some (ints .i64 w) from by
      simp only [slice?, ints_len, ok.1, List.drop_zero]
      rw [List.take_of_length_le (by rw [ints_len, ok.1]; exact Nat.le_refl _)]
      rfl]
    rfl
  have su := f53 w ok a zs (h.en.pu (ints .i64 w)) (gp.ok hk) (ha.sub s1) hz hb
  replace su : Evals Tryd.prog tab false (.func 53) [.ag (ints .i64 w), a] { next := h.next + 1, blks := (h.next, { cells := ints .i64 w, ch := h.next, wr := true }) :: h.blks, loops := h.loops, base := h.next, esc := false } (.int .i64 (wsum w zs zs.length), { next := h.next + 1, blks := (h.next, { cells := ints .i64 w, ch := h.next, wr := true }) :: h.blks, loops := h.loops, base := h.next, esc := false }) := su
  simp (disch := first|(simp only [Nat.reduceBEq,wE];done)|((repeat' (first|assumption|exact mAx _|refine mBx ?_ ?_|exact mCx (by assumption)|refine mDx ?_|refine mEx ?_ ?_ ?_|exact mFx|refine mGx ?_ ?_ ?_|exact mHx|exact mIx _|(simp only [wM,Nat.reduceAdd,Nat.reduceLT,Nat.reduceLeDiff];done)));done)|omega|decide) only [sBox_ag, x1, x2, x3, callT su, ↓wA,wB,wL,resOf,Nat.reduceBEq,Int.reduceBEq,Int.reduceBNe,Int.reduceLT,Int.reduceLE,Int.reduceAdd,Int.reduceSub,Int.reduceMul,Int.reduceToNat]
  refine ⟨_, rfl, congrArg AV.bool ?_, gp⟩
  rw [Bool.eq_iff_iff]
  simp only [beq_iff_eq, decide_eq_true_eq]
end Go.Proofs.YtelalpohbodolaaDoor
