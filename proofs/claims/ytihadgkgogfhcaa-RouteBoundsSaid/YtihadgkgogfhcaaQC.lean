/- The matrix of distances. -/
import Derived.Test.YtihadgkgogfhcaaQB
import Derived.Test.YtihadgkgogfhcaaRE
set_option linter.unusedSimpArgs false
set_option linter.unusedVariables false
set_option maxHeartbeats 8000000
set_option maxRecDepth 20000
namespace Go.Abs
theorem zero64 : [AV.int .i64 0, .int .i64 0, .int .i64 0, .int .i64 0, .int .i64 0, .int .i64 0, .int .i64 0, .int .i64 0, .int .i64 0, .int .i64 0, .int .i64 0, .int .i64 0, .int .i64 0, .int .i64 0, .int .i64 0, .int .i64 0, .int .i64 0, .int .i64 0, .int .i64 0, .int .i64 0, .int .i64 0, .int .i64 0, .int .i64 0, .int .i64 0, .int .i64 0, .int .i64 0, .int .i64 0, .int .i64 0, .int .i64 0, .int .i64 0, .int .i64 0, .int .i64 0, .int .i64 0, .int .i64 0, .int .i64 0, .int .i64 0, .int .i64 0, .int .i64 0, .int .i64 0, .int .i64 0, .int .i64 0, .int .i64 0, .int .i64 0, .int .i64 0, .int .i64 0, .int .i64 0, .int .i64 0, .int .i64 0, .int .i64 0, .int .i64 0, .int .i64 0, .int .i64 0, .int .i64 0, .int .i64 0, .int .i64 0, .int .i64 0, .int .i64 0, .int .i64 0, .int .i64 0, .int .i64 0, .int .i64 0, .int .i64 0, .int .i64 0, .int .i64 0] = ints .i64 (tabF 64 fun _ => 0) := rfl
end Go.Abs
namespace Go.Ro
open Go.Abs
def mat (M : Nat → Nat → Int) : List Int := tabF 64 (flat M)
theorem mat_set {M : Nat → Nat → Int} {a b : Nat} {v : Int} (ha : a < 8) (hb : b < 8) : (mat M).set (a * 8 + b) v = mat fun x y => if x = a ∧ y = b then v else M x y := by
  unfold mat
  rw [tabF_set (by omega)]
  exact tabF_congr fun i _ => flat_upd hb i
theorem mat_congr {M M' : Nat → Nat → Int} (h : ∀ x y, M x y = M' x y) : mat M = mat M' := tabF_congr fun i _ => h _ _
theorem mat_len {M : Nat → Nat → Int} : (mat M).length = 64 := tabF_len
theorem mat_ld {lim : Nat} {bs : List (Nat × Blk)} {id a b : Nat} {M : Nat → Nat → Int} (A : ArrB lim bs id (mat M)) (ha : a < 8) (hb : b < 8) : cellB bs id (a * 8 + b) = some (.int .i64 (M a b)) := by
  rw [A.tab (by omega), flat_at hb]
theorem mat_new {h0 h : Hp} {id a b : Nat} {M : Nat → Nat → Int} {v : Int} (ho : Hok h0) (g : Grown h0 h) (A : ArrB h0.next h.blks id (mat M)) (ha : a < 8) (hb : b < 8) :
    ∃ h', sStore 1 h (.int .i64 v) (.ptr id (a * 8 + b)) = some (.any, h') ∧ ArrB h0.next h'.blks id (mat fun x y => if x = a ∧ y = b then v else M x y) ∧ Grown h0 h' ∧ h'.next = h.next ∧ (∀ j d, j ≠ id → d.ch ≠ id → Abs.lkB h.blks j = some d → Abs.lkB h'.blks j = some d) := by
  obtain ⟨h', e, A', r⟩ := arr_set (v := v) ho g A (i := a * 8 + b) (by rw [mat_len]; omega)
  rw [mat_set ha hb] at A'
  exact ⟨h', e, A', r⟩
end Go.Ro
namespace Go.Proofs.Ytihadgkgogfhcaa
open Go Go.Abs Go.Pa Go.Ro

theorem f50 (n : Nat) (a : AV) (E : List (Int × Int)) (h : Hp) (hk : Hok h) (ha : Pairs h.blks a E) (hn : n ≤ 8) (hE : E.length ≤ 100) (hO : EdgeOK n E) :
    Evals Try.prog tab false (.func 50) [.int .i64 n, a] h (.ag (ints .i64 (mat (fw (M1 E n) n n))), h) := by
  refine evals_pure c50 rfl hk ?_ (refsOK_ints)
  simp only [sf50, initS_cons, initS_nil]
  have g1 : Grown h ((h.en.pu (ints .i64 (tabF 64 fun _ => 0))).pu (ints .i64 (tabF 64 fun _ => 0))) := Grown.pu (Grown.pu Grown.en refsOK_ints) refsOK_ints
  have B0 : ArrB h.next ((h.en.pu (ints .i64 (tabF 64 fun _ => 0))).pu (ints .i64 (tabF 64 fun _ => 0))).blks h.next (tabF 64 fun _ => 0) := ⟨by rw [lkB_push (by simp), lkB_top], Nat.le_refl _⟩
  have C0 : ArrB h.next ((h.en.pu (ints .i64 (tabF 64 fun _ => 0))).pu (ints .i64 (tabF 64 fun _ => 0))).blks (h.next + 1) (mat (M0 n 0 0)) := ⟨by
    rw [lkB_top]
    have : (tabF 64 fun _ => (0 : Int)) = mat (M0 n 0 0) := tabF_congr fun i _ => by simp [flat, M0]
    rw [this], by omega⟩
  rw [zero64]
  simp (disch := first|(simp only [Nat.reduceBEq,wE];done)|((repeat' (first|assumption|exact mAx _|refine mBx ?_ ?_|exact mCx (by assumption)|refine mDx ?_|refine mEx ?_ ?_ ?_|exact mFx|refine mGx ?_ ?_ ?_|exact mHx|exact mIx _|(simp only [wM,Nat.reduceAdd,Nat.reduceLT,Nat.reduceLeDiff];done)));done)|omega|decide) only [↓wA,wB,wL,resOf,Nat.reduceBEq,Int.reduceBEq,Int.reduceBNe,Int.reduceLT,Int.reduceLE,Int.reduceAdd,Int.reduceSub,Int.reduceMul,Int.reduceToNat]
  refine wloop (fun mm ss => ∃ (x : Nat) (h1 : Hp) (u6 u7 u9 u10 u11 u12 u15 u17 u18 u19 u23 u30 u31 u32 u33 u49 u50 u51 u53 u54 u55 u57 u58 u59 : AV), (mm = n - x) ∧ (x ≤ n ∧ Grown h h1 ∧ ArrB h.next h1.blks h.next (tabF 64 fun _ => 0) ∧ ArrB h.next h1.blks (h.next + 1) (mat (M0 n x 0))) ∧ ss = { fr := [(0, .int .i64 n), (1, a), (4, .ptr h.next 0), (5, .ptr (h.next + 1) 0), (6, u6), (7, u7), (9, u9), (10, u10), (11, u11), (12, u12), (13, .int .i64 n), (14, .int .i64 x), (15, u15), (17, u17), (18, u18), (19, u19), (23, u23), (30, u30), (31, u31), (32, u32), (33, u33), (49, u49), (50, u50), (51, u51), (53, u53), (54, u54), (55, u55), (57, u57), (58, u58), (59, u59)], hp := h1 }) (n) ?_ ?_
  ·
    refine ⟨0, _, _, _, _, _, _, _, _, _, _, _, _, _, _, _, _, _, _, _, _, _, _, _, _, _, by omega, ⟨by omega, g1, B0, C0⟩, rfl⟩
  rintro nA sA ⟨x, h1, u6, u7, u9, u10, u11, u12, u15, u17, u18, u19, u23, u30, u31, u32, u33, u49, u50, u51, u53, u54, u55, u57, u58, u59, hnA, ⟨hi, g2, B2, C2⟩, rfl⟩
  have k2 := g2.ok hk
  simp (disch := first|(simp only [Nat.reduceBEq,wE];done)|((repeat' (first|assumption|exact mAx _|refine mBx ?_ ?_|exact mCx (by assumption)|refine mDx ?_|refine mEx ?_ ?_ ?_|exact mFx|refine mGx ?_ ?_ ?_|exact mHx|exact mIx _|(simp only [wM,Nat.reduceAdd,Nat.reduceLT,Nat.reduceLeDiff];done)));done)|omega|decide) only [↓wA,wB,wL,resOf,Nat.reduceBEq,Int.reduceBEq,Int.reduceBNe,Int.reduceLT,Int.reduceLE,Int.reduceAdd,Int.reduceSub,Int.reduceMul,Int.reduceToNat]
  refine ifThen_intro (fun e => ?_) (fun e => ?_) <;> have eq := e <;> try simp [-List.getD_eq_getElem?_getD] at eq
  · simp (disch := first|(simp only [Nat.reduceBEq,wE];done)|((repeat' (first|assumption|exact mAx _|refine mBx ?_ ?_|exact mCx (by assumption)|refine mDx ?_|refine mEx ?_ ?_ ?_|exact mFx|refine mGx ?_ ?_ ?_|exact mHx|exact mIx _|(simp only [wM,Nat.reduceAdd,Nat.reduceLT,Nat.reduceLeDiff];done)));done)|omega|decide) only [e, ↓wA,wB,wL,resOf,Nat.reduceBEq,Int.reduceBEq,Int.reduceBNe,Int.reduceLT,Int.reduceLE,Int.reduceAdd,Int.reduceSub,Int.reduceMul,Int.reduceToNat]
    refine wloop (fun mm ss => ∃ (y : Nat) (h1 : Hp) (u7 u9 u10 u11 u12 u15 u19 u23 u30 u31 u32 u33 u49 u50 u51 u53 u54 u55 u57 u58 u59 : AV), (mm = n - y) ∧ (y ≤ n ∧ Grown h h1 ∧ ArrB h.next h1.blks h.next (tabF 64 fun _ => 0) ∧ ArrB h.next h1.blks (h.next + 1) (mat (M0 n x y))) ∧ ss = { fr := [(0, .int .i64 n), (1, a), (4, .ptr h.next 0), (5, .ptr (h.next + 1) 0), (6, .int .i64 x), (7, u7), (9, u9), (10, u10), (11, u11), (12, u12), (13, .int .i64 n), (14, .int .i64 x), (15, u15), (17, .int .i64 n), (18, .int .i64 y), (19, u19), (23, u23), (30, u30), (31, u31), (32, u32), (33, u33), (49, u49), (50, u50), (51, u51), (53, u53), (54, u54), (55, u55), (57, u57), (58, u58), (59, u59)], hp := h1 }) (n) ?_ ?_
    ·
      refine ⟨0, _, _, _, _, _, _, _, _, _, _, _, _, _, _, _, _, _, _, _, _, _, _, by omega, ⟨by omega, g2, B2, C2⟩, rfl⟩
    clear g2 B2 C2 k2 h1
    rintro nB sB ⟨y, h1, u7, u9, u10, u11, u12, u15, u19, u23, u30, u31, u32, u33, u49, u50, u51, u53, u54, u55, u57, u58, u59, hnB, ⟨hj, g2, B2, C2⟩, rfl⟩
    simp (disch := first|(simp only [Nat.reduceBEq,wE];done)|((repeat' (first|assumption|exact mAx _|refine mBx ?_ ?_|exact mCx (by assumption)|refine mDx ?_|refine mEx ?_ ?_ ?_|exact mFx|refine mGx ?_ ?_ ?_|exact mHx|exact mIx _|(simp only [wM,Nat.reduceAdd,Nat.reduceLT,Nat.reduceLeDiff];done)));done)|omega|decide) only [e, ↓wA,wB,wL,resOf,Nat.reduceBEq,Int.reduceBEq,Int.reduceBNe,Int.reduceLT,Int.reduceLE,Int.reduceAdd,Int.reduceSub,Int.reduceMul,Int.reduceToNat]
    refine ifThen_intro (fun e2 => ?_) (fun e2 => ?_) <;> have e2q := e2 <;> try simp [-List.getD_eq_getElem?_getD] at e2q
    · by_cases e3 : x = y
      · have e3t : ((x : Int) != (y : Int)) = false := by simp [e3]
        simp (disch := first|(simp only [Nat.reduceBEq,wE];done)|((repeat' (first|assumption|exact mAx _|refine mBx ?_ ?_|exact mCx (by assumption)|refine mDx ?_|refine mEx ?_ ?_ ?_|exact mFx|refine mGx ?_ ?_ ?_|exact mHx|exact mIx _|(simp only [wM,Nat.reduceAdd,Nat.reduceLT,Nat.reduceLeDiff];done)));done)|omega|decide) only [e, e2, e3t, ↓wA,wB,wL,resOf,Nat.reduceBEq,Int.reduceBEq,Int.reduceBNe,Int.reduceLT,Int.reduceLE,Int.reduceAdd,Int.reduceSub,Int.reduceMul,Int.reduceToNat]
        subst e3
        rw [mat_congr fun p q => M0_skip] at C2
        refine ⟨_, ?_, x + 1, h1, _, _, _, _, _, _, _, _, _, _, _, _, _, _, _, _, _, _, _, _, _, rfl, ?_, rfl⟩
        · omega
        exact ⟨by omega, g2, B2, C2⟩
      · have e3t : ((x : Int) != (y : Int)) = true := by simp; omega
        obtain ⟨h3, es, C3, g3, n3, r3⟩ := mat_new (v := 8) hk g2 C2 (a := x) (b := y) (by omega) (by omega)
        rw [mat_congr fun p q => M0_step (by omega) e3] at C3
        simp (disch := first|(simp only [Nat.reduceBEq,wE];done)|((repeat' (first|assumption|exact mAx _|refine mBx ?_ ?_|exact mCx (by assumption)|refine mDx ?_|refine mEx ?_ ?_ ?_|exact mFx|refine mGx ?_ ?_ ?_|exact mHx|exact mIx _|(simp only [wM,Nat.reduceAdd,Nat.reduceLT,Nat.reduceLeDiff];done)));done)|omega|decide) only [e, e2, e3t, sIxA_ptr, es, ↓wA,wB,wL,resOf,Nat.reduceBEq,Int.reduceBEq,Int.reduceBNe,Int.reduceLT,Int.reduceLE,Int.reduceAdd,Int.reduceSub,Int.reduceMul,Int.reduceToNat]
        refine ⟨_, ?_, y + 1, h3, _, _, _, _, _, _, _, _, _, _, _, _, _, _, _, _, _, _, _, _, _, rfl, ?_, rfl⟩
        · omega
        exact ⟨by omega, g3, ⟨r3 _ _ (by omega) (by simp) B2.1, B2.2⟩, C3⟩
    · rw [show y = n by omega, mat_congr fun p q => M0_row] at C2
      simp (disch := first|(simp only [Nat.reduceBEq,wE];done)|((repeat' (first|assumption|exact mAx _|refine mBx ?_ ?_|exact mCx (by assumption)|refine mDx ?_|refine mEx ?_ ?_ ?_|exact mFx|refine mGx ?_ ?_ ?_|exact mHx|exact mIx _|(simp only [wM,Nat.reduceAdd,Nat.reduceLT,Nat.reduceLeDiff];done)));done)|omega|decide) only [e, e2, ↓wA,wB,wL,resOf,Nat.reduceBEq,Int.reduceBEq,Int.reduceBNe,Int.reduceLT,Int.reduceLE,Int.reduceAdd,Int.reduceSub,Int.reduceMul,Int.reduceToNat]
      refine ⟨_, ?_, x + 1, h1, _, _, _, _, _, _, _, _, _, _, _, _, _, _, _, _, _, _, _, _, _, _, _, _, rfl, ?_, rfl⟩
      · omega
      exact ⟨by omega, g2, B2, C2⟩
  · rw [show x = n by omega, mat_congr fun p q => M0_end] at C2
    have a2 := ha.sub (g2.sub hk)
    simp (disch := first|(simp only [Nat.reduceBEq,wE];done)|((repeat' (first|assumption|exact mAx _|refine mBx ?_ ?_|exact mCx (by assumption)|refine mDx ?_|refine mEx ?_ ?_ ?_|exact mFx|refine mGx ?_ ?_ ?_|exact mHx|exact mIx _|(simp only [wM,Nat.reduceAdd,Nat.reduceLT,Nat.reduceLeDiff];done)));done)|omega|decide) only [e, a2.len, ↓wA,wB,wL,resOf,Nat.reduceBEq,Int.reduceBEq,Int.reduceBNe,Int.reduceLT,Int.reduceLE,Int.reduceAdd,Int.reduceSub,Int.reduceMul,Int.reduceToNat]
    refine wloop (fun mm ss => ∃ (i : Nat) (h1 : Hp) (u1 u6 u7 u9 u10 u11 u12 u13 u14 u15 u17 u18 u19 u23 u33 u49 u50 u51 u53 u54 u55 u57 u58 u59 : AV), (mm = E.length - i) ∧ (i ≤ E.length ∧ Grown h h1 ∧ ArrB h.next h1.blks h.next (tabF 64 fun _ => 0) ∧ ArrB h.next h1.blks (h.next + 1) (mat (M1 (E.take i) n))) ∧ ss = { fr := [(0, .int .i64 n), (1, u1), (4, .ptr h.next 0), (5, .ptr (h.next + 1) 0), (6, u6), (7, u7), (9, u9), (10, u10), (11, u11), (12, u12), (13, u13), (14, u14), (15, u15), (17, u17), (18, u18), (19, u19), (23, u23), (30, a), (31, .int .i64 E.length), (32, .int .i64 i), (33, u33), (49, u49), (50, u50), (51, u51), (53, u53), (54, u54), (55, u55), (57, u57), (58, u58), (59, u59)], hp := h1 }) (E.length) ?_ ?_
    ·
      refine ⟨0, _, _, _, _, _, _, _, _, _, _, _, _, _, _, _, _, _, _, _, _, _, _, _, _, _, by omega, ⟨by omega, g2, B2, by rw [List.take_zero]; exact C2⟩, rfl⟩
    clear g2 B2 C2 k2 a2 h1
    rintro nC sC ⟨i, h1, u1, u6, u7, u9, u10, u11, u12, u13, u14, u15, u17, u18, u19, u23, u33, u49, u50, u51, u53, u54, u55, u57, u58, u59, hnC, ⟨hj, g2, B2, C2⟩, rfl⟩
    have k2 := g2.ok hk
    have a2 := ha.sub (g2.sub hk)
    simp (disch := first|(simp only [Nat.reduceBEq,wE];done)|((repeat' (first|assumption|exact mAx _|refine mBx ?_ ?_|exact mCx (by assumption)|refine mDx ?_|refine mEx ?_ ?_ ?_|exact mFx|refine mGx ?_ ?_ ?_|exact mHx|exact mIx _|(simp only [wM,Nat.reduceAdd,Nat.reduceLT,Nat.reduceLeDiff];done)));done)|omega|decide) only [e, ↓wA,wB,wL,resOf,Nat.reduceBEq,Int.reduceBEq,Int.reduceBNe,Int.reduceLT,Int.reduceLE,Int.reduceAdd,Int.reduceSub,Int.reduceMul,Int.reduceToNat]
    refine ifThen_intro (fun e2 => ?_) (fun e2 => ?_) <;> have e2q := e2 <;> try simp [-List.getD_eq_getElem?_getD] at e2q
    · obtain ⟨x, y, exy, hx, hy⟩ := hO.nat e2q
      have e1 : (E.getD i (0, 0)).1 = (x : Int) := by rw [exy]
      have e2' : (E.getD i (0, 0)).2 = (y : Int) := by rw [exy]
      have hlt : h.next + 1 < h1.next := (k2.get C2.1).1
      have ge : Grown h { next := h1.next + 1, blks := (h1.next, { cells := [AV.int .i64 x, AV.int .i64 y], ch := h1.next, wr := true }) :: h1.blks, loops := h1.loops, base := h1.base, esc := h1.esc } := GrownR.push g2 rfl (Nat.le_refl _)
      have sb : Sub h1.blks ((h1.next, { cells := [AV.int .i64 x, AV.int .i64 y], ch := h1.next, wr := true }) :: h1.blks) := Sub.push (Sub.refl _) (HokR.fresh k2)
      obtain ⟨h3, es, C3, g3, n3, r3⟩ := mat_new (v := 1) hk ge (C2.sub sb) (a := x) (b := y) (by omega) (by omega)
      obtain ⟨h4, es4, C4, g4, n4, r4⟩ := mat_new (v := 1) hk g3 C3 (a := y) (b := x) (by omega) (by omega)
      rw [mat_congr fun p q => M1_step, ← exy, ← take_snoc e2q] at C4
      have lk1 := r3 h1.next { cells := [AV.int .i64 x, AV.int .i64 y], ch := h1.next, wr := true } (by omega) (by simp; omega) lkB_top
      have c0 : cellB h3.blks h1.next 0 = some (.int .i64 x) := by simp only [cellB, lk1, Option.bind_some]; rfl
      have c1 : cellB h3.blks h1.next 1 = some (.int .i64 y) := by simp only [cellB, lk1, Option.bind_some]; rfl
      simp (disch := first|(simp only [Nat.reduceBEq,wE];done)|((repeat' (first|assumption|exact mAx _|refine mBx ?_ ?_|exact mCx (by assumption)|refine mDx ?_|refine mEx ?_ ?_ ?_|exact mFx|refine mGx ?_ ?_ ?_|exact mHx|exact mIx _|(simp only [wM,Nat.reduceAdd,Nat.reduceLT,Nat.reduceLeDiff];done)));done)|omega|decide) only [e, e2, a2.ix, a2.lda, e1, e2', sIxA_ptr, es, es4, c0, c1, ↓wA,wB,wL,resOf,Nat.reduceBEq,Int.reduceBEq,Int.reduceBNe,Int.reduceLT,Int.reduceLE,Int.reduceAdd,Int.reduceSub,Int.reduceMul,Int.reduceToNat]
      refine ⟨_, ?_, i + 1, h4, _, _, _, _, _, _, _, _, _, _, _, _, _, _, _, _, _, _, _, _, _, _, _, _, rfl, ?_, rfl⟩
      · omega
      exact ⟨by omega, g4, ⟨r4 _ _ (by omega) (by simp) (r3 _ _ (by omega) (by simp) (sb _ _ B2.1)), B2.2⟩, C4⟩
    · rw [List.take_of_length_le (by omega)] at C2
      have bd := fw_bd (E := E) (n := n)
      have bd1 := fun k => fwAll_bd (k := k) (n := n) (bd k)
      simp (disch := first|(simp only [Nat.reduceBEq,wE];done)|((repeat' (first|assumption|exact mAx _|refine mBx ?_ ?_|exact mCx (by assumption)|refine mDx ?_|refine mEx ?_ ?_ ?_|exact mFx|refine mGx ?_ ?_ ?_|exact mHx|exact mIx _|(simp only [wM,Nat.reduceAdd,Nat.reduceLT,Nat.reduceLeDiff];done)));done)|omega|decide) only [e, e2, ↓wA,wB,wL,resOf,Nat.reduceBEq,Int.reduceBEq,Int.reduceBNe,Int.reduceLT,Int.reduceLE,Int.reduceAdd,Int.reduceSub,Int.reduceMul,Int.reduceToNat]
      refine wloop (fun mm ss => ∃ (k : Nat) (h1 : Hp) (u1 u6 u7 u9 u10 u11 u12 u13 u14 u15 u17 u18 u19 u23 u30 u31 u32 u33 u51 u53 u54 u55 u57 u58 u59 : AV), (mm = n - k) ∧ (k ≤ n ∧ Grown h h1 ∧ ArrB h.next h1.blks h.next (tabF 64 fun _ => 0) ∧ ArrB h.next h1.blks (h.next + 1) (mat (fw (M1 E n) n k))) ∧ ss = { fr := [(0, .int .i64 n), (1, u1), (4, .ptr h.next 0), (5, .ptr (h.next + 1) 0), (6, u6), (7, u7), (9, u9), (10, u10), (11, u11), (12, u12), (13, u13), (14, u14), (15, u15), (17, u17), (18, u18), (19, u19), (23, u23), (30, u30), (31, u31), (32, u32), (33, u33), (49, .int .i64 n), (50, .int .i64 k), (51, u51), (53, u53), (54, u54), (55, u55), (57, u57), (58, u58), (59, u59)], hp := h1 }) (n) ?_ ?_
      ·
        refine ⟨0, _, _, _, _, _, _, _, _, _, _, _, _, _, _, _, _, _, _, _, _, _, _, _, _, _, _, by omega, ⟨by omega, g2, B2, C2⟩, rfl⟩
      clear g2 B2 C2 k2 a2 h1
      rintro nF sF ⟨k, h1, u1, u6, u7, u9, u10, u11, u12, u13, u14, u15, u17, u18, u19, u23, u30, u31, u32, u33, u51, u53, u54, u55, u57, u58, u59, hnF, ⟨hk1, g2, B2, C2⟩, rfl⟩
      simp (disch := first|(simp only [Nat.reduceBEq,wE];done)|((repeat' (first|assumption|exact mAx _|refine mBx ?_ ?_|exact mCx (by assumption)|refine mDx ?_|refine mEx ?_ ?_ ?_|exact mFx|refine mGx ?_ ?_ ?_|exact mHx|exact mIx _|(simp only [wM,Nat.reduceAdd,Nat.reduceLT,Nat.reduceLeDiff];done)));done)|omega|decide) only [e, e2, ↓wA,wB,wL,resOf,Nat.reduceBEq,Int.reduceBEq,Int.reduceBNe,Int.reduceLT,Int.reduceLE,Int.reduceAdd,Int.reduceSub,Int.reduceMul,Int.reduceToNat]
      refine ifThen_intro (fun e3 => ?_) (fun e3 => ?_) <;> have e3q := e3 <;> try simp [-List.getD_eq_getElem?_getD] at e3q
      · simp (disch := first|(simp only [Nat.reduceBEq,wE];done)|((repeat' (first|assumption|exact mAx _|refine mBx ?_ ?_|exact mCx (by assumption)|refine mDx ?_|refine mEx ?_ ?_ ?_|exact mFx|refine mGx ?_ ?_ ?_|exact mHx|exact mIx _|(simp only [wM,Nat.reduceAdd,Nat.reduceLT,Nat.reduceLeDiff];done)));done)|omega|decide) only [e, e2, e3, ↓wA,wB,wL,resOf,Nat.reduceBEq,Int.reduceBEq,Int.reduceBNe,Int.reduceLT,Int.reduceLE,Int.reduceAdd,Int.reduceSub,Int.reduceMul,Int.reduceToNat]
        refine wloop (fun mm ss => ∃ (x : Nat) (h1 : Hp) (u1 u6 u7 u9 u11 u12 u13 u14 u15 u17 u18 u19 u23 u30 u31 u32 u33 u51 u55 u57 u58 u59 : AV), (mm = n - x) ∧ (x ≤ n ∧ Grown h h1 ∧ ArrB h.next h1.blks h.next (tabF 64 fun _ => 0) ∧ ArrB h.next h1.blks (h.next + 1) (mat (fwAll (fw (M1 E n) n k) k n x))) ∧ ss = { fr := [(0, .int .i64 n), (1, u1), (4, .ptr h.next 0), (5, .ptr (h.next + 1) 0), (6, u6), (7, u7), (9, u9), (10, .int .i64 k), (11, u11), (12, u12), (13, u13), (14, u14), (15, u15), (17, u17), (18, u18), (19, u19), (23, u23), (30, u30), (31, u31), (32, u32), (33, u33), (49, .int .i64 n), (50, .int .i64 k), (51, u51), (53, .int .i64 n), (54, .int .i64 x), (55, u55), (57, u57), (58, u58), (59, u59)], hp := h1 }) (n) ?_ ?_
        ·
          refine ⟨0, _, _, _, _, _, _, _, _, _, _, _, _, _, _, _, _, _, _, _, _, _, _, _, by omega, ⟨by omega, g2, B2, C2⟩, rfl⟩
        clear g2 B2 C2 h1
        rintro nG sG ⟨x, h1, u1, u6, u7, u9, u11, u12, u13, u14, u15, u17, u18, u19, u23, u30, u31, u32, u33, u51, u55, u57, u58, u59, hnG, ⟨hx1, g2, B2, C2⟩, rfl⟩
        simp (disch := first|(simp only [Nat.reduceBEq,wE];done)|((repeat' (first|assumption|exact mAx _|refine mBx ?_ ?_|exact mCx (by assumption)|refine mDx ?_|refine mEx ?_ ?_ ?_|exact mFx|refine mGx ?_ ?_ ?_|exact mHx|exact mIx _|(simp only [wM,Nat.reduceAdd,Nat.reduceLT,Nat.reduceLeDiff];done)));done)|omega|decide) only [e, e2, e3, ↓wA,wB,wL,resOf,Nat.reduceBEq,Int.reduceBEq,Int.reduceBNe,Int.reduceLT,Int.reduceLE,Int.reduceAdd,Int.reduceSub,Int.reduceMul,Int.reduceToNat]
        refine ifThen_intro (fun e4 => ?_) (fun e4 => ?_) <;> have e4q := e4 <;> try simp [-List.getD_eq_getElem?_getD] at e4q
        · simp (disch := first|(simp only [Nat.reduceBEq,wE];done)|((repeat' (first|assumption|exact mAx _|refine mBx ?_ ?_|exact mCx (by assumption)|refine mDx ?_|refine mEx ?_ ?_ ?_|exact mFx|refine mGx ?_ ?_ ?_|exact mHx|exact mIx _|(simp only [wM,Nat.reduceAdd,Nat.reduceLT,Nat.reduceLeDiff];done)));done)|omega|decide) only [e, e2, e3, e4, ↓wA,wB,wL,resOf,Nat.reduceBEq,Int.reduceBEq,Int.reduceBNe,Int.reduceLT,Int.reduceLE,Int.reduceAdd,Int.reduceSub,Int.reduceMul,Int.reduceToNat]
          refine wloop (fun mm ss => ∃ (y : Nat) (h1 : Hp) (u1 u6 u7 u9 u12 u13 u14 u15 u17 u18 u19 u23 u30 u31 u32 u33 u51 u55 u59 : AV), (mm = n - y) ∧ (y ≤ n ∧ Grown h h1 ∧ ArrB h.next h1.blks h.next (tabF 64 fun _ => 0) ∧ ArrB h.next h1.blks (h.next + 1) (mat (fwRow (fwAll (fw (M1 E n) n k) k n x) k x y))) ∧ ss = { fr := [(0, .int .i64 n), (1, u1), (4, .ptr h.next 0), (5, .ptr (h.next + 1) 0), (6, u6), (7, u7), (9, u9), (10, .int .i64 k), (11, .int .i64 x), (12, u12), (13, u13), (14, u14), (15, u15), (17, u17), (18, u18), (19, u19), (23, u23), (30, u30), (31, u31), (32, u32), (33, u33), (49, .int .i64 n), (50, .int .i64 k), (51, u51), (53, .int .i64 n), (54, .int .i64 x), (55, u55), (57, .int .i64 n), (58, .int .i64 y), (59, u59)], hp := h1 }) (n) ?_ ?_
          ·
            refine ⟨0, _, _, _, _, _, _, _, _, _, _, _, _, _, _, _, _, _, _, _, _, by omega, ⟨by omega, g2, B2, C2⟩, rfl⟩
          clear g2 B2 C2 h1
          rintro nH sH ⟨y, h1, u1, u6, u7, u9, u12, u13, u14, u15, u17, u18, u19, u23, u30, u31, u32, u33, u51, u55, u59, hnH, ⟨hy1, g2, B2, C2⟩, rfl⟩
          simp (disch := first|(simp only [Nat.reduceBEq,wE];done)|((repeat' (first|assumption|exact mAx _|refine mBx ?_ ?_|exact mCx (by assumption)|refine mDx ?_|refine mEx ?_ ?_ ?_|exact mFx|refine mGx ?_ ?_ ?_|exact mHx|exact mIx _|(simp only [wM,Nat.reduceAdd,Nat.reduceLT,Nat.reduceLeDiff];done)));done)|omega|decide) only [e, e2, e3, e4, ↓wA,wB,wL,resOf,Nat.reduceBEq,Int.reduceBEq,Int.reduceBNe,Int.reduceLT,Int.reduceLE,Int.reduceAdd,Int.reduceSub,Int.reduceMul,Int.reduceToNat]
          refine ifThen_intro (fun e5 => ?_) (fun e5 => ?_) <;> have e5q := e5 <;> try simp [-List.getD_eq_getElem?_getD] at e5q
          · have bR := Go.Ro.fwRow_bd (k := k) (a := x) (bd1 k x) y
            have l1 := mat_ld C2 (a := x) (b := y) (by omega) (by omega)
            have l2 := mat_ld C2 (a := x) (b := k) (by omega) (by omega)
            have l3 := mat_ld C2 (a := k) (b := y) (by omega) (by omega)
            have b2 := bR x k
            have b3 := bR k y
            obtain ⟨h3, es, C3, g3, n3, r3⟩ := mat_new (v := min (fwRow (fwAll (fw (M1 E n) n k) k n x) k x y x y) (fwRow (fwAll (fw (M1 E n) n k) k n x) k x y x k + fwRow (fwAll (fw (M1 E n) n k) k n x) k x y k y)) hk g2 C2 (a := x) (b := y) (by omega) (by omega)
            simp (disch := first|(simp only [Nat.reduceBEq,wE];done)|((repeat' (first|assumption|exact mAx _|refine mBx ?_ ?_|exact mCx (by assumption)|refine mDx ?_|refine mEx ?_ ?_ ?_|exact mFx|refine mGx ?_ ?_ ?_|exact mHx|exact mIx _|(simp only [wM,Nat.reduceAdd,Nat.reduceLT,Nat.reduceLeDiff];done)));done)|omega|decide) only [e, e2, e3, e4, e5, sIxA_ptr, l1, l2, l3, es, ↓wA,wB,wL,resOf,Nat.reduceBEq,Int.reduceBEq,Int.reduceBNe,Int.reduceLT,Int.reduceLE,Int.reduceAdd,Int.reduceSub,Int.reduceMul,Int.reduceToNat]
            refine ⟨_, ?_, y + 1, h3, _, _, _, _, _, _, _, _, _, _, _, _, _, _, _, _, _, _, _, rfl, ?_, rfl⟩
            · omega
            exact ⟨by omega, g3, ⟨r3 _ _ (by omega) (by simp) B2.1, B2.2⟩, C3⟩
          · rw [show y = n by omega] at C2
            simp (disch := first|(simp only [Nat.reduceBEq,wE];done)|((repeat' (first|assumption|exact mAx _|refine mBx ?_ ?_|exact mCx (by assumption)|refine mDx ?_|refine mEx ?_ ?_ ?_|exact mFx|refine mGx ?_ ?_ ?_|exact mHx|exact mIx _|(simp only [wM,Nat.reduceAdd,Nat.reduceLT,Nat.reduceLeDiff];done)));done)|omega|decide) only [e, e2, e3, e4, e5, ↓wA,wB,wL,resOf,Nat.reduceBEq,Int.reduceBEq,Int.reduceBNe,Int.reduceLT,Int.reduceLE,Int.reduceAdd,Int.reduceSub,Int.reduceMul,Int.reduceToNat]
            refine ⟨_, ?_, x + 1, h1, _, _, _, _, _, _, _, _, _, _, _, _, _, _, _, _, _, _, _, _, _, _, rfl, ?_, rfl⟩
            · omega
            exact ⟨by omega, g2, B2, C2⟩
        · rw [show x = n by omega] at C2
          simp (disch := first|(simp only [Nat.reduceBEq,wE];done)|((repeat' (first|assumption|exact mAx _|refine mBx ?_ ?_|exact mCx (by assumption)|refine mDx ?_|refine mEx ?_ ?_ ?_|exact mFx|refine mGx ?_ ?_ ?_|exact mHx|exact mIx _|(simp only [wM,Nat.reduceAdd,Nat.reduceLT,Nat.reduceLeDiff];done)));done)|omega|decide) only [e, e2, e3, e4, ↓wA,wB,wL,resOf,Nat.reduceBEq,Int.reduceBEq,Int.reduceBNe,Int.reduceLT,Int.reduceLE,Int.reduceAdd,Int.reduceSub,Int.reduceMul,Int.reduceToNat]
          refine ⟨_, ?_, k + 1, h1, _, _, _, _, _, _, _, _, _, _, _, _, _, _, _, _, _, _, _, _, _, _, _, _, _, rfl, ?_, rfl⟩
          · omega
          exact ⟨by omega, g2, B2, C2⟩
      · rw [show k = n by omega] at C2
        obtain ⟨h3, es, D3, g3, n3, r3⟩ := arr_all (f := flat (fw (M1 E n) n n)) hk g2 B2 tabF_len
        have l5 : aggB h1.blks (h.next + 1) 0 64 = some (.ag (ints .i64 (mat (fw (M1 E n) n n)))) := C2.all
        have l4 : aggB h3.blks h.next 0 64 = some (.ag (ints .i64 (mat (fw (M1 E n) n n)))) := D3.all
        have es' : sStore 64 h1 (.ag (ints .i64 (mat (fw (M1 E n) n n)))) (.ptr h.next 0) = some (.any, h3) := es
        simp (disch := first|(simp only [Nat.reduceBEq,wE];done)|((repeat' (first|assumption|exact mAx _|refine mBx ?_ ?_|exact mCx (by assumption)|refine mDx ?_|refine mEx ?_ ?_ ?_|exact mFx|refine mGx ?_ ?_ ?_|exact mHx|exact mIx _|(simp only [wM,Nat.reduceAdd,Nat.reduceLT,Nat.reduceLeDiff];done)));done)|omega|decide) only [e, e2, e3, l5, es', l4, ↓wA,wB,wL,resOf,Nat.reduceBEq,Int.reduceBEq,Int.reduceBNe,Int.reduceLT,Int.reduceLE,Int.reduceAdd,Int.reduceSub,Int.reduceMul,Int.reduceToNat]
        exact ⟨_, rfl, rfl, g3⟩
end Go.Proofs.Ytihadgkgogfhcaa
