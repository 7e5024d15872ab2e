/- The reference's pairs of squares. -/
import Derived.Test.YthalpbiifpfagaaNQ
import Derived.Test.YthalpbiifpfagaaNF
set_option linter.unusedSimpArgs false
set_option linter.unusedVariables false
set_option maxHeartbeats 4000000
set_option maxRecDepth 20000

namespace Go.Qt4

def rowL (top par i j : Nat) : List Nat := bif okp par top i then (sqL top par j).map (sq top i + ·) else []
def pfx (top par i j : Nat) : List Nat := prd (sqL top par i) (sqL top par (2 * top + 1)) ++ rowL top par i j
theorem sqL_len (top par : Nat) : ∀ i, (sqL top par i).length ≤ i
  | 0 => Nat.le_refl _
  | i + 1 => by
    have := sqL_len top par i
    rw [sqL]
    cases okp par top i
    · simp only [cond_false]; omega
    · simp only [cond_true, List.length_append, List.length_singleton]; omega
theorem rowL_len (top par i j : Nat) : (rowL top par i j).length ≤ j := by
  have := sqL_len top par j
  rw [rowL]
  cases okp par top i
  · simp
  · simpa using this
theorem pfx_len (top par i j : Nat) : (pfx top par i j).length ≤ i * (2 * top + 1) + j := by
  have h1 := rowL_len top par i j
  have h2 : (sqL top par i).length * (sqL top par (2 * top + 1)).length ≤ i * (2 * top + 1) := Nat.mul_le_mul (sqL_len ..) (sqL_len ..)
  rw [pfx, List.length_append, len_prd]
  omega
theorem pfx_0 (top par i : Nat) : pfx top par i 0 = prd (sqL top par i) (sqL top par (2 * top + 1)) := by
  rw [pfx, rowL]
  cases okp par top i <;> simp [sqL]
theorem sqL_yes {top par i : Nat} (h : okp par top i = true) : sqL top par (i + 1) = sqL top par i ++ [sq top i] := by
  show (bif okp par top i then _ else _) = _
  rw [h]; rfl
theorem sqL_no {top par i : Nat} (h : okp par top i = false) : sqL top par (i + 1) = sqL top par i := by
  show (bif okp par top i then _ else _) = _
  rw [h]; rfl
theorem pfx_yes {top par i j : Nat} (hi : okp par top i = true) (hj : okp par top j = true) : pfx top par i (j + 1) = pfx top par i j ++ [sq top i + sq top j] := by
  rw [pfx, pfx, rowL, rowL, hi, sqL_yes hj]
  simp
theorem pfx_no {top par i j : Nat} (h : okp par top i = false ∨ okp par top j = false) : pfx top par i (j + 1) = pfx top par i j := by
  rw [pfx, pfx, rowL, rowL]
  rcases h with h | h
  · rw [h]; rfl
  · rw [sqL_no h]
theorem prd_snoc (m : List Nat) (e : Nat) (l : List Nat) : prd (l ++ [e]) m = prd l m ++ m.map (e + ·) := by simp [prd]
theorem pfx_end (top par i : Nat) : pfx top par i (2 * top + 1) = pfx top par (i + 1) 0 := by
  rw [pfx_0, pfx, rowL]
  cases h : okp par top i
  · rw [sqL_no h]; simp
  · rw [sqL_yes h, cond_true, prd_snoc]
def outF (F : List Nat) (n : Nat) : List Int := (List.range (n + 1)).map fun v => (F.count v : Int)
theorem outF_len (F : List Nat) (n : Nat) : (outF F n).length = n + 1 := by simp [outF]
theorem outF_get {F : List Nat} {n v : Nat} (h : v ≤ n) : (outF F n).getD v 0 = F.count v := by
  have : v < (List.range (n + 1)).length := by simp; omega
  simp [outF, List.getD_eq_getElem?_getD, List.getElem?_map, List.getElem?_eq_getElem this]
theorem outF_set {F : List Nat} {n v : Nat} (h : v ≤ n) : (outF F n).set v ((F.count v : Int) + 1) = outF (F ++ [v]) n := by
  refine List.ext_getElem (by simp [outF]) fun i h1 h2 => ?_
  rw [List.getElem_set]
  simp only [outF, List.getElem_map, List.getElem_range, List.count_append, List.count_singleton]
  by_cases e : v = i
  · subst e; simp
  · rw [if_neg e, if_neg (by simpa using e)]; simp
theorem outF_out {F : List Nat} {n v : Nat} (h : n < v) : outF (F ++ [v]) n = outF F n := by
  refine List.map_congr_left fun i hi => ?_
  have := List.mem_range.1 hi
  rw [List.count_append, List.count_singleton, if_neg (by simp; omega), Nat.add_zero]
theorem outF_nil (n : Nat) : outF [] n = List.replicate (n + 1) 0 := by
  refine List.ext_getElem (by simp [outF]) fun i h1 h2 => ?_
  simp [outF]
theorem sq_int (top i : Nat) : ((i : Int) - top) * ((i : Int) - top) = (sq top i : Nat) := by
  unfold sq
  cases h : Nat.ble i top
  · have h1 : ¬ i ≤ top := fun x => by rw [Nat.ble_eq_true_of_le x] at h; cases h
    obtain ⟨k, rfl⟩ : ∃ k, i = top + k := ⟨i - top, by omega⟩
    rw [cond_false, show top + k - top = k by omega, show (((top + k : Nat) : Int) - top) = (k : Int) by omega]
    exact (Int.natCast_mul k k).symm
  · have h1 := Nat.le_of_ble_eq_true h
    obtain ⟨k, rfl⟩ : ∃ k, top = i + k := ⟨top - i, by omega⟩
    rw [cond_true, show i + k - i = k by omega, show ((i : Int) - ((i + k : Nat) : Int)) = -(k : Int) by omega, Int.neg_mul_neg]
    exact (Int.natCast_mul k k).symm
theorem sq_le {top i : Nat} (h : i ≤ 2 * top) : sq top i ≤ top * top := by
  unfold sq
  cases Nat.ble i top
  · exact Nat.mul_le_mul (by omega) (by omega)
  · exact Nat.mul_le_mul (by omega) (by omega)
theorem par_int (top par i : Nat) : (((i : Int) - top) % 2 == (par : Int)) = Nat.beq ((i + top) % 2) par := by
  cases h : Nat.beq ((i + top) % 2) par
  · have h1 : ¬ (i + top) % 2 = par := fun x => by rw [x, Nat.beq_refl] at h; cases h
    exact beq_eq_false_iff_ne.2 (by omega)
  · have h1 := Nat.eq_of_beq_eq_true h
    exact beq_iff_eq.2 (by omega)
theorem two_int (par : Nat) : ((par : Int) == 2) = Nat.beq par 2 := by
  cases h : Nat.beq par 2
  · have h1 : ¬ par = 2 := fun x => by rw [x] at h; cases h
    exact beq_eq_false_iff_ne.2 (by omega)
  · have h1 := Nat.eq_of_beq_eq_true h
    exact beq_iff_eq.2 (by omega)

end Go.Qt4


namespace Go.Proofs.Ythalpbiifpfagaa

open Go Go.Abs Go.Nm Go.Qt4

theorem f20 (n top par : Nat) (h : Hp) (hk : Hok h) (hn : n ≤ 40000) (ht : top ≤ 200) (hp : par ≤ 2) :
    ∃ v h', Evals Try.prog tab false (.func 20) [.int .i64 n, .int .i64 top, .int .i64 par] h (v, h') ∧ Grown h h' ∧ Own h.next h'.blks .i64 v (outF (pr (sqL top par (2 * top + 1))) n) := by
  refine evals_q c20 (fun v h' => Own h.next h'.blks .i64 v (outF (pr (sqL top par (2 * top + 1))) n)) rfl hk ?_ (fun v h1 g q => q.leave)
  simp only [sf20, initS_cons, initS_nil]
  have mk := fun (hh : Hp) (z : List AV) (m : Nat) => sMks_ok (h := hh) (z := z) (n := m) (l := n + 1) (c := n + 1) (Nat.le_refl _) (by omega)
  have en : (n : Int) + 1 = ((n + 1 : Nat) : Int) := rfl
  have o0 : Own h.next ((h.next, { cells := Abs.ints .i64 (List.replicate (n + 1) 0), ch := h.next, wr := true }) :: h.blks) .i64 (.sl h.next 0 (n + 1) (some (n + 1)) 1) (List.replicate (n + 1) 0) :=
    Own.fresh (Nat.le_refl _) (by simp) (by rw [ints_take, List.take_of_length_le (by simp)]) (by simp [ints_len]) (Nat.le_refl _)
  simp (disch := first|(simp only [Nat.reduceBEq,wE];done)|((repeat' (first|assumption|exact mAx _|refine mBx ?_ ?_|exact mCx (by assumption)|refine mDx ?_|refine mEx ?_ ?_ ?_|exact mFx|refine mGx ?_ ?_ ?_|exact mHx|exact mIx _|(simp only [wM,Nat.reduceAdd,Nat.reduceLT,Nat.reduceLeDiff];done)));done)|omega|decide) only [en, mk, repl_ints, ↓wA,wB,wL,resOf,Nat.reduceBEq,Int.reduceBEq,Int.reduceBNe,Int.reduceLT,Int.reduceLE,Int.reduceAdd,Int.reduceSub,Int.reduceMul,Int.reduceToNat]
  refine wloop (fun mm ss => ∃ (i : Nat) (h1 : Hp) (u6 u9 u10 u18 u25 u53 : AV), (mm = 2 * top + 1 - i) ∧ (i ≤ 2 * top + 1 ∧ Grown h h1 ∧ Own h.next h1.blks .i64 (.sl h.next 0 (n + 1) (some (n + 1)) 1) (outF (pfx top par i 0) n)) ∧ ss = { fr := [(0, .int .i64 n), (1, .int .i64 top), (2, .int .i64 par), (6, u6), (7, .sl h.next 0 (n + 1) (some (n + 1)) 1), (8, .int .i64 ((i : Int) - top)), (9, u9), (10, u10), (18, u18), (25, u25), (53, u53)], hp := h1 }) (2 * top + 1) ?_ ?_
  ·
    have e0 : pfx top par 0 0 = [] := by rw [pfx_0]; rfl
    have e1 : (0 : Int) - (top : Int) = ((0 : Nat) : Int) - top := rfl
    try rw [e1]
    refine ⟨0, _, _, _, _, _, _, _, by omega, ⟨by omega, GrownR.push Grown.en refsOK_ints (Nat.le_refl _), by rw [e0, outF_nil]; exact o0⟩, rfl⟩
  rintro nA sA ⟨i, h1, u6, u9, u10, u18, u25, u53, hnA, ⟨hi, g1, o1⟩, rfl⟩
  simp (disch := first|(simp only [Nat.reduceBEq,wE];done)|((repeat' (first|assumption|exact mAx _|refine mBx ?_ ?_|exact mCx (by assumption)|refine mDx ?_|refine mEx ?_ ?_ ?_|exact mFx|refine mGx ?_ ?_ ?_|exact mHx|exact mIx _|(simp only [wM,Nat.reduceAdd,Nat.reduceLT,Nat.reduceLeDiff];done)));done)|omega|decide) only [↓wA,wB,wL,resOf,Nat.reduceBEq,Int.reduceBEq,Int.reduceBNe,Int.reduceLT,Int.reduceLE,Int.reduceAdd,Int.reduceSub,Int.reduceMul,Int.reduceToNat]
  refine ifThen_intro (fun e => ?_) (fun e => ?_) <;> have eq := e <;> try simp [-List.getD_eq_getElem?_getD] at eq
  · have hi2 : i ≤ 2 * top := by omega
    have ei := sq_int top i
    have bi := sq_le hi2
    have bt : top * top ≤ 200 * 200 := Nat.mul_le_mul ht ht
    simp (disch := first|(simp only [Nat.reduceBEq,wE];done)|((repeat' (first|assumption|exact mAx _|refine mBx ?_ ?_|exact mCx (by assumption)|refine mDx ?_|refine mEx ?_ ?_ ?_|exact mFx|refine mGx ?_ ?_ ?_|exact mHx|exact mIx _|(simp only [wM,Nat.reduceAdd,Nat.reduceLT,Nat.reduceLeDiff];done)));done)|omega|decide) only [e, ↓wA,wB,wL,resOf,Nat.reduceBEq,Int.reduceBEq,Int.reduceBNe,Int.reduceLT,Int.reduceLE,Int.reduceAdd,Int.reduceSub,Int.reduceMul,Int.reduceToNat]
    refine wloop (fun mm ss => ∃ (j : Nat) (h2 : Hp) (u6 u10 u18 u25 u53 : AV), (mm = 2 * top + 1 - j) ∧ (j ≤ 2 * top + 1 ∧ Grown h h2 ∧ Own h.next h2.blks .i64 (.sl h.next 0 (n + 1) (some (n + 1)) 1) (outF (pfx top par i j) n)) ∧ ss = { fr := [(0, .int .i64 n), (1, .int .i64 top), (2, .int .i64 par), (6, u6), (7, .sl h.next 0 (n + 1) (some (n + 1)) 1), (8, .int .i64 ((i : Int) - top)), (9, .int .i64 ((j : Int) - top)), (10, u10), (18, u18), (25, u25), (53, u53)], hp := h2 }) (2 * top + 1) ?_ ?_
    ·
      refine ⟨0, h1, _, _, _, _, _, by omega, ⟨by omega, g1, o1⟩, rfl⟩
    rintro nB sB ⟨j, h2, u6, u10, u18, u25, u53, hnB, ⟨hj, g2, o2⟩, rfl⟩
    simp (disch := first|(simp only [Nat.reduceBEq,wE];done)|((repeat' (first|assumption|exact mAx _|refine mBx ?_ ?_|exact mCx (by assumption)|refine mDx ?_|refine mEx ?_ ?_ ?_|exact mFx|refine mGx ?_ ?_ ?_|exact mHx|exact mIx _|(simp only [wM,Nat.reduceAdd,Nat.reduceLT,Nat.reduceLeDiff];done)));done)|omega|decide) only [e, ↓wA,wB,wL,resOf,Nat.reduceBEq,Int.reduceBEq,Int.reduceBNe,Int.reduceLT,Int.reduceLE,Int.reduceAdd,Int.reduceSub,Int.reduceMul,Int.reduceToNat]
    refine ifThen_intro (fun e2 => ?_) (fun e2 => ?_) <;> have e2q := e2 <;> try simp [-List.getD_eq_getElem?_getD] at e2q
    · have hj2 : j ≤ 2 * top := by omega
      have ej := sq_int top j
      have bj := sq_le hj2
      have ev : ((sq top i : Nat) : Int) + ((sq top j : Nat) : Int) = ((sq top i + sq top j : Nat) : Int) := rfl
      have nx : (j : Int) - top + 1 = ((j + 1 : Nat) : Int) - top := by omega
      have hF : (pfx top par i j).length ≤ 400000 := by
        have h1 := pfx_len top par i j
        have h2 : i * (2 * top + 1) ≤ 400 * 401 := Nat.mul_le_mul (by omega) (by omega)
        omega
      have hl := outF_len (pfx top par i j) n
      simp (disch := first|(simp only [Nat.reduceBEq,wE];done)|((repeat' (first|assumption|exact mAx _|refine mBx ?_ ?_|exact mCx (by assumption)|refine mDx ?_|refine mEx ?_ ?_ ?_|exact mFx|refine mGx ?_ ?_ ?_|exact mHx|exact mIx _|(simp only [wM,Nat.reduceAdd,Nat.reduceLT,Nat.reduceLeDiff];done)));done)|omega|decide) only [e, e2, ei, ej, ev, ↓wA,wB,wL,resOf,Nat.reduceBEq,Int.reduceBEq,Int.reduceBNe,Int.reduceLT,Int.reduceLE,Int.reduceAdd,Int.reduceSub,Int.reduceMul,Int.reduceToNat]
      by_cases hv : sq top i + sq top j ≤ n
      · have g3 := outF_get (F := pfx top par i j) hv
        have hcl : (pfx top par i j).count (sq top i + sq top j) ≤ 400000 := Nat.le_trans List.count_le_length hF
        obtain ⟨h3, e4, o3, g4⟩ := own_setI (v := ((pfx top par i j).count (sq top i + sq top j) : Int) + 1) (i := sq top i + sq top j) hk g2 o2 (by omega)
        rw [outF_set hv] at o3
        cases p2 : Nat.beq par 2
        · cases pa : Nat.beq ((i + top) % 2) par
          · have eno : pfx top par i (j + 1) = pfx top par i j := pfx_no (.inl (by rw [okp, p2, pa]; rfl))
            simp (disch := first|(simp only [Nat.reduceBEq,wE];done)|((repeat' (first|assumption|exact mAx _|refine mBx ?_ ?_|exact mCx (by assumption)|refine mDx ?_|refine mEx ?_ ?_ ?_|exact mFx|refine mGx ?_ ?_ ?_|exact mHx|exact mIx _|(simp only [wM,Nat.reduceAdd,Nat.reduceLT,Nat.reduceLeDiff];done)));done)|omega|decide) only [e, e2, decide_eq_true (show ((sq top i + sq top j : Nat) : Int) ≤ (n : Int) by omega), two_int, p2, sBin_and1, par_int, pa, nx, ↓wA,wB,wL,resOf,Nat.reduceBEq,Int.reduceBEq,Int.reduceBNe,Int.reduceLT,Int.reduceLE,Int.reduceAdd,Int.reduceSub,Int.reduceMul,Int.reduceToNat]
            refine ⟨_, ?_, j + 1, h2, _, _, _, _, _, rfl, ?_, rfl⟩
            · omega
            exact ⟨by omega, g2, by rw [eno]; exact o2⟩
          · cases pc : Nat.beq ((j + top) % 2) par
            · have eno : pfx top par i (j + 1) = pfx top par i j := pfx_no (.inr (by rw [okp, p2, pc]; rfl))
              simp (disch := first|(simp only [Nat.reduceBEq,wE];done)|((repeat' (first|assumption|exact mAx _|refine mBx ?_ ?_|exact mCx (by assumption)|refine mDx ?_|refine mEx ?_ ?_ ?_|exact mFx|refine mGx ?_ ?_ ?_|exact mHx|exact mIx _|(simp only [wM,Nat.reduceAdd,Nat.reduceLT,Nat.reduceLeDiff];done)));done)|omega|decide) only [e, e2, decide_eq_true (show ((sq top i + sq top j : Nat) : Int) ≤ (n : Int) by omega), two_int, p2, sBin_and1, par_int, pa, pc, nx, ↓wA,wB,wL,resOf,Nat.reduceBEq,Int.reduceBEq,Int.reduceBNe,Int.reduceLT,Int.reduceLE,Int.reduceAdd,Int.reduceSub,Int.reduceMul,Int.reduceToNat]
              refine ⟨_, ?_, j + 1, h2, _, _, _, _, _, rfl, ?_, rfl⟩
              · omega
              exact ⟨by omega, g2, by rw [eno]; exact o2⟩
            · have eyes : pfx top par i (j + 1) = pfx top par i j ++ [sq top i + sq top j] := pfx_yes (by rw [okp, p2, pa]; rfl) (by rw [okp, p2, pc]; rfl)
              simp (disch := first|(simp only [Nat.reduceBEq,wE];done)|((repeat' (first|assumption|exact mAx _|refine mBx ?_ ?_|exact mCx (by assumption)|refine mDx ?_|refine mEx ?_ ?_ ?_|exact mFx|refine mGx ?_ ?_ ?_|exact mHx|exact mIx _|(simp only [wM,Nat.reduceAdd,Nat.reduceLT,Nat.reduceLeDiff];done)));done)|omega|decide) only [e, e2, decide_eq_true (show ((sq top i + sq top j : Nat) : Int) ≤ (n : Int) by omega), two_int, p2, sBin_and1, par_int, pa, pc, o2.ints.ix, o2.ints.ld, g3, e4, nx, ↓wA,wB,wL,resOf,Nat.reduceBEq,Int.reduceBEq,Int.reduceBNe,Int.reduceLT,Int.reduceLE,Int.reduceAdd,Int.reduceSub,Int.reduceMul,Int.reduceToNat]
              refine ⟨_, ?_, j + 1, h3, _, _, _, _, _, rfl, ?_, rfl⟩
              · omega
              exact ⟨by omega, g4, by rw [eyes]; exact o3⟩
        · have eyes : pfx top par i (j + 1) = pfx top par i j ++ [sq top i + sq top j] := pfx_yes (by rw [okp, p2]; rfl) (by rw [okp, p2]; rfl)
          simp (disch := first|(simp only [Nat.reduceBEq,wE];done)|((repeat' (first|assumption|exact mAx _|refine mBx ?_ ?_|exact mCx (by assumption)|refine mDx ?_|refine mEx ?_ ?_ ?_|exact mFx|refine mGx ?_ ?_ ?_|exact mHx|exact mIx _|(simp only [wM,Nat.reduceAdd,Nat.reduceLT,Nat.reduceLeDiff];done)));done)|omega|decide) only [e, e2, decide_eq_true (show ((sq top i + sq top j : Nat) : Int) ≤ (n : Int) by omega), two_int, p2, o2.ints.ix, o2.ints.ld, g3, e4, nx, ↓wA,wB,wL,resOf,Nat.reduceBEq,Int.reduceBEq,Int.reduceBNe,Int.reduceLT,Int.reduceLE,Int.reduceAdd,Int.reduceSub,Int.reduceMul,Int.reduceToNat]
          refine ⟨_, ?_, j + 1, h3, _, _, _, _, _, rfl, ?_, rfl⟩
          · omega
          exact ⟨by omega, g4, by rw [eyes]; exact o3⟩
      · have same : outF (pfx top par i (j + 1)) n = outF (pfx top par i j) n := by
          cases pi : okp par top i
          · rw [pfx_no (.inl pi)]
          · cases pj : okp par top j
            · rw [pfx_no (.inr pj)]
            · rw [pfx_yes pi pj, outF_out (by omega)]
        simp (disch := first|(simp only [Nat.reduceBEq,wE];done)|((repeat' (first|assumption|exact mAx _|refine mBx ?_ ?_|exact mCx (by assumption)|refine mDx ?_|refine mEx ?_ ?_ ?_|exact mFx|refine mGx ?_ ?_ ?_|exact mHx|exact mIx _|(simp only [wM,Nat.reduceAdd,Nat.reduceLT,Nat.reduceLeDiff];done)));done)|omega|decide) only [e, e2, decide_eq_false (show ¬ ((sq top i + sq top j : Nat) : Int) ≤ (n : Int) by omega), nx, ↓wA,wB,wL,resOf,Nat.reduceBEq,Int.reduceBEq,Int.reduceBNe,Int.reduceLT,Int.reduceLE,Int.reduceAdd,Int.reduceSub,Int.reduceMul,Int.reduceToNat]
        refine ⟨_, ?_, j + 1, h2, _, _, _, _, _, rfl, ?_, rfl⟩
        · omega
        exact ⟨by omega, g2, by rw [same]; exact o2⟩
    · have hje : j = 2 * top + 1 := by omega
      have nx : (i : Int) - top + 1 = ((i + 1 : Nat) : Int) - top := by omega
      rw [hje, pfx_end] at o2
      simp (disch := first|(simp only [Nat.reduceBEq,wE];done)|((repeat' (first|assumption|exact mAx _|refine mBx ?_ ?_|exact mCx (by assumption)|refine mDx ?_|refine mEx ?_ ?_ ?_|exact mFx|refine mGx ?_ ?_ ?_|exact mHx|exact mIx _|(simp only [wM,Nat.reduceAdd,Nat.reduceLT,Nat.reduceLeDiff];done)));done)|omega|decide) only [e, e2, nx, ↓wA,wB,wL,resOf,Nat.reduceBEq,Int.reduceBEq,Int.reduceBNe,Int.reduceLT,Int.reduceLE,Int.reduceAdd,Int.reduceSub,Int.reduceMul,Int.reduceToNat]
      refine ⟨_, ?_, i + 1, h2, _, _, _, _, _, _, rfl, ?_, rfl⟩
      · omega
      exact ⟨by omega, g2, o2⟩
  · have hie : i = 2 * top + 1 := by omega
    rw [hie, pfx_0] at o1
    simp (disch := first|(simp only [Nat.reduceBEq,wE];done)|((repeat' (first|assumption|exact mAx _|refine mBx ?_ ?_|exact mCx (by assumption)|refine mDx ?_|refine mEx ?_ ?_ ?_|exact mFx|refine mGx ?_ ?_ ?_|exact mHx|exact mIx _|(simp only [wM,Nat.reduceAdd,Nat.reduceLT,Nat.reduceLeDiff];done)));done)|omega|decide) only [e, ↓wA,wB,wL,resOf,Nat.reduceBEq,Int.reduceBEq,Int.reduceBNe,Int.reduceLT,Int.reduceLE,Int.reduceAdd,Int.reduceSub,Int.reduceMul,Int.reduceToNat]
    exact ⟨_, rfl, g1, o1⟩

end Go.Proofs.Ythalpbiifpfagaa

