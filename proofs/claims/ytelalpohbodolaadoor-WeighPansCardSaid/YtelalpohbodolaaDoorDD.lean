/- The reference's sums, indices and first part; cut. -/
import Derived.Test.YtelalpohbodolaaDoorD9
set_option linter.unusedSimpArgs false
set_option linter.unusedVariables false
set_option maxHeartbeats 4000000
set_option maxRecDepth 20000
namespace Go.Abs
theorem sBin_shrN {a j : Nat} (hj : j ≤ 40) : sBin .shr .no (.int .i64 (a : Int)) (.int .i64 (j : Int)) = some (.int .i64 ((a / 2 ^ j : Nat) : Int)) := by
  have hm : min ((j : Int).toNat) IntKind.i64.bits = j := by rw [Int.toNat_natCast]; show min j 64 = j; omega
  simp only [sBin, abShift, hm]
  rw [if_neg (by omega), Int.fdiv_eq_ediv_of_nonneg _ (by have := Int.pow_pos (n := 2) (m := j) (by omega); omega)]
  simp
end Go.Abs
namespace Go.Wg
def suU (zs : List Int) (i k : Nat) : List Int := SU (zs.take i) ++ ((SU (zs.take i)).take k).map (· + zs.getD i 0)
theorem suU_len {zs : List Int} {i k : Nat} (hi : i ≤ zs.length) (hk : k ≤ 2 ^ i) : (suU zs i k).length = 2 ^ i + k := by
  unfold suU
  rw [List.length_append, List.length_map, List.length_take, SU_len, List.length_take, show min i zs.length = i by omega, show min k (2 ^ i) = k by omega]
theorem SU_take_len {zs : List Int} {i : Nat} (hi : i ≤ zs.length) : (SU (zs.take i)).length = 2 ^ i := by rw [SU_len, List.length_take, show min i zs.length = i by omega]
theorem suU_suc {zs : List Int} {i k : Nat} (hi : i < zs.length) (hk : k < 2 ^ i) : suU zs i (k + 1) = suU zs i k ++ [(suU zs i k).getD k 0 + zs.getD i 0] := by
  have hl := SU_take_len (zs := zs) (Nat.le_of_lt hi)
  have hg : (suU zs i k).getD k 0 = (SU (zs.take i)).getD k 0 := by
    unfold suU
    rw [List.getD_eq_getElem?_getD, List.getElem?_append_left (by omega), ← List.getD_eq_getElem?_getD]
  rw [hg]
  unfold suU
  have g0 : (SU (zs.take i)).getD k 0 = (SU (zs.take i))[k]'(by omega) := by rw [List.getD_eq_getElem?_getD, List.getElem?_eq_getElem (by omega), Option.getD_some]
  rw [g0, List.take_succ_eq_append_getElem (by omega), List.map_append, List.append_assoc]
  rfl
theorem suU_all {zs : List Int} {i : Nat} (hi : i < zs.length) : suU zs i (2 ^ i) = SU (zs.take (i + 1)) := by
  have hl := SU_take_len (zs := zs) (Nat.le_of_lt hi)
  unfold suU
  have g0 : zs.getD i 0 = zs[i] := by rw [List.getD_eq_getElem?_getD, List.getElem?_eq_getElem hi, Option.getD_some]
  have g1 : (SU (zs.take i)).take (2 ^ i) = SU (zs.take i) := List.take_of_length_le (by omega)
  rw [g0, g1, List.take_succ_eq_append_getElem hi, SU_snoc]
theorem SU_get {zs : List Int} {s : Nat} (h : s < 2 ^ zs.length) : (SU zs).getD s 0 = msum zs s := by
  rw [List.getD_eq_getElem?_getD, List.getElem?_eq_getElem (by rw [SU_len]; exact h), Option.getD_some]
  simp [SU]
theorem SU_bd {zs : List Int} (h : ∀ z ∈ zs, 0 ≤ z ∧ z ≤ 100000) (hz : zs.length ≤ 16) : ∀ s, 0 ≤ (SU zs).getD s 0 ∧ (SU zs).getD s 0 ≤ 1600000 := fun s => by
  rcases Nat.lt_or_ge s (2 ^ zs.length) with h1 | h1
  · rw [SU_get h1]
    have := msum_bound (l := zs) (W := 100000) (by omega) h s
    omega
  · rw [List.getD_eq_getElem?_getD, List.getElem?_eq_none (by rw [SU_len]; exact h1)]
    simp
/- The least of the parts below one with a property. -/
def leastI (n : Nat) (P : Nat → Bool) (k : Nat) : Option (List Int) → Prop
  | none => ∀ s, s < k → P s = false
  | some x => ∃ s, s < k ∧ P s = true ∧ x = fl n s ∧ ∀ t, t < k → P t = true → ¬ fl n t < x
end Go.Wg
namespace Go.Proofs.YtelalpohbodolaaDoor
open Go Go.Abs Go.Wg

theorem f13 (a : AV) (zs : List Int) (h : Hp) (hk : Hok h) (ha : Ints h.blks .i64 a zs) (hz : zs.length ≤ maxLen) :
    ∃ v h', Evals Tryd.prog tab false (.func 13) [a] h (v, h') ∧ Grown h h' ∧ Own h.next h'.blks .i64 v (zs.take 13) := by
  refine evals_q c13 (fun v h' => Own h.next h'.blks .i64 v (zs.take 13)) rfl hk ?_ (fun v h1 g q => q.leave)
  simp only [sf13, initS_cons, initS_nil]
  have mx : maxLen = 9223372036854775807 := by unfold maxLen; rfl
  have k1 : Hok (h.en.pu []) := Hok.pu hk rfl
  have a1 : Ints (h.en.pu []).blks .i64 a zs := ha.sub (Sub.pu (h := h.en) hk)
  obtain ⟨a', ea, ia⟩ := a1.upto (m := min zs.length 13) (by omega) (h.en.pu [])
  have em : min (zs.length : Int) 13 = ((min zs.length 13 : Nat) : Int) := by omega
  have et : zs.take (min zs.length 13) = zs.take 13 := by
    by_cases h : zs.length ≤ 13
    · rw [List.take_of_length_le (by omega), List.take_of_length_le h]
    · rw [show min zs.length 13 = 13 by omega]
  rw [et] at ia
  have O : Own h.next (h.en.pu []).blks .i64 (.sl h.next 0 0 (some 0) 1) [] := Own.fresh (Nat.le_refl _) rfl rfl rfl (Nat.le_refl _)
  obtain ⟨s1, h2, e2, o2, g2, _⟩ := own_appI (h0 := h) (h := h.en.pu []) hk (Grown.pu Grown.en rfl) O ia (by rw [List.length_nil]; simp; omega)
  rw [List.nil_append] at o2
  simp (disch := first|(simp only [Nat.reduceBEq,wE];done)|((repeat' (first|assumption|exact mAx _|refine mBx ?_ ?_|exact mCx (by assumption)|refine mDx ?_|refine mEx ?_ ?_ ?_|exact mFx|refine mGx ?_ ?_ ?_|exact mHx|exact mIx _|(simp only [wM,Nat.reduceAdd,Nat.reduceLT,Nat.reduceLeDiff];done)));done)|omega|decide) only [a1.len, em, ea, e2, ↓wA,wB,wL,resOf,Nat.reduceBEq,Int.reduceBEq,Int.reduceBNe,Int.reduceLT,Int.reduceLE,Int.reduceAdd,Int.reduceSub,Int.reduceMul,Int.reduceToNat]
  exact ⟨_, rfl, g2, o2⟩

theorem f43 (a : AV) (zs : List Int) (h : Hp) (hk : Hok h) (ha : Ints h.blks .i64 a zs) (hz : zs.length ≤ 12) (hb : ∀ z ∈ zs, 0 ≤ z ∧ z ≤ 100000) :
    ∃ v h', Evals Tryd.prog tab false (.func 43) [a] h (v, h') ∧ Grown h h' ∧ Own h.next h'.blks .i64 v (SU zs) := by
  refine evals_q c43 (fun v h' => Own h.next h'.blks .i64 v (SU zs)) rfl hk ?_ (fun v h1 g q => q.leave)
  simp only [sf43, initS_cons, initS_nil]
  have O : Own h.next (h.en.pu [.int .i64 0]).blks .i64 (.sl h.next 0 1 (some 1) 1) (SU (zs.take 0)) := Own.fresh (Nat.le_refl _) rfl rfl rfl (Nat.le_refl _)
  simp (disch := first|(simp only [Nat.reduceBEq,wE];done)|((repeat' (first|assumption|exact mAx _|refine mBx ?_ ?_|exact mCx (by assumption)|refine mDx ?_|refine mEx ?_ ?_ ?_|exact mFx|refine mGx ?_ ?_ ?_|exact mHx|exact mIx _|(simp only [wM,Nat.reduceAdd,Nat.reduceLT,Nat.reduceLeDiff];done)));done)|omega|decide) only [sBS_1, ↓wA,wB,wL,resOf,Nat.reduceBEq,Int.reduceBEq,Int.reduceBNe,Int.reduceLT,Int.reduceLE,Int.reduceAdd,Int.reduceSub,Int.reduceMul,Int.reduceToNat]
  refine wloop (fun mm ss => ∃ (i : Nat) (q : AV) (h1 : Hp) (u2 u5 u6 u11 u18 : AV), (mm = zs.length - i) ∧ (i ≤ zs.length ∧ Grown h h1 ∧ Own h.next h1.blks .i64 q (SU (zs.take i))) ∧ ss = { fr := [(0, a), (2, u2), (3, q), (4, .int .i64 i), (5, u5), (6, u6), (11, u11), (18, u18)], hp := h1 }) (zs.length) ?_ ?_
  ·
    refine ⟨0, _, _, _, _, _, _, _, by omega, ⟨by omega, Grown.pu Grown.en rfl, O⟩, rfl⟩
  rintro nA sA ⟨i, q, h1, u2, u5, u6, u11, u18, hnA, ⟨hi, g1, o1⟩, rfl⟩
  have k1 := g1.ok hk
  have a1 := ha.sub (g1.sub hk)
  have sl := SU_take_len hi
  have ol := o1.len
  rw [sl] at ol
  by_cases e1 : i < zs.length
  · have d1 : decide ((i : Int) < (zs.length : Int)) = true := decide_eq_true (by omega)
    have p12 : 2 ^ i ≤ 2 ^ 12 := Nat.pow_le_pow_right (by omega) (by omega)
    have p12 : 2 ^ i ≤ 4096 := p12
    obtain ⟨T, hT⟩ : ∃ T, T = 2 ^ i := ⟨_, rfl⟩
    rw [← hT] at ol p12 sl
    simp (disch := first|(simp only [Nat.reduceBEq,wE];done)|((repeat' (first|assumption|exact mAx _|refine mBx ?_ ?_|exact mCx (by assumption)|refine mDx ?_|refine mEx ?_ ?_ ?_|exact mFx|refine mGx ?_ ?_ ?_|exact mHx|exact mIx _|(simp only [wM,Nat.reduceAdd,Nat.reduceLT,Nat.reduceLeDiff];done)));done)|omega|decide) only [a1.len, d1, ol, ↓wA,wB,wL,resOf,Nat.reduceBEq,Int.reduceBEq,Int.reduceBNe,Int.reduceLT,Int.reduceLE,Int.reduceAdd,Int.reduceSub,Int.reduceMul,Int.reduceToNat]
    refine wloop (fun mm ss => ∃ (k : Nat) (q2 : AV) (h2 : Hp) (u2 u11 u18 : AV), (mm = T - k) ∧ (k ≤ T ∧ Grown h h2 ∧ Own h.next h2.blks .i64 q2 (suU zs i k)) ∧ ss = { fr := [(0, a), (2, u2), (3, q2), (4, .int .i64 i), (5, .int .i64 T), (6, .int .i64 k), (11, u11), (18, u18)], hp := h2 }) (T) ?_ ?_
    ·
      refine ⟨0, _, _, _, _, _, by omega, ⟨by omega, g1, by unfold suU; rw [List.take_zero, List.map_nil, List.append_nil]; exact o1⟩, rfl⟩
    rintro nB sB ⟨k, q2, h2, u2, u11, u18, hnB, ⟨hk2, g2, o2⟩, rfl⟩
    have k2 := g2.ok hk
    have a2 := ha.sub (g2.sub hk)
    have ul := suU_len (zs := zs) (i := i) (k := k) (by omega) (by omega)
    rw [← hT] at ul
    by_cases e2 : k < T
    · have d2 : decide ((k : Int) < (T : Int)) = true := decide_eq_true (by omega)
      have us := suU_suc e1 (show k < 2 ^ i by omega)
      have vb := hb (zs.getD i 0) (by rw [List.getD_eq_getElem?_getD, List.getElem?_eq_getElem e1, Option.getD_some]; exact List.getElem_mem e1)
      have ub : 0 ≤ (suU zs i k).getD k 0 ∧ (suU zs i k).getD k 0 ≤ 1600000 := by
        have hg : (suU zs i k).getD k 0 = (SU (zs.take i)).getD k 0 := by
          unfold suU
          rw [List.getD_eq_getElem?_getD, List.getElem?_append_left (by omega), ← List.getD_eq_getElem?_getD]
        rw [hg]
        exact SU_bd (fun z hz => hb z (List.mem_of_mem_take hz)) (by rw [List.length_take]; omega) k
      obtain ⟨q3, h3, y1, y2, y3, y4⟩ := own_app1 (v := (suU zs i k).getD k 0 + zs.getD i 0) hk g2 o2 (by omega)
      have s1 : Sub h2.blks ((h2.next, { cells := [.int .i64 ((suU zs i k).getD k 0 + zs.getD i 0)], ch := h2.next, wr := true }) :: h2.blks) := Sub.push (Sub.refl _) (HokR.fresh k2)
      simp (disch := first|(simp only [Nat.reduceBEq,wE];done)|((repeat' (first|assumption|exact mAx _|refine mBx ?_ ?_|exact mCx (by assumption)|refine mDx ?_|refine mEx ?_ ?_ ?_|exact mFx|refine mGx ?_ ?_ ?_|exact mHx|exact mIx _|(simp only [wM,Nat.reduceAdd,Nat.reduceLT,Nat.reduceLeDiff];done)));done)|omega|decide) only [d2, o2.ints.ix, o2.ints.ld, a2.ix, a2.ld, sBS_1, y1, ↓wA,wB,wL,resOf,Nat.reduceBEq,Int.reduceBEq,Int.reduceBNe,Int.reduceLT,Int.reduceLE,Int.reduceAdd,Int.reduceSub,Int.reduceMul,Int.reduceToNat]
      refine ⟨_, ?_, k + 1, _, _, _, _, _, rfl, ?_, rfl⟩
      · omega
      exact ⟨by omega, y3, by rw [us]; exact y2⟩
    · have d2 : decide ((k : Int) < (T : Int)) = false := decide_eq_false (by omega)
      rw [show k = 2 ^ i by omega, suU_all e1] at o2
      simp (disch := first|(simp only [Nat.reduceBEq,wE];done)|((repeat' (first|assumption|exact mAx _|refine mBx ?_ ?_|exact mCx (by assumption)|refine mDx ?_|refine mEx ?_ ?_ ?_|exact mFx|refine mGx ?_ ?_ ?_|exact mHx|exact mIx _|(simp only [wM,Nat.reduceAdd,Nat.reduceLT,Nat.reduceLeDiff];done)));done)|omega|decide) only [d2, ↓wA,wB,wL,resOf,Nat.reduceBEq,Int.reduceBEq,Int.reduceBNe,Int.reduceLT,Int.reduceLE,Int.reduceAdd,Int.reduceSub,Int.reduceMul,Int.reduceToNat]
      refine ⟨_, ?_, i + 1, _, _, _, _, _, _, _, rfl, ?_, rfl⟩
      · omega
      exact ⟨by omega, g2, o2⟩
  · have d1 : decide ((i : Int) < (zs.length : Int)) = false := decide_eq_false (by omega)
    rw [List.take_of_length_le (by omega)] at o1
    simp (disch := first|(simp only [Nat.reduceBEq,wE];done)|((repeat' (first|assumption|exact mAx _|refine mBx ?_ ?_|exact mCx (by assumption)|refine mDx ?_|refine mEx ?_ ?_ ?_|exact mFx|refine mGx ?_ ?_ ?_|exact mHx|exact mIx _|(simp only [wM,Nat.reduceAdd,Nat.reduceLT,Nat.reduceLeDiff];done)));done)|omega|decide) only [a1.len, d1, ↓wA,wB,wL,resOf,Nat.reduceBEq,Int.reduceBEq,Int.reduceBNe,Int.reduceLT,Int.reduceLE,Int.reduceAdd,Int.reduceSub,Int.reduceMul,Int.reduceToNat]
    exact ⟨_, rfl, g1, o1⟩

theorem f44 (s : Nat) (h : Hp) (hk : Hok h) (hs : s < 65536) :
    ∃ v h', Evals Tryd.prog tab false (.func 44) [.int .i64 s] h (v, h') ∧ Grown h h' ∧ (Own h.next h'.blks .i64 v (fl (blen s) s) ∧ v ≠ .nilsl) := by
  refine evals_q c44 (fun v h' => Own h.next h'.blks .i64 v (fl (blen s) s) ∧ v ≠ .nilsl) rfl hk ?_ (fun v h1 g q => ⟨fun hr => ⟨q.1.leave.1 hr, q.2⟩, fun hr => ⟨q.1.leave.2 hr, q.2⟩⟩)
  simp only [sf44, initS_cons, initS_nil]
  have bl : blen s ≤ 16 := blen_le.2 (by omega)
  have O : Own h.next (h.en.pu []).blks .i64 (.sl h.next 0 0 (some 0) 1) [] := Own.fresh (Nat.le_refl _) rfl rfl rfl (Nat.le_refl _)
  simp (disch := first|(simp only [Nat.reduceBEq,wE];done)|((repeat' (first|assumption|exact mAx _|refine mBx ?_ ?_|exact mCx (by assumption)|refine mDx ?_|refine mEx ?_ ?_ ?_|exact mFx|refine mGx ?_ ?_ ?_|exact mHx|exact mIx _|(simp only [wM,Nat.reduceAdd,Nat.reduceLT,Nat.reduceLeDiff];done)));done)|omega|decide) only [sBS_0, ↓wA,wB,wL,resOf,Nat.reduceBEq,Int.reduceBEq,Int.reduceBNe,Int.reduceLT,Int.reduceLE,Int.reduceAdd,Int.reduceSub,Int.reduceMul,Int.reduceToNat]
  refine wloop (fun mm ss => ∃ (i : Nat) (q : AV) (h1 : Hp) (u2 u9 u16 : AV), (mm = blen s - i) ∧ (i ≤ blen s ∧ Grown h h1 ∧ Own h.next h1.blks .i64 q (fl i s) ∧ q ≠ .nilsl) ∧ ss = { fr := [(0, .int .i64 s), (2, u2), (3, q), (4, .int .i64 i), (9, u9), (16, u16)], hp := h1 }) (blen s) ?_ ?_
  ·
    refine ⟨0, _, _, _, _, _, by omega, ⟨by omega, Grown.pu Grown.en rfl, O, by intro e; cases e⟩, rfl⟩
  rintro nA sA ⟨i, q, h1, u2, u9, u16, hnA, ⟨hi, g1, o1, nq⟩, rfl⟩
  have k1 := g1.ok hk
  have x1 : sBin .shr .no (.int .i64 (s : Int)) (.int .i64 (i : Int)) = some (.int .i64 ((s / 2 ^ i : Nat) : Int)) := sBin_shrN (by omega)
  have fs := fl_suc i s
  have hl : (fl i s).length ≤ 16 := by
    unfold fl
    rw [List.length_map]
    have := List.length_filter_le (fun j => bt s j) (List.range i)
    rw [List.length_range] at this
    omega
  by_cases e : i < blen s
  · have hp : 0 < s / 2 ^ i := by
      rcases Nat.eq_zero_or_pos (s / 2 ^ i) with h0 | h0
      · have h1 : s < 2 ^ i := by
          rcases Nat.lt_or_ge s (2 ^ i) with h1 | h1
          · exact h1
          · have := Nat.div_pos h1 (Nat.two_pow_pos i); omega
        have := blen_le.2 h1
        omega
      · exact h0
    have d1 : decide (((s / 2 ^ i : Nat) : Int) > 0) = true := decide_eq_true (by omega)
    have x2 : ∀ c, sBin .and c (.int .i64 ((s / 2 ^ i : Nat) : Int)) (.int .i64 1) = some (.int .i64 (((s / 2 ^ i : Nat) : Int) % 2)) := fun c => sBin_and1
    cases eb : bt s i
    · rw [eb, if_neg (by simp), List.append_nil] at fs
      have d2 : ((((s / 2 ^ i : Nat) : Int) % 2) == 1) = false := by
        rw [beq_eq_false_iff_ne]
        intro hh
        have : bt s i = true := decide_eq_true (by omega)
        rw [eb] at this
        cases this
      simp (disch := first|(simp only [Nat.reduceBEq,wE];done)|((repeat' (first|assumption|exact mAx _|refine mBx ?_ ?_|exact mCx (by assumption)|refine mDx ?_|refine mEx ?_ ?_ ?_|exact mFx|refine mGx ?_ ?_ ?_|exact mHx|exact mIx _|(simp only [wM,Nat.reduceAdd,Nat.reduceLT,Nat.reduceLeDiff];done)));done)|omega|decide) only [x1, d1, x2, d2, ↓wA,wB,wL,resOf,Nat.reduceBEq,Int.reduceBEq,Int.reduceBNe,Int.reduceLT,Int.reduceLE,Int.reduceAdd,Int.reduceSub,Int.reduceMul,Int.reduceToNat]
      refine ⟨_, ?_, i + 1, _, _, _, _, _, rfl, ?_, rfl⟩
      · omega
      exact ⟨by omega, g1, by rw [fs]; exact o1, nq⟩
    · rw [eb, if_pos rfl] at fs
      have d2 : ((((s / 2 ^ i : Nat) : Int) % 2) == 1) = true := by
        rw [beq_iff_eq]
        have := of_decide_eq_true eb
        omega
      obtain ⟨q2, h2, y1, y2, y3, y4⟩ := own_app1 (v := (i : Int)) hk g1 o1 (by omega)
      simp (disch := first|(simp only [Nat.reduceBEq,wE];done)|((repeat' (first|assumption|exact mAx _|refine mBx ?_ ?_|exact mCx (by assumption)|refine mDx ?_|refine mEx ?_ ?_ ?_|exact mFx|refine mGx ?_ ?_ ?_|exact mHx|exact mIx _|(simp only [wM,Nat.reduceAdd,Nat.reduceLT,Nat.reduceLeDiff];done)));done)|omega|decide) only [x1, d1, x2, d2, sBS_1, y1, ↓wA,wB,wL,resOf,Nat.reduceBEq,Int.reduceBEq,Int.reduceBNe,Int.reduceLT,Int.reduceLE,Int.reduceAdd,Int.reduceSub,Int.reduceMul,Int.reduceToNat]
      refine ⟨_, ?_, i + 1, _, _, _, _, _, rfl, ?_, rfl⟩
      · omega
      exact ⟨by omega, y3, by rw [fs]; exact y2, y4⟩
  · have h0 : s / 2 ^ i = 0 := Nat.div_eq_of_lt (blen_le.1 (by omega))
    have d1 : decide (((s / 2 ^ i : Nat) : Int) > 0) = false := decide_eq_false (by omega)
    simp (disch := first|(simp only [Nat.reduceBEq,wE];done)|((repeat' (first|assumption|exact mAx _|refine mBx ?_ ?_|exact mCx (by assumption)|refine mDx ?_|refine mEx ?_ ?_ ?_|exact mFx|refine mGx ?_ ?_ ?_|exact mHx|exact mIx _|(simp only [wM,Nat.reduceAdd,Nat.reduceLT,Nat.reduceLeDiff];done)));done)|omega|decide) only [x1, d1, ↓wA,wB,wL,resOf,Nat.reduceBEq,Int.reduceBEq,Int.reduceBNe,Int.reduceLT,Int.reduceLE,Int.reduceAdd,Int.reduceSub,Int.reduceMul,Int.reduceToNat]
    refine ⟨_, rfl, g1, ?_, nq⟩
    rw [show i = blen s by omega] at o1
    exact o1
end Go.Proofs.YtelalpohbodolaaDoor
