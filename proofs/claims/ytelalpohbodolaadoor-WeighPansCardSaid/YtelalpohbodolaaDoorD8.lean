/- Guy and Set, the program's and the reference's. -/
import Derived.Test.YtelalpohbodolaaDoorD7
set_option linter.unusedSimpArgs false
set_option linter.unusedVariables false
set_option maxHeartbeats 4000000
set_option maxRecDepth 20000
namespace Go.Abs
theorem Own.pre {c : Nat} {bs : List (Nat × Blk)} {k : IntKind} {id n m j : Nat} {zs : List Int} (O : Own c bs k (.sl id 0 n (some m) 1) zs) (hj : j ≤ zs.length) : Own c bs k (.sl id 0 j (some m) 1) (zs.take j) := by
  obtain ⟨hl', ⟨_, h1⟩ | ⟨id', b, cap, he, h1, h2, h3, h4, h5, h6⟩⟩ := O
  · cases h1
  cases he
  refine ⟨by rw [ints_len, Nat.mul_one], .inr ⟨id, b, some m, by rw [List.length_take]; congr 1; omega, h1, ?_, h3, h4, h5, h6.1, by rw [List.length_take]; have := h6.2; omega⟩⟩
  rw [List.length_take, ← ints_take, ← h2, List.take_take]
  congr 1
  omega
end Go.Abs
namespace Go.Wg
def gOK (n : Int) : Prop := 0 ≤ n ∧ n ≤ 60
def sOK (n : Int) : Prop := 1 ≤ n ∧ n ≤ 12
instance (n : Int) : Decidable (gOK n) := inferInstanceAs (Decidable (_ ∧ _))
instance (n : Int) : Decidable (sOK n) := inferInstanceAs (Decidable (_ ∧ _))
theorem cgS_suc {n k : Nat} (hk : k < n) : (cgS n).take (k + 1) = (cgS n).take k ++ [(uL n).getD n 0 - (uL n).getD (n - 1 - k) 0] := by
  rw [List.take_succ_eq_append_getElem (by rw [cgS_len]; exact hk)]
  simp [cgS]
theorem cgS_bd : ∀ n, n < 13 → ∀ z ∈ cgS n, 1 ≤ z ∧ z ≤ 2048 := by decide +kernel
theorem uL12 : ∀ n, n < 13 → ∀ z ∈ uL n, 0 ≤ z ∧ z ≤ 4096 := by decide +kernel
end Go.Wg
namespace Go.Proofs.YtelalpohbodolaaDoor
open Go Go.Abs Go.Wg

theorem terms_0 (h : Hp) (hk : Hok h) :
    ∃ v h', Evals Tryd.prog tab false (.func 56) [.int .i64 0] h (v, h') ∧ Grown h h' ∧ Own h.next h'.blks .i64 v [0] := by
  refine evals_q c56 (fun v h' => Own h.next h'.blks .i64 v [0]) rfl hk ?_ (fun v h1 g q => q.leave)
  simp only [sf56, initS_cons, initS_nil]
  have O : Own h.next (h.en.pu [.int .i64 0, .int .i64 1]).blks .i64 (.sl h.next 0 2 (some 2) 1) [0, 1] := Own.fresh (Nat.le_refl _) rfl rfl rfl (Nat.le_refl _)
  simp (disch := first|(simp only [Nat.reduceBEq,wE];done)|((repeat' (first|assumption|exact mAx _|refine mBx ?_ ?_|exact mCx (by assumption)|refine mDx ?_|refine mEx ?_ ?_ ?_|exact mFx|refine mGx ?_ ?_ ?_|exact mHx|exact mIx _|(simp only [wM,Nat.reduceAdd,Nat.reduceLT,Nat.reduceLeDiff];done)));done)|omega|decide) only [sBS_2, ↓wA,wB,wL,resOf,Nat.reduceBEq,Int.reduceBEq,Int.reduceBNe,Int.reduceLT,Int.reduceLE,Int.reduceAdd,Int.reduceSub,Int.reduceMul,Int.reduceToNat]
  refine wloop (fun mm ss => ∃ (j : Nat) (u2 u8 : AV), (mm = j) ∧ (j = 0) ∧ ss = { fr := [(0, .int .i64 0), (2, u2), (3, .sl h.next 0 2 (some 2) 1), (4, .int .i64 1), (8, u8)], hp := h.en.pu [.int .i64 0, .int .i64 1] }) (0) ?_ ?_
  ·
    refine ⟨0, _, _, rfl, rfl, rfl⟩
  rintro nA sA ⟨j, u2, u8, hnA, hj, rfl⟩
  have d1 : decide ((1 : Int) < 0) = false := rfl
  have sl : ∀ h, sSl 1 h none (some (some 1)) (.sl h.next 0 2 (some 2) 1) = some (.sl h.next 0 1 (some 2) 1, h) := fun h => rfl
  have ix : idx? (.int .i64 (0 + 1)) = some 1 := rfl
  have sl : sSl 1 (h.en.pu [.int .i64 0, .int .i64 1]) none (some (some 1)) (.sl h.next 0 2 (some 2) 1) = some (.sl h.next 0 1 (some 2) 1, h.en.pu [.int .i64 0, .int .i64 1]) := rfl
  simp (disch := first|(simp only [Nat.reduceBEq,wE];done)|((repeat' (first|assumption|exact mAx _|refine mBx ?_ ?_|exact mCx (by assumption)|refine mDx ?_|refine mEx ?_ ?_ ?_|exact mFx|refine mGx ?_ ?_ ?_|exact mHx|exact mIx _|(simp only [wM,Nat.reduceAdd,Nat.reduceLT,Nat.reduceLeDiff];done)));done)|omega|decide) only [d1, sl, ix, ↓wA,wB,wL,resOf,Nat.reduceBEq,Int.reduceBEq,Int.reduceBNe,Int.reduceLT,Int.reduceLE,Int.reduceAdd,Int.reduceSub,Int.reduceMul,Int.reduceToNat]
  exact ⟨_, rfl, Grown.pu Grown.en rfl, O.pre (j := 1) (by simp)⟩

theorem f25 (n : Int) (h : Hp) (hk : Hok h) :
    Evals Tryd.prog tab false (.func 25) [.int .i64 n] h (.tu [.int .i64 (if gOK n then (uL n.toNat).getD n.toNat 0 else 0), .int .i64 (if gOK n then 0 else 1)], h) := by
  refine evals_pure c25 rfl hk ?_
  simp only [sf25, initS_cons, initS_nil]
  by_cases e : gOK n
  · rw [if_pos e, if_pos e]
    by_cases hz : n = 0
    · subst hz
      have W := f55 0 0 60 h.en hk
      have d1 : decide ((0 : Int) ≤ 0 ∧ (0 : Int) ≤ 60) = true := rfl
      obtain ⟨u, h2, eu, g2, o2⟩ := terms_0 h.en hk
      have x1 := o2.ints.ix (i := 0) h2 (by simp)
      have x2 := o2.ints.ld (Sub.refl _) (i := 0) (by simp)
      simp (disch := first|(simp only [Nat.reduceBEq,wE];done)|((repeat' (first|assumption|exact mAx _|refine mBx ?_ ?_|exact mCx (by assumption)|refine mDx ?_|refine mEx ?_ ?_ ?_|exact mFx|refine mGx ?_ ?_ ?_|exact mHx|exact mIx _|(simp only [wM,Nat.reduceAdd,Nat.reduceLT,Nat.reduceLeDiff];done)));done)|omega|decide) only [callT W, d1, callT eu, idx?_lit0, x1, x2, ↓wA,wB,wL,resOf,Nat.reduceBEq,Int.reduceBEq,Int.reduceBNe,Int.reduceLT,Int.reduceLE,Int.reduceAdd,Int.reduceSub,Int.reduceMul,Int.reduceToNat]
      exact ⟨_, rfl, rfl, GrownR.of_en g2⟩
    · have W := f55 n 0 60 h.en hk
      have d1 : decide (0 ≤ n ∧ n ≤ 60) = true := decide_eq_true e
      obtain ⟨m, rfl⟩ : ∃ m : Nat, n = m := ⟨n.toNat, by have := e.1; omega⟩
      have hm : m ≤ 60 := by have := e.2; omega
      rw [Int.toNat_natCast]
      obtain ⟨u, h2, eu, g2, o2⟩ := f56 m h.en hk hm (by omega)
      have ul : m < (uL m).length := by unfold uL; rw [uT_len]; omega
      have ix : idx? (.int .i64 (m : Int)) = some m := by simp [idx?]
      simp (disch := first|(simp only [Nat.reduceBEq,wE];done)|((repeat' (first|assumption|exact mAx _|refine mBx ?_ ?_|exact mCx (by assumption)|refine mDx ?_|refine mEx ?_ ?_ ?_|exact mFx|refine mGx ?_ ?_ ?_|exact mHx|exact mIx _|(simp only [wM,Nat.reduceAdd,Nat.reduceLT,Nat.reduceLeDiff];done)));done)|omega|decide) only [callT W, d1, callT eu, ix, o2.ints.ix, o2.ints.ld, ↓wA,wB,wL,resOf,Nat.reduceBEq,Int.reduceBEq,Int.reduceBNe,Int.reduceLT,Int.reduceLE,Int.reduceAdd,Int.reduceSub,Int.reduceMul,Int.reduceToNat]
      exact ⟨_, rfl, rfl, GrownR.of_en g2⟩
  · have W := f55 n 0 60 h.en hk
    rw [if_neg e, if_neg e]
    have d1 : decide (0 ≤ n ∧ n ≤ 60) = false := decide_eq_false e
    simp (disch := first|(simp only [Nat.reduceBEq,wE];done)|((repeat' (first|assumption|exact mAx _|refine mBx ?_ ?_|exact mCx (by assumption)|refine mDx ?_|refine mEx ?_ ?_ ?_|exact mFx|refine mGx ?_ ?_ ?_|exact mHx|exact mIx _|(simp only [wM,Nat.reduceAdd,Nat.reduceLT,Nat.reduceLeDiff];done)));done)|omega|decide) only [callT W, d1, ↓wA,wB,wL,resOf,Nat.reduceBEq,Int.reduceBEq,Int.reduceBNe,Int.reduceLT,Int.reduceLE,Int.reduceAdd,Int.reduceSub,Int.reduceMul,Int.reduceToNat]
    exact ⟨_, rfl, rfl, Grown.en⟩

theorem f26 (n : Int) (h : Hp) (hk : Hok h) :
    ∃ v h', Evals Tryd.prog tab false (.func 26) [.int .i64 n] h (v, h') ∧ Grown h h' ∧ ∃ s, v = .tu [s, .int .i64 (if sOK n then 0 else 1)] ∧ Own h.next h'.blks .i64 s (if sOK n then cgS n.toNat else []) := by
  refine evals_q c26 (fun v h' => ∃ s, v = .tu [s, .int .i64 (if sOK n then 0 else 1)] ∧ Own h.next h'.blks .i64 s (if sOK n then cgS n.toNat else [])) rfl hk ?_ (fun v h1 g q => by
    obtain ⟨s, rfl, q⟩ := q
    have e : refOK h.next (.tu [s, .int .i64 (if sOK n then 0 else 1)]) = refOK h.next s := by simp [refOK, refsOK]
    rw [e]
    exact ⟨fun hr => ⟨s, rfl, q.leave.1 hr⟩, fun hr => ⟨s, rfl, q.leave.2 hr⟩⟩)
  simp only [sf26, initS_cons, initS_nil]
  have W := f55 n 1 12 h.en hk
  by_cases e : sOK n
  · simp only [if_pos e]
    have d1 : decide (1 ≤ n ∧ n ≤ 12) = true := decide_eq_true e
    obtain ⟨m, rfl⟩ : ∃ m : Nat, n = m := ⟨n.toNat, by have := e.1; omega⟩
    have hm : m ≤ 12 := by have := e.2; omega
    have hm1 : 1 ≤ m := by have := e.1; omega
    rw [Int.toNat_natCast]
    obtain ⟨u, h2, eu, g2, o2⟩ := f56 m h.en hk (by omega) hm1
    have k2 := g2.ok hk
    have gh2 : Grown h h2 := GrownR.of_en g2
    have ul : m < (uL m).length := by unfold uL; rw [uT_len]; omega
    simp (disch := first|(simp only [Nat.reduceBEq,wE];done)|((repeat' (first|assumption|exact mAx _|refine mBx ?_ ?_|exact mCx (by assumption)|refine mDx ?_|refine mEx ?_ ?_ ?_|exact mFx|refine mGx ?_ ?_ ?_|exact mHx|exact mIx _|(simp only [wM,Nat.reduceAdd,Nat.reduceLT,Nat.reduceLeDiff];done)));done)|omega|decide) only [callT W, d1, callT eu, ↓wA,wB,wL,resOf,Nat.reduceBEq,Int.reduceBEq,Int.reduceBNe,Int.reduceLT,Int.reduceLE,Int.reduceAdd,Int.reduceSub,Int.reduceMul,Int.reduceToNat]
    refine wloop (fun mm ss => ∃ (k : Nat) (i : Int) (q : AV) (h3 : Hp) (u2 u3 u9 u15 : AV), (mm = m - k) ∧ ((k ≤ m ∧ i = (m : Int) - 1 - k) ∧ Grown h2 h3 ∧ Own h2.next h3.blks .i64 q ((cgS m).take k)) ∧ ss = { fr := [(0, .int .i64 m), (2, u2), (3, u3), (4, u), (5, q), (6, .int .i64 i), (9, u9), (15, u15)], hp := h3 }) (m) ?_ ?_
    ·
      refine ⟨0, _, _, _, _, _, _, _, by omega, ⟨⟨by omega, by omega⟩, Grown.refl, by rw [List.take_zero]; exact Own.nil⟩, rfl⟩
    rintro nA sA ⟨k, i, q, h3, u2, u3, u9, u15, hnA, ⟨⟨hi, hie⟩, g3, o3⟩, rfl⟩
    subst hie
    have k3 := g3.ok k2
    by_cases ek : k < m
    · have d2 : decide ((m : Int) - 1 - k ≥ 0) = true := decide_eq_true (by omega)
      have c1 : (m : Int) - 1 - k = ((m - 1 - k : Nat) : Int) := by omega
      have c2 : ((m - 1 - k : Nat) : Int) - 1 = (m : Int) - 1 - ((k + 1 : Nat) : Int) := by omega
      have b1 := uL_bd (n := m) (by omega) m
      have b2 := uL_bd (n := m) (by omega) (m - 1 - k)
      have u3 : Ints h3.blks .i64 u (uL m) := o2.ints.sub (g3.sub k2)
      have hl : ((cgS m).take k).length ≤ 12 := by rw [List.length_take, cgS_len]; omega
      obtain ⟨q2, h4, y1, y2, y3, y4⟩ := own_app1 (v := (uL m).getD m 0 - (uL m).getD (m - 1 - k) 0) k2 g3 o3 (by omega)
      have s1 : Sub h3.blks ((h3.next, { cells := [.int .i64 ((uL m).getD m 0 - (uL m).getD (m - 1 - k) 0)], ch := h3.next, wr := true }) :: h3.blks) := Sub.push (Sub.refl _) (HokR.fresh k3)
      have d2' : decide (((m - 1 - k : Nat) : Int) ≥ 0) = true := decide_eq_true (by omega)
      rw [c1]
      simp (disch := first|(simp only [Nat.reduceBEq,wE];done)|((repeat' (first|assumption|exact mAx _|refine mBx ?_ ?_|exact mCx (by assumption)|refine mDx ?_|refine mEx ?_ ?_ ?_|exact mFx|refine mGx ?_ ?_ ?_|exact mHx|exact mIx _|(simp only [wM,Nat.reduceAdd,Nat.reduceLT,Nat.reduceLeDiff];done)));done)|omega|decide) only [d2', u3.ix, u3.ld, sBS_1, y1, c2, ↓wA,wB,wL,resOf,Nat.reduceBEq,Int.reduceBEq,Int.reduceBNe,Int.reduceLT,Int.reduceLE,Int.reduceAdd,Int.reduceSub,Int.reduceMul,Int.reduceToNat]
      refine ⟨_, ?_, k + 1, _, _, _, _, _, _, _, rfl, ?_, rfl⟩
      · omega
      exact ⟨⟨by omega, by omega⟩, y3, by rw [cgS_suc ek]; exact y2⟩
    · have d2 : decide ((m : Int) - 1 - k ≥ 0) = false := decide_eq_false (by omega)
      rw [List.take_of_length_le (by rw [cgS_len]; omega)] at o3
      simp (disch := first|(simp only [Nat.reduceBEq,wE];done)|((repeat' (first|assumption|exact mAx _|refine mBx ?_ ?_|exact mCx (by assumption)|refine mDx ?_|refine mEx ?_ ?_ ?_|exact mFx|refine mGx ?_ ?_ ?_|exact mHx|exact mIx _|(simp only [wM,Nat.reduceAdd,Nat.reduceLT,Nat.reduceLeDiff];done)));done)|omega|decide) only [d2, ↓wA,wB,wL,resOf,Nat.reduceBEq,Int.reduceBEq,Int.reduceBNe,Int.reduceLT,Int.reduceLE,Int.reduceAdd,Int.reduceSub,Int.reduceMul,Int.reduceToNat]
      exact ⟨_, rfl, GrownR.trans gh2 g3, q, rfl, o3.le gh2.next⟩
  · simp only [if_neg e]
    have d1 : decide (1 ≤ n ∧ n ≤ 12) = false := decide_eq_false e
    simp (disch := first|(simp only [Nat.reduceBEq,wE];done)|((repeat' (first|assumption|exact mAx _|refine mBx ?_ ?_|exact mCx (by assumption)|refine mDx ?_|refine mEx ?_ ?_ ?_|exact mFx|refine mGx ?_ ?_ ?_|exact mHx|exact mIx _|(simp only [wM,Nat.reduceAdd,Nat.reduceLT,Nat.reduceLeDiff];done)));done)|omega|decide) only [callT W, d1, ↓wA,wB,wL,resOf,Nat.reduceBEq,Int.reduceBEq,Int.reduceBNe,Int.reduceLT,Int.reduceLE,Int.reduceAdd,Int.reduceSub,Int.reduceMul,Int.reduceToNat]
    exact ⟨_, rfl, Grown.en, .nilsl, rfl, Own.nil⟩
end Go.Proofs.YtelalpohbodolaaDoor
