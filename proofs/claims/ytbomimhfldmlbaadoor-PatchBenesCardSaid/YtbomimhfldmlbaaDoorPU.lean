/- Trim of what isn't a setting. -/
import Derived.Test.YtbomimhfldmlbaaDoorPT
set_option linter.unusedSimpArgs false
set_option linter.unusedVariables false
set_option maxHeartbeats 16000000
set_option maxRecDepth 100000
namespace Go.Pa
open Go Go.Abs
theorem asc_step : ∀ i, i < 2 → splice (asc i) (48 + i) [.bool true] = asc (i + 1)
  | 0, _ => rfl
  | 1, _ => rfl
  | i + 2, h => absurd h (by omega)
theorem asc_self : splice (asc 2) 0 (asc 2) = asc 2 := by
  have h := asc_len 2
  simp only [splice, List.take_zero, List.nil_append, Nat.zero_add, List.drop_length, List.append_nil]
theorem asc_slice : slice? (asc 2) 0 256 = some (asc 2) := by
  have h := asc_len 2
  simp [slice?, h, List.take_of_length_le]
  rfl
def SetP (k : Nat) (s : List UInt8) : Prop := s.length = swc k ∧ ∀ b ∈ s, in01 b = true
instance (k : Nat) (s : List UInt8) : Decidable (SetP k s) := inferInstanceAs (Decidable (_ ∧ _))
theorem SetP.bits {k : Nat} {s : List UInt8} (h : SetP k s) : ∃ S, s = strB S ∧ Bits S ∧ S.length = swc k := by
  refine ⟨s.map fun b => b.toNat - 48, ?_, fun b hb => ?_, by rw [List.length_map]; exact h.1⟩
  · unfold strB
    rw [List.map_map]
    refine (List.map_id s).symm.trans (List.map_congr_left fun b hb => ?_)
    have := h.2 b hb
    simp only [in01, Bool.or_eq_true, beq_iff_eq] at this
    rcases this with rfl | rfl <;> rfl
  · obtain ⟨x, hx, rfl⟩ := List.mem_map.1 hb
    have := h.2 x hx
    simp only [in01, Bool.or_eq_true, beq_iff_eq] at this
    rcases this with rfl | rfl <;> decide
theorem SetP.of {k : Nat} {S : List Nat} (hb : Bits S) (hl : S.length = swc k) : SetP k (strB S) := by
  refine ⟨by rw [strB_len, hl], fun b hb' => ?_⟩
  obtain ⟨x, hx, rfl⟩ := List.mem_map.1 hb'
  have : x = 0 ∨ x = 1 := by have := hb x hx; omega
  rcases this with rfl | rfl <;> rfl
end Go.Pa
namespace Go.Proofs.YtbomimhfldmlbaaDoor
open Go Go.Abs Go.Pa

theorem f96 (h : Hp) (hk : Hok h) : Evals Tryd.prog tab false (.func 96) [.str [48, 49]] h (.tu [.ag (asc 2), .bool true], h) := by
  refine evals_pure c96 rfl hk ?_ (by simp only [refOK, refsOK_cons, refsOK_nil, Bool.and_true]; exact asc_refs 2 _)
  simp only [sf96, initS_cons, initS_nil]
  obtain ⟨s, hs⟩ : ∃ s : List UInt8, s = [48, 49] := ⟨_, rfl⟩
  have ls : s.length = 2 := by rw [hs]; rfl
  rw [← hs]
  refine wcut (fun ss => ∃ u3 u4 u5 u9 u16 : AV, ss = { fr := [(0, .str s), (2, .ptr h.next 0), (3, u3), (4, u4), (5, u5), (9, u9), (16, u16)], hp := h.en.pu (asc 0) }) ?_ ?_
  · simp (disch := first|(simp only [Nat.reduceBEq,wE];done)|((repeat' (first|assumption|exact mAx _|refine mBx ?_ ?_|exact mCx (by assumption)|refine mDx ?_|refine mEx ?_ ?_ ?_|exact mFx|refine mGx ?_ ?_ ?_|exact mHx|exact mIx _|(simp only [wM,Nat.reduceAdd,Nat.reduceLT,Nat.reduceLeDiff];done)));done)|omega|decide) only [cutEx_n, ↓wA,wB,wL,resOf,Nat.reduceBEq,Int.reduceBEq,Int.reduceBNe,Int.reduceLT,Int.reduceLE,Int.reduceAdd,Int.reduceSub,Int.reduceMul,Int.reduceToNat]
    exact ⟨_, _, _, _, _, rfl⟩
  rintro ss ⟨u3, u4, u5, u9, u16, rfl⟩
  have g0 : Grown h (h.en.pu (asc 0)) := Grown.pu Grown.en (asc_refs 0 _)
  have b0 : lkB (h.en.pu (asc 0)).blks h.next = some { cells := asc 0, ch := h.next, wr := true } := lkB_top
  simp (disch := first|(simp only [Nat.reduceBEq,wE];done)|((repeat' (first|assumption|exact mAx _|refine mBx ?_ ?_|exact mCx (by assumption)|refine mDx ?_|refine mEx ?_ ?_ ?_|exact mFx|refine mGx ?_ ?_ ?_|exact mHx|exact mIx _|(simp only [wM,Nat.reduceAdd,Nat.reduceLT,Nat.reduceLeDiff];done)));done)|omega|decide) only [↓wA,wB,wL,resOf,Nat.reduceBEq,Int.reduceBEq,Int.reduceBNe,Int.reduceLT,Int.reduceLE,Int.reduceAdd,Int.reduceSub,Int.reduceMul,Int.reduceToNat]
  refine wloop (fun mm ss => ∃ (i : Nat) (h1 : Hp) (u3 u5 u9 u16 : AV), (mm = 2 - i) ∧ (i ≤ 2 ∧ Grown h h1 ∧ lkB h1.blks h.next = some { cells := asc i, ch := h.next, wr := true }) ∧ ss = { fr := [(0, .str s), (2, .ptr h.next 0), (3, u3), (4, .int .i64 i), (5, u5), (9, u9), (16, u16)], hp := h1 }) (2) ?_ ?_
  ·
    refine ⟨0, _, _, _, _, _, by omega, ⟨by omega, g0, b0⟩, rfl⟩
  rintro nA sA ⟨i, h1, u3, u5, u9, u16, hnA, ⟨hi, g1, b1⟩, rfl⟩
  have k1 := g1.ok hk
  simp (disch := first|(simp only [Nat.reduceBEq,wE];done)|((repeat' (first|assumption|exact mAx _|refine mBx ?_ ?_|exact mCx (by assumption)|refine mDx ?_|refine mEx ?_ ?_ ?_|exact mFx|refine mGx ?_ ?_ ?_|exact mHx|exact mIx _|(simp only [wM,Nat.reduceAdd,Nat.reduceLT,Nat.reduceLeDiff];done)));done)|omega|decide) only [ls, ↓wA,wB,wL,resOf,Nat.reduceBEq,Int.reduceBEq,Int.reduceBNe,Int.reduceLT,Int.reduceLE,Int.reduceAdd,Int.reduceSub,Int.reduceMul,Int.reduceToNat]
  refine ifThen_intro (fun e => ?_) (fun e => ?_) <;> have eq := e <;> try simp [-List.getD_eq_getElem?_getD] at eq
  · have i2 : i < 2 := by omega
    have e2 : ∀ h' : Hp, sIxT h' (some i) (.str s) = some (.int .u8 ((48 + i : Nat) : Int), h') := fun h' => by
      rw [sIxT_ok (by omega), hs]
      have : i = 0 ∨ i = 1 := by omega
      rcases this with rfl | rfl <;> rfl
    have e3 : decide ((128 : Int) ≤ ((48 + i : Nat) : Int)) = false := decide_eq_false (by omega)
    have ix : ∀ h' : Hp, sIxA 256 1 h' (some (48 + i)) (.ptr h.next 0) = some (.ptr h.next (48 + i), h') := fun h' => by rw [sIxA_ptr (by omega)]; simp
    obtain ⟨h2, w, l1, o, kk, n, l, r⟩ := write_old (off := 48 + i) (vs := [.bool true]) k1 g1.blks (fun x hx => (hk.blk hx).1) b1 (Nat.le_refl _) (Nat.le_refl _) rfl (by simp only [asc_len]; simp; omega) rfl rfl
    have st : sStore 1 h1 (.bool true) (.ptr h.next (48 + i)) = some (.any, h2) := by
      simp only [sStore, AV.parts, List.length_singleton, Nat.beq_refl, cond_true, w, Option.map_some]
    simp only [asc_step i i2] at l1
    simp (disch := first|(simp only [Nat.reduceBEq,wE];done)|((repeat' (first|assumption|exact mAx _|refine mBx ?_ ?_|exact mCx (by assumption)|refine mDx ?_|refine mEx ?_ ?_ ?_|exact mFx|refine mGx ?_ ?_ ?_|exact mHx|exact mIx _|(simp only [wM,Nat.reduceAdd,Nat.reduceLT,Nat.reduceLeDiff];done)));done)|omega|decide) only [e, e2, e3, ix, st, ↓wA,wB,wL,resOf,Nat.reduceBEq,Int.reduceBEq,Int.reduceBNe,Int.reduceLT,Int.reduceLE,Int.reduceAdd,Int.reduceSub,Int.reduceMul,Int.reduceToNat]
    refine ⟨_, ?_, i + 1, h2, _, _, _, _, rfl, ?_, rfl⟩
    · omega
    exact ⟨by omega, ⟨o, by rw [n]; exact g1.next, fun _ => kk, by rw [l]; exact g1.loops⟩, l1⟩
  · have i2 : i = 2 := by omega
    subst i2
    have ld : aggB h1.blks h.next 0 256 = some (.ag (asc 2)) := by
      rw [Box.lda (show Box h1.blks h.next _ from ⟨_, _, b1⟩) (Sub.refl _), asc_slice]; rfl
    obtain ⟨h2, w, l1, o, kk, n, l, r⟩ := write_old (off := 0) (vs := asc 2) k1 g1.blks (fun x hx => (hk.blk hx).1) b1 (Nat.le_refl _) (Nat.le_refl _) rfl (by simp only [asc_len]; omega) (asc_cell 2) (asc_refs 2 _)
    have st : sStore 256 h1 (.ag (asc 2)) (.ptr h.next 0) = some (.any, h2) := by
      simp only [sStore, AV.parts, asc_len, Nat.beq_refl, cond_true, w, Option.map_some]
    simp only [asc_self] at l1
    have ld2 : aggB h2.blks h.next 0 256 = some (.ag (asc 2)) := by
      rw [Box.lda (show Box h2.blks h.next _ from ⟨_, _, l1⟩) (Sub.refl _), asc_slice]; rfl
    simp (disch := first|(simp only [Nat.reduceBEq,wE];done)|((repeat' (first|assumption|exact mAx _|refine mBx ?_ ?_|exact mCx (by assumption)|refine mDx ?_|refine mEx ?_ ?_ ?_|exact mFx|refine mGx ?_ ?_ ?_|exact mHx|exact mIx _|(simp only [wM,Nat.reduceAdd,Nat.reduceLT,Nat.reduceLeDiff];done)));done)|omega|decide) only [e, ld, st, ld2, ↓wA,wB,wL,resOf,Nat.reduceBEq,Int.reduceBEq,Int.reduceBNe,Int.reduceLT,Int.reduceLE,Int.reduceAdd,Int.reduceSub,Int.reduceMul,Int.reduceToNat]
    exact ⟨_, rfl, rfl, o, by rw [n]; exact g1.next, fun _ => kk, by rw [l]; exact g1.loops⟩

theorem f83 (s : List UInt8) (h : Hp) (hk : Hok h) (hl : s.length ≤ 1000) : ∃ r h', Evals Tryd.prog tab false (.func 83) [.str s, .str [48, 49]] h (.str r, h') ∧ Grown h h' ∧ (r = [] ↔ ∀ b ∈ s, in01 b = true) := by
  suffices H : ∃ v h', Evals Tryd.prog tab false (.func 83) [.str s, .str [48, 49]] h (v, h') ∧ Grown h h' ∧ ∃ r, v = .str r ∧ (r = [] ↔ ∀ b ∈ s, in01 b = true) by
    obtain ⟨v, h', e, g, r, rfl, hr⟩ := H
    exact ⟨r, h', e, g, hr⟩
  refine evals_q c83 (fun v h' => ∃ r, v = .str r ∧ (r = [] ↔ ∀ b ∈ s, in01 b = true)) rfl hk ?_ (fun v h1 g q => ⟨fun _ => q, fun _ => q⟩)
  simp only [sf83, initS_cons, initS_nil]
  have ms := f96 h.en hk
  obtain ⟨c, hc⟩ : ∃ s : List UInt8, s = [48, 49] := ⟨_, rfl⟩
  have lc : c.length = 2 := by rw [hc]; rfl
  have ec : (c == []) = false := by rw [hc]; rfl
  rw [← hc] at ms ⊢
  by_cases h0 : s = []
  · subst h0
    simp (disch := first|(simp only [Nat.reduceBEq,wE];done)|((repeat' (first|assumption|exact mAx _|refine mBx ?_ ?_|exact mCx (by assumption)|refine mDx ?_|refine mEx ?_ ?_ ?_|exact mFx|refine mGx ?_ ?_ ?_|exact mHx|exact mIx _|(simp only [wM,Nat.reduceAdd,Nat.reduceLT,Nat.reduceLeDiff];done)));done)|omega|decide) only [↓wA,wB,wL,resOf,Nat.reduceBEq,Int.reduceBEq,Int.reduceBNe,Int.reduceLT,Int.reduceLE,Int.reduceAdd,Int.reduceSub,Int.reduceMul,Int.reduceToNat]
    exact ⟨_, rfl, Grown.en, _, rfl, by simp⟩
  · have es : (s == []) = false := by
      cases s with
      | nil => exact absurd rfl h0
      | cons x r => rfl
    have e1 : (((2 : Nat) : Int) == 1) = false := rfl
    rw [wseq, wseq]
    refine wcut (fun ss => ∃ u4 u5 u6 u12 u21 u34 : AV, ss = { fr := [(0, .str s), (1, .str c), (4, u4), (5, u5), (6, u6), (12, u12), (21, u21), (34, u34)], hp := h.en }) ?_ ?_
    · simp (disch := first|(simp only [Nat.reduceBEq,wE];done)|((repeat' (first|assumption|exact mAx _|refine mBx ?_ ?_|exact mCx (by assumption)|refine mDx ?_|refine mEx ?_ ?_ ?_|exact mFx|refine mGx ?_ ?_ ?_|exact mHx|exact mIx _|(simp only [wM,Nat.reduceAdd,Nat.reduceLT,Nat.reduceLeDiff];done)));done)|omega|decide) only [es, ec, lc, e1, cutEx_n, ↓wA,wB,wL,resOf,Nat.reduceBEq,Int.reduceBEq,Int.reduceBNe,Int.reduceLT,Int.reduceLE,Int.reduceAdd,Int.reduceSub,Int.reduceMul,Int.reduceToNat]
      exact ⟨_, _, _, _, _, _, rfl⟩
    rintro ss ⟨u4, u5, u6, u12, u21, u34, rfl⟩
    rw [← wseq]
    refine wcut (fun ss => ∃ (h1 : Hp) (u4 u12 u21 u34 : AV), (Grown h h1 ∧ Box h1.blks h.next (asc 2)) ∧ ss = { fr := [(0, .str s), (1, .str c), (4, u4), (5, .ptr h.next 0), (6, .bool true), (12, u12), (21, u21), (34, u34)], hp := h1 }) ?_ ?_
    · have sg := fun (m base : Nat) (esc : Bool) (cs : List AV) (hcs : cs.length = 256) => sStore_agV (n := 256) (m := m) (i := h.next) (base := base) (esc := esc) (cs := cs) (vs := asc 2) (bs := h.blks) (ls := h.loops) hk (asc_len 2) hcs (asc_cell 2)
      simp (disch := first|(simp only [Nat.reduceBEq,wE];done)|((repeat' (first|assumption|exact mAx _|refine mBx ?_ ?_|exact mCx (by assumption)|refine mDx ?_|refine mEx ?_ ?_ ?_|exact mFx|refine mGx ?_ ?_ ?_|exact mHx|exact mIx _|(simp only [wM,Nat.reduceAdd,Nat.reduceLT,Nat.reduceLeDiff];done)));done)|omega|decide) only [callT ms, sg, cutEx_n, ↓wA,wB,wL,resOf,Nat.reduceBEq,Int.reduceBEq,Int.reduceBNe,Int.reduceLT,Int.reduceLE,Int.reduceAdd,Int.reduceSub,Int.reduceMul,Int.reduceToNat]
      refine ⟨_, _, _, _, _, ⟨?_, Box.top⟩, rfl⟩
      exact GrownR.push Grown.en (asc_refs 2 _) (Nat.le_refl _)
    · rintro ss ⟨h1, u4, u12, u21, u34, ⟨g1, b1⟩, rfl⟩
      have k1 := g1.ok hk
      obtain ⟨r1, h2, er, g2, lr, q1⟩ := trimR h.next s h1 k1 hl b1
      have k2 := g2.ok k1
      obtain ⟨r2, h3, el, g3, q2⟩ := trimL h.next r1 h2 k2 lr (b1.sub (g2.sub k1))
      simp (disch := first|(simp only [Nat.reduceBEq,wE];done)|((repeat' (first|assumption|exact mAx _|refine mBx ?_ ?_|exact mCx (by assumption)|refine mDx ?_|refine mEx ?_ ?_ ?_|exact mFx|refine mGx ?_ ?_ ?_|exact mHx|exact mIx _|(simp only [wM,Nat.reduceAdd,Nat.reduceLT,Nat.reduceLeDiff];done)));done)|omega|decide) only [callT er, callT el, ↓wA,wB,wL,resOf,Nat.reduceBEq,Int.reduceBEq,Int.reduceBNe,Int.reduceLT,Int.reduceLE,Int.reduceAdd,Int.reduceSub,Int.reduceMul,Int.reduceToNat]
      exact ⟨_, rfl, GrownR.trans g1 (GrownR.trans g2 g3), _, rfl, q2.trans q1⟩

theorem f63 (k : Nat) (s : List UInt8) (h : Hp) (hk : Hok h) (h3 : 1 ≤ k ∧ k ≤ 3) (hl : s.length ≤ 1000) : Evals Tryd.prog tab false (.func 63) [.str s, .int .i64 k] h (.bool (decide (SetP k s)), h) := by
  refine evals_pure c63 rfl hk ?_
  simp only [sf63, initS_cons, initS_nil]
  have SW := f67 k h.en hk h3
  by_cases el : s.length = swc k
  · have e1 : ((s.length : Int) == ((swc k : Nat) : Int)) = true := by simp; omega
    obtain ⟨r, h1, er, g1, q⟩ := f83 s h.en hk hl
    simp (disch := first|(simp only [Nat.reduceBEq,wE];done)|((repeat' (first|assumption|exact mAx _|refine mBx ?_ ?_|exact mCx (by assumption)|refine mDx ?_|refine mEx ?_ ?_ ?_|exact mFx|refine mGx ?_ ?_ ?_|exact mHx|exact mIx _|(simp only [wM,Nat.reduceAdd,Nat.reduceLT,Nat.reduceLeDiff];done)));done)|omega|decide) only [callT SW, e1, callT er, ↓wA,wB,wL,resOf,Nat.reduceBEq,Int.reduceBEq,Int.reduceBNe,Int.reduceLT,Int.reduceLE,Int.reduceAdd,Int.reduceSub,Int.reduceMul,Int.reduceToNat]
    refine ⟨_, rfl, ?_, GrownR.of_en g1⟩
    simp only [resOf]
    congr 1
    rw [Bool.eq_iff_iff, decide_eq_true_iff, SetP, ← q]
    simp [el]
  · have e1 : ((s.length : Int) == ((swc k : Nat) : Int)) = false := by simp; omega
    simp (disch := first|(simp only [Nat.reduceBEq,wE];done)|((repeat' (first|assumption|exact mAx _|refine mBx ?_ ?_|exact mCx (by assumption)|refine mDx ?_|refine mEx ?_ ?_ ?_|exact mFx|refine mGx ?_ ?_ ?_|exact mHx|exact mIx _|(simp only [wM,Nat.reduceAdd,Nat.reduceLT,Nat.reduceLeDiff];done)));done)|omega|decide) only [callT SW, e1, ↓wA,wB,wL,resOf,Nat.reduceBEq,Int.reduceBEq,Int.reduceBNe,Int.reduceLT,Int.reduceLE,Int.reduceAdd,Int.reduceSub,Int.reduceMul,Int.reduceToNat]
    refine ⟨_, rfl, ?_, by (repeat' (first|assumption|exact mAx _|refine mBx ?_ ?_|exact mCx (by assumption)|refine mDx ?_|refine mEx ?_ ?_ ?_|exact mFx|refine mGx ?_ ?_ ?_|exact mHx|exact mIx _|(simp only [wM,Nat.reduceAdd,Nat.reduceLT,Nat.reduceLeDiff];done)))⟩
    rw [decide_eq_false fun H => el H.1]
end Go.Proofs.YtbomimhfldmlbaaDoor
