/- Functions of shift: levels, colourings online. -/
import Derived.Test.YtgpdimkgfhgffaaS2
set_option linter.unusedSimpArgs false
set_option linter.unusedVariables false
set_option maxHeartbeats 1000000

namespace Go.Proofs.Ytgpdimkgfhgffaa

open Go Go.Abs Go.Sh

theorem f46 (k : Int) (a b : AV) (l : List Span) (ns : List Int) (h : Hp) (hk : Hok h) (ha : Pairs h.blks a l) (hb : Ints h.blks .i64 b ns) (hl : l.length ≤ ns.length) (hn : ns.length ≤ 1000) :
    ∃ v h', Evals Try.prog tab false (.func 46) [.int .i64 k, a, b] h (v, h') ∧ Grown h h' ∧ OwnP h.next h'.blks v (upto k l ns) := by
  refine evals_q c46 (fun v h' => OwnP h.next h'.blks v (upto k l ns)) rfl hk ?_ (fun v h1 g q => q.leave)
  simp only [sf46, initS_cons, initS_nil]
  simp (disch := first|(simp only [Nat.reduceBEq,wE];done)|((repeat' (first|assumption|exact mAx _|refine mBx ?_ ?_|exact mCx (by assumption)|refine mDx ?_|refine mEx ?_ ?_ ?_|exact mFx|refine mGx ?_ ?_ ?_|exact mHx|exact mIx _|(simp only [wM,Nat.reduceAdd,Nat.reduceLT,Nat.reduceLeDiff];done)));done)|omega|decide) only [ha.len, ↓wA,wB,wL,resOf,Nat.reduceBEq,Int.reduceBEq,Int.reduceBNe,Int.reduceLT,Int.reduceLE,Int.reduceAdd,Int.reduceSub,Int.reduceMul,Int.reduceToNat]
  refine wloop (fun mm ss => ∃ (i : Nat) (q : AV) (h1 : Hp) (u6 u8 u9 u13 u22 : AV), (mm = l.length - i) ∧ (i ≤ l.length ∧ Grown h h1 ∧ OwnP h.next h1.blks q (uptoU k l ns i)) ∧ ss = { fr := [(0, .int .i64 k), (1, a), (2, b), (6, u6), (7, q), (8, u8), (9, u9), (10, a), (11, .int .i64 l.length), (12, .int .i64 i), (13, u13), (22, u22)], hp := h1 }) (l.length) ?_ ?_
  ·
    refine ⟨0, .nilsl, h.en, _, _, _, _, _, by omega, ⟨by omega, by (repeat' (first|assumption|exact mAx _|refine mBx ?_ ?_|exact mCx (by assumption)|refine mDx ?_|refine mEx ?_ ?_ ?_|exact mFx|refine mGx ?_ ?_ ?_|exact mHx|exact mIx _|(simp only [wM,Nat.reduceAdd,Nat.reduceLT,Nat.reduceLeDiff];done))), OwnP.nil⟩, rfl⟩
  rintro nA sA ⟨i, q, h1, u6, u8, u9, u13, u22, hnA, ⟨hi, g1, o1⟩, rfl⟩
  have k1 := g1.ok hk
  have a1 := ha.sub (g1.sub hk)
  have b1 := hb.sub (g1.sub hk)
  have hlen := uptoU_len k l ns i
  simp (disch := first|(simp only [Nat.reduceBEq,wE];done)|((repeat' (first|assumption|exact mAx _|refine mBx ?_ ?_|exact mCx (by assumption)|refine mDx ?_|refine mEx ?_ ?_ ?_|exact mFx|refine mGx ?_ ?_ ?_|exact mHx|exact mIx _|(simp only [wM,Nat.reduceAdd,Nat.reduceLT,Nat.reduceLeDiff];done)));done)|omega|decide) only [↓wA,wB,wL,resOf,Nat.reduceBEq,Int.reduceBEq,Int.reduceBNe,Int.reduceLT,Int.reduceLE,Int.reduceAdd,Int.reduceSub,Int.reduceMul,Int.reduceToNat]
  refine ifThen_intro (fun e => ?_) (fun e => ?_) <;> have eq := e <;> try simp [-List.getD_eq_getElem?_getD] at eq
  · have hd : l.getD i (0, 0) = sg l i := rfl
    have hin : i < ns.length := by omega
    have a2 := a1.sub (Sub.pu (cs := [.int .i64 (sg l i).1, .int .i64 (sg l i).2]) k1)
    simp (disch := first|(simp only [Nat.reduceBEq,wE];done)|((repeat' (first|assumption|exact mAx _|refine mBx ?_ ?_|exact mCx (by assumption)|refine mDx ?_|refine mEx ?_ ?_ ?_|exact mFx|refine mGx ?_ ?_ ?_|exact mHx|exact mIx _|(simp only [wM,Nat.reduceAdd,Nat.reduceLT,Nat.reduceLeDiff];done)));done)|omega|decide) only [e, a1.ix, a1.lda, hd, b1.ix, b1.ld, ↓wA,wB,wL,resOf,Nat.reduceBEq,Int.reduceBEq,Int.reduceBNe,Int.reduceLT,Int.reduceLE,Int.reduceAdd,Int.reduceSub,Int.reduceMul,Int.reduceToNat]
    refine ifThen_intro (fun e2 => ?_) (fun e2 => ?_) <;> have e2q := e2 <;> try simp [-List.getD_eq_getElem?_getD] at e2q
    · obtain ⟨s2, h2, y1, y2, y3, y4⟩ := own_appP1 (a := (sg l i).1) (b := (sg l i).2) (h := h1.pu [.int .i64 (sg l i).1, .int .i64 (sg l i).2]) hk (g1.pu rfl) (o1.sub (Sub.pu k1)) (by omega)
      simp (disch := first|(simp only [Nat.reduceBEq,wE];done)|((repeat' (first|assumption|exact mAx _|refine mBx ?_ ?_|exact mCx (by assumption)|refine mDx ?_|refine mEx ?_ ?_ ?_|exact mFx|refine mGx ?_ ?_ ?_|exact mHx|exact mIx _|(simp only [wM,Nat.reduceAdd,Nat.reduceLT,Nat.reduceLeDiff];done)));done)|omega|decide) only [e, e2, y1, ↓wA,wB,wL,resOf,Nat.reduceBEq,Int.reduceBEq,Int.reduceBNe,Int.reduceLT,Int.reduceLE,Int.reduceAdd,Int.reduceSub,Int.reduceMul,Int.reduceToNat]
      refine ⟨_, ?_, i + 1, _, _, _, _, _, _, _, rfl, ?_, rfl⟩
      · omega
      refine ⟨by omega, y3, ?_⟩
      rw [uptoU, if_pos (by simpa using e2)]
      exact y2
    · simp (disch := first|(simp only [Nat.reduceBEq,wE];done)|((repeat' (first|assumption|exact mAx _|refine mBx ?_ ?_|exact mCx (by assumption)|refine mDx ?_|refine mEx ?_ ?_ ?_|exact mFx|refine mGx ?_ ?_ ?_|exact mHx|exact mIx _|(simp only [wM,Nat.reduceAdd,Nat.reduceLT,Nat.reduceLeDiff];done)));done)|omega|decide) only [e, e2, ↓wA,wB,wL,resOf,Nat.reduceBEq,Int.reduceBEq,Int.reduceBNe,Int.reduceLT,Int.reduceLE,Int.reduceAdd,Int.reduceSub,Int.reduceMul,Int.reduceToNat]
      refine ⟨_, ?_, i + 1, _, _, _, _, _, _, _, rfl, ?_, rfl⟩
      · omega
      refine ⟨by omega, by (repeat' (first|assumption|exact mAx _|refine mBx ?_ ?_|exact mCx (by assumption)|refine mDx ?_|refine mEx ?_ ?_ ?_|exact mFx|refine mGx ?_ ?_ ?_|exact mHx|exact mIx _|(simp only [wM,Nat.reduceAdd,Nat.reduceLT,Nat.reduceLeDiff];done))), ?_⟩
      rw [uptoU, if_neg (by simpa using e2)]
      exact o1.sub (by (repeat' (first|assumption|exact mAx _|refine mBx ?_ ?_|exact mCx (by assumption)|refine mDx ?_|refine mEx ?_ ?_ ?_|exact mFx|refine mGx ?_ ?_ ?_|exact mHx|exact mIx _|(simp only [wM,Nat.reduceAdd,Nat.reduceLT,Nat.reduceLeDiff];done))))
  · simp (disch := first|(simp only [Nat.reduceBEq,wE];done)|((repeat' (first|assumption|exact mAx _|refine mBx ?_ ?_|exact mCx (by assumption)|refine mDx ?_|refine mEx ?_ ?_ ?_|exact mFx|refine mGx ?_ ?_ ?_|exact mHx|exact mIx _|(simp only [wM,Nat.reduceAdd,Nat.reduceLT,Nat.reduceLeDiff];done)));done)|omega|decide) only [e, ↓wA,wB,wL,resOf,Nat.reduceBEq,Int.reduceBEq,Int.reduceBNe,Int.reduceLT,Int.reduceLE,Int.reduceAdd,Int.reduceSub,Int.reduceMul,Int.reduceToNat]
    refine ⟨_, rfl, g1, ?_⟩
    rw [upto, show l.length = i by omega]
    exact o1

theorem f45 (s : Span) (a : AV) (l : List Span) (h : Hp) (hk : Hok h) (ha : Pairs h.blks a l) (hl : l.length ≤ 900) :
    Evals Try.prog tab false (.func 45) [.ag [.int .i64 s.1, .int .i64 s.2], a] h (.int .i64 (within s l), h) := by
  refine evals_pure c45 rfl hk ?_
  simp only [sf45, initS_cons, initS_nil]
  have kk : Hok (h.en.pu [.int .i64 s.1, .int .i64 s.2]) := by (repeat' (first|assumption|exact mAx _|refine mBx ?_ ?_|exact mCx (by assumption)|refine mDx ?_|refine mEx ?_ ?_ ?_|exact mFx|refine mGx ?_ ?_ ?_|exact mHx|exact mIx _|(simp only [wM,Nat.reduceAdd,Nat.reduceLT,Nat.reduceLeDiff];done)))
  simp (disch := first|(simp only [Nat.reduceBEq,wE];done)|((repeat' (first|assumption|exact mAx _|refine mBx ?_ ?_|exact mCx (by assumption)|refine mDx ?_|refine mEx ?_ ?_ ?_|exact mFx|refine mGx ?_ ?_ ?_|exact mHx|exact mIx _|(simp only [wM,Nat.reduceAdd,Nat.reduceLT,Nat.reduceLeDiff];done)));done)|omega|decide) only [ha.len, ↓wA,wB,wL,resOf,Nat.reduceBEq,Int.reduceBEq,Int.reduceBNe,Int.reduceLT,Int.reduceLE,Int.reduceAdd,Int.reduceSub,Int.reduceMul,Int.reduceToNat]
  refine wloop (fun mm ss => ∃ (i : Nat) (q : AV) (h1 : Hp) (u4 u7 u8 u10 u16 u24 : AV), (mm = l.length - i) ∧ (i ≤ l.length ∧ Grown (h.en.pu [.int .i64 s.1, .int .i64 s.2]) h1 ∧ OwnP (h.next + 1) h1.blks q (partsU s l i)) ∧ ss = { fr := [(0, .ag [.int .i64 s.1, .int .i64 s.2]), (1, a), (2, .ptr h.next 0), (4, u4), (5, q), (7, u7), (8, u8), (10, u10), (13, a), (14, .int .i64 l.length), (15, .int .i64 i), (16, u16), (24, u24)], hp := h1 }) (l.length) ?_ ?_
  ·
    refine ⟨0, _, _, _, _, _, _, _, _, by omega, ⟨by omega, by (repeat' (first|assumption|exact mAx _|refine mBx ?_ ?_|exact mCx (by assumption)|refine mDx ?_|refine mEx ?_ ?_ ?_|exact mFx|refine mGx ?_ ?_ ?_|exact mHx|exact mIx _|(simp only [wM,Nat.reduceAdd,Nat.reduceLT,Nat.reduceLeDiff];done))), OwnP.fresh (Nat.le_refl _) rfl rfl rfl (Nat.le_refl _)⟩, rfl⟩
  rintro nA sA ⟨i, q, h1, u4, u7, u8, u10, u16, u24, hnA, ⟨hi, g1, o1⟩, rfl⟩
  have g0 : Grown h (h.en.pu [.int .i64 s.1, .int .i64 s.2]) := by (repeat' (first|assumption|exact mAx _|refine mBx ?_ ?_|exact mCx (by assumption)|refine mDx ?_|refine mEx ?_ ?_ ?_|exact mFx|refine mGx ?_ ?_ ?_|exact mHx|exact mIx _|(simp only [wM,Nat.reduceAdd,Nat.reduceLT,Nat.reduceLeDiff];done)))
  have g2 := GrownR.trans g0 g1
  have k1 := g2.ok hk
  have a1 := ha.sub (g2.sub hk)
  have x1 : Box h1.blks h.next [AV.int .i64 s.1, AV.int .i64 s.2] := Box.top.sub (g1.sub kk)
  have hlen := partsU_len s l i
  simp (disch := first|(simp only [Nat.reduceBEq,wE];done)|((repeat' (first|assumption|exact mAx _|refine mBx ?_ ?_|exact mCx (by assumption)|refine mDx ?_|refine mEx ?_ ?_ ?_|exact mFx|refine mGx ?_ ?_ ?_|exact mHx|exact mIx _|(simp only [wM,Nat.reduceAdd,Nat.reduceLT,Nat.reduceLeDiff];done)));done)|omega|decide) only [↓wA,wB,wL,resOf,Nat.reduceBEq,Int.reduceBEq,Int.reduceBNe,Int.reduceLT,Int.reduceLE,Int.reduceAdd,Int.reduceSub,Int.reduceMul,Int.reduceToNat]
  refine ifThen_intro (fun e => ?_) (fun e => ?_) <;> have eq := e <;> try simp [-List.getD_eq_getElem?_getD] at eq
  · have hd : l.getD i (0, 0) = sg l i := rfl
    have e1 : ov (s.1, s.2) ((sg l i).1, (sg l i).2) = ov s (sg l i) := rfl
    simp (disch := first|(simp only [Nat.reduceBEq,wE];done)|((repeat' (first|assumption|exact mAx _|refine mBx ?_ ?_|exact mCx (by assumption)|refine mDx ?_|refine mEx ?_ ?_ ?_|exact mFx|refine mGx ?_ ?_ ?_|exact mHx|exact mIx _|(simp only [wM,Nat.reduceAdd,Nat.reduceLT,Nat.reduceLeDiff];done)));done)|omega|decide) only [e, a1.ix, a1.lda, hd, x1.lda, callT (f33 _ _ _ _ _ _), ↓wA,wB,wL,resOf,Nat.reduceBEq,Int.reduceBEq,Int.reduceBNe,Int.reduceLT,Int.reduceLE,Int.reduceAdd,Int.reduceSub,Int.reduceMul,Int.reduceToNat]
    by_cases hov : ov s (sg l i) = true
    · have hbb : ((max s.1 (sg l i).1 == 0) && (min s.2 (sg l i).2 == 0)) = false := by
        simp only [ov, decide_eq_true_eq] at hov
        simp only [Bool.and_eq_false_iff, beq_eq_false_iff_ne]
        omega
      obtain ⟨s2, h2, y1, y2, y3, y4⟩ := own_appP1 (a := max s.1 (sg l i).1) (b := min s.2 (sg l i).2) (h := (h1.pu [.int .i64 (sg l i).1, .int .i64 (sg l i).2]).pu [.int .i64 (max s.1 (sg l i).1), .int .i64 (min s.2 (sg l i).2)]) kk ((g1.pu rfl).pu rfl) (o1.sub (by (repeat' (first|assumption|exact mAx _|refine mBx ?_ ?_|exact mCx (by assumption)|refine mDx ?_|refine mEx ?_ ?_ ?_|exact mFx|refine mGx ?_ ?_ ?_|exact mHx|exact mIx _|(simp only [wM,Nat.reduceAdd,Nat.reduceLT,Nat.reduceLeDiff];done))))) (by omega)
      simp (disch := first|(simp only [Nat.reduceBEq,wE];done)|((repeat' (first|assumption|exact mAx _|refine mBx ?_ ?_|exact mCx (by assumption)|refine mDx ?_|refine mEx ?_ ?_ ?_|exact mFx|refine mGx ?_ ?_ ?_|exact mHx|exact mIx _|(simp only [wM,Nat.reduceAdd,Nat.reduceLT,Nat.reduceLeDiff];done)));done)|omega|decide) only [e, e1, hov, if_true, hbb, y1, ↓wA,wB,wL,resOf,Nat.reduceBEq,Int.reduceBEq,Int.reduceBNe,Int.reduceLT,Int.reduceLE,Int.reduceAdd,Int.reduceSub,Int.reduceMul,Int.reduceToNat]
      refine ⟨_, ?_, i + 1, _, _, _, _, _, _, _, _, rfl, ?_, rfl⟩
      · omega
      refine ⟨by omega, y3, ?_⟩
      rw [partsU, if_pos hov]
      exact y2
    · have hov2 : (ov s (sg l i) = true) = False := by simp [hov]
      simp (disch := first|(simp only [Nat.reduceBEq,wE];done)|((repeat' (first|assumption|exact mAx _|refine mBx ?_ ?_|exact mCx (by assumption)|refine mDx ?_|refine mEx ?_ ?_ ?_|exact mFx|refine mGx ?_ ?_ ?_|exact mHx|exact mIx _|(simp only [wM,Nat.reduceAdd,Nat.reduceLT,Nat.reduceLeDiff];done)));done)|omega|decide) only [e, e1, hov2, if_false, show ((0 : Int) == 0) = true from rfl, Bool.and_self, ↓wA,wB,wL,resOf,Nat.reduceBEq,Int.reduceBEq,Int.reduceBNe,Int.reduceLT,Int.reduceLE,Int.reduceAdd,Int.reduceSub,Int.reduceMul,Int.reduceToNat]
      refine ⟨_, ?_, i + 1, _, _, _, _, _, _, _, _, rfl, ?_, rfl⟩
      · omega
      refine ⟨by omega, by (repeat' (first|assumption|exact mAx _|refine mBx ?_ ?_|exact mCx (by assumption)|refine mDx ?_|refine mEx ?_ ?_ ?_|exact mFx|refine mGx ?_ ?_ ?_|exact mHx|exact mIx _|(simp only [wM,Nat.reduceAdd,Nat.reduceLT,Nat.reduceLeDiff];done))), ?_⟩
      rw [partsU, if_neg hov]
      exact o1.sub (by (repeat' (first|assumption|exact mAx _|refine mBx ?_ ?_|exact mCx (by assumption)|refine mDx ?_|refine mEx ?_ ?_ ?_|exact mFx|refine mGx ?_ ?_ ?_|exact mHx|exact mIx _|(simp only [wM,Nat.reduceAdd,Nat.reduceLT,Nat.reduceLeDiff];done))))
  · have hp : (partsU s l i).length ≤ 1000 := by omega
    simp (disch := first|(simp only [Nat.reduceBEq,wE];done)|((repeat' (first|assumption|exact mAx _|refine mBx ?_ ?_|exact mCx (by assumption)|refine mDx ?_|refine mEx ?_ ?_ ?_|exact mFx|refine mGx ?_ ?_ ?_|exact mHx|exact mIx _|(simp only [wM,Nat.reduceAdd,Nat.reduceLT,Nat.reduceLeDiff];done)));done)|omega|decide) only [e, callT (f36 q _ h1 k1 o1.pairs hp), ↓wA,wB,wL,resOf,Nat.reduceBEq,Int.reduceBEq,Int.reduceBNe,Int.reduceLT,Int.reduceLE,Int.reduceAdd,Int.reduceSub,Int.reduceMul,Int.reduceToNat]
    refine ⟨_, rfl, ?_, by (repeat' (first|assumption|exact mAx _|refine mBx ?_ ?_|exact mCx (by assumption)|refine mDx ?_|refine mEx ?_ ?_ ?_|exact mFx|refine mGx ?_ ?_ ?_|exact mHx|exact mIx _|(simp only [wM,Nat.reduceAdd,Nat.reduceLT,Nat.reduceLeDiff];done)))⟩
    rw [within, show l.length = i by omega]

/-- What a rule answers. -/
def RuleOK (h : Hp) (l : List Span) (g : Nat) (cs : List AV) (r : Rule) : Prop :=
  ∀ (h' : Hp) (b q : AV) (i : Nat) (ns : List Int), Hok h' → Sub h.blks h'.blks → i < l.length → Pairs h'.blks b (l.take i) → Ints h'.blks .i64 q ns → ns = onl r l i →
    Evals Try.prog tab false (.func g) ([.ag [.int .i64 (sg l i).1, .int .i64 (sg l i).2], b, q] ++ cs) h' (.int .i64 (r (sg l i) (l.take i) ns), h')

theorem f38 (a : AV) (l : List Span) (g : Nat) (cs : List AV) (r : Rule) (h : Hp) (hk : Hok h) (ha : Pairs h.blks a l) (hl : l.length ≤ 1000) (hr : RuleOK h l g cs r) :
    ∃ v h', Evals Try.prog tab false (.func 38) [a, .fn (.func g) [] cs] h (v, h') ∧ Grown h h' ∧ Own h.next h'.blks .i64 v (onl r l l.length) := by
  refine evals_q c38 (fun v h' => Own h.next h'.blks .i64 v (onl r l l.length)) rfl hk ?_ (fun v h1 g q => q.leave)
  simp only [sf38, initS_cons, initS_nil]
  simp (disch := first|(simp only [Nat.reduceBEq,wE];done)|((repeat' (first|assumption|exact mAx _|refine mBx ?_ ?_|exact mCx (by assumption)|refine mDx ?_|refine mEx ?_ ?_ ?_|exact mFx|refine mGx ?_ ?_ ?_|exact mHx|exact mIx _|(simp only [wM,Nat.reduceAdd,Nat.reduceLT,Nat.reduceLeDiff];done)));done)|omega|decide) only [ha.len, sMks_0, ↓wA,wB,wL,resOf,Nat.reduceBEq,Int.reduceBEq,Int.reduceBNe,Int.reduceLT,Int.reduceLE,Int.reduceAdd,Int.reduceSub,Int.reduceMul,Int.reduceToNat]
  refine wloop (fun mm ss => ∃ (i : Nat) (q : AV) (h1 : Hp) (u4 u6 u7 u8 u15 : AV), (mm = l.length - i) ∧ (i ≤ l.length ∧ Grown h h1 ∧ Own h.next h1.blks .i64 q (onl r l i)) ∧ ss = { fr := [(0, a), (1, .fn (.func g) [] cs), (4, u4), (5, q), (6, u6), (7, u7), (8, u8), (12, a), (13, .int .i64 l.length), (14, .int .i64 i), (15, u15)], hp := h1 }) (l.length) ?_ ?_
  ·
    refine ⟨0, _, _, _, _, _, _, _, by omega, ⟨by omega, by rw [repl_ints]; exact GrownR.push Grown.refl refsOK_ints (Nat.le_refl _), by rw [repl_ints]; exact Own.fresh (Nat.le_refl _) rfl rfl (by simp [ints]) (Nat.zero_le _)⟩, rfl⟩
  rintro nA sA ⟨i, q, h1, u4, u6, u7, u8, u15, hnA, ⟨hi, g1, o1⟩, rfl⟩
  have k1 := g1.ok hk
  have a1 := ha.sub (g1.sub hk)
  have hlen := onl_len r l i
  simp (disch := first|(simp only [Nat.reduceBEq,wE];done)|((repeat' (first|assumption|exact mAx _|refine mBx ?_ ?_|exact mCx (by assumption)|refine mDx ?_|refine mEx ?_ ?_ ?_|exact mFx|refine mGx ?_ ?_ ?_|exact mHx|exact mIx _|(simp only [wM,Nat.reduceAdd,Nat.reduceLT,Nat.reduceLeDiff];done)));done)|omega|decide) only [↓wA,wB,wL,resOf,Nat.reduceBEq,Int.reduceBEq,Int.reduceBNe,Int.reduceLT,Int.reduceLE,Int.reduceAdd,Int.reduceSub,Int.reduceMul,Int.reduceToNat]
  refine ifThen_intro (fun e => ?_) (fun e => ?_) <;> have eq := e <;> try simp [-List.getD_eq_getElem?_getD] at eq
  · have hd : l.getD i (0, 0) = sg l i := rfl
    obtain ⟨a', ea, ia⟩ := (a1.sub (Sub.pu (cs := [.int .i64 (sg l i).1, .int .i64 (sg l i).2]) k1)).upto (m := i) (by omega) (h1.pu [.int .i64 (sg l i).1, .int .i64 (sg l i).2])
    have er := hr (h1.pu [.int .i64 (sg l i).1, .int .i64 (sg l i).2]) a' q i _ (Hok.pu k1 rfl) ((g1.sub hk).trans (Sub.pu k1)) (by omega) ia (o1.ints.sub (Sub.pu k1)) rfl
    obtain ⟨s2, h2, y1, y2, y3, y4⟩ := own_app1 (v := r (sg l i) (l.take i) (onl r l i)) (h := h1.pu [.int .i64 (sg l i).1, .int .i64 (sg l i).2]) hk (g1.pu rfl) (o1.sub (Sub.pu k1)) (by omega)
    simp (disch := first|(simp only [Nat.reduceBEq,wE];done)|((repeat' (first|assumption|exact mAx _|refine mBx ?_ ?_|exact mCx (by assumption)|refine mDx ?_|refine mEx ?_ ?_ ?_|exact mFx|refine mGx ?_ ?_ ?_|exact mHx|exact mIx _|(simp only [wM,Nat.reduceAdd,Nat.reduceLT,Nat.reduceLeDiff];done)));done)|omega|decide) only [e, a1.ix, a1.lda, hd, ea, callC er, ↓wA,wB,wL,resOf,Nat.reduceBEq,Int.reduceBEq,Int.reduceBNe,Int.reduceLT,Int.reduceLE,Int.reduceAdd,Int.reduceSub,Int.reduceMul,Int.reduceToNat]
    simp only [Hp.pu] at y1
    simp (disch := first|(simp only [Nat.reduceBEq,wE];done)|((repeat' (first|assumption|exact mAx _|refine mBx ?_ ?_|exact mCx (by assumption)|refine mDx ?_|refine mEx ?_ ?_ ?_|exact mFx|refine mGx ?_ ?_ ?_|exact mHx|exact mIx _|(simp only [wM,Nat.reduceAdd,Nat.reduceLT,Nat.reduceLeDiff];done)));done)|omega|decide) only [e, y1, ↓wA,wB,wL,resOf,Nat.reduceBEq,Int.reduceBEq,Int.reduceBNe,Int.reduceLT,Int.reduceLE,Int.reduceAdd,Int.reduceSub,Int.reduceMul,Int.reduceToNat]
    refine ⟨_, ?_, i + 1, _, _, _, _, _, _, _, rfl, ?_, rfl⟩
    · omega
    exact ⟨by omega, y3, y2⟩
  · simp (disch := first|(simp only [Nat.reduceBEq,wE];done)|((repeat' (first|assumption|exact mAx _|refine mBx ?_ ?_|exact mCx (by assumption)|refine mDx ?_|refine mEx ?_ ?_ ?_|exact mFx|refine mGx ?_ ?_ ?_|exact mHx|exact mIx _|(simp only [wM,Nat.reduceAdd,Nat.reduceLT,Nat.reduceLeDiff];done)));done)|omega|decide) only [e, ↓wA,wB,wL,resOf,Nat.reduceBEq,Int.reduceBEq,Int.reduceBNe,Int.reduceLT,Int.reduceLE,Int.reduceAdd,Int.reduceSub,Int.reduceMul,Int.reduceToNat]
    refine ⟨_, rfl, g1, ?_⟩
    rw [show l.length = i by omega]
    exact o1

end Go.Proofs.Ytgpdimkgfhgffaa

