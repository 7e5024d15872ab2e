/- Functions of shift: the rules and the colourings. -/
import Derived.Test.YtgpdimkgfhgffaaS3
set_option linter.unusedSimpArgs false
set_option linter.unusedVariables false
set_option maxHeartbeats 1000000

namespace Go.Proofs.Ytgpdimkgfhgffaa

open Go Go.Abs Go.Sh

theorem f39 (s : Span) (a b : AV) (l : List Span) (ns : List Int) (h : Hp) (hk : Hok h) (ha : Pairs h.blks a l) (hb : Ints h.blks .i64 b ns) (hl : l.length ≤ ns.length) (hn : ns.length ≤ 1000) :
    Evals Try.prog tab false (.func 39) [.ag [.int .i64 s.1, .int .i64 s.2], a, b] h (.int .i64 (fitR s l ns), h) := by
  refine evals_pure c39 rfl hk ?_
  simp only [sf39, initS_cons, initS_nil]
  have kk : Hok (h.en.pu [.int .i64 s.1, .int .i64 s.2]) := by (repeat' (first|assumption|exact mAx _|refine mBx ?_ ?_|exact mCx (by assumption)|refine mDx ?_|refine mEx ?_ ?_ ?_|exact mFx|refine mGx ?_ ?_ ?_|exact mHx|exact mIx _|(simp only [wM,Nat.reduceAdd,Nat.reduceLT,Nat.reduceLeDiff];done)))
  simp (disch := first|(simp only [Nat.reduceBEq,wE];done)|((repeat' (first|assumption|exact mAx _|refine mBx ?_ ?_|exact mCx (by assumption)|refine mDx ?_|refine mEx ?_ ?_ ?_|exact mFx|refine mGx ?_ ?_ ?_|exact mHx|exact mIx _|(simp only [wM,Nat.reduceAdd,Nat.reduceLT,Nat.reduceLeDiff];done)));done)|omega|decide) only [↓wA,wB,wL,resOf,Nat.reduceBEq,Int.reduceBEq,Int.reduceBNe,Int.reduceLT,Int.reduceLE,Int.reduceAdd,Int.reduceSub,Int.reduceMul,Int.reduceToNat]
  refine callE (f19 s a b l ns (h.en.pu [.int .i64 s.1, .int .i64 s.2]) kk (ha.sub (Sub.pu hk)) (hb.sub (Sub.pu hk)) hl hn) ?_
  rintro v h1 ⟨g1, o1⟩
  have k1 := g1.ok kk
  have hlen := takenU_len s l ns l.length
  simp (disch := first|(simp only [Nat.reduceBEq,wE];done)|((repeat' (first|assumption|exact mAx _|refine mBx ?_ ?_|exact mCx (by assumption)|refine mDx ?_|refine mEx ?_ ?_ ?_|exact mFx|refine mGx ?_ ?_ ?_|exact mHx|exact mIx _|(simp only [wM,Nat.reduceAdd,Nat.reduceLT,Nat.reduceLeDiff];done)));done)|omega|decide) only [callT (f40 v (taken s l ns) 0 h1 k1 o1.ints (by unfold taken; omega) (by omega)), ↓wA,wB,wL,resOf,Nat.reduceBEq,Int.reduceBEq,Int.reduceBNe,Int.reduceLT,Int.reduceLE,Int.reduceAdd,Int.reduceSub,Int.reduceMul,Int.reduceToNat]
  exact ⟨_, rfl, rfl, GrownR.trans (by (repeat' (first|assumption|exact mAx _|refine mBx ?_ ?_|exact mCx (by assumption)|refine mDx ?_|refine mEx ?_ ?_ ?_|exact mFx|refine mGx ?_ ?_ ?_|exact mHx|exact mIx _|(simp only [wM,Nat.reduceAdd,Nat.reduceLT,Nat.reduceLeDiff];done)))) g1⟩

theorem f25 (a : AV) (l : List Span) (h : Hp) (hk : Hok h) (ha : Pairs h.blks a l) (hl : l.length ≤ 1000) :
    ∃ v h', Evals Try.prog tab false (.func 25) [a] h (v, h') ∧ Grown h h' ∧ Own h.next h'.blks .i64 v (fit l) := by
  refine evals_q c25 (fun v h' => Own h.next h'.blks .i64 v (fit l)) rfl hk ?_ (fun v h1 g q => q.leave)
  simp only [sf25, initS_cons, initS_nil]
  simp (disch := first|(simp only [Nat.reduceBEq,wE];done)|((repeat' (first|assumption|exact mAx _|refine mBx ?_ ?_|exact mCx (by assumption)|refine mDx ?_|refine mEx ?_ ?_ ?_|exact mFx|refine mGx ?_ ?_ ?_|exact mHx|exact mIx _|(simp only [wM,Nat.reduceAdd,Nat.reduceLT,Nat.reduceLeDiff];done)));done)|omega|decide) only [↓wA,wB,wL,resOf,Nat.reduceBEq,Int.reduceBEq,Int.reduceBNe,Int.reduceLT,Int.reduceLE,Int.reduceAdd,Int.reduceSub,Int.reduceMul,Int.reduceToNat]
  refine callE (f38 a l 39 [] fitR h.en hk ha hl ?_) ?_
  · intro h' b q i ns k' s' hi hb hq hns
    exact f39 (sg l i) b q (l.take i) ns h' k' hb hq (by rw [hns, onl_len]; simp; omega) (by rw [hns, onl_len]; omega)
  · rintro v h1 ⟨g1, o1⟩
    simp (disch := first|(simp only [Nat.reduceBEq,wE];done)|((repeat' (first|assumption|exact mAx _|refine mBx ?_ ?_|exact mCx (by assumption)|refine mDx ?_|refine mEx ?_ ?_ ?_|exact mFx|refine mGx ?_ ?_ ?_|exact mHx|exact mIx _|(simp only [wM,Nat.reduceAdd,Nat.reduceLT,Nat.reduceLeDiff];done)));done)|omega|decide) only [↓wA,wB,wL,resOf,Nat.reduceBEq,Int.reduceBEq,Int.reduceBNe,Int.reduceLT,Int.reduceLE,Int.reduceAdd,Int.reduceSub,Int.reduceMul,Int.reduceToNat]
    exact ⟨_, rfl, g1.of_en, o1⟩

theorem f44 (s : Span) (a b : AV) (l : List Span) (ns : List Int) (h : Hp) (hk : Hok h) (ha : Pairs h.blks a l) (hb : Ints h.blks .i64 b ns) (hl : l.length ≤ ns.length) (hn : ns.length ≤ 800) :
    Evals Try.prog tab false (.func 44) [.ag [.int .i64 s.1, .int .i64 s.2], a, b] h (.int .i64 (levR s l ns), h) := by
  refine evals_pure c44 rfl hk ?_
  simp only [sf44, initS_cons, initS_nil]
  have kk : Hok (h.en.pu [.int .i64 s.1, .int .i64 s.2]) := by (repeat' (first|assumption|exact mAx _|refine mBx ?_ ?_|exact mCx (by assumption)|refine mDx ?_|refine mEx ?_ ?_ ?_|exact mFx|refine mGx ?_ ?_ ?_|exact mHx|exact mIx _|(simp only [wM,Nat.reduceAdd,Nat.reduceLT,Nat.reduceLeDiff];done)))
  simp (disch := first|(simp only [Nat.reduceBEq,wE];done)|((repeat' (first|assumption|exact mAx _|refine mBx ?_ ?_|exact mCx (by assumption)|refine mDx ?_|refine mEx ?_ ?_ ?_|exact mFx|refine mGx ?_ ?_ ?_|exact mHx|exact mIx _|(simp only [wM,Nat.reduceAdd,Nat.reduceLT,Nat.reduceLeDiff];done)));done)|omega|decide) only [↓wA,wB,wL,resOf,Nat.reduceBEq,Int.reduceBEq,Int.reduceBNe,Int.reduceLT,Int.reduceLE,Int.reduceAdd,Int.reduceSub,Int.reduceMul,Int.reduceToNat]
  refine wloop (fun mm ss => ∃ (n : Nat) (x : Int) (h1 : Hp) (u6 u15 : AV), (mm = n) ∧ (Grown (h.en.pu [.int .i64 s.1, .int .i64 s.2]) h1 ∧ 1 ≤ x ∧ x + n = l.length + 3 ∧ levR s l ns = levF s l ns n x) ∧ ss = { fr := [(0, .ag [.int .i64 s.1, .int .i64 s.2]), (1, a), (2, b), (3, .ptr h.next 0), (6, u6), (7, .int .i64 x), (15, u15)], hp := h1 }) (l.length + 2) ?_ ?_
  ·
    refine ⟨l.length + 2, 1, _, _, _, rfl, ⟨Grown.refl, by omega, by omega, rfl⟩, rfl⟩
  rintro nA sA ⟨n, x, h1, u6, u15, hnA, ⟨g1, hx, hxn, hlv⟩, rfl⟩
  have k1 := g1.ok kk
  have g0 : Grown h (h.en.pu [.int .i64 s.1, .int .i64 s.2]) := by (repeat' (first|assumption|exact mAx _|refine mBx ?_ ?_|exact mCx (by assumption)|refine mDx ?_|refine mEx ?_ ?_ ?_|exact mFx|refine mGx ?_ ?_ ?_|exact mHx|exact mIx _|(simp only [wM,Nat.reduceAdd,Nat.reduceLT,Nat.reduceLeDiff];done)))
  have g2 := GrownR.trans g0 g1
  have a1 := ha.sub (g2.sub hk)
  have b1 := hb.sub (g2.sub hk)
  have x1 : Box h1.blks h.next [AV.int .i64 s.1, AV.int .i64 s.2] := Box.top.sub (g1.sub kk)
  simp (disch := first|(simp only [Nat.reduceBEq,wE];done)|((repeat' (first|assumption|exact mAx _|refine mBx ?_ ?_|exact mCx (by assumption)|refine mDx ?_|refine mEx ?_ ?_ ?_|exact mFx|refine mGx ?_ ?_ ?_|exact mHx|exact mIx _|(simp only [wM,Nat.reduceAdd,Nat.reduceLT,Nat.reduceLeDiff];done)));done)|omega|decide) only [x1.lda, ↓wA,wB,wL,resOf,Nat.reduceBEq,Int.reduceBEq,Int.reduceBNe,Int.reduceLT,Int.reduceLE,Int.reduceAdd,Int.reduceSub,Int.reduceMul,Int.reduceToNat]
  refine callE (f46 x a b l ns h1 k1 a1 b1 hl (by omega)) ?_
  rintro v h2 ⟨g3, o3⟩
  have k2 := g3.ok k1
  have x2 := x1.sub (g3.sub k1)
  have hul := upto_len x l ns
  have hw := within_bd s (upto x l ns)
  simp (disch := first|(simp only [Nat.reduceBEq,wE];done)|((repeat' (first|assumption|exact mAx _|refine mBx ?_ ?_|exact mCx (by assumption)|refine mDx ?_|refine mEx ?_ ?_ ?_|exact mFx|refine mGx ?_ ?_ ?_|exact mHx|exact mIx _|(simp only [wM,Nat.reduceAdd,Nat.reduceLT,Nat.reduceLeDiff];done)));done)|omega|decide) only [x1.lda, x2.lda, callT (f45 s v (upto x l ns) h2 k2 o3.pairs (by omega)), ↓wA,wB,wL,resOf,Nat.reduceBEq,Int.reduceBEq,Int.reduceBNe,Int.reduceLT,Int.reduceLE,Int.reduceAdd,Int.reduceSub,Int.reduceMul,Int.reduceToNat]
  by_cases hc : x < within s (upto x l ns)
  · obtain ⟨n, rfl⟩ : ∃ m, n = m + 1 := ⟨n - 1, by omega⟩
    simp (disch := first|(simp only [Nat.reduceBEq,wE];done)|((repeat' (first|assumption|exact mAx _|refine mBx ?_ ?_|exact mCx (by assumption)|refine mDx ?_|refine mEx ?_ ?_ ?_|exact mFx|refine mGx ?_ ?_ ?_|exact mHx|exact mIx _|(simp only [wM,Nat.reduceAdd,Nat.reduceLT,Nat.reduceLeDiff];done)));done)|omega|decide) only [decide_eq_true hc, ↓wA,wB,wL,resOf,Nat.reduceBEq,Int.reduceBEq,Int.reduceBNe,Int.reduceLT,Int.reduceLE,Int.reduceAdd,Int.reduceSub,Int.reduceMul,Int.reduceToNat]
    refine ⟨_, ?_, n, _, _, _, _, rfl, ?_, rfl⟩
    · omega
    refine ⟨GrownR.trans g1 g3, by omega, by omega, ?_⟩
    rw [hlv, levF, if_pos hc]
  · simp (disch := first|(simp only [Nat.reduceBEq,wE];done)|((repeat' (first|assumption|exact mAx _|refine mBx ?_ ?_|exact mCx (by assumption)|refine mDx ?_|refine mEx ?_ ?_ ?_|exact mFx|refine mGx ?_ ?_ ?_|exact mHx|exact mIx _|(simp only [wM,Nat.reduceAdd,Nat.reduceLT,Nat.reduceLeDiff];done)));done)|omega|decide) only [decide_eq_false hc, ↓wA,wB,wL,resOf,Nat.reduceBEq,Int.reduceBEq,Int.reduceBNe,Int.reduceLT,Int.reduceLE,Int.reduceAdd,Int.reduceSub,Int.reduceMul,Int.reduceToNat]
    refine ⟨_, rfl, ?_, GrownR.trans g2 g3⟩
    rw [hlv]
    cases n with
    | zero => rfl
    | succ n => rw [levF, if_neg hc]

theorem f34 (a : AV) (l : List Span) (h : Hp) (hk : Hok h) (ha : Pairs h.blks a l) (hl : l.length ≤ 800) :
    ∃ v h', Evals Try.prog tab false (.func 34) [a] h (v, h') ∧ Grown h h' ∧ Own h.next h'.blks .i64 v (leveled l) := by
  refine evals_q c34 (fun v h' => Own h.next h'.blks .i64 v (leveled l)) rfl hk ?_ (fun v h1 g q => q.leave)
  simp only [sf34, initS_cons, initS_nil]
  simp (disch := first|(simp only [Nat.reduceBEq,wE];done)|((repeat' (first|assumption|exact mAx _|refine mBx ?_ ?_|exact mCx (by assumption)|refine mDx ?_|refine mEx ?_ ?_ ?_|exact mFx|refine mGx ?_ ?_ ?_|exact mHx|exact mIx _|(simp only [wM,Nat.reduceAdd,Nat.reduceLT,Nat.reduceLeDiff];done)));done)|omega|decide) only [↓wA,wB,wL,resOf,Nat.reduceBEq,Int.reduceBEq,Int.reduceBNe,Int.reduceLT,Int.reduceLE,Int.reduceAdd,Int.reduceSub,Int.reduceMul,Int.reduceToNat]
  refine callE (f38 a l 44 [] levR h.en hk ha (by omega) ?_) ?_
  · intro h' b q i ns k' s' hi hb hq hns
    exact f44 (sg l i) b q (l.take i) ns h' k' hb hq (by rw [hns, onl_len]; simp; omega) (by rw [hns, onl_len]; omega)
  · rintro v h1 ⟨g1, o1⟩
    simp (disch := first|(simp only [Nat.reduceBEq,wE];done)|((repeat' (first|assumption|exact mAx _|refine mBx ?_ ?_|exact mCx (by assumption)|refine mDx ?_|refine mEx ?_ ?_ ?_|exact mFx|refine mGx ?_ ?_ ?_|exact mHx|exact mIx _|(simp only [wM,Nat.reduceAdd,Nat.reduceLT,Nat.reduceLeDiff];done)));done)|omega|decide) only [↓wA,wB,wL,resOf,Nat.reduceBEq,Int.reduceBEq,Int.reduceBNe,Int.reduceLT,Int.reduceLE,Int.reduceAdd,Int.reduceSub,Int.reduceMul,Int.reduceToNat]
    exact ⟨_, rfl, g1.of_en, o1⟩

theorem f47 (s : Span) (a b c : AV) (id : Nat) (l : List Span) (ns lv : List Int) (h : Hp) (hk : Hok h) (ha : Pairs h.blks a l) (hb : Ints h.blks .i64 b ns) (hl : l.length ≤ ns.length) (hn : ns.length ≤ 1000)
    (hbx : Box h.blks id [c]) (hc : Ints h.blks .i64 c lv) (hlv : l.length < lv.length) (hbd : 0 ≤ lv.getD l.length 0 ∧ lv.getD l.length 0 ≤ 10000) :
    Evals Try.prog tab false (.func 47) [.ag [.int .i64 s.1, .int .i64 s.2], a, b, .ptr id 0] h (.int .i64 (troR lv s l ns), h) := by
  refine evals_pure c47 rfl hk ?_
  simp only [sf47, initS_cons, initS_nil]
  have kk : Hok (h.en.pu [.int .i64 s.1, .int .i64 s.2]) := by (repeat' (first|assumption|exact mAx _|refine mBx ?_ ?_|exact mCx (by assumption)|refine mDx ?_|refine mEx ?_ ?_ ?_|exact mFx|refine mGx ?_ ?_ ?_|exact mHx|exact mIx _|(simp only [wM,Nat.reduceAdd,Nat.reduceLT,Nat.reduceLeDiff];done)))
  simp (disch := first|(simp only [Nat.reduceBEq,wE];done)|((repeat' (first|assumption|exact mAx _|refine mBx ?_ ?_|exact mCx (by assumption)|refine mDx ?_|refine mEx ?_ ?_ ?_|exact mFx|refine mGx ?_ ?_ ?_|exact mHx|exact mIx _|(simp only [wM,Nat.reduceAdd,Nat.reduceLT,Nat.reduceLeDiff];done)));done)|omega|decide) only [hbx.ld, ha.len, hc.ix, hc.ld, ↓wA,wB,wL,resOf,Nat.reduceBEq,Int.reduceBEq,Int.reduceBNe,Int.reduceLT,Int.reduceLE,Int.reduceAdd,Int.reduceSub,Int.reduceMul,Int.reduceToNat]
  refine callE (f19 s a b l ns (h.en.pu [.int .i64 s.1, .int .i64 s.2]) kk (ha.sub (Sub.pu hk)) (hb.sub (Sub.pu hk)) hl hn) ?_
  rintro v h1 ⟨g1, o1⟩
  have k1 := g1.ok kk
  have hlen := takenU_len s l ns l.length
  simp (disch := first|(simp only [Nat.reduceBEq,wE];done)|((repeat' (first|assumption|exact mAx _|refine mBx ?_ ?_|exact mCx (by assumption)|refine mDx ?_|refine mEx ?_ ?_ ?_|exact mFx|refine mGx ?_ ?_ ?_|exact mHx|exact mIx _|(simp only [wM,Nat.reduceAdd,Nat.reduceLT,Nat.reduceLeDiff];done)));done)|omega|decide) only [callT (f40 v (taken s l ns) (max 0 (3 * lv.getD l.length 0 - 5)) h1 k1 o1.ints (by unfold taken; omega) (by omega)), ↓wA,wB,wL,resOf,Nat.reduceBEq,Int.reduceBEq,Int.reduceBNe,Int.reduceLT,Int.reduceLE,Int.reduceAdd,Int.reduceSub,Int.reduceMul,Int.reduceToNat]
  exact ⟨_, rfl, rfl, GrownR.trans (by (repeat' (first|assumption|exact mAx _|refine mBx ?_ ?_|exact mCx (by assumption)|refine mDx ?_|refine mEx ?_ ?_ ?_|exact mFx|refine mGx ?_ ?_ ?_|exact mHx|exact mIx _|(simp only [wM,Nat.reduceAdd,Nat.reduceLT,Nat.reduceLeDiff];done)))) g1⟩

theorem leveled_bd (l : List Span) : ∀ i, ∀ x ∈ onl levR l i, 1 ≤ x ∧ x ≤ l.length + 3
  | 0, x, h => by simp [onl] at h
  | i + 1, x, h => by
    simp only [onl, List.mem_append, List.mem_singleton] at h
    rcases h with h | rfl
    · exact leveled_bd l i x h
    · have := levF_ge (sg l i) (l.take i) (onl levR l i) ((l.take i).length + 2) 1
      have h2 : (l.take i).length ≤ l.length := by simp; omega
      have h3 : levR (sg l i) (l.take i) (onl levR l i) = levF (sg l i) (l.take i) (onl levR l i) ((l.take i).length + 2) 1 := rfl
      omega

theorem f35 (a : AV) (l : List Span) (h : Hp) (hk : Hok h) (ha : Pairs h.blks a l) (hl : l.length ≤ 800) :
    ∃ v h', Evals Try.prog tab false (.func 35) [a] h (v, h') ∧ Grown h h' ∧ Own h.next h'.blks .i64 v (trotter l) := by
  refine evals_q c35 (fun v h' => Own h.next h'.blks .i64 v (trotter l)) rfl hk ?_ (fun v h1 g q => q.leave)
  simp only [sf35, initS_cons, initS_nil]
  simp (disch := first|(simp only [Nat.reduceBEq,wE];done)|((repeat' (first|assumption|exact mAx _|refine mBx ?_ ?_|exact mCx (by assumption)|refine mDx ?_|refine mEx ?_ ?_ ?_|exact mFx|refine mGx ?_ ?_ ?_|exact mHx|exact mIx _|(simp only [wM,Nat.reduceAdd,Nat.reduceLT,Nat.reduceLeDiff];done)));done)|omega|decide) only [↓wA,wB,wL,resOf,Nat.reduceBEq,Int.reduceBEq,Int.reduceBNe,Int.reduceLT,Int.reduceLE,Int.reduceAdd,Int.reduceSub,Int.reduceMul,Int.reduceToNat]
  refine callE (f34 a l h.en hk ha hl) ?_
  rintro v h1 ⟨g1, o1⟩
  have k1 := g1.ok hk
  simp (disch := first|(simp only [Nat.reduceBEq,wE];done)|((repeat' (first|assumption|exact mAx _|refine mBx ?_ ?_|exact mCx (by assumption)|refine mDx ?_|refine mEx ?_ ?_ ?_|exact mFx|refine mGx ?_ ?_ ?_|exact mHx|exact mIx _|(simp only [wM,Nat.reduceAdd,Nat.reduceLT,Nat.reduceLeDiff];done)));done)|omega|decide) only [sStore_v (Arr.cell o1.ints) k1, ↓wA,wB,wL,resOf,Nat.reduceBEq,Int.reduceBEq,Int.reduceBNe,Int.reduceLT,Int.reduceLE,Int.reduceAdd,Int.reduceSub,Int.reduceMul,Int.reduceToNat]
  have k2 : Hok (h1.pu [v]) := Hok.pu k1 (by simp only [refsOK_cons, refsOK_nil, Bool.and_true]; exact refOK_mono (Nat.le_succ _) (o1.ref k1))
  have hlen := onl_len levR l l.length
  refine callE (f38 a l 47 [.ptr h1.next 0] (troR (leveled l)) _ ?_ ?_ ?_ ?_) ?_
  · exact k2
  · exact (ha.sub (g1.of_en.sub hk)).sub (Sub.pu k1)
  · omega
  · intro h' b q i ns k' s' hi hb hq hns
    have hlt : (l.take i).length = i := by simp; omega
    have hli : i < (leveled l).length := by unfold leveled; omega
    have hm : (leveled l).getD i 0 ∈ leveled l := by simp [List.getD_eq_getElem?_getD, List.getElem?_eq_getElem hli]
    have hbd := leveled_bd l _ _ hm
    exact f47 (sg l i) b q v h1.next (l.take i) ns (leveled l) h' k' hb hq (by rw [hns, onl_len]; simp; omega) (by rw [hns, onl_len]; omega) (Box.top.sub s') ((o1.ints.sub (Sub.pu k1)).sub s') (by omega) (by rw [hlt]; omega)
  · rintro w h2 ⟨g2, o2⟩
    simp (disch := first|(simp only [Nat.reduceBEq,wE];done)|((repeat' (first|assumption|exact mAx _|refine mBx ?_ ?_|exact mCx (by assumption)|refine mDx ?_|refine mEx ?_ ?_ ?_|exact mFx|refine mGx ?_ ?_ ?_|exact mHx|exact mIx _|(simp only [wM,Nat.reduceAdd,Nat.reduceLT,Nat.reduceLeDiff];done)));done)|omega|decide) only [↓wA,wB,wL,resOf,Nat.reduceBEq,Int.reduceBEq,Int.reduceBNe,Int.reduceLT,Int.reduceLE,Int.reduceAdd,Int.reduceSub,Int.reduceMul,Int.reduceToNat]
    exact ⟨_, rfl, GrownR.trans (Grown.pu (h := h1) (cs := [v]) g1.of_en (by simp only [refsOK_cons, refsOK_nil, Bool.and_true]; exact refOK_mono (Nat.le_succ _) (o1.ref k1))) (g2.base rfl rfl rfl), o2.le (Nat.le_succ_of_le g1.next)⟩

end Go.Proofs.Ytgpdimkgfhgffaa

