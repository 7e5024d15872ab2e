/- Sorting in place: stable sorting of at most 40 numbers. -/
import Derived.Test.YtgpdimkgfhgffaaS21
set_option linter.unusedSimpArgs false
set_option linter.unusedVariables false
set_option maxHeartbeats 4000000
set_option maxRecDepth 20000

namespace Go.Sh

/-- What is known of a part that was sorted by itself. -/
def BK (K : Int → Int) (zs cur : List Int) (a b : Nat) : Prop := Srt K cur a b ∧ ∀ i, a ≤ i → i < b → ∃ k, a ≤ k ∧ k < b ∧ gz cur i = gz zs k
theorem BK.congr {K : Int → Int} {zs cur cur' : List Int} {a b : Nat} (B : BK K zs cur a b) (h : ∀ i, a ≤ i → i < b → gz cur' i = gz cur i) : BK K zs cur' a b :=
  ⟨B.1.congr h, fun i h1 h2 => by rw [h i h1 h2]; exact B.2 i h1 h2⟩
theorem BK.of {K : Int → Int} {zs cur cur' : List Int} {a b : Nat} (h : ∀ i, a ≤ i → gz cur i = gz zs i) (S : Shuf a b cur cur') (T : Srt K cur' a b) : BK K zs cur' a b :=
  ⟨T, fun i h1 h2 => by
    obtain ⟨k, k1, k2, e⟩ := S.mem i h1 h2
    exact ⟨k, k1, k2, by rw [e, h k k1]⟩⟩
/-- Before the merge. -/
structure FP (K : Int → Int) (zs cur : List Int) (n : Nat) : Prop where
  shuf : Shuf 0 n zs cur
  few : n ≤ 20 → Srt K cur 0 n
  many : 20 < n → Srt K cur 0 20 ∧ Srt K cur 20 n ∧ ∀ x y, 0 ≤ x → x < 20 → 20 ≤ y → y < n → gz cur x < gz cur y
theorem FP.of {K : Int → Int} {zs cur cur' : List Int} {n t : Nat} (hn : n = zs.length) (hi : Inc zs 0 n) (h40 : n ≤ 40) (ht : 20 * t ≤ n ∧ n < 20 * t + 20 ∨ t = 2 ∧ n = 40) (hl : cur.length = zs.length) (ho : ∀ y, 20 * t ≤ y → gz cur y = gz zs y)
    (b0 : 0 < t → BK K zs cur 0 20) (b1 : 1 < t → BK K zs cur 20 40) (S : Shuf (20 * t) n cur cur') (T : Srt K cur' (20 * t) n) : FP K zs cur' n := by
  have hl' : cur'.length = zs.length := S.len.trans hl
  have out : ∀ y, n ≤ y → gz cur' y = gz zs y := fun y hy => by rw [S.out y (.inr hy), ho y (by omega)]
  have last : BK K zs cur' (20 * t) n := BK.of ho S T
  by_cases t0 : t = 0
  · subst t0
    have l' : BK K zs cur' 0 n := last
    exact ⟨⟨hl', fun y hy => out y (by omega), fun i h1 h2 => l'.2 i h1 h2⟩, fun _ => l'.1, fun h => by omega⟩
  have c0 : BK K zs cur' 0 20 := (b0 (by omega)).congr fun i _ h2 => S.out i (.inl (by omega))
  by_cases t1 : t = 1
  · subst t1
    have l' : BK K zs cur' 20 n := last
    refine ⟨⟨hl', fun y hy => out y (by omega), fun i h1 h2 => ?_⟩, fun h => ?_, fun h => ⟨c0.1, l'.1, fun x y _ h2 h3 h4 => ?_⟩⟩
    · by_cases e : i < 20
      · obtain ⟨k, k1, k2, ek⟩ := c0.2 i h1 e
        exact ⟨k, k1, by omega, ek⟩
      · obtain ⟨k, k1, k2, ek⟩ := l'.2 i (by omega) h2
        exact ⟨k, by omega, k2, ek⟩
    · have : n = 20 := by omega
      rw [this]
      exact c0.1
    · obtain ⟨k, k1, k2, ek⟩ := c0.2 x (by omega) h2
      obtain ⟨j, j1, j2, ej⟩ := l'.2 y h3 h4
      rw [ek, ej]
      exact hi k j (by omega) (by omega) j2
  · have t2 : t = 2 := by omega
    subst t2
    have hn40 : n = 40 := by omega
    subst hn40
    have c1 : BK K zs cur' 20 40 := (b1 (by omega)).congr fun i _ h2 => S.out i (.inl (by omega))
    refine ⟨⟨hl', fun y hy => out y (by omega), fun i h1 h2 => ?_⟩, fun h => by omega, fun h => ⟨c0.1, c1.1, fun x y _ h2 h3 h4 => ?_⟩⟩
    · by_cases e : i < 20
      · obtain ⟨k, k1, k2, ek⟩ := c0.2 i h1 e
        exact ⟨k, k1, by omega, ek⟩
      · obtain ⟨k, k1, k2, ek⟩ := c1.2 i (by omega) h2
        exact ⟨k, by omega, k2, ek⟩
    · obtain ⟨k, k1, k2, ek⟩ := c0.2 x (by omega) h2
      obtain ⟨j, j1, j2, ej⟩ := c1.2 y h3 h4
      rw [ek, ej]
      exact hi k j (by omega) (by omega) j2

end Go.Sh


namespace Go.Proofs.Ytgpdimkgfhgffaa

open Go Go.Abs Go.Sh

theorem f41 (s : AV) (g0 n : Nat) (cs : List AV) (K : Int → Int) (N : Int) (zs : List Int) (h0 h : Hp) (ho : Hok h0) (g : Grown h0 h) (O : Own h0.next h.blks .i64 s zs) (hn : n = zs.length) (h40 : n ≤ 40)
    (hc : CmpOK h0 N g0 cs K) (hz : Rng N zs) (hi : Inc zs 0 n) :
    ∃ v h', Evals Try.prog tab false (.func 41) [s, .int .i64 n, .fn (.func g0) [] cs] h (v, h') ∧ (v = .tu [] ∧ Mut h h' ∧ Grown h0 h' ∧ ∃ zs', Own h0.next h'.blks .i64 s zs' ∧ Shuf 0 n zs zs' ∧ Srt K zs' 0 n) := by
  refine evals_mut c41 (fun bs => ∃ zs', Own h0.next bs .i64 s zs' ∧ Shuf 0 n zs zs' ∧ Srt K zs' 0 n) rfl ?_
  simp only [sf41, initS_cons, initS_nil]
  refine wcut (fun ss => ∃ (u7 u8 u9 u13 u30 u35 u54 : AV), (n = zs.length) ∧ ss = { fr := [(0, s), (1, .int .i64 n), (2, .fn (.func g0) [] cs), (6, .int .i64 20), (7, u7), (8, u8), (9, u9), (13, u13), (30, u30), (35, u35), (54, u54)], hp := h.en }) ?_ ?_
  · simp (disch := first|(simp only [Nat.reduceBEq,wE];done)|((repeat' (first|assumption|exact mAx _|refine mBx ?_ ?_|exact mCx (by assumption)|refine mDx ?_|refine mEx ?_ ?_ ?_|exact mFx|refine mGx ?_ ?_ ?_|exact mHx|exact mIx _|(simp only [wM,Nat.reduceAdd,Nat.reduceLT,Nat.reduceLeDiff];done)));done)|omega|decide) only [↓wA,wB,wL,resOf,Nat.reduceBEq,Int.reduceBEq,Int.reduceBNe,Int.reduceLT,Int.reduceLE,Int.reduceAdd,Int.reduceSub,Int.reduceMul,Int.reduceToNat]
    exact ⟨_, _, _, _, _, _, _, hn, rfl⟩
  rintro sY1 ⟨u7, u8, u9, u13, u30, u35, u54, _, rfl⟩
  refine wcut (fun ss => ∃ (u9 u13 u30 u35 u54 : AV), (n = zs.length) ∧ ss = { fr := [(0, s), (1, .int .i64 n), (2, .fn (.func g0) [] cs), (6, .int .i64 20), (7, .int .i64 0), (8, .int .i64 20), (9, u9), (13, u13), (30, u30), (35, u35), (54, u54)], hp := h.en }) ?_ ?_
  · simp (disch := first|(simp only [Nat.reduceBEq,wE];done)|((repeat' (first|assumption|exact mAx _|refine mBx ?_ ?_|exact mCx (by assumption)|refine mDx ?_|refine mEx ?_ ?_ ?_|exact mFx|refine mGx ?_ ?_ ?_|exact mHx|exact mIx _|(simp only [wM,Nat.reduceAdd,Nat.reduceLT,Nat.reduceLeDiff];done)));done)|omega|decide) only [↓wA,wB,wL,resOf,Nat.reduceBEq,Int.reduceBEq,Int.reduceBNe,Int.reduceLT,Int.reduceLE,Int.reduceAdd,Int.reduceSub,Int.reduceMul,Int.reduceToNat]
    exact ⟨_, _, _, _, _, hn, rfl⟩
  rintro sY2 ⟨u9, u13, u30, u35, u54, _, rfl⟩
  refine wcut (fun ss => ∃ (cur : List Int) (t : Nat) (h1 : Hp) (u8 u9 u13 u30 u35 u54 : AV), ((20 * t ≤ n ∧ n < 20 * t + 20 ∨ t = 2 ∧ n = 40) ∧ Mut h h1 ∧ Grown h0 h1 ∧ Own h0.next h1.blks .i64 s cur ∧ cur.length = zs.length ∧ (∀ y, 20 * t ≤ y → gz cur y = gz zs y) ∧ (0 < t → BK K zs cur 0 20) ∧ (1 < t → BK K zs cur 20 40)) ∧ ss = { fr := [(0, s), (1, .int .i64 n), (2, .fn (.func g0) [] cs), (6, .int .i64 20), (7, .int .i64 (20 * t : Nat)), (8, u8), (9, u9), (13, u13), (30, u30), (35, u35), (54, u54)], hp := h1 }) ?_ ?_
  · simp (disch := first|(simp only [Nat.reduceBEq,wE];done)|((repeat' (first|assumption|exact mAx _|refine mBx ?_ ?_|exact mCx (by assumption)|refine mDx ?_|refine mEx ?_ ?_ ?_|exact mFx|refine mGx ?_ ?_ ?_|exact mHx|exact mIx _|(simp only [wM,Nat.reduceAdd,Nat.reduceLT,Nat.reduceLeDiff];done)));done)|omega|decide) only [↓wA,wB,wL,resOf,Nat.reduceBEq,Int.reduceBEq,Int.reduceBNe,Int.reduceLT,Int.reduceLE,Int.reduceAdd,Int.reduceSub,Int.reduceMul,Int.reduceToNat]
    refine wloop (fun mm ss => ∃ (cur : List Int) (t : Nat) (h1 : Hp) (u9 u13 u30 u35 u54 : AV), (mm = 3 - t) ∧ (20 * t ≤ n ∧ Mut h h1 ∧ Grown h0 h1 ∧ Own h0.next h1.blks .i64 s cur ∧ cur.length = zs.length ∧ (∀ y, 20 * t ≤ y → gz cur y = gz zs y) ∧ (0 < t → BK K zs cur 0 20) ∧ (1 < t → BK K zs cur 20 40)) ∧ ss = { fr := [(0, s), (1, .int .i64 n), (2, .fn (.func g0) [] cs), (6, .int .i64 20), (7, .int .i64 (20 * t : Nat)), (8, .int .i64 (20 * t + 20 : Nat)), (9, u9), (13, u13), (30, u30), (35, u35), (54, u54)], hp := h1 }) (3) ?_ ?_
    ·
      refine ⟨zs, 0, h.en, _, _, _, _, _, rfl, ⟨by omega, Mut.en h, g, O, rfl, fun y _ => rfl, fun h => by omega, fun h => by omega⟩, rfl⟩
    rintro nA sA ⟨cur, t, h1, u9, u13, u30, u35, u54, hnA, ⟨q0, m1, g1, o1, l1, r1, b0, b1⟩, rfl⟩
    simp (disch := first|(simp only [Nat.reduceBEq,wE];done)|((repeat' (first|assumption|exact mAx _|refine mBx ?_ ?_|exact mCx (by assumption)|refine mDx ?_|refine mEx ?_ ?_ ?_|exact mFx|refine mGx ?_ ?_ ?_|exact mHx|exact mIx _|(simp only [wM,Nat.reduceAdd,Nat.reduceLT,Nat.reduceLeDiff];done)));done)|omega|decide) only [↓wA,wB,wL,resOf,Nat.reduceBEq,Int.reduceBEq,Int.reduceBNe,Int.reduceLT,Int.reduceLE,Int.reduceAdd,Int.reduceSub,Int.reduceMul,Int.reduceToNat]
    refine ifThen_intro (fun e => ?_) (fun e => ?_) <;> have eq := e <;> try simp [-List.getD_eq_getElem?_getD] at eq
    · have hz1 : Rng N cur := fun i hi' => by
        by_cases e1 : 20 * t ≤ i
        · rw [r1 i e1]; exact hz i (by omega)
        · by_cases e2 : i < 20
          · obtain ⟨k, _, k2, ek⟩ := (b0 (by omega)).2 i (by omega) e2
            rw [ek]; exact hz k (by omega)
          · obtain ⟨k, _, k2, ek⟩ := (b1 (by omega)).2 i (by omega) (by omega)
            rw [ek]; exact hz k (by omega)
      have hi1 : Inc cur (20 * t) (20 * t + 20) := fun x y h1 h2 h3 => by
        rw [r1 x h1, r1 y (by omega)]
        exact hi x y (by omega) h2 (by omega)
      simp (disch := first|(simp only [Nat.reduceBEq,wE];done)|((repeat' (first|assumption|exact mAx _|refine mBx ?_ ?_|exact mCx (by assumption)|refine mDx ?_|refine mEx ?_ ?_ ?_|exact mFx|refine mGx ?_ ?_ ?_|exact mHx|exact mIx _|(simp only [wM,Nat.reduceAdd,Nat.reduceLT,Nat.reduceLeDiff];done)));done)|omega|decide) only [e, ↓wA,wB,wL,resOf,Nat.reduceBEq,Int.reduceBEq,Int.reduceBNe,Int.reduceLT,Int.reduceLE,Int.reduceAdd,Int.reduceSub,Int.reduceMul,Int.reduceToNat]
      refine callE (f48 s (20 * t) (20 * t + 20) g0 cs K N cur h0 h1 ho g1 o1 (by omega) ⟨by omega, by omega⟩ hc hz1 hi1) ?_
      rintro v h2 ⟨rfl, m2, g2, cur2, o2, S2, T2⟩
      have nb : BK K zs cur2 (20 * t) (20 * t + 20) := BK.of r1 S2 T2
      have i1 : ((20 * t + 20 : Nat) : Int) + 20 = ((20 * (t + 1) + 20 : Nat) : Int) := by omega
      simp (disch := first|(simp only [Nat.reduceBEq,wE];done)|((repeat' (first|assumption|exact mAx _|refine mBx ?_ ?_|exact mCx (by assumption)|refine mDx ?_|refine mEx ?_ ?_ ?_|exact mFx|refine mGx ?_ ?_ ?_|exact mHx|exact mIx _|(simp only [wM,Nat.reduceAdd,Nat.reduceLT,Nat.reduceLeDiff];done)));done)|omega|decide) only [e, i1, ↓wA,wB,wL,resOf,Nat.reduceBEq,Int.reduceBEq,Int.reduceBNe,Int.reduceLT,Int.reduceLE,Int.reduceAdd,Int.reduceSub,Int.reduceMul,Int.reduceToNat]
      refine ⟨_, ?_, cur2, t + 1, h2, _, _, _, _, _, rfl, ?_, rfl⟩
      · omega
      refine ⟨by omega, m1.trans m2, g2, o2, S2.len.trans l1, fun y hy => ?_, fun _ => ?_, fun _ => ?_⟩
      · rw [S2.out y (by omega), r1 y (by omega)]
      · by_cases t0 : t = 0
        · subst t0; exact nb
        · exact (b0 (by omega)).congr fun i _ h2 => S2.out i (.inl (by omega))
      · have t1 : t = 1 := by omega
        subst t1
        exact nb
    · simp (disch := first|(simp only [Nat.reduceBEq,wE];done)|((repeat' (first|assumption|exact mAx _|refine mBx ?_ ?_|exact mCx (by assumption)|refine mDx ?_|refine mEx ?_ ?_ ?_|exact mFx|refine mGx ?_ ?_ ?_|exact mHx|exact mIx _|(simp only [wM,Nat.reduceAdd,Nat.reduceLT,Nat.reduceLeDiff];done)));done)|omega|decide) only [e, ↓wA,wB,wL,resOf,Nat.reduceBEq,Int.reduceBEq,Int.reduceBNe,Int.reduceLT,Int.reduceLE,Int.reduceAdd,Int.reduceSub,Int.reduceMul,Int.reduceToNat]
      exact ⟨cur, t, h1, _, _, _, _, _, _, ⟨by omega, m1, g1, o1, l1, r1, b0, b1⟩, rfl⟩
  rintro sY3 ⟨cur, t, h1, u8, u9, u13, u30, u35, u54, ⟨q0, m1, g1, o1, l1, r1, b0, b1⟩, rfl⟩
  refine wcut (fun ss => ∃ (cur2 : List Int) (h2 : Hp) (u7 u8 u9 u13 u30 u35 u54 : AV), (Mut h h2 ∧ Grown h0 h2 ∧ Own h0.next h2.blks .i64 s cur2 ∧ FP K zs cur2 n) ∧ ss = { fr := [(0, s), (1, .int .i64 n), (2, .fn (.func g0) [] cs), (6, .int .i64 20), (7, u7), (8, u8), (9, u9), (13, u13), (30, u30), (35, u35), (54, u54)], hp := h2 }) ?_ ?_
  · have hz1 : Rng N cur := fun i hi' => by
      by_cases e1 : 20 * t ≤ i
      · rw [r1 i e1]; exact hz i (by omega)
      · by_cases e2 : i < 20
        · obtain ⟨k, _, k2, ek⟩ := (b0 (by omega)).2 i (by omega) e2
          rw [ek]; exact hz k (by omega)
        · obtain ⟨k, _, k2, ek⟩ := (b1 (by omega)).2 i (by omega) (by omega)
          rw [ek]; exact hz k (by omega)
    have hi1 : Inc cur (20 * t) n := fun x y h1 h2 h3 => by
      rw [r1 x h1, r1 y (by omega)]
      exact hi x y (by omega) h2 h3
    simp (disch := first|(simp only [Nat.reduceBEq,wE];done)|((repeat' (first|assumption|exact mAx _|refine mBx ?_ ?_|exact mCx (by assumption)|refine mDx ?_|refine mEx ?_ ?_ ?_|exact mFx|refine mGx ?_ ?_ ?_|exact mHx|exact mIx _|(simp only [wM,Nat.reduceAdd,Nat.reduceLT,Nat.reduceLeDiff];done)));done)|omega|decide) only [↓wA,wB,wL,resOf,Nat.reduceBEq,Int.reduceBEq,Int.reduceBNe,Int.reduceLT,Int.reduceLE,Int.reduceAdd,Int.reduceSub,Int.reduceMul,Int.reduceToNat]
    refine callE (f48 s (20 * t) n g0 cs K N cur h0 h1 ho g1 o1 (by omega) ⟨by omega, by omega⟩ hc hz1 hi1) ?_
    rintro v h2 ⟨rfl, m2, g2, cur2, o2, S2, T2⟩
    simp (disch := first|(simp only [Nat.reduceBEq,wE];done)|((repeat' (first|assumption|exact mAx _|refine mBx ?_ ?_|exact mCx (by assumption)|refine mDx ?_|refine mEx ?_ ?_ ?_|exact mFx|refine mGx ?_ ?_ ?_|exact mHx|exact mIx _|(simp only [wM,Nat.reduceAdd,Nat.reduceLT,Nat.reduceLeDiff];done)));done)|omega|decide) only [↓wA,wB,wL,resOf,Nat.reduceBEq,Int.reduceBEq,Int.reduceBNe,Int.reduceLT,Int.reduceLE,Int.reduceAdd,Int.reduceSub,Int.reduceMul,Int.reduceToNat]
    exact ⟨cur2, h2, _, _, _, _, _, _, _, ⟨m1.trans m2, g2, o2, FP.of hn hi h40 q0 l1 r1 b0 b1 S2 T2⟩, rfl⟩
  rintro sY4 ⟨cur2, h2, u7, u8, u9, u13, u30, u35, u54, ⟨m2, g2, o2, F⟩, rfl⟩
  have l2 := F.shuf.len
  have hz2 := hz.shuf F.shuf (by omega)
  have mrg : ∀ {zs'}, 20 < n → Shuf 0 n cur2 zs' → Srt K zs' 0 n → Shuf 0 n zs zs' ∧ Srt K zs' 0 n := fun _ S T => ⟨F.shuf.trans S, T⟩
  simp (disch := first|(simp only [Nat.reduceBEq,wE];done)|((repeat' (first|assumption|exact mAx _|refine mBx ?_ ?_|exact mCx (by assumption)|refine mDx ?_|refine mEx ?_ ?_ ?_|exact mFx|refine mGx ?_ ?_ ?_|exact mHx|exact mIx _|(simp only [wM,Nat.reduceAdd,Nat.reduceLT,Nat.reduceLeDiff];done)));done)|omega|decide) only [↓wA,wB,wL,resOf,Nat.reduceBEq,Int.reduceBEq,Int.reduceBNe,Int.reduceLT,Int.reduceLE,Int.reduceAdd,Int.reduceSub,Int.reduceMul,Int.reduceToNat]
  refine wloop (fun mm ss => ∃ (p bs : Nat) (cur : List Int) (h3 : Hp) (u7 u8 u9 u13 u30 u35 u54 : AV), (mm = 2 - p) ∧ (Mut h h3 ∧ Grown h0 h3 ∧ Own h0.next h3.blks .i64 s cur ∧ ((p = 0 ∧ bs = 20 ∧ cur = cur2 ∧ h3 = h2) ∨ (p = 1 ∧ bs = 40 ∧ Shuf 0 n zs cur ∧ Srt K cur 0 n))) ∧ ss = { fr := [(0, s), (1, .int .i64 n), (2, .fn (.func g0) [] cs), (6, .int .i64 bs), (7, u7), (8, u8), (9, u9), (13, u13), (30, u30), (35, u35), (54, u54)], hp := h3 }) (2) ?_ ?_
  ·
    refine ⟨0, 20, cur2, h2, _, _, _, _, _, _, _, rfl, ⟨m2, g2, o2, .inl ⟨rfl, rfl, rfl, rfl⟩⟩, rfl⟩
  rintro nA sA ⟨p, bs, cur, h3, u7, u8, u9, u13, u30, u35, u54, hnA, ⟨m3, g3, o3, ⟨rfl, rfl, ec, eh⟩ | ⟨rfl, rfl, S3, T3⟩⟩, rfl⟩
  · subst cur
    subst h3
    by_cases hn20 : 20 < n
    · obtain ⟨M1, M2, M3⟩ := F.many hn20
      have z20 : ((20 : Nat) : Int) = 20 := rfl
      have z40 : (2 : Int) * 20 = ((40 : Nat) : Int) := rfl
      simp (disch := first|(simp only [Nat.reduceBEq,wE];done)|((repeat' (first|assumption|exact mAx _|refine mBx ?_ ?_|exact mCx (by assumption)|refine mDx ?_|refine mEx ?_ ?_ ?_|exact mFx|refine mGx ?_ ?_ ?_|exact mHx|exact mIx _|(simp only [wM,Nat.reduceAdd,Nat.reduceLT,Nat.reduceLeDiff];done)));done)|omega|decide) only [z20, decide_eq_true (show (20 : Int) < (n : Int) by omega), z40, ↓wA,wB,wL,resOf,Nat.reduceBEq,Int.reduceBEq,Int.reduceBNe,Int.reduceLT,Int.reduceLE,Int.reduceAdd,Int.reduceSub,Int.reduceMul,Int.reduceToNat]
      refine wloop (fun mm ss => ∃ (q aa bb : Nat) (cur : List Int) (h4 : Hp) (u9 u13 u30 u35 u54 : AV), (mm = 2 - q) ∧ (Mut h h4 ∧ Grown h0 h4 ∧ Own h0.next h4.blks .i64 s cur ∧ ((q = 0 ∧ aa = 0 ∧ bb = 40 ∧ cur = cur2 ∧ h4 = h2) ∨ (q = 1 ∧ aa = 40 ∧ bb = 80 ∧ n = 40 ∧ Shuf 0 n zs cur ∧ Srt K cur 0 n))) ∧ ss = { fr := [(0, s), (1, .int .i64 n), (2, .fn (.func g0) [] cs), (6, .int .i64 20), (7, .int .i64 aa), (8, .int .i64 bb), (9, u9), (13, u13), (30, u30), (35, u35), (54, u54)], hp := h4 }) (2) ?_ ?_
      ·
        refine ⟨0, 0, 40, _, _, _, _, _, _, _, rfl, ⟨m3, g3, o3, .inl ⟨rfl, rfl, rfl, rfl, rfl⟩⟩, rfl⟩
      rintro nB sB ⟨q, aa, bb, cur, h4, u9, u13, u30, u35, u54, hnB, ⟨m4, g4, o4, ⟨rfl, rfl, rfl, ec4, eh4⟩ | ⟨rfl, rfl, rfl, n40, S4, T4⟩⟩, rfl⟩
      · subst cur
        subst h4
        have za : ((0 : Nat) : Int) = 0 := rfl
        by_cases n40 : n = 40
        · have y1 : (0 : Int) + 20 = ((20 : Nat) : Int) := rfl
          simp (disch := first|(simp only [Nat.reduceBEq,wE];done)|((repeat' (first|assumption|exact mAx _|refine mBx ?_ ?_|exact mCx (by assumption)|refine mDx ?_|refine mEx ?_ ?_ ?_|exact mFx|refine mGx ?_ ?_ ?_|exact mHx|exact mIx _|(simp only [wM,Nat.reduceAdd,Nat.reduceLT,Nat.reduceLeDiff];done)));done)|omega|decide) only [decide_eq_true (show ((40 : Nat) : Int) ≤ (n : Int) by omega), decide_eq_true (show (40 : Int) ≤ (n : Int) by omega), za, y1, ↓wA,wB,wL,resOf,Nat.reduceBEq,Int.reduceBEq,Int.reduceBNe,Int.reduceLT,Int.reduceLE,Int.reduceAdd,Int.reduceSub,Int.reduceMul,Int.reduceToNat]
          refine callE (f49 s g0 cs K N h0 ho hc 40 0 20 40 _ _ (by omega) g4 o4 (by omega) (by omega) (by omega) (by omega) hz2 M1 (by rw [← n40]; exact M2) (fun x y a1 a2 a3 a4 => M3 x y a1 a2 a3 (by omega))) ?_
          rintro v h5 ⟨rfl, m5, g5, cur5, o5, S5, T5⟩
          rw [← n40] at S5 T5
          have y2 : ((40 : Nat) : Int) + 2 * 20 = ((80 : Nat) : Int) := rfl
          simp (disch := first|(simp only [Nat.reduceBEq,wE];done)|((repeat' (first|assumption|exact mAx _|refine mBx ?_ ?_|exact mCx (by assumption)|refine mDx ?_|refine mEx ?_ ?_ ?_|exact mFx|refine mGx ?_ ?_ ?_|exact mHx|exact mIx _|(simp only [wM,Nat.reduceAdd,Nat.reduceLT,Nat.reduceLeDiff];done)));done)|omega|decide) only [y2, ↓wA,wB,wL,resOf,Nat.reduceBEq,Int.reduceBEq,Int.reduceBNe,Int.reduceLT,Int.reduceLE,Int.reduceAdd,Int.reduceSub,Int.reduceMul,Int.reduceToNat]
          refine ⟨_, ?_, 1, 40, 80, cur5, h5, _, _, _, _, _, rfl, ?_, rfl⟩
          · omega
          exact ⟨m4.trans m5, g5, o5, .inr ⟨rfl, rfl, rfl, n40, mrg hn20 S5 T5⟩⟩
        · have y3 : ((20 : Nat) : Int) * 2 = ((40 : Nat) : Int) := rfl
          simp (disch := first|(simp only [Nat.reduceBEq,wE];done)|((repeat' (first|assumption|exact mAx _|refine mBx ?_ ?_|exact mCx (by assumption)|refine mDx ?_|refine mEx ?_ ?_ ?_|exact mFx|refine mGx ?_ ?_ ?_|exact mHx|exact mIx _|(simp only [wM,Nat.reduceAdd,Nat.reduceLT,Nat.reduceLeDiff];done)));done)|omega|decide) only [decide_eq_false (show ¬ ((40 : Nat) : Int) ≤ (n : Int) by omega), decide_eq_false (show ¬ (40 : Int) ≤ (n : Int) by omega), za, z20, decide_eq_true (show (20 : Int) < (n : Int) by omega), ↓wA,wB,wL,resOf,Nat.reduceBEq,Int.reduceBEq,Int.reduceBNe,Int.reduceLT,Int.reduceLE,Int.reduceAdd,Int.reduceSub,Int.reduceMul,Int.reduceToNat]
          refine callE (f49 s g0 cs K N h0 ho hc n 0 20 n _ _ (by omega) g4 o4 (by omega) (by omega) (by omega) (by omega) hz2 M1 M2 M3) ?_
          rintro v h5 ⟨rfl, m5, g5, cur5, o5, S5, T5⟩
          simp (disch := first|(simp only [Nat.reduceBEq,wE];done)|((repeat' (first|assumption|exact mAx _|refine mBx ?_ ?_|exact mCx (by assumption)|refine mDx ?_|refine mEx ?_ ?_ ?_|exact mFx|refine mGx ?_ ?_ ?_|exact mHx|exact mIx _|(simp only [wM,Nat.reduceAdd,Nat.reduceLT,Nat.reduceLeDiff];done)));done)|omega|decide) only [↓wA,wB,wL,resOf,Nat.reduceBEq,Int.reduceBEq,Int.reduceBNe,Int.reduceLT,Int.reduceLE,Int.reduceAdd,Int.reduceSub,Int.reduceMul,Int.reduceToNat]
          refine ⟨_, ?_, 1, 40, cur5, h5, _, _, _, _, _, _, _, rfl, ?_, rfl⟩
          · omega
          exact ⟨m4.trans m5, g5, o5, .inr ⟨rfl, rfl, mrg hn20 S5 T5⟩⟩
      · simp (disch := first|(simp only [Nat.reduceBEq,wE];done)|((repeat' (first|assumption|exact mAx _|refine mBx ?_ ?_|exact mCx (by assumption)|refine mDx ?_|refine mEx ?_ ?_ ?_|exact mFx|refine mGx ?_ ?_ ?_|exact mHx|exact mIx _|(simp only [wM,Nat.reduceAdd,Nat.reduceLT,Nat.reduceLeDiff];done)));done)|omega|decide) only [decide_eq_false (show ¬ ((80 : Nat) : Int) ≤ (n : Int) by omega), decide_eq_false (show ¬ (80 : Int) ≤ (n : Int) by omega), show ((40 : Nat) : Int) = 40 from rfl, decide_eq_false (show ¬ (60 : Int) < (n : Int) by omega), ↓wA,wB,wL,resOf,Nat.reduceBEq,Int.reduceBEq,Int.reduceBNe,Int.reduceLT,Int.reduceLE,Int.reduceAdd,Int.reduceSub,Int.reduceMul,Int.reduceToNat]
        refine ⟨_, ?_, 1, 40, cur, h4, _, _, _, _, _, _, _, rfl, ?_, rfl⟩
        · omega
        exact ⟨m4, g4, o4, .inr ⟨rfl, rfl, S4, T4⟩⟩
    · have z20 : ((20 : Nat) : Int) = 20 := rfl
      simp (disch := first|(simp only [Nat.reduceBEq,wE];done)|((repeat' (first|assumption|exact mAx _|refine mBx ?_ ?_|exact mCx (by assumption)|refine mDx ?_|refine mEx ?_ ?_ ?_|exact mFx|refine mGx ?_ ?_ ?_|exact mHx|exact mIx _|(simp only [wM,Nat.reduceAdd,Nat.reduceLT,Nat.reduceLeDiff];done)));done)|omega|decide) only [z20, decide_eq_false (show ¬ (20 : Int) < (n : Int) by omega), ↓wA,wB,wL,resOf,Nat.reduceBEq,Int.reduceBEq,Int.reduceBNe,Int.reduceLT,Int.reduceLE,Int.reduceAdd,Int.reduceSub,Int.reduceMul,Int.reduceToNat]
      exact ⟨_, rfl, rfl, m3, g3, _, o3, F.shuf, F.few (by omega)⟩
  · simp (disch := first|(simp only [Nat.reduceBEq,wE];done)|((repeat' (first|assumption|exact mAx _|refine mBx ?_ ?_|exact mCx (by assumption)|refine mDx ?_|refine mEx ?_ ?_ ?_|exact mFx|refine mGx ?_ ?_ ?_|exact mHx|exact mIx _|(simp only [wM,Nat.reduceAdd,Nat.reduceLT,Nat.reduceLeDiff];done)));done)|omega|decide) only [show ((40 : Nat) : Int) = 40 from rfl, decide_eq_false (show ¬ (40 : Int) < (n : Int) by omega), ↓wA,wB,wL,resOf,Nat.reduceBEq,Int.reduceBEq,Int.reduceBNe,Int.reduceLT,Int.reduceLE,Int.reduceAdd,Int.reduceSub,Int.reduceMul,Int.reduceToNat]
    exact ⟨_, rfl, rfl, m3, g3, cur, o3, S3, T3⟩

theorem f26 (s : AV) (g0 : Nat) (cs : List AV) (K : Int → Int) (N : Int) (zs : List Int) (h0 h : Hp) (ho : Hok h0) (g : Grown h0 h) (O : Own h0.next h.blks .i64 s zs) (h40 : zs.length ≤ 40)
    (hc : CmpOK h0 N g0 cs K) (hz : Rng N zs) (hi : Inc zs 0 zs.length) :
    ∃ v h', Evals Try.prog tab false (.func 26) [s, .fn (.func g0) [] cs] h (v, h') ∧ (v = .tu [] ∧ Mut h h' ∧ Grown h0 h' ∧ ∃ zs', Own h0.next h'.blks .i64 s zs' ∧ Shuf 0 zs.length zs zs' ∧ Srt K zs' 0 zs.length) := by
  refine evals_mut c26 (fun bs => ∃ zs', Own h0.next bs .i64 s zs' ∧ Shuf 0 zs.length zs zs' ∧ Srt K zs' 0 zs.length) rfl ?_
  simp only [sf26, initS_cons, initS_nil]
  simp (disch := first|(simp only [Nat.reduceBEq,wE];done)|((repeat' (first|assumption|exact mAx _|refine mBx ?_ ?_|exact mCx (by assumption)|refine mDx ?_|refine mEx ?_ ?_ ?_|exact mFx|refine mGx ?_ ?_ ?_|exact mHx|exact mIx _|(simp only [wM,Nat.reduceAdd,Nat.reduceLT,Nat.reduceLeDiff];done)));done)|omega|decide) only [O.ints.len, ↓wA,wB,wL,resOf,Nat.reduceBEq,Int.reduceBEq,Int.reduceBNe,Int.reduceLT,Int.reduceLE,Int.reduceAdd,Int.reduceSub,Int.reduceMul,Int.reduceToNat]
  refine callE (f41 s g0 zs.length cs K N zs h0 h.en ho g O rfl h40 hc hz hi) ?_
  rintro v h1 ⟨rfl, m1, g1, q1⟩
  simp (disch := first|(simp only [Nat.reduceBEq,wE];done)|((repeat' (first|assumption|exact mAx _|refine mBx ?_ ?_|exact mCx (by assumption)|refine mDx ?_|refine mEx ?_ ?_ ?_|exact mFx|refine mGx ?_ ?_ ?_|exact mHx|exact mIx _|(simp only [wM,Nat.reduceAdd,Nat.reduceLT,Nat.reduceLeDiff];done)));done)|omega|decide) only [↓wA,wB,wL,resOf,Nat.reduceBEq,Int.reduceBEq,Int.reduceBNe,Int.reduceLT,Int.reduceLE,Int.reduceAdd,Int.reduceSub,Int.reduceMul,Int.reduceToNat]
  exact ⟨_, rfl, rfl, (Mut.en h).trans m1, g1, q1⟩

theorem f42 (x : Int) (h : Hp) (hk : Hok h) : Evals Try.prog tab false (.func 42) [.int .i64 x] h (.bool false, h) := by
  refine evals_pure c42 rfl hk ?_
  simp only [sf42, initS_cons, initS_nil]
  simp (disch := first|(simp only [Nat.reduceBEq,wE];done)|((repeat' (first|assumption|exact mAx _|refine mBx ?_ ?_|exact mCx (by assumption)|refine mDx ?_|refine mEx ?_ ?_ ?_|exact mFx|refine mGx ?_ ?_ ?_|exact mHx|exact mIx _|(simp only [wM,Nat.reduceAdd,Nat.reduceLT,Nat.reduceLeDiff];done)));done)|omega|decide) only [↓wA,wB,wL,resOf,Nat.reduceBEq,Int.reduceBEq,Int.reduceBNe,Int.reduceLT,Int.reduceLE,Int.reduceAdd,Int.reduceSub,Int.reduceMul,Int.reduceToNat]
  exact ⟨_, rfl, rfl, by (repeat' (first|assumption|exact mAx _|refine mBx ?_ ?_|exact mCx (by assumption)|refine mDx ?_|refine mEx ?_ ?_ ?_|exact mFx|refine mGx ?_ ?_ ?_|exact mHx|exact mIx _|(simp only [wM,Nat.reduceAdd,Nat.reduceLT,Nat.reduceLeDiff];done)))⟩
theorem f28 (x y : Int) (h : Hp) (hk : Hok h) : Evals Try.prog tab false (.func 28) [.int .i64 x, .int .i64 y] h (.int .i64 (if x < y then -1 else if y < x then 1 else 0), h) := by
  refine evals_pure c28 rfl hk ?_
  simp only [sf28, initS_cons, initS_nil]
  simp (disch := first|(simp only [Nat.reduceBEq,wE];done)|((repeat' (first|assumption|exact mAx _|refine mBx ?_ ?_|exact mCx (by assumption)|refine mDx ?_|refine mEx ?_ ?_ ?_|exact mFx|refine mGx ?_ ?_ ?_|exact mHx|exact mIx _|(simp only [wM,Nat.reduceAdd,Nat.reduceLT,Nat.reduceLeDiff];done)));done)|omega|decide) only [callT (f42 _ _ _), ↓wA,wB,wL,resOf,Nat.reduceBEq,Int.reduceBEq,Int.reduceBNe,Int.reduceLT,Int.reduceLE,Int.reduceAdd,Int.reduceSub,Int.reduceMul,Int.reduceToNat]
  by_cases h1 : x < y
  · simp (disch := first|(simp only [Nat.reduceBEq,wE];done)|((repeat' (first|assumption|exact mAx _|refine mBx ?_ ?_|exact mCx (by assumption)|refine mDx ?_|refine mEx ?_ ?_ ?_|exact mFx|refine mGx ?_ ?_ ?_|exact mHx|exact mIx _|(simp only [wM,Nat.reduceAdd,Nat.reduceLT,Nat.reduceLeDiff];done)));done)|omega|decide) only [decide_eq_true h1, ↓wA,wB,wL,resOf,Nat.reduceBEq,Int.reduceBEq,Int.reduceBNe,Int.reduceLT,Int.reduceLE,Int.reduceAdd,Int.reduceSub,Int.reduceMul,Int.reduceToNat]
    exact ⟨_, rfl, by rw [if_pos h1], by (repeat' (first|assumption|exact mAx _|refine mBx ?_ ?_|exact mCx (by assumption)|refine mDx ?_|refine mEx ?_ ?_ ?_|exact mFx|refine mGx ?_ ?_ ?_|exact mHx|exact mIx _|(simp only [wM,Nat.reduceAdd,Nat.reduceLT,Nat.reduceLeDiff];done)))⟩
  · by_cases h2 : y < x
    · simp (disch := first|(simp only [Nat.reduceBEq,wE];done)|((repeat' (first|assumption|exact mAx _|refine mBx ?_ ?_|exact mCx (by assumption)|refine mDx ?_|refine mEx ?_ ?_ ?_|exact mFx|refine mGx ?_ ?_ ?_|exact mHx|exact mIx _|(simp only [wM,Nat.reduceAdd,Nat.reduceLT,Nat.reduceLeDiff];done)));done)|omega|decide) only [decide_eq_false h1, decide_eq_true h2, ↓wA,wB,wL,resOf,Nat.reduceBEq,Int.reduceBEq,Int.reduceBNe,Int.reduceLT,Int.reduceLE,Int.reduceAdd,Int.reduceSub,Int.reduceMul,Int.reduceToNat]
      exact ⟨_, rfl, by rw [if_neg h1, if_pos h2], by (repeat' (first|assumption|exact mAx _|refine mBx ?_ ?_|exact mCx (by assumption)|refine mDx ?_|refine mEx ?_ ?_ ?_|exact mFx|refine mGx ?_ ?_ ?_|exact mHx|exact mIx _|(simp only [wM,Nat.reduceAdd,Nat.reduceLT,Nat.reduceLeDiff];done)))⟩
    · simp (disch := first|(simp only [Nat.reduceBEq,wE];done)|((repeat' (first|assumption|exact mAx _|refine mBx ?_ ?_|exact mCx (by assumption)|refine mDx ?_|refine mEx ?_ ?_ ?_|exact mFx|refine mGx ?_ ?_ ?_|exact mHx|exact mIx _|(simp only [wM,Nat.reduceAdd,Nat.reduceLT,Nat.reduceLeDiff];done)));done)|omega|decide) only [decide_eq_false h1, decide_eq_false h2, ↓wA,wB,wL,resOf,Nat.reduceBEq,Int.reduceBEq,Int.reduceBNe,Int.reduceLT,Int.reduceLE,Int.reduceAdd,Int.reduceSub,Int.reduceMul,Int.reduceToNat]
      exact ⟨_, rfl, by rw [if_neg h1, if_neg h2], by (repeat' (first|assumption|exact mAx _|refine mBx ?_ ?_|exact mCx (by assumption)|refine mDx ?_|refine mEx ?_ ?_ ?_|exact mFx|refine mGx ?_ ?_ ?_|exact mHx|exact mIx _|(simp only [wM,Nat.reduceAdd,Nat.reduceLT,Nat.reduceLeDiff];done)))⟩
theorem f27 (i j : Int) (a : AV) (id : Nat) (l : List Span) (h : Hp) (hk : Hok h) (hb : Box h.blks id [a]) (ha : Pairs h.blks a l) (hi : 0 ≤ i ∧ i < l.length) (hj : 0 ≤ j ∧ j < l.length) :
    Evals Try.prog tab false (.func 27) [.int .i64 i, .int .i64 j, .ptr id 0] h (.int .i64 (if (sg l i.toNat).1 < (sg l j.toNat).1 then -1 else if (sg l j.toNat).1 < (sg l i.toNat).1 then 1 else 0), h) := by
  refine evals_pure c27 rfl hk ?_
  simp only [sf27, initS_cons, initS_nil]
  obtain ⟨x, rfl⟩ : ∃ x : Nat, i = x := ⟨i.toNat, by omega⟩
  obtain ⟨y, rfl⟩ : ∃ y : Nat, j = y := ⟨j.toNat, by omega⟩
  have hdx : l.getD x (0, 0) = sg l x := rfl
  have hdy : l.getD y (0, 0) = sg l y := rfl
  simp (disch := first|(simp only [Nat.reduceBEq,wE];done)|((repeat' (first|assumption|exact mAx _|refine mBx ?_ ?_|exact mCx (by assumption)|refine mDx ?_|refine mEx ?_ ?_ ?_|exact mFx|refine mGx ?_ ?_ ?_|exact mHx|exact mIx _|(simp only [wM,Nat.reduceAdd,Nat.reduceLT,Nat.reduceLeDiff];done)));done)|omega|decide) only [hb.ld, ha.ix, ha.fa, ha.ld0, hdx, hdy, callT (f28 _ _ _ _), ↓wA,wB,wL,resOf,Nat.reduceBEq,Int.reduceBEq,Int.reduceBNe,Int.reduceLT,Int.reduceLE,Int.reduceAdd,Int.reduceSub,Int.reduceMul,Int.reduceToNat]
  exact ⟨_, rfl, rfl, by (repeat' (first|assumption|exact mAx _|refine mBx ?_ ?_|exact mCx (by assumption)|refine mDx ?_|refine mEx ?_ ?_ ?_|exact mFx|refine mGx ?_ ?_ ?_|exact mHx|exact mIx _|(simp only [wM,Nat.reduceAdd,Nat.reduceLT,Nat.reduceLeDiff];done)))⟩

end Go.Proofs.Ytgpdimkgfhgffaa

