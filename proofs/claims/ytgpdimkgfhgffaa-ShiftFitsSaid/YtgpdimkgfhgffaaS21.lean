/- Sorting in place: symmetric merging. -/
import Derived.Test.YtgpdimkgfhgffaaS20
set_option linter.unusedSimpArgs false
set_option linter.unusedVariables false
set_option maxHeartbeats 4000000
set_option maxRecDepth 20000

namespace Go.Sh

theorem rotT_id {zs : List Int} {s m e y : Nat} (h : s ≤ m ∧ m ≤ e) (h2 : s = m ∨ e = m) : rotT zs s m e y = gz zs y := by
  unfold rotT
  split
  · rfl
  · split
    · congr 1; omega
    · congr 1; omega
theorem Srt.congr {K : Int → Int} {zs zs' : List Int} {a b : Nat} (T : Srt K zs a b) (h : ∀ i, a ≤ i → i < b → gz zs' i = gz zs i) : Srt K zs' a b := fun i j h1 h2 h3 => by
  rw [h i h1 (by omega), h j (by omega) h3]
  exact T i j h1 h2 h3

end Go.Sh


namespace Go.Proofs.Ytgpdimkgfhgffaa

open Go Go.Abs Go.Sh

/-- What the merge does with parts of at most w numbers. -/
def SymOK (s : AV) (g0 : Nat) (cs : List AV) (K : Int → Int) (N : Int) (h0 : Hp) (w : Nat) : Prop :=
    ∀ (a m b : Nat) (zs : List Int) (h : Hp), b - a ≤ w → Grown h0 h → Own h0.next h.blks .i64 s zs → zs.length ≤ 1000 → a < m → m < b → b ≤ zs.length → Rng N zs → Srt K zs a m → Srt K zs m b →
      (∀ x y, a ≤ x → x < m → m ≤ y → y < b → gz zs x < gz zs y) →
      ∃ v h', Evals Try.prog tab false (.func 49) [s, .int .i64 a, .int .i64 m, .int .i64 b, .fn (.func g0) [] cs] h (v, h') ∧ (v = .tu [] ∧ Mut h h' ∧ Grown h0 h' ∧ ∃ zs', Own h0.next h'.blks .i64 s zs' ∧ Shuf a b zs zs' ∧ Srt K zs' a b)

theorem sym_step (s : AV) (g0 : Nat) (cs : List AV) (K : Int → Int) (N : Int) (h0 : Hp) (ho : Hok h0) (hc : CmpOK h0 N g0 cs K) (w : Nat) (IH : SymOK s g0 cs K N h0 w) : SymOK s g0 cs K N h0 (w + 1) := by
  intro a m b zs h hw g O hl ham hmb hbl hz U V X
  refine evals_mut c49 (fun bs => ∃ zs', Own h0.next bs .i64 s zs' ∧ Shuf a b zs zs' ∧ Srt K zs' a b) rfl ?_
  simp only [sf49, initS_cons, initS_nil]
  have i1 : (m : Int) - (a : Int) = ((m - a : Nat) : Int) := by omega
  have i2 : (b : Int) - (m : Int) = ((b - m : Nat) : Int) := by omega
  have kk := g.ok ho
  have ss := g.sub ho
  refine wcut (fun ss => ∃ (u10 u11 u12 u13 u14 u15 u16 u17 u18 u19 u20 u21 u22 u23 u24 u28 u33 u50 u58 u80 u85 u103 u110 u140 u151 u171 u185 u199 u213 : AV), (m - a ≠ 1) ∧ ss = { fr := [(0, s), (1, .int .i64 a), (2, .int .i64 m), (3, .int .i64 b), (4, .fn (.func g0) [] cs), (10, u10), (11, u11), (12, u12), (13, u13), (14, u14), (15, u15), (16, u16), (17, u17), (18, u18), (19, u19), (20, u20), (21, u21), (22, u22), (23, u23), (24, u24), (28, u28), (33, u33), (50, u50), (58, u58), (80, u80), (85, u85), (103, u103), (110, u110), (140, u140), (151, u151), (171, u171), (185, u185), (199, u199), (213, u213)], hp := h.en }) ?_ ?_
  · by_cases hm1 : m - a = 1
    · simp (disch := first|(simp only [Nat.reduceBEq,wE];done)|((repeat' (first|assumption|exact mAx _|refine mBx ?_ ?_|exact mCx (by assumption)|refine mDx ?_|refine mEx ?_ ?_ ?_|exact mFx|refine mGx ?_ ?_ ?_|exact mHx|exact mIx _|(simp only [wM,Nat.reduceAdd,Nat.reduceLT,Nat.reduceLeDiff];done)));done)|omega|decide) only [i1, show (((m - a : Nat) : Int) == 1) = true by simp; omega, ↓wA,wB,wL,resOf,Nat.reduceBEq,Int.reduceBEq,Int.reduceBNe,Int.reduceLT,Int.reduceLE,Int.reduceAdd,Int.reduceSub,Int.reduceMul,Int.reduceToNat]
      refine wloop (fun mm ss => ∃ (i j : Nat) (u2 u3 u12 u13 u14 u15 u16 u17 u18 u19 u20 u21 u22 u23 u24 u28 u33 u50 u58 u80 u85 u103 u110 u140 u151 u171 u185 u199 u213 : AV), (mm = j - i) ∧ (m ≤ i ∧ i ≤ j ∧ j ≤ b ∧ (∀ x, a < x → x < i → Bef K (gz zs x) (gz zs a)) ∧ (∀ x, j ≤ x → x < b → Bef K (gz zs a) (gz zs x))) ∧ ss = { fr := [(0, s), (1, .int .i64 a), (2, u2), (3, u3), (4, .fn (.func g0) [] cs), (10, .int .i64 i), (11, .int .i64 j), (12, u12), (13, u13), (14, u14), (15, u15), (16, u16), (17, u17), (18, u18), (19, u19), (20, u20), (21, u21), (22, u22), (23, u23), (24, u24), (28, u28), (33, u33), (50, u50), (58, u58), (80, u80), (85, u85), (103, u103), (110, u110), (140, u140), (151, u151), (171, u171), (185, u185), (199, u199), (213, u213)], hp := h.en }) (b - m) ?_ ?_
      ·
        refine ⟨m, b, _, _, _, _, _, _, _, _, _, _, _, _, _, _, _, _, _, _, _, _, _, _, _, _, _, _, _, _, _, rfl, ⟨Nat.le_refl _, by omega, Nat.le_refl _, fun x h1 h2 => by omega, fun x h1 h2 => by omega⟩, rfl⟩
      rintro nA sA ⟨i, j, u2, u3, u12, u13, u14, u15, u16, u17, u18, u19, u20, u21, u22, u23, u24, u28, u33, u50, u58, u80, u85, u103, u110, u140, u151, u171, u185, u199, u213, hnA, ⟨q1, q2, q3, q4, q5⟩, rfl⟩
      simp (disch := first|(simp only [Nat.reduceBEq,wE];done)|((repeat' (first|assumption|exact mAx _|refine mBx ?_ ?_|exact mCx (by assumption)|refine mDx ?_|refine mEx ?_ ?_ ?_|exact mFx|refine mGx ?_ ?_ ?_|exact mHx|exact mIx _|(simp only [wM,Nat.reduceAdd,Nat.reduceLT,Nat.reduceLeDiff];done)));done)|omega|decide) only [↓wA,wB,wL,resOf,Nat.reduceBEq,Int.reduceBEq,Int.reduceBNe,Int.reduceLT,Int.reduceLE,Int.reduceAdd,Int.reduceSub,Int.reduceMul,Int.reduceToNat]
      refine ifThen_intro (fun e => ?_) (fun e => ?_) <;> have eq := e <;> try simp [-List.getD_eq_getElem?_getD] at eq
      · obtain ⟨t, ht1, ht2, ht⟩ : ∃ t : Nat, i ≤ t ∧ t < j ∧ ((i : Int) + (j : Int)) / 2 = (t : Int) := ⟨(i + j) / 2, by omega, by omega, by omega⟩
        obtain ⟨c, ec, hcd⟩ := hc h.en (gz zs t) (gz zs a) kk ss (hz t (by omega)) (hz a (by omega))
        by_cases hK : K (gz zs t) < K (gz zs a)
        · simp (disch := first|(simp only [Nat.reduceBEq,wE];done)|((repeat' (first|assumption|exact mAx _|refine mBx ?_ ?_|exact mCx (by assumption)|refine mDx ?_|refine mEx ?_ ?_ ?_|exact mFx|refine mGx ?_ ?_ ?_|exact mHx|exact mIx _|(simp only [wM,Nat.reduceAdd,Nat.reduceLT,Nat.reduceLeDiff];done)));done)|omega|decide) only [e, ht, O.ints.ix, O.ints.ld, callC ec, hcd, decide_eq_true hK, ↓wA,wB,wL,resOf,Nat.reduceBEq,Int.reduceBEq,Int.reduceBNe,Int.reduceLT,Int.reduceLE,Int.reduceAdd,Int.reduceSub,Int.reduceMul,Int.reduceToNat]
          refine ⟨_, ?_, t + 1, j, _, _, _, _, _, _, _, _, _, _, _, _, _, _, _, _, _, _, _, _, _, _, _, _, _, _, _, _, _, rfl, ?_, rfl⟩
          · omega
          refine ⟨by omega, by omega, q3, fun x h1 h2 => ?_, q5⟩
          by_cases ex : x = t
          · rw [ex]; exact .inl hK
          · exact (V x t (by omega) (by omega) (by omega)).trans (.inl hK)
        · simp (disch := first|(simp only [Nat.reduceBEq,wE];done)|((repeat' (first|assumption|exact mAx _|refine mBx ?_ ?_|exact mCx (by assumption)|refine mDx ?_|refine mEx ?_ ?_ ?_|exact mFx|refine mGx ?_ ?_ ?_|exact mHx|exact mIx _|(simp only [wM,Nat.reduceAdd,Nat.reduceLT,Nat.reduceLeDiff];done)));done)|omega|decide) only [e, ht, O.ints.ix, O.ints.ld, callC ec, hcd, decide_eq_false hK, ↓wA,wB,wL,resOf,Nat.reduceBEq,Int.reduceBEq,Int.reduceBNe,Int.reduceLT,Int.reduceLE,Int.reduceAdd,Int.reduceSub,Int.reduceMul,Int.reduceToNat]
          refine ⟨_, ?_, i, t, _, _, _, _, _, _, _, _, _, _, _, _, _, _, _, _, _, _, _, _, _, _, _, _, _, _, _, _, _, rfl, ?_, rfl⟩
          · omega
          refine ⟨q1, by omega, by omega, q4, fun x h1 h2 => ?_⟩
          have hb := (bef_ge (X a t (Nat.le_refl _) ham (by omega) (by omega))).1 hK
          by_cases ex : x = t
          · rw [ex]; exact hb
          · exact hb.trans (V t x (by omega) (by omega) h2)
      · have hij : j = i := by omega
        rw [hij] at q5
        simp (disch := first|(simp only [Nat.reduceBEq,wE];done)|((repeat' (first|assumption|exact mAx _|refine mBx ?_ ?_|exact mCx (by assumption)|refine mDx ?_|refine mEx ?_ ?_ ?_|exact mFx|refine mGx ?_ ?_ ?_|exact mHx|exact mIx _|(simp only [wM,Nat.reduceAdd,Nat.reduceLT,Nat.reduceLeDiff];done)));done)|omega|decide) only [e, ↓wA,wB,wL,resOf,Nat.reduceBEq,Int.reduceBEq,Int.reduceBNe,Int.reduceLT,Int.reduceLE,Int.reduceAdd,Int.reduceSub,Int.reduceMul,Int.reduceToNat]
        refine wloop (fun mm ss => ∃ (cur : List Int) (k : Nat) (h3 : Hp) (u1 u2 u3 u4 u11 u12 u14 u15 u16 u17 u18 u19 u20 u21 u22 u23 u24 u28 u33 u50 u58 u80 u85 u103 u110 u140 u151 u171 u185 u199 u213 : AV), (mm = i - 1 - k) ∧ (a ≤ k ∧ k ≤ i - 1 ∧ Mut h h3 ∧ Grown h0 h3 ∧ Own h0.next h3.blks .i64 s cur ∧ cur.length = zs.length ∧ (∀ y, gz cur y = upT zs a k y)) ∧ ss = { fr := [(0, s), (1, u1), (2, u2), (3, u3), (4, u4), (10, .int .i64 i), (11, u11), (12, u12), (13, .int .i64 k), (14, u14), (15, u15), (16, u16), (17, u17), (18, u18), (19, u19), (20, u20), (21, u21), (22, u22), (23, u23), (24, u24), (28, u28), (33, u33), (50, u50), (58, u58), (80, u80), (85, u85), (103, u103), (110, u110), (140, u140), (151, u151), (171, u171), (185, u185), (199, u199), (213, u213)], hp := h3 }) (i - 1 - a) ?_ ?_
        ·
          refine ⟨zs, a, h.en, _, _, _, _, _, _, _, _, _, _, _, _, _, _, _, _, _, _, _, _, _, _, _, _, _, _, _, _, _, _, _, rfl, ⟨Nat.le_refl _, by omega, Mut.en h, g, O, rfl, fun y => by { unfold upT; rw [if_neg (by omega)]; split <;> simp [*] }⟩, rfl⟩
        rintro nB sB ⟨cur, k, h3, u1, u2, u3, u4, u11, u12, u14, u15, u16, u17, u18, u19, u20, u21, u22, u23, u24, u28, u33, u50, u58, u80, u85, u103, u110, u140, u151, u171, u185, u199, u213, hnB, ⟨r1, r2, m3, g3, o3, hl3, hu⟩, rfl⟩
        have i3 : (i : Int) - 1 = ((i - 1 : Nat) : Int) := by omega
        simp (disch := first|(simp only [Nat.reduceBEq,wE];done)|((repeat' (first|assumption|exact mAx _|refine mBx ?_ ?_|exact mCx (by assumption)|refine mDx ?_|refine mEx ?_ ?_ ?_|exact mFx|refine mGx ?_ ?_ ?_|exact mHx|exact mIx _|(simp only [wM,Nat.reduceAdd,Nat.reduceLT,Nat.reduceLeDiff];done)));done)|omega|decide) only [e, i3, ↓wA,wB,wL,resOf,Nat.reduceBEq,Int.reduceBEq,Int.reduceBNe,Int.reduceLT,Int.reduceLE,Int.reduceAdd,Int.reduceSub,Int.reduceMul,Int.reduceToNat]
        refine ifThen_intro (fun e2 => ?_) (fun e2 => ?_) <;> have e2q := e2 <;> try simp [-List.getD_eq_getElem?_getD] at e2q
        · obtain ⟨h5, h6, e5, e6, o6, g6, m6⟩ := own_sw (i := k) (j := k + 1) ho g3 o3 (by omega) (by omega)
          have i4 : (k : Int) + 1 = ((k + 1 : Nat) : Int) := by omega
          simp (disch := first|(simp only [Nat.reduceBEq,wE];done)|((repeat' (first|assumption|exact mAx _|refine mBx ?_ ?_|exact mCx (by assumption)|refine mDx ?_|refine mEx ?_ ?_ ?_|exact mFx|refine mGx ?_ ?_ ?_|exact mHx|exact mIx _|(simp only [wM,Nat.reduceAdd,Nat.reduceLT,Nat.reduceLeDiff];done)));done)|omega|decide) only [e, e2, i4, o3.ints.ix, o3.ints.ld, e5, e6, ↓wA,wB,wL,resOf,Nat.reduceBEq,Int.reduceBEq,Int.reduceBNe,Int.reduceLT,Int.reduceLE,Int.reduceAdd,Int.reduceSub,Int.reduceMul,Int.reduceToNat]
          refine ⟨_, ?_, sw cur k (k + 1), k + 1, h6, _, _, _, _, _, _, _, _, _, _, _, _, _, _, _, _, _, _, _, _, _, _, _, _, _, _, _, _, _, _, _, rfl, ?_, rfl⟩
          · omega
          exact ⟨by omega, by omega, m3.trans m6, g6, o6, by rw [sw_len]; exact hl3, up_step r1 (by omega) hl3 hu⟩
        · have hki : k = i - 1 := by omega
          rw [hki] at hu
          have hma : m = a + 1 := by omega
          obtain ⟨S, T⟩ := one_left (K := K) hbl ⟨by omega, by omega⟩ hl3 (by rw [← hma]; exact V) q4 q5 hu
          simp (disch := first|(simp only [Nat.reduceBEq,wE];done)|((repeat' (first|assumption|exact mAx _|refine mBx ?_ ?_|exact mCx (by assumption)|refine mDx ?_|refine mEx ?_ ?_ ?_|exact mFx|refine mGx ?_ ?_ ?_|exact mHx|exact mIx _|(simp only [wM,Nat.reduceAdd,Nat.reduceLT,Nat.reduceLeDiff];done)));done)|omega|decide) only [e, e2, ↓wA,wB,wL,resOf,Nat.reduceBEq,Int.reduceBEq,Int.reduceBNe,Int.reduceLT,Int.reduceLE,Int.reduceAdd,Int.reduceSub,Int.reduceMul,Int.reduceToNat]
          exact ⟨_, rfl, rfl, m3, g3, cur, o3, S, T⟩
    · simp (disch := first|(simp only [Nat.reduceBEq,wE];done)|((repeat' (first|assumption|exact mAx _|refine mBx ?_ ?_|exact mCx (by assumption)|refine mDx ?_|refine mEx ?_ ?_ ?_|exact mFx|refine mGx ?_ ?_ ?_|exact mHx|exact mIx _|(simp only [wM,Nat.reduceAdd,Nat.reduceLT,Nat.reduceLeDiff];done)));done)|omega|decide) only [i1, show (((m - a : Nat) : Int) == 1) = false by simp; omega, ↓wA,wB,wL,resOf,Nat.reduceBEq,Int.reduceBEq,Int.reduceBNe,Int.reduceLT,Int.reduceLE,Int.reduceAdd,Int.reduceSub,Int.reduceMul,Int.reduceToNat]
      exact ⟨_, _, _, _, _, _, _, _, _, _, _, _, _, _, _, _, _, _, _, _, _, _, _, _, _, _, _, _, _, hm1, rfl⟩
  rintro sX1 ⟨u10, u11, u12, u13, u14, u15, u16, u17, u18, u19, u20, u21, u22, u23, u24, u28, u33, u50, u58, u80, u85, u103, u110, u140, u151, u171, u185, u199, u213, hma, rfl⟩
  refine wcut (fun ss => ∃ (u10 u11 u12 u13 u14 u15 u16 u17 u18 u19 u20 u21 u22 u23 u24 u28 u33 u50 u58 u80 u85 u103 u110 u140 u151 u171 u185 u199 u213 : AV), (b - m ≠ 1) ∧ ss = { fr := [(0, s), (1, .int .i64 a), (2, .int .i64 m), (3, .int .i64 b), (4, .fn (.func g0) [] cs), (10, u10), (11, u11), (12, u12), (13, u13), (14, u14), (15, u15), (16, u16), (17, u17), (18, u18), (19, u19), (20, u20), (21, u21), (22, u22), (23, u23), (24, u24), (28, u28), (33, u33), (50, u50), (58, u58), (80, u80), (85, u85), (103, u103), (110, u110), (140, u140), (151, u151), (171, u171), (185, u185), (199, u199), (213, u213)], hp := h.en }) ?_ ?_
  · by_cases hb1 : b - m = 1
    · simp (disch := first|(simp only [Nat.reduceBEq,wE];done)|((repeat' (first|assumption|exact mAx _|refine mBx ?_ ?_|exact mCx (by assumption)|refine mDx ?_|refine mEx ?_ ?_ ?_|exact mFx|refine mGx ?_ ?_ ?_|exact mHx|exact mIx _|(simp only [wM,Nat.reduceAdd,Nat.reduceLT,Nat.reduceLeDiff];done)));done)|omega|decide) only [i2, show (((b - m : Nat) : Int) == 1) = true by simp; omega, ↓wA,wB,wL,resOf,Nat.reduceBEq,Int.reduceBEq,Int.reduceBNe,Int.reduceLT,Int.reduceLE,Int.reduceAdd,Int.reduceSub,Int.reduceMul,Int.reduceToNat]
      refine wloop (fun mm ss => ∃ (i j : Nat) (u1 u3 u10 u11 u12 u13 u16 u17 u18 u19 u20 u21 u22 u23 u24 u28 u33 u50 u58 u80 u85 u103 u110 u140 u151 u171 u185 u199 u213 : AV), (mm = j - i) ∧ (a ≤ i ∧ i ≤ j ∧ j ≤ m ∧ (∀ x, a ≤ x → x < i → Bef K (gz zs x) (gz zs m)) ∧ (∀ x, j ≤ x → x < m → Bef K (gz zs m) (gz zs x))) ∧ ss = { fr := [(0, s), (1, u1), (2, .int .i64 m), (3, u3), (4, .fn (.func g0) [] cs), (10, u10), (11, u11), (12, u12), (13, u13), (14, .int .i64 i), (15, .int .i64 j), (16, u16), (17, u17), (18, u18), (19, u19), (20, u20), (21, u21), (22, u22), (23, u23), (24, u24), (28, u28), (33, u33), (50, u50), (58, u58), (80, u80), (85, u85), (103, u103), (110, u110), (140, u140), (151, u151), (171, u171), (185, u185), (199, u199), (213, u213)], hp := h.en }) (m - a) ?_ ?_
      ·
        refine ⟨a, m, _, _, _, _, _, _, _, _, _, _, _, _, _, _, _, _, _, _, _, _, _, _, _, _, _, _, _, _, _, rfl, ⟨Nat.le_refl _, by omega, Nat.le_refl _, fun x h1 h2 => by omega, fun x h1 h2 => by omega⟩, rfl⟩
      rintro nA sA ⟨i, j, u1, u3, u10, u11, u12, u13, u16, u17, u18, u19, u20, u21, u22, u23, u24, u28, u33, u50, u58, u80, u85, u103, u110, u140, u151, u171, u185, u199, u213, hnA, ⟨q1, q2, q3, q4, q5⟩, rfl⟩
      simp (disch := first|(simp only [Nat.reduceBEq,wE];done)|((repeat' (first|assumption|exact mAx _|refine mBx ?_ ?_|exact mCx (by assumption)|refine mDx ?_|refine mEx ?_ ?_ ?_|exact mFx|refine mGx ?_ ?_ ?_|exact mHx|exact mIx _|(simp only [wM,Nat.reduceAdd,Nat.reduceLT,Nat.reduceLeDiff];done)));done)|omega|decide) only [↓wA,wB,wL,resOf,Nat.reduceBEq,Int.reduceBEq,Int.reduceBNe,Int.reduceLT,Int.reduceLE,Int.reduceAdd,Int.reduceSub,Int.reduceMul,Int.reduceToNat]
      refine ifThen_intro (fun e => ?_) (fun e => ?_) <;> have eq := e <;> try simp [-List.getD_eq_getElem?_getD] at eq
      · obtain ⟨t, ht1, ht2, ht⟩ : ∃ t : Nat, i ≤ t ∧ t < j ∧ ((i : Int) + (j : Int)) / 2 = (t : Int) := ⟨(i + j) / 2, by omega, by omega, by omega⟩
        obtain ⟨c, ec, hcd⟩ := hc h.en (gz zs m) (gz zs t) kk ss (hz m (by omega)) (hz t (by omega))
        by_cases hK : K (gz zs m) < K (gz zs t)
        · simp (disch := first|(simp only [Nat.reduceBEq,wE];done)|((repeat' (first|assumption|exact mAx _|refine mBx ?_ ?_|exact mCx (by assumption)|refine mDx ?_|refine mEx ?_ ?_ ?_|exact mFx|refine mGx ?_ ?_ ?_|exact mHx|exact mIx _|(simp only [wM,Nat.reduceAdd,Nat.reduceLT,Nat.reduceLeDiff];done)));done)|omega|decide) only [e, ht, O.ints.ix, O.ints.ld, callC ec, hcd, decide_eq_true hK, ↓wA,wB,wL,resOf,Nat.reduceBEq,Int.reduceBEq,Int.reduceBNe,Int.reduceLT,Int.reduceLE,Int.reduceAdd,Int.reduceSub,Int.reduceMul,Int.reduceToNat]
          refine ⟨_, ?_, i, t, _, _, _, _, _, _, _, _, _, _, _, _, _, _, _, _, _, _, _, _, _, _, _, _, _, _, _, _, _, rfl, ?_, rfl⟩
          · omega
          refine ⟨q1, by omega, by omega, q4, fun x h1 h2 => ?_⟩
          by_cases ex : x = t
          · rw [ex]; exact .inl hK
          · exact Bef.trans (.inl hK) (U t x (by omega) (by omega) h2)
        · simp (disch := first|(simp only [Nat.reduceBEq,wE];done)|((repeat' (first|assumption|exact mAx _|refine mBx ?_ ?_|exact mCx (by assumption)|refine mDx ?_|refine mEx ?_ ?_ ?_|exact mFx|refine mGx ?_ ?_ ?_|exact mHx|exact mIx _|(simp only [wM,Nat.reduceAdd,Nat.reduceLT,Nat.reduceLeDiff];done)));done)|omega|decide) only [e, ht, O.ints.ix, O.ints.ld, callC ec, hcd, decide_eq_false hK, ↓wA,wB,wL,resOf,Nat.reduceBEq,Int.reduceBEq,Int.reduceBNe,Int.reduceLT,Int.reduceLE,Int.reduceAdd,Int.reduceSub,Int.reduceMul,Int.reduceToNat]
          refine ⟨_, ?_, t + 1, j, _, _, _, _, _, _, _, _, _, _, _, _, _, _, _, _, _, _, _, _, _, _, _, _, _, _, _, _, _, rfl, ?_, rfl⟩
          · omega
          refine ⟨by omega, by omega, q3, fun x h1 h2 => ?_, q5⟩
          have hb := (bef_ge (X t m (by omega) (by omega) (Nat.le_refl _) hmb)).1 hK
          by_cases ex : x = t
          · rw [ex]; exact hb
          · exact (U x t (by omega) (by omega) (by omega)).trans hb
      · have hij : j = i := by omega
        rw [hij] at q5
        simp (disch := first|(simp only [Nat.reduceBEq,wE];done)|((repeat' (first|assumption|exact mAx _|refine mBx ?_ ?_|exact mCx (by assumption)|refine mDx ?_|refine mEx ?_ ?_ ?_|exact mFx|refine mGx ?_ ?_ ?_|exact mHx|exact mIx _|(simp only [wM,Nat.reduceAdd,Nat.reduceLT,Nat.reduceLeDiff];done)));done)|omega|decide) only [e, ↓wA,wB,wL,resOf,Nat.reduceBEq,Int.reduceBEq,Int.reduceBNe,Int.reduceLT,Int.reduceLE,Int.reduceAdd,Int.reduceSub,Int.reduceMul,Int.reduceToNat]
        refine wloop (fun mm ss => ∃ (cur : List Int) (k : Nat) (h3 : Hp) (u1 u2 u3 u4 u10 u11 u12 u13 u15 u16 u18 u19 u20 u21 u22 u23 u24 u28 u33 u50 u58 u80 u85 u103 u110 u140 u151 u171 u185 u199 u213 : AV), (mm = k - i) ∧ (i ≤ k ∧ k ≤ m ∧ Mut h h3 ∧ Grown h0 h3 ∧ Own h0.next h3.blks .i64 s cur ∧ cur.length = zs.length ∧ (∀ y, gz cur y = downT zs k m y)) ∧ ss = { fr := [(0, s), (1, u1), (2, u2), (3, u3), (4, u4), (10, u10), (11, u11), (12, u12), (13, u13), (14, .int .i64 i), (15, u15), (16, u16), (17, .int .i64 k), (18, u18), (19, u19), (20, u20), (21, u21), (22, u22), (23, u23), (24, u24), (28, u28), (33, u33), (50, u50), (58, u58), (80, u80), (85, u85), (103, u103), (110, u110), (140, u140), (151, u151), (171, u171), (185, u185), (199, u199), (213, u213)], hp := h3 }) (m - i) ?_ ?_
        ·
          refine ⟨zs, m, h.en, _, _, _, _, _, _, _, _, _, _, _, _, _, _, _, _, _, _, _, _, _, _, _, _, _, _, _, _, _, _, _, rfl, ⟨by omega, Nat.le_refl _, Mut.en h, g, O, rfl, fun y => by { unfold downT; rw [if_neg (by omega)]; split <;> simp [*] }⟩, rfl⟩
        rintro nB sB ⟨cur, k, h3, u1, u2, u3, u4, u10, u11, u12, u13, u15, u16, u18, u19, u20, u21, u22, u23, u24, u28, u33, u50, u58, u80, u85, u103, u110, u140, u151, u171, u185, u199, u213, hnB, ⟨r1, r2, m3, g3, o3, hl3, hu⟩, rfl⟩
        simp (disch := first|(simp only [Nat.reduceBEq,wE];done)|((repeat' (first|assumption|exact mAx _|refine mBx ?_ ?_|exact mCx (by assumption)|refine mDx ?_|refine mEx ?_ ?_ ?_|exact mFx|refine mGx ?_ ?_ ?_|exact mHx|exact mIx _|(simp only [wM,Nat.reduceAdd,Nat.reduceLT,Nat.reduceLeDiff];done)));done)|omega|decide) only [e, ↓wA,wB,wL,resOf,Nat.reduceBEq,Int.reduceBEq,Int.reduceBNe,Int.reduceLT,Int.reduceLE,Int.reduceAdd,Int.reduceSub,Int.reduceMul,Int.reduceToNat]
        refine ifThen_intro (fun e2 => ?_) (fun e2 => ?_) <;> have e2q := e2 <;> try simp [-List.getD_eq_getElem?_getD] at e2q
        · have i3 : (k : Int) - 1 = ((k - 1 : Nat) : Int) := by omega
          obtain ⟨h5, h6, e5, e6, o6, g6, m6⟩ := own_sw (i := k) (j := k - 1) ho g3 o3 (by omega) (by omega)
          simp (disch := first|(simp only [Nat.reduceBEq,wE];done)|((repeat' (first|assumption|exact mAx _|refine mBx ?_ ?_|exact mCx (by assumption)|refine mDx ?_|refine mEx ?_ ?_ ?_|exact mFx|refine mGx ?_ ?_ ?_|exact mHx|exact mIx _|(simp only [wM,Nat.reduceAdd,Nat.reduceLT,Nat.reduceLeDiff];done)));done)|omega|decide) only [e, e2, i3, o3.ints.ix, o3.ints.ld, e5, e6, ↓wA,wB,wL,resOf,Nat.reduceBEq,Int.reduceBEq,Int.reduceBNe,Int.reduceLT,Int.reduceLE,Int.reduceAdd,Int.reduceSub,Int.reduceMul,Int.reduceToNat]
          refine ⟨_, ?_, sw cur k (k - 1), k - 1, h6, _, _, _, _, _, _, _, _, _, _, _, _, _, _, _, _, _, _, _, _, _, _, _, _, _, _, _, _, _, _, _, rfl, ?_, rfl⟩
          · omega
          exact ⟨by omega, by omega, m3.trans m6, g6, o6, by rw [sw_len]; exact hl3, down_step (by omega) r2 (by omega) hl3 hu⟩
        · have hki : k = i := by omega
          rw [hki] at hu
          have hbm : b = m + 1 := by omega
          obtain ⟨S, T⟩ := one_right (K := K) (by omega) ⟨q1, by omega⟩ hl3 U q4 q5 hu
          rw [← hbm] at S T
          simp (disch := first|(simp only [Nat.reduceBEq,wE];done)|((repeat' (first|assumption|exact mAx _|refine mBx ?_ ?_|exact mCx (by assumption)|refine mDx ?_|refine mEx ?_ ?_ ?_|exact mFx|refine mGx ?_ ?_ ?_|exact mHx|exact mIx _|(simp only [wM,Nat.reduceAdd,Nat.reduceLT,Nat.reduceLeDiff];done)));done)|omega|decide) only [e, e2, ↓wA,wB,wL,resOf,Nat.reduceBEq,Int.reduceBEq,Int.reduceBNe,Int.reduceLT,Int.reduceLE,Int.reduceAdd,Int.reduceSub,Int.reduceMul,Int.reduceToNat]
          exact ⟨_, rfl, rfl, m3, g3, cur, o3, S, T⟩
    · simp (disch := first|(simp only [Nat.reduceBEq,wE];done)|((repeat' (first|assumption|exact mAx _|refine mBx ?_ ?_|exact mCx (by assumption)|refine mDx ?_|refine mEx ?_ ?_ ?_|exact mFx|refine mGx ?_ ?_ ?_|exact mHx|exact mIx _|(simp only [wM,Nat.reduceAdd,Nat.reduceLT,Nat.reduceLeDiff];done)));done)|omega|decide) only [i2, show (((b - m : Nat) : Int) == 1) = false by simp; omega, ↓wA,wB,wL,resOf,Nat.reduceBEq,Int.reduceBEq,Int.reduceBNe,Int.reduceLT,Int.reduceLE,Int.reduceAdd,Int.reduceSub,Int.reduceMul,Int.reduceToNat]
      exact ⟨_, _, _, _, _, _, _, _, _, _, _, _, _, _, _, _, _, _, _, _, _, _, _, _, _, _, _, _, _, hb1, rfl⟩
  rintro sX2 ⟨u10, u11, u12, u13, u14, u15, u16, u17, u18, u19, u20, u21, u22, u23, u24, u28, u33, u50, u58, u80, u85, u103, u110, u140, u151, u171, u185, u199, u213, hbm, rfl⟩
  obtain ⟨mid, hmid⟩ : ∃ mid : Nat, mid = (a + b) / 2 := ⟨_, rfl⟩
  have i3 : ((a : Int) + (b : Int)) / 2 = (mid : Int) := by omega
  refine wcut (fun ss => ∃ (u10 u11 u12 u13 u14 u15 u16 u17 u19 u20 u21 u22 u23 u24 u28 u33 u50 u58 u80 u85 u103 u110 u140 u151 u171 u185 u199 u213 : AV), (a < m) ∧ ss = { fr := [(0, s), (1, .int .i64 a), (2, .int .i64 m), (3, .int .i64 b), (4, .fn (.func g0) [] cs), (10, u10), (11, u11), (12, u12), (13, u13), (14, u14), (15, u15), (16, u16), (17, u17), (18, .int .i64 mid), (19, u19), (20, u20), (21, u21), (22, u22), (23, u23), (24, u24), (28, u28), (33, u33), (50, u50), (58, u58), (80, u80), (85, u85), (103, u103), (110, u110), (140, u140), (151, u151), (171, u171), (185, u185), (199, u199), (213, u213)], hp := h.en }) ?_ ?_
  · simp (disch := first|(simp only [Nat.reduceBEq,wE];done)|((repeat' (first|assumption|exact mAx _|refine mBx ?_ ?_|exact mCx (by assumption)|refine mDx ?_|refine mEx ?_ ?_ ?_|exact mFx|refine mGx ?_ ?_ ?_|exact mHx|exact mIx _|(simp only [wM,Nat.reduceAdd,Nat.reduceLT,Nat.reduceLeDiff];done)));done)|omega|decide) only [i3, ↓wA,wB,wL,resOf,Nat.reduceBEq,Int.reduceBEq,Int.reduceBNe,Int.reduceLT,Int.reduceLE,Int.reduceAdd,Int.reduceSub,Int.reduceMul,Int.reduceToNat]
    exact ⟨_, _, _, _, _, _, _, _, _, _, _, _, _, _, _, _, _, _, _, _, _, _, _, _, _, _, _, _, ham, rfl⟩
  rintro sX3 ⟨u10, u11, u12, u13, u14, u15, u16, u17, u19, u20, u21, u22, u23, u24, u28, u33, u50, u58, u80, u85, u103, u110, u140, u151, u171, u185, u199, u213, _, rfl⟩
  have i4 : (mid : Int) + (m : Int) = ((mid + m : Nat) : Int) := by omega
  refine wcut (fun ss => ∃ (u10 u11 u12 u13 u14 u15 u16 u17 u20 u21 u22 u23 u24 u28 u33 u50 u58 u80 u85 u103 u110 u140 u151 u171 u185 u199 u213 : AV), (a < m) ∧ ss = { fr := [(0, s), (1, .int .i64 a), (2, .int .i64 m), (3, .int .i64 b), (4, .fn (.func g0) [] cs), (10, u10), (11, u11), (12, u12), (13, u13), (14, u14), (15, u15), (16, u16), (17, u17), (18, .int .i64 mid), (19, .int .i64 (mid + m : Nat)), (20, u20), (21, u21), (22, u22), (23, u23), (24, u24), (28, u28), (33, u33), (50, u50), (58, u58), (80, u80), (85, u85), (103, u103), (110, u110), (140, u140), (151, u151), (171, u171), (185, u185), (199, u199), (213, u213)], hp := h.en }) ?_ ?_
  · simp (disch := first|(simp only [Nat.reduceBEq,wE];done)|((repeat' (first|assumption|exact mAx _|refine mBx ?_ ?_|exact mCx (by assumption)|refine mDx ?_|refine mEx ?_ ?_ ?_|exact mFx|refine mGx ?_ ?_ ?_|exact mHx|exact mIx _|(simp only [wM,Nat.reduceAdd,Nat.reduceLT,Nat.reduceLeDiff];done)));done)|omega|decide) only [i4, ↓wA,wB,wL,resOf,Nat.reduceBEq,Int.reduceBEq,Int.reduceBNe,Int.reduceLT,Int.reduceLE,Int.reduceAdd,Int.reduceSub,Int.reduceMul,Int.reduceToNat]
    exact ⟨_, _, _, _, _, _, _, _, _, _, _, _, _, _, _, _, _, _, _, _, _, _, _, _, _, _, _, ham, rfl⟩
  rintro sX4 ⟨u10, u11, u12, u13, u14, u15, u16, u17, u20, u21, u22, u23, u24, u28, u33, u50, u58, u80, u85, u103, u110, u140, u151, u171, u185, u199, u213, _, rfl⟩
  refine wcut (fun ss => ∃ (u10 u11 u12 u13 u14 u15 u16 u17 u20 u21 u22 u23 u24 u28 u33 u50 u58 u80 u85 u103 u110 u140 u151 u171 u185 u199 u213 : AV), (a < m) ∧ ss = { fr := [(0, s), (1, .int .i64 a), (2, .int .i64 m), (3, .int .i64 b), (4, .fn (.func g0) [] cs), (10, u10), (11, u11), (12, u12), (13, u13), (14, u14), (15, u15), (16, u16), (17, u17), (18, .int .i64 mid), (19, .int .i64 (mid + m : Nat)), (20, u20), (21, u21), (22, u22), (23, u23), (24, u24), (28, u28), (33, u33), (50, u50), (58, u58), (80, u80), (85, u85), (103, u103), (110, u110), (140, u140), (151, u151), (171, u171), (185, u185), (199, u199), (213, u213)], hp := h.en }) ?_ ?_
  · simp (disch := first|(simp only [Nat.reduceBEq,wE];done)|((repeat' (first|assumption|exact mAx _|refine mBx ?_ ?_|exact mCx (by assumption)|refine mDx ?_|refine mEx ?_ ?_ ?_|exact mFx|refine mGx ?_ ?_ ?_|exact mHx|exact mIx _|(simp only [wM,Nat.reduceAdd,Nat.reduceLT,Nat.reduceLeDiff];done)));done)|omega|decide) only [↓wA,wB,wL,resOf,Nat.reduceBEq,Int.reduceBEq,Int.reduceBNe,Int.reduceLT,Int.reduceLE,Int.reduceAdd,Int.reduceSub,Int.reduceMul,Int.reduceToNat]
    exact ⟨_, _, _, _, _, _, _, _, _, _, _, _, _, _, _, _, _, _, _, _, _, _, _, _, _, _, _, ham, rfl⟩
  rintro sX5 ⟨u10, u11, u12, u13, u14, u15, u16, u17, u20, u21, u22, u23, u24, u28, u33, u50, u58, u80, u85, u103, u110, u140, u151, u171, u185, u199, u213, _, rfl⟩
  refine wcut (fun ss => ∃ (s0 r0 : Nat) (u10 u11 u12 u13 u14 u15 u16 u17 u22 u23 u24 u28 u33 u50 u58 u80 u85 u103 u110 u140 u151 u171 u185 u199 u213 : AV), ((mid < m ∧ s0 = mid + m - b ∧ r0 = mid) ∨ (m ≤ mid ∧ s0 = a ∧ r0 = m)) ∧ ss = { fr := [(0, s), (1, .int .i64 a), (2, .int .i64 m), (3, .int .i64 b), (4, .fn (.func g0) [] cs), (10, u10), (11, u11), (12, u12), (13, u13), (14, u14), (15, u15), (16, u16), (17, u17), (18, .int .i64 mid), (19, .int .i64 (mid + m : Nat)), (20, .int .i64 s0), (21, .int .i64 r0), (22, u22), (23, u23), (24, u24), (28, u28), (33, u33), (50, u50), (58, u58), (80, u80), (85, u85), (103, u103), (110, u110), (140, u140), (151, u151), (171, u171), (185, u185), (199, u199), (213, u213)], hp := h.en }) ?_ ?_
  · simp (disch := first|(simp only [Nat.reduceBEq,wE];done)|((repeat' (first|assumption|exact mAx _|refine mBx ?_ ?_|exact mCx (by assumption)|refine mDx ?_|refine mEx ?_ ?_ ?_|exact mFx|refine mGx ?_ ?_ ?_|exact mHx|exact mIx _|(simp only [wM,Nat.reduceAdd,Nat.reduceLT,Nat.reduceLeDiff];done)));done)|omega|decide) only [↓wA,wB,wL,resOf,Nat.reduceBEq,Int.reduceBEq,Int.reduceBNe,Int.reduceLT,Int.reduceLE,Int.reduceAdd,Int.reduceSub,Int.reduceMul,Int.reduceToNat]
    refine ifThen_intro (fun e => ?_) (fun e => ?_) <;> have eq := e <;> try simp [-List.getD_eq_getElem?_getD] at eq
    · have i5 : ((mid + m : Nat) : Int) - (b : Int) = ((mid + m - b : Nat) : Int) := by omega
      simp (disch := first|(simp only [Nat.reduceBEq,wE];done)|((repeat' (first|assumption|exact mAx _|refine mBx ?_ ?_|exact mCx (by assumption)|refine mDx ?_|refine mEx ?_ ?_ ?_|exact mFx|refine mGx ?_ ?_ ?_|exact mHx|exact mIx _|(simp only [wM,Nat.reduceAdd,Nat.reduceLT,Nat.reduceLeDiff];done)));done)|omega|decide) only [e, i5, ↓wA,wB,wL,resOf,Nat.reduceBEq,Int.reduceBEq,Int.reduceBNe,Int.reduceLT,Int.reduceLE,Int.reduceAdd,Int.reduceSub,Int.reduceMul,Int.reduceToNat]
      exact ⟨mid + m - b, mid, _, _, _, _, _, _, _, _, _, _, _, _, _, _, _, _, _, _, _, _, _, _, _, _, _, .inl ⟨by omega, rfl, rfl⟩, rfl⟩
    · simp (disch := first|(simp only [Nat.reduceBEq,wE];done)|((repeat' (first|assumption|exact mAx _|refine mBx ?_ ?_|exact mCx (by assumption)|refine mDx ?_|refine mEx ?_ ?_ ?_|exact mFx|refine mGx ?_ ?_ ?_|exact mHx|exact mIx _|(simp only [wM,Nat.reduceAdd,Nat.reduceLT,Nat.reduceLeDiff];done)));done)|omega|decide) only [e, ↓wA,wB,wL,resOf,Nat.reduceBEq,Int.reduceBEq,Int.reduceBNe,Int.reduceLT,Int.reduceLE,Int.reduceAdd,Int.reduceSub,Int.reduceMul,Int.reduceToNat]
      exact ⟨a, m, _, _, _, _, _, _, _, _, _, _, _, _, _, _, _, _, _, _, _, _, _, _, _, _, _, .inr ⟨by omega, rfl, rfl⟩, rfl⟩
  rintro sX6 ⟨s0, r0, u10, u11, u12, u13, u14, u15, u16, u17, u22, u23, u24, u28, u33, u50, u58, u80, u85, u103, u110, u140, u151, u171, u185, u199, u213, hsr, rfl⟩
  have i6 : ((mid + m : Nat) : Int) - 1 = ((mid + m - 1 : Nat) : Int) := by omega
  refine wcut (fun ss => ∃ (u10 u11 u12 u13 u14 u15 u16 u17 u23 u24 u28 u33 u50 u58 u80 u85 u103 u110 u140 u151 u171 u185 u199 u213 : AV), (a < m) ∧ ss = { fr := [(0, s), (1, .int .i64 a), (2, .int .i64 m), (3, .int .i64 b), (4, .fn (.func g0) [] cs), (10, u10), (11, u11), (12, u12), (13, u13), (14, u14), (15, u15), (16, u16), (17, u17), (18, .int .i64 mid), (19, .int .i64 (mid + m : Nat)), (20, .int .i64 s0), (21, .int .i64 r0), (22, .int .i64 (mid + m - 1 : Nat)), (23, u23), (24, u24), (28, u28), (33, u33), (50, u50), (58, u58), (80, u80), (85, u85), (103, u103), (110, u110), (140, u140), (151, u151), (171, u171), (185, u185), (199, u199), (213, u213)], hp := h.en }) ?_ ?_
  · simp (disch := first|(simp only [Nat.reduceBEq,wE];done)|((repeat' (first|assumption|exact mAx _|refine mBx ?_ ?_|exact mCx (by assumption)|refine mDx ?_|refine mEx ?_ ?_ ?_|exact mFx|refine mGx ?_ ?_ ?_|exact mHx|exact mIx _|(simp only [wM,Nat.reduceAdd,Nat.reduceLT,Nat.reduceLeDiff];done)));done)|omega|decide) only [i6, ↓wA,wB,wL,resOf,Nat.reduceBEq,Int.reduceBEq,Int.reduceBNe,Int.reduceLT,Int.reduceLE,Int.reduceAdd,Int.reduceSub,Int.reduceMul,Int.reduceToNat]
    exact ⟨_, _, _, _, _, _, _, _, _, _, _, _, _, _, _, _, _, _, _, _, _, _, _, _, ham, rfl⟩
  rintro sX7 ⟨u10, u11, u12, u13, u14, u15, u16, u17, u23, u24, u28, u33, u50, u58, u80, u85, u103, u110, u140, u151, u171, u185, u199, u213, _, rfl⟩
  refine wcut (fun ss => ∃ (st : Nat) (u10 u11 u12 u13 u14 u15 u16 u17 u21 u22 u23 u24 u28 u33 u50 u58 u80 u85 u103 u110 u140 u151 u171 u185 u199 u213 : AV), (a ≤ st ∧ st ≤ m ∧ st ≤ mid ∧ mid ≤ mid + m - st ∧ m ≤ mid + m - st ∧ mid + m - st ≤ b ∧ (∀ x y, a ≤ x → x < st → mid + m - st ≤ y → y < b → Bef K (gz zs x) (gz zs y)) ∧ (∀ x y, st ≤ x → x < m → m ≤ y → y < mid + m - st → Bef K (gz zs y) (gz zs x))) ∧ ss = { fr := [(0, s), (1, .int .i64 a), (2, .int .i64 m), (3, .int .i64 b), (4, .fn (.func g0) [] cs), (10, u10), (11, u11), (12, u12), (13, u13), (14, u14), (15, u15), (16, u16), (17, u17), (18, .int .i64 mid), (19, .int .i64 (mid + m : Nat)), (20, .int .i64 st), (21, u21), (22, u22), (23, u23), (24, u24), (28, u28), (33, u33), (50, u50), (58, u58), (80, u80), (85, u85), (103, u103), (110, u110), (140, u140), (151, u151), (171, u171), (185, u185), (199, u199), (213, u213)], hp := h.en }) ?_ ?_
  · simp (disch := first|(simp only [Nat.reduceBEq,wE];done)|((repeat' (first|assumption|exact mAx _|refine mBx ?_ ?_|exact mCx (by assumption)|refine mDx ?_|refine mEx ?_ ?_ ?_|exact mFx|refine mGx ?_ ?_ ?_|exact mHx|exact mIx _|(simp only [wM,Nat.reduceAdd,Nat.reduceLT,Nat.reduceLeDiff];done)));done)|omega|decide) only [↓wA,wB,wL,resOf,Nat.reduceBEq,Int.reduceBEq,Int.reduceBNe,Int.reduceLT,Int.reduceLE,Int.reduceAdd,Int.reduceSub,Int.reduceMul,Int.reduceToNat]
    refine wloop (fun mm ss => ∃ (st r : Nat) (u10 u11 u12 u13 u14 u15 u16 u17 u23 u24 u28 u33 u50 u58 u80 u85 u103 u110 u140 u151 u171 u185 u199 u213 : AV), (mm = r - st) ∧ (s0 ≤ st ∧ st ≤ r ∧ r ≤ r0 ∧ (∀ x, s0 ≤ x → x < st → Bef K (gz zs x) (gz zs (mid + m - 1 - x))) ∧ (∀ x, r ≤ x → x < r0 → Bef K (gz zs (mid + m - 1 - x)) (gz zs x))) ∧ ss = { fr := [(0, s), (1, .int .i64 a), (2, .int .i64 m), (3, .int .i64 b), (4, .fn (.func g0) [] cs), (10, u10), (11, u11), (12, u12), (13, u13), (14, u14), (15, u15), (16, u16), (17, u17), (18, .int .i64 mid), (19, .int .i64 (mid + m : Nat)), (20, .int .i64 st), (21, .int .i64 r), (22, .int .i64 (mid + m - 1 : Nat)), (23, u23), (24, u24), (28, u28), (33, u33), (50, u50), (58, u58), (80, u80), (85, u85), (103, u103), (110, u110), (140, u140), (151, u151), (171, u171), (185, u185), (199, u199), (213, u213)], hp := h.en }) (r0 - s0) ?_ ?_
    ·
      refine ⟨s0, r0, _, _, _, _, _, _, _, _, _, _, _, _, _, _, _, _, _, _, _, _, _, _, _, _, rfl, ⟨Nat.le_refl _, by omega, Nat.le_refl _, fun x h1 h2 => by omega, fun x h1 h2 => by omega⟩, rfl⟩
    rintro nA sA ⟨st, r, u10, u11, u12, u13, u14, u15, u16, u17, u23, u24, u28, u33, u50, u58, u80, u85, u103, u110, u140, u151, u171, u185, u199, u213, hnA, ⟨q1, q2, q3, q4, q5⟩, rfl⟩
    simp (disch := first|(simp only [Nat.reduceBEq,wE];done)|((repeat' (first|assumption|exact mAx _|refine mBx ?_ ?_|exact mCx (by assumption)|refine mDx ?_|refine mEx ?_ ?_ ?_|exact mFx|refine mGx ?_ ?_ ?_|exact mHx|exact mIx _|(simp only [wM,Nat.reduceAdd,Nat.reduceLT,Nat.reduceLeDiff];done)));done)|omega|decide) only [↓wA,wB,wL,resOf,Nat.reduceBEq,Int.reduceBEq,Int.reduceBNe,Int.reduceLT,Int.reduceLE,Int.reduceAdd,Int.reduceSub,Int.reduceMul,Int.reduceToNat]
    refine ifThen_intro (fun e => ?_) (fun e => ?_) <;> have eq := e <;> try simp [-List.getD_eq_getElem?_getD] at eq
    · obtain ⟨t, ht1, ht2, ht⟩ : ∃ t : Nat, st ≤ t ∧ t < r ∧ ((st : Int) + (r : Int)) / 2 = (t : Int) := ⟨(st + r) / 2, by omega, by omega, by omega⟩
      have i7 : ((mid + m - 1 : Nat) : Int) - (t : Int) = ((mid + m - 1 - t : Nat) : Int) := by omega
      have lo : a ≤ t ∧ t < m ∧ m ≤ mid + m - 1 - t ∧ mid + m - 1 - t < b := by omega
      obtain ⟨c, ec, hcd⟩ := hc h.en (gz zs (mid + m - 1 - t)) (gz zs t) kk ss (hz _ (by omega)) (hz t (by omega))
      have hx := X t (mid + m - 1 - t) lo.1 lo.2.1 lo.2.2.1 lo.2.2.2
      by_cases hK : K (gz zs (mid + m - 1 - t)) < K (gz zs t)
      · simp (disch := first|(simp only [Nat.reduceBEq,wE];done)|((repeat' (first|assumption|exact mAx _|refine mBx ?_ ?_|exact mCx (by assumption)|refine mDx ?_|refine mEx ?_ ?_ ?_|exact mFx|refine mGx ?_ ?_ ?_|exact mHx|exact mIx _|(simp only [wM,Nat.reduceAdd,Nat.reduceLT,Nat.reduceLeDiff];done)));done)|omega|decide) only [e, ht, i7, O.ints.ix, O.ints.ld, callC ec, hcd, decide_eq_true hK, ↓wA,wB,wL,resOf,Nat.reduceBEq,Int.reduceBEq,Int.reduceBNe,Int.reduceLT,Int.reduceLE,Int.reduceAdd,Int.reduceSub,Int.reduceMul,Int.reduceToNat]
        refine ⟨_, ?_, st, t, _, _, _, _, _, _, _, _, _, _, _, _, _, _, _, _, _, _, _, _, _, _, _, _, rfl, ?_, rfl⟩
        · omega
        refine ⟨q1, by omega, by omega, q4, fun x h1 h2 => ?_⟩
        have hb : Bef K (gz zs (mid + m - 1 - t)) (gz zs t) := .inl hK
        by_cases ex : x = t
        · rw [ex]; exact hb
        · exact (V (mid + m - 1 - x) (mid + m - 1 - t) (by omega) (by omega) (by omega)).trans (hb.trans (U t x (by omega) (by omega) (by omega)))
      · simp (disch := first|(simp only [Nat.reduceBEq,wE];done)|((repeat' (first|assumption|exact mAx _|refine mBx ?_ ?_|exact mCx (by assumption)|refine mDx ?_|refine mEx ?_ ?_ ?_|exact mFx|refine mGx ?_ ?_ ?_|exact mHx|exact mIx _|(simp only [wM,Nat.reduceAdd,Nat.reduceLT,Nat.reduceLeDiff];done)));done)|omega|decide) only [e, ht, i7, O.ints.ix, O.ints.ld, callC ec, hcd, decide_eq_false hK, ↓wA,wB,wL,resOf,Nat.reduceBEq,Int.reduceBEq,Int.reduceBNe,Int.reduceLT,Int.reduceLE,Int.reduceAdd,Int.reduceSub,Int.reduceMul,Int.reduceToNat]
        refine ⟨_, ?_, t + 1, r, _, _, _, _, _, _, _, _, _, _, _, _, _, _, _, _, _, _, _, _, _, _, _, _, rfl, ?_, rfl⟩
        · omega
        refine ⟨by omega, by omega, q3, fun x h1 h2 => ?_, q5⟩
        have hb := (bef_ge hx).1 hK
        by_cases ex : x = t
        · rw [ex]; exact hb
        · exact (U x t (by omega) (by omega) (by omega)).trans (hb.trans (V (mid + m - 1 - t) (mid + m - 1 - x) (by omega) (by omega) (by omega)))
    · have hij : r = st := by omega
      rw [hij] at q5 q3
      simp (disch := first|(simp only [Nat.reduceBEq,wE];done)|((repeat' (first|assumption|exact mAx _|refine mBx ?_ ?_|exact mCx (by assumption)|refine mDx ?_|refine mEx ?_ ?_ ?_|exact mFx|refine mGx ?_ ?_ ?_|exact mHx|exact mIx _|(simp only [wM,Nat.reduceAdd,Nat.reduceLT,Nat.reduceLeDiff];done)));done)|omega|decide) only [e, ↓wA,wB,wL,resOf,Nat.reduceBEq,Int.reduceBEq,Int.reduceBNe,Int.reduceLT,Int.reduceLE,Int.reduceAdd,Int.reduceSub,Int.reduceMul,Int.reduceToNat]
      refine ⟨st, _, _, _, _, _, _, _, _, _, _, _, _, _, _, _, _, _, _, _, _, _, _, _, _, _, _, ⟨by omega, by omega, by omega, by omega, by omega, by omega, fun x y h1 h2 h3 h4 => ?_, fun x y h1 h2 h3 h4 => ?_⟩, rfl⟩
      · have hb := q4 (st - 1) (by omega) (by omega)
        have hb1 : Bef K (gz zs x) (gz zs (mid + m - 1 - (st - 1))) := by
          by_cases ex : x = st - 1
          · rw [ex]; exact hb
          · exact (U x (st - 1) h1 (by omega) (by omega)).trans hb
        by_cases ey : y = mid + m - 1 - (st - 1)
        · rw [ey]; exact hb1
        · exact hb1.trans (V _ _ (by omega) (by omega) h4)
      · have hb := q5 st (Nat.le_refl _) (by omega)
        have hb1 : Bef K (gz zs (mid + m - 1 - st)) (gz zs x) := by
          by_cases ex : x = st
          · rw [ex]; exact hb
          · exact hb.trans (U st x (by omega) (by omega) h2)
        by_cases ey : y = mid + m - 1 - st
        · rw [ey]; exact hb1
        · exact (V _ _ h3 (by omega) (by omega)).trans hb1
  rintro sX8 ⟨st, u10, u11, u12, u13, u14, u15, u16, u17, u21, u22, u23, u24, u28, u33, u50, u58, u80, u85, u103, u110, u140, u151, u171, u185, u199, u213, ⟨d1, d2, d3, d4, d5, d6, d7, d8⟩, rfl⟩
  obtain ⟨e, he⟩ : ∃ e : Nat, e = mid + m - st := ⟨_, rfl⟩
  have i8 : ((mid + m : Nat) : Int) - (st : Int) = (e : Int) := by omega
  rw [← he] at d4 d5 d6 d7 d8
  refine wcut (fun ss => ∃ (u10 u11 u12 u13 u14 u15 u16 u17 u19 u21 u22 u23 u28 u33 u50 u58 u80 u85 u103 u110 u140 u151 u171 u185 u199 u213 : AV), (a < m) ∧ ss = { fr := [(0, s), (1, .int .i64 a), (2, .int .i64 m), (3, .int .i64 b), (4, .fn (.func g0) [] cs), (10, u10), (11, u11), (12, u12), (13, u13), (14, u14), (15, u15), (16, u16), (17, u17), (18, .int .i64 mid), (19, u19), (20, .int .i64 st), (21, u21), (22, u22), (23, u23), (24, .int .i64 e), (28, u28), (33, u33), (50, u50), (58, u58), (80, u80), (85, u85), (103, u103), (110, u110), (140, u140), (151, u151), (171, u171), (185, u185), (199, u199), (213, u213)], hp := h.en }) ?_ ?_
  · simp (disch := first|(simp only [Nat.reduceBEq,wE];done)|((repeat' (first|assumption|exact mAx _|refine mBx ?_ ?_|exact mCx (by assumption)|refine mDx ?_|refine mEx ?_ ?_ ?_|exact mFx|refine mGx ?_ ?_ ?_|exact mHx|exact mIx _|(simp only [wM,Nat.reduceAdd,Nat.reduceLT,Nat.reduceLeDiff];done)));done)|omega|decide) only [i8, ↓wA,wB,wL,resOf,Nat.reduceBEq,Int.reduceBEq,Int.reduceBNe,Int.reduceLT,Int.reduceLE,Int.reduceAdd,Int.reduceSub,Int.reduceMul,Int.reduceToNat]
    exact ⟨_, _, _, _, _, _, _, _, _, _, _, _, _, _, _, _, _, _, _, _, _, _, _, _, _, _, ham, rfl⟩
  rintro sX9 ⟨u10, u11, u12, u13, u14, u15, u16, u17, u19, u21, u22, u23, u28, u33, u50, u58, u80, u85, u103, u110, u140, u151, u171, u185, u199, u213, _, rfl⟩
  refine wcut (fun ss => ∃ (zs1 : List Int) (h1 : Hp) (u2 u10 u11 u12 u13 u14 u15 u16 u17 u19 u21 u22 u23 u28 u33 u50 u58 u80 u85 u103 u110 u140 u151 u171 u185 u199 u213 : AV), (Mut h h1 ∧ Grown h0 h1 ∧ Own h0.next h1.blks .i64 s zs1 ∧ zs1.length = zs.length ∧ ∀ y, gz zs1 y = rotT zs st m e y) ∧ ss = { fr := [(0, s), (1, .int .i64 a), (2, u2), (3, .int .i64 b), (4, .fn (.func g0) [] cs), (10, u10), (11, u11), (12, u12), (13, u13), (14, u14), (15, u15), (16, u16), (17, u17), (18, .int .i64 mid), (19, u19), (20, .int .i64 st), (21, u21), (22, u22), (23, u23), (24, .int .i64 e), (28, u28), (33, u33), (50, u50), (58, u58), (80, u80), (85, u85), (103, u103), (110, u110), (140, u140), (151, u151), (171, u171), (185, u185), (199, u199), (213, u213)], hp := h1 }) ?_ ?_
  · by_cases c1 : st < m
    · by_cases c2 : m < e
      · simp (disch := first|(simp only [Nat.reduceBEq,wE];done)|((repeat' (first|assumption|exact mAx _|refine mBx ?_ ?_|exact mCx (by assumption)|refine mDx ?_|refine mEx ?_ ?_ ?_|exact mFx|refine mGx ?_ ?_ ?_|exact mHx|exact mIx _|(simp only [wM,Nat.reduceAdd,Nat.reduceLT,Nat.reduceLeDiff];done)));done)|omega|decide) only [decide_eq_true (show (st : Int) < (m : Int) by omega), decide_eq_true (show (m : Int) < (e : Int) by omega), ↓wA,wB,wL,resOf,Nat.reduceBEq,Int.reduceBEq,Int.reduceBNe,Int.reduceLT,Int.reduceLE,Int.reduceAdd,Int.reduceSub,Int.reduceMul,Int.reduceToNat]
        refine callE (f50 s (.fn (.func g0) [] cs) st m e zs h0 h.en ho g O hl ⟨c1, c2, by omega⟩) ?_
        rintro v h1 ⟨rfl, m1, g1, zs1, o1, l1, r1⟩
        simp (disch := first|(simp only [Nat.reduceBEq,wE];done)|((repeat' (first|assumption|exact mAx _|refine mBx ?_ ?_|exact mCx (by assumption)|refine mDx ?_|refine mEx ?_ ?_ ?_|exact mFx|refine mGx ?_ ?_ ?_|exact mHx|exact mIx _|(simp only [wM,Nat.reduceAdd,Nat.reduceLT,Nat.reduceLeDiff];done)));done)|omega|decide) only [↓wA,wB,wL,resOf,Nat.reduceBEq,Int.reduceBEq,Int.reduceBNe,Int.reduceLT,Int.reduceLE,Int.reduceAdd,Int.reduceSub,Int.reduceMul,Int.reduceToNat]
        exact ⟨zs1, h1, _, _, _, _, _, _, _, _, _, _, _, _, _, _, _, _, _, _, _, _, _, _, _, _, _, _, _, ⟨(Mut.en h).trans m1, g1, o1, l1, r1⟩, rfl⟩
      · simp (disch := first|(simp only [Nat.reduceBEq,wE];done)|((repeat' (first|assumption|exact mAx _|refine mBx ?_ ?_|exact mCx (by assumption)|refine mDx ?_|refine mEx ?_ ?_ ?_|exact mFx|refine mGx ?_ ?_ ?_|exact mHx|exact mIx _|(simp only [wM,Nat.reduceAdd,Nat.reduceLT,Nat.reduceLeDiff];done)));done)|omega|decide) only [decide_eq_true (show (st : Int) < (m : Int) by omega), decide_eq_false (show ¬ (m : Int) < (e : Int) by omega), ↓wA,wB,wL,resOf,Nat.reduceBEq,Int.reduceBEq,Int.reduceBNe,Int.reduceLT,Int.reduceLE,Int.reduceAdd,Int.reduceSub,Int.reduceMul,Int.reduceToNat]
        exact ⟨zs, h.en, _, _, _, _, _, _, _, _, _, _, _, _, _, _, _, _, _, _, _, _, _, _, _, _, _, _, _, ⟨Mut.en h, g, O, rfl, fun y => (rotT_id ⟨d2, d5⟩ (.inr (by omega))).symm⟩, rfl⟩
    · simp (disch := first|(simp only [Nat.reduceBEq,wE];done)|((repeat' (first|assumption|exact mAx _|refine mBx ?_ ?_|exact mCx (by assumption)|refine mDx ?_|refine mEx ?_ ?_ ?_|exact mFx|refine mGx ?_ ?_ ?_|exact mHx|exact mIx _|(simp only [wM,Nat.reduceAdd,Nat.reduceLT,Nat.reduceLeDiff];done)));done)|omega|decide) only [decide_eq_false (show ¬ (st : Int) < (m : Int) by omega), ↓wA,wB,wL,resOf,Nat.reduceBEq,Int.reduceBEq,Int.reduceBNe,Int.reduceLT,Int.reduceLE,Int.reduceAdd,Int.reduceSub,Int.reduceMul,Int.reduceToNat]
      exact ⟨zs, h.en, _, _, _, _, _, _, _, _, _, _, _, _, _, _, _, _, _, _, _, _, _, _, _, _, _, _, _, ⟨Mut.en h, g, O, rfl, fun y => (rotT_id ⟨d2, d5⟩ (.inl (by omega))).symm⟩, rfl⟩
  rintro sX10 ⟨zs1, h1, u2, u10, u11, u12, u13, u14, u15, u16, u17, u19, u21, u22, u23, u28, u33, u50, u58, u80, u85, u103, u110, u140, u151, u171, u185, u199, u213, ⟨m1, g1, o1, l1, r1⟩, rfl⟩
  have hse : st + e = mid + m := by omega
  have S1 : Shuf a b zs zs1 := sym_shuf l1 r1 ⟨d1, d2, d5, d6⟩
  have hz1 := hz.shuf S1 hbl
  obtain ⟨L1, L2, L3, L4⟩ := sym_left r1 ⟨d1, d2, d5, d6⟩ hse U V
  have XX := sym_cross r1 ⟨d1, d2, d5, d6⟩ hse U V d7 d8
  have f1 : ∀ y, a ≤ y → y < st → gz zs1 y = gz zs y := fun y h1 h2 => by rw [r1, rotT, if_pos (.inl h2)]
  have f2 : ∀ y, st ≤ y → y < mid → gz zs1 y = gz zs (y - st + m) := fun y h1 h2 => by rw [r1, rotT, if_neg (by omega), if_pos (by omega)]
  have f3 : ∀ y, mid ≤ y → y < e → gz zs1 y = gz zs (y - (e - m)) := fun y h1 h2 => by rw [r1, rotT, if_neg (by omega), if_neg (by omega)]
  have f4 : ∀ y, e ≤ y → y < b → gz zs1 y = gz zs y := fun y h1 h2 => by rw [r1, rotT, if_pos (.inr h1)]
  refine wcut (fun ss => ∃ (zs2 : List Int) (h2 : Hp) (u1 u2 u10 u11 u12 u13 u14 u15 u16 u17 u19 u20 u21 u22 u23 u28 u33 u50 u58 u80 u85 u103 u110 u140 u151 u171 u185 u199 u213 : AV), (Mut h h2 ∧ Grown h0 h2 ∧ Own h0.next h2.blks .i64 s zs2 ∧ Shuf a mid zs1 zs2 ∧ Srt K zs2 a mid) ∧ ss = { fr := [(0, s), (1, u1), (2, u2), (3, .int .i64 b), (4, .fn (.func g0) [] cs), (10, u10), (11, u11), (12, u12), (13, u13), (14, u14), (15, u15), (16, u16), (17, u17), (18, .int .i64 mid), (19, u19), (20, u20), (21, u21), (22, u22), (23, u23), (24, .int .i64 e), (28, u28), (33, u33), (50, u50), (58, u58), (80, u80), (85, u85), (103, u103), (110, u110), (140, u140), (151, u151), (171, u171), (185, u185), (199, u199), (213, u213)], hp := h2 }) ?_ ?_
  · by_cases c1 : a < st
    · by_cases c2 : st < mid
      · simp (disch := first|(simp only [Nat.reduceBEq,wE];done)|((repeat' (first|assumption|exact mAx _|refine mBx ?_ ?_|exact mCx (by assumption)|refine mDx ?_|refine mEx ?_ ?_ ?_|exact mFx|refine mGx ?_ ?_ ?_|exact mHx|exact mIx _|(simp only [wM,Nat.reduceAdd,Nat.reduceLT,Nat.reduceLeDiff];done)));done)|omega|decide) only [decide_eq_true (show (a : Int) < (st : Int) by omega), decide_eq_true (show (st : Int) < (mid : Int) by omega), ↓wA,wB,wL,resOf,Nat.reduceBEq,Int.reduceBEq,Int.reduceBNe,Int.reduceLT,Int.reduceLE,Int.reduceAdd,Int.reduceSub,Int.reduceMul,Int.reduceToNat]
        refine callE (IH a st mid zs1 h1 (by omega) g1 o1 (by omega) c1 c2 (by omega) hz1 L1 L2 (fun x y h1 h2 h3 h4 => by rw [f1 x h1 h2, f2 y h3 h4]; exact X _ _ h1 (by omega) (by omega) (by omega))) ?_
        rintro v h2 ⟨rfl, m2, g2, zs2, o2, S2, T2⟩
        simp (disch := first|(simp only [Nat.reduceBEq,wE];done)|((repeat' (first|assumption|exact mAx _|refine mBx ?_ ?_|exact mCx (by assumption)|refine mDx ?_|refine mEx ?_ ?_ ?_|exact mFx|refine mGx ?_ ?_ ?_|exact mHx|exact mIx _|(simp only [wM,Nat.reduceAdd,Nat.reduceLT,Nat.reduceLeDiff];done)));done)|omega|decide) only [↓wA,wB,wL,resOf,Nat.reduceBEq,Int.reduceBEq,Int.reduceBNe,Int.reduceLT,Int.reduceLE,Int.reduceAdd,Int.reduceSub,Int.reduceMul,Int.reduceToNat]
        exact ⟨zs2, h2, _, _, _, _, _, _, _, _, _, _, _, _, _, _, _, _, _, _, _, _, _, _, _, _, _, _, _, _, _, ⟨m1.trans m2, g2, o2, S2, T2⟩, rfl⟩
      · simp (disch := first|(simp only [Nat.reduceBEq,wE];done)|((repeat' (first|assumption|exact mAx _|refine mBx ?_ ?_|exact mCx (by assumption)|refine mDx ?_|refine mEx ?_ ?_ ?_|exact mFx|refine mGx ?_ ?_ ?_|exact mHx|exact mIx _|(simp only [wM,Nat.reduceAdd,Nat.reduceLT,Nat.reduceLeDiff];done)));done)|omega|decide) only [decide_eq_true (show (a : Int) < (st : Int) by omega), decide_eq_false (show ¬ (st : Int) < (mid : Int) by omega), ↓wA,wB,wL,resOf,Nat.reduceBEq,Int.reduceBEq,Int.reduceBNe,Int.reduceLT,Int.reduceLE,Int.reduceAdd,Int.reduceSub,Int.reduceMul,Int.reduceToNat]
        have hq : mid = st := by omega
        exact ⟨zs1, h1, _, _, _, _, _, _, _, _, _, _, _, _, _, _, _, _, _, _, _, _, _, _, _, _, _, _, _, _, _, ⟨m1, g1, o1, Shuf.refl _ _ _, by rw [hq]; exact L1⟩, rfl⟩
    · simp (disch := first|(simp only [Nat.reduceBEq,wE];done)|((repeat' (first|assumption|exact mAx _|refine mBx ?_ ?_|exact mCx (by assumption)|refine mDx ?_|refine mEx ?_ ?_ ?_|exact mFx|refine mGx ?_ ?_ ?_|exact mHx|exact mIx _|(simp only [wM,Nat.reduceAdd,Nat.reduceLT,Nat.reduceLeDiff];done)));done)|omega|decide) only [decide_eq_false (show ¬ (a : Int) < (st : Int) by omega), ↓wA,wB,wL,resOf,Nat.reduceBEq,Int.reduceBEq,Int.reduceBNe,Int.reduceLT,Int.reduceLE,Int.reduceAdd,Int.reduceSub,Int.reduceMul,Int.reduceToNat]
      have hq : a = st := by omega
      exact ⟨zs1, h1, _, _, _, _, _, _, _, _, _, _, _, _, _, _, _, _, _, _, _, _, _, _, _, _, _, _, _, _, _, ⟨m1, g1, o1, Shuf.refl _ _ _, by rw [hq]; exact L2⟩, rfl⟩
  rintro sX11 ⟨zs2, h2, u1, u2, u10, u11, u12, u13, u14, u15, u16, u17, u19, u20, u21, u22, u23, u28, u33, u50, u58, u80, u85, u103, u110, u140, u151, u171, u185, u199, u213, ⟨m2, g2, o2, S2, T2⟩, rfl⟩
  have l2 := S2.len
  have hz2 := hz1.shuf S2 (by omega)
  have f5 : ∀ y, mid ≤ y → gz zs2 y = gz zs1 y := fun y h1 => S2.out y (.inr h1)
  have L3' : Srt K zs2 mid e := L3.congr fun y h1 _ => f5 y h1
  have L4' : Srt K zs2 e b := L4.congr fun y h1 _ => f5 y (by omega)
  by_cases c1 : mid < e
  · by_cases c2 : e < b
    · simp (disch := first|(simp only [Nat.reduceBEq,wE];done)|((repeat' (first|assumption|exact mAx _|refine mBx ?_ ?_|exact mCx (by assumption)|refine mDx ?_|refine mEx ?_ ?_ ?_|exact mFx|refine mGx ?_ ?_ ?_|exact mHx|exact mIx _|(simp only [wM,Nat.reduceAdd,Nat.reduceLT,Nat.reduceLeDiff];done)));done)|omega|decide) only [decide_eq_true (show (mid : Int) < (e : Int) by omega), decide_eq_true (show (e : Int) < (b : Int) by omega), ↓wA,wB,wL,resOf,Nat.reduceBEq,Int.reduceBEq,Int.reduceBNe,Int.reduceLT,Int.reduceLE,Int.reduceAdd,Int.reduceSub,Int.reduceMul,Int.reduceToNat]
      refine callE (IH mid e b zs2 h2 (by omega) g2 o2 (by omega) c1 c2 (by omega) hz2 L3' L4' (fun x y h1 h2 h3 h4 => by rw [f5 x h1, f5 y (by omega), f3 x h1 h2, f4 y h3 h4]; exact X _ _ (by omega) (by omega) (by omega) h4)) ?_
      rintro v h3 ⟨rfl, m3, g3, zs3, o3, S3, T3⟩
      simp (disch := first|(simp only [Nat.reduceBEq,wE];done)|((repeat' (first|assumption|exact mAx _|refine mBx ?_ ?_|exact mCx (by assumption)|refine mDx ?_|refine mEx ?_ ?_ ?_|exact mFx|refine mGx ?_ ?_ ?_|exact mHx|exact mIx _|(simp only [wM,Nat.reduceAdd,Nat.reduceLT,Nat.reduceLeDiff];done)));done)|omega|decide) only [↓wA,wB,wL,resOf,Nat.reduceBEq,Int.reduceBEq,Int.reduceBNe,Int.reduceLT,Int.reduceLE,Int.reduceAdd,Int.reduceSub,Int.reduceMul,Int.reduceToNat]
      exact ⟨_, rfl, rfl, m2.trans m3, g3, zs3, o3, sym_end ⟨by omega, by omega⟩ S1 XX S2 T2 S3 T3⟩
    · simp (disch := first|(simp only [Nat.reduceBEq,wE];done)|((repeat' (first|assumption|exact mAx _|refine mBx ?_ ?_|exact mCx (by assumption)|refine mDx ?_|refine mEx ?_ ?_ ?_|exact mFx|refine mGx ?_ ?_ ?_|exact mHx|exact mIx _|(simp only [wM,Nat.reduceAdd,Nat.reduceLT,Nat.reduceLeDiff];done)));done)|omega|decide) only [decide_eq_true (show (mid : Int) < (e : Int) by omega), decide_eq_false (show ¬ (e : Int) < (b : Int) by omega), ↓wA,wB,wL,resOf,Nat.reduceBEq,Int.reduceBEq,Int.reduceBNe,Int.reduceLT,Int.reduceLE,Int.reduceAdd,Int.reduceSub,Int.reduceMul,Int.reduceToNat]
      have hq : b = e := by omega
      exact ⟨_, rfl, rfl, m2, g2, zs2, o2, sym_end ⟨by omega, by omega⟩ S1 XX S2 T2 (Shuf.refl _ _ _) (by rw [hq]; exact L3')⟩
  · simp (disch := first|(simp only [Nat.reduceBEq,wE];done)|((repeat' (first|assumption|exact mAx _|refine mBx ?_ ?_|exact mCx (by assumption)|refine mDx ?_|refine mEx ?_ ?_ ?_|exact mFx|refine mGx ?_ ?_ ?_|exact mHx|exact mIx _|(simp only [wM,Nat.reduceAdd,Nat.reduceLT,Nat.reduceLeDiff];done)));done)|omega|decide) only [decide_eq_false (show ¬ (mid : Int) < (e : Int) by omega), ↓wA,wB,wL,resOf,Nat.reduceBEq,Int.reduceBEq,Int.reduceBNe,Int.reduceLT,Int.reduceLE,Int.reduceAdd,Int.reduceSub,Int.reduceMul,Int.reduceToNat]
    have hq : mid = e := by omega
    exact ⟨_, rfl, rfl, m2, g2, zs2, o2, sym_end ⟨by omega, by omega⟩ S1 XX S2 T2 (Shuf.refl _ _ _) (by rw [hq]; exact L4')⟩

theorem sym_ok (s : AV) (g0 : Nat) (cs : List AV) (K : Int → Int) (N : Int) (h0 : Hp) (ho : Hok h0) (hc : CmpOK h0 N g0 cs K) : ∀ w, SymOK s g0 cs K N h0 w
  | 0 => fun a m b zs h hw _ _ _ h1 h2 _ _ _ _ _ => by omega
  | w + 1 => sym_step s g0 cs K N h0 ho hc w (sym_ok s g0 cs K N h0 ho hc w)
theorem f49 (s : AV) (g0 : Nat) (cs : List AV) (K : Int → Int) (N : Int) (h0 : Hp) (ho : Hok h0) (hc : CmpOK h0 N g0 cs K) (w : Nat) : SymOK s g0 cs K N h0 w := sym_ok s g0 cs K N h0 ho hc w

end Go.Proofs.Ytgpdimkgfhgffaa

