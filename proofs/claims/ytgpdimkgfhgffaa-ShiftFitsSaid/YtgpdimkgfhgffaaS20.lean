/- Sorting in place: rotation, insertion. -/
import Derived.Test.YtgpdimkgfhgffaaS19
set_option linter.unusedSimpArgs false
set_option linter.unusedVariables false
set_option maxHeartbeats 2000000
set_option maxRecDepth 20000

namespace Go.Proofs.Ytgpdimkgfhgffaa

open Go Go.Abs Go.Sh

theorem f50 (s c : AV) (a m b : Nat) (zs : List Int) (h0 h : Hp) (ho : Hok h0) (g : Grown h0 h) (O : Own h0.next h.blks .i64 s zs) (hl : zs.length ≤ 1000) (hm : a < m ∧ m < b ∧ b ≤ zs.length) :
    ∃ v h', Evals Try.prog tab false (.func 50) [s, .int .i64 a, .int .i64 m, .int .i64 b, c] h (v, h') ∧ (v = .tu [] ∧ Mut h h' ∧ Grown h0 h' ∧ ∃ zs', Own h0.next h'.blks .i64 s zs' ∧ zs'.length = zs.length ∧ ∀ y, gz zs' y = rotT zs a m b y) := by
  refine evals_mut c50 (fun bs => ∃ zs', Own h0.next bs .i64 s zs' ∧ zs'.length = zs.length ∧ ∀ y, gz zs' y = rotT zs a m b y) rfl ?_
  simp only [sf50, initS_cons, initS_nil]
  have i1 : (m : Int) - (a : Int) = ((m - a : Nat) : Int) := by omega
  have i2 : (b : Int) - (m : Int) = ((b - m : Nat) : Int) := by omega
  simp (disch := first|(simp only [Nat.reduceBEq,wE];done)|((repeat' (first|assumption|exact mAx _|refine mBx ?_ ?_|exact mCx (by assumption)|refine mDx ?_|refine mEx ?_ ?_ ?_|exact mFx|refine mGx ?_ ?_ ?_|exact mHx|exact mIx _|(simp only [wM,Nat.reduceAdd,Nat.reduceLT,Nat.reduceLeDiff];done)));done)|omega|decide) only [i1, i2, ↓wA,wB,wL,resOf,Nat.reduceBEq,Int.reduceBEq,Int.reduceBNe,Int.reduceLT,Int.reduceLE,Int.reduceAdd,Int.reduceSub,Int.reduceMul,Int.reduceToNat]
  refine wloop (fun mm ss => ∃ (cur : List Int) (i j : Nat) (h3 : Hp) (u1 u3 u20 u23 : AV), (mm = i + j) ∧ (Mut h h3 ∧ Grown h0 h3 ∧ Own h0.next h3.blks .i64 s cur ∧ Rot zs a m b cur i j) ∧ ss = { fr := [(0, s), (1, u1), (2, .int .i64 m), (3, u3), (4, c), (10, .int .i64 i), (11, .int .i64 j), (20, u20), (23, u23)], hp := h3 }) ((m - a) + (b - m)) ?_ ?_
  ·
    refine ⟨zs, m - a, b - m, h.en, _, _, _, _, rfl, ⟨Mut.en h, g, O, Rot.start hm.1 hm.2.1 hm.2.2⟩, rfl⟩
  rintro nA sA ⟨cur, i, j, h3, u1, u3, u20, u23, hnA, ⟨m3, g3, o3, R⟩, rfl⟩
  have hcl := R.len
  have hri := R.i1
  have hrj := R.j1
  have i3 : (m : Int) - (i : Int) = ((m - i : Nat) : Int) := by omega
  simp (disch := first|(simp only [Nat.reduceBEq,wE];done)|((repeat' (first|assumption|exact mAx _|refine mBx ?_ ?_|exact mCx (by assumption)|refine mDx ?_|refine mEx ?_ ?_ ?_|exact mFx|refine mGx ?_ ?_ ?_|exact mHx|exact mIx _|(simp only [wM,Nat.reduceAdd,Nat.reduceLT,Nat.reduceLeDiff];done)));done)|omega|decide) only [↓wA,wB,wL,resOf,Nat.reduceBEq,Int.reduceBEq,Int.reduceBNe,Int.reduceLT,Int.reduceLE,Int.reduceAdd,Int.reduceSub,Int.reduceMul,Int.reduceToNat]
  by_cases e1 : i = j
  · have e1b : ((i : Int) != (j : Int)) = false := by simp [e1]
    subst e1
    simp (disch := first|(simp only [Nat.reduceBEq,wE];done)|((repeat' (first|assumption|exact mAx _|refine mBx ?_ ?_|exact mCx (by assumption)|refine mDx ?_|refine mEx ?_ ?_ ?_|exact mFx|refine mGx ?_ ?_ ?_|exact mHx|exact mIx _|(simp only [wM,Nat.reduceAdd,Nat.reduceLT,Nat.reduceLeDiff];done)));done)|omega|decide) only [e1b, i3, ↓wA,wB,wL,resOf,Nat.reduceBEq,Int.reduceBEq,Int.reduceBNe,Int.reduceLT,Int.reduceLE,Int.reduceAdd,Int.reduceSub,Int.reduceMul,Int.reduceToNat]
    refine callE (f51 s c (m - i) m i cur h0 h3 ho g3 o3 (by omega) (by omega) (by omega)) ?_
    rintro v h4 ⟨rfl, m4, g4, o4⟩
    simp (disch := first|(simp only [Nat.reduceBEq,wE];done)|((repeat' (first|assumption|exact mAx _|refine mBx ?_ ?_|exact mCx (by assumption)|refine mDx ?_|refine mEx ?_ ?_ ?_|exact mFx|refine mGx ?_ ?_ ?_|exact mHx|exact mIx _|(simp only [wM,Nat.reduceAdd,Nat.reduceLT,Nat.reduceLeDiff];done)));done)|omega|decide) only [↓wA,wB,wL,resOf,Nat.reduceBEq,Int.reduceBEq,Int.reduceBNe,Int.reduceLT,Int.reduceLE,Int.reduceAdd,Int.reduceSub,Int.reduceMul,Int.reduceToNat]
    exact ⟨_, rfl, rfl, m3.trans m4, g4, _, o4, by rw [swr_len]; exact hcl, R.fin hm⟩
  · have e1b : ((i : Int) != (j : Int)) = true := by simp; omega
    by_cases e2 : j < i
    · have i4 : (i : Int) - (j : Int) = ((i - j : Nat) : Int) := by omega
      simp (disch := first|(simp only [Nat.reduceBEq,wE];done)|((repeat' (first|assumption|exact mAx _|refine mBx ?_ ?_|exact mCx (by assumption)|refine mDx ?_|refine mEx ?_ ?_ ?_|exact mFx|refine mGx ?_ ?_ ?_|exact mHx|exact mIx _|(simp only [wM,Nat.reduceAdd,Nat.reduceLT,Nat.reduceLeDiff];done)));done)|omega|decide) only [e1b, decide_eq_true (show (j : Int) < (i : Int) by omega), i3, ↓wA,wB,wL,resOf,Nat.reduceBEq,Int.reduceBEq,Int.reduceBNe,Int.reduceLT,Int.reduceLE,Int.reduceAdd,Int.reduceSub,Int.reduceMul,Int.reduceToNat]
      refine callE (f51 s c (m - i) m j cur h0 h3 ho g3 o3 (by omega) (by omega) (by omega)) ?_
      rintro v h4 ⟨rfl, m4, g4, o4⟩
      simp (disch := first|(simp only [Nat.reduceBEq,wE];done)|((repeat' (first|assumption|exact mAx _|refine mBx ?_ ?_|exact mCx (by assumption)|refine mDx ?_|refine mEx ?_ ?_ ?_|exact mFx|refine mGx ?_ ?_ ?_|exact mHx|exact mIx _|(simp only [wM,Nat.reduceAdd,Nat.reduceLT,Nat.reduceLeDiff];done)));done)|omega|decide) only [i4, ↓wA,wB,wL,resOf,Nat.reduceBEq,Int.reduceBEq,Int.reduceBNe,Int.reduceLT,Int.reduceLE,Int.reduceAdd,Int.reduceSub,Int.reduceMul,Int.reduceToNat]
      refine ⟨_, ?_, swr cur (m - i) m j, i - j, j, h4, _, _, _, _, rfl, ?_, rfl⟩
      · omega
      exact ⟨m3.trans m4, g4, o4, R.gt hm e2⟩
    · have i4 : (j : Int) - (i : Int) = ((j - i : Nat) : Int) := by omega
      have i5 : (m : Int) + (j : Int) - (i : Int) = ((m + j - i : Nat) : Int) := by omega
      simp (disch := first|(simp only [Nat.reduceBEq,wE];done)|((repeat' (first|assumption|exact mAx _|refine mBx ?_ ?_|exact mCx (by assumption)|refine mDx ?_|refine mEx ?_ ?_ ?_|exact mFx|refine mGx ?_ ?_ ?_|exact mHx|exact mIx _|(simp only [wM,Nat.reduceAdd,Nat.reduceLT,Nat.reduceLeDiff];done)));done)|omega|decide) only [e1b, decide_eq_false (show ¬ (j : Int) < (i : Int) by omega), i3, i5, ↓wA,wB,wL,resOf,Nat.reduceBEq,Int.reduceBEq,Int.reduceBNe,Int.reduceLT,Int.reduceLE,Int.reduceAdd,Int.reduceSub,Int.reduceMul,Int.reduceToNat]
      refine callE (f51 s c (m - i) (m + j - i) i cur h0 h3 ho g3 o3 (by omega) (by omega) (by omega)) ?_
      rintro v h4 ⟨rfl, m4, g4, o4⟩
      simp (disch := first|(simp only [Nat.reduceBEq,wE];done)|((repeat' (first|assumption|exact mAx _|refine mBx ?_ ?_|exact mCx (by assumption)|refine mDx ?_|refine mEx ?_ ?_ ?_|exact mFx|refine mGx ?_ ?_ ?_|exact mHx|exact mIx _|(simp only [wM,Nat.reduceAdd,Nat.reduceLT,Nat.reduceLeDiff];done)));done)|omega|decide) only [i4, ↓wA,wB,wL,resOf,Nat.reduceBEq,Int.reduceBEq,Int.reduceBNe,Int.reduceLT,Int.reduceLE,Int.reduceAdd,Int.reduceSub,Int.reduceMul,Int.reduceToNat]
      refine ⟨_, ?_, swr cur (m - i) (m + j - i) i, i, j - i, h4, _, _, _, _, rfl, ?_, rfl⟩
      · omega
      exact ⟨m3.trans m4, g4, o4, R.lt hm (by omega)⟩

/-- A comparison by a key. -/
def CmpOK (h0 : Hp) (N : Int) (g : Nat) (cs : List AV) (K : Int → Int) : Prop :=
  ∀ (h : Hp) (x y : Int), Hok h → Sub h0.blks h.blks → (0 ≤ x ∧ x < N) → (0 ≤ y ∧ y < N) → ∃ c : Int, Evals Try.prog tab false (.func g) ([.int .i64 x, .int .i64 y] ++ cs) h (.int .i64 c, h) ∧ decide (c < 0) = decide (K x < K y)

def Rng (N : Int) (zs : List Int) : Prop := ∀ i, i < zs.length → 0 ≤ gz zs i ∧ gz zs i < N
theorem Rng.shuf {N : Int} {a b : Nat} {zs zs' : List Int} (R : Rng N zs) (S : Shuf a b zs zs') (hb : b ≤ zs.length) : Rng N zs' := fun i hi => by
  have hl := S.len
  by_cases e : a ≤ i ∧ i < b
  · obtain ⟨k, k1, k2, ek⟩ := S.mem i e.1 e.2
    rw [ek]
    exact R k (by omega)
  · rw [S.out i (by omega)]
    exact R i (by omega)

theorem f48 (s : AV) (a b : Nat) (g0 : Nat) (cs : List AV) (K : Int → Int) (N : Int) (zs : List Int) (h0 h : Hp) (ho : Hok h0) (g : Grown h0 h) (O : Own h0.next h.blks .i64 s zs) (hl : zs.length ≤ 1000) (hab : a ≤ b ∧ b ≤ zs.length)
    (hc : CmpOK h0 N g0 cs K) (hz : Rng N zs) (hi : Inc zs a b) :
    ∃ v h', Evals Try.prog tab false (.func 48) [s, .int .i64 a, .int .i64 b, .fn (.func g0) [] cs] h (v, h') ∧ (v = .tu [] ∧ Mut h h' ∧ Grown h0 h' ∧ ∃ zs', Own h0.next h'.blks .i64 s zs' ∧ Shuf a b zs zs' ∧ Srt K zs' a b) := by
  refine evals_mut c48 (fun bs => ∃ zs', Own h0.next bs .i64 s zs' ∧ Shuf a b zs zs' ∧ Srt K zs' a b) rfl ?_
  simp only [sf48, initS_cons, initS_nil]
  have i1 : (a : Int) + 1 = ((a + 1 : Nat) : Int) := by omega
  simp (disch := first|(simp only [Nat.reduceBEq,wE];done)|((repeat' (first|assumption|exact mAx _|refine mBx ?_ ?_|exact mCx (by assumption)|refine mDx ?_|refine mEx ?_ ?_ ?_|exact mFx|refine mGx ?_ ?_ ?_|exact mHx|exact mIx _|(simp only [wM,Nat.reduceAdd,Nat.reduceLT,Nat.reduceLeDiff];done)));done)|omega|decide) only [i1, ↓wA,wB,wL,resOf,Nat.reduceBEq,Int.reduceBEq,Int.reduceBNe,Int.reduceLT,Int.reduceLE,Int.reduceAdd,Int.reduceSub,Int.reduceMul,Int.reduceToNat]
  refine wloop (fun mm ss => ∃ (cur : List Int) (i : Nat) (h3 : Hp) (u9 u14 u34 : AV), (mm = b - i) ∧ (a + 1 ≤ i ∧ (i ≤ b ∨ i = a + 1) ∧ Mut h h3 ∧ Grown h0 h3 ∧ Own h0.next h3.blks .i64 s cur ∧ Shuf a i zs cur ∧ Srt K cur a i) ∧ ss = { fr := [(0, s), (1, .int .i64 a), (2, .int .i64 b), (3, .fn (.func g0) [] cs), (8, .int .i64 i), (9, u9), (14, u14), (34, u34)], hp := h3 }) (b - (a + 1)) ?_ ?_
  ·
    refine ⟨zs, a + 1, h.en, _, _, _, rfl, ⟨Nat.le_refl _, .inr rfl, Mut.en h, g, O, Shuf.refl _ _ _, fun x y h1 h2 h3 => by omega⟩, rfl⟩
  rintro nA sA ⟨cur, i, h3, u9, u14, u34, hnA, ⟨hi1, hi2, m3, g3, o3, S, T⟩, rfl⟩
  have hcl := S.len
  simp (disch := first|(simp only [Nat.reduceBEq,wE];done)|((repeat' (first|assumption|exact mAx _|refine mBx ?_ ?_|exact mCx (by assumption)|refine mDx ?_|refine mEx ?_ ?_ ?_|exact mFx|refine mGx ?_ ?_ ?_|exact mHx|exact mIx _|(simp only [wM,Nat.reduceAdd,Nat.reduceLT,Nat.reduceLeDiff];done)));done)|omega|decide) only [↓wA,wB,wL,resOf,Nat.reduceBEq,Int.reduceBEq,Int.reduceBNe,Int.reduceLT,Int.reduceLE,Int.reduceAdd,Int.reduceSub,Int.reduceMul,Int.reduceToNat]
  refine ifThen_intro (fun e => ?_) (fun e => ?_) <;> have eq := e <;> try simp [-List.getD_eq_getElem?_getD] at eq
  · simp (disch := first|(simp only [Nat.reduceBEq,wE];done)|((repeat' (first|assumption|exact mAx _|refine mBx ?_ ?_|exact mCx (by assumption)|refine mDx ?_|refine mEx ?_ ?_ ?_|exact mFx|refine mGx ?_ ?_ ?_|exact mHx|exact mIx _|(simp only [wM,Nat.reduceAdd,Nat.reduceLT,Nat.reduceLeDiff];done)));done)|omega|decide) only [e, ↓wA,wB,wL,resOf,Nat.reduceBEq,Int.reduceBEq,Int.reduceBNe,Int.reduceLT,Int.reduceLE,Int.reduceAdd,Int.reduceSub,Int.reduceMul,Int.reduceToNat]
    have hv : gz cur i = gz zs i := S.out i (by omega)
    refine wloop (fun mm ss => ∃ (cur2 : List Int) (j : Nat) (h4 : Hp) (u14 u34 : AV), (mm = j) ∧ (a ≤ j ∧ j ≤ i ∧ Mut h h4 ∧ Grown h0 h4 ∧ Own h0.next h4.blks .i64 s cur2 ∧ cur2.length = cur.length ∧ (∀ y, gz cur2 y = downT cur j i y) ∧ ∀ x, j ≤ x → x < i → Bef K (gz cur i) (gz cur x)) ∧ ss = { fr := [(0, s), (1, .int .i64 a), (2, .int .i64 b), (3, .fn (.func g0) [] cs), (8, .int .i64 i), (9, .int .i64 j), (14, u14), (34, u34)], hp := h4 }) (i) ?_ ?_
    ·
      refine ⟨cur, i, _, _, _, rfl, ⟨by omega, Nat.le_refl _, m3, g3, o3, rfl, fun y => by { unfold downT; rw [if_neg (by omega)]; split <;> simp [*] }, fun x h1 h2 => by omega⟩, rfl⟩
    rintro nB sB ⟨cur2, j, h4, u14, u34, hnB, ⟨hj1, hj2, m4, g4, o4, hl4, hd, hbf⟩, rfl⟩
    have k4 := g4.ok ho
    by_cases hja : a < j
    · have j1 : cur2.getD j 0 = gz cur i := by
        have := hd j
        unfold downT at this
        rwa [if_neg (by omega), if_pos rfl] at this
      have j2 : cur2.getD (j - 1) 0 = gz cur (j - 1) := by
        have := hd (j - 1)
        unfold downT at this
        rwa [if_neg (by omega), if_neg (by omega)] at this
      have i3 : (j : Int) - 1 = ((j - 1 : Nat) : Int) := by omega
      obtain ⟨k, k1, k2, ek⟩ := S.mem (j - 1) (by omega) (by omega)
      have hlt : gz cur (j - 1) < gz cur i := by rw [ek, hv]; exact hi k i k1 k2 eq
      have r1 : 0 ≤ gz cur i ∧ gz cur i < N := by rw [hv]; exact hz i (by omega)
      have r2 : 0 ≤ gz cur (j - 1) ∧ gz cur (j - 1) < N := by rw [ek]; exact hz k (by omega)
      obtain ⟨c, ec, hcd⟩ := hc h4 (gz cur i) (gz cur (j - 1)) k4 (g4.sub ho) r1 r2
      by_cases hK : K (gz cur i) < K (gz cur (j - 1))
      · obtain ⟨h5, h6, e5, e6, o6, g6, m6⟩ := own_sw (i := j) (j := j - 1) ho g4 o4 (by omega) (by omega)
        rw [j2] at e5
        rw [j1] at e6
        simp (disch := first|(simp only [Nat.reduceBEq,wE];done)|((repeat' (first|assumption|exact mAx _|refine mBx ?_ ?_|exact mCx (by assumption)|refine mDx ?_|refine mEx ?_ ?_ ?_|exact mFx|refine mGx ?_ ?_ ?_|exact mHx|exact mIx _|(simp only [wM,Nat.reduceAdd,Nat.reduceLT,Nat.reduceLeDiff];done)));done)|omega|decide) only [e, decide_eq_true (show (a : Int) < (j : Int) by omega), i3, o4.ints.ix, o4.ints.ld, j1, j2, callC ec, hcd, decide_eq_true hK, e5, e6, ↓wA,wB,wL,resOf,Nat.reduceBEq,Int.reduceBEq,Int.reduceBNe,Int.reduceLT,Int.reduceLE,Int.reduceAdd,Int.reduceSub,Int.reduceMul,Int.reduceToNat]
        refine ⟨_, ?_, sw cur2 j (j - 1), j - 1, h6, _, _, rfl, ?_, rfl⟩
        · omega
        refine ⟨by omega, by omega, m4.trans m6, g6, o6, by rw [sw_len]; exact hl4, down_step (by omega) hj2 (by omega) hl4 hd, fun x h1 h2 => ?_⟩
        by_cases ex : x = j - 1
        · rw [ex]; exact .inl hK
        · exact hbf x (by omega) h2
      · have fin := ins_end hj1 hj2 hl4 S T hd hbf fun _ => (bef_ge hlt).1 hK
        simp (disch := first|(simp only [Nat.reduceBEq,wE];done)|((repeat' (first|assumption|exact mAx _|refine mBx ?_ ?_|exact mCx (by assumption)|refine mDx ?_|refine mEx ?_ ?_ ?_|exact mFx|refine mGx ?_ ?_ ?_|exact mHx|exact mIx _|(simp only [wM,Nat.reduceAdd,Nat.reduceLT,Nat.reduceLeDiff];done)));done)|omega|decide) only [e, decide_eq_true (show (a : Int) < (j : Int) by omega), i3, o4.ints.ix, o4.ints.ld, j1, j2, callC ec, hcd, decide_eq_false hK, ↓wA,wB,wL,resOf,Nat.reduceBEq,Int.reduceBEq,Int.reduceBNe,Int.reduceLT,Int.reduceLE,Int.reduceAdd,Int.reduceSub,Int.reduceMul,Int.reduceToNat]
        refine ⟨_, ?_, cur2, i + 1, _, _, _, _, rfl, ?_, rfl⟩
        · omega
        exact ⟨by omega, by omega, m4, g4, o4, fin.1, fin.2⟩
    · have fin := ins_end hj1 hj2 hl4 S T hd hbf fun h => absurd h hja
      simp (disch := first|(simp only [Nat.reduceBEq,wE];done)|((repeat' (first|assumption|exact mAx _|refine mBx ?_ ?_|exact mCx (by assumption)|refine mDx ?_|refine mEx ?_ ?_ ?_|exact mFx|refine mGx ?_ ?_ ?_|exact mHx|exact mIx _|(simp only [wM,Nat.reduceAdd,Nat.reduceLT,Nat.reduceLeDiff];done)));done)|omega|decide) only [e, decide_eq_false (show ¬ (a : Int) < (j : Int) by omega), ↓wA,wB,wL,resOf,Nat.reduceBEq,Int.reduceBEq,Int.reduceBNe,Int.reduceLT,Int.reduceLE,Int.reduceAdd,Int.reduceSub,Int.reduceMul,Int.reduceToNat]
      refine ⟨_, ?_, cur2, i + 1, _, _, _, _, rfl, ?_, rfl⟩
      · omega
      exact ⟨by omega, by omega, m4, g4, o4, fin.1, fin.2⟩
  · simp (disch := first|(simp only [Nat.reduceBEq,wE];done)|((repeat' (first|assumption|exact mAx _|refine mBx ?_ ?_|exact mCx (by assumption)|refine mDx ?_|refine mEx ?_ ?_ ?_|exact mFx|refine mGx ?_ ?_ ?_|exact mHx|exact mIx _|(simp only [wM,Nat.reduceAdd,Nat.reduceLT,Nat.reduceLeDiff];done)));done)|omega|decide) only [e, ↓wA,wB,wL,resOf,Nat.reduceBEq,Int.reduceBEq,Int.reduceBNe,Int.reduceLT,Int.reduceLE,Int.reduceAdd,Int.reduceSub,Int.reduceMul,Int.reduceToNat]
    refine ⟨_, rfl, rfl, m3, g3, cur, o3, ?_⟩
    by_cases hb : i = b
    · subst hb; exact ⟨S, T⟩
    · have hb2 : b = a := by omega
      subst hb2
      refine ⟨⟨S.len, fun y hy => ?_, fun y h1 h2 => by omega⟩, fun x y h1 h2 h3 => by omega⟩
      by_cases ey : y = b
      · subst ey
        obtain ⟨k, k1, k2, ek⟩ := S.mem y (by omega) (by omega)
        rw [ek, show k = y by omega]
      · exact S.out y (by omega)

end Go.Proofs.Ytgpdimkgfhgffaa

