/- The reference: primes, sums of squares. -/
import Derived.Test.YtpobklkllfokdaaNG
set_option linter.unusedSimpArgs false
set_option linter.unusedVariables false
set_option maxHeartbeats 1000000
namespace Go.Proofs.Ytpobklkllfokdaa
open Go Go.Abs Go.Nm

theorem f30 (n : Nat) (h : Hp) (hk : Hok h) (hn : n ≤ 1000000000) :
    Evals Try.prog tab false (.func 30) [.int .i64 n] h (.bool (prime n), h) := by
  refine evals_pure c30 rfl hk ?_
  simp only [sf30, initS_cons, initS_nil]
  simp (disch := first|(simp only [Nat.reduceBEq,wE];done)|((repeat' (first|assumption|exact mAx _|refine mBx ?_ ?_|exact mCx (by assumption)|refine mDx ?_|refine mEx ?_ ?_ ?_|exact mFx|refine mGx ?_ ?_ ?_|exact mHx|exact mIx _|(simp only [wM,Nat.reduceAdd,Nat.reduceLT,Nat.reduceLeDiff];done)));done)|omega|decide) only [↓wA,wB,wL,resOf,Nat.reduceBEq,Int.reduceBEq,Int.reduceBNe,Int.reduceLT,Int.reduceLE,Int.reduceAdd,Int.reduceSub,Int.reduceMul,Int.reduceToNat]
  refine wloop (fun mm ss => ∃ (d : Nat) (u8 u14 : AV), (mm = n + 2 - d) ∧ (2 ≤ d ∧ d ≤ n + 2 ∧ noDiv n n 2 = noDiv (n + 2 - d) n d) ∧ ss = { fr := [(0, .int .i64 n), (2, .bool false), (3, .int .i64 d), (8, u8), (14, u14)], hp := { next := h.next, blks := h.blks, loops := h.loops, base := h.next, esc := false } }) (n) ?_ ?_
  ·
    refine ⟨2, _, _, by omega, ⟨by omega, by omega, rfl⟩, rfl⟩
  rintro nA sA ⟨d, u8, u14, hnA, ⟨hd, hd2, hv⟩, rfl⟩
  have hb := Nm.mul_bd 2000000000 2000000000 (x := (d : Int)) (y := d) (by omega) (by omega)
  simp (disch := first|(simp only [Nat.reduceBEq,wE];done)|((repeat' (first|assumption|exact mAx _|refine mBx ?_ ?_|exact mCx (by assumption)|refine mDx ?_|refine mEx ?_ ?_ ?_|exact mFx|refine mGx ?_ ?_ ?_|exact mHx|exact mIx _|(simp only [wM,Nat.reduceAdd,Nat.reduceLT,Nat.reduceLeDiff];done)));done)|omega|decide) only [↓wA,wB,wL,resOf,Nat.reduceBEq,Int.reduceBEq,Int.reduceBNe,Int.reduceLT,Int.reduceLE,Int.reduceAdd,Int.reduceSub,Int.reduceMul,Int.reduceToNat]
  have ec : ((d : Int) * d ≤ n) ↔ d * d ≤ n := by rw [← Int.natCast_mul]; omega
  refine ifThen_intro (fun e => ?_) (fun e => ?_) <;> have eq := e <;> try simp [-List.getD_eq_getElem?_getD] at eq
  · have e' : d * d ≤ n := by
      have : (d : Int) * d ≤ n := by simpa using e
      exact ec.1 this
    have := sq_ge (d := d)
    obtain ⟨k, hkk⟩ : ∃ k, n + 2 - d = k + 1 := ⟨n + 1 - d, by omega⟩
    rw [hkk, noDiv, if_pos e'] at hv
    simp (disch := first|(simp only [Nat.reduceBEq,wE];done)|((repeat' (first|assumption|exact mAx _|refine mBx ?_ ?_|exact mCx (by assumption)|refine mDx ?_|refine mEx ?_ ?_ ?_|exact mFx|refine mGx ?_ ?_ ?_|exact mHx|exact mIx _|(simp only [wM,Nat.reduceAdd,Nat.reduceLT,Nat.reduceLeDiff];done)));done)|omega|decide) only [e, e, sBin_rem, ↓wA,wB,wL,resOf,Nat.reduceBEq,Int.reduceBEq,Int.reduceBNe,Int.reduceLT,Int.reduceLE,Int.reduceAdd,Int.reduceSub,Int.reduceMul,Int.reduceToNat]
    by_cases hm : n % d = 0
    · have e3 : ((n : Int) % d == 0) = true := by rw [← Int.natCast_emod, hm]; rfl
      rw [if_pos hm] at hv
      simp (disch := first|(simp only [Nat.reduceBEq,wE];done)|((repeat' (first|assumption|exact mAx _|refine mBx ?_ ?_|exact mCx (by assumption)|refine mDx ?_|refine mEx ?_ ?_ ?_|exact mFx|refine mGx ?_ ?_ ?_|exact mHx|exact mIx _|(simp only [wM,Nat.reduceAdd,Nat.reduceLT,Nat.reduceLeDiff];done)));done)|omega|decide) only [e, e3, ↓wA,wB,wL,resOf,Nat.reduceBEq,Int.reduceBEq,Int.reduceBNe,Int.reduceLT,Int.reduceLE,Int.reduceAdd,Int.reduceSub,Int.reduceMul,Int.reduceToNat]
      refine ⟨_, rfl, ?_, by (repeat' (first|assumption|exact mAx _|refine mBx ?_ ?_|exact mCx (by assumption)|refine mDx ?_|refine mEx ?_ ?_ ?_|exact mFx|refine mGx ?_ ?_ ?_|exact mHx|exact mIx _|(simp only [wM,Nat.reduceAdd,Nat.reduceLT,Nat.reduceLeDiff];done)))⟩
      simp [prime, hv]
    · have e3 : ((n : Int) % d == 0) = false := by
        rw [← Int.natCast_emod]
        exact beq_eq_false_iff_ne.2 (by omega)
      rw [if_neg hm] at hv
      simp (disch := first|(simp only [Nat.reduceBEq,wE];done)|((repeat' (first|assumption|exact mAx _|refine mBx ?_ ?_|exact mCx (by assumption)|refine mDx ?_|refine mEx ?_ ?_ ?_|exact mFx|refine mGx ?_ ?_ ?_|exact mHx|exact mIx _|(simp only [wM,Nat.reduceAdd,Nat.reduceLT,Nat.reduceLeDiff];done)));done)|omega|decide) only [e, e3, ↓wA,wB,wL,resOf,Nat.reduceBEq,Int.reduceBEq,Int.reduceBNe,Int.reduceLT,Int.reduceLE,Int.reduceAdd,Int.reduceSub,Int.reduceMul,Int.reduceToNat]
      refine ⟨_, ?_, d + 1, _, _, rfl, ?_, rfl⟩
      · omega
      exact ⟨by omega, by omega, by rw [hv, show n + 2 - (d + 1) = k by omega]⟩
  · have e' : ¬ d * d ≤ n := fun hh => by
      have h2 := ec.2 hh
      have : ¬ ((d : Int) * d ≤ n) := by simpa using e
      exact this h2
    rw [noDiv_end e'] at hv
    simp (disch := first|(simp only [Nat.reduceBEq,wE];done)|((repeat' (first|assumption|exact mAx _|refine mBx ?_ ?_|exact mCx (by assumption)|refine mDx ?_|refine mEx ?_ ?_ ?_|exact mFx|refine mGx ?_ ?_ ?_|exact mHx|exact mIx _|(simp only [wM,Nat.reduceAdd,Nat.reduceLT,Nat.reduceLeDiff];done)));done)|omega|decide) only [e, e, ↓wA,wB,wL,resOf,Nat.reduceBEq,Int.reduceBEq,Int.reduceBNe,Int.reduceLT,Int.reduceLE,Int.reduceAdd,Int.reduceSub,Int.reduceMul,Int.reduceToNat]
    refine ⟨_, rfl, ?_, by (repeat' (first|assumption|exact mAx _|refine mBx ?_ ?_|exact mCx (by assumption)|refine mDx ?_|refine mEx ?_ ?_ ?_|exact mFx|refine mGx ?_ ?_ ?_|exact mHx|exact mIx _|(simp only [wM,Nat.reduceAdd,Nat.reduceLT,Nat.reduceLeDiff];done)))⟩
    simp only [prime, hv, Bool.true_and]
    congr 1
    simp
    omega

/-- What the reference's list is: none, or a slice that is not nil. -/
def RefL (bs : List (Nat × Blk)) (v : AV) (o : Option (List Nat)) : Prop :=
  (o = none ∧ v = .nilsl) ∨ (∃ l id len cap, o = some l ∧ v = .sl id 0 len cap 1 ∧ Ints bs .i64 v (iv l))
theorem RefL.sub {bs bs' : List (Nat × Blk)} {v : AV} {o : Option (List Nat)} (R : RefL bs v o) (s : Sub bs bs') : RefL bs' v o := by
  obtain R | ⟨l, id, len, cap, h1, h2, h3⟩ := R
  · exact .inl R
  · exact .inr ⟨l, id, len, cap, h1, h2, h3.sub s⟩
theorem sqF_min {k n m m' : Nat} (h : min m (isq n) = min m' (isq n)) : sqF k n m = sqF k n m' := by
  cases k with
  | zero => rfl
  | succ k => simp only [sqF, h]

set_option maxRecDepth 100000 in
set_option maxHeartbeats 4000000 in
theorem f33 : ∀ (k n top : Nat) (h : Hp) (hk : Hok h) (h4 : k ≤ 4) (hn : n ≤ 10000) (hm : top ≤ 100),
    ∃ v h', Evals Try.prog tab false (.func 33) [.int .i64 n, .int .i64 k, .int .i64 top] h (v, h') ∧ Grown h h' ∧ RefL h'.blks v (sqF k n top) ∧ (refOK h.next v = true → v = .nilsl)
  | 0, n, top, h, hk, h4, hn, hm => by
    exact evals_q c33 (fun v h' => RefL h'.blks v (sqF 0 n top) ∧ (refOK h.next v = true → v = .nilsl)) rfl hk (by
      simp only [sf33, initS_cons, initS_nil]
      simp (disch := first|(simp only [Nat.reduceBEq,wE];done)|((repeat' (first|assumption|exact mAx _|refine mBx ?_ ?_|exact mCx (by assumption)|refine mDx ?_|refine mEx ?_ ?_ ?_|exact mFx|refine mGx ?_ ?_ ?_|exact mHx|exact mIx _|(simp only [wM,Nat.reduceAdd,Nat.reduceLT,Nat.reduceLeDiff];done)));done)|omega|decide) only [↓wA,wB,wL,resOf,Nat.reduceBEq,Int.reduceBEq,Int.reduceBNe,Int.reduceLT,Int.reduceLE,Int.reduceAdd,Int.reduceSub,Int.reduceMul,Int.reduceToNat]
      by_cases h0 : n = 0
      · subst h0
        simp (disch := first|(simp only [Nat.reduceBEq,wE];done)|((repeat' (first|assumption|exact mAx _|refine mBx ?_ ?_|exact mCx (by assumption)|refine mDx ?_|refine mEx ?_ ?_ ?_|exact mFx|refine mGx ?_ ?_ ?_|exact mHx|exact mIx _|(simp only [wM,Nat.reduceAdd,Nat.reduceLT,Nat.reduceLeDiff];done)));done)|omega|decide) only [show sBS [.int .i64 0] 0 1 { next := h.next, blks := h.blks, loops := h.loops, base := h.next, esc := false } [] = some (.sl h.next 0 0 (some 0) 1, { next := h.next + 1, blks := (h.next, { cells := [], ch := h.next, wr := true }) :: h.blks, loops := h.loops, base := h.next, esc := false }) from rfl, ↓wA,wB,wL,resOf,Nat.reduceBEq,Int.reduceBEq,Int.reduceBNe,Int.reduceLT,Int.reduceLE,Int.reduceAdd,Int.reduceSub,Int.reduceMul,Int.reduceToNat]
        refine ⟨_, rfl, by (repeat' (first|assumption|exact mAx _|refine mBx ?_ ?_|exact mCx (by assumption)|refine mDx ?_|refine mEx ?_ ?_ ?_|exact mFx|refine mGx ?_ ?_ ?_|exact mHx|exact mIx _|(simp only [wM,Nat.reduceAdd,Nat.reduceLT,Nat.reduceLeDiff];done))), .inr ⟨[], _, _, _, rfl, rfl, Ints.top (zs := []) rfl (Nat.le_refl 0)⟩, fun hr => ?_⟩
        simp [resOf, refOK] at hr
      · have e0 : ((n : Int) == 0) = false := beq_eq_false_iff_ne.2 (by omega)
        simp (disch := first|(simp only [Nat.reduceBEq,wE];done)|((repeat' (first|assumption|exact mAx _|refine mBx ?_ ?_|exact mCx (by assumption)|refine mDx ?_|refine mEx ?_ ?_ ?_|exact mFx|refine mGx ?_ ?_ ?_|exact mHx|exact mIx _|(simp only [wM,Nat.reduceAdd,Nat.reduceLT,Nat.reduceLeDiff];done)));done)|omega|decide) only [e0, ↓wA,wB,wL,resOf,Nat.reduceBEq,Int.reduceBEq,Int.reduceBNe,Int.reduceLT,Int.reduceLE,Int.reduceAdd,Int.reduceSub,Int.reduceMul,Int.reduceToNat]
        exact ⟨_, rfl, by (repeat' (first|assumption|exact mAx _|refine mBx ?_ ?_|exact mCx (by assumption)|refine mDx ?_|refine mEx ?_ ?_ ?_|exact mFx|refine mGx ?_ ?_ ?_|exact mHx|exact mIx _|(simp only [wM,Nat.reduceAdd,Nat.reduceLT,Nat.reduceLeDiff];done))), .inl ⟨by simp [sqF, h0], rfl⟩, fun _ => rfl⟩) (fun v h1 g q => ⟨fun hr => (by
        have := q.2 hr
        subst this
        obtain R | ⟨l, id, len, cap, x1, x2, x3⟩ := q.1
        · exact ⟨.inl R, q.2⟩
        · cases x2), fun _ => q⟩)
  | k + 1, n, top, h, hk, h4, hn, hm => by
    exact evals_q c33 (fun v h' => RefL h'.blks v (sqF (k + 1) n top) ∧ (refOK h.next v = true → v = .nilsl)) rfl hk (by
      simp only [sf33, initS_cons, initS_nil]
      have ek : (((k + 1 : Nat) : Int) == 0) = false := beq_eq_false_iff_ne.2 (by omega)
      have ek1 : ((k + 1 : Nat) : Int) - 1 = k := by omega
      obtain ⟨M, hM⟩ : ∃ M, M = min top (isq n) := ⟨_, rfl⟩
      have hq := isq_100 hn
      have hMn : M ≤ isq n := by omega
      have hss := isq_spec n
      have hF : sqF (k + 1) n top = sqD (sqF k) k n (M + 1) := by rw [sqF, hM]
      simp (disch := first|(simp only [Nat.reduceBEq,wE];done)|((repeat' (first|assumption|exact mAx _|refine mBx ?_ ?_|exact mCx (by assumption)|refine mDx ?_|refine mEx ?_ ?_ ?_|exact mFx|refine mGx ?_ ?_ ?_|exact mHx|exact mIx _|(simp only [wM,Nat.reduceAdd,Nat.reduceLT,Nat.reduceLeDiff];done)));done)|omega|decide) only [ek, ↓wA,wB,wL,resOf,Nat.reduceBEq,Int.reduceBEq,Int.reduceBNe,Int.reduceLT,Int.reduceLE,Int.reduceAdd,Int.reduceSub,Int.reduceMul,Int.reduceToNat]
      refine wloop (fun mm ss => ∃ (a : Nat) (u8 u10 u12 u19 u32 u45 : AV), (mm = a) ∧ (M ≤ a ∧ a ≤ top) ∧ ss = { fr := [(0, .int .i64 n), (1, .int .i64 (k + 1 : Nat)), (2, .int .i64 top), (6, .nilsl), (7, .int .i64 a), (8, u8), (10, u10), (12, u12), (19, u19), (32, u32), (45, u45)], hp := h.en }) (top) ?_ ?_
      ·
        refine ⟨top, _, _, _, _, _, _, rfl, ⟨by omega, by omega⟩, rfl⟩
      rintro nB sB ⟨a, u8, u10, u12, u19, u32, u45, hnB, ⟨ha1, ha2⟩, rfl⟩
      have b0 := Nm.mul_bd 100 100 (x := (a : Int)) (y := a) (by omega) (by omega)
      simp (disch := first|(simp only [Nat.reduceBEq,wE];done)|((repeat' (first|assumption|exact mAx _|refine mBx ?_ ?_|exact mCx (by assumption)|refine mDx ?_|refine mEx ?_ ?_ ?_|exact mFx|refine mGx ?_ ?_ ?_|exact mHx|exact mIx _|(simp only [wM,Nat.reduceAdd,Nat.reduceLT,Nat.reduceLeDiff];done)));done)|omega|decide) only [↓wA,wB,wL,resOf,Nat.reduceBEq,Int.reduceBEq,Int.reduceBNe,Int.reduceLT,Int.reduceLE,Int.reduceAdd,Int.reduceSub,Int.reduceMul,Int.reduceToNat]
      have ecc : decide ((n : Int) < (a : Int) * a) = decide (n < a * a) := by
        rw [← Int.natCast_mul]
        by_cases hh : n < a * a
        · rw [decide_eq_true hh]; exact decide_eq_true (by omega)
        · rw [decide_eq_false hh]; exact decide_eq_false (by omega)
      by_cases hgt : n < a * a
      · rw [decide_eq_true hgt] at ecc
        have hlt : isq n < a := by
          rcases Nat.lt_or_ge (isq n) a with h | h
          · exact h
          · have := Nat.mul_le_mul h h
            omega
        obtain ⟨a, rfl⟩ : ∃ b, a = b + 1 := ⟨a - 1, by omega⟩
        have ea : ((a + 1 : Nat) : Int) - 1 = a := by omega
        simp (disch := first|(simp only [Nat.reduceBEq,wE];done)|((repeat' (first|assumption|exact mAx _|refine mBx ?_ ?_|exact mCx (by assumption)|refine mDx ?_|refine mEx ?_ ?_ ?_|exact mFx|refine mGx ?_ ?_ ?_|exact mHx|exact mIx _|(simp only [wM,Nat.reduceAdd,Nat.reduceLT,Nat.reduceLeDiff];done)));done)|omega|decide) only [ecc, ea, ↓wA,wB,wL,resOf,Nat.reduceBEq,Int.reduceBEq,Int.reduceBNe,Int.reduceLT,Int.reduceLE,Int.reduceAdd,Int.reduceSub,Int.reduceMul,Int.reduceToNat]
        refine ⟨_, ?_, a, _, _, _, _, _, _, rfl, ?_, rfl⟩
        · omega
        exact ⟨by omega, by omega⟩
      · rw [decide_eq_false hgt] at ecc
        have haM : a = M := by
          have : a ≤ isq n := by
            rcases Nat.lt_or_ge (isq n) a with h | h
            · have := Nat.mul_le_mul (show isq n + 1 ≤ a by omega) (show isq n + 1 ≤ a by omega)
              omega
            · exact h
          omega
        subst haM
        simp (disch := first|(simp only [Nat.reduceBEq,wE];done)|((repeat' (first|assumption|exact mAx _|refine mBx ?_ ?_|exact mCx (by assumption)|refine mDx ?_|refine mEx ?_ ?_ ?_|exact mFx|refine mGx ?_ ?_ ?_|exact mHx|exact mIx _|(simp only [wM,Nat.reduceAdd,Nat.reduceLT,Nat.reduceLeDiff];done)));done)|omega|decide) only [ecc, ↓wA,wB,wL,resOf,Nat.reduceBEq,Int.reduceBEq,Int.reduceBNe,Int.reduceLT,Int.reduceLE,Int.reduceAdd,Int.reduceSub,Int.reduceMul,Int.reduceToNat]
        refine wloop (fun mm ss => ∃ (m : Nat) (h1 : Hp) (u8 u10 u12 u19 u32 u45 : AV), (mm = m) ∧ (m ≤ a + 1 ∧ Grown h h1 ∧ sqD (sqF k) k n (a + 1) = sqD (sqF k) k n m) ∧ ss = { fr := [(0, .int .i64 n), (1, .int .i64 (k + 1 : Nat)), (2, .int .i64 top), (6, .nilsl), (7, .int .i64 ((m : Int) - 1)), (8, u8), (10, u10), (12, u12), (19, u19), (32, u32), (45, u45)], hp := h1 }) (a + 1) ?_ ?_
        ·
          refine ⟨a + 1, h.en, ?_⟩
          have e8 : ((a + 1 : Nat) : Int) - 1 = a := by omega
          rw [e8]
          exact ⟨_, _, _, _, _, _, rfl, ⟨Nat.le_refl _, by (repeat' (first|assumption|exact mAx _|refine mBx ?_ ?_|exact mCx (by assumption)|refine mDx ?_|refine mEx ?_ ?_ ?_|exact mFx|refine mGx ?_ ?_ ?_|exact mHx|exact mIx _|(simp only [wM,Nat.reduceAdd,Nat.reduceLT,Nat.reduceLeDiff];done))), rfl⟩, rfl⟩
        rintro nA sA ⟨m, h1, u8, u10, u12, u19, u32, u45, hnA, ⟨hm1, g1, hd⟩, rfl⟩
        have k1 := g1.ok hk
        have fin : sqD (sqF k) k n m = none → sqF (k + 1) n top = none := fun hh => by rw [hF, hd, hh]
        cases m with
        | zero =>
          simp (disch := first|(simp only [Nat.reduceBEq,wE];done)|((repeat' (first|assumption|exact mAx _|refine mBx ?_ ?_|exact mCx (by assumption)|refine mDx ?_|refine mEx ?_ ?_ ?_|exact mFx|refine mGx ?_ ?_ ?_|exact mHx|exact mIx _|(simp only [wM,Nat.reduceAdd,Nat.reduceLT,Nat.reduceLeDiff];done)));done)|omega|decide) only [↓wA,wB,wL,resOf,Nat.reduceBEq,Int.reduceBEq,Int.reduceBNe,Int.reduceLT,Int.reduceLE,Int.reduceAdd,Int.reduceSub,Int.reduceMul,Int.reduceToNat]
          exact ⟨_, rfl, g1, .inl ⟨fin rfl, rfl⟩, fun _ => rfl⟩
        | succ m =>
          have em : ((m + 1 : Nat) : Int) - 1 = m := by omega
          have hmm : m * m ≤ n := Nat.le_trans (Nat.mul_le_mul (show m ≤ isq n by omega) (show m ≤ isq n by omega)) hss.1
          have b1 := Nm.mul_bd 100 100 (x := ((k + 1 : Nat) : Int)) (y := m) (by omega) (by omega)
          have b2 := Nm.mul_bd 10000 100 (x := ((k + 1 : Nat) : Int) * m) (y := m) (by omega) (by omega)
          have b3 := Nm.mul_bd 100 100 (x := (m : Int)) (y := m) (by omega) (by omega)
          have e0 : decide ((0 : Int) ≤ m) = true := decide_eq_true (by omega)
          have es : (n : Int) - m * m = ((n - m * m : Nat) : Int) := by rw [← Int.natCast_mul]; omega
          have et : decide ((n : Int) ≤ ((k + 1 : Nat) : Int) * m * m) = decide (n ≤ (k + 1) * m * m) := by
            rw [← Int.natCast_mul, ← Int.natCast_mul]
            by_cases hh : n ≤ (k + 1) * m * m
            · rw [decide_eq_true hh]; exact decide_eq_true (by omega)
            · rw [decide_eq_false hh]; exact decide_eq_false (by omega)
          by_cases hh : n ≤ (k + 1) * m * m
          · rw [decide_eq_true hh] at et
            have hd2 : sqD (sqF k) k n (m + 1) = (match sqF k (n - m * m) m with | some l => some (m :: l) | none => sqD (sqF k) k n m) := by
              simp only [sqD, if_pos hh]
              try rfl
            rw [hd2] at hd
            simp (disch := first|(simp only [Nat.reduceBEq,wE];done)|((repeat' (first|assumption|exact mAx _|refine mBx ?_ ?_|exact mCx (by assumption)|refine mDx ?_|refine mEx ?_ ?_ ?_|exact mFx|refine mGx ?_ ?_ ?_|exact mHx|exact mIx _|(simp only [wM,Nat.reduceAdd,Nat.reduceLT,Nat.reduceLeDiff];done)));done)|omega|decide) only [em, e0, et, ↓wA,wB,wL,resOf,Nat.reduceBEq,Int.reduceBEq,Int.reduceBNe,Int.reduceLT,Int.reduceLE,Int.reduceAdd,Int.reduceSub,Int.reduceMul,Int.reduceToNat]
            simp (disch := first|(simp only [Nat.reduceBEq,wE];done)|((repeat' (first|assumption|exact mAx _|refine mBx ?_ ?_|exact mCx (by assumption)|refine mDx ?_|refine mEx ?_ ?_ ?_|exact mFx|refine mGx ?_ ?_ ?_|exact mHx|exact mIx _|(simp only [wM,Nat.reduceAdd,Nat.reduceLT,Nat.reduceLeDiff];done)));done)|omega|decide) only [em, es, ek1, ↓wA,wB,wL,resOf,Nat.reduceBEq,Int.reduceBEq,Int.reduceBNe,Int.reduceLT,Int.reduceLE,Int.reduceAdd,Int.reduceSub,Int.reduceMul,Int.reduceToNat]
            refine callE (f33 k (n - m * m) m h1 k1 (by omega) (by omega) (by omega)) ?_
            rintro v h2 ⟨g2, R2, _⟩
            have g2' : Grown h h2 := GrownR.trans g1 g2
            have k2 := g2'.ok hk
            obtain ⟨hs, rfl⟩ | ⟨l, id, len, cap, hs, hv, hI⟩ := R2
            · simp only [hs] at hd
              simp (disch := first|(simp only [Nat.reduceBEq,wE];done)|((repeat' (first|assumption|exact mAx _|refine mBx ?_ ?_|exact mCx (by assumption)|refine mDx ?_|refine mEx ?_ ?_ ?_|exact mFx|refine mGx ?_ ?_ ?_|exact mHx|exact mIx _|(simp only [wM,Nat.reduceAdd,Nat.reduceLT,Nat.reduceLeDiff];done)));done)|omega|decide) only [em, sBin_nil', ↓wA,wB,wL,resOf,Nat.reduceBEq,Int.reduceBEq,Int.reduceBNe,Int.reduceLT,Int.reduceLE,Int.reduceAdd,Int.reduceSub,Int.reduceMul,Int.reduceToNat]
              refine ⟨_, ?_, m, h2, _, _, _, _, _, _, rfl, ?_, rfl⟩
              · omega
              exact ⟨by omega, g2', hd⟩
            · simp only [hs] at hd
              have hl := sqF_len hs
              have g3 : Grown h { next := h2.next + 1, blks := (h2.next, { cells := ints .i64 [(m : Int)], ch := h2.next, wr := true }) :: h2.blks, loops := h2.loops, base := h2.base, esc := h2.esc } := GrownR.push g2' refsOK_ints (Nat.le_refl _)
              have O3 : Own h.next ((h2.next, { cells := ints .i64 [(m : Int)], ch := h2.next, wr := true }) :: h2.blks) .i64 (.sl h2.next 0 1 (some 1) 1) [(m : Int)] := Own.fresh (g2'.next) rfl rfl rfl (Nat.le_refl 1)
              obtain ⟨s', h', y1, y2, y3, y4⟩ := own_appI (x := v) (xs := iv l) hk g3 O3 (hI.sub (by (repeat' (first|assumption|exact mAx _|refine mBx ?_ ?_|exact mCx (by assumption)|refine mDx ?_|refine mEx ?_ ?_ ?_|exact mFx|refine mGx ?_ ?_ ?_|exact mHx|exact mIx _|(simp only [wM,Nat.reduceAdd,Nat.reduceLT,Nat.reduceLeDiff];done))))) (by simp [iv, hl]; omega)
              subst hv
              simp (disch := first|(simp only [Nat.reduceBEq,wE];done)|((repeat' (first|assumption|exact mAx _|refine mBx ?_ ?_|exact mCx (by assumption)|refine mDx ?_|refine mEx ?_ ?_ ?_|exact mFx|refine mGx ?_ ?_ ?_|exact mHx|exact mIx _|(simp only [wM,Nat.reduceAdd,Nat.reduceLT,Nat.reduceLeDiff];done)));done)|omega|decide) only [em, sBin_sl', y1, ↓wA,wB,wL,resOf,Nat.reduceBEq,Int.reduceBEq,Int.reduceBNe,Int.reduceLT,Int.reduceLE,Int.reduceAdd,Int.reduceSub,Int.reduceMul,Int.reduceToNat]
              have hlen : 0 < (iv (m :: l)).length := by simp [iv]
              refine ⟨_, rfl, y3, ?_, fun hr => ?_⟩
              · right
                obtain ⟨z, O⟩ := y2
                obtain ⟨z1, z2⟩ | ⟨id', b', cap', z2, z3⟩ := O
                · simp at z1
                · exact ⟨m :: l, id', _, cap', by rw [hF, hd], z2, by
                    have : Own h.next h'.blks .i64 s' (iv (m :: l)) := ⟨z, .inr ⟨id', b', cap', z2, z3⟩⟩
                    exact this.ints⟩
              · obtain ⟨z, O⟩ := y2
                obtain ⟨z1, z2⟩ | ⟨id', b', cap', z2, z3, z4, z5, z6⟩ := O
                · exact z2
                · have hr' : refOK h.next s' = true := hr
                  rw [z2] at hr'
                  simp only [refOK, Nat.blt_eq] at hr'
                  omega
          · rw [decide_eq_false hh] at et
            simp (disch := first|(simp only [Nat.reduceBEq,wE];done)|((repeat' (first|assumption|exact mAx _|refine mBx ?_ ?_|exact mCx (by assumption)|refine mDx ?_|refine mEx ?_ ?_ ?_|exact mFx|refine mGx ?_ ?_ ?_|exact mHx|exact mIx _|(simp only [wM,Nat.reduceAdd,Nat.reduceLT,Nat.reduceLeDiff];done)));done)|omega|decide) only [em, e0, et, ↓wA,wB,wL,resOf,Nat.reduceBEq,Int.reduceBEq,Int.reduceBNe,Int.reduceLT,Int.reduceLE,Int.reduceAdd,Int.reduceSub,Int.reduceMul,Int.reduceToNat]
            exact ⟨_, rfl, g1, .inl ⟨fin (by rw [sqD, if_neg hh]), rfl⟩, fun _ => rfl⟩) (fun v h1 g q => ⟨fun hr => (by
        have := q.2 hr
        subst this
        obtain R | ⟨l, id, len, cap, x1, x2, x3⟩ := q.1
        · exact ⟨.inl R, q.2⟩
        · cases x2), fun _ => q⟩)
end Go.Proofs.Ytpobklkllfokdaa
