/- The reference's division walked. -/
import Derived.Test.YtpobklkllfokdaaNM
set_option linter.unusedSimpArgs false
set_option linter.unusedVariables false
set_option maxHeartbeats 1000000
namespace Go.Nm
def candF (s : Qt) (n : Int) (i j k : Nat) : Int := candI (s.lst.getD k 0) n (i : Int) j k
def sumF (s : Qt) (n : Int) (i j : Nat) : Nat → Int
  | 0 => 0
  | k + 1 => sumF s n i j k + (s.lst.getD k 0 - candF s n i j k * n) * (s.lst.getD k 0 - candF s n i j k * n)
theorem cand_at {s : Qt} {n : Int} {i j : Nat} (hj : j < 16) : candQ s n (16 * i + j) = ⟨candF s n i j 0, candF s n i j 1, candF s n i j 2, candF s n i j 3⟩ := by
  have e1 : (16 * i + j) / 16 = i := by omega
  have e2 : (16 * i + j) % 16 = j := by omega
  simp only [candQ, e1, e2, candF]
  rfl
theorem cand_lst {s : Qt} {n : Int} {i j : Nat} (hj : j < 16) : (List.range 4).map (candF s n i j) = (candQ s n (16 * i + j)).lst := by
  rw [cand_at hj]; rfl
theorem sumF_4 {s : Qt} {n : Int} {i j : Nat} (hj : j < 16) : sumF s n i j 4 = s.gap n (candQ s n (16 * i + j)) := by
  rw [cand_at hj]
  have e : ∀ z v : Int, (z - v * n) * (z - v * n) = sqr (z - n * v) := fun z v => by unfold sqr; rw [Int.mul_comm v n]
  simp only [sumF, e, Qt.gap]
  have g0 : s.lst.getD 0 0 = s.a := rfl
  have g1 : s.lst.getD 1 0 = s.b := rfl
  have g2 : s.lst.getD 2 0 = s.c := rfl
  have g3 : s.lst.getD 3 0 = s.d := rfl
  rw [g0, g1, g2, g3]
  omega
theorem candF_bd {s : Qt} {n : Int} {i j k : Nat} (hs : s.bd 67108864) (hn : 1 ≤ n) (hi : i < 2) (hk : k < 4) :
    (-67108864 ≤ s.lst.getD k 0 ∧ s.lst.getD k 0 ≤ 67108864) ∧ (-67108868 ≤ belI (s.lst.getD k 0) n i ∧ belI (s.lst.getD k 0) n i ≤ 67108868) ∧ -(2 * n) ≤ s.lst.getD k 0 - candF s n i j k * n ∧ s.lst.getD k 0 - candF s n i j k * n ≤ 2 * n := by
  have hz : -67108864 ≤ s.lst.getD k 0 ∧ s.lst.getD k 0 ≤ 67108864 := by
    obtain ⟨s1, s2, s3, s4⟩ := hs
    rcases (by omega : k = 0 ∨ k = 1 ∨ k = 2 ∨ k = 3) with rfl | rfl | rfl | rfl
    · exact s1
    · exact s2
    · exact s3
    · exact s4
  refine ⟨hz, ?_⟩
  unfold candF
  generalize s.lst.getD k 0 = z at *
  obtain ⟨b1, b2, b3⟩ := belI_spec (p := z) (b := (i : Int)) hn (by omega)
  refine ⟨?_, ?_⟩
  · have hd1 : -67108864 ≤ z / n := (Int.le_ediv_iff_mul_le (by omega)).2 (by omega)
    have hd2 : z / n < 67108865 := Int.ediv_lt_of_lt_mul (by omega) (by omega)
    unfold belI
    split <;> omega
  · rcases candI_or (p := z) (n := n) (b := (i : Int)) (u := j) (k := k) with h | h <;> rw [h]
    · have : belI z n i * n = n * belI z n i := Int.mul_comm _ _
      omega
    · have : (belI z n i + 2) * n = n * belI z n i + 2 * n := by grind
      omega
theorem range_succ_map {f : Nat → Int} {k : Nat} : (List.range (k + 1)).map f = (List.range k).map f ++ [f k] := by
  rw [List.range_succ, List.map_append]; rfl
end Go.Nm
namespace Go.Proofs.Ytpobklkllfokdaa
open Go Go.Abs Go.Nm

theorem sumF_bd {s : Qt} {n : Int} {i j : Nat} (hs : s.bd 67108864) (hn : 1 ≤ n ∧ n ≤ 8388608) (hi : i < 2) : ∀ {k : Nat}, k ≤ 4 → 0 ≤ sumF s n i j k ∧ sumF s n i j k ≤ 281474976710656 * k
  | 0, _ => by simp [sumF]
  | k + 1, hk => by
    have ih := sumF_bd (j := j) hs hn hi (k := k) (by omega)
    obtain ⟨_, _, h1, h2⟩ := candF_bd (j := j) hs hn.1 hi (k := k) (by omega)
    have := Nm.mul_bd 16777216 16777216 (x := s.lst.getD k 0 - candF s n i j k * n) (y := s.lst.getD k 0 - candF s n i j k * n) (by omega) (by omega)
    have h0 := sq_nonneg' (s.lst.getD k 0 - candF s n i j k * n)
    simp only [sumF]
    omega
theorem sBin_shrN {c : EqC} {a : Int} {j : Nat} (h : 0 ≤ a) (hj : j < 64) : sBin .shr c (.int .i64 a) (.int .i64 j) = some (.int .i64 (a / 2 ^ j)) := by
  have hb : min ((j : Int)).toNat IntKind.i64.bits = j := by
    have : IntKind.i64.bits = 64 := rfl
    omega
  simp only [sBin, abShift, hb]
  rw [if_neg (by omega), Int.fdiv_eq_ediv_of_nonneg _ (by exact Int.le_of_lt (Int.pow_pos (by omega)))]

set_option maxRecDepth 100000 in
set_option maxHeartbeats 16000000 in
theorem f26 (x y : Qt) (h : Hp) (hk : Hok h) (hx : x.bd 2000) (hy : y.bd 2000) (ix : x.int) (iy : y.int) (h0 : y ≠ ⟨0, 0, 0, 0⟩) :
    Evals Try.prog tab false (.func 26) [(AV.ag [.int .i64 x.a, .int .i64 x.b, .int .i64 x.c, .int .i64 x.d]), (AV.ag [.int .i64 y.a, .int .i64 y.b, .int .i64 y.c, .int .i64 y.d])] h (.tu [(AV.ag [.int .i64 ((x.quo y)).a, .int .i64 ((x.quo y)).b, .int .i64 ((x.quo y)).c, .int .i64 ((x.quo y)).d]), (AV.ag [.int .i64 ((x.rem y)).a, .int .i64 ((x.rem y)).b, .int .i64 ((x.rem y)).c, .int .i64 ((x.rem y)).d])], h) := by
  refine evals_pure c26 rfl hk ?_
  simp only [sf26, initS_cons, initS_nil]
  have hn : 1 ≤ y.nrm ∧ y.nrm ≤ 8388608 := ⟨Qt.nrm_pos iy h0, by have := Qt.nrm_bd hy; omega⟩
  have hs : (x.mul y.conj).bd 67108864 := Qt.bd_mono (Qt.mul_bd hx (Qt.conj_bd hy)) (by omega)
  have hq : (x.quo y).bd 16777216 := Qt.bd_mono (Qt.quo_bd hn.1 (Qt.mul_bd hx (Qt.conj_bd hy))) (by omega)
  have hp : ((x.quo y).mul y).bd 1000000000000 := Qt.bd_mono (Qt.mul_bd (Qt.quo_bd hn.1 (Qt.mul_bd hx (Qt.conj_bd hy))) hy) (by omega)
  have iq : (x.quo y).int := Qt.quo_int
  have hquo := bestQ_quo (x := x) hn.1
  obtain ⟨s, es⟩ : ∃ s, s = x.mul y.conj := ⟨_, rfl⟩
  obtain ⟨n, en⟩ : ∃ n, n = y.nrm := ⟨_, rfl⟩
  rw [← es] at hs
  rw [← es, ← en] at hquo
  rw [← en] at hn
  simp (disch := first|(simp only [Nat.reduceBEq,wE];done)|((repeat' (first|assumption|exact mAx _|refine mBx ?_ ?_|exact mCx (by assumption)|refine mDx ?_|refine mEx ?_ ?_ ?_|exact mFx|refine mGx ?_ ?_ ?_|exact mHx|exact mIx _|(simp only [wM,Nat.reduceAdd,Nat.reduceLT,Nat.reduceLeDiff];done)));done)|omega|decide) only [↓wA,wB,wL,resOf,Nat.reduceBEq,Int.reduceBEq,Int.reduceBNe,Int.reduceLT,Int.reduceLE,Int.reduceAdd,Int.reduceSub,Int.reduceMul,Int.reduceToNat]
  refine callP (f21 y _ (by (repeat' (first|assumption|exact mAx _|refine mBx ?_ ?_|exact mCx (by assumption)|refine mDx ?_|refine mEx ?_ ?_ ?_|exact mFx|refine mGx ?_ ?_ ?_|exact mHx|exact mIx _|(simp only [wM,Nat.reduceAdd,Nat.reduceLT,Nat.reduceLeDiff];done)))) (Qt.bd_mono hy (by omega))) ?_
  simp (disch := first|(simp only [Nat.reduceBEq,wE];done)|((repeat' (first|assumption|exact mAx _|refine mBx ?_ ?_|exact mCx (by assumption)|refine mDx ?_|refine mEx ?_ ?_ ?_|exact mFx|refine mGx ?_ ?_ ?_|exact mHx|exact mIx _|(simp only [wM,Nat.reduceAdd,Nat.reduceLT,Nat.reduceLeDiff];done)));done)|omega|decide) only [↓wA,wB,wL,resOf,Nat.reduceBEq,Int.reduceBEq,Int.reduceBNe,Int.reduceLT,Int.reduceLE,Int.reduceAdd,Int.reduceSub,Int.reduceMul,Int.reduceToNat]
  refine callP (f24 x y.conj _ (by (repeat' (first|assumption|exact mAx _|refine mBx ?_ ?_|exact mCx (by assumption)|refine mDx ?_|refine mEx ?_ ?_ ?_|exact mFx|refine mGx ?_ ?_ ?_|exact mHx|exact mIx _|(simp only [wM,Nat.reduceAdd,Nat.reduceLT,Nat.reduceLeDiff];done)))) (Qt.bd_mono hx (by omega)) (Qt.conj_bd (Qt.bd_mono hy (by omega))) ix (Qt.conj_int iy)) ?_
  rw [← es]
  simp (disch := first|(simp only [Nat.reduceBEq,wE];done)|((repeat' (first|assumption|exact mAx _|refine mBx ?_ ?_|exact mCx (by assumption)|refine mDx ?_|refine mEx ?_ ?_ ?_|exact mFx|refine mGx ?_ ?_ ?_|exact mHx|exact mIx _|(simp only [wM,Nat.reduceAdd,Nat.reduceLT,Nat.reduceLeDiff];done)));done)|omega|decide) only [↓wA,wB,wL,resOf,Nat.reduceBEq,Int.reduceBEq,Int.reduceBNe,Int.reduceLT,Int.reduceLE,Int.reduceAdd,Int.reduceSub,Int.reduceMul,Int.reduceToNat]
  refine callE (f46 s _ (by (repeat' (first|assumption|exact mAx _|refine mBx ?_ ?_|exact mCx (by assumption)|refine mDx ?_|refine mEx ?_ ?_ ?_|exact mFx|refine mGx ?_ ?_ ?_|exact mHx|exact mIx _|(simp only [wM,Nat.reduceAdd,Nat.reduceLT,Nat.reduceLeDiff];done))))) ?_
  rintro p h1 ⟨g1, o1⟩
  have s1 := g1.sub (by (repeat' (first|assumption|exact mAx _|refine mBx ?_ ?_|exact mCx (by assumption)|refine mDx ?_|refine mEx ?_ ?_ ?_|exact mFx|refine mGx ?_ ?_ ?_|exact mHx|exact mIx _|(simp only [wM,Nat.reduceAdd,Nat.reduceLT,Nat.reduceLeDiff];done))))
  have gg1 : Grown h h1 := GrownR.trans (by (repeat' (first|assumption|exact mAx _|refine mBx ?_ ?_|exact mCx (by assumption)|refine mDx ?_|refine mEx ?_ ?_ ?_|exact mFx|refine mGx ?_ ?_ ?_|exact mHx|exact mIx _|(simp only [wM,Nat.reduceAdd,Nat.reduceLT,Nat.reduceLeDiff];done)))) g1
  have k1 := gg1.ok hk
  have hn1 : h.next + 1 + 1 + 1 + 1 ≤ h1.next := g1.next
  have V2 := Var.sub (Var.push (Var.push (Var.push (Var.top (bs := h.blks) (id := h.next) (cs := [.int .i64 x.a, .int .i64 x.b, .int .i64 x.c, .int .i64 x.d])) (n := h.next + 1) (b := { cells := [.int .i64 y.a, .int .i64 y.b, .int .i64 y.c, .int .i64 y.d], ch := h.next + 1, wr := true }) (by omega)) (n := h.next + 1 + 1) (b := { cells := [.int .i64 0, .int .i64 0, .int .i64 0, .int .i64 0], ch := h.next + 1 + 1, wr := true }) (by omega)) (n := h.next + 1 + 1 + 1) (b := { cells := [.int .i64 0, .int .i64 0, .int .i64 0, .int .i64 0], ch := h.next + 1 + 1 + 1, wr := true }) (by omega)) s1
  have V3 := Var.sub (Var.push (Var.push (Var.top (bs := (h.next, { cells := [.int .i64 x.a, .int .i64 x.b, .int .i64 x.c, .int .i64 x.d], ch := h.next, wr := true }) :: h.blks) (id := h.next + 1) (cs := [.int .i64 y.a, .int .i64 y.b, .int .i64 y.c, .int .i64 y.d])) (n := h.next + 1 + 1) (b := { cells := [.int .i64 0, .int .i64 0, .int .i64 0, .int .i64 0], ch := h.next + 1 + 1, wr := true }) (by omega)) (n := h.next + 1 + 1 + 1) (b := { cells := [.int .i64 0, .int .i64 0, .int .i64 0, .int .i64 0], ch := h.next + 1 + 1 + 1, wr := true }) (by omega)) s1
  have V4 := Var.sub (Var.push (Var.top (bs := (h.next + 1, { cells := [.int .i64 y.a, .int .i64 y.b, .int .i64 y.c, .int .i64 y.d], ch := h.next + 1, wr := true }) :: (h.next, { cells := [.int .i64 x.a, .int .i64 x.b, .int .i64 x.c, .int .i64 x.d], ch := h.next, wr := true }) :: h.blks) (id := h.next + 1 + 1) (cs := [.int .i64 0, .int .i64 0, .int .i64 0, .int .i64 0])) (n := h.next + 1 + 1 + 1) (b := { cells := [.int .i64 0, .int .i64 0, .int .i64 0, .int .i64 0], ch := h.next + 1 + 1 + 1, wr := true }) (by omega)) s1
  have V5 := Var.sub (Var.top (bs := (h.next + 1 + 1, { cells := [.int .i64 0, .int .i64 0, .int .i64 0, .int .i64 0], ch := h.next + 1 + 1, wr := true }) :: (h.next + 1, { cells := [.int .i64 y.a, .int .i64 y.b, .int .i64 y.c, .int .i64 y.d], ch := h.next + 1, wr := true }) :: (h.next, { cells := [.int .i64 x.a, .int .i64 x.b, .int .i64 x.c, .int .i64 x.d], ch := h.next, wr := true }) :: h.blks) (id := h.next + 1 + 1 + 1) (cs := [.int .i64 0, .int .i64 0, .int .i64 0, .int .i64 0])) s1
  obtain ⟨hpl, ⟨hp0, _⟩ | ⟨pi, pb, cap, rfl, p1, p2, p3, p4, p5⟩⟩ := o1
  · exact absurd hp0 (by show ¬ ((4 : Nat) = 0); omega)
  obtain ⟨p6, p7, _⟩ := HokR.get k1 p1
  have oP : ∀ bs, lkB bs pi = some pb → Ints bs .i64 (.sl pi 0 4 cap 1) s.lst := fun bs hb => OwnA.arr (c := 0) ⟨hpl, .inr ⟨pi, pb, cap, rfl, hb, p2, Nat.zero_le _, Nat.zero_le _, p5⟩⟩
  have hL : s.lst.length = 4 := rfl
  simp (disch := first|(simp only [Nat.reduceBEq,wE];done)|((repeat' (first|assumption|exact mAx _|refine mBx ?_ ?_|exact mCx (by assumption)|refine mDx ?_|refine mEx ?_ ?_ ?_|exact mFx|refine mGx ?_ ?_ ?_|exact mHx|exact mIx _|(simp only [wM,Nat.reduceAdd,Nat.reduceLT,Nat.reduceLeDiff];done)));done)|omega|decide) only [V3.ld, ↓wA,wB,wL,resOf,Nat.reduceBEq,Int.reduceBEq,Int.reduceBNe,Int.reduceLT,Int.reduceLE,Int.reduceAdd,Int.reduceSub,Int.reduceMul,Int.reduceToNat]
  refine callP (f22 y _ (by exact k1) (Qt.bd_mono hy (by omega))) ?_
  rw [← en]
  simp (disch := first|(simp only [Nat.reduceBEq,wE];done)|((repeat' (first|assumption|exact mAx _|refine mBx ?_ ?_|exact mCx (by assumption)|refine mDx ?_|refine mEx ?_ ?_ ?_|exact mFx|refine mGx ?_ ?_ ?_|exact mHx|exact mIx _|(simp only [wM,Nat.reduceAdd,Nat.reduceLT,Nat.reduceLeDiff];done)));done)|omega|decide) only [V2.ld, V3.ld, ↓wA,wB,wL,resOf,Nat.reduceBEq,Int.reduceBEq,Int.reduceBNe,Int.reduceLT,Int.reduceLE,Int.reduceAdd,Int.reduceSub,Int.reduceMul,Int.reduceToNat]
  refine wloop (fun mm ss => ∃ (i : Nat) (g : Int) (hh : Hp) (u12 u13 u14 u15 u16 u17 u18 u28 u32 u37 u94 : AV), (mm = 2 - i) ∧ (i ≤ 2 ∧ Grown h hh ∧ Var hh.blks h.next [.int .i64 x.a, .int .i64 x.b, .int .i64 x.c, .int .i64 x.d] ∧ Var hh.blks (h.next + 1) [.int .i64 y.a, .int .i64 y.b, .int .i64 y.c, .int .i64 y.d] ∧ Var hh.blks (h.next + 1 + 1) [.int .i64 0, .int .i64 0, .int .i64 0, .int .i64 0] ∧ Var hh.blks (h.next + 1 + 1 + 1) [.int .i64 0, .int .i64 0, .int .i64 0, .int .i64 0] ∧ lkB hh.blks pi = some pb ∧ Var hh.blks h1.next [.int .i64 (bestQ s n (16 * i)).a, .int .i64 (bestQ s n (16 * i)).b, .int .i64 (bestQ s n (16 * i)).c, .int .i64 (bestQ s n (16 * i)).d] ∧ (0 < i → g = s.gap n (bestQ s n (16 * i))) ∧ h1.next < hh.next) ∧ ss = { fr := [(0, (AV.ag [.int .i64 x.a, .int .i64 x.b, .int .i64 x.c, .int .i64 x.d])), (1, (AV.ag [.int .i64 y.a, .int .i64 y.b, .int .i64 y.c, .int .i64 y.d])), (2, .ptr h.next 0), (3, .ptr (h.next + 1) 0), (4, .ptr (h.next + 1 + 1) 0), (5, .ptr (h.next + 1 + 1 + 1) 0), (6, .sl pi 0 4 cap 1), (7, .int .i64 n), (8, .ptr h1.next 0), (9, .int .i64 g), (10, .bool (decide (0 < i))), (11, .int .i64 i), (12, u12), (13, u13), (14, u14), (15, u15), (16, u16), (17, u17), (18, u18), (28, u28), (32, u32), (37, u37), (94, u94)], hp := hh }) (2) ?_ ?_
  ·
    refine ⟨0, 0, _, _, _, _, _, _, _, _, _, _, _, _, by omega, ⟨by omega, by (repeat' (first|assumption|exact mAx _|refine mBx ?_ ?_|exact mCx (by assumption)|refine mDx ?_|refine mEx ?_ ?_ ?_|exact mFx|refine mGx ?_ ?_ ?_|exact mHx|exact mIx _|(simp only [wM,Nat.reduceAdd,Nat.reduceLT,Nat.reduceLeDiff];done))), Var.push V2 (by omega), Var.push V3 (by omega), Var.push V4 (by omega), Var.push V5 (by omega), by rw [lkB_push (by omega)]; exact p1, Var.top, fun hh => absurd hh (by omega), by simp only; omega⟩, rfl⟩
  rintro nA sA ⟨i, g, hh, u12, u13, u14, u15, u16, u17, u18, u28, u32, u37, u94, hnA, ⟨hi, gA, A2, A3, A4, A5, AP, A8, Ag, An⟩, rfl⟩
  have kA := gA.ok hk
  simp (disch := first|(simp only [Nat.reduceBEq,wE];done)|((repeat' (first|assumption|exact mAx _|refine mBx ?_ ?_|exact mCx (by assumption)|refine mDx ?_|refine mEx ?_ ?_ ?_|exact mFx|refine mGx ?_ ?_ ?_|exact mHx|exact mIx _|(simp only [wM,Nat.reduceAdd,Nat.reduceLT,Nat.reduceLeDiff];done)));done)|omega|decide) only [↓wA,wB,wL,resOf,Nat.reduceBEq,Int.reduceBEq,Int.reduceBNe,Int.reduceLT,Int.reduceLE,Int.reduceAdd,Int.reduceSub,Int.reduceMul,Int.reduceToNat]
  refine ifThen_intro (fun e => ?_) (fun e => ?_) <;> have eq := e <;> try simp [-List.getD_eq_getElem?_getD] at eq
  · simp (disch := first|(simp only [Nat.reduceBEq,wE];done)|((repeat' (first|assumption|exact mAx _|refine mBx ?_ ?_|exact mCx (by assumption)|refine mDx ?_|refine mEx ?_ ?_ ?_|exact mFx|refine mGx ?_ ?_ ?_|exact mHx|exact mIx _|(simp only [wM,Nat.reduceAdd,Nat.reduceLT,Nat.reduceLeDiff];done)));done)|omega|decide) only [e, e, ↓wA,wB,wL,resOf,Nat.reduceBEq,Int.reduceBEq,Int.reduceBNe,Int.reduceLT,Int.reduceLE,Int.reduceAdd,Int.reduceSub,Int.reduceMul,Int.reduceToNat]
    refine wloop (fun mm ss => ∃ (j : Nat) (g : Int) (hh : Hp) (u13 u14 u15 u16 u17 u18 u28 u32 u37 u94 : AV), (mm = 16 - j) ∧ (j ≤ 16 ∧ Grown h hh ∧ Var hh.blks h.next [.int .i64 x.a, .int .i64 x.b, .int .i64 x.c, .int .i64 x.d] ∧ Var hh.blks (h.next + 1) [.int .i64 y.a, .int .i64 y.b, .int .i64 y.c, .int .i64 y.d] ∧ Var hh.blks (h.next + 1 + 1) [.int .i64 0, .int .i64 0, .int .i64 0, .int .i64 0] ∧ Var hh.blks (h.next + 1 + 1 + 1) [.int .i64 0, .int .i64 0, .int .i64 0, .int .i64 0] ∧ lkB hh.blks pi = some pb ∧ Var hh.blks h1.next [.int .i64 (bestQ s n (16 * i + j)).a, .int .i64 (bestQ s n (16 * i + j)).b, .int .i64 (bestQ s n (16 * i + j)).c, .int .i64 (bestQ s n (16 * i + j)).d] ∧ (0 < 16 * i + j → g = s.gap n (bestQ s n (16 * i + j))) ∧ h1.next < hh.next) ∧ ss = { fr := [(0, (AV.ag [.int .i64 x.a, .int .i64 x.b, .int .i64 x.c, .int .i64 x.d])), (1, (AV.ag [.int .i64 y.a, .int .i64 y.b, .int .i64 y.c, .int .i64 y.d])), (2, .ptr h.next 0), (3, .ptr (h.next + 1) 0), (4, .ptr (h.next + 1 + 1) 0), (5, .ptr (h.next + 1 + 1 + 1) 0), (6, .sl pi 0 4 cap 1), (7, .int .i64 n), (8, .ptr h1.next 0), (9, .int .i64 g), (10, .bool (decide (0 < 16 * i + j))), (11, .int .i64 i), (12, .int .i64 j), (13, u13), (14, u14), (15, u15), (16, u16), (17, u17), (18, u18), (28, u28), (32, u32), (37, u37), (94, u94)], hp := hh }) (16) ?_ ?_
    ·
      have e16 : decide (0 < i) = decide (0 < 16 * i + 0) := by congr 1; apply propext; omega
      rw [e16]
      refine ⟨0, g, hh, _, _, _, _, _, _, _, _, _, _, by omega, ⟨by omega, gA, A2, A3, A4, A5, AP, A8, fun hm => Ag (by omega), An⟩, rfl⟩
    rintro nC sC ⟨j, g, hh, u13, u14, u15, u16, u17, u18, u28, u32, u37, u94, hnC, ⟨hj, gC, C2, C3, C4, C5, CP, C8, Cg, Cn⟩, rfl⟩
    have kC := gC.ok hk
    simp (disch := first|(simp only [Nat.reduceBEq,wE];done)|((repeat' (first|assumption|exact mAx _|refine mBx ?_ ?_|exact mCx (by assumption)|refine mDx ?_|refine mEx ?_ ?_ ?_|exact mFx|refine mGx ?_ ?_ ?_|exact mHx|exact mIx _|(simp only [wM,Nat.reduceAdd,Nat.reduceLT,Nat.reduceLeDiff];done)));done)|omega|decide) only [e, ↓wA,wB,wL,resOf,Nat.reduceBEq,Int.reduceBEq,Int.reduceBNe,Int.reduceLT,Int.reduceLE,Int.reduceAdd,Int.reduceSub,Int.reduceMul,Int.reduceToNat]
    refine ifThen_intro (fun e2 => ?_) (fun e2 => ?_) <;> have e2q := e2 <;> try simp [-List.getD_eq_getElem?_getD] at e2q
    · have hj' : j < 16 := by omega
      have hi' : i < 2 := by omega
      simp (disch := first|(simp only [Nat.reduceBEq,wE];done)|((repeat' (first|assumption|exact mAx _|refine mBx ?_ ?_|exact mCx (by assumption)|refine mDx ?_|refine mEx ?_ ?_ ?_|exact mFx|refine mGx ?_ ?_ ?_|exact mHx|exact mIx _|(simp only [wM,Nat.reduceAdd,Nat.reduceLT,Nat.reduceLeDiff];done)));done)|omega|decide) only [e, e2, e2, ↓wA,wB,wL,resOf,Nat.reduceBEq,Int.reduceBEq,Int.reduceBNe,Int.reduceLT,Int.reduceLE,Int.reduceAdd,Int.reduceSub,Int.reduceMul,Int.reduceToNat]
      refine wloop (fun mm ss => ∃ (k : Nat) (q : AV) (h2 : Hp) (u16 u17 u18 u28 u32 u37 u94 : AV), (mm = 4 - k) ∧ (k ≤ 4 ∧ Grown hh h2 ∧ Own hh.next h2.blks .i64 q ((List.range k).map (candF s n i j))) ∧ ss = { fr := [(0, (AV.ag [.int .i64 x.a, .int .i64 x.b, .int .i64 x.c, .int .i64 x.d])), (1, (AV.ag [.int .i64 y.a, .int .i64 y.b, .int .i64 y.c, .int .i64 y.d])), (2, .ptr h.next 0), (3, .ptr (h.next + 1) 0), (4, .ptr (h.next + 1 + 1) 0), (5, .ptr (h.next + 1 + 1 + 1) 0), (6, .sl pi 0 4 cap 1), (7, .int .i64 n), (8, .ptr h1.next 0), (9, .int .i64 g), (10, .bool (decide (0 < 16 * i + j))), (11, .int .i64 i), (12, .int .i64 j), (13, q), (14, .int .i64 (sumF s n i j k)), (15, .int .i64 k), (16, u16), (17, u17), (18, u18), (28, u28), (32, u32), (37, u37), (94, u94)], hp := h2 }) (4) ?_ ?_
      ·
        refine ⟨0, _, _, _, _, _, _, _, _, _, by omega, ⟨by omega, by (repeat' (first|assumption|exact mAx _|refine mBx ?_ ?_|exact mCx (by assumption)|refine mDx ?_|refine mEx ?_ ?_ ?_|exact mFx|refine mGx ?_ ?_ ?_|exact mHx|exact mIx _|(simp only [wM,Nat.reduceAdd,Nat.reduceLT,Nat.reduceLeDiff];done))), Own.fresh (zs := []) (cs := []) (len := 0) (cap := 0) (Nat.le_refl _) rfl rfl rfl (Nat.le_refl 0)⟩, rfl⟩
      rintro nE sE ⟨k, q, h2, u16, u17, u18, u28, u32, u37, u94, hnE, ⟨hk4, gE, oE⟩, rfl⟩
      have kE := gE.ok kC
      have sE := gE.sub kC
      have ip := oP _ (sE _ _ CP)
      have bS := sumF_bd (j := j) hs hn hi' hk4
      simp (disch := first|(simp only [Nat.reduceBEq,wE];done)|((repeat' (first|assumption|exact mAx _|refine mBx ?_ ?_|exact mCx (by assumption)|refine mDx ?_|refine mEx ?_ ?_ ?_|exact mFx|refine mGx ?_ ?_ ?_|exact mHx|exact mIx _|(simp only [wM,Nat.reduceAdd,Nat.reduceLT,Nat.reduceLeDiff];done)));done)|omega|decide) only [e, e2, ↓wA,wB,wL,resOf,Nat.reduceBEq,Int.reduceBEq,Int.reduceBNe,Int.reduceLT,Int.reduceLE,Int.reduceAdd,Int.reduceSub,Int.reduceMul,Int.reduceToNat]
      refine ifThen_intro (fun e3 => ?_) (fun e3 => ?_) <;> have e3q := e3 <;> try simp [-List.getD_eq_getElem?_getD] at e3q
      · obtain ⟨b1, b2, b3, b4⟩ := candF_bd (j := j) hs hn.1 hi' (k := k) (by omega)
        have bS' := sumF_bd (j := j) hs hn hi' (k := k + 1) (by omega)
        have hm1 := Nm.mul_bd 67108900 8388608 (x := candF s n i j k) (y := n) (by unfold candF candI; omega) (by omega)
        have hm2 := Nm.mul_bd 16777216 16777216 (x := s.lst.getD k 0 - candF s n i j k * n) (y := s.lst.getD k 0 - candF s n i j k * n) (by omega) (by omega)
        simp only [sumF] at bS'
        obtain ⟨s2, h3, y1, y2, y3, y4⟩ := own_app1 (v := candF s n i j k) kC gE oE (by simp; omega)
        have ec : belI (s.lst.getD k 0) n i + 2 * ((j : Int) / 2 ^ k % 2) = candF s n i j k := rfl
        have ip3 := oP _ (y3.sub kC _ _ CP)
        simp (disch := first|(simp only [Nat.reduceBEq,wE];done)|((repeat' (first|assumption|exact mAx _|refine mBx ?_ ?_|exact mCx (by assumption)|refine mDx ?_|refine mEx ?_ ?_ ?_|exact mFx|refine mGx ?_ ?_ ?_|exact mHx|exact mIx _|(simp only [wM,Nat.reduceAdd,Nat.reduceLT,Nat.reduceLeDiff];done)));done)|omega|decide) only [e, e2, e3, e3, ip.ix, ip.ld, ↓wA,wB,wL,resOf,Nat.reduceBEq,Int.reduceBEq,Int.reduceBNe,Int.reduceLT,Int.reduceLE,Int.reduceAdd,Int.reduceSub,Int.reduceMul,Int.reduceToNat]
        refine callP (f54 _ n _ _ (by exact kE) b1 hn (by omega)) ?_
        simp (disch := first|(simp only [Nat.reduceBEq,wE];done)|((repeat' (first|assumption|exact mAx _|refine mBx ?_ ?_|exact mCx (by assumption)|refine mDx ?_|refine mEx ?_ ?_ ?_|exact mFx|refine mGx ?_ ?_ ?_|exact mHx|exact mIx _|(simp only [wM,Nat.reduceAdd,Nat.reduceLT,Nat.reduceLeDiff];done)));done)|omega|decide) only [e, e2, e3, sBin_shrN (show (0 : Int) ≤ j by omega) (show k < 64 by omega), sBin_and1, ↓wA,wB,wL,resOf,Nat.reduceBEq,Int.reduceBEq,Int.reduceBNe,Int.reduceLT,Int.reduceLE,Int.reduceAdd,Int.reduceSub,Int.reduceMul,Int.reduceToNat]
        rw [ec]
        simp (disch := first|(simp only [Nat.reduceBEq,wE];done)|((repeat' (first|assumption|exact mAx _|refine mBx ?_ ?_|exact mCx (by assumption)|refine mDx ?_|refine mEx ?_ ?_ ?_|exact mFx|refine mGx ?_ ?_ ?_|exact mHx|exact mIx _|(simp only [wM,Nat.reduceAdd,Nat.reduceLT,Nat.reduceLeDiff];done)));done)|omega|decide) only [e, e2, e3, y1, ip3.ix, ip3.ld, ip.ix, ip.ld, ↓wA,wB,wL,resOf,Nat.reduceBEq,Int.reduceBEq,Int.reduceBNe,Int.reduceLT,Int.reduceLE,Int.reduceAdd,Int.reduceSub,Int.reduceMul,Int.reduceToNat]
        refine ⟨_, ?_, k + 1, _, _, _, _, _, _, _, _, _, rfl, ?_, rfl⟩
        · omega
        exact ⟨by omega, y3, by rw [range_succ_map]; exact y2⟩
      · have hk4' : k = 4 := by omega
        subst hk4'
        rw [cand_lst hj'] at oE
        obtain ⟨c, ec⟩ : ∃ c, c = candQ s n (16 * i + j) := ⟨_, rfl⟩
        have esum : sumF s n i j 4 = s.gap n c := by rw [sumF_4 hj', ec]
        have oq := oE.ints
        rw [← ec] at oq
        have gh : Grown h h2 := GrownR.trans gC gE
        have hE2 := gE.next
        have W2 := C2.sub sE
        have W3 := C3.sub sE
        have W4 := C4.sub sE
        have W5 := C5.sub sE
        have W8 := C8.sub sE
        have WP := sE _ _ CP
        rw [esum]
        simp (disch := first|(simp only [Nat.reduceBEq,wE];done)|((repeat' (first|assumption|exact mAx _|refine mBx ?_ ?_|exact mCx (by assumption)|refine mDx ?_|refine mEx ?_ ?_ ?_|exact mFx|refine mGx ?_ ?_ ?_|exact mHx|exact mIx _|(simp only [wM,Nat.reduceAdd,Nat.reduceLT,Nat.reduceLeDiff];done)));done)|omega|decide) only [e, e2, e3, e3, ↓wA,wB,wL,resOf,Nat.reduceBEq,Int.reduceBEq,Int.reduceBNe,Int.reduceLT,Int.reduceLE,Int.reduceAdd,Int.reduceSub,Int.reduceMul,Int.reduceToNat]
        refine callP (f55 _ c _ (by exact kE) oq) ?_
        by_cases hm : 0 < 16 * i + j
        · have hg := Cg hm
          by_cases l1 : s.gap n c < g
          · simp (disch := first|(simp only [Nat.reduceBEq,wE];done)|((repeat' (first|assumption|exact mAx _|refine mBx ?_ ?_|exact mCx (by assumption)|refine mDx ?_|refine mEx ?_ ?_ ?_|exact mFx|refine mGx ?_ ?_ ?_|exact mHx|exact mIx _|(simp only [wM,Nat.reduceAdd,Nat.reduceLT,Nat.reduceLeDiff];done)));done)|omega|decide) only [e, e2, e3, decide_eq_true hm, decide_eq_true l1, ↓wA,wB,wL,resOf,Nat.reduceBEq,Int.reduceBEq,Int.reduceBNe,Int.reduceLT,Int.reduceLE,Int.reduceAdd,Int.reduceSub,Int.reduceMul,Int.reduceToNat]
            rw [andT_pushB]
            refine stA hk gh W8 (by omega) rfl rfl rfl rfl rfl ?_
            intro bs1 X8 g3 K1 S1
            have X2 := K1.var W2 (by omega)
            have X3 := K1.var W3 (by omega)
            have X4 := K1.var W4 (by omega)
            have X5 := K1.var W5 (by omega)
            have XP := K1.k pi pb (by omega) WP (by omega)
            have hb : bestQ s n (16 * i + (j + 1)) = c := by
              rw [show 16 * i + (j + 1) = (16 * i + j) + 1 by omega, bestQ, ← ec]
              exact if_pos (.inr (.inl (by rw [← hg]; exact l1)))
            simp (disch := first|(simp only [Nat.reduceBEq,wE];done)|((repeat' (first|assumption|exact mAx _|refine mBx ?_ ?_|exact mCx (by assumption)|refine mDx ?_|refine mEx ?_ ?_ ?_|exact mFx|refine mGx ?_ ?_ ?_|exact mHx|exact mIx _|(simp only [wM,Nat.reduceAdd,Nat.reduceLT,Nat.reduceLeDiff];done)));done)|omega|decide) only [e, e2, e3, ↓wA,wB,wL,resOf,Nat.reduceBEq,Int.reduceBEq,Int.reduceBNe,Int.reduceLT,Int.reduceLE,Int.reduceAdd,Int.reduceSub,Int.reduceMul,Int.reduceToNat]
            refine ⟨_, ?_, j + 1, _, _, _, _, _, _, _, _, _, _, _, _, rfl, ?_, rfl⟩
            · omega
            exact ⟨by omega, by (repeat' (first|assumption|exact mAx _|refine mBx ?_ ?_|exact mCx (by assumption)|refine mDx ?_|refine mEx ?_ ?_ ?_|exact mFx|refine mGx ?_ ?_ ?_|exact mHx|exact mIx _|(simp only [wM,Nat.reduceAdd,Nat.reduceLT,Nat.reduceLeDiff];done))), Var.push X2 (by omega), Var.push X3 (by omega), Var.push X4 (by omega), Var.push X5 (by omega), by rw [lkB_push (by omega)]; exact XP, by rw [hb]; exact Var.push X8 (by omega), fun _ => by rw [hb], by simp only; omega⟩
          · by_cases l2 : s.gap n c = g
            · have l2' : (s.gap n c == g) = true := by simp [l2]
              simp (disch := first|(simp only [Nat.reduceBEq,wE];done)|((repeat' (first|assumption|exact mAx _|refine mBx ?_ ?_|exact mCx (by assumption)|refine mDx ?_|refine mEx ?_ ?_ ?_|exact mFx|refine mGx ?_ ?_ ?_|exact mHx|exact mIx _|(simp only [wM,Nat.reduceAdd,Nat.reduceLT,Nat.reduceLeDiff];done)));done)|omega|decide) only [e, e2, e3, decide_eq_true hm, decide_eq_false l1, l2', W8.ld, ↓wA,wB,wL,resOf,Nat.reduceBEq,Int.reduceBEq,Int.reduceBNe,Int.reduceLT,Int.reduceLE,Int.reduceAdd,Int.reduceSub,Int.reduceMul,Int.reduceToNat]
              refine callP (f43 c (bestQ s n (16 * i + j)) _ (by (repeat' (first|assumption|exact mAx _|refine mBx ?_ ?_|exact mCx (by assumption)|refine mDx ?_|refine mEx ?_ ?_ ?_|exact mFx|refine mGx ?_ ?_ ?_|exact mHx|exact mIx _|(simp only [wM,Nat.reduceAdd,Nat.reduceLT,Nat.reduceLeDiff];done))))) ?_
              by_cases l3 : c.lst < (bestQ s n (16 * i + j)).lst
              · simp (disch := first|(simp only [Nat.reduceBEq,wE];done)|((repeat' (first|assumption|exact mAx _|refine mBx ?_ ?_|exact mCx (by assumption)|refine mDx ?_|refine mEx ?_ ?_ ?_|exact mFx|refine mGx ?_ ?_ ?_|exact mHx|exact mIx _|(simp only [wM,Nat.reduceAdd,Nat.reduceLT,Nat.reduceLeDiff];done)));done)|omega|decide) only [e, e2, e3, decide_eq_true l3, decide_eq_true hm, decide_eq_false l1, l2', W8.ld, ↓wA,wB,wL,resOf,Nat.reduceBEq,Int.reduceBEq,Int.reduceBNe,Int.reduceLT,Int.reduceLE,Int.reduceAdd,Int.reduceSub,Int.reduceMul,Int.reduceToNat]
                rw [andT_pushB]
                refine stA hk gh W8 (by omega) rfl rfl rfl rfl rfl ?_
                intro bs1 X8 g3 K1 S1
                have X2 := K1.var W2 (by omega)
                have X3 := K1.var W3 (by omega)
                have X4 := K1.var W4 (by omega)
                have X5 := K1.var W5 (by omega)
                have XP := K1.k pi pb (by omega) WP (by omega)
                have hb : bestQ s n (16 * i + (j + 1)) = c := by
                  rw [show 16 * i + (j + 1) = (16 * i + j) + 1 by omega, bestQ, ← ec]
                  exact if_pos (.inr (.inr ⟨by rw [← hg]; exact l2, l3⟩))
                simp (disch := first|(simp only [Nat.reduceBEq,wE];done)|((repeat' (first|assumption|exact mAx _|refine mBx ?_ ?_|exact mCx (by assumption)|refine mDx ?_|refine mEx ?_ ?_ ?_|exact mFx|refine mGx ?_ ?_ ?_|exact mHx|exact mIx _|(simp only [wM,Nat.reduceAdd,Nat.reduceLT,Nat.reduceLeDiff];done)));done)|omega|decide) only [e, e2, e3, ↓wA,wB,wL,resOf,Nat.reduceBEq,Int.reduceBEq,Int.reduceBNe,Int.reduceLT,Int.reduceLE,Int.reduceAdd,Int.reduceSub,Int.reduceMul,Int.reduceToNat]
                refine ⟨_, ?_, j + 1, _, _, _, _, _, _, _, _, _, _, _, _, rfl, ?_, rfl⟩
                · omega
                exact ⟨by omega, by (repeat' (first|assumption|exact mAx _|refine mBx ?_ ?_|exact mCx (by assumption)|refine mDx ?_|refine mEx ?_ ?_ ?_|exact mFx|refine mGx ?_ ?_ ?_|exact mHx|exact mIx _|(simp only [wM,Nat.reduceAdd,Nat.reduceLT,Nat.reduceLeDiff];done))), Var.push X2 (by omega), Var.push X3 (by omega), Var.push X4 (by omega), Var.push X5 (by omega), by rw [lkB_push (by omega)]; exact XP, by rw [hb]; exact Var.push X8 (by omega), fun _ => by rw [hb], by simp only; omega⟩
              · have hb : bestQ s n (16 * i + (j + 1)) = bestQ s n (16 * i + j) := by
                  rw [show 16 * i + (j + 1) = (16 * i + j) + 1 by omega, bestQ, ← ec]
                  exact if_neg (fun hh => by rcases hh with hh | hh | hh; omega; exact l1 (by rw [hg]; exact hh); exact l3 hh.2)
                simp (disch := first|(simp only [Nat.reduceBEq,wE];done)|((repeat' (first|assumption|exact mAx _|refine mBx ?_ ?_|exact mCx (by assumption)|refine mDx ?_|refine mEx ?_ ?_ ?_|exact mFx|refine mGx ?_ ?_ ?_|exact mHx|exact mIx _|(simp only [wM,Nat.reduceAdd,Nat.reduceLT,Nat.reduceLeDiff];done)));done)|omega|decide) only [e, e2, e3, decide_eq_false l3, decide_eq_true hm, decide_eq_false l1, l2', W8.ld, ↓wA,wB,wL,resOf,Nat.reduceBEq,Int.reduceBEq,Int.reduceBNe,Int.reduceLT,Int.reduceLE,Int.reduceAdd,Int.reduceSub,Int.reduceMul,Int.reduceToNat]
                refine ⟨_, ?_, j + 1, _, _, _, _, _, _, _, _, _, _, _, _, rfl, ?_, rfl⟩
                · omega
                exact ⟨by omega, by (repeat' (first|assumption|exact mAx _|refine mBx ?_ ?_|exact mCx (by assumption)|refine mDx ?_|refine mEx ?_ ?_ ?_|exact mFx|refine mGx ?_ ?_ ?_|exact mHx|exact mIx _|(simp only [wM,Nat.reduceAdd,Nat.reduceLT,Nat.reduceLeDiff];done))), Var.push W2 (by omega), Var.push W3 (by omega), Var.push W4 (by omega), Var.push W5 (by omega), by rw [lkB_push (by omega)]; exact WP, by rw [hb]; exact Var.push W8 (by omega), fun _ => by rw [hb]; exact hg, by simp only; omega⟩
            · have l2' : (s.gap n c == g) = false := by simp [l2]
              have hb : bestQ s n (16 * i + (j + 1)) = bestQ s n (16 * i + j) := by
                rw [show 16 * i + (j + 1) = (16 * i + j) + 1 by omega, bestQ, ← ec]
                exact if_neg (fun hh => by rcases hh with hh | hh | hh; omega; exact l1 (by rw [hg]; exact hh); exact l2 (by rw [hg]; exact hh.1))
              simp (disch := first|(simp only [Nat.reduceBEq,wE];done)|((repeat' (first|assumption|exact mAx _|refine mBx ?_ ?_|exact mCx (by assumption)|refine mDx ?_|refine mEx ?_ ?_ ?_|exact mFx|refine mGx ?_ ?_ ?_|exact mHx|exact mIx _|(simp only [wM,Nat.reduceAdd,Nat.reduceLT,Nat.reduceLeDiff];done)));done)|omega|decide) only [e, e2, e3, decide_eq_true hm, decide_eq_false l1, l2', ↓wA,wB,wL,resOf,Nat.reduceBEq,Int.reduceBEq,Int.reduceBNe,Int.reduceLT,Int.reduceLE,Int.reduceAdd,Int.reduceSub,Int.reduceMul,Int.reduceToNat]
              refine ⟨_, ?_, j + 1, _, _, _, _, _, _, _, _, _, _, _, _, rfl, ?_, rfl⟩
              · omega
              exact ⟨by omega, by (repeat' (first|assumption|exact mAx _|refine mBx ?_ ?_|exact mCx (by assumption)|refine mDx ?_|refine mEx ?_ ?_ ?_|exact mFx|refine mGx ?_ ?_ ?_|exact mHx|exact mIx _|(simp only [wM,Nat.reduceAdd,Nat.reduceLT,Nat.reduceLeDiff];done))), Var.push W2 (by omega), Var.push W3 (by omega), Var.push W4 (by omega), Var.push W5 (by omega), by rw [lkB_push (by omega)]; exact WP, by rw [hb]; exact Var.push W8 (by omega), fun _ => by rw [hb]; exact hg, by simp only; omega⟩
        · simp (disch := first|(simp only [Nat.reduceBEq,wE];done)|((repeat' (first|assumption|exact mAx _|refine mBx ?_ ?_|exact mCx (by assumption)|refine mDx ?_|refine mEx ?_ ?_ ?_|exact mFx|refine mGx ?_ ?_ ?_|exact mHx|exact mIx _|(simp only [wM,Nat.reduceAdd,Nat.reduceLT,Nat.reduceLeDiff];done)));done)|omega|decide) only [e, e2, e3, decide_eq_false hm, ↓wA,wB,wL,resOf,Nat.reduceBEq,Int.reduceBEq,Int.reduceBNe,Int.reduceLT,Int.reduceLE,Int.reduceAdd,Int.reduceSub,Int.reduceMul,Int.reduceToNat]
          rw [andT_pushB]
          refine stA hk gh W8 (by omega) rfl rfl rfl rfl rfl ?_
          intro bs1 X8 g3 K1 S1
          have X2 := K1.var W2 (by omega)
          have X3 := K1.var W3 (by omega)
          have X4 := K1.var W4 (by omega)
          have X5 := K1.var W5 (by omega)
          have XP := K1.k pi pb (by omega) WP (by omega)
          have hb : bestQ s n (16 * i + (j + 1)) = c := by
            rw [show 16 * i + (j + 1) = (16 * i + j) + 1 by omega, bestQ, ← ec]
            exact if_pos (.inl (by omega))
          simp (disch := first|(simp only [Nat.reduceBEq,wE];done)|((repeat' (first|assumption|exact mAx _|refine mBx ?_ ?_|exact mCx (by assumption)|refine mDx ?_|refine mEx ?_ ?_ ?_|exact mFx|refine mGx ?_ ?_ ?_|exact mHx|exact mIx _|(simp only [wM,Nat.reduceAdd,Nat.reduceLT,Nat.reduceLeDiff];done)));done)|omega|decide) only [e, e2, e3, ↓wA,wB,wL,resOf,Nat.reduceBEq,Int.reduceBEq,Int.reduceBNe,Int.reduceLT,Int.reduceLE,Int.reduceAdd,Int.reduceSub,Int.reduceMul,Int.reduceToNat]
          refine ⟨_, ?_, j + 1, _, _, _, _, _, _, _, _, _, _, _, _, rfl, ?_, rfl⟩
          · omega
          exact ⟨by omega, by (repeat' (first|assumption|exact mAx _|refine mBx ?_ ?_|exact mCx (by assumption)|refine mDx ?_|refine mEx ?_ ?_ ?_|exact mFx|refine mGx ?_ ?_ ?_|exact mHx|exact mIx _|(simp only [wM,Nat.reduceAdd,Nat.reduceLT,Nat.reduceLeDiff];done))), Var.push X2 (by omega), Var.push X3 (by omega), Var.push X4 (by omega), Var.push X5 (by omega), by rw [lkB_push (by omega)]; exact XP, by rw [hb]; exact Var.push X8 (by omega), fun _ => by rw [hb], by simp only; omega⟩
    · have hj16 : j = 16 := by omega
      subst hj16
      have em : 16 * (i + 1) = 16 * i + 16 := by omega
      have e18 : decide (0 < 16 * i + 16) = true := decide_eq_true (by omega)
      simp (disch := first|(simp only [Nat.reduceBEq,wE];done)|((repeat' (first|assumption|exact mAx _|refine mBx ?_ ?_|exact mCx (by assumption)|refine mDx ?_|refine mEx ?_ ?_ ?_|exact mFx|refine mGx ?_ ?_ ?_|exact mHx|exact mIx _|(simp only [wM,Nat.reduceAdd,Nat.reduceLT,Nat.reduceLeDiff];done)));done)|omega|decide) only [e, e2, e2, e18, ↓wA,wB,wL,resOf,Nat.reduceBEq,Int.reduceBEq,Int.reduceBNe,Int.reduceLT,Int.reduceLE,Int.reduceAdd,Int.reduceSub,Int.reduceMul,Int.reduceToNat]
      refine ⟨_, ?_, i + 1, _, _, _, _, _, _, _, _, _, _, _, _, _, rfl, ?_, rfl⟩
      · omega
      exact ⟨by omega, gC, C2, C3, C4, C5, CP, by rw [em]; exact C8, fun _ => by rw [em]; exact Cg (by omega), Cn⟩
  · have hi2 : i = 2 := by omega
    subst hi2
    rw [show 16 * 2 = 32 from rfl, hquo] at A8
    simp (disch := first|(simp only [Nat.reduceBEq,wE];done)|((repeat' (first|assumption|exact mAx _|refine mBx ?_ ?_|exact mCx (by assumption)|refine mDx ?_|refine mEx ?_ ?_ ?_|exact mFx|refine mGx ?_ ?_ ?_|exact mHx|exact mIx _|(simp only [wM,Nat.reduceAdd,Nat.reduceLT,Nat.reduceLeDiff];done)));done)|omega|decide) only [e, e, A8.ld, A3.ld, ↓wA,wB,wL,resOf,Nat.reduceBEq,Int.reduceBEq,Int.reduceBNe,Int.reduceLT,Int.reduceLE,Int.reduceAdd,Int.reduceSub,Int.reduceMul,Int.reduceToNat]
    refine callP (f24 (x.quo y) y _ (by exact kA) hq (Qt.bd_mono hy (by omega)) iq iy) ?_
    obtain ⟨t1, t2, t3, t4⟩ := hp
    obtain ⟨x1, x2, x3, x4⟩ := hx
    simp (disch := first|(simp only [Nat.reduceBEq,wE];done)|((repeat' (first|assumption|exact mAx _|refine mBx ?_ ?_|exact mCx (by assumption)|refine mDx ?_|refine mEx ?_ ?_ ?_|exact mFx|refine mGx ?_ ?_ ?_|exact mHx|exact mIx _|(simp only [wM,Nat.reduceAdd,Nat.reduceLT,Nat.reduceLeDiff];done)));done)|omega|decide) only [e, A8.ld, A3.ld, A2.ld1, ↓wA,wB,wL,resOf,Nat.reduceBEq,Int.reduceBEq,Int.reduceBNe,Int.reduceLT,Int.reduceLE,Int.reduceAdd,Int.reduceSub,Int.reduceMul,Int.reduceToNat]
    rw [andT_pushB]
    refine stA hk gA A4 (by omega) rfl rfl rfl rfl rfl ?_
    intro bs1 X4 g3 K1 S1
    have X2 := K1.var A2 (by omega)
    have X3 := K1.var A3 (by omega)
    have X5 := K1.var A5 (by omega)
    have X8 := K1.var A8 (by omega)
    have gT : GrownR h (hh.next + 1) ((hh.next, { cells := [.int .i64 ((x.quo y).mul y).a, .int .i64 ((x.quo y).mul y).b, .int .i64 ((x.quo y).mul y).c, .int .i64 ((x.quo y).mul y).d], ch := hh.next, wr := true }) :: bs1) hh.loops := GrownR.push g3 rfl (Nat.le_refl _)
    simp (disch := first|(simp only [Nat.reduceBEq,wE];done)|((repeat' (first|assumption|exact mAx _|refine mBx ?_ ?_|exact mCx (by assumption)|refine mDx ?_|refine mEx ?_ ?_ ?_|exact mFx|refine mGx ?_ ?_ ?_|exact mHx|exact mIx _|(simp only [wM,Nat.reduceAdd,Nat.reduceLT,Nat.reduceLeDiff];done)));done)|omega|decide) only [e, X2.ld1, X8.ld, X3.ld, ↓wA,wB,wL,resOf,Nat.reduceBEq,Int.reduceBEq,Int.reduceBNe,Int.reduceLT,Int.reduceLE,Int.reduceAdd,Int.reduceSub,Int.reduceMul,Int.reduceToNat]
    refine stA hk gT (Var.push X5 (by omega)) (by omega) rfl rfl rfl rfl rfl ?_
    intro bs2 Y5 g4 K2 S2
    have Y4 := K2.var (Var.push X4 (by omega)) (by omega)
    have Y2 := K2.var (Var.push X2 (by omega)) (by omega)
    have Y8 := K2.var (Var.push X8 (by omega)) (by omega)
    have Y18 := K2.var Var.top (by omega)
    simp (disch := first|(simp only [Nat.reduceBEq,wE];done)|((repeat' (first|assumption|exact mAx _|refine mBx ?_ ?_|exact mCx (by assumption)|refine mDx ?_|refine mEx ?_ ?_ ?_|exact mFx|refine mGx ?_ ?_ ?_|exact mHx|exact mIx _|(simp only [wM,Nat.reduceAdd,Nat.reduceLT,Nat.reduceLeDiff];done)));done)|omega|decide) only [e, Y5.ld, Y4.ld, Y2.ld1, Y8.ld, Y18.ld1, X8.ld, X2.ld1, A8.ld, A2.ld1, ↓wA,wB,wL,resOf,Nat.reduceBEq,Int.reduceBEq,Int.reduceBNe,Int.reduceLT,Int.reduceLE,Int.reduceAdd,Int.reduceSub,Int.reduceMul,Int.reduceToNat]
    exact ⟨_, rfl, by simp [Qt.rem, Qt.sub], by (repeat' (first|assumption|exact mAx _|refine mBx ?_ ?_|exact mCx (by assumption)|refine mDx ?_|refine mEx ?_ ?_ ?_|exact mFx|refine mGx ?_ ?_ ?_|exact mHx|exact mIx _|(simp only [wM,Nat.reduceAdd,Nat.reduceLT,Nat.reduceLeDiff];done)))⟩
end Go.Proofs.Ytpobklkllfokdaa
