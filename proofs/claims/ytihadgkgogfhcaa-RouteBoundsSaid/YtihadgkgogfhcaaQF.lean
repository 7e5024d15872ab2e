/- The reference's bound. -/
import Derived.Test.YtihadgkgogfhcaaQD
import Derived.Test.YtihadgkgogfhcaaRG
set_option linter.unusedSimpArgs false
set_option linter.unusedVariables false
set_option maxHeartbeats 8000000
set_option maxRecDepth 20000
namespace Go.Abs
def orI (a b : Int) : Int := IntKind.wrap .i64 ((BitVec.ofInt 64 a ||| BitVec.ofInt 64 b).toNat : Int)
theorem sBin_or {a b : Int} : sBin .or .no (.int .i64 a) (.int .i64 b) = some (.int .i64 (orI a b)) := (Eq.refl _).trans rfl
theorem sBin_shlN {a j : Nat} (hj : j ≤ 20) (ha : a * 2 ^ j ≤ 9223372036854775807) : sBin .shl .no (.int .i64 (a : Int)) (.int .i64 (j : Int)) = some (.int .i64 ((a * 2 ^ j : Nat) : Int)) := by
  have hm : min ((j : Int).toNat) IntKind.i64.bits = j := by rw [Int.toNat_natCast]; show min j 64 = j; omega
  simp only [sBin, abShift, hm]
  rw [if_neg (by omega)]
  have : (a : Int) * 2 ^ j = ((a * 2 ^ j : Nat) : Int) := by simp
  rw [this, wrap_i64 (by omega) (by omega)]
theorem sBin_shrN {a j : Nat} (hj : j ≤ 20) : sBin .shr .no (.int .i64 (a : Int)) (.int .i64 (j : Int)) = some (.int .i64 ((a / 2 ^ j : Nat) : Int)) := by
  have hm : min ((j : Int).toNat) IntKind.i64.bits = j := by rw [Int.toNat_natCast]; show min j 64 = j; omega
  simp only [sBin, abShift, hm]
  rw [if_neg (by omega), Int.fdiv_eq_ediv_of_nonneg _ (by have := Int.pow_pos (n := 2) (m := j) (by omega); omega)]
  simp
theorem sBin_shl1 {j : Nat} (hj : j ≤ 20) : sBin .shl .no (.int .i64 1) (.int .i64 (j : Int)) = some (.int .i64 ((2 ^ j : Nat) : Int)) := by
  have h2 : 2 ^ j ≤ 2 ^ 20 := Nat.pow_le_pow_right (by omega) hj
  have := sBin_shlN (a := 1) hj (by omega)
  rw [Nat.one_mul] at this
  exact this

theorem orI_nat {a b n : Nat} (hn : n ≤ 20) (ha : a < 2 ^ n) (hb : b < 2 ^ n) : orI (a : Int) (b : Int) = ((a ||| b : Nat) : Int) := by
  have h2 : 2 ^ n ≤ 2 ^ 20 := Nat.pow_le_pow_right (by omega) hn
  have hab := Nat.or_lt_two_pow ha hb
  have e1 : (BitVec.ofInt 64 (a : Int) ||| BitVec.ofInt 64 (b : Int)).toNat = a ||| b := by
    rw [BitVec.ofInt_natCast, BitVec.ofInt_natCast, BitVec.toNat_or, BitVec.toNat_ofNat, BitVec.toNat_ofNat, Nat.mod_eq_of_lt (by omega), Nat.mod_eq_of_lt (by omega)]
  unfold orI
  rw [e1, wrap_i64 (by omega) (by omega)]
theorem sBin_orN {a b n : Nat} (hn : n ≤ 20) (ha : a < 2 ^ n) (hb : b < 2 ^ n) : sBin .or .no (.int .i64 (a : Int)) (.int .i64 (b : Int)) = some (.int .i64 ((a ||| b : Nat) : Int)) := by
  rw [sBin_or, orI_nat hn ha hb]
end Go.Abs
namespace Go.Ro
theorem bneN {a b : Nat} (h : a ≠ b) : ((a : Int) != (b : Int)) = true := by simp; omega
theorem beqT {a b : Nat} (h : a = b) : ((a : Int) == (b : Int)) = true := by simp [h]
theorem beqF {a b : Nat} (h : a ≠ b) : ((a : Int) == (b : Int)) = false := by simp; omega
end Go.Ro
namespace Go.Proofs.Ytihadgkgogfhcaa
open Go Go.Abs Go.Pa Go.Ro

theorem f32 (n : Nat) (a : AV) (E : List (Int × Int)) (h : Hp) (hk : Hok h) (ha : Pairs h.blks a E) (hE : E.length ≤ 100) (h0 : 0 < n) (h8 : n ≤ 8) (hO : EdgeOK n E) :
    Evals Try.prog tab false (.func 32) [.int .i64 n, a] h (.int .i64 (if n < 2 ∨ dia E n = 8 then -1 else bndE E n), h) := by
  refine evals_pure c32 rfl hk ?_
  simp only [sf32, initS_cons, initS_nil]
  have D := fw_dist hO n (Nat.le_refl _)
  have two : 2 ^ n ≤ 2 ^ 8 := Nat.pow_le_pow_right (by omega) h8
  simp (disch := first|(simp only [Nat.reduceBEq,wE];done)|((repeat' (first|assumption|exact mAx _|refine mBx ?_ ?_|exact mCx (by assumption)|refine mDx ?_|refine mEx ?_ ?_ ?_|exact mFx|refine mGx ?_ ?_ ?_|exact mHx|exact mIx _|(simp only [wM,Nat.reduceAdd,Nat.reduceLT,Nat.reduceLeDiff];done)));done)|omega|decide) only [↓wA,wB,wL,resOf,Nat.reduceBEq,Int.reduceBEq,Int.reduceBNe,Int.reduceLT,Int.reduceLE,Int.reduceAdd,Int.reduceSub,Int.reduceMul,Int.reduceToNat]
  refine wloop (fun mm ss => ∃ (v d : Nat) (h1 : Hp) (u4 u8 u9 u10 u11 u12 u13 u14 u15 u16 u17 u20 u27 u34 u55 u65 u78 u81 u87 u115 : AV), (mm = n - v) ∧ (v ≤ n ∧ Grown h h1 ∧ Dia E n v 0 d ∧ (0 < v → 2 ≤ n) ∧ ∀ x, x < v → ∀ w, w < n → Rch E x n w) ∧ ss = { fr := [(0, .int .i64 n), (1, a), (4, u4), (5, .int .i64 d), (6, .int .i64 (mxN E n v)), (7, .int .i64 v), (8, u8), (9, u9), (10, u10), (11, u11), (12, u12), (13, u13), (14, u14), (15, u15), (16, u16), (17, u17), (20, u20), (27, u27), (34, u34), (55, u55), (65, u65), (78, u78), (81, u81), (87, u87), (115, u115)], hp := h1 }) (n) ?_ ?_
  ·
    refine ⟨0, 0, _, _, _, _, _, _, _, _, _, _, _, _, _, _, _, _, _, _, _, _, _, by omega, ⟨by omega, Grown.en, Dia.start, fun h => absurd h (by omega), fun x hx => absurd hx (by omega)⟩, rfl⟩
  rintro nA sA ⟨v, d, h1, u4, u8, u9, u10, u11, u12, u13, u14, u15, u16, u17, u20, u27, u34, u55, u65, u78, u81, u87, u115, hnA, ⟨hv, g1, hd, h2, hall⟩, rfl⟩
  have k1 := g1.ok hk
  have a1 := ha.sub (g1.sub hk)
  simp (disch := first|(simp only [Nat.reduceBEq,wE];done)|((repeat' (first|assumption|exact mAx _|refine mBx ?_ ?_|exact mCx (by assumption)|refine mDx ?_|refine mEx ?_ ?_ ?_|exact mFx|refine mGx ?_ ?_ ?_|exact mHx|exact mIx _|(simp only [wM,Nat.reduceAdd,Nat.reduceLT,Nat.reduceLeDiff];done)));done)|omega|decide) only [↓wA,wB,wL,resOf,Nat.reduceBEq,Int.reduceBEq,Int.reduceBNe,Int.reduceLT,Int.reduceLE,Int.reduceAdd,Int.reduceSub,Int.reduceMul,Int.reduceToNat]
  refine ifThen_intro (fun e => ?_) (fun e => ?_) <;> have eq := e <;> try simp [-List.getD_eq_getElem?_getD] at eq
  · have sh : sBin .shl .no (.int .i64 1) (.int .i64 (v : Int)) = some (.int .i64 ((2 ^ v : Nat) : Int)) := sBin_shl1 (by omega)
    simp (disch := first|(simp only [Nat.reduceBEq,wE];done)|((repeat' (first|assumption|exact mAx _|refine mBx ?_ ?_|exact mCx (by assumption)|refine mDx ?_|refine mEx ?_ ?_ ?_|exact mFx|refine mGx ?_ ?_ ?_|exact mHx|exact mIx _|(simp only [wM,Nat.reduceAdd,Nat.reduceLT,Nat.reduceLeDiff];done)));done)|omega|decide) only [e, sh, ↓wA,wB,wL,resOf,Nat.reduceBEq,Int.reduceBEq,Int.reduceBNe,Int.reduceLT,Int.reduceLE,Int.reduceAdd,Int.reduceSub,Int.reduceMul,Int.reduceToNat]
    refine wloop (fun mm ss => ∃ (r d R : Nat) (u4 u11 u12 u13 u14 u15 u16 u17 u20 u27 u34 u55 u65 u78 u81 u87 u115 : AV), (mm = n + 1 - r) ∧ (1 ≤ r ∧ r ≤ n + 1 ∧ Dia E n v (r - 1) d ∧ Rset E n v (r - 1) R) ∧ ss = { fr := [(0, .int .i64 n), (1, a), (4, u4), (5, .int .i64 d), (6, .int .i64 (mxN E n v)), (7, .int .i64 v), (8, .int .i64 R), (9, .int .i64 0), (10, .int .i64 r), (11, u11), (12, u12), (13, u13), (14, u14), (15, u15), (16, u16), (17, u17), (20, u20), (27, u27), (34, u34), (55, u55), (65, u65), (78, u78), (81, u81), (87, u87), (115, u115)], hp := h1 }) (n) ?_ ?_
    ·
      refine ⟨1, d, 2 ^ v, _, _, _, _, _, _, _, _, _, _, _, _, _, _, _, _, _, by omega, ⟨by omega, by omega, hd, Rset.start eq⟩, rfl⟩
    rintro nB sB ⟨r, d, R, u4, u11, u12, u13, u14, u15, u16, u17, u20, u27, u34, u55, u65, u78, u81, u87, u115, hnB, ⟨hr1, hr2, hd1, hR⟩, rfl⟩
    simp (disch := first|(simp only [Nat.reduceBEq,wE];done)|((repeat' (first|assumption|exact mAx _|refine mBx ?_ ?_|exact mCx (by assumption)|refine mDx ?_|refine mEx ?_ ?_ ?_|exact mFx|refine mGx ?_ ?_ ?_|exact mHx|exact mIx _|(simp only [wM,Nat.reduceAdd,Nat.reduceLT,Nat.reduceLeDiff];done)));done)|omega|decide) only [e, ↓wA,wB,wL,resOf,Nat.reduceBEq,Int.reduceBEq,Int.reduceBNe,Int.reduceLT,Int.reduceLE,Int.reduceAdd,Int.reduceSub,Int.reduceMul,Int.reduceToNat]
    refine ifThen_intro (fun e2 => ?_) (fun e2 => ?_) <;> have e2q := e2 <;> try simp [-List.getD_eq_getElem?_getD] at e2q
    · simp (disch := first|(simp only [Nat.reduceBEq,wE];done)|((repeat' (first|assumption|exact mAx _|refine mBx ?_ ?_|exact mCx (by assumption)|refine mDx ?_|refine mEx ?_ ?_ ?_|exact mFx|refine mGx ?_ ?_ ?_|exact mHx|exact mIx _|(simp only [wM,Nat.reduceAdd,Nat.reduceLT,Nat.reduceLeDiff];done)));done)|omega|decide) only [e, e2, ↓wA,wB,wL,resOf,Nat.reduceBEq,Int.reduceBEq,Int.reduceBNe,Int.reduceLT,Int.reduceLE,Int.reduceAdd,Int.reduceSub,Int.reduceMul,Int.reduceToNat]
      refine wloop (fun mm ss => ∃ (i X : Nat) (u4 u13 u14 u15 u16 u17 u20 u27 u34 u55 u65 u78 u81 u87 u115 : AV), (mm = E.length - i) ∧ (i ≤ E.length ∧ Mset E n R i X) ∧ ss = { fr := [(0, .int .i64 n), (1, a), (4, u4), (5, .int .i64 d), (6, .int .i64 (mxN E n v)), (7, .int .i64 v), (8, .int .i64 R), (9, .int .i64 0), (10, .int .i64 r), (11, .int .i64 X), (12, .int .i64 i), (13, u13), (14, u14), (15, u15), (16, u16), (17, u17), (20, u20), (27, u27), (34, u34), (55, u55), (65, u65), (78, u78), (81, u81), (87, u87), (115, u115)], hp := h1 }) (E.length) ?_ ?_
      ·
        refine ⟨0, R, _, _, _, _, _, _, _, _, _, _, _, _, _, _, _, by omega, ⟨by omega, Mset.start hR.lt⟩, rfl⟩
      rintro nC sC ⟨i, X, u4, u13, u14, u15, u16, u17, u20, u27, u34, u55, u65, u78, u81, u87, u115, hnC, ⟨hi, hX⟩, rfl⟩
      simp (disch := first|(simp only [Nat.reduceBEq,wE];done)|((repeat' (first|assumption|exact mAx _|refine mBx ?_ ?_|exact mCx (by assumption)|refine mDx ?_|refine mEx ?_ ?_ ?_|exact mFx|refine mGx ?_ ?_ ?_|exact mHx|exact mIx _|(simp only [wM,Nat.reduceAdd,Nat.reduceLT,Nat.reduceLeDiff];done)));done)|omega|decide) only [e, e2, a1.len, ↓wA,wB,wL,resOf,Nat.reduceBEq,Int.reduceBEq,Int.reduceBNe,Int.reduceLT,Int.reduceLE,Int.reduceAdd,Int.reduceSub,Int.reduceMul,Int.reduceToNat]
      refine ifThen_intro (fun e3 => ?_) (fun e3 => ?_) <;> have e3q := e3 <;> try simp [-List.getD_eq_getElem?_getD] at e3q
      · obtain ⟨x, y, exy, hx, hy⟩ := hO.nat e3q
        have f1 : (E.getD i (0, 0)).1 = (x : Int) := by rw [exy]
        have f2 : (E.getD i (0, 0)).2 = (y : Int) := by rw [exy]
        have tk := take_snoc e3q
        rw [exy] at tk
        have px : 2 ^ x < 2 ^ n := Nat.pow_lt_pow_right (by omega) hx
        have py : 2 ^ y < 2 ^ n := Nat.pow_lt_pow_right (by omega) hy
        have s1 : sBin .shr .no (.int .i64 (R : Int)) (.int .i64 (x : Int)) = some (.int .i64 ((R / 2 ^ x : Nat) : Int)) := sBin_shrN (by omega)
        have s2 : sBin .shr .no (.int .i64 (R : Int)) (.int .i64 (y : Int)) = some (.int .i64 ((R / 2 ^ y : Nat) : Int)) := sBin_shrN (by omega)
        have l1 : R / 2 ^ x < 2 ^ n := Nat.lt_of_le_of_lt (Nat.div_le_self _ _) hR.lt
        have l2 : R / 2 ^ y < 2 ^ n := Nat.lt_of_le_of_lt (Nat.div_le_self _ _) hR.lt
        have s3 := sBin_orN (show n ≤ 20 by omega) l1 l2
        have s4 : ∀ c, sBin .and c (.int .i64 ((R / 2 ^ x ||| R / 2 ^ y : Nat) : Int)) (.int .i64 1) = some (.int .i64 (((R / 2 ^ x ||| R / 2 ^ y : Nat) : Int) % 2)) := fun c => sBin_and1
        by_cases c : R.testBit x = true ∨ R.testBit y = true
        · have ct : (((R / 2 ^ x ||| R / 2 ^ y : Nat) : Int) % 2 == 1) = true := by
            have := or_mod.2 (c.imp bit_div.2 bit_div.2)
            simp only [beq_iff_eq]; omega
          have s5 : sBin .shl .no (.int .i64 1) (.int .i64 (x : Int)) = some (.int .i64 ((2 ^ x : Nat) : Int)) := sBin_shl1 (by omega)
          have s6 : sBin .shl .no (.int .i64 1) (.int .i64 (y : Int)) = some (.int .i64 ((2 ^ y : Nat) : Int)) := sBin_shl1 (by omega)
          have s7 := sBin_orN (show n ≤ 20 by omega) px py
          have s8 := sBin_orN (show n ≤ 20 by omega) hX.lt (Nat.or_lt_two_pow px py)
          simp (disch := first|(simp only [Nat.reduceBEq,wE];done)|((repeat' (first|assumption|exact mAx _|refine mBx ?_ ?_|exact mCx (by assumption)|refine mDx ?_|refine mEx ?_ ?_ ?_|exact mFx|refine mGx ?_ ?_ ?_|exact mHx|exact mIx _|(simp only [wM,Nat.reduceAdd,Nat.reduceLT,Nat.reduceLeDiff];done)));done)|omega|decide) only [e, e2, e3, a1.ix, a1.fa, a1.ld0, a1.ld1, f1, f2, s1, s2, s3, s4, ct, s5, s6, s7, s8, ↓wA,wB,wL,resOf,Nat.reduceBEq,Int.reduceBEq,Int.reduceBNe,Int.reduceLT,Int.reduceLE,Int.reduceAdd,Int.reduceSub,Int.reduceMul,Int.reduceToNat]
          refine ⟨_, ?_, i + 1, _, _, _, _, _, _, _, _, _, _, _, _, _, _, _, _, rfl, ?_, rfl⟩
          · omega
          exact ⟨by omega, hX.hit tk hx hy c⟩
        · have ct : (((R / 2 ^ x ||| R / 2 ^ y : Nat) : Int) % 2 == 1) = false := by
            have : ¬ (R / 2 ^ x ||| R / 2 ^ y) % 2 = 1 := fun h => c ((or_mod.1 h).imp bit_div.1 bit_div.1)
            simp only [beq_eq_false_iff_ne, ne_eq]; omega
          simp (disch := first|(simp only [Nat.reduceBEq,wE];done)|((repeat' (first|assumption|exact mAx _|refine mBx ?_ ?_|exact mCx (by assumption)|refine mDx ?_|refine mEx ?_ ?_ ?_|exact mFx|refine mGx ?_ ?_ ?_|exact mHx|exact mIx _|(simp only [wM,Nat.reduceAdd,Nat.reduceLT,Nat.reduceLeDiff];done)));done)|omega|decide) only [e, e2, e3, a1.ix, a1.fa, a1.ld0, a1.ld1, f1, f2, s1, s2, s3, s4, ct, ↓wA,wB,wL,resOf,Nat.reduceBEq,Int.reduceBEq,Int.reduceBNe,Int.reduceLT,Int.reduceLE,Int.reduceAdd,Int.reduceSub,Int.reduceMul,Int.reduceToNat]
          refine ⟨_, ?_, i + 1, _, _, _, _, _, _, _, _, _, _, _, _, _, _, _, _, rfl, ?_, rfl⟩
          · omega
          exact ⟨by omega, hX.miss tk c⟩
      · rw [show i = E.length by omega] at hX
        have hR' := hX.done hO eq hR
        have rr : r - 1 + 1 = r := by omega
        rw [rr] at hR'
        have hnew := hR.new (by rw [rr]; exact hR')
        rw [rr] at hnew
        by_cases c : X = R
        · have ct : ((X : Int) != (R : Int)) = false := by simp [c]
          have hno : ¬ ∃ w, w < n ∧ Exact E v w r := fun h => hnew.2 h c
          have hd2 := hd1.same hO (by rw [rr]; exact hno)
          rw [rr] at hd2
          simp (disch := first|(simp only [Nat.reduceBEq,wE];done)|((repeat' (first|assumption|exact mAx _|refine mBx ?_ ?_|exact mCx (by assumption)|refine mDx ?_|refine mEx ?_ ?_ ?_|exact mFx|refine mGx ?_ ?_ ?_|exact mHx|exact mIx _|(simp only [wM,Nat.reduceAdd,Nat.reduceLT,Nat.reduceLeDiff];done)));done)|omega|decide) only [e, e2, e3, ct, ↓wA,wB,wL,resOf,Nat.reduceBEq,Int.reduceBEq,Int.reduceBNe,Int.reduceLT,Int.reduceLE,Int.reduceAdd,Int.reduceSub,Int.reduceMul,Int.reduceToNat]
          refine ⟨_, ?_, r + 1, d, X, _, _, _, _, _, _, _, _, _, _, _, _, _, _, _, _, _, rfl, ?_, rfl⟩
          · omega
          exact ⟨by omega, by omega, hd2, hR'⟩
        · have ct : ((X : Int) != (R : Int)) = true := bneN c
          obtain ⟨w, hw, he⟩ := hnew.1 c
          have hd2 := hd1.more hO eq hw (by rw [rr]; exact he)
          rw [rr] at hd2
          have em : max (d : Int) (r : Int) = ((max d r : Nat) : Int) := by omega
          simp (disch := first|(simp only [Nat.reduceBEq,wE];done)|((repeat' (first|assumption|exact mAx _|refine mBx ?_ ?_|exact mCx (by assumption)|refine mDx ?_|refine mEx ?_ ?_ ?_|exact mFx|refine mGx ?_ ?_ ?_|exact mHx|exact mIx _|(simp only [wM,Nat.reduceAdd,Nat.reduceLT,Nat.reduceLeDiff];done)));done)|omega|decide) only [e, e2, e3, ct, em, ↓wA,wB,wL,resOf,Nat.reduceBEq,Int.reduceBEq,Int.reduceBNe,Int.reduceLT,Int.reduceLE,Int.reduceAdd,Int.reduceSub,Int.reduceMul,Int.reduceToNat]
          refine ⟨_, ?_, r + 1, max d r, X, _, _, _, _, _, _, _, _, _, _, _, _, _, _, _, _, _, rfl, ?_, rfl⟩
          · (clear ct em c hnew; omega)
          exact ⟨by omega, by omega, hd2, hR'⟩
    · rw [show r - 1 = n by omega] at hd1 hR
      have sn : sBin .shl .no (.int .i64 1) (.int .i64 (n : Int)) = some (.int .i64 ((2 ^ n : Nat) : Int)) := sBin_shl1 (by omega)
      have t0 := Nat.two_pow_pos n
      have en : ((2 ^ n : Nat) : Int) - 1 = ((2 ^ n - 1 : Nat) : Int) := by omega
      have rl := hR.lt
      by_cases c : R = 2 ^ n - 1
      · have ct : ((R : Int) != ((2 ^ n - 1 : Nat) : Int)) = false := by simp [c]
        by_cases c2 : n < 2
        · have c2t : decide ((n : Int) < 2) = true := decide_eq_true (by omega)
          simp (disch := first|(simp only [Nat.reduceBEq,wE];done)|((repeat' (first|assumption|exact mAx _|refine mBx ?_ ?_|exact mCx (by assumption)|refine mDx ?_|refine mEx ?_ ?_ ?_|exact mFx|refine mGx ?_ ?_ ?_|exact mHx|exact mIx _|(simp only [wM,Nat.reduceAdd,Nat.reduceLT,Nat.reduceLeDiff];done)));done)|omega|decide) only [e, e2, sn, en, ct, c2t, ↓wA,wB,wL,resOf,Nat.reduceBEq,Int.reduceBEq,Int.reduceBNe,Int.reduceLT,Int.reduceLE,Int.reduceAdd,Int.reduceSub,Int.reduceMul,Int.reduceToNat]
          refine ⟨_, rfl, ?_, g1⟩
          rw [if_pos (.inl c2)]
        · have c2t : decide ((n : Int) < 2) = false := decide_eq_false (by omega)
          have reach := hR.full.1 c
          simp (disch := first|(simp only [Nat.reduceBEq,wE];done)|((repeat' (first|assumption|exact mAx _|refine mBx ?_ ?_|exact mCx (by assumption)|refine mDx ?_|refine mEx ?_ ?_ ?_|exact mFx|refine mGx ?_ ?_ ?_|exact mHx|exact mIx _|(simp only [wM,Nat.reduceAdd,Nat.reduceLT,Nat.reduceLeDiff];done)));done)|omega|decide) only [e, e2, sn, en, ct, c2t, ↓wA,wB,wL,resOf,Nat.reduceBEq,Int.reduceBEq,Int.reduceBNe,Int.reduceLT,Int.reduceLE,Int.reduceAdd,Int.reduceSub,Int.reduceMul,Int.reduceToNat]
          refine wloop (fun mm ss => ∃ (w : Nat) (m : Int) (h1 : Hp) (u4 u8 u10 u11 u12 u13 u14 u16 u17 u20 u27 u34 u55 u65 u78 u81 u87 u115 : AV), (mm = n - w) ∧ (w ≤ n ∧ m = nb E v w ∧ Grown h h1) ∧ ss = { fr := [(0, .int .i64 n), (1, a), (4, u4), (5, .int .i64 d), (6, .int .i64 (mxN E n v)), (7, .int .i64 v), (8, u8), (9, .int .i64 m), (10, u10), (11, u11), (12, u12), (13, u13), (14, u14), (15, .int .i64 w), (16, u16), (17, u17), (20, u20), (27, u27), (34, u34), (55, u55), (65, u65), (78, u78), (81, u81), (87, u87), (115, u115)], hp := h1 }) (n) ?_ ?_
          ·
            refine ⟨0, _, _, _, _, _, _, _, _, _, _, _, _, _, _, _, _, _, _, _, _, by omega, ⟨by omega, rfl, g1⟩, rfl⟩
          clear a1 k1 g1 h1
          rintro nF sF ⟨w, m, h1, u4, u8, u10, u11, u12, u13, u14, u16, u17, u20, u27, u34, u55, u65, u78, u81, u87, u115, hnF, ⟨hw, hm, g1⟩, rfl⟩
          have nl := nb_le (E := E) (v := v) w
          simp (disch := first|(simp only [Nat.reduceBEq,wE];done)|((repeat' (first|assumption|exact mAx _|refine mBx ?_ ?_|exact mCx (by assumption)|refine mDx ?_|refine mEx ?_ ?_ ?_|exact mFx|refine mGx ?_ ?_ ?_|exact mHx|exact mIx _|(simp only [wM,Nat.reduceAdd,Nat.reduceLT,Nat.reduceLeDiff];done)));done)|omega|decide) only [e, e2, ↓wA,wB,wL,resOf,Nat.reduceBEq,Int.reduceBEq,Int.reduceBNe,Int.reduceLT,Int.reduceLE,Int.reduceAdd,Int.reduceSub,Int.reduceMul,Int.reduceToNat]
          refine ifThen_intro (fun e3 => ?_) (fun e3 => ?_) <;> have e3q := e3 <;> try simp [-List.getD_eq_getElem?_getD] at e3q
          · simp (disch := first|(simp only [Nat.reduceBEq,wE];done)|((repeat' (first|assumption|exact mAx _|refine mBx ?_ ?_|exact mCx (by assumption)|refine mDx ?_|refine mEx ?_ ?_ ?_|exact mFx|refine mGx ?_ ?_ ?_|exact mHx|exact mIx _|(simp only [wM,Nat.reduceAdd,Nat.reduceLT,Nat.reduceLeDiff];done)));done)|omega|decide) only [e, e2, e3, ↓wA,wB,wL,resOf,Nat.reduceBEq,Int.reduceBEq,Int.reduceBNe,Int.reduceLT,Int.reduceLE,Int.reduceAdd,Int.reduceSub,Int.reduceMul,Int.reduceToNat]
            refine wloop (fun mm ss => ∃ (i : Nat) (h1 : Hp) (u4 u8 u10 u11 u12 u13 u14 u17 u20 u27 u34 u55 u65 u78 u81 u87 u115 : AV), (mm = E.length - i) ∧ (i ≤ E.length ∧ Grown h h1 ∧ ¬ adjE (E.take i) v w) ∧ ss = { fr := [(0, .int .i64 n), (1, a), (4, u4), (5, .int .i64 d), (6, .int .i64 (mxN E n v)), (7, .int .i64 v), (8, u8), (9, .int .i64 m), (10, u10), (11, u11), (12, u12), (13, u13), (14, u14), (15, .int .i64 w), (16, .int .i64 i), (17, u17), (20, u20), (27, u27), (34, u34), (55, u55), (65, u65), (78, u78), (81, u81), (87, u87), (115, u115)], hp := h1 }) (E.length) ?_ ?_
            ·
              refine ⟨0, _, _, _, _, _, _, _, _, _, _, _, _, _, _, _, _, _, _, by omega, ⟨by omega, g1, by simp [adjE]⟩, rfl⟩
            clear g1 h1
            rintro nG sG ⟨i, h1, u4, u8, u10, u11, u12, u13, u14, u17, u20, u27, u34, u55, u65, u78, u81, u87, u115, hnG, ⟨hi, g1, hna⟩, rfl⟩
            have k1 := g1.ok hk
            have a1 := ha.sub (g1.sub hk)
            simp (disch := first|(simp only [Nat.reduceBEq,wE];done)|((repeat' (first|assumption|exact mAx _|refine mBx ?_ ?_|exact mCx (by assumption)|refine mDx ?_|refine mEx ?_ ?_ ?_|exact mFx|refine mGx ?_ ?_ ?_|exact mHx|exact mIx _|(simp only [wM,Nat.reduceAdd,Nat.reduceLT,Nat.reduceLeDiff];done)));done)|omega|decide) only [e, e2, e3, a1.len, ↓wA,wB,wL,resOf,Nat.reduceBEq,Int.reduceBEq,Int.reduceBNe,Int.reduceLT,Int.reduceLE,Int.reduceAdd,Int.reduceSub,Int.reduceMul,Int.reduceToNat]
            refine ifThen_intro (fun e4 => ?_) (fun e4 => ?_) <;> have e4q := e4 <;> try simp [-List.getD_eq_getElem?_getD] at e4q
            · obtain ⟨x, y, exy, hx, hy⟩ := hO.nat e4q
              have f1 : (E.getD i (0, 0)).1 = (x : Int) := by rw [exy]
              have f2 : (E.getD i (0, 0)).2 = (y : Int) := by rw [exy]
              have tk := take_snoc e4q
              rw [exy] at tk
              have hmem : ((x : Int), (y : Int)) ∈ E := by
                rw [← exy]
                simp [List.getD_eq_getElem?_getD, List.getElem?_eq_getElem e4q]
              have ge : Grown h { next := h1.next + 1, blks := (h1.next, { cells := [AV.int .i64 x, AV.int .i64 y], ch := h1.next, wr := true }) :: h1.blks, loops := h1.loops, base := h1.base, esc := h1.esc } := GrownR.push g1 rfl (Nat.le_refl _)
              have found : adjE E v w → (m + 1 : Int) = nb E v (w + 1) := fun h => by simp only [Ro.nb]; rw [if_pos h]; omega
              have next : ¬ (x = v ∧ y = w ∨ x = w ∧ y = v) → ¬ adjE (E.take (i + 1)) v w := fun hn hadj => by
                rw [tk] at hadj
                rcases hadj with hadj | hadj <;> rcases List.mem_append.1 hadj with hadj | hadj
                · exact hna (.inl hadj)
                · rw [List.mem_singleton, Prod.mk.injEq] at hadj
                  exact hn (.inl (by omega))
                · exact hna (.inr hadj)
                · rw [List.mem_singleton, Prod.mk.injEq] at hadj
                  exact hn (.inr (by omega))
              by_cases c3 : x = v
              · have c3t : ((x : Int) == (v : Int)) = true := beqT c3
                by_cases c4 : y = w
                · have c4t : ((y : Int) == (w : Int)) = true := beqT c4
                  simp (disch := first|(simp only [Nat.reduceBEq,wE];done)|((repeat' (first|assumption|exact mAx _|refine mBx ?_ ?_|exact mCx (by assumption)|refine mDx ?_|refine mEx ?_ ?_ ?_|exact mFx|refine mGx ?_ ?_ ?_|exact mHx|exact mIx _|(simp only [wM,Nat.reduceAdd,Nat.reduceLT,Nat.reduceLeDiff];done)));done)|omega|decide) only [e, e2, e3, e4, a1.ix, a1.lda, f1, f2, c3t, c4t, ↓wA,wB,wL,resOf,Nat.reduceBEq,Int.reduceBEq,Int.reduceBNe,Int.reduceLT,Int.reduceLE,Int.reduceAdd,Int.reduceSub,Int.reduceMul,Int.reduceToNat]
                  refine ⟨_, ?_, w + 1, _, _, _, _, _, _, _, _, _, _, _, _, _, _, _, _, _, _, _, _, rfl, ?_, rfl⟩
                  · omega
                  exact ⟨by omega, found (.inl (by rw [← c3, ← c4]; exact hmem)), ge⟩
                · have c4t : ((y : Int) == (w : Int)) = false := beqF c4
                  by_cases c5 : x = w
                  · have c5t : ((x : Int) == (w : Int)) = true := beqT c5
                    by_cases c6 : y = v
                    · exact absurd (show x = y by omega) (adj_lt hO (.inl hmem)).2.2
                    · have c6t : ((y : Int) == (v : Int)) = false := beqF c6
                      simp (disch := first|(simp only [Nat.reduceBEq,wE];done)|((repeat' (first|assumption|exact mAx _|refine mBx ?_ ?_|exact mCx (by assumption)|refine mDx ?_|refine mEx ?_ ?_ ?_|exact mFx|refine mGx ?_ ?_ ?_|exact mHx|exact mIx _|(simp only [wM,Nat.reduceAdd,Nat.reduceLT,Nat.reduceLeDiff];done)));done)|omega|decide) only [e, e2, e3, e4, a1.ix, a1.lda, f1, f2, c3t, c4t, c5t, c6t, ↓wA,wB,wL,resOf,Nat.reduceBEq,Int.reduceBEq,Int.reduceBNe,Int.reduceLT,Int.reduceLE,Int.reduceAdd,Int.reduceSub,Int.reduceMul,Int.reduceToNat]
                      refine ⟨_, ?_, i + 1, _, _, _, _, _, _, _, _, _, _, _, _, _, _, _, _, _, _, rfl, ?_, rfl⟩
                      · omega
                      exact ⟨by omega, ge, next (by omega)⟩
                  · have c5t : ((x : Int) == (w : Int)) = false := beqF c5
                    simp (disch := first|(simp only [Nat.reduceBEq,wE];done)|((repeat' (first|assumption|exact mAx _|refine mBx ?_ ?_|exact mCx (by assumption)|refine mDx ?_|refine mEx ?_ ?_ ?_|exact mFx|refine mGx ?_ ?_ ?_|exact mHx|exact mIx _|(simp only [wM,Nat.reduceAdd,Nat.reduceLT,Nat.reduceLeDiff];done)));done)|omega|decide) only [e, e2, e3, e4, a1.ix, a1.lda, f1, f2, c3t, c4t, c5t, ↓wA,wB,wL,resOf,Nat.reduceBEq,Int.reduceBEq,Int.reduceBNe,Int.reduceLT,Int.reduceLE,Int.reduceAdd,Int.reduceSub,Int.reduceMul,Int.reduceToNat]
                    refine ⟨_, ?_, i + 1, _, _, _, _, _, _, _, _, _, _, _, _, _, _, _, _, _, _, rfl, ?_, rfl⟩
                    · omega
                    exact ⟨by omega, ge, next (by omega)⟩
              · have c3t : ((x : Int) == (v : Int)) = false := beqF c3
                by_cases c5 : x = w
                · have c5t : ((x : Int) == (w : Int)) = true := beqT c5
                  by_cases c6 : y = v
                  · have c6t : ((y : Int) == (v : Int)) = true := beqT c6
                    simp (disch := first|(simp only [Nat.reduceBEq,wE];done)|((repeat' (first|assumption|exact mAx _|refine mBx ?_ ?_|exact mCx (by assumption)|refine mDx ?_|refine mEx ?_ ?_ ?_|exact mFx|refine mGx ?_ ?_ ?_|exact mHx|exact mIx _|(simp only [wM,Nat.reduceAdd,Nat.reduceLT,Nat.reduceLeDiff];done)));done)|omega|decide) only [e, e2, e3, e4, a1.ix, a1.lda, f1, f2, c3t, c5t, c6t, ↓wA,wB,wL,resOf,Nat.reduceBEq,Int.reduceBEq,Int.reduceBNe,Int.reduceLT,Int.reduceLE,Int.reduceAdd,Int.reduceSub,Int.reduceMul,Int.reduceToNat]
                    refine ⟨_, ?_, w + 1, _, _, _, _, _, _, _, _, _, _, _, _, _, _, _, _, _, _, _, _, rfl, ?_, rfl⟩
                    · omega
                    exact ⟨by omega, found (.inr (by rw [← c5, ← c6]; exact hmem)), ge⟩
                  · have c6t : ((y : Int) == (v : Int)) = false := beqF c6
                    simp (disch := first|(simp only [Nat.reduceBEq,wE];done)|((repeat' (first|assumption|exact mAx _|refine mBx ?_ ?_|exact mCx (by assumption)|refine mDx ?_|refine mEx ?_ ?_ ?_|exact mFx|refine mGx ?_ ?_ ?_|exact mHx|exact mIx _|(simp only [wM,Nat.reduceAdd,Nat.reduceLT,Nat.reduceLeDiff];done)));done)|omega|decide) only [e, e2, e3, e4, a1.ix, a1.lda, f1, f2, c3t, c5t, c6t, ↓wA,wB,wL,resOf,Nat.reduceBEq,Int.reduceBEq,Int.reduceBNe,Int.reduceLT,Int.reduceLE,Int.reduceAdd,Int.reduceSub,Int.reduceMul,Int.reduceToNat]
                    refine ⟨_, ?_, i + 1, _, _, _, _, _, _, _, _, _, _, _, _, _, _, _, _, _, _, rfl, ?_, rfl⟩
                    · omega
                    exact ⟨by omega, ge, next (by omega)⟩
                · have c5t : ((x : Int) == (w : Int)) = false := beqF c5
                  simp (disch := first|(simp only [Nat.reduceBEq,wE];done)|((repeat' (first|assumption|exact mAx _|refine mBx ?_ ?_|exact mCx (by assumption)|refine mDx ?_|refine mEx ?_ ?_ ?_|exact mFx|refine mGx ?_ ?_ ?_|exact mHx|exact mIx _|(simp only [wM,Nat.reduceAdd,Nat.reduceLT,Nat.reduceLeDiff];done)));done)|omega|decide) only [e, e2, e3, e4, a1.ix, a1.lda, f1, f2, c3t, c5t, ↓wA,wB,wL,resOf,Nat.reduceBEq,Int.reduceBEq,Int.reduceBNe,Int.reduceLT,Int.reduceLE,Int.reduceAdd,Int.reduceSub,Int.reduceMul,Int.reduceToNat]
                  refine ⟨_, ?_, i + 1, _, _, _, _, _, _, _, _, _, _, _, _, _, _, _, _, _, _, rfl, ?_, rfl⟩
                  · omega
                  exact ⟨by omega, ge, next (by omega)⟩
            · rw [List.take_of_length_le (by omega)] at hna
              simp (disch := first|(simp only [Nat.reduceBEq,wE];done)|((repeat' (first|assumption|exact mAx _|refine mBx ?_ ?_|exact mCx (by assumption)|refine mDx ?_|refine mEx ?_ ?_ ?_|exact mFx|refine mGx ?_ ?_ ?_|exact mHx|exact mIx _|(simp only [wM,Nat.reduceAdd,Nat.reduceLT,Nat.reduceLeDiff];done)));done)|omega|decide) only [e, e2, e3, e4, ↓wA,wB,wL,resOf,Nat.reduceBEq,Int.reduceBEq,Int.reduceBNe,Int.reduceLT,Int.reduceLE,Int.reduceAdd,Int.reduceSub,Int.reduceMul,Int.reduceToNat]
              refine ⟨_, ?_, w + 1, _, _, _, _, _, _, _, _, _, _, _, _, _, _, _, _, _, _, _, _, rfl, ?_, rfl⟩
              · omega
              refine ⟨by omega, ?_, g1⟩
              simp only [Ro.nb]
              rw [if_neg hna]
              omega
          · rw [show w = n by omega] at hm
            have em : max ((mxN E n v : Nat) : Int) m = ((mxN E n (v + 1) : Nat) : Int) := by rw [hm]; simp only [mxN]; omega
            simp (disch := first|(simp only [Nat.reduceBEq,wE];done)|((repeat' (first|assumption|exact mAx _|refine mBx ?_ ?_|exact mCx (by assumption)|refine mDx ?_|refine mEx ?_ ?_ ?_|exact mFx|refine mGx ?_ ?_ ?_|exact mHx|exact mIx _|(simp only [wM,Nat.reduceAdd,Nat.reduceLT,Nat.reduceLeDiff];done)));done)|omega|decide) only [e, e2, e3, em, ↓wA,wB,wL,resOf,Nat.reduceBEq,Int.reduceBEq,Int.reduceBNe,Int.reduceLT,Int.reduceLE,Int.reduceAdd,Int.reduceSub,Int.reduceMul,Int.reduceToNat]
            refine ⟨_, ?_, v + 1, d, _, _, _, _, _, _, _, _, _, _, _, _, _, _, _, _, _, _, _, _, _, rfl, ?_, rfl⟩
            · omega
            refine ⟨by omega, g1, hd1.next hO, fun _ => by omega, fun x hx => ?_⟩
            by_cases ex : x = v
            · subst ex; exact reach
            · exact hall x (by omega)
      · have ct : ((R : Int) != ((2 ^ n - 1 : Nat) : Int)) = true := bneN c
        simp (disch := first|(simp only [Nat.reduceBEq,wE];done)|((repeat' (first|assumption|exact mAx _|refine mBx ?_ ?_|exact mCx (by assumption)|refine mDx ?_|refine mEx ?_ ?_ ?_|exact mFx|refine mGx ?_ ?_ ?_|exact mHx|exact mIx _|(simp only [wM,Nat.reduceAdd,Nat.reduceLT,Nat.reduceLeDiff];done)));done)|omega|decide) only [e, e2, sn, en, ct, ↓wA,wB,wL,resOf,Nat.reduceBEq,Int.reduceBEq,Int.reduceBNe,Int.reduceLT,Int.reduceLE,Int.reduceAdd,Int.reduceSub,Int.reduceMul,Int.reduceToNat]
        refine ⟨_, rfl, ?_, g1⟩
        rw [if_pos (.inr (far_off hO h8 D eq fun h => c (hR.full.2 h)))]
  · have ev : v = n := by omega
    subst ev
    obtain ⟨de, d8⟩ := dia_eq hO h8 h0 D (fun x hx => hall x hx) hd
    have n2 := h2 h0
    have dp := dia_pos hO n2
    have dd : dia E v = (d : Int) := de
    have ml := mxN_le (E := E) (n := v) v
    have d1 : 1 ≤ d := by omega
    have q1 : ∀ c, sBin .quo c (.int .i64 ((v : Int) - 2 + d)) (.int .i64 (d : Int)) = some (.int .i64 (((v : Int) - 2 + d) / d)) := fun c => sBin_quo (by omega) (by omega) (by omega)
    have q2 : ∀ c, sBin .quo c (.int .i64 (((mxN E v v : Nat) : Int) + 1)) (.int .i64 2) = some (.int .i64 ((((mxN E v v : Nat) : Int) + 1) / 2)) := fun c => sBin_quo (by omega) (by omega) (by omega)
    simp (disch := first|(simp only [Nat.reduceBEq,wE];done)|((repeat' (first|assumption|exact mAx _|refine mBx ?_ ?_|exact mCx (by assumption)|refine mDx ?_|refine mEx ?_ ?_ ?_|exact mFx|refine mGx ?_ ?_ ?_|exact mHx|exact mIx _|(simp only [wM,Nat.reduceAdd,Nat.reduceLT,Nat.reduceLeDiff];done)));done)|omega|decide) only [e, q1, q2, ↓wA,wB,wL,resOf,Nat.reduceBEq,Int.reduceBEq,Int.reduceBNe,Int.reduceLT,Int.reduceLE,Int.reduceAdd,Int.reduceSub,Int.reduceMul,Int.reduceToNat]
    refine ⟨_, rfl, ?_, g1⟩
    rw [if_neg (by omega)]
    unfold bndE
    rw [dd]
    have x1 : (v : Int) - 1 + d - 1 = (v : Int) - 2 + d := by omega
    have x2 : ((most E v : Nat) : Int) + 2 - 1 = ((mxN E v v : Nat) : Int) + 1 := by unfold most; omega
    rw [x1, x2]
end Go.Proofs.Ytihadgkgogfhcaa
