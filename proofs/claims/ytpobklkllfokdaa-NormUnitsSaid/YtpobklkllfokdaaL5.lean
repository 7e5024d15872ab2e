/- NormUnits. -/
import Derived.Test.YtpobklkllfokdaaNL
import Derived.Test.YtpobklkllfokdaaFNormUnits
set_option linter.unusedSimpArgs false
set_option linter.unusedVariables false
set_option maxHeartbeats 1000000
namespace Go.Nm
def u24 (i : Nat) : Qt := units24.getD i default
set_option maxRecDepth 100000 in
theorem u24_ord : (List.range 24).all (fun i => i == 0 || decide ((u24 (i - 1)).lst < (u24 i).lst)) = true := by decide +kernel
set_option maxRecDepth 100000 in
theorem u24_mul : (List.range 24).all (fun i => (List.range 24).all fun j => decide ((u24 i).mul (u24 j) ∈ units24)) = true := by decide +kernel
theorem u24_mem {i : Nat} (h : i < 24) : u24 i ∈ units24 := by
  have := units24_len
  unfold u24
  rw [List.getD_eq_getElem?_getD, List.getElem?_eq_getElem (by omega)]
  exact List.getElem_mem _
theorem u24_lt {i : Nat} (h : i < 24) (h0 : 0 < i) : (u24 (i - 1)).lst < (u24 i).lst := by
  have := List.all_eq_true.1 u24_ord i (List.mem_range.2 h)
  simp only [Bool.or_eq_true, beq_iff_eq, decide_eq_true_eq] at this
  rcases this with h | h
  · omega
  · exact h
theorem u24_mm {i j : Nat} (h : i < 24) (h' : j < 24) : (u24 i).mul (u24 j) ∈ units24 := by
  have := List.all_eq_true.1 (List.all_eq_true.1 u24_mul i (List.mem_range.2 h)) j (List.mem_range.2 h')
  simpa using this
theorem q_eq {x y : Qt} : (x.a == y.a && (x.b == y.b && (x.c == y.c && x.d == y.d))) = decide (x = y) := by
  by_cases h : x = y
  · subst h; simp
  · rw [decide_eq_false h]
    cases hb : (x.a == y.a && (x.b == y.b && (x.c == y.c && x.d == y.d)))
    · rfl
    · exfalso
      simp only [Bool.and_eq_true, beq_iff_eq] at hb
      exact h (Qt.ext' hb.1 hb.2.1 hb.2.2.1 hb.2.2.2)
end Go.Nm
namespace Go.Abs
open Go
theorem stO {h0 : Hp} {id off n nx m bb : Nat} {e : Bool} {bs : List (Nat × Blk)} {ls : List (Nat × LoopA)} {v : AV} {b : Blk} {vs : List AV} {K : AV → Hp → Prop} {tk : Tag K} (ho : Hok h0) (g : GrownR h0 m bs ls) (hV : lkB bs id = some b) (hid : h0.next ≤ id) (hch : h0.next ≤ b.ch) (hw : b.wr = true)
    (hp : v.parts = some vs) (hn : vs.length = n) (hl : off + n ≤ b.cells.length) (hc : vs.all AV.isCell = true) (hr : vs.any AV.hasRef = false) (hf : refsOK m vs = true)
    (H : ∀ bs', lkB bs' id = some { b with cells := splice b.cells off vs } → GrownR h0 m bs' ls → (∀ j d, j ≠ id → lkB bs j = some d → d.ch ≠ b.ch → lkB bs' j = some d) → K .any { next := nx, blks := bs', loops := ls, base := bb, esc := e }) :
    andT (sStore n { next := nx, blks := bs, loops := ls, base := bb, esc := e } v (.ptr id off)) K tk := by
  have gg : Grown h0 { next := m, blks := bs, loops := ls, base := bb, esc := e } := g
  obtain ⟨h', w1, w2, w3, w4⟩ := own_write (off := off) (vs := vs) ho gg hV hid hch hw (by omega) hc hf
  have hb : Nat.ble (off + vs.length) b.cells.length = true := Nat.ble_eq_true_of_le (by omega)
  have e0 : ∀ nx, Hp.write { next := nx, blks := bs, loops := ls, base := bb, esc := e } id off vs = some { next := nx, blks := setB (trunc bs b.ch id off) id { b with cells := splice b.cells off vs }, loops := ls, base := bb, esc := e } := by
    intro nx
    simp only [Hp.write, hV, hb, hc, hr, hw, Bool.and_self, cond_true, Bool.and_false, Bool.or_false]
  have e1 := e0 nx
  rw [e0 m] at w1
  obtain ⟨rfl⟩ : _ = h' := Option.some.inj w1
  have es : sStore n { next := nx, blks := bs, loops := ls, base := bb, esc := e } v (.ptr id off) = some (.any, { next := nx, blks := setB (trunc bs b.ch id off) id { b with cells := splice b.cells off vs }, loops := ls, base := bb, esc := e }) := by
    simp only [sStore, hp, hn, Nat.beq_refl, cond_true, e1, Option.map_some]
  rw [es]
  refine H _ w2 w3 fun j d hj hd hdc => ?_
  rw [lkB_setB_ne hj]
  exact lkB_trunc_ne hd hdc
end Go.Abs
namespace Go.Proofs.Ytpobklkllfokdaa
open Go Go.Abs Go.Nm
set_option maxRecDepth 100000 in
set_option maxHeartbeats 8000000 in
theorem f12 (x y : Int) (h : Hp) (hk : Hok h) (bx : 0 ≤ x ∧ x ≤ 255) (bY : 0 ≤ y ∧ y ≤ 255) : ∃ h', Evals Try.prog tab false (.func 12) [.int .u8 x, .int .u8 y] h (.bool true, h') := by
  refine ⟨h, evals_pure c12 rfl hk ?_⟩
  simp only [sf12, initS_cons, initS_nil]
  obtain ⟨i0, hi0⟩ : ∃ n : Nat, x % 24 = (n : Int) := ⟨(x % 24).toNat, by omega⟩
  obtain ⟨j0, hj0⟩ : ∃ n : Nat, y % 24 = (n : Int) := ⟨(y % 24).toNat, by omega⟩
  have hl := units24_len
  simp (disch := first|(simp only [Nat.reduceBEq,wE];done)|((repeat' (first|assumption|exact mAx _|refine mBx ?_ ?_|exact mCx (by assumption)|refine mDx ?_|refine mEx ?_ ?_ ?_|exact mFx|refine mGx ?_ ?_ ?_|exact mHx|exact mIx _|(simp only [wM,Nat.reduceAdd,Nat.reduceLT,Nat.reduceLeDiff];done)));done)|omega|decide) only [↓wA,wB,wL,resOf,Nat.reduceBEq,Int.reduceBEq,Int.reduceBNe,Int.reduceLT,Int.reduceLE,Int.reduceAdd,Int.reduceSub,Int.reduceMul,Int.reduceToNat]
  refine callE (f44 _ (by (repeat' (first|assumption|exact mAx _|refine mBx ?_ ?_|exact mCx (by assumption)|refine mDx ?_|refine mEx ?_ ?_ ?_|exact mFx|refine mGx ?_ ?_ ?_|exact mHx|exact mIx _|(simp only [wM,Nat.reduceAdd,Nat.reduceLT,Nat.reduceLeDiff];done))))) ?_
  rintro q h1 ⟨g1, o1⟩
  replace g1 : Grown h h1 := GrownR.of_en g1
  replace o1 : OwnQ h.next h1.blks q units24 := o1
  have k1 := g1.ok hk
  simp (disch := first|(simp only [Nat.reduceBEq,wE];done)|((repeat' (first|assumption|exact mAx _|refine mBx ?_ ?_|exact mCx (by assumption)|refine mDx ?_|refine mEx ?_ ?_ ?_|exact mFx|refine mGx ?_ ?_ ?_|exact mHx|exact mIx _|(simp only [wM,Nat.reduceAdd,Nat.reduceLT,Nat.reduceLeDiff];done)));done)|omega|decide) only [o1.quads.len, hl, ↓wA,wB,wL,resOf,Nat.reduceBEq,Int.reduceBEq,Int.reduceBNe,Int.reduceLT,Int.reduceLE,Int.reduceAdd,Int.reduceSub,Int.reduceMul,Int.reduceToNat]
  refine callP (f23 _ k1) ?_
  simp (disch := first|(simp only [Nat.reduceBEq,wE];done)|((repeat' (first|assumption|exact mAx _|refine mBx ?_ ?_|exact mCx (by assumption)|refine mDx ?_|refine mEx ?_ ?_ ?_|exact mFx|refine mGx ?_ ?_ ?_|exact mHx|exact mIx _|(simp only [wM,Nat.reduceAdd,Nat.reduceLT,Nat.reduceLeDiff];done)));done)|omega|decide) only [↓wA,wB,wL,resOf,Nat.reduceBEq,Int.reduceBEq,Int.reduceBNe,Int.reduceLT,Int.reduceLE,Int.reduceAdd,Int.reduceSub,Int.reduceMul,Int.reduceToNat]
  refine wloop (fun mm ss => ∃ (i : Nat) (h2 : Hp) (u7 u8 u9 u10 u11 u12 u13 u14 u15 u23 u25 u59 u98 : AV), (mm = 24 - i) ∧ (i ≤ 24 ∧ Grown h1 h2) ∧ ss = { fr := [(0, .int .u8 x), (1, .int .u8 y), (4, .bool false), (5, q), (6, .int .i64 i), (7, u7), (8, u8), (9, u9), (10, u10), (11, u11), (12, u12), (13, u13), (14, u14), (15, u15), (23, u23), (25, u25), (59, u59), (98, u98)], hp := h2 }) (24) ?_ ?_
  ·
    refine ⟨0, h1, _, _, _, _, _, _, _, _, _, _, _, _, _, by omega, ⟨by omega, Grown.refl⟩, rfl⟩
  rintro nA sA ⟨i, h2, u7, u8, u9, u10, u11, u12, u13, u14, u15, u23, u25, u59, u98, hnA, ⟨hi, g2⟩, rfl⟩
  have k2 := g2.ok k1
  have o2 := o1.sub (g2.sub k1)
  have q2 := o2.quads
  simp (disch := first|(simp only [Nat.reduceBEq,wE];done)|((repeat' (first|assumption|exact mAx _|refine mBx ?_ ?_|exact mCx (by assumption)|refine mDx ?_|refine mEx ?_ ?_ ?_|exact mFx|refine mGx ?_ ?_ ?_|exact mHx|exact mIx _|(simp only [wM,Nat.reduceAdd,Nat.reduceLT,Nat.reduceLeDiff];done)));done)|omega|decide) only [↓wA,wB,wL,resOf,Nat.reduceBEq,Int.reduceBEq,Int.reduceBNe,Int.reduceLT,Int.reduceLE,Int.reduceAdd,Int.reduceSub,Int.reduceMul,Int.reduceToNat]
  refine ifThen_intro (fun e => ?_) (fun e => ?_) <;> have eq := e <;> try simp [-List.getD_eq_getElem?_getD] at eq
  · have hm := mem_units (u24_mem (i := i) (by omega))
    have bu := unit_bd hm.1 hm.2
    have bu1 : (u24 i).bd 1000 := Qt.bd_nrm2 hm.1 (by omega)
    have lda := q2.lda (Sub.refl _) (i := i) (by omega)
    change aggV h2.blks q i 4 = some (AV.ag [.int .i64 ((u24 i)).a, .int .i64 ((u24 i)).b, .int .i64 ((u24 i)).c, .int .i64 ((u24 i)).d]) at lda
    have q3 : Quads ((h2.next, { cells := [.int .i64 (u24 i).a, .int .i64 (u24 i).b, .int .i64 (u24 i).c, .int .i64 (u24 i).d], ch := h2.next, wr := true }) :: h2.blks) q units24 := q2.sub (by (repeat' (first|assumption|exact mAx _|refine mBx ?_ ?_|exact mCx (by assumption)|refine mDx ?_|refine mEx ?_ ?_ ?_|exact mFx|refine mGx ?_ ?_ ?_|exact mHx|exact mIx _|(simp only [wM,Nat.reduceAdd,Nat.reduceLT,Nat.reduceLeDiff];done))))
    have lda3 := q3.lda (Sub.refl _) (i := i) (by omega)
    change aggV _ q i 4 = some (AV.ag [.int .i64 ((u24 i)).a, .int .i64 ((u24 i)).b, .int .i64 ((u24 i)).c, .int .i64 ((u24 i)).d]) at lda3
    simp (disch := first|(simp only [Nat.reduceBEq,wE];done)|((repeat' (first|assumption|exact mAx _|refine mBx ?_ ?_|exact mCx (by assumption)|refine mDx ?_|refine mEx ?_ ?_ ?_|exact mFx|refine mGx ?_ ?_ ?_|exact mHx|exact mIx _|(simp only [wM,Nat.reduceAdd,Nat.reduceLT,Nat.reduceLeDiff];done)));done)|omega|decide) only [e, e, q2.ix, lda, ↓wA,wB,wL,resOf,Nat.reduceBEq,Int.reduceBEq,Int.reduceBNe,Int.reduceLT,Int.reduceLE,Int.reduceAdd,Int.reduceSub,Int.reduceMul,Int.reduceToNat]
    refine callP (f20 _ [u24 i] _ (by (repeat' (first|assumption|exact mAx _|refine mBx ?_ ?_|exact mCx (by assumption)|refine mDx ?_|refine mEx ?_ ?_ ?_|exact mFx|refine mGx ?_ ?_ ?_|exact mHx|exact mIx _|(simp only [wM,Nat.reduceAdd,Nat.reduceLT,Nat.reduceLeDiff];done)))) oneQ (by simp)) ?_
    rw [err1 hm.1 bu1]
    simp (disch := first|(simp only [Nat.reduceBEq,wE];done)|((repeat' (first|assumption|exact mAx _|refine mBx ?_ ?_|exact mCx (by assumption)|refine mDx ?_|refine mEx ?_ ?_ ?_|exact mFx|refine mGx ?_ ?_ ?_|exact mHx|exact mIx _|(simp only [wM,Nat.reduceAdd,Nat.reduceLT,Nat.reduceLeDiff];done)));done)|omega|decide) only [e, q2.ix, q3.ix, lda, lda3, ↓wA,wB,wL,resOf,Nat.reduceBEq,Int.reduceBEq,Int.reduceBNe,Int.reduceLT,Int.reduceLE,Int.reduceAdd,Int.reduceSub,Int.reduceMul,Int.reduceToNat]
    refine callP (f22 (u24 i) _ (by (repeat' (first|assumption|exact mAx _|refine mBx ?_ ?_|exact mCx (by assumption)|refine mDx ?_|refine mEx ?_ ?_ ?_|exact mFx|refine mGx ?_ ?_ ?_|exact mHx|exact mIx _|(simp only [wM,Nat.reduceAdd,Nat.reduceLT,Nat.reduceLeDiff];done)))) (Qt.bd_mono bu1 (by omega))) ?_
    rw [hm.2]
    by_cases h0 : 0 < i
    · have e0 : decide ((0 : Int) < i) = true := decide_eq_true (by omega)
      have e5 : (i : Int) - 1 = ((i - 1 : Nat) : Int) := by omega
      have ldb := q2.lda (Sub.refl _) (i := i - 1) (by omega)
      change aggV h2.blks q (i - 1) 4 = some (AV.ag [.int .i64 ((u24 (i - 1))).a, .int .i64 ((u24 (i - 1))).b, .int .i64 ((u24 (i - 1))).c, .int .i64 ((u24 (i - 1))).d]) at ldb
      have ldb3 := q3.lda (Sub.refl _) (i := i - 1) (by omega)
      change aggV _ q (i - 1) 4 = some (AV.ag [.int .i64 ((u24 (i - 1))).a, .int .i64 ((u24 (i - 1))).b, .int .i64 ((u24 (i - 1))).c, .int .i64 ((u24 (i - 1))).d]) at ldb3
      simp (disch := first|(simp only [Nat.reduceBEq,wE];done)|((repeat' (first|assumption|exact mAx _|refine mBx ?_ ?_|exact mCx (by assumption)|refine mDx ?_|refine mEx ?_ ?_ ?_|exact mFx|refine mGx ?_ ?_ ?_|exact mHx|exact mIx _|(simp only [wM,Nat.reduceAdd,Nat.reduceLT,Nat.reduceLeDiff];done)));done)|omega|decide) only [e, e0, e5, q2.ix, q3.ix, lda, lda3, ldb, ldb3, ↓wA,wB,wL,resOf,Nat.reduceBEq,Int.reduceBEq,Int.reduceBNe,Int.reduceLT,Int.reduceLE,Int.reduceAdd,Int.reduceSub,Int.reduceMul,Int.reduceToNat]
      refine callP (f43 (u24 (i - 1)) (u24 i) _ (by (repeat' (first|assumption|exact mAx _|refine mBx ?_ ?_|exact mCx (by assumption)|refine mDx ?_|refine mEx ?_ ?_ ?_|exact mFx|refine mGx ?_ ?_ ?_|exact mHx|exact mIx _|(simp only [wM,Nat.reduceAdd,Nat.reduceLT,Nat.reduceLeDiff];done))))) ?_
      simp (disch := first|(simp only [Nat.reduceBEq,wE];done)|((repeat' (first|assumption|exact mAx _|refine mBx ?_ ?_|exact mCx (by assumption)|refine mDx ?_|refine mEx ?_ ?_ ?_|exact mFx|refine mGx ?_ ?_ ?_|exact mHx|exact mIx _|(simp only [wM,Nat.reduceAdd,Nat.reduceLT,Nat.reduceLeDiff];done)));done)|omega|decide) only [e, decide_eq_true (u24_lt (i := i) (by omega) h0), e0, e5, q2.ix, q3.ix, lda, lda3, ldb, ldb3, ↓wA,wB,wL,resOf,Nat.reduceBEq,Int.reduceBEq,Int.reduceBNe,Int.reduceLT,Int.reduceLE,Int.reduceAdd,Int.reduceSub,Int.reduceMul,Int.reduceToNat]
      refine ⟨_, ?_, i + 1, _, _, _, _, _, _, _, _, _, _, _, _, _, _, rfl, ?_, rfl⟩
      · omega
      exact ⟨by omega, by (repeat' (first|assumption|exact mAx _|refine mBx ?_ ?_|exact mCx (by assumption)|refine mDx ?_|refine mEx ?_ ?_ ?_|exact mFx|refine mGx ?_ ?_ ?_|exact mHx|exact mIx _|(simp only [wM,Nat.reduceAdd,Nat.reduceLT,Nat.reduceLeDiff];done)))⟩
    · have e0 : decide ((0 : Int) < i) = false := decide_eq_false (by omega)
      simp (disch := first|(simp only [Nat.reduceBEq,wE];done)|((repeat' (first|assumption|exact mAx _|refine mBx ?_ ?_|exact mCx (by assumption)|refine mDx ?_|refine mEx ?_ ?_ ?_|exact mFx|refine mGx ?_ ?_ ?_|exact mHx|exact mIx _|(simp only [wM,Nat.reduceAdd,Nat.reduceLT,Nat.reduceLeDiff];done)));done)|omega|decide) only [e, e0, q2.ix, q3.ix, lda, lda3, ↓wA,wB,wL,resOf,Nat.reduceBEq,Int.reduceBEq,Int.reduceBNe,Int.reduceLT,Int.reduceLE,Int.reduceAdd,Int.reduceSub,Int.reduceMul,Int.reduceToNat]
      refine ⟨_, ?_, i + 1, _, _, _, _, _, _, _, _, _, _, _, _, _, _, rfl, ?_, rfl⟩
      · omega
      exact ⟨by omega, by (repeat' (first|assumption|exact mAx _|refine mBx ?_ ?_|exact mCx (by assumption)|refine mDx ?_|refine mEx ?_ ?_ ?_|exact mFx|refine mGx ?_ ?_ ?_|exact mHx|exact mIx _|(simp only [wM,Nat.reduceAdd,Nat.reduceLT,Nat.reduceLeDiff];done)))⟩
  · have m1 := mem_units (u24_mem (i := i0) (by omega))
    have m2 := mem_units (u24_mem (i := j0) (by omega))
    have b1 := Qt.bd_nrm2 m1.1 (by omega)
    have b2 := Qt.bd_nrm2 m2.1 (by omega)
    have c1 := Qt.conj_int m1.1
    have bc1 := Qt.conj_bd b1
    have hM := u24_mm (i := i0) (j := j0) (by omega) (by omega)
    have ei : units24.getD i0 default = u24 i0 := rfl
    have ej : units24.getD j0 default = u24 j0 := rfl
    have en : (u24 i0).mul (u24 i0).conj = ⟨2, 0, 0, 0⟩ := by rw [Qt.mul_conj m1.1, m1.2]; rfl
    have hi24 : i = 24 := by omega
    subst hi24
    simp (disch := first|(simp only [Nat.reduceBEq,wE];done)|((repeat' (first|assumption|exact mAx _|refine mBx ?_ ?_|exact mCx (by assumption)|refine mDx ?_|refine mEx ?_ ?_ ?_|exact mFx|refine mGx ?_ ?_ ?_|exact mHx|exact mIx _|(simp only [wM,Nat.reduceAdd,Nat.reduceLT,Nat.reduceLeDiff];done)));done)|omega|decide) only [e, e, sBin_rem, hi0, hj0, q2.ix, q2.lda, ei, ej, ↓wA,wB,wL,resOf,Nat.reduceBEq,Int.reduceBEq,Int.reduceBNe,Int.reduceLT,Int.reduceLE,Int.reduceAdd,Int.reduceSub,Int.reduceMul,Int.reduceToNat]
    refine callP (f17 (u24 i0) (u24 j0) _ (by (repeat' (first|assumption|exact mAx _|refine mBx ?_ ?_|exact mCx (by assumption)|refine mDx ?_|refine mEx ?_ ?_ ?_|exact mFx|refine mGx ?_ ?_ ?_|exact mHx|exact mIx _|(simp only [wM,Nat.reduceAdd,Nat.reduceLT,Nat.reduceLeDiff];done))))) ?_
    rw [okQ_ok (err2 m1.1 b1 m2.1 b2), err2 m1.1 b1 m2.1 b2]
    generalize (u24 i0).mul (u24 j0) = M at *
    simp (disch := first|(simp only [Nat.reduceBEq,wE];done)|((repeat' (first|assumption|exact mAx _|refine mBx ?_ ?_|exact mCx (by assumption)|refine mDx ?_|refine mEx ?_ ?_ ?_|exact mFx|refine mGx ?_ ?_ ?_|exact mHx|exact mIx _|(simp only [wM,Nat.reduceAdd,Nat.reduceLT,Nat.reduceLeDiff];done)));done)|omega|decide) only [e, sBin_rem, hi0, hj0, q2.ix, q2.lda, ei, ej, ↓wA,wB,wL,resOf,Nat.reduceBEq,Int.reduceBEq,Int.reduceBNe,Int.reduceLT,Int.reduceLE,Int.reduceAdd,Int.reduceSub,Int.reduceMul,Int.reduceToNat]
    refine callP (f18 (u24 i0) _ (by (repeat' (first|assumption|exact mAx _|refine mBx ?_ ?_|exact mCx (by assumption)|refine mDx ?_|refine mEx ?_ ?_ ?_|exact mFx|refine mGx ?_ ?_ ?_|exact mHx|exact mIx _|(simp only [wM,Nat.reduceAdd,Nat.reduceLT,Nat.reduceLeDiff];done))))) ?_
    rw [okQ_ok (err1 m1.1 b1), err1 m1.1 b1]
    simp (disch := first|(simp only [Nat.reduceBEq,wE];done)|((repeat' (first|assumption|exact mAx _|refine mBx ?_ ?_|exact mCx (by assumption)|refine mDx ?_|refine mEx ?_ ?_ ?_|exact mFx|refine mGx ?_ ?_ ?_|exact mHx|exact mIx _|(simp only [wM,Nat.reduceAdd,Nat.reduceLT,Nat.reduceLeDiff];done)));done)|omega|decide) only [e, sBin_rem, hi0, hj0, q2.ix, q2.lda, ei, ej, ↓wA,wB,wL,resOf,Nat.reduceBEq,Int.reduceBEq,Int.reduceBNe,Int.reduceLT,Int.reduceLE,Int.reduceAdd,Int.reduceSub,Int.reduceMul,Int.reduceToNat]
    refine callP (f17 (u24 i0) (u24 i0).conj _ (by (repeat' (first|assumption|exact mAx _|refine mBx ?_ ?_|exact mCx (by assumption)|refine mDx ?_|refine mEx ?_ ?_ ?_|exact mFx|refine mGx ?_ ?_ ?_|exact mHx|exact mIx _|(simp only [wM,Nat.reduceAdd,Nat.reduceLT,Nat.reduceLeDiff];done))))) ?_
    rw [okQ_ok (err2 m1.1 b1 c1 bc1), err2 m1.1 b1 c1 bc1, en]
    generalize (u24 i0).conj = C at *
    simp (disch := first|(simp only [Nat.reduceBEq,wE];done)|((repeat' (first|assumption|exact mAx _|refine mBx ?_ ?_|exact mCx (by assumption)|refine mDx ?_|refine mEx ?_ ?_ ?_|exact mFx|refine mGx ?_ ?_ ?_|exact mHx|exact mIx _|(simp only [wM,Nat.reduceAdd,Nat.reduceLT,Nat.reduceLeDiff];done)));done)|omega|decide) only [e, sBin_rem, hi0, hj0, q2.ix, q2.lda, ei, ej, ↓wA,wB,wL,resOf,Nat.reduceBEq,Int.reduceBEq,Int.reduceBNe,Int.reduceLT,Int.reduceLE,Int.reduceAdd,Int.reduceSub,Int.reduceMul,Int.reduceToNat]
    refine wloop (fun mm ss => ∃ (k : Nat) (f : Bool) (u6 u9 u15 u23 u25 u59 u98 : AV), (mm = 24 - k) ∧ (k ≤ 24 ∧ f = decide (M ∈ units24.take k)) ∧ ss = { fr := [(0, .int .u8 x), (1, .int .u8 y), (4, .bool false), (5, q), (6, u6), (7, .ptr h2.next 0), (8, .int .i64 0), (9, u9), (10, .int .i64 0), (11, .ptr (h2.next + 1 + 1) 0), (12, .int .i64 0), (13, .bool f), (14, .int .i64 k), (15, u15), (23, u23), (25, u25), (59, u59), (98, u98)], hp := { next := h2.next + 1 + 1 + 1, blks := (h2.next + 1 + 1, { cells := [.int .i64 2, .int .i64 0, .int .i64 0, .int .i64 0], ch := h2.next + 1 + 1, wr := true }) :: (h2.next + 1, { cells := [.int .i64 C.a, .int .i64 C.b, .int .i64 C.c, .int .i64 C.d], ch := h2.next + 1, wr := true }) :: (h2.next, { cells := [.int .i64 M.a, .int .i64 M.b, .int .i64 M.c, .int .i64 M.d], ch := h2.next, wr := true }) :: h2.blks, loops := h2.loops, base := h2.base, esc := h2.esc } }) (24) ?_ ?_
    ·
      refine ⟨0, false, _, _, _, _, _, _, _, by omega, ⟨by omega, by simp⟩, rfl⟩
    rintro nB sB ⟨k, f, u6, u9, u15, u23, u25, u59, u98, hnB, ⟨hk24, hf⟩, rfl⟩
    by_cases hkk : k < 24
    · have ek : decide ((k : Int) < 24) = true := decide_eq_true (by omega)
      have eu : units24.getD k default = u24 k := rfl
      have et : units24.take (k + 1) = units24.take k ++ [u24 k] := by
        rw [List.take_succ_eq_append_getElem (by omega)]
        simp [u24, List.getD_eq_getElem?_getD, List.getElem?_eq_getElem (show k < units24.length by omega)]
      cases f with
      | true =>
        simp (disch := first|(simp only [Nat.reduceBEq,wE];done)|((repeat' (first|assumption|exact mAx _|refine mBx ?_ ?_|exact mCx (by assumption)|refine mDx ?_|refine mEx ?_ ?_ ?_|exact mFx|refine mGx ?_ ?_ ?_|exact mHx|exact mIx _|(simp only [wM,Nat.reduceAdd,Nat.reduceLT,Nat.reduceLeDiff];done)));done)|omega|decide) only [e, ek, ↓wA,wB,wL,resOf,Nat.reduceBEq,Int.reduceBEq,Int.reduceBNe,Int.reduceLT,Int.reduceLE,Int.reduceAdd,Int.reduceSub,Int.reduceMul,Int.reduceToNat]
        refine ⟨_, ?_, k + 1, true, _, _, _, _, _, _, _, rfl, ?_, rfl⟩
        · omega
        exact ⟨by omega, by rw [et]; have : M ∈ units24.take k := of_decide_eq_true hf.symm; simp [this]⟩
      | false =>
        simp (disch := first|(simp only [Nat.reduceBEq,wE];done)|((repeat' (first|assumption|exact mAx _|refine mBx ?_ ?_|exact mCx (by assumption)|refine mDx ?_|refine mEx ?_ ?_ ?_|exact mFx|refine mGx ?_ ?_ ?_|exact mHx|exact mIx _|(simp only [wM,Nat.reduceAdd,Nat.reduceLT,Nat.reduceLeDiff];done)));done)|omega|decide) only [e, ek, q2.ix, q2.lda, eu, ↓wA,wB,wL,resOf,Nat.reduceBEq,Int.reduceBEq,Int.reduceBNe,Int.reduceLT,Int.reduceLE,Int.reduceAdd,Int.reduceSub,Int.reduceMul,Int.reduceToNat]
        rw [q_eq]
        refine ⟨_, ?_, k + 1, _, _, _, _, _, _, _, _, rfl, ?_, rfl⟩
        · omega
        refine ⟨by omega, ?_⟩
        rw [et]
        have hnm : M ∉ units24.take k := of_decide_eq_false hf.symm
        by_cases hu : u24 k = M
        · rw [decide_eq_true hu]; simp [hu]
        · have hu' : ¬ M = u24 k := fun e => hu e.symm
          rw [decide_eq_false hu]; simp [hnm, hu']
    · have ek : decide ((k : Int) < 24) = false := decide_eq_false (by omega)
      have hf1 : f = true := by
        rw [hf, List.take_of_length_le (by omega)]
        exact decide_eq_true hM
      subst hf1
      obtain ⟨zl, O⟩ := o2
      rcases O with ⟨z1, _⟩ | ⟨id, b, cap, rfl, hb, hc1, hid, hch, hw, _⟩
      · omega
      have gh2 : Grown h h2 := GrownR.trans g1 g2
      have hlt := k2.get hb
      have hbl : 4 ≤ b.cells.length := by
        have := congrArg List.length hc1
        rw [quads_len, List.length_take, hl] at this
        omega
      simp (disch := first|(simp only [Nat.reduceBEq,wE];done)|((repeat' (first|assumption|exact mAx _|refine mBx ?_ ?_|exact mCx (by assumption)|refine mDx ?_|refine mEx ?_ ?_ ?_|exact mFx|refine mGx ?_ ?_ ?_|exact mHx|exact mIx _|(simp only [wM,Nat.reduceAdd,Nat.reduceLT,Nat.reduceLeDiff];done)));done)|omega|decide) only [e, ek, q2.ix, ↓wA,wB,wL,resOf,Nat.reduceBEq,Int.reduceBEq,Int.reduceBNe,Int.reduceLT,Int.reduceLE,Int.reduceAdd,Int.reduceSub,Int.reduceMul,Int.reduceToNat]
      simp only [cellAt]
      refine stO (h0 := h) (id := id) (b := b) hk (m := h2.next + 1 + 1 + 1) (by (repeat' (first|assumption|exact mAx _|refine mBx ?_ ?_|exact mCx (by assumption)|refine mDx ?_|refine mEx ?_ ?_ ?_|exact mFx|refine mGx ?_ ?_ ?_|exact mHx|exact mIx _|(simp only [wM,Nat.reduceAdd,Nat.reduceLT,Nat.reduceLeDiff];done)))) (by rw [lkB_push (by omega), lkB_push (by omega), lkB_push (by omega)]; exact hb) hid hch hw rfl rfl (by omega) rfl rfl rfl ?_
      intro bs1 X1 g3 keep
      have k3 := g3.ok hk
      have V11 : Var bs1 (h2.next + 1 + 1) [.int .i64 2, .int .i64 0, .int .i64 0, .int .i64 0] := keep _ _ (by omega) Var.top (by simp only; omega)
      have hu0 : aggB bs1 id 0 4 = some (.ag [.int .i64 0, .int .i64 0, .int .i64 0, .int .i64 0]) := by
        unfold aggB
        rw [X1]
        simp only [Option.bind_some, slice?, splice]
        have : Nat.ble (0 + 4) ((b.cells.take (0 + 0 * 4) ++ [AV.int .i64 0, AV.int .i64 0, AV.int .i64 0, AV.int .i64 0] ++ b.cells.drop (0 + 0 * 4 + ([AV.int .i64 0, AV.int .i64 0, AV.int .i64 0, AV.int .i64 0] : List AV).length)).length) = true := Nat.ble_eq_true_of_le (by simp)
        rw [this]
        simp
      simp (disch := first|(simp only [Nat.reduceBEq,wE];done)|((repeat' (first|assumption|exact mAx _|refine mBx ?_ ?_|exact mCx (by assumption)|refine mDx ?_|refine mEx ?_ ?_ ?_|exact mFx|refine mGx ?_ ?_ ?_|exact mHx|exact mIx _|(simp only [wM,Nat.reduceAdd,Nat.reduceLT,Nat.reduceLeDiff];done)));done)|omega|decide) only [e, ↓wA,wB,wL,resOf,Nat.reduceBEq,Int.reduceBEq,Int.reduceBNe,Int.reduceLT,Int.reduceLE,Int.reduceAdd,Int.reduceSub,Int.reduceMul,Int.reduceToNat]
      refine callE (f44 _ (by exact k3)) ?_
      rintro q5 h5 ⟨g5, o5⟩
      have s5 := g5.sub (by exact k3)
      have g6 : Grown h h5 := GrownR.trans (b := { next := h2.next + 1 + 1 + 1, blks := bs1, loops := h2.loops, base := h2.base, esc := h2.esc }) g3 g5
      have W11 := V11.sub s5
      have q5q := o5.quads
      have l5 := q5q.len
      rw [hl] at l5
      have hu5 : aggB h5.blks id 0 4 = some (.ag [.int .i64 0, .int .i64 0, .int .i64 0, .int .i64 0]) := by
        unfold aggB at hu0 ⊢
        rw [X1] at hu0
        rw [s5 _ _ X1]
        exact hu0
      have lda5 := q5q.lda (Sub.refl _) (i := 0) (by omega)
      have e50 : units24.getD 0 default = ⟨-2, 0, 0, 0⟩ := by rw [units24_eq]; rfl
      rw [e50] at lda5
      have ix0 : ∀ hh, sIxS 4 hh (some 0) (.sl id 0 units24.length cap 4) = some (.ptr id 0, hh) := fun hh => sIxS_sl (by omega)
      simp (disch := first|(simp only [Nat.reduceBEq,wE];done)|((repeat' (first|assumption|exact mAx _|refine mBx ?_ ?_|exact mCx (by assumption)|refine mDx ?_|refine mEx ?_ ?_ ?_|exact mFx|refine mGx ?_ ?_ ?_|exact mHx|exact mIx _|(simp only [wM,Nat.reduceAdd,Nat.reduceLT,Nat.reduceLeDiff];done)));done)|omega|decide) only [e, W11.ld, l5, q5q.ix, lda5, ix0, hu5, ↓wA,wB,wL,resOf,Nat.reduceBEq,Int.reduceBEq,Int.reduceBNe,Int.reduceLT,Int.reduceLE,Int.reduceAdd,Int.reduceSub,Int.reduceMul,Int.reduceToNat]
      exact ⟨_, rfl, rfl, g6⟩
end Go.Proofs.Ytpobklkllfokdaa
