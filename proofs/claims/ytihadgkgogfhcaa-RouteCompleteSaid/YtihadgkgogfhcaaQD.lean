/- Bounds of the bandwidth. -/
import Derived.Test.YtihadgkgogfhcaaQC
set_option linter.unusedSimpArgs false
set_option linter.unusedVariables false
set_option maxHeartbeats 4000000
set_option maxRecDepth 20000
namespace Go.Ro
open Go.Abs
theorem mat_box {bs bs' : List (Nat × Blk)} {id a b : Nat} {M : Nat → Nat → Int} (B : Box bs id (ints .i64 (mat M))) (s : Sub bs bs') (ha : a < 8) (hb : b < 8) : cellB bs' id (a * 8 + b) = some (.int .i64 (M a b)) := by
  rw [B.ld s, mat, tab_get (by omega), flat_at hb]
/- The greatest distance; whether there is none. -/
def dia (E : List (Int × Int)) (n : Nat) : Int := gdAll (fw (M1 E n) n n) n n
def most (E : List (Int × Int)) (n : Nat) : Nat := mxN E n n
theorem dia_bd {E : List (Int × Int)} {n : Nat} : 0 ≤ dia E n ∧ dia E n ≤ 8 := gdAll_bd (fw_bd n)
theorem dia_pos {E : List (Int × Int)} {n : Nat} (hE : EdgeOK n E) (hn : 2 ≤ n) : 1 ≤ dia E n := by
  have h1 := gdAll_ge (M := fw (M1 E n) n n) (n := n) (m := n) (a := 0) (b := 1) (by omega) (by omega)
  have H := fw_dist hE n (Nat.le_refl _)
  have h2 := H.nonneg 0 1
  by_cases h : fw (M1 E n) n n 0 1 = 0
  · obtain ⟨l, e, w⟩ := H.sound 0 1 (by omega) (by omega) (by omega)
    have : l = 0 := by omega
    subst this
    cases w
  · unfold dia; omega
theorem most_le {E : List (Int × Int)} {n : Nat} : most E n ≤ n := mxN_le n
def bndE (E : List (Int × Int)) (n : Nat) : Int := max (((n : Int) - 1 + dia E n - 1) / dia E n) (((most E n : Int) + 2 - 1) / 2)
end Go.Ro
namespace Go.Proofs.Ytihadgkgogfhcaa
open Go Go.Abs Go.Pa Go.Ro

theorem f51 (n : Nat) (M : Nat → Nat → Int) (hM : ∀ x y, 0 ≤ M x y ∧ M x y ≤ 8) (h : Hp) (hk : Hok h) (hn : n ≤ 8) :
    Evals Try.prog tab false (.func 51) [.int .i64 n, .ag (ints .i64 (mat M))] h (.int .i64 (gdAll M n n), h) := by
  refine evals_pure c51 rfl hk ?_
  simp only [sf51, initS_cons, initS_nil]
  have g : Grown h (h.en.pu (ints .i64 (mat M))) := Grown.pu Grown.en refsOK_ints
  have B : Box (h.en.pu (ints .i64 (mat M))).blks h.next (ints .i64 (mat M)) := Box.top
  simp (disch := first|(simp only [Nat.reduceBEq,wE];done)|((repeat' (first|assumption|exact mAx _|refine mBx ?_ ?_|exact mCx (by assumption)|refine mDx ?_|refine mEx ?_ ?_ ?_|exact mFx|refine mGx ?_ ?_ ?_|exact mHx|exact mIx _|(simp only [wM,Nat.reduceAdd,Nat.reduceLT,Nat.reduceLeDiff];done)));done)|omega|decide) only [↓wA,wB,wL,resOf,Nat.reduceBEq,Int.reduceBEq,Int.reduceBNe,Int.reduceLT,Int.reduceLE,Int.reduceAdd,Int.reduceSub,Int.reduceMul,Int.reduceToNat]
  refine wloop (fun mm ss => ∃ (x : Nat) (u1 u4 u6 u7 u10 u12 u13 u14 : AV), (mm = n - x) ∧ (x ≤ n) ∧ ss = { fr := [(0, .int .i64 n), (1, u1), (3, .ptr h.next 0), (4, u4), (5, .int .i64 (gdAll M n x)), (6, u6), (7, u7), (8, .int .i64 n), (9, .int .i64 x), (10, u10), (12, u12), (13, u13), (14, u14)], hp := (h.en.pu (ints .i64 (mat M))) }) (n) ?_ ?_
  ·
    refine ⟨0, _, _, _, _, _, _, _, _, by omega, (by omega : (0 : Nat) ≤ n), rfl⟩
  rintro nA sA ⟨x, u1, u4, u6, u7, u10, u12, u13, u14, hnA, hx, rfl⟩
  simp (disch := first|(simp only [Nat.reduceBEq,wE];done)|((repeat' (first|assumption|exact mAx _|refine mBx ?_ ?_|exact mCx (by assumption)|refine mDx ?_|refine mEx ?_ ?_ ?_|exact mFx|refine mGx ?_ ?_ ?_|exact mHx|exact mIx _|(simp only [wM,Nat.reduceAdd,Nat.reduceLT,Nat.reduceLeDiff];done)));done)|omega|decide) only [↓wA,wB,wL,resOf,Nat.reduceBEq,Int.reduceBEq,Int.reduceBNe,Int.reduceLT,Int.reduceLE,Int.reduceAdd,Int.reduceSub,Int.reduceMul,Int.reduceToNat]
  refine ifThen_intro (fun e => ?_) (fun e => ?_) <;> have eq := e <;> try simp [-List.getD_eq_getElem?_getD] at eq
  · simp (disch := first|(simp only [Nat.reduceBEq,wE];done)|((repeat' (first|assumption|exact mAx _|refine mBx ?_ ?_|exact mCx (by assumption)|refine mDx ?_|refine mEx ?_ ?_ ?_|exact mFx|refine mGx ?_ ?_ ?_|exact mHx|exact mIx _|(simp only [wM,Nat.reduceAdd,Nat.reduceLT,Nat.reduceLeDiff];done)));done)|omega|decide) only [e, ↓wA,wB,wL,resOf,Nat.reduceBEq,Int.reduceBEq,Int.reduceBNe,Int.reduceLT,Int.reduceLE,Int.reduceAdd,Int.reduceSub,Int.reduceMul,Int.reduceToNat]
    refine wloop (fun mm ss => ∃ (y : Nat) (u1 u4 u7 u10 u14 : AV), (mm = n - y) ∧ (y ≤ n) ∧ ss = { fr := [(0, .int .i64 n), (1, u1), (3, .ptr h.next 0), (4, u4), (5, .int .i64 (gdRow M x (gdAll M n x) y)), (6, .int .i64 x), (7, u7), (8, .int .i64 n), (9, .int .i64 x), (10, u10), (12, .int .i64 n), (13, .int .i64 y), (14, u14)], hp := (h.en.pu (ints .i64 (mat M))) }) (n) ?_ ?_
    ·
      refine ⟨0, _, _, _, _, _, by omega, (by omega : (0 : Nat) ≤ n), rfl⟩
    rintro nB sB ⟨y, u1, u4, u7, u10, u14, hnB, hy, rfl⟩
    simp (disch := first|(simp only [Nat.reduceBEq,wE];done)|((repeat' (first|assumption|exact mAx _|refine mBx ?_ ?_|exact mCx (by assumption)|refine mDx ?_|refine mEx ?_ ?_ ?_|exact mFx|refine mGx ?_ ?_ ?_|exact mHx|exact mIx _|(simp only [wM,Nat.reduceAdd,Nat.reduceLT,Nat.reduceLeDiff];done)));done)|omega|decide) only [e, ↓wA,wB,wL,resOf,Nat.reduceBEq,Int.reduceBEq,Int.reduceBNe,Int.reduceLT,Int.reduceLE,Int.reduceAdd,Int.reduceSub,Int.reduceMul,Int.reduceToNat]
    refine ifThen_intro (fun e2 => ?_) (fun e2 => ?_) <;> have e2q := e2 <;> try simp [-List.getD_eq_getElem?_getD] at e2q
    · have ld := mat_box B (Sub.refl _) (a := x) (b := y) (by omega) (by omega)
      simp (disch := first|(simp only [Nat.reduceBEq,wE];done)|((repeat' (first|assumption|exact mAx _|refine mBx ?_ ?_|exact mCx (by assumption)|refine mDx ?_|refine mEx ?_ ?_ ?_|exact mFx|refine mGx ?_ ?_ ?_|exact mHx|exact mIx _|(simp only [wM,Nat.reduceAdd,Nat.reduceLT,Nat.reduceLeDiff];done)));done)|omega|decide) only [e, e2, sIxA_ptr, ld, ↓wA,wB,wL,resOf,Nat.reduceBEq,Int.reduceBEq,Int.reduceBNe,Int.reduceLT,Int.reduceLE,Int.reduceAdd,Int.reduceSub,Int.reduceMul,Int.reduceToNat]
      refine ⟨_, ?_, y + 1, _, _, _, _, _, rfl, ?_, rfl⟩
      · omega
      omega
    · rw [show y = n by omega]
      simp (disch := first|(simp only [Nat.reduceBEq,wE];done)|((repeat' (first|assumption|exact mAx _|refine mBx ?_ ?_|exact mCx (by assumption)|refine mDx ?_|refine mEx ?_ ?_ ?_|exact mFx|refine mGx ?_ ?_ ?_|exact mHx|exact mIx _|(simp only [wM,Nat.reduceAdd,Nat.reduceLT,Nat.reduceLeDiff];done)));done)|omega|decide) only [e, e2, ↓wA,wB,wL,resOf,Nat.reduceBEq,Int.reduceBEq,Int.reduceBNe,Int.reduceLT,Int.reduceLE,Int.reduceAdd,Int.reduceSub,Int.reduceMul,Int.reduceToNat]
      refine ⟨_, ?_, x + 1, _, _, _, _, _, _, _, _, rfl, ?_, rfl⟩
      · omega
      omega
  · simp (disch := first|(simp only [Nat.reduceBEq,wE];done)|((repeat' (first|assumption|exact mAx _|refine mBx ?_ ?_|exact mCx (by assumption)|refine mDx ?_|refine mEx ?_ ?_ ?_|exact mFx|refine mGx ?_ ?_ ?_|exact mHx|exact mIx _|(simp only [wM,Nat.reduceAdd,Nat.reduceLT,Nat.reduceLeDiff];done)));done)|omega|decide) only [e, ↓wA,wB,wL,resOf,Nat.reduceBEq,Int.reduceBEq,Int.reduceBNe,Int.reduceLT,Int.reduceLE,Int.reduceAdd,Int.reduceSub,Int.reduceMul,Int.reduceToNat]
    refine ⟨_, rfl, ?_, g⟩
    rw [show x = n by omega]

theorem f53 (n : Nat) (E : List (Int × Int)) (M : Nat → Nat → Int) (hO : EdgeOK n E) (H : Dist E n n M) (h : Hp) (hk : Hok h) (hn : n ≤ 8) :
    Evals Try.prog tab false (.func 53) [.int .i64 n, .ag (ints .i64 (mat M))] h (.int .i64 (most E n), h) := by
  refine evals_pure c53 rfl hk ?_
  simp only [sf53, initS_cons, initS_nil]
  have g : Grown h (h.en.pu (ints .i64 (mat M))) := Grown.pu Grown.en refsOK_ints
  have B : Box (h.en.pu (ints .i64 (mat M))).blks h.next (ints .i64 (mat M)) := Box.top
  simp (disch := first|(simp only [Nat.reduceBEq,wE];done)|((repeat' (first|assumption|exact mAx _|refine mBx ?_ ?_|exact mCx (by assumption)|refine mDx ?_|refine mEx ?_ ?_ ?_|exact mFx|refine mGx ?_ ?_ ?_|exact mHx|exact mIx _|(simp only [wM,Nat.reduceAdd,Nat.reduceLT,Nat.reduceLeDiff];done)));done)|omega|decide) only [↓wA,wB,wL,resOf,Nat.reduceBEq,Int.reduceBEq,Int.reduceBNe,Int.reduceLT,Int.reduceLE,Int.reduceAdd,Int.reduceSub,Int.reduceMul,Int.reduceToNat]
  refine wloop (fun mm ss => ∃ (x : Nat) (m : Int) (u1 u4 u6 u7 u8 u11 u13 u14 u15 u22 : AV), (mm = n - x) ∧ (x ≤ n ∧ m = mxN E n x) ∧ ss = { fr := [(0, .int .i64 n), (1, u1), (3, .ptr h.next 0), (4, u4), (5, .int .i64 m), (6, u6), (7, u7), (8, u8), (9, .int .i64 n), (10, .int .i64 x), (11, u11), (13, u13), (14, u14), (15, u15), (22, u22)], hp := (h.en.pu (ints .i64 (mat M))) }) (n) ?_ ?_
  ·
    refine ⟨0, _, _, _, _, _, _, _, _, _, _, _, by omega, ⟨by omega, rfl⟩, rfl⟩
  rintro nA sA ⟨x, m, u1, u4, u6, u7, u8, u11, u13, u14, u15, u22, hnA, ⟨hx, hm⟩, rfl⟩
  simp (disch := first|(simp only [Nat.reduceBEq,wE];done)|((repeat' (first|assumption|exact mAx _|refine mBx ?_ ?_|exact mCx (by assumption)|refine mDx ?_|refine mEx ?_ ?_ ?_|exact mFx|refine mGx ?_ ?_ ?_|exact mHx|exact mIx _|(simp only [wM,Nat.reduceAdd,Nat.reduceLT,Nat.reduceLeDiff];done)));done)|omega|decide) only [↓wA,wB,wL,resOf,Nat.reduceBEq,Int.reduceBEq,Int.reduceBNe,Int.reduceLT,Int.reduceLE,Int.reduceAdd,Int.reduceSub,Int.reduceMul,Int.reduceToNat]
  refine ifThen_intro (fun e => ?_) (fun e => ?_) <;> have eq := e <;> try simp [-List.getD_eq_getElem?_getD] at eq
  · simp (disch := first|(simp only [Nat.reduceBEq,wE];done)|((repeat' (first|assumption|exact mAx _|refine mBx ?_ ?_|exact mCx (by assumption)|refine mDx ?_|refine mEx ?_ ?_ ?_|exact mFx|refine mGx ?_ ?_ ?_|exact mHx|exact mIx _|(simp only [wM,Nat.reduceAdd,Nat.reduceLT,Nat.reduceLeDiff];done)));done)|omega|decide) only [e, ↓wA,wB,wL,resOf,Nat.reduceBEq,Int.reduceBEq,Int.reduceBNe,Int.reduceLT,Int.reduceLE,Int.reduceAdd,Int.reduceSub,Int.reduceMul,Int.reduceToNat]
    refine wloop (fun mm ss => ∃ (y : Nat) (c : Int) (u1 u4 u8 u11 u15 u22 : AV), (mm = n - y) ∧ (y ≤ n ∧ c = nb E x y) ∧ ss = { fr := [(0, .int .i64 n), (1, u1), (3, .ptr h.next 0), (4, u4), (5, .int .i64 m), (6, .int .i64 x), (7, .int .i64 c), (8, u8), (9, .int .i64 n), (10, .int .i64 x), (11, u11), (13, .int .i64 n), (14, .int .i64 y), (15, u15), (22, u22)], hp := (h.en.pu (ints .i64 (mat M))) }) (n) ?_ ?_
    ·
      refine ⟨0, _, _, _, _, _, _, _, by omega, ⟨by omega, rfl⟩, rfl⟩
    rintro nB sB ⟨y, c, u1, u4, u8, u11, u15, u22, hnB, ⟨hy, hc⟩, rfl⟩
    have nl := nb_le (E := E) (v := x) y
    simp (disch := first|(simp only [Nat.reduceBEq,wE];done)|((repeat' (first|assumption|exact mAx _|refine mBx ?_ ?_|exact mCx (by assumption)|refine mDx ?_|refine mEx ?_ ?_ ?_|exact mFx|refine mGx ?_ ?_ ?_|exact mHx|exact mIx _|(simp only [wM,Nat.reduceAdd,Nat.reduceLT,Nat.reduceLeDiff];done)));done)|omega|decide) only [e, ↓wA,wB,wL,resOf,Nat.reduceBEq,Int.reduceBEq,Int.reduceBNe,Int.reduceLT,Int.reduceLE,Int.reduceAdd,Int.reduceSub,Int.reduceMul,Int.reduceToNat]
    refine ifThen_intro (fun e2 => ?_) (fun e2 => ?_) <;> have e2q := e2 <;> try simp [-List.getD_eq_getElem?_getD] at e2q
    · have ld := mat_box B (Sub.refl _) (a := x) (b := y) (by omega) (by omega)
      by_cases e3 : adjE E x y
      · have e3t : (M x y == 1) = true := by simpa using (H.one hO (by omega) (by omega)).2 e3
        simp (disch := first|(simp only [Nat.reduceBEq,wE];done)|((repeat' (first|assumption|exact mAx _|refine mBx ?_ ?_|exact mCx (by assumption)|refine mDx ?_|refine mEx ?_ ?_ ?_|exact mFx|refine mGx ?_ ?_ ?_|exact mHx|exact mIx _|(simp only [wM,Nat.reduceAdd,Nat.reduceLT,Nat.reduceLeDiff];done)));done)|omega|decide) only [e, e2, sIxA_ptr, ld, e3t, ↓wA,wB,wL,resOf,Nat.reduceBEq,Int.reduceBEq,Int.reduceBNe,Int.reduceLT,Int.reduceLE,Int.reduceAdd,Int.reduceSub,Int.reduceMul,Int.reduceToNat]
        refine ⟨_, ?_, y + 1, _, _, _, _, _, _, _, rfl, ?_, rfl⟩
        · omega
        refine ⟨by omega, ?_⟩
        simp only [Ro.nb]
        rw [if_pos e3]; omega
      · have e3t : (M x y == 1) = false := by simpa using fun h => e3 ((H.one hO (by omega) (by omega)).1 h)
        simp (disch := first|(simp only [Nat.reduceBEq,wE];done)|((repeat' (first|assumption|exact mAx _|refine mBx ?_ ?_|exact mCx (by assumption)|refine mDx ?_|refine mEx ?_ ?_ ?_|exact mFx|refine mGx ?_ ?_ ?_|exact mHx|exact mIx _|(simp only [wM,Nat.reduceAdd,Nat.reduceLT,Nat.reduceLeDiff];done)));done)|omega|decide) only [e, e2, sIxA_ptr, ld, e3t, ↓wA,wB,wL,resOf,Nat.reduceBEq,Int.reduceBEq,Int.reduceBNe,Int.reduceLT,Int.reduceLE,Int.reduceAdd,Int.reduceSub,Int.reduceMul,Int.reduceToNat]
        refine ⟨_, ?_, y + 1, _, _, _, _, _, _, _, rfl, ?_, rfl⟩
        · omega
        refine ⟨by omega, ?_⟩
        simp only [Ro.nb]
        rw [if_neg e3]; omega
    · rw [show y = n by omega] at hc
      simp (disch := first|(simp only [Nat.reduceBEq,wE];done)|((repeat' (first|assumption|exact mAx _|refine mBx ?_ ?_|exact mCx (by assumption)|refine mDx ?_|refine mEx ?_ ?_ ?_|exact mFx|refine mGx ?_ ?_ ?_|exact mHx|exact mIx _|(simp only [wM,Nat.reduceAdd,Nat.reduceLT,Nat.reduceLeDiff];done)));done)|omega|decide) only [e, e2, ↓wA,wB,wL,resOf,Nat.reduceBEq,Int.reduceBEq,Int.reduceBNe,Int.reduceLT,Int.reduceLE,Int.reduceAdd,Int.reduceSub,Int.reduceMul,Int.reduceToNat]
      refine ⟨_, ?_, x + 1, _, _, _, _, _, _, _, _, _, _, _, rfl, ?_, rfl⟩
      · omega
      refine ⟨by omega, ?_⟩
      simp only [mxN]
      omega
  · simp (disch := first|(simp only [Nat.reduceBEq,wE];done)|((repeat' (first|assumption|exact mAx _|refine mBx ?_ ?_|exact mCx (by assumption)|refine mDx ?_|refine mEx ?_ ?_ ?_|exact mFx|refine mGx ?_ ?_ ?_|exact mHx|exact mIx _|(simp only [wM,Nat.reduceAdd,Nat.reduceLT,Nat.reduceLeDiff];done)));done)|omega|decide) only [e, ↓wA,wB,wL,resOf,Nat.reduceBEq,Int.reduceBEq,Int.reduceBNe,Int.reduceLT,Int.reduceLE,Int.reduceAdd,Int.reduceSub,Int.reduceMul,Int.reduceToNat]
    refine ⟨_, rfl, ?_, g⟩
    rw [hm, show x = n by omega]
    rfl

theorem f52 (x y : Int) (h : Hp) (hk : Hok h) (hx : 0 ≤ x ∧ x ≤ 1000) (hy : 1 ≤ y ∧ y ≤ 1000) :
    Evals Try.prog tab false (.func 52) [.int .i64 x, .int .i64 y] h (.int .i64 ((x + y - 1) / y), h) := by
  refine evals_pure c52 rfl hk ?_
  simp only [sf52, initS_cons, initS_nil]
  have q : ∀ c, sBin .quo c (.int .i64 (x + y - 1)) (.int .i64 y) = some (.int .i64 ((x + y - 1) / y)) := fun c => sBin_quo (by omega) (by omega) (by omega)
  simp (disch := first|(simp only [Nat.reduceBEq,wE];done)|((repeat' (first|assumption|exact mAx _|refine mBx ?_ ?_|exact mCx (by assumption)|refine mDx ?_|refine mEx ?_ ?_ ?_|exact mFx|refine mGx ?_ ?_ ?_|exact mHx|exact mIx _|(simp only [wM,Nat.reduceAdd,Nat.reduceLT,Nat.reduceLeDiff];done)));done)|omega|decide) only [q, ↓wA,wB,wL,resOf,Nat.reduceBEq,Int.reduceBEq,Int.reduceBNe,Int.reduceLT,Int.reduceLE,Int.reduceAdd,Int.reduceSub,Int.reduceMul,Int.reduceToNat]
  exact ⟨_, rfl, rfl, Grown.en⟩

theorem Bound_err (n : Int) (a : AV) (E : List (Int × Int)) (h : Hp) (hk : Hok h) (ha : Pairs h.blks a E) (hE : E.length ≤ 100) (he : errG n E ≠ 0) :
    Evals Try.prog tab false (.func 29) [.int .i64 n, a] h (.tu [.int .i64 0, .int .i64 (errG n E)], h) := by
  refine evals_pure c29 rfl hk ?_ rfl
  simp only [sf29, initS_cons, initS_nil]
  have cg := f49 n a E h.en hk ha hE
  have et : (errG n E != 0) = true := by simpa using he
  simp (disch := first|(simp only [Nat.reduceBEq,wE];done)|((repeat' (first|assumption|exact mAx _|refine mBx ?_ ?_|exact mCx (by assumption)|refine mDx ?_|refine mEx ?_ ?_ ?_|exact mFx|refine mGx ?_ ?_ ?_|exact mHx|exact mIx _|(simp only [wM,Nat.reduceAdd,Nat.reduceLT,Nat.reduceLeDiff];done)));done)|omega|decide) only [callT cg, et, ↓wA,wB,wL,resOf,Nat.reduceBEq,Int.reduceBEq,Int.reduceBNe,Int.reduceLT,Int.reduceLE,Int.reduceAdd,Int.reduceSub,Int.reduceMul,Int.reduceToNat]
  exact ⟨_, rfl, rfl, Grown.en⟩

section
variable (n : Nat) (a : AV) (E : List (Int × Int)) (h : Hp) (hk : Hok h) (ha : Pairs h.blks a E) (hE : E.length ≤ 30) (h0 : 0 < n) (h8 : n ≤ 8) (hO : EdgeOK n E)
include hk ha hE h0 h8 hO
theorem Bound_none (he : n < 2 ∨ dia E n = 8) : Evals Try.prog tab false (.func 29) [.int .i64 n, a] h (.tu [.int .i64 0, .int .i64 5], h) := by
  refine evals_pure c29 rfl hk ?_ rfl
  simp only [sf29, initS_cons, initS_nil]
  have cg := f49 n a E h.en hk ha (by omega)
  rw [errG_0.2 ⟨hE, gok h0 h8 hO⟩] at cg
  have ds := f50 n a E h.en hk ha h8 (by omega) hO
  have g1 : Grown h (h.en.pu (ints .i64 (mat (fw (M1 E n) n n)))) := Grown.pu Grown.en refsOK_ints
  have k1 := g1.ok hk
  have gd := f51 n (fw (M1 E n) n n) (fw_bd n) _ k1 h8
  have l1 : aggB (h.en.pu (ints .i64 (mat (fw (M1 E n) n n)))).blks h.next 0 64 = some (.ag (ints .i64 (mat (fw (M1 E n) n n)))) := ArrB.all (lim := 0) ⟨lkB_top, Nat.zero_le _⟩
  have st := sStore_ag (n := 64) (m := h.next + 1) (i := h.next) (bs := h.blks) (ls := h.loops) (base := h.next) (esc := false) (cs := ints .i64 (tabF 64 fun _ => 0)) (vs := ints .i64 (mat (fw (M1 E n) n n))) hk (by rw [ints_len, mat_len]) (by rw [ints_len, tabF_len]) ints_cells.1 ints_cells.2
  rw [zero64]
  by_cases e1 : n < 2
  · have e1t : decide ((n : Int) < 2) = true := decide_eq_true (by omega)
    simp (disch := first|(simp only [Nat.reduceBEq,wE];done)|((repeat' (first|assumption|exact mAx _|refine mBx ?_ ?_|exact mCx (by assumption)|refine mDx ?_|refine mEx ?_ ?_ ?_|exact mFx|refine mGx ?_ ?_ ?_|exact mHx|exact mIx _|(simp only [wM,Nat.reduceAdd,Nat.reduceLT,Nat.reduceLeDiff];done)));done)|omega|decide) only [callT cg, callT ds, st, l1, callT gd, e1t, ↓wA,wB,wL,resOf,Nat.reduceBEq,Int.reduceBEq,Int.reduceBNe,Int.reduceLT,Int.reduceLE,Int.reduceAdd,Int.reduceSub,Int.reduceMul,Int.reduceToNat]
    exact ⟨_, rfl, rfl, g1⟩
  · have e1t : decide ((n : Int) < 2) = false := decide_eq_false (by omega)
    have e2 : dia E n = 8 := he.resolve_left e1
    have e2t : (gdAll (fw (M1 E n) n n) n n == 8) = true := by simpa using (show gdAll (fw (M1 E n) n n) n n = 8 from e2)
    simp (disch := first|(simp only [Nat.reduceBEq,wE];done)|((repeat' (first|assumption|exact mAx _|refine mBx ?_ ?_|exact mCx (by assumption)|refine mDx ?_|refine mEx ?_ ?_ ?_|exact mFx|refine mGx ?_ ?_ ?_|exact mHx|exact mIx _|(simp only [wM,Nat.reduceAdd,Nat.reduceLT,Nat.reduceLeDiff];done)));done)|omega|decide) only [callT cg, callT ds, st, l1, callT gd, e1t, e2t, ↓wA,wB,wL,resOf,Nat.reduceBEq,Int.reduceBEq,Int.reduceBNe,Int.reduceLT,Int.reduceLE,Int.reduceAdd,Int.reduceSub,Int.reduceMul,Int.reduceToNat]
    exact ⟨_, rfl, rfl, g1⟩
theorem Bound_ok (h2 : 2 ≤ n) (hd : dia E n ≠ 8) : Evals Try.prog tab false (.func 29) [.int .i64 n, a] h (.tu [.int .i64 (bndE E n), .int .i64 0], h) := by
  refine evals_pure c29 rfl hk ?_ rfl
  simp only [sf29, initS_cons, initS_nil]
  have cg := f49 n a E h.en hk ha (by omega)
  rw [errG_0.2 ⟨hE, gok h0 h8 hO⟩] at cg
  have ds := f50 n a E h.en hk ha h8 (by omega) hO
  have g1 : Grown h (h.en.pu (ints .i64 (mat (fw (M1 E n) n n)))) := Grown.pu Grown.en refsOK_ints
  have k1 := g1.ok hk
  have gd : Evals _ _ _ _ _ _ (.int .i64 (dia E n), _) := f51 n (fw (M1 E n) n n) (fw_bd n) _ k1 h8
  have mn := f53 n E _ hO (fw_dist hO n (Nat.le_refl _)) _ k1 h8
  have l1 : aggB (h.en.pu (ints .i64 (mat (fw (M1 E n) n n)))).blks h.next 0 64 = some (.ag (ints .i64 (mat (fw (M1 E n) n n)))) := ArrB.all (lim := 0) ⟨lkB_top, Nat.zero_le _⟩
  have st := sStore_ag (n := 64) (m := h.next + 1) (i := h.next) (bs := h.blks) (ls := h.loops) (base := h.next) (esc := false) (cs := ints .i64 (tabF 64 fun _ => 0)) (vs := ints .i64 (mat (fw (M1 E n) n n))) hk (by rw [ints_len, mat_len]) (by rw [ints_len, tabF_len]) ints_cells.1 ints_cells.2
  rw [zero64]
  have e1t : decide ((n : Int) < 2) = false := decide_eq_false (by omega)
  have e2t : (dia E n == 8) = false := by simpa using hd
  have db := dia_bd (E := E) (n := n)
  have dp := dia_pos hO h2
  have ml := most_le (E := E) (n := n)
  have d1 := f52 ((n : Int) - 1) (dia E n) (h.en.pu (ints .i64 (mat (fw (M1 E n) n n)))) k1 (by omega) (by omega)
  have d2 := f52 (most E n) 2 (h.en.pu (ints .i64 (mat (fw (M1 E n) n n)))) k1 (by omega) (by omega)
  simp (disch := first|(simp only [Nat.reduceBEq,wE];done)|((repeat' (first|assumption|exact mAx _|refine mBx ?_ ?_|exact mCx (by assumption)|refine mDx ?_|refine mEx ?_ ?_ ?_|exact mFx|refine mGx ?_ ?_ ?_|exact mHx|exact mIx _|(simp only [wM,Nat.reduceAdd,Nat.reduceLT,Nat.reduceLeDiff];done)));done)|omega|decide) only [callT cg, callT ds, st, l1, callT gd, e1t, e2t, callT mn, callT d1, callT d2, ↓wA,wB,wL,resOf,Nat.reduceBEq,Int.reduceBEq,Int.reduceBNe,Int.reduceLT,Int.reduceLE,Int.reduceAdd,Int.reduceSub,Int.reduceMul,Int.reduceToNat]
  exact ⟨_, rfl, rfl, g1⟩
end
end Go.Proofs.Ytihadgkgogfhcaa
