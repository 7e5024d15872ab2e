/- Band, Cut, Arrange; Cuts and Reverse. -/
import Derived.Test.YtihadgkgogfhcaaQ9
set_option linter.unusedSimpArgs false
set_option linter.unusedVariables false
set_option maxHeartbeats 4000000
set_option maxRecDepth 20000
namespace Go.Proofs.Ytihadgkgogfhcaa
open Go Go.Abs Go.Pa Go.Ro

theorem bd3 {bs : List (Nat × Blk)} {a : AV} {E : List (Int × Int)} (ha : Pairs bs a E) (n : Int) (gf : Nat) : sBuild [AV.int .i64 0, .nilsl, .nilfn] [(0, 1), (1, 1), (2, 1)] [(0, .int .i64 n), (1, a), (2, .fn (.func gf) [] [])] = some (.ag [.int .i64 n, a, .fn (.func gf) [] []]) := by
  obtain ⟨hl, ⟨_, rfl | rfl⟩ | ⟨id, off, cap, rfl, _⟩⟩ := ha <;> rfl

theorem leastOrder_err (n : Int) (a : AV) (E : List (Int × Int)) (gf : Nat) (h : Hp) (hk : Hok h) (ha : Pairs h.blks a E) (hr : refOK h.next a = true) (hE : E.length ≤ 100) (he : errG n E ≠ 0) :
    Evals Try.prog tab false (.func 47) [.ag [.int .i64 n, a, .fn (.func gf) [] []]] h (.tu [.int .i64 0, .nilsl, .int .i64 (errG n E)], h) := by
  refine evals_pure c47 rfl hk ?_ rfl
  simp only [sf47, initS_cons, initS_nil]
  have hrr : refsOK (h.next + 1) [.int .i64 n, a, .fn (.func gf) [] []] = true := by simp only [refsOK_cons, refsOK_nil, Bool.and_true, Bool.and_eq_true]; exact ⟨rfl, refOK_mono (Nat.le_succ _) hr, rfl⟩
  have g1 : Grown h (h.en.pu [.int .i64 n, a, .fn (.func gf) [] []]) := Grown.pu Grown.en hrr
  have cg := f49 n a E _ (g1.ok hk) (ha.sub (g1.sub hk)) hE
  have bx : Box (h.en.pu [.int .i64 n, a, .fn (.func gf) [] []]).blks h.next [.int .i64 n, a, .fn (.func gf) [] []] := Box.top
  have et : (errG n E != 0) = true := by simpa using he
  simp (disch := first|(simp only [Nat.reduceBEq,wE];done)|((repeat' (first|assumption|exact mAx _|refine mBx ?_ ?_|exact mCx (by assumption)|refine mDx ?_|refine mEx ?_ ?_ ?_|exact mFx|refine mGx ?_ ?_ ?_|exact mHx|exact mIx _|(simp only [wM,Nat.reduceAdd,Nat.reduceLT,Nat.reduceLeDiff];done)));done)|omega|decide) only [bx.ld, callT cg, et, ↓wA,wB,wL,resOf,Nat.reduceBEq,Int.reduceBEq,Int.reduceBNe,Int.reduceLT,Int.reduceLE,Int.reduceAdd,Int.reduceSub,Int.reduceMul,Int.reduceToNat]
  exact ⟨_, rfl, rfl, g1⟩

def LeastQ (h : Hp) (n : Nat) (c : List Int → Int) (v : AV) (h' : Hp) : Prop := ∃ val t zs, v = .tu [.int .i64 val, t, .int .i64 0] ∧ Least n c val zs ∧ Own h.next h'.blks .i64 t zs
theorem LeastQ.leave {h h1 : Hp} {n : Nat} {c : List Int → Int} {v : AV} (q : LeastQ h n c v h1) : (refOK h.next v = true → LeastQ h n c v h) ∧ (refOK h.next v = false → LeastQ h n c v { h1 with base := h.base, esc := h.esc }) := by
  obtain ⟨val, t, zs, rfl, q1, q2⟩ := q
  refine ⟨fun r => ⟨val, t, zs, rfl, q1, q2.leave.1 ?_⟩, fun r => ⟨val, t, zs, rfl, q1, q2⟩⟩
  simp only [refOK, refsOK_cons, Bool.and_eq_true] at r
  exact r.2.1

theorem leastOrder_ok (n : Nat) (a : AV) (E : List (Int × Int)) (gf : Nat) (c : List Int → Int) (h : Hp) (hk : Hok h) (ha : Pairs h.blks a E) (hr : refOK h.next a = true) (h0 : 0 < n) (h8 : n ≤ 8) (hE : E.length ≤ 30) (hO : EdgeOK n E)
    (cm : Mono c) (cb : ∀ zs, zs.length ≤ 8 → 0 ≤ c zs ∧ c zs ≤ 100000)
    (Hc : ∀ (zs : List Int) (h : Hp), Hok h → Pairs h.blks a E → zs.length ≤ 8 → Evals Try.prog tab false (.func gf) [a, .ag (ints .i64 (pArr (pos zs)))] h (.int .i64 (c zs), h)) :
    ∃ v h', Evals Try.prog tab false (.func 47) [.ag [.int .i64 n, a, .fn (.func gf) [] []]] h (v, h') ∧ Grown h h' ∧ LeastQ h n c v h' := by
  refine evals_q c47 (fun v h' => LeastQ h n c v h') rfl hk ?_ (fun v h1 g q => q.leave)
  simp only [sf47, initS_cons, initS_nil]
  have hrr : refsOK (h.next + 1) [.int .i64 n, a, .fn (.func gf) [] []] = true := by simp only [refsOK_cons, refsOK_nil, Bool.and_true, Bool.and_eq_true]; exact ⟨rfl, refOK_mono (Nat.le_succ _) hr, rfl⟩
  have g1 : Grown h (h.en.pu [.int .i64 n, a, .fn (.func gf) [] []]) := Grown.pu Grown.en hrr
  have k1 := g1.ok hk
  have a1 := ha.sub (g1.sub hk)
  have cg := f49 n a E _ k1 a1 (by omega)
  rw [errG_0.2 ⟨hE, gok h0 h8 hO⟩] at cg
  have bx : Box (h.en.pu [.int .i64 n, a, .fn (.func gf) [] []]).blks h.next [.int .i64 n, a, .fn (.func gf) [] []] := Box.top
  have l3 : aggB (h.en.pu [.int .i64 n, a, .fn (.func gf) [] []]).blks h.next 0 3 = some (.ag [.int .i64 n, a, .fn (.func gf) [] []]) := by rw [bx.lda (Sub.refl _)]; rfl
  obtain ⟨v, h2, ev, g2, val, t, zs, rfl, q1, q2⟩ := f59 n a E gf c _ k1 a1 (refOK_mono (Nat.le_succ _) hr) h0 h8 cm cb Hc
  simp (disch := first|(simp only [Nat.reduceBEq,wE];done)|((repeat' (first|assumption|exact mAx _|refine mBx ?_ ?_|exact mCx (by assumption)|refine mDx ?_|refine mEx ?_ ?_ ?_|exact mFx|refine mGx ?_ ?_ ?_|exact mHx|exact mIx _|(simp only [wM,Nat.reduceAdd,Nat.reduceLT,Nat.reduceLeDiff];done)));done)|omega|decide) only [bx.ld, callT cg, l3, callT ev, ↓wA,wB,wL,resOf,Nat.reduceBEq,Int.reduceBEq,Int.reduceBNe,Int.reduceLT,Int.reduceLE,Int.reduceAdd,Int.reduceSub,Int.reduceMul,Int.reduceToNat]
  exact ⟨_, rfl, GrownR.trans g1 g2, val, t, zs, rfl, q1, q2.le (Nat.le_succ _)⟩

theorem band_bd {E : List (Int × Int)} (zs : List Int) (h : zs.length ≤ 8) : 0 ≤ cBand E zs ∧ cBand E zs ≤ 100000 := by
  have := band_le8 (p := pos zs) (pos8 h) (E := E)
  unfold cBand
  omega
theorem sum_bd {E : List (Int × Int)} (hE : E.length ≤ 30) (zs : List Int) (h : zs.length ≤ 8) : 0 ≤ cSum E zs ∧ cSum E zs ≤ 100000 := by
  have := total_le8 (p := pos zs) (pos8 h) (E := E)
  unfold cSum
  omega
theorem cut_bd' {E : List (Int × Int)} (hE : E.length ≤ 30) (zs : List Int) (h : zs.length ≤ 8) : 0 ≤ cCut E zs ∧ cCut E zs ≤ 100000 := by
  have := width_le (p := pos zs) (E := E)
  have : 0 ≤ width (pos zs) E := mxL_nonneg
  unfold cCut
  omega

section
variable (n : Nat) (a : AV) (E : List (Int × Int)) (h : Hp) (hk : Hok h) (ha : Pairs h.blks a E) (hr : refOK h.next a = true) (h0 : 0 < n) (h8 : n ≤ 8) (hE : E.length ≤ 30) (hO : EdgeOK n E)
include hk ha hr h0 h8 hE hO
theorem Band_ok : ∃ v h', Evals Try.prog tab false (.func 24) [.int .i64 n, a] h (v, h') ∧ Grown h h' ∧ LeastQ h n (cBand E) v h' := by
  refine evals_q c24 (fun v h' => LeastQ h n (cBand E) v h') rfl hk ?_ (fun v h1 g q => q.leave)
  simp only [sf24, initS_cons, initS_nil]
  obtain ⟨v, h2, ev, g2, val, t, zs, rfl, q1, q2⟩ := leastOrder_ok n a E 38 (cBand E) h.en hk ha hr h0 h8 hE hO cBand_mono band_bd (fun zs h k p l => f38 a E (pos zs) (pos8 l) h k p (by omega) (hO.in8 h8))
  have bd : sBuild [AV.int .i64 0, .nilsl, .nilfn] [(0, 1), (1, 1), (2, 1)] [(0, .int .i64 n), (1, a), (2, .fn (.func 38) [] [])] = some (.ag [.int .i64 n, a, .fn (.func 38) [] []]) := bd3 ha _ _
  simp (disch := first|(simp only [Nat.reduceBEq,wE];done)|((repeat' (first|assumption|exact mAx _|refine mBx ?_ ?_|exact mCx (by assumption)|refine mDx ?_|refine mEx ?_ ?_ ?_|exact mFx|refine mGx ?_ ?_ ?_|exact mHx|exact mIx _|(simp only [wM,Nat.reduceAdd,Nat.reduceLT,Nat.reduceLeDiff];done)));done)|omega|decide) only [bd, callT ev, ↓wA,wB,wL,resOf,Nat.reduceBEq,Int.reduceBEq,Int.reduceBNe,Int.reduceLT,Int.reduceLE,Int.reduceAdd,Int.reduceSub,Int.reduceMul,Int.reduceToNat]
  exact ⟨_, rfl, GrownR.of_en g2, val, t, zs, rfl, q1, q2⟩
theorem Cut_ok : ∃ v h', Evals Try.prog tab false (.func 25) [.int .i64 n, a] h (v, h') ∧ Grown h h' ∧ LeastQ h n (cCut E) v h' := by
  refine evals_q c25 (fun v h' => LeastQ h n (cCut E) v h') rfl hk ?_ (fun v h1 g q => q.leave)
  simp only [sf25, initS_cons, initS_nil]
  obtain ⟨v, h2, ev, g2, val, t, zs, rfl, q1, q2⟩ := leastOrder_ok n a E 39 (cCut E) h.en hk ha hr h0 h8 hE hO cCut_mono (cut_bd' hE) (fun zs h k p l => f39 a E (pos zs) (pos8 l) h k p (by omega) (hO.in8 h8))
  have bd : sBuild [AV.int .i64 0, .nilsl, .nilfn] [(0, 1), (1, 1), (2, 1)] [(0, .int .i64 n), (1, a), (2, .fn (.func 39) [] [])] = some (.ag [.int .i64 n, a, .fn (.func 39) [] []]) := bd3 ha _ _
  simp (disch := first|(simp only [Nat.reduceBEq,wE];done)|((repeat' (first|assumption|exact mAx _|refine mBx ?_ ?_|exact mCx (by assumption)|refine mDx ?_|refine mEx ?_ ?_ ?_|exact mFx|refine mGx ?_ ?_ ?_|exact mHx|exact mIx _|(simp only [wM,Nat.reduceAdd,Nat.reduceLT,Nat.reduceLeDiff];done)));done)|omega|decide) only [bd, callT ev, ↓wA,wB,wL,resOf,Nat.reduceBEq,Int.reduceBEq,Int.reduceBNe,Int.reduceLT,Int.reduceLE,Int.reduceAdd,Int.reduceSub,Int.reduceMul,Int.reduceToNat]
  exact ⟨_, rfl, GrownR.of_en g2, val, t, zs, rfl, q1, q2⟩
theorem Arrange_ok : ∃ v h', Evals Try.prog tab false (.func 26) [.int .i64 n, a] h (v, h') ∧ Grown h h' ∧ LeastQ h n (cSum E) v h' := by
  refine evals_q c26 (fun v h' => LeastQ h n (cSum E) v h') rfl hk ?_ (fun v h1 g q => q.leave)
  simp only [sf26, initS_cons, initS_nil]
  obtain ⟨v, h2, ev, g2, val, t, zs, rfl, q1, q2⟩ := leastOrder_ok n a E 40 (cSum E) h.en hk ha hr h0 h8 hE hO cSum_mono (sum_bd hE) (fun zs h k p l => f40 a E (pos zs) (pos8 l) h k p (by omega) (hO.in8 h8))
  have bd : sBuild [AV.int .i64 0, .nilsl, .nilfn] [(0, 1), (1, 1), (2, 1)] [(0, .int .i64 n), (1, a), (2, .fn (.func 40) [] [])] = some (.ag [.int .i64 n, a, .fn (.func 40) [] []]) := bd3 ha _ _
  simp (disch := first|(simp only [Nat.reduceBEq,wE];done)|((repeat' (first|assumption|exact mAx _|refine mBx ?_ ?_|exact mCx (by assumption)|refine mDx ?_|refine mEx ?_ ?_ ?_|exact mFx|refine mGx ?_ ?_ ?_|exact mHx|exact mIx _|(simp only [wM,Nat.reduceAdd,Nat.reduceLT,Nat.reduceLeDiff];done)));done)|omega|decide) only [bd, callT ev, ↓wA,wB,wL,resOf,Nat.reduceBEq,Int.reduceBEq,Int.reduceBNe,Int.reduceLT,Int.reduceLE,Int.reduceAdd,Int.reduceSub,Int.reduceMul,Int.reduceToNat]
  exact ⟨_, rfl, GrownR.of_en g2, val, t, zs, rfl, q1, q2⟩
end

section
variable (n : Int) (a : AV) (E : List (Int × Int)) (h : Hp) (hk : Hok h) (ha : Pairs h.blks a E) (hr : refOK h.next a = true) (hE : E.length ≤ 100) (he : errG n E ≠ 0)
include hk ha hr hE he
theorem Band_err : Evals Try.prog tab false (.func 24) [.int .i64 n, a] h (.tu [.int .i64 0, .nilsl, .int .i64 (errG n E)], h) := by
  refine evals_pure c24 rfl hk ?_ rfl
  simp only [sf24, initS_cons, initS_nil]
  have ev := leastOrder_err n a E 38 h.en hk ha hr hE he
  have bd : sBuild [AV.int .i64 0, .nilsl, .nilfn] [(0, 1), (1, 1), (2, 1)] [(0, .int .i64 n), (1, a), (2, .fn (.func 38) [] [])] = some (.ag [.int .i64 n, a, .fn (.func 38) [] []]) := bd3 ha _ _
  simp (disch := first|(simp only [Nat.reduceBEq,wE];done)|((repeat' (first|assumption|exact mAx _|refine mBx ?_ ?_|exact mCx (by assumption)|refine mDx ?_|refine mEx ?_ ?_ ?_|exact mFx|refine mGx ?_ ?_ ?_|exact mHx|exact mIx _|(simp only [wM,Nat.reduceAdd,Nat.reduceLT,Nat.reduceLeDiff];done)));done)|omega|decide) only [bd, callT ev, ↓wA,wB,wL,resOf,Nat.reduceBEq,Int.reduceBEq,Int.reduceBNe,Int.reduceLT,Int.reduceLE,Int.reduceAdd,Int.reduceSub,Int.reduceMul,Int.reduceToNat]
  exact ⟨_, rfl, rfl, Grown.en⟩
theorem Cut_err : Evals Try.prog tab false (.func 25) [.int .i64 n, a] h (.tu [.int .i64 0, .nilsl, .int .i64 (errG n E)], h) := by
  refine evals_pure c25 rfl hk ?_ rfl
  simp only [sf25, initS_cons, initS_nil]
  have ev := leastOrder_err n a E 39 h.en hk ha hr hE he
  have bd : sBuild [AV.int .i64 0, .nilsl, .nilfn] [(0, 1), (1, 1), (2, 1)] [(0, .int .i64 n), (1, a), (2, .fn (.func 39) [] [])] = some (.ag [.int .i64 n, a, .fn (.func 39) [] []]) := bd3 ha _ _
  simp (disch := first|(simp only [Nat.reduceBEq,wE];done)|((repeat' (first|assumption|exact mAx _|refine mBx ?_ ?_|exact mCx (by assumption)|refine mDx ?_|refine mEx ?_ ?_ ?_|exact mFx|refine mGx ?_ ?_ ?_|exact mHx|exact mIx _|(simp only [wM,Nat.reduceAdd,Nat.reduceLT,Nat.reduceLeDiff];done)));done)|omega|decide) only [bd, callT ev, ↓wA,wB,wL,resOf,Nat.reduceBEq,Int.reduceBEq,Int.reduceBNe,Int.reduceLT,Int.reduceLE,Int.reduceAdd,Int.reduceSub,Int.reduceMul,Int.reduceToNat]
  exact ⟨_, rfl, rfl, Grown.en⟩
theorem Arrange_err : Evals Try.prog tab false (.func 26) [.int .i64 n, a] h (.tu [.int .i64 0, .nilsl, .int .i64 (errG n E)], h) := by
  refine evals_pure c26 rfl hk ?_ rfl
  simp only [sf26, initS_cons, initS_nil]
  have ev := leastOrder_err n a E 40 h.en hk ha hr hE he
  have bd : sBuild [AV.int .i64 0, .nilsl, .nilfn] [(0, 1), (1, 1), (2, 1)] [(0, .int .i64 n), (1, a), (2, .fn (.func 40) [] [])] = some (.ag [.int .i64 n, a, .fn (.func 40) [] []]) := bd3 ha _ _
  simp (disch := first|(simp only [Nat.reduceBEq,wE];done)|((repeat' (first|assumption|exact mAx _|refine mBx ?_ ?_|exact mCx (by assumption)|refine mDx ?_|refine mEx ?_ ?_ ?_|exact mFx|refine mGx ?_ ?_ ?_|exact mHx|exact mIx _|(simp only [wM,Nat.reduceAdd,Nat.reduceLT,Nat.reduceLeDiff];done)));done)|omega|decide) only [bd, callT ev, ↓wA,wB,wL,resOf,Nat.reduceBEq,Int.reduceBEq,Int.reduceBNe,Int.reduceLT,Int.reduceLE,Int.reduceAdd,Int.reduceSub,Int.reduceMul,Int.reduceToNat]
  exact ⟨_, rfl, rfl, Grown.en⟩
end

theorem Cuts_err (n : Int) (a b : AV) (E : List (Int × Int)) (zs : List Int) (h : Hp) (hk : Hok h) (ha : Pairs h.blks a E) (hE : E.length ≤ 100) (hb : Ints h.blks .i64 b zs) (hz : zs.length ≤ 1000) (he : errO n E zs ≠ 0) :
    Evals Try.prog tab false (.func 17) [.int .i64 n, a, b] h (.tu [.nilsl, .int .i64 (errO n E zs)], h) := by
  refine evals_pure c17 rfl hk ?_ rfl
  simp only [sf17, initS_cons, initS_nil]
  have co := f36 n a b E zs h.en hk ha hE hb hz
  have et : (errO n E zs != 0) = true := by simpa using he
  simp (disch := first|(simp only [Nat.reduceBEq,wE];done)|((repeat' (first|assumption|exact mAx _|refine mBx ?_ ?_|exact mCx (by assumption)|refine mDx ?_|refine mEx ?_ ?_ ?_|exact mFx|refine mGx ?_ ?_ ?_|exact mHx|exact mIx _|(simp only [wM,Nat.reduceAdd,Nat.reduceLT,Nat.reduceLeDiff];done)));done)|omega|decide) only [callT co, et, ↓wA,wB,wL,resOf,Nat.reduceBEq,Int.reduceBEq,Int.reduceBNe,Int.reduceLT,Int.reduceLE,Int.reduceAdd,Int.reduceSub,Int.reduceMul,Int.reduceToNat]
  exact ⟨_, rfl, rfl, by (repeat' (first|assumption|exact mAx _|refine mBx ?_ ?_|exact mCx (by assumption)|refine mDx ?_|refine mEx ?_ ?_ ?_|exact mFx|refine mGx ?_ ?_ ?_|exact mHx|exact mIx _|(simp only [wM,Nat.reduceAdd,Nat.reduceLT,Nat.reduceLeDiff];done)))⟩

theorem Cuts_ok (n : Nat) (a b : AV) (E : List (Int × Int)) (zs : List Int) (h : Hp) (hk : Hok h) (ha : Pairs h.blks a E) (hb : Ints h.blks .i64 b zs) (hE : E.length ≤ 30) (hn : n ≤ 8) (h0 : 0 < n) (hO : EdgeOK n E) (hp : PermI n zs) :
    ∃ v h', Evals Try.prog tab false (.func 17) [.int .i64 n, a, b] h (v, h') ∧ Grown h h' ∧ ∃ t, v = .tu [t, .int .i64 0] ∧ Own h.next h'.blks .i64 t (cutsU (pos zs) E (n - 1)) := by
  refine evals_q c17 (fun v h' => ∃ t, v = .tu [t, .int .i64 0] ∧ Own h.next h'.blks .i64 t (cutsU (pos zs) E (n - 1))) rfl hk ?_ (fun v h1 g q => by
    obtain ⟨t, rfl, q⟩ := q
    refine ⟨fun r => ⟨t, rfl, q.leave.1 ?_⟩, fun r => ⟨t, rfl, q⟩⟩
    simp only [refOK, refsOK_cons, Bool.and_eq_true] at r
    exact r.1)
  simp only [sf17, initS_cons, initS_nil]
  have hl := PermI.len hp
  have e0 : errO n E zs = 0 := by rw [errO, if_neg (by simp [errG_0.2 ⟨hE, gok h0 hn hO⟩]), if_pos hp]
  have co := f36 n a b E zs h.en hk ha (by omega) hb (by omega)
  rw [e0] at co
  have po := f37 b zs h.en hk hb (by omega) (fun z hz => by have := hp.2.1 z hz; omega) hp.2.2
  have p8 : Pos8 (pos zs) := pos8 (by omega)
  have cu := f41 a E (pos zs) p8 h.en hk ha (by omega) (hO.in8 hn)
  have g1 : Grown h (h.en.pu (ints .i64 (tabF 8 fun q : Nat => cut (pos zs) q E))) := Grown.pu Grown.en refsOK_ints
  have k1 := g1.ok hk
  have st := sStore_ag (n := 8) (m := h.next + 1) (i := h.next) (bs := h.blks) (ls := h.loops) (base := h.next) (esc := false) (cs := ints .i64 (tabF 8 fun _ => 0)) (vs := ints .i64 (tabF 8 fun q : Nat => cut (pos zs) q E)) hk (by rw [ints_len, tabF_len]) (by rw [ints_len, tabF_len]) ints_cells.1 ints_cells.2
  have B2 : ArrB h.next (h.en.pu (ints .i64 (tabF 8 fun q : Nat => cut (pos zs) q E))).blks h.next (tabF 8 fun q : Nat => cut (pos zs) q E) := ⟨lkB_top, Nat.le_refl _⟩
  have iz := B2.ints (n := n - 1) (m := 8) (by rw [tabF_len]; omega) (by omega)
  have ec : (tabF 8 fun q : Nat => cut (pos zs) q E).take (n - 1) = cutsU (pos zs) E (n - 1) := by
    unfold tabF cutsU
    rw [← List.map_take, List.take_range, Nat.min_eq_left (by omega)]
  rw [ec] at iz
  obtain ⟨t, h2, et, g2, o2, _⟩ := f42 _ _ _ k1 iz (by rw [cutsU_len]; omega) rfl
  have en : (n : Int) - 1 = ((n - 1 : Nat) : Int) := by omega
  have b0 : bndV 0 none = some 0 := rfl
  have b1 : ∀ e, bndV 8 (some e) = e := fun e => rfl
  have ar : ∀ h' : Hp, sArr 8 1 h' (some 0) (some (n - 1)) (.ptr h.next 0) = some (.sl h.next 0 (n - 1) (some 8) 1, h') := fun h' => sArr_hi (by omega) (by omega)
  rw [zero8]
  simp (disch := first|(simp only [Nat.reduceBEq,wE];done)|((repeat' (first|assumption|exact mAx _|refine mBx ?_ ?_|exact mCx (by assumption)|refine mDx ?_|refine mEx ?_ ?_ ?_|exact mFx|refine mGx ?_ ?_ ?_|exact mHx|exact mIx _|(simp only [wM,Nat.reduceAdd,Nat.reduceLT,Nat.reduceLeDiff];done)));done)|omega|decide) only [callT co, callT po, callT cu, st, en, b0, b1, ar, callT et, ↓wA,wB,wL,resOf,Nat.reduceBEq,Int.reduceBEq,Int.reduceBNe,Int.reduceLT,Int.reduceLE,Int.reduceAdd,Int.reduceSub,Int.reduceMul,Int.reduceToNat]
  exact ⟨_, rfl, GrownR.trans g1 g2, t, rfl, o2.le (Nat.le_succ _)⟩

theorem Reverse_err (a : AV) (zs : List Int) (h : Hp) (hk : Hok h) (ha : Ints h.blks .i64 a zs) (hz : zs.length ≤ 1000) (he : ¬ (1 ≤ zs.length ∧ zs.length ≤ 8 ∧ PermI zs.length zs)) :
    Evals Try.prog tab false (.func 30) [a] h (.tu [.nilsl, .int .i64 2], h) := by
  refine evals_pure c30 rfl hk ?_ rfl
  simp only [sf30, initS_cons, initS_nil]
  by_cases e1 : (1 : Int) ≤ zs.length ∧ (zs.length : Int) ≤ 8
  · have e2 : ¬ PermI zs.length zs := fun hp => he ⟨by omega, by omega, hp⟩
    have ip := f55 a zs zs.length h.en hk ha (by omega) (by omega)
    rw [decide_eq_false e2] at ip
    simp (disch := first|(simp only [Nat.reduceBEq,wE];done)|((repeat' (first|assumption|exact mAx _|refine mBx ?_ ?_|exact mCx (by assumption)|refine mDx ?_|refine mEx ?_ ?_ ?_|exact mFx|refine mGx ?_ ?_ ?_|exact mHx|exact mIx _|(simp only [wM,Nat.reduceAdd,Nat.reduceLT,Nat.reduceLeDiff];done)));done)|omega|decide) only [ha.len, callT (f54 _ _ _ _ _), decide_eq_true e1, callT ip, ↓wA,wB,wL,resOf,Nat.reduceBEq,Int.reduceBEq,Int.reduceBNe,Int.reduceLT,Int.reduceLE,Int.reduceAdd,Int.reduceSub,Int.reduceMul,Int.reduceToNat]
    exact ⟨_, rfl, rfl, by (repeat' (first|assumption|exact mAx _|refine mBx ?_ ?_|exact mCx (by assumption)|refine mDx ?_|refine mEx ?_ ?_ ?_|exact mFx|refine mGx ?_ ?_ ?_|exact mHx|exact mIx _|(simp only [wM,Nat.reduceAdd,Nat.reduceLT,Nat.reduceLeDiff];done)))⟩
  · simp (disch := first|(simp only [Nat.reduceBEq,wE];done)|((repeat' (first|assumption|exact mAx _|refine mBx ?_ ?_|exact mCx (by assumption)|refine mDx ?_|refine mEx ?_ ?_ ?_|exact mFx|refine mGx ?_ ?_ ?_|exact mHx|exact mIx _|(simp only [wM,Nat.reduceAdd,Nat.reduceLT,Nat.reduceLeDiff];done)));done)|omega|decide) only [ha.len, callT (f54 _ _ _ _ _), decide_eq_false e1, ↓wA,wB,wL,resOf,Nat.reduceBEq,Int.reduceBEq,Int.reduceBNe,Int.reduceLT,Int.reduceLE,Int.reduceAdd,Int.reduceSub,Int.reduceMul,Int.reduceToNat]
    exact ⟨_, rfl, rfl, by (repeat' (first|assumption|exact mAx _|refine mBx ?_ ?_|exact mCx (by assumption)|refine mDx ?_|refine mEx ?_ ?_ ?_|exact mFx|refine mGx ?_ ?_ ?_|exact mHx|exact mIx _|(simp only [wM,Nat.reduceAdd,Nat.reduceLT,Nat.reduceLeDiff];done)))⟩
theorem Reverse_ok (a : AV) (zs : List Int) (h : Hp) (hk : Hok h) (ha : Ints h.blks .i64 a zs) (h1 : 1 ≤ zs.length) (h8 : zs.length ≤ 8) (hp : PermI zs.length zs) :
    ∃ v h', Evals Try.prog tab false (.func 30) [a] h (v, h') ∧ Grown h h' ∧ ∃ t, v = .tu [t, .int .i64 0] ∧ Own h.next h'.blks .i64 t zs.reverse := by
  refine evals_q c30 (fun v h' => ∃ t, v = .tu [t, .int .i64 0] ∧ Own h.next h'.blks .i64 t zs.reverse) rfl hk ?_ (fun v h1 g q => by
    obtain ⟨t, rfl, q⟩ := q
    refine ⟨fun r => ⟨t, rfl, q.leave.1 ?_⟩, fun r => ⟨t, rfl, q⟩⟩
    simp only [refOK, refsOK_cons, Bool.and_eq_true] at r
    exact r.1)
  simp only [sf30, initS_cons, initS_nil]
  have e1 : (1 : Int) ≤ zs.length ∧ (zs.length : Int) ≤ 8 := by omega
  have ip := f55 a zs zs.length h.en hk ha (by omega) (by omega)
  rw [decide_eq_true hp] at ip
  obtain ⟨t, h2, et, g2, o2, _⟩ := f42 a zs h.en hk ha (by omega) (ints_ne ha (by omega))
  obtain ⟨w, h3, ew, rfl, m3, g3, o3⟩ := f56 t zs h.en h2 hk g2 o2 (by omega)
  simp (disch := first|(simp only [Nat.reduceBEq,wE];done)|((repeat' (first|assumption|exact mAx _|refine mBx ?_ ?_|exact mCx (by assumption)|refine mDx ?_|refine mEx ?_ ?_ ?_|exact mFx|refine mGx ?_ ?_ ?_|exact mHx|exact mIx _|(simp only [wM,Nat.reduceAdd,Nat.reduceLT,Nat.reduceLeDiff];done)));done)|omega|decide) only [ha.len, callT (f54 _ _ _ _ _), decide_eq_true e1, callT ip, callT et, callT ew, ↓wA,wB,wL,resOf,Nat.reduceBEq,Int.reduceBEq,Int.reduceBNe,Int.reduceLT,Int.reduceLE,Int.reduceAdd,Int.reduceSub,Int.reduceMul,Int.reduceToNat]
  exact ⟨_, rfl, GrownR.of_en g3, t, rfl, o3⟩
end Go.Proofs.Ytihadgkgogfhcaa
