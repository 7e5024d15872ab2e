/- Degrees and colourings: the program's and the reference's. -/
import Derived.Test.YtpfkmdbdafpadaaDoorPH
set_option linter.unusedSimpArgs false
set_option linter.unusedVariables false
set_option maxHeartbeats 4000000
set_option maxRecDepth 20000
namespace Go.Abs
theorem sStore_next {n m : Nat} {h h' : Hp} {v p : AV} (e : sStore n h v p = some (.any, h')) : sStore n { next := m, blks := h.blks, loops := h.loops, base := h.base, esc := h.esc } v p = some (.any, { next := m, blks := h'.blks, loops := h'.loops, base := h'.base, esc := h'.esc }) := by
  unfold sStore at e ⊢
  split at e <;> try (cases e; done)
  rename_i id off
  cases hp : v.parts with
  | none => rw [hp] at e; cases e
  | some vs =>
    rw [hp] at e
    simp only at e ⊢
    cases hb : Nat.beq vs.length n
    · rw [hb] at e; cases e
    · rw [hb] at e
      simp only [cond_true] at e ⊢
      unfold Hp.write at e ⊢
      cases hl : lkB h.blks id with
      | none => simp [hl] at e
      | some b =>
        simp only [hl] at e ⊢
        cases hc : (b.wr && Nat.ble (off + vs.length) b.cells.length && vs.all AV.isCell)
        · simp [hc] at e
        · simp only [hc, cond_true, Option.map_some, Option.some.injEq, Prod.mk.injEq, true_and] at e ⊢
          subst e
          rfl
end Go.Abs
namespace Go.Proofs.YtpfkmdbdafpadaaDoor
open Go Go.Abs Go.Pa

theorem f52 (a : AV) (zs : List Int) (h : Hp) (hk : Hok h) (ha : Ints h.blks .i64 a zs) (hz : zs.length ≤ 1000) (h0 : 0 < zs.length) :
    Evals Tryd.prog tab false (.func 52) [a] h (.int .i64 (mxU zs zs.length), h) := by
  refine evals_pure c52 rfl hk ?_
  simp only [sf52, initS_cons, initS_nil]
  have d0 : decide ((zs.length : Int) < 1) = false := decide_eq_false (by omega)
  simp (disch := first|(simp only [Nat.reduceBEq,wE];done)|((repeat' (first|assumption|exact mAx _|refine mBx ?_ ?_|exact mCx (by assumption)|refine mDx ?_|refine mEx ?_ ?_ ?_|exact mFx|refine mGx ?_ ?_ ?_|exact mHx|exact mIx _|(simp only [wM,Nat.reduceAdd,Nat.reduceLT,Nat.reduceLeDiff];done)));done)|omega|decide) only [ha.len, d0, ha.ix, ha.ld, idx?_lit0, ↓wA,wB,wL,resOf,Nat.reduceBEq,Int.reduceBEq,Int.reduceBNe,Int.reduceLT,Int.reduceLE,Int.reduceAdd,Int.reduceSub,Int.reduceMul,Int.reduceToNat]
  refine wloop (fun mm ss => ∃ (i : Nat) (m : Int) (u2 u7 u15 : AV), (mm = zs.length - i) ∧ (1 ≤ i ∧ i ≤ zs.length ∧ m = mxU zs i) ∧ ss = { fr := [(0, a), (2, u2), (3, .int .i64 m), (4, .int .i64 i), (7, u7), (15, u15)], hp := h.en }) (zs.length - 1) ?_ ?_
  ·
    have e1 : zs.getD 0 0 = mxU zs 1 := by simp only [mxU]; omega
    refine ⟨1, zs.getD 0 0, _, _, _, rfl, ⟨by omega, by omega, e1⟩, rfl⟩
  rintro nA sA ⟨i, m, u2, u7, u15, hnA, ⟨hi, hj, hm⟩, rfl⟩
  simp (disch := first|(simp only [Nat.reduceBEq,wE];done)|((repeat' (first|assumption|exact mAx _|refine mBx ?_ ?_|exact mCx (by assumption)|refine mDx ?_|refine mEx ?_ ?_ ?_|exact mFx|refine mGx ?_ ?_ ?_|exact mHx|exact mIx _|(simp only [wM,Nat.reduceAdd,Nat.reduceLT,Nat.reduceLeDiff];done)));done)|omega|decide) only [ha.len, ↓wA,wB,wL,resOf,Nat.reduceBEq,Int.reduceBEq,Int.reduceBNe,Int.reduceLT,Int.reduceLE,Int.reduceAdd,Int.reduceSub,Int.reduceMul,Int.reduceToNat]
  refine ifThen_intro (fun e => ?_) (fun e => ?_) <;> have eq := e <;> try simp [-List.getD_eq_getElem?_getD] at eq
  · simp (disch := first|(simp only [Nat.reduceBEq,wE];done)|((repeat' (first|assumption|exact mAx _|refine mBx ?_ ?_|exact mCx (by assumption)|refine mDx ?_|refine mEx ?_ ?_ ?_|exact mFx|refine mGx ?_ ?_ ?_|exact mHx|exact mIx _|(simp only [wM,Nat.reduceAdd,Nat.reduceLT,Nat.reduceLeDiff];done)));done)|omega|decide) only [e, ha.ix, ha.ld, ↓wA,wB,wL,resOf,Nat.reduceBEq,Int.reduceBEq,Int.reduceBNe,Int.reduceLT,Int.reduceLE,Int.reduceAdd,Int.reduceSub,Int.reduceMul,Int.reduceToNat]
    refine ⟨_, ?_, i + 1, _, _, _, _, rfl, ?_, rfl⟩
    · omega
    exact ⟨by omega, by omega, by rw [hm]; rfl⟩
  · simp (disch := first|(simp only [Nat.reduceBEq,wE];done)|((repeat' (first|assumption|exact mAx _|refine mBx ?_ ?_|exact mCx (by assumption)|refine mDx ?_|refine mEx ?_ ?_ ?_|exact mFx|refine mGx ?_ ?_ ?_|exact mHx|exact mIx _|(simp only [wM,Nat.reduceAdd,Nat.reduceLT,Nat.reduceLeDiff];done)));done)|omega|decide) only [e, ↓wA,wB,wL,resOf,Nat.reduceBEq,Int.reduceBEq,Int.reduceBNe,Int.reduceLT,Int.reduceLE,Int.reduceAdd,Int.reduceSub,Int.reduceMul,Int.reduceToNat]
    refine ⟨_, rfl, ?_, by (repeat' (first|assumption|exact mAx _|refine mBx ?_ ?_|exact mCx (by assumption)|refine mDx ?_|refine mEx ?_ ?_ ?_|exact mFx|refine mGx ?_ ?_ ?_|exact mHx|exact mIx _|(simp only [wM,Nat.reduceAdd,Nat.reduceLT,Nat.reduceLeDiff];done)))⟩
    rw [hm, show i = zs.length by omega]

theorem f40 (a : AV) (E : List (Int × Int)) (h : Hp) (hk : Hok h) (ha : Pairs h.blks a E) (hE : E.length ≤ 1000) (h6 : In6 E) :
    Evals Tryd.prog tab false (.func 40) [a] h (.int .i64 (dg E), h) := by
  refine evals_pure c40 rfl hk ?_
  simp only [sf40, initS_cons, initS_nil]
  have k1 : Hok (h.en.pu [.int .i64 0, .int .i64 0, .int .i64 0, .int .i64 0, .int .i64 0, .int .i64 0]) := Hok.pu hk rfl
  have g2 : Grown h ((h.en.pu [.int .i64 0, .int .i64 0, .int .i64 0, .int .i64 0, .int .i64 0, .int .i64 0]).pu [.int .i64 0, .int .i64 0, .int .i64 0, .int .i64 0, .int .i64 0, .int .i64 0]) := Grown.pu (Grown.pu Grown.en rfl) rfl
  have a2 := ha.sub (g2.sub hk)
  have z : ∀ A : Nat → Int, Abs.ints .i64 (cnt6 A 0) = [.int .i64 0, .int .i64 0, .int .i64 0, .int .i64 0, .int .i64 0, .int .i64 0] := fun A => by rw [cnt6_zero]; rfl
  have A0 : ArrB h.next ((h.en.pu [.int .i64 0, .int .i64 0, .int .i64 0, .int .i64 0, .int .i64 0, .int .i64 0]).pu [.int .i64 0, .int .i64 0, .int .i64 0, .int .i64 0, .int .i64 0, .int .i64 0]).blks h.next (cnt6 (fun i => (eg E i).1) 0) := ⟨by rw [lkB_push (by simp), lkB_top, z], Nat.le_refl _⟩
  have B0 : ArrB h.next ((h.en.pu [.int .i64 0, .int .i64 0, .int .i64 0, .int .i64 0, .int .i64 0, .int .i64 0]).pu [.int .i64 0, .int .i64 0, .int .i64 0, .int .i64 0, .int .i64 0, .int .i64 0]).blks (h.next + 1) (cnt6 (fun i => (eg E i).2) 0) := ⟨by rw [lkB_top, z], by omega⟩
  simp (disch := first|(simp only [Nat.reduceBEq,wE];done)|((repeat' (first|assumption|exact mAx _|refine mBx ?_ ?_|exact mCx (by assumption)|refine mDx ?_|refine mEx ?_ ?_ ?_|exact mFx|refine mGx ?_ ?_ ?_|exact mHx|exact mIx _|(simp only [wM,Nat.reduceAdd,Nat.reduceLT,Nat.reduceLeDiff];done)));done)|omega|decide) only [a2.len, ↓wA,wB,wL,resOf,Nat.reduceBEq,Int.reduceBEq,Int.reduceBNe,Int.reduceLT,Int.reduceLE,Int.reduceAdd,Int.reduceSub,Int.reduceMul,Int.reduceToNat]
  refine wloop (fun mm ss => ∃ (i : Nat) (h1 : Hp) (u2 u6 u10 : AV), (mm = E.length - i) ∧ (i ≤ E.length ∧ Grown h h1 ∧ ArrB h.next h1.blks h.next (cnt6 (fun i => (eg E i).1) i) ∧ ArrB h.next h1.blks (h.next + 1) (cnt6 (fun i => (eg E i).2) i)) ∧ ss = { fr := [(0, a), (2, u2), (3, .ptr h.next 0), (4, .ptr (h.next + 1) 0), (6, u6), (7, a), (8, .int .i64 E.length), (9, .int .i64 i), (10, u10)], hp := h1 }) (E.length) ?_ ?_
  ·
    refine ⟨0, _, _, _, _, by omega, ⟨by omega, g2, A0, B0⟩, rfl⟩
  rintro nA sA ⟨i, h1, u2, u6, u10, hnA, ⟨hi, g1, A1, B1⟩, rfl⟩
  have k1 := g1.ok hk
  have a1 := ha.sub (g1.sub hk)
  simp (disch := first|(simp only [Nat.reduceBEq,wE];done)|((repeat' (first|assumption|exact mAx _|refine mBx ?_ ?_|exact mCx (by assumption)|refine mDx ?_|refine mEx ?_ ?_ ?_|exact mFx|refine mGx ?_ ?_ ?_|exact mHx|exact mIx _|(simp only [wM,Nat.reduceAdd,Nat.reduceLT,Nat.reduceLeDiff];done)));done)|omega|decide) only [↓wA,wB,wL,resOf,Nat.reduceBEq,Int.reduceBEq,Int.reduceBNe,Int.reduceLT,Int.reduceLE,Int.reduceAdd,Int.reduceSub,Int.reduceMul,Int.reduceToNat]
  refine ifThen_intro (fun e => ?_) (fun e => ?_) <;> have eq := e <;> try simp [-List.getD_eq_getElem?_getD] at eq
  · have hm := h6 _ (eg_mem eq)
    obtain ⟨x, ex⟩ : ∃ x : Nat, (eg E i).1 = x := ⟨(eg E i).1.toNat, by omega⟩
    obtain ⟨y, ey⟩ : ∃ y : Nat, (eg E i).2 = y := ⟨(eg E i).2.toNat, by omega⟩
    have x6 : x < 6 := by omega
    have y6 : y < 6 := by omega
    have exD : (E.getD i (0, 0)).1 = (x : Int) := ex
    have eyD : (E.getD i (0, 0)).2 = (y : Int) := ey
    obtain ⟨h2, e2, A2, g2, n2, r2⟩ := arr_set (v := (cnt6 (fun i => (eg E i).1) i).getD x 0 + 1) hk g1 A1 (i := x) (by rw [cnt6_len]; exact x6)
    rw [cnt6_step ex x6] at A2
    have B2 : ArrB h.next h2.blks (h.next + 1) (cnt6 (fun i => (eg E i).2) i) := ⟨r2 _ _ (by omega) (by simp) B1.1, B1.2⟩
    have k2 := g2.ok hk
    have E2 := sStore_next (m := h1.next + 1) e2
    obtain ⟨h3, e3, B3, g3, n3, r3⟩ := arr_set (v := (cnt6 (fun i => (eg E i).2) i).getD y 0 + 1) hk g2 B2 (i := y) (by rw [cnt6_len]; exact y6)
    rw [cnt6_step ey y6] at B3
    have A3 : ArrB h.next h3.blks h.next (cnt6 (fun i => (eg E i).1) (i + 1)) := ⟨r3 _ _ (by omega) (by simp) A2.1, A2.2⟩
    have E3 := sStore_next (m := h1.next + 1) e3
    have l1 := A1.ld (i := x) (by rw [cnt6_len]; exact x6)
    have l2 := B2.ld (i := y) (by rw [cnt6_len]; exact y6)
    have hx1 : h.next < h1.next := (k1.get A1.1).1
    have hx2 : h.next + 1 < h1.next := (k1.get B1.1).1
    have hr2 : HokR h1.next h2.blks h2.loops := by have k2' : HokR h2.next h2.blks h2.loops := k2; rw [n2] at k2'; exact k2'
    have b1 : (cnt6 (fun i => (eg E i).1) i).getD x 0 = ((deg (fun i => (eg E i).1) i x : Nat) : Int) := cnt6_at x6
    have b2 : (cnt6 (fun i => (eg E i).2) i).getD y 0 = ((deg (fun i => (eg E i).2) i y : Nat) : Int) := cnt6_at y6
    have b3 := deg_le_n (A := fun i => (eg E i).1) (x := x) i
    have b4 := deg_le_n (A := fun i => (eg E i).2) (x := y) i
    simp (disch := first|(simp only [Nat.reduceBEq,wE];done)|((repeat' (first|assumption|exact mAx _|refine mBx ?_ ?_|exact mCx (by assumption)|refine mDx ?_|refine mEx ?_ ?_ ?_|exact mFx|refine mGx ?_ ?_ ?_|exact mHx|exact mIx _|(simp only [wM,Nat.reduceAdd,Nat.reduceLT,Nat.reduceLeDiff];done)));done)|omega|decide) only [e, a1.ix, a1.lda, exD, eyD, l1, l2, E2, E3, cellB_miss, ↓wA,wB,wL,resOf,Nat.reduceBEq,Int.reduceBEq,Int.reduceBNe,Int.reduceLT,Int.reduceLE,Int.reduceAdd,Int.reduceSub,Int.reduceMul,Int.reduceToNat]
    have gg : GrownR h (h1.next + 1) ((h1.next, { cells := [AV.int .i64 x, AV.int .i64 y], ch := h1.next, wr := true }) :: h3.blks) h3.loops := by
      have := GrownR.push (w := true) (cs := [AV.int .i64 x, AV.int .i64 y]) g3 rfl (Nat.le_refl _)
      rw [n3, n2] at this
      exact this
    refine ⟨_, ?_, i + 1, _, _, _, _, rfl, ?_, rfl⟩
    · omega
    exact ⟨by omega, gg, ⟨by rw [lkB_push (by omega)]; exact A3.1, A3.2⟩, ⟨by rw [lkB_push (by omega)]; exact B3.1, B3.2⟩⟩
  · have ei : i = E.length := by omega
    rw [ei] at A1 B1
    have M1 := f52 _ _ h1 k1 (A1.ints cnt6_len) (by rw [cnt6_len]; omega) (by rw [cnt6_len]; omega)
    have M2 := f52 _ _ h1 k1 (B1.ints cnt6_len) (by rw [cnt6_len]; omega) (by rw [cnt6_len]; omega)
    rw [cnt6_len] at M1 M2
    have bn : ∀ d, bndV d none = some d := fun d => rfl
    simp (disch := first|(simp only [Nat.reduceBEq,wE];done)|((repeat' (first|assumption|exact mAx _|refine mBx ?_ ?_|exact mCx (by assumption)|refine mDx ?_|refine mEx ?_ ?_ ?_|exact mFx|refine mGx ?_ ?_ ?_|exact mHx|exact mIx _|(simp only [wM,Nat.reduceAdd,Nat.reduceLT,Nat.reduceLeDiff];done)));done)|omega|decide) only [e, callT M1, callT M2, bn, sArr_ptr, ↓wA,wB,wL,resOf,Nat.reduceBEq,Int.reduceBEq,Int.reduceBNe,Int.reduceLT,Int.reduceLE,Int.reduceAdd,Int.reduceSub,Int.reduceMul,Int.reduceToNat]
    refine ⟨_, rfl, ?_, g1⟩
    rw [← dg_max E]

end Go.Proofs.YtpfkmdbdafpadaaDoor
