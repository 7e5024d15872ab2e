/- Best as the reference says it; the law about both colourings. -/
import Derived.Test.YtgpdimkgfhgffaaS28
import Derived.Test.YtgpdimkgfhgffaaS10
import Derived.Test.YtgpdimkgfhgffaaR1
import Derived.Test.YtgpdimkgfhgffaaFShiftFits
set_option linter.unusedSimpArgs false
set_option linter.unusedVariables false
set_option maxHeartbeats 4000000
set_option maxRecDepth 20000

namespace Go.Proofs.Ytgpdimkgfhgffaa

open Go Go.Abs Go.Sh

theorem f14 (a : AV) (l : List Span) (h : Hp) (hk : Hok h) (ha : Pairs h.blks a l) (hl : l.length ≤ 40) (hok : ∀ s ∈ l, 0 ≤ s.1 ∧ s.1 < 1000) :
    ∃ v h', Evals Try.prog tab false (.func 14) [a] h (v, h') ∧ Grown h h' ∧ ∃ D, Own h.next h'.blks .i64 v D ∧ D.length = l.length ∧ ∀ t, t < l.length → gz D (gz (ordB l 1000) t).toNat = gz (fit ((ordB l 1000).map fun z => sg l z.toNat)) t := by
  refine evals_q c14 (fun v h' => ∃ D, Own h.next h'.blks .i64 v D ∧ D.length = l.length ∧ ∀ t, t < l.length → gz D (gz (ordB l 1000) t).toNat = gz (fit ((ordB l 1000).map fun z => sg l z.toNat)) t) rfl hk ?_ (fun v h1 g q => by
    obtain ⟨D, q1, q2⟩ := q
    exact ⟨fun hh => ⟨D, q1.leave.1 hh, q2⟩, fun hh => ⟨D, q1.leave.2 hh, q2⟩⟩)
  simp only [sf14, initS_cons, initS_nil]
  have ap0 : Apart ((h.en.pu []).pu []).blks (.sl h.next 0 0 (some 0) 1) (.sl (h.next + 1) 0 0 (some 0) 2) := by
    intro x hx hy
    have e2 : lkB ((h.en.pu []).pu []).blks h.next = some { cells := [], ch := h.next, wr := true } := by
      show lkB ((h.next + 1, _) :: (h.next, _) :: _) h.next = _
      rw [lkB_push (by omega)]
      exact lkB_top
    have e3 : lkB ((h.en.pu []).pu []).blks (h.next + 1) = some { cells := [], ch := h.next + 1, wr := true } := lkB_top
    simp only [chOf, e2, e3, Option.map_some, Option.some.injEq] at hx hy
    omega
  have or0 : Own h.next ((h.en.pu []).pu []).blks .i64 (.sl h.next 0 0 (some 0) 1) [] := Own.sub (bs := (h.en.pu []).blks) (Own.fresh (Nat.le_refl _) rfl rfl rfl (Nat.le_refl _)) (by (repeat' (first|assumption|exact mAx _|refine mBx ?_ ?_|exact mCx (by assumption)|refine mDx ?_|refine mEx ?_ ?_ ?_|exact mFx|refine mGx ?_ ?_ ?_|exact mHx|exact mIx _|(simp only [wM,Nat.reduceAdd,Nat.reduceLT,Nat.reduceLeDiff];done))))
  have sp0 : OwnP h.next ((h.en.pu []).pu []).blks (.sl (h.next + 1) 0 0 (some 0) 2) [] := OwnP.fresh (Nat.le_succ _) rfl rfl rfl (Nat.le_refl _)
  simp (disch := first|(simp only [Nat.reduceBEq,wE];done)|((repeat' (first|assumption|exact mAx _|refine mBx ?_ ?_|exact mCx (by assumption)|refine mDx ?_|refine mEx ?_ ?_ ?_|exact mFx|refine mGx ?_ ?_ ?_|exact mHx|exact mIx _|(simp only [wM,Nat.reduceAdd,Nat.reduceLT,Nat.reduceLeDiff];done)));done)|omega|decide) only [↓wA,wB,wL,resOf,Nat.reduceBEq,Int.reduceBEq,Int.reduceBNe,Int.reduceLT,Int.reduceLE,Int.reduceAdd,Int.reduceSub,Int.reduceMul,Int.reduceToNat]
  refine wloop (fun mm ss => ∃ (t : Nat) (q p : AV) (h1 : Hp) (u2 u6 u7 u8 u9 u13 u19 u28 u48 : AV), (mm = 1000 - t) ∧ (t ≤ 1000 ∧ Grown h h1 ∧ Own h.next h1.blks .i64 q (ordB l t) ∧ OwnP h.next h1.blks p ((ordB l t).map fun z => sg l z.toNat) ∧ Apart h1.blks q p) ∧ ss = { fr := [(0, a), (2, u2), (3, q), (4, p), (5, .int .i64 t), (6, u6), (7, u7), (8, u8), (9, u9), (13, u13), (19, u19), (28, u28), (48, u48)], hp := h1 }) (1000) ?_ ?_
  ·
    refine ⟨0, _, _, (h.en.pu []).pu [], _, _, _, _, _, _, _, _, _, by omega, ⟨by omega, by (repeat' (first|assumption|exact mAx _|refine mBx ?_ ?_|exact mCx (by assumption)|refine mDx ?_|refine mEx ?_ ?_ ?_|exact mFx|refine mGx ?_ ?_ ?_|exact mHx|exact mIx _|(simp only [wM,Nat.reduceAdd,Nat.reduceLT,Nat.reduceLeDiff];done))), or0, sp0, ap0⟩, rfl⟩
  rintro nA sA ⟨t, q, p, h1, u2, u6, u7, u8, u9, u13, u19, u28, u48, hnA, ⟨ht, g1, o1, p1, ap1⟩, rfl⟩
  have hob := ordB_le l t
  have hob2 : t * l.length ≤ 1000 * 40 := Nat.mul_le_mul ht hl
  simp (disch := first|(simp only [Nat.reduceBEq,wE];done)|((repeat' (first|assumption|exact mAx _|refine mBx ?_ ?_|exact mCx (by assumption)|refine mDx ?_|refine mEx ?_ ?_ ?_|exact mFx|refine mGx ?_ ?_ ?_|exact mHx|exact mIx _|(simp only [wM,Nat.reduceAdd,Nat.reduceLT,Nat.reduceLeDiff];done)));done)|omega|decide) only [↓wA,wB,wL,resOf,Nat.reduceBEq,Int.reduceBEq,Int.reduceBNe,Int.reduceLT,Int.reduceLE,Int.reduceAdd,Int.reduceSub,Int.reduceMul,Int.reduceToNat]
  refine ifThen_intro (fun e => ?_) (fun e => ?_) <;> have eq := e <;> try simp [-List.getD_eq_getElem?_getD] at eq
  · simp (disch := first|(simp only [Nat.reduceBEq,wE];done)|((repeat' (first|assumption|exact mAx _|refine mBx ?_ ?_|exact mCx (by assumption)|refine mDx ?_|refine mEx ?_ ?_ ?_|exact mFx|refine mGx ?_ ?_ ?_|exact mHx|exact mIx _|(simp only [wM,Nat.reduceAdd,Nat.reduceLT,Nat.reduceLeDiff];done)));done)|omega|decide) only [e, ↓wA,wB,wL,resOf,Nat.reduceBEq,Int.reduceBEq,Int.reduceBNe,Int.reduceLT,Int.reduceLE,Int.reduceAdd,Int.reduceSub,Int.reduceMul,Int.reduceToNat]
    refine wloop (fun mm ss => ∃ (i : Nat) (q p : AV) (h2 : Hp) (u2 u7 u8 u9 u13 u19 u28 u48 : AV), (mm = l.length - i) ∧ (i ≤ l.length ∧ Grown h h2 ∧ Own h.next h2.blks .i64 q (ordB l t ++ rowU l (t : Int) i) ∧ OwnP h.next h2.blks p ((ordB l t ++ rowU l (t : Int) i).map fun z => sg l z.toNat) ∧ Apart h2.blks q p) ∧ ss = { fr := [(0, a), (2, u2), (3, q), (4, p), (5, .int .i64 t), (6, .int .i64 i), (7, u7), (8, u8), (9, u9), (13, u13), (19, u19), (28, u28), (48, u48)], hp := h2 }) (l.length) ?_ ?_
    ·
      refine ⟨0, q, p, h1, _, _, _, _, _, _, _, _, by omega, ⟨by omega, g1, by simpa [rowU] using o1, by simpa [rowU] using p1, ap1⟩, rfl⟩
    rintro nB sB ⟨i, q, p, h2, u2, u7, u8, u9, u13, u19, u28, u48, hnB, ⟨hi, g2, o2, p2, ap2⟩, rfl⟩
    have k2 := g2.ok hk
    have a2 := ha.sub (g2.sub hk)
    have hrl := rowU_len l (t : Int) i
    have hml : (ordB l t ++ rowU l (t : Int) i).length ≤ 41000 := by rw [List.length_append]; omega
    simp (disch := first|(simp only [Nat.reduceBEq,wE];done)|((repeat' (first|assumption|exact mAx _|refine mBx ?_ ?_|exact mCx (by assumption)|refine mDx ?_|refine mEx ?_ ?_ ?_|exact mFx|refine mGx ?_ ?_ ?_|exact mHx|exact mIx _|(simp only [wM,Nat.reduceAdd,Nat.reduceLT,Nat.reduceLeDiff];done)));done)|omega|decide) only [e, a2.len, ↓wA,wB,wL,resOf,Nat.reduceBEq,Int.reduceBEq,Int.reduceBNe,Int.reduceLT,Int.reduceLE,Int.reduceAdd,Int.reduceSub,Int.reduceMul,Int.reduceToNat]
    refine ifThen_intro (fun e2 => ?_) (fun e2 => ?_) <;> have e2q := e2 <;> try simp [-List.getD_eq_getElem?_getD] at e2q
    · have hdi : l.getD i (0, 0) = sg l i := rfl
      simp (disch := first|(simp only [Nat.reduceBEq,wE];done)|((repeat' (first|assumption|exact mAx _|refine mBx ?_ ?_|exact mCx (by assumption)|refine mDx ?_|refine mEx ?_ ?_ ?_|exact mFx|refine mGx ?_ ?_ ?_|exact mHx|exact mIx _|(simp only [wM,Nat.reduceAdd,Nat.reduceLT,Nat.reduceLeDiff];done)));done)|omega|decide) only [e, e2, a2.ix, a2.fa, a2.ld0, hdi, ↓wA,wB,wL,resOf,Nat.reduceBEq,Int.reduceBEq,Int.reduceBNe,Int.reduceLT,Int.reduceLE,Int.reduceAdd,Int.reduceSub,Int.reduceMul,Int.reduceToNat]
      by_cases e3 : (sg l i).1 = t
      · have e3b : ((sg l i).1 == (t : Int)) = true := by simpa using e3
        obtain ⟨q3, h3, y1, y2, y3, y4, y5⟩ := own_app1O (v := (i : Int)) (h := h2) hk g2 o2 p2 ap2 (by omega)
        obtain ⟨p4, h4, z1, z2, z3, z4, z5⟩ := own_appP1O (a := (sg l i).1) (b := (sg l i).2) (h := h3) hk y3 y4 y2 y5.symm (by rw [List.length_map]; omega)
        have s2 := g2.sub hk
        have s3 := y3.sub hk
        have s4 := z3.sub hk
        have k3 := y3.ok hk
        have er : rowU l (t : Int) (i + 1) = rowU l (t : Int) i ++ [(i : Int)] := by rw [rowU, if_pos e3]
        simp (disch := first|(simp only [Nat.reduceBEq,wE];done)|((repeat' (first|assumption|exact mAx _|refine mBx ?_ ?_|exact mCx (by assumption)|refine mDx ?_|refine mEx ?_ ?_ ?_|exact mFx|refine mGx ?_ ?_ ?_|exact mHx|exact mIx _|(simp only [wM,Nat.reduceAdd,Nat.reduceLT,Nat.reduceLeDiff];done)));done)|omega|decide) only [e, e2, e3b, y1, ha.ix, ha.lda, hdi, z1, ↓wA,wB,wL,resOf,Nat.reduceBEq,Int.reduceBEq,Int.reduceBNe,Int.reduceLT,Int.reduceLE,Int.reduceAdd,Int.reduceSub,Int.reduceMul,Int.reduceToNat]
        refine ⟨_, ?_, i + 1, _, _, _, _, _, _, _, _, _, _, _, rfl, ?_, rfl⟩
        · omega
        refine ⟨by omega, z3, ?_, ?_, z5.symm⟩
        · rw [er, ← List.append_assoc]; exact z4
        · rw [er, ← List.append_assoc, List.map_append, List.map_singleton, Int.toNat_natCast]; exact z2
      · have e3b : ((sg l i).1 == (t : Int)) = false := by simpa using e3
        have er : rowU l (t : Int) (i + 1) = rowU l (t : Int) i := by rw [rowU, if_neg e3]
        simp (disch := first|(simp only [Nat.reduceBEq,wE];done)|((repeat' (first|assumption|exact mAx _|refine mBx ?_ ?_|exact mCx (by assumption)|refine mDx ?_|refine mEx ?_ ?_ ?_|exact mFx|refine mGx ?_ ?_ ?_|exact mHx|exact mIx _|(simp only [wM,Nat.reduceAdd,Nat.reduceLT,Nat.reduceLeDiff];done)));done)|omega|decide) only [e, e2, e3b, ↓wA,wB,wL,resOf,Nat.reduceBEq,Int.reduceBEq,Int.reduceBNe,Int.reduceLT,Int.reduceLE,Int.reduceAdd,Int.reduceSub,Int.reduceMul,Int.reduceToNat]
        refine ⟨_, ?_, i + 1, q, p, _, _, _, _, _, _, _, _, _, rfl, ?_, rfl⟩
        · omega
        exact ⟨by omega, g2, by rw [er]; exact o2, by rw [er]; exact p2, ap2⟩
    · have hil : i = l.length := by omega
      simp (disch := first|(simp only [Nat.reduceBEq,wE];done)|((repeat' (first|assumption|exact mAx _|refine mBx ?_ ?_|exact mCx (by assumption)|refine mDx ?_|refine mEx ?_ ?_ ?_|exact mFx|refine mGx ?_ ?_ ?_|exact mHx|exact mIx _|(simp only [wM,Nat.reduceAdd,Nat.reduceLT,Nat.reduceLeDiff];done)));done)|omega|decide) only [e, e2, ↓wA,wB,wL,resOf,Nat.reduceBEq,Int.reduceBEq,Int.reduceBNe,Int.reduceLT,Int.reduceLE,Int.reduceAdd,Int.reduceSub,Int.reduceMul,Int.reduceToNat]
      refine ⟨_, ?_, t + 1, q, p, _, _, _, _, _, _, _, _, _, _, rfl, ?_, rfl⟩
      · omega
      exact ⟨by omega, g2, by rw [ordB, ← hil]; exact o2, by rw [ordB, ← hil]; exact p2, ap2⟩
  · have ht2 : t = 1000 := by omega
    rw [ht2] at o1 p1
    have hol := ordB_len hok
    have hro : ∀ y, y < l.length → ∃ j : Nat, gz (ordB l 1000) y = (j : Int) ∧ j < l.length := fun y hy => by
      have hm : gz (ordB l 1000) y ∈ ordB l 1000 := by
        rw [gz, List.getD_eq_getElem?_getD, List.getElem?_eq_getElem (show y < (ordB l 1000).length by omega), Option.getD_some]
        exact List.getElem_mem ..
      obtain ⟨j, h1, h2, _⟩ := mem_ordB.1 hm
      exact ⟨j, h1, h2⟩
    have inj : ∀ x y, x < y → y < l.length → gz (ordB l 1000) x ≠ gz (ordB l 1000) y := fun x y h1 h2 he => by
      have hp := List.pairwise_iff_getElem.1 (ord_sorted l 1000) x y (by omega) (by omega) h1
      simp only [gz, List.getD_eq_getElem?_getD, List.getElem?_eq_getElem (show x < (ordB l 1000).length by omega), List.getElem?_eq_getElem (show y < (ordB l 1000).length by omega), Option.getD_some] at he
      rw [he] at hp
      exact hp.irrefl
    generalize ordB l 1000 = ord at *
    have hL : (ord.map fun z => sg l z.toNat).length = l.length := by simp [hol]
    generalize hLe : (ord.map fun z => sg l z.toNat) = L at *
    have k1 := g1.ok hk
    have a1 := ha.sub (g1.sub hk)
    simp (disch := first|(simp only [Nat.reduceBEq,wE];done)|((repeat' (first|assumption|exact mAx _|refine mBx ?_ ?_|exact mCx (by assumption)|refine mDx ?_|refine mEx ?_ ?_ ?_|exact mFx|refine mGx ?_ ?_ ?_|exact mHx|exact mIx _|(simp only [wM,Nat.reduceAdd,Nat.reduceLT,Nat.reduceLeDiff];done)));done)|omega|decide) only [e, ↓wA,wB,wL,resOf,Nat.reduceBEq,Int.reduceBEq,Int.reduceBNe,Int.reduceLT,Int.reduceLE,Int.reduceAdd,Int.reduceSub,Int.reduceMul,Int.reduceToNat]
    refine callE (f13 p L h1 k1 p1.pairs (by omega)) ?_
    rintro u h2 ⟨g2, of⟩
    have k2 := g2.ok k1
    have a2 := a1.sub (g2.sub k1)
    have o2 := o1.sub (g2.sub k1)
    have G2 : Grown h h2 := GrownR.trans g1 g2
    have hfl : (fit L).length = l.length := by rw [← hL]; exact onl_len _ _ _
    have k3 : Hok (h2.pu (Abs.ints .i64 (List.replicate l.length 0))) := Hok.pu k2 refsOK_ints
    have c3 : Own h2.next (h2.pu (Abs.ints .i64 (List.replicate l.length 0))).blks .i64 (.sl h2.next 0 l.length (some l.length) 1) (List.replicate l.length 0) :=
      Own.fresh (Nat.le_refl _) (by simp) (by rw [ints_take, List.take_of_length_le (by simp)]) (by simp [ints_len]) (Nat.le_refl _)
    have mk := fun (hh : Hp) (z : List AV) (m : Nat) => sMks_ok (h := hh) (z := z) (n := m) (l := l.length) (c := l.length) (Nat.le_refl _) (by omega)
    simp (disch := first|(simp only [Nat.reduceBEq,wE];done)|((repeat' (first|assumption|exact mAx _|refine mBx ?_ ?_|exact mCx (by assumption)|refine mDx ?_|refine mEx ?_ ?_ ?_|exact mFx|refine mGx ?_ ?_ ?_|exact mHx|exact mIx _|(simp only [wM,Nat.reduceAdd,Nat.reduceLT,Nat.reduceLeDiff];done)));done)|omega|decide) only [e, a2.len, mk, repl_ints, ↓wA,wB,wL,resOf,Nat.reduceBEq,Int.reduceBEq,Int.reduceBNe,Int.reduceLT,Int.reduceLE,Int.reduceAdd,Int.reduceSub,Int.reduceMul,Int.reduceToNat]
    refine wloop (fun mm ss => ∃ (y : Nat) (D : List Int) (h3 : Hp) (u2 u5 u6 u13 u19 u28 u48 : AV), (mm = l.length - y) ∧ (y ≤ l.length ∧ Grown h2 h3 ∧ Own h2.next h3.blks .i64 (.sl h2.next 0 l.length (some l.length) 1) D ∧ D.length = l.length ∧ ∀ x, x < y → gz D (gz ord x).toNat = gz (fit L) x) ∧ ss = { fr := [(0, a), (2, u2), (3, q), (4, p), (5, u5), (6, u6), (7, u), (8, .sl h2.next 0 l.length (some l.length) 1), (9, .int .i64 y), (13, u13), (19, u19), (28, u28), (48, u48)], hp := h3 }) (l.length) ?_ ?_
    ·
      refine ⟨0, List.replicate l.length 0, _, _, _, _, _, _, _, _, by omega, ⟨by omega, GrownR.push Grown.refl refsOK_ints (Nat.le_refl _), c3, by simp, fun x hx => by omega⟩, rfl⟩
    rintro nD sD ⟨y, D, h3, u2, u5, u6, u13, u19, u28, u48, hnD, ⟨hy, g3, d3, lD, rD⟩, rfl⟩
    have o3 := o2.sub (g3.sub k2)
    have u3 := of.sub (g3.sub k2)
    simp (disch := first|(simp only [Nat.reduceBEq,wE];done)|((repeat' (first|assumption|exact mAx _|refine mBx ?_ ?_|exact mCx (by assumption)|refine mDx ?_|refine mEx ?_ ?_ ?_|exact mFx|refine mGx ?_ ?_ ?_|exact mHx|exact mIx _|(simp only [wM,Nat.reduceAdd,Nat.reduceLT,Nat.reduceLeDiff];done)));done)|omega|decide) only [e, o3.ints.len, hol, ↓wA,wB,wL,resOf,Nat.reduceBEq,Int.reduceBEq,Int.reduceBNe,Int.reduceLT,Int.reduceLE,Int.reduceAdd,Int.reduceSub,Int.reduceMul,Int.reduceToNat]
    refine ifThen_intro (fun e3 => ?_) (fun e3 => ?_) <;> have e3q := e3 <;> try simp [-List.getD_eq_getElem?_getD] at e3q
    · obtain ⟨j, hj1, hj2⟩ := hro y e3q
      have hj1' : ord.getD y 0 = (j : Int) := hj1
      obtain ⟨h4, e4, d4, g4⟩ := own_setI (v := (fit L).getD y 0) (i := j) k2 g3 d3 (by omega)
      have s3 := g3.sub k2
      have s4 := g4.sub k2
      simp (disch := first|(simp only [Nat.reduceBEq,wE];done)|((repeat' (first|assumption|exact mAx _|refine mBx ?_ ?_|exact mCx (by assumption)|refine mDx ?_|refine mEx ?_ ?_ ?_|exact mFx|refine mGx ?_ ?_ ?_|exact mHx|exact mIx _|(simp only [wM,Nat.reduceAdd,Nat.reduceLT,Nat.reduceLeDiff];done)));done)|omega|decide) only [e, e3, o3.ints.ix, o3.ints.ld, hj1', u3.ints.ix, u3.ints.ld, d3.ints.ix, e4, ↓wA,wB,wL,resOf,Nat.reduceBEq,Int.reduceBEq,Int.reduceBNe,Int.reduceLT,Int.reduceLE,Int.reduceAdd,Int.reduceSub,Int.reduceMul,Int.reduceToNat]
      refine ⟨_, ?_, y + 1, D.set j ((fit L).getD y 0), h4, _, _, _, _, _, _, _, rfl, ?_, rfl⟩
      · omega
      refine ⟨by omega, g4, d4, by simpa using lD, fun x hx => ?_⟩
      rw [gz_set (by omega)]
      by_cases ey : x = y
      · rw [ey, hj1, if_pos (by simp)]
      · have hne := inj x y (by omega) e3q
        obtain ⟨m, hm1, hm2⟩ := hro x (by omega)
        rw [hm1, hj1] at hne
        rw [if_neg (by rw [hm1]; simp; omega)]
        exact rD x (by omega)
    · simp (disch := first|(simp only [Nat.reduceBEq,wE];done)|((repeat' (first|assumption|exact mAx _|refine mBx ?_ ?_|exact mCx (by assumption)|refine mDx ?_|refine mEx ?_ ?_ ?_|exact mFx|refine mGx ?_ ?_ ?_|exact mHx|exact mIx _|(simp only [wM,Nat.reduceAdd,Nat.reduceLT,Nat.reduceLeDiff];done)));done)|omega|decide) only [e, e3, ↓wA,wB,wL,resOf,Nat.reduceBEq,Int.reduceBEq,Int.reduceBNe,Int.reduceLT,Int.reduceLE,Int.reduceAdd,Int.reduceSub,Int.reduceMul,Int.reduceToNat]
      exact ⟨_, rfl, GrownR.trans G2 g3, D, d3.le G2.next, lD, fun x hx => rD x (by omega)⟩
theorem ngA11 (a : AV) (l : List Span) (h : Hp) (hk : Hok h) (ha : Pairs h.blks a l) (hr : refOK h.next a = true) (hl : l.length ≤ 1000) (hb : bad l ≠ 0) :
    Evals Try.prog tab false (.func 11) [a] h (.tu [.nilsl, .int .i64 (bad l)], h) := by
  refine evals_pure c11 rfl hk ?_
  simp only [sf11, initS_cons, initS_nil]
  have kb : Hok (h.en.pu [a]) := Hok.pu hk (by simp only [refsOK_cons, refsOK_nil, Bool.and_true]; exact refOK_mono (Nat.le_succ _) hr)
  have ab : Pairs (h.en.pu [a]).blks a l := ha.sub (Sub.pu (h := h.en) (cs := [a]) hk)
  have bx : Box (h.en.pu [a]).blks h.next [a] := Box.top
  have gb : Grown h (h.en.pu [a]) := Grown.pu Grown.en (by simp only [refsOK_cons, refsOK_nil, Bool.and_true]; exact refOK_mono (Nat.le_succ _) hr)
  simp (disch := first|(simp only [Nat.reduceBEq,wE];done)|((repeat' (first|assumption|exact mAx _|refine mBx ?_ ?_|exact mCx (by assumption)|refine mDx ?_|refine mEx ?_ ?_ ?_|exact mFx|refine mGx ?_ ?_ ?_|exact mHx|exact mIx _|(simp only [wM,Nat.reduceAdd,Nat.reduceLT,Nat.reduceLeDiff];done)));done)|omega|decide) only [sBox_v (Arr.cell ha), bx.ld, callT (f15 a l (h.en.pu [a]) kb ab (by omega)), show (bad l != 0) = true by simpa using hb, ↓wA,wB,wL,resOf,Nat.reduceBEq,Int.reduceBEq,Int.reduceBNe,Int.reduceLT,Int.reduceLE,Int.reduceAdd,Int.reduceSub,Int.reduceMul,Int.reduceToNat]
  exact ⟨_, rfl, rfl, gb⟩

theorem f4 (a : AV) (x : List Span) (h : Hp) (hk : Hok h) (ha : Pairs h.blks a x) (hxl : x.length ≤ maxLen) :
    ∃ h', Evals Try.prog tab false (.func 4) [a] h (.bool true, h') := by
  refine ⟨h, evals_pure c4 rfl hk ?_⟩
  simp only [sf4, initS_cons, initS_nil]
  simp (disch := first|(simp only [Nat.reduceBEq,wE];done)|((repeat' (first|assumption|exact mAx _|refine mBx ?_ ?_|exact mCx (by assumption)|refine mDx ?_|refine mEx ?_ ?_ ?_|exact mFx|refine mGx ?_ ?_ ?_|exact mHx|exact mIx _|(simp only [wM,Nat.reduceAdd,Nat.reduceLT,Nat.reduceLeDiff];done)));done)|omega|decide) only [↓wA,wB,wL,resOf,Nat.reduceBEq,Int.reduceBEq,Int.reduceBNe,Int.reduceLT,Int.reduceLE,Int.reduceAdd,Int.reduceSub,Int.reduceMul,Int.reduceToNat]
  refine callE (f5 a x h.en hk ha hxl) ?_
  rintro v h1 ⟨g1, o1⟩
  have k1 := g1.ok hk
  have hll : (x.take 41).length ≤ 41 := by simp; omega
  generalize x.take 41 = l at *
  have G1 : Grown h h1 := g1.of_en
  simp (disch := first|(simp only [Nat.reduceBEq,wE];done)|((repeat' (first|assumption|exact mAx _|refine mBx ?_ ?_|exact mCx (by assumption)|refine mDx ?_|refine mEx ?_ ?_ ?_|exact mFx|refine mGx ?_ ?_ ?_|exact mHx|exact mIx _|(simp only [wM,Nat.reduceAdd,Nat.reduceLT,Nat.reduceLeDiff];done)));done)|omega|decide) only [↓wA,wB,wL,resOf,Nat.reduceBEq,Int.reduceBEq,Int.reduceBNe,Int.reduceLT,Int.reduceLE,Int.reduceAdd,Int.reduceSub,Int.reduceMul,Int.reduceToNat]
  refine callE (f10 v l h1 k1 o1.pairs (by omega)) ?_
  rintro r1 h2 ⟨g2, R1⟩
  have k2 := g2.ok k1
  have o2 := o1.sub (g2.sub k1)
  have G2 : Grown h h2 := GrownR.trans G1 g2
  by_cases hb : bad l = 0
  · obtain ⟨c1, rfl, q1⟩ := R1.ok hb
    have hok : ∀ s ∈ l, 0 ≤ s.1 ∧ s.1 < 1000 := fun s hs => by
      have := bad_ok hb s hs
      omega
    have hl40 := (bad_0 hb).1
    simp (disch := first|(simp only [Nat.reduceBEq,wE];done)|((repeat' (first|assumption|exact mAx _|refine mBx ?_ ?_|exact mCx (by assumption)|refine mDx ?_|refine mEx ?_ ?_ ?_|exact mFx|refine mGx ?_ ?_ ?_|exact mHx|exact mIx _|(simp only [wM,Nat.reduceAdd,Nat.reduceLT,Nat.reduceLeDiff];done)));done)|omega|decide) only [↓wA,wB,wL,resOf,Nat.reduceBEq,Int.reduceBEq,Int.reduceBNe,Int.reduceLT,Int.reduceLE,Int.reduceAdd,Int.reduceSub,Int.reduceMul,Int.reduceToNat]
    refine callE (f11 v l h2 k2 o2.pairs (o2.ref k2) hb) ?_
    rintro r2 h3 ⟨g3, ord, C, R2, B⟩
    obtain ⟨c2, rfl, q2⟩ := R2.ok rfl
    have k3 := g3.ok k2
    have o3 := o2.sub (g3.sub k2)
    have q13 := q1.sub (g3.sub k2)
    have l1 : (fit l).length = l.length := onl_len _ _ _
    have lC := B.clen
    simp (disch := first|(simp only [Nat.reduceBEq,wE];done)|((repeat' (first|assumption|exact mAx _|refine mBx ?_ ?_|exact mCx (by assumption)|refine mDx ?_|refine mEx ?_ ?_ ?_|exact mFx|refine mGx ?_ ?_ ?_|exact mHx|exact mIx _|(simp only [wM,Nat.reduceAdd,Nat.reduceLT,Nat.reduceLeDiff];done)));done)|omega|decide) only [callT (f7 v l h3 k3 o3.pairs (by omega)), hb, ↓wA,wB,wL,resOf,Nat.reduceBEq,Int.reduceBEq,Int.reduceBNe,Int.reduceLT,Int.reduceLE,Int.reduceAdd,Int.reduceSub,Int.reduceMul,Int.reduceToNat]
    refine callE (f13 v l h3 k3 o3.pairs (by omega)) ?_
    rintro w1 h4 ⟨g4, p4⟩
    have k4 := g4.ok k3
    have o4 := o3.sub (g4.sub k3)
    have q14 := q13.sub (g4.sub k3)
    have q24 := q2.sub (g4.sub k3)
    simp (disch := first|(simp only [Nat.reduceBEq,wE];done)|((repeat' (first|assumption|exact mAx _|refine mBx ?_ ?_|exact mCx (by assumption)|refine mDx ?_|refine mEx ?_ ?_ ?_|exact mFx|refine mGx ?_ ?_ ?_|exact mHx|exact mIx _|(simp only [wM,Nat.reduceAdd,Nat.reduceLT,Nat.reduceLeDiff];done)));done)|omega|decide) only [callT (f12 c1 w1 _ _ h4 k4 q14.ints p4.ints (by omega) (by omega)), decide_eq_true (rfl : fit l = fit l), ↓wA,wB,wL,resOf,Nat.reduceBEq,Int.reduceBEq,Int.reduceBNe,Int.reduceLT,Int.reduceLE,Int.reduceAdd,Int.reduceSub,Int.reduceMul,Int.reduceToNat]
    refine callE (f14 v l h4 k4 o4.pairs hl40 hok) ?_
    rintro w2 h5 ⟨g5, D, p5, lD, cD⟩
    have k5 := g5.ok k4
    have q25 := q24.sub (g5.sub k4)
    have hCD : C = D := best_eq hok B lD cD
    have G5 : Grown h h5 := GrownR.trans G2 (GrownR.trans g3 (GrownR.trans g4 g5))
    simp (disch := first|(simp only [Nat.reduceBEq,wE];done)|((repeat' (first|assumption|exact mAx _|refine mBx ?_ ?_|exact mCx (by assumption)|refine mDx ?_|refine mEx ?_ ?_ ?_|exact mFx|refine mGx ?_ ?_ ?_|exact mHx|exact mIx _|(simp only [wM,Nat.reduceAdd,Nat.reduceLT,Nat.reduceLeDiff];done)));done)|omega|decide) only [callT (f12 c2 w2 _ _ h5 k5 q25.ints p5.ints (by omega) (by omega)), decide_eq_true hCD, callT (f8 _), ↓wA,wB,wL,resOf,Nat.reduceBEq,Int.reduceBEq,Int.reduceBNe,Int.reduceLT,Int.reduceLE,Int.reduceAdd,Int.reduceSub,Int.reduceMul,Int.reduceToNat]
    exact ⟨_, rfl, rfl, G5⟩
  · rw [R1.no hb]
    simp (disch := first|(simp only [Nat.reduceBEq,wE];done)|((repeat' (first|assumption|exact mAx _|refine mBx ?_ ?_|exact mCx (by assumption)|refine mDx ?_|refine mEx ?_ ?_ ?_|exact mFx|refine mGx ?_ ?_ ?_|exact mHx|exact mIx _|(simp only [wM,Nat.reduceAdd,Nat.reduceLT,Nat.reduceLeDiff];done)));done)|omega|decide) only [callT (ngA11 v l h2 k2 o2.pairs (o2.ref k2) (by omega) hb), callT (f7 v l h2 k2 o2.pairs (by omega)), show (bad l != 0) = true by simpa using hb, beq_self_eq_true (bad l), callT (f8 _), ↓wA,wB,wL,resOf,Nat.reduceBEq,Int.reduceBEq,Int.reduceBNe,Int.reduceLT,Int.reduceLE,Int.reduceAdd,Int.reduceSub,Int.reduceMul,Int.reduceToNat]
    exact ⟨_, rfl, rfl, G2⟩

end Go.Proofs.Ytgpdimkgfhgffaa

