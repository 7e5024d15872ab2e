/- RouteLeast: Band, Cut and Arrange return the least measures and the first orders with them, or the errors that the document names. -/
import Derived.Test.YtihadgkgogfhcaaQG
import Derived.Test.YtihadgkgogfhcaaU1
import Derived.Test.YtihadgkgogfhcaaFRouteLeast
set_option linter.unusedSimpArgs false
set_option linter.unusedVariables false
set_option maxHeartbeats 4000000
set_option maxRecDepth 20000
namespace Go.Abs
theorem sBS_s3 {bs : List (Nat × Blk)} {h : Hp} {x y z : AV} {xs ys zs : List Int} (hx : Ints bs .i64 x xs) (hy : Ints bs .i64 y ys) (hz : Ints bs .i64 z zs) : sBS [.nilsl] 3 1 h [(0, x), (1, y), (2, z)] = some (.sl h.next 0 3 (some 3) 1, h.pu [x, y, z]) := by
  obtain ⟨_, ⟨_, rfl | rfl⟩ | ⟨_, _, _, rfl, _⟩⟩ := hx <;> obtain ⟨_, ⟨_, rfl | rfl⟩ | ⟨_, _, _, rfl, _⟩⟩ := hy <;> obtain ⟨_, ⟨_, rfl | rfl⟩ | ⟨_, _, _, rfl, _⟩⟩ := hz <;> rfl
end Go.Abs
namespace Go.Proofs.Ytihadgkgogfhcaa
open Go Go.Abs Go.Pa Go.Ro
theorem f28 (x y : Nat) (ss ts : List AV) (L : Nat → List Int) (h : Hp) (hk : Hok h) (l1 : ss.length = 3) (l2 : ts.length = 3) (bx : lkB h.blks x = some { cells := ss, ch := x, wr := true }) (by' : lkB h.blks y = some { cells := ts, ch := y, wr := true })
    (hx : ∀ k, k < 3 → Ints h.blks .i64 (ss.getD k .nilsl) (L k)) (hy : ∀ k, k < 3 → Ints h.blks .i64 (ts.getD k .nilsl) (L k)) (hL : ∀ k, k < 3 → (L k).length ≤ 8) :
    Evals Try.prog tab false (.func 28) [.sl x 0 3 (some 3) 1, .sl y 0 3 (some 3) 1] h (.bool true, h) := by
  refine evals_pure c28 rfl hk ?_
  simp only [sf28, initS_cons, initS_nil]
  simp (disch := first|(simp only [Nat.reduceBEq,wE];done)|((repeat' (first|assumption|exact mAx _|refine mBx ?_ ?_|exact mCx (by assumption)|refine mDx ?_|refine mEx ?_ ?_ ?_|exact mFx|refine mGx ?_ ?_ ?_|exact mHx|exact mIx _|(simp only [wM,Nat.reduceAdd,Nat.reduceLT,Nat.reduceLeDiff];done)));done)|omega|decide) only [↓wA,wB,wL,resOf,Nat.reduceBEq,Int.reduceBEq,Int.reduceBNe,Int.reduceLT,Int.reduceLE,Int.reduceAdd,Int.reduceSub,Int.reduceMul,Int.reduceToNat]
  refine wloop (fun mm ss => ∃ (k : Nat) (u4 u10 u14 u26 : AV), (mm = 3 - k) ∧ (k ≤ 3) ∧ ss = { fr := [(0, .sl x 0 3 (some 3) 1), (1, .sl y 0 3 (some 3) 1), (4, u4), (5, .int .i64 k), (10, u10), (14, u14), (26, u26)], hp := h.en }) (3) ?_ ?_
  ·
    refine ⟨0, _, _, _, _, by omega, (by omega : (0 : Nat) ≤ 3), rfl⟩
  rintro nA sA ⟨k, u4, u10, u14, u26, hnA, hi, rfl⟩
  have z3 : ((3 : Nat) : Int) = 3 := rfl
  simp (disch := first|(simp only [Nat.reduceBEq,wE];done)|((repeat' (first|assumption|exact mAx _|refine mBx ?_ ?_|exact mCx (by assumption)|refine mDx ?_|refine mEx ?_ ?_ ?_|exact mFx|refine mGx ?_ ?_ ?_|exact mHx|exact mIx _|(simp only [wM,Nat.reduceAdd,Nat.reduceLT,Nat.reduceLeDiff];done)));done)|omega|decide) only [z3, ↓wA,wB,wL,resOf,Nat.reduceBEq,Int.reduceBEq,Int.reduceBNe,Int.reduceLT,Int.reduceLE,Int.reduceAdd,Int.reduceSub,Int.reduceMul,Int.reduceToNat]
  by_cases e : k < 3
  · have et : decide ((k : Int) < 3) = true := decide_eq_true (by omega)
    have ixx : ∀ h' : Hp, sIxS 1 h' (some k) (.sl x 0 3 (some 3) 1) = some (cellAt (.sl x 0 3 (some 3) 1) k, h') := fun h' => sIxS_sl e
    have ixy : ∀ h' : Hp, sIxS 1 h' (some k) (.sl y 0 3 (some 3) 1) = some (cellAt (.sl y 0 3 (some 3) 1) k, h') := fun h' => sIxS_sl e
    have ldx : cellV h.blks (.sl x 0 3 (some 3) 1) k 0 = some (ss.getD k .nilsl) := by
      simp only [cellV, cellB, bx, Option.bind_some, Nat.zero_add, Nat.mul_one, Nat.add_zero]
      simp [List.getD_eq_getElem?_getD, List.getElem?_eq_getElem (show k < ss.length by omega)]
    have ldy : cellV h.blks (.sl y 0 3 (some 3) 1) k 0 = some (ts.getD k .nilsl) := by
      simp only [cellV, cellB, by', Option.bind_some, Nat.zero_add, Nat.mul_one, Nat.add_zero]
      simp [List.getD_eq_getElem?_getD, List.getElem?_eq_getElem (show k < ts.length by omega)]
    have hLk := hL k e
    have sm := f22 _ _ _ _ h.en hk (hx k e) (hy k e) (by omega) (by omega)
    rw [decide_eq_true rfl] at sm
    simp (disch := first|(simp only [Nat.reduceBEq,wE];done)|((repeat' (first|assumption|exact mAx _|refine mBx ?_ ?_|exact mCx (by assumption)|refine mDx ?_|refine mEx ?_ ?_ ?_|exact mFx|refine mGx ?_ ?_ ?_|exact mHx|exact mIx _|(simp only [wM,Nat.reduceAdd,Nat.reduceLT,Nat.reduceLeDiff];done)));done)|omega|decide) only [et, ixx, ixy, ldx, ldy, callT sm, ↓wA,wB,wL,resOf,Nat.reduceBEq,Int.reduceBEq,Int.reduceBNe,Int.reduceLT,Int.reduceLE,Int.reduceAdd,Int.reduceSub,Int.reduceMul,Int.reduceToNat]
    refine ⟨_, ?_, k + 1, _, _, _, _, rfl, ?_, rfl⟩
    · omega
    omega
  · have et : decide ((k : Int) < 3) = false := decide_eq_false (by omega)
    simp (disch := first|(simp only [Nat.reduceBEq,wE];done)|((repeat' (first|assumption|exact mAx _|refine mBx ?_ ?_|exact mCx (by assumption)|refine mDx ?_|refine mEx ?_ ?_ ?_|exact mFx|refine mGx ?_ ?_ ?_|exact mHx|exact mIx _|(simp only [wM,Nat.reduceAdd,Nat.reduceLT,Nat.reduceLeDiff];done)));done)|omega|decide) only [et, ↓wA,wB,wL,resOf,Nat.reduceBEq,Int.reduceBEq,Int.reduceBNe,Int.reduceLT,Int.reduceLE,Int.reduceAdd,Int.reduceSub,Int.reduceMul,Int.reduceToNat]
    exact ⟨_, rfl, rfl, by (repeat' (first|assumption|exact mAx _|refine mBx ?_ ?_|exact mCx (by assumption)|refine mDx ?_|refine mEx ?_ ?_ ?_|exact mFx|refine mGx ?_ ?_ ?_|exact mHx|exact mIx _|(simp only [wM,Nat.reduceAdd,Nat.reduceLT,Nat.reduceLeDiff];done)))⟩
end Go.Proofs.Ytihadgkgogfhcaa
namespace Go.Proofs.Ytihadgkgogfhcaa
open Go Go.Abs Go.Pa Go.Ro

theorem f4 (n : Int) (x1 : AV) (l1 : List (Int × Int)) (h : Hp) (hk : Hok h) (b0 : -9223372036854775808 ≤ n ∧ n ≤ 9223372036854775807)
    (P1 : Pairs h.blks x1 l1) (S1 : l1.length ≤ maxLen) :
    ∃ h', Evals Try.prog tab false (.func 4) [.int .i64 n, x1] h (.bool true, h') := by
  suffices H : ∃ v h', Evals Try.prog tab false (.func 4) [.int .i64 n, x1] h (v, h') ∧ v = .bool true by
    obtain ⟨v, h', e, rfl⟩ := H
    exact ⟨h', e⟩
  refine evals_func (Q := fun v _ => v = .bool true) c4 rfl ?_
  simp only [sf4, initS_cons, initS_nil]
  have S1' : l1.length < 2 ^ 63 := by have : maxLen = 2 ^ 63 - 1 := rfl; omega
  obtain ⟨s1, h1, e1, g1, o1⟩ := f14 x1 l1 h.en hk P1 S1'
  have k1 : Hok h1 := g1.ok hk
  have p1 := o1.pairs
  have r1 : ∀ m, h1.next ≤ m → refOK m s1 = true := fun m hm => refOK_mono hm (o1.ref k1)
  obtain ⟨E, eE⟩ : ∃ E, E = l1.take 31 := ⟨_, rfl⟩
  have lE : E.length ≤ 31 := by rw [eE]; simp; omega
  rw [← eE] at p1
  clear eE o1
  have gr := f18 n s1 E h1 k1 p1 (by omega)
  by_cases c1 : errG n E = 0
  · obtain ⟨hE, hg⟩ := errG_0.1 c1
    obtain ⟨k, rfl, k0, k8, hO⟩ := hg.nat
    rw [c1] at gr
    by_cases c2 : 7 < k
    · have ct : decide ((7 : Int) < k) = true := decide_eq_true (by omega)
      simp (disch := first|(simp only [Nat.reduceBEq,wE];done)|((repeat' (first|assumption|exact mAx _|refine mBx ?_ ?_|exact mCx (by assumption)|refine mDx ?_|refine mEx ?_ ?_ ?_|exact mFx|refine mGx ?_ ?_ ?_|exact mHx|exact mIx _|(simp only [wM,Nat.reduceAdd,Nat.reduceLT,Nat.reduceLeDiff];done)));done)|omega|decide) only [callT e1, callT gr, ct, callT (f20 h1 k1), ↓wA,wB,wL,resOf,Nat.reduceBEq,Int.reduceBEq,Int.reduceBNe,Int.reduceLT,Int.reduceLE,Int.reduceAdd,Int.reduceSub,Int.reduceMul,Int.reduceToNat]
      exact ⟨_, rfl, rfl⟩
    · have ct : decide ((7 : Int) < k) = false := decide_eq_false (by omega)
      obtain ⟨v, h2, e2, g2, p, t2, xs, rfl, q2, o2⟩ := Band_ok k s1 E h1 k1 p1 (r1 _ (Nat.le_refl _)) k0 k8 hE hO
      have k2 := g2.ok k1
      obtain ⟨v, h3, e3, g3, q, t3, ys, rfl, q3, o3⟩ := Cut_ok k s1 E h2 k2 (p1.sub (g2.sub k1)) (r1 _ g2.next) k0 k8 hE hO
      have k3 := g3.ok k2
      have gh3 := GrownR.trans g2 g3
      obtain ⟨v, h4, e4, g4, r, t4, zs, rfl, q4, o4⟩ := Arrange_ok k s1 E h3 k3 (p1.sub (gh3.sub k1)) (r1 _ gh3.next) k0 k8 hE hO
      have k4 := g4.ok k3
      have gh4 := GrownR.trans gh3 g4
      obtain ⟨v, h5, e5, g5, id, vs, ss, os, hid, rfl, B, hl⟩ := f27 k s1 E h4 k4 (p1.sub (gh4.sub k1)) (by omega) k0 k8 hO
      have k5 := g5.ok k4
      have i2 := o2.ints.sub (((g3.sub k2).trans (g4.sub k3)).trans (g5.sub k4))
      have i3 := o3.ints.sub ((g4.sub k3).trans (g5.sub k4))
      have i4 := o4.ints.sub (g5.sub k4)
      have b0' := B.each 0 (by omega)
      have b1' := B.each 1 (by omega)
      have b2' := B.each 2 (by omega)
      obtain ⟨w0, z0, eo0, l0⟩ := hl 0 (by omega)
      obtain ⟨w1, z1, eo1, l1'⟩ := hl 1 (by omega)
      obtain ⟨w2, z2, eo2, l2'⟩ := hl 2 (by omega)
      obtain ⟨rfl, rfl⟩ := Least.unique l0 q2
      obtain ⟨rfl, rfl⟩ := Least.unique l1' q3
      obtain ⟨rfl, rfl⟩ := Least.unique l2' q4
      rw [eo0] at b0'
      rw [eo1] at b1'
      rw [eo2] at b2'
      have ev : vs = [w0, w1, w2] := by
        have lv := B.lv
        refine List.ext_getElem (by rw [lv]; rfl) fun i hi1 hi2 => ?_
        rw [lv] at hi1
        match i, hi1 with
        | 0, _ => have := b0'.1; rw [getD_at (by omega)] at this; exact this
        | 1, _ => have := b1'.1; rw [getD_at (by omega)] at this; exact this
        | 2, _ => have := b2'.1; rw [getD_at (by omega)] at this; exact this
      obtain ⟨h6, eh6⟩ : ∃ h6, h6 = h5.pu (ints .i64 [w0, w1, w2]) := ⟨_, rfl⟩
      have g6 : Grown h5 h6 := by rw [eh6]; exact Grown.pu Grown.refl refsOK_ints
      have k6 := g6.ok k5
      have i6 : Ints h6.blks .i64 (.sl h5.next 0 3 (some 3) 1) [w0, w1, w2] := by rw [eh6]; exact Ints.top rfl (Nat.le_refl 3)
      have s6 : sBS [.int .i64 0] 3 1 h5 [(0, .int .i64 w0), (1, .int .i64 w1), (2, .int .i64 w2)] = some (.sl h5.next 0 3 (some 3) 1, h6) := by rw [eh6]; exact sBS_i3
      have B6 := B.sub (g6.sub k5)
      have iv : Ints h6.blks .i64 (.sl id 0 3 (some 3) 1) (vs.take 3) := ArrB.ints (lim := 0) ⟨B6.val, Nat.zero_le _⟩ (by rw [B6.lv]; omega) (Nat.le_refl _)
      rw [List.take_of_length_le (by rw [B6.lv]; omega), ev] at iv
      have sm := f22 _ _ _ _ h6 k6 i6 iv (by show 3 < 2 ^ 62; omega) (by show 3 < 2 ^ 62; omega)
      rw [decide_eq_true rfl] at sm
      obtain ⟨h7, eh7⟩ : ∃ h7, h7 = h6.pu [t2, t3, t4] := ⟨_, rfl⟩
      have rr : refsOK (h6.next + 1) [t2, t3, t4] = true := by
        have a2 := refOK_mono (show h2.next ≤ h6.next + 1 by have := g3.next; have := g4.next; have := g5.next; have := g6.next; omega) (o2.ref k2)
        have a3 := refOK_mono (show h3.next ≤ h6.next + 1 by have := g4.next; have := g5.next; have := g6.next; omega) (o3.ref k3)
        have a4 := refOK_mono (show h4.next ≤ h6.next + 1 by have := g5.next; have := g6.next; omega) (o4.ref k4)
        simp only [refsOK_cons, refsOK_nil, a2, a3, a4, Bool.and_self]
      have g7 : Grown h6 h7 := by rw [eh7]; exact Grown.pu Grown.refl rr
      have k7 := g7.ok k6
      have s7 : sBS [.nilsl] 3 1 h6 [(0, t2), (1, t3), (2, t4)] = some (.sl h6.next 0 3 (some 3) 1, h7) := by rw [eh7]; exact sBS_s3 i2 i3 i4
      have lk7 : lkB h7.blks h6.next = some { cells := [t2, t3, t4], ch := h6.next, wr := true } := by rw [eh7]; exact lkB_top
      have s57 := (g6.sub k5).trans (g7.sub k6)
      have B7 := B6.sub (g7.sub k6)
      have sl := f28 h6.next (id + 1) [t2, t3, t4] ss (fun k => if k = 0 then z0 else if k = 1 then z1 else z2) h7 k7 rfl B7.ls lk7 B7.ord (fun k hk => by
        match k, hk with
        | 0, _ => exact i2.sub s57
        | 1, _ => exact i3.sub s57
        | 2, _ => exact i4.sub s57) (fun k hk => by
        match k, hk with
        | 0, _ => exact b0'.2.2.ints.sub s57
        | 1, _ => exact b1'.2.2.ints.sub s57
        | 2, _ => exact b2'.2.2.ints.sub s57) (fun k hk => by
        have x0 := PermI.len q2.perm
        have x1 := PermI.len q3.perm
        have x2 := PermI.len q4.perm
        match k, hk with
        | 0, _ => exact (by rw [x0]; omega : z0.length ≤ 8)
        | 1, _ => exact (by rw [x1]; omega : z1.length ≤ 8)
        | 2, _ => exact (by rw [x2]; omega : z2.length ≤ 8))
      have c6 : cellB h6.blks (id + 2) 0 = some (.sl id 0 3 (some 3) 1) := by simp only [cellB, B6.ptr, Option.bind_some]; rfl
      have c7 : cellB h7.blks (id + 2) 1 = some (.sl (id + 1) 0 3 (some 3) 1) := by simp only [cellB, B7.ptr, Option.bind_some]; rfl
      clear eh6 eh7
      simp (disch := first|(simp only [Nat.reduceBEq,wE];done)|((repeat' (first|assumption|exact mAx _|refine mBx ?_ ?_|exact mCx (by assumption)|refine mDx ?_|refine mEx ?_ ?_ ?_|exact mFx|refine mGx ?_ ?_ ?_|exact mHx|exact mIx _|(simp only [wM,Nat.reduceAdd,Nat.reduceLT,Nat.reduceLeDiff];done)));done)|omega|decide) only [callT e1, callT gr, ct, callT e2, callT e3, callT e4, callT e5, s6, wpOp_nil, sNilC_ptr, c6, callT sm, s7, c7, callT sl, callT (f20 h7 k7), ↓wA,wB,wL,resOf,Nat.reduceBEq,Int.reduceBEq,Int.reduceBNe,Int.reduceLT,Int.reduceLE,Int.reduceAdd,Int.reduceSub,Int.reduceMul,Int.reduceToNat]
      exact ⟨_, rfl, rfl⟩
  · have t1 : (errG n E == 0) = false := by simpa using c1
    have t2 : (errG n E != 0) = true := by simpa using c1
    have m1 := Band_err n s1 E h1 k1 p1 (r1 _ (Nat.le_refl _)) (by omega) c1
    have m2 := Cut_err n s1 E h1 k1 p1 (r1 _ (Nat.le_refl _)) (by omega) c1
    have m3 := Arrange_err n s1 E h1 k1 p1 (r1 _ (Nat.le_refl _)) (by omega) c1
    simp (disch := first|(simp only [Nat.reduceBEq,wE];done)|((repeat' (first|assumption|exact mAx _|refine mBx ?_ ?_|exact mCx (by assumption)|refine mDx ?_|refine mEx ?_ ?_ ?_|exact mFx|refine mGx ?_ ?_ ?_|exact mHx|exact mIx _|(simp only [wM,Nat.reduceAdd,Nat.reduceLT,Nat.reduceLeDiff];done)));done)|omega|decide) only [callT e1, callT gr, t1, t2, callT m1, callT m2, callT m3, callT (f20 h1 k1), ↓wA,wB,wL,resOf,Nat.reduceBEq,Int.reduceBEq,Int.reduceBNe,Int.reduceLT,Int.reduceLE,Int.reduceAdd,Int.reduceSub,Int.reduceMul,Int.reduceToNat]
    exact ⟨_, rfl, rfl⟩
end Go.Proofs.Ytihadgkgogfhcaa
