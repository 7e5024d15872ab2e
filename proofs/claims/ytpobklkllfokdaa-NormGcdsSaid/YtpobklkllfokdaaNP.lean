/- The reference's units and greatest common divisor. -/
import Derived.Test.YtpobklkllfokdaaNO
import Derived.Test.YtpobklkllfokdaaNL
set_option linter.unusedSimpArgs false
set_option linter.unusedVariables false
set_option maxHeartbeats 1000000
namespace Go.Proofs.Ytpobklkllfokdaa
open Go Go.Abs Go.Nm

set_option maxRecDepth 100000 in
set_option maxHeartbeats 4000000 in
theorem f58 (h : Hp) (hk : Hok h) :
    ∃ v h', Evals Try.prog tab false (.func 58) [] h (v, h') ∧ Grown h h' ∧ OwnQ h.next h'.blks v units24 := by
  refine evals_q c58 (fun v h' => OwnQ h.next h'.blks v units24) rfl hk ?_ (fun v h1 g q => q.leave)
  simp only [sf58, initS_cons, initS_nil]
  simp (disch := first|(simp only [Nat.reduceBEq,wE];done)|((repeat' (first|assumption|exact mAx _|refine mBx ?_ ?_|exact mCx (by assumption)|refine mDx ?_|refine mEx ?_ ?_ ?_|exact mFx|refine mGx ?_ ?_ ?_|exact mHx|exact mIx _|(simp only [wM,Nat.reduceAdd,Nat.reduceLT,Nat.reduceLeDiff];done)));done)|omega|decide) only [↓wA,wB,wL,resOf,Nat.reduceBEq,Int.reduceBEq,Int.reduceBNe,Int.reduceLT,Int.reduceLE,Int.reduceAdd,Int.reduceSub,Int.reduceMul,Int.reduceToNat]
  refine wloop (fun mm ss => ∃ (i : Nat) (q : AV) (h1 : Hp) (u3 u6 u32 : AV), (mm = 625 - i) ∧ (i ≤ 625 ∧ Grown h h1 ∧ OwnQ h.next h1.blks q (unitsN i)) ∧ ss = { fr := [(0, .nilsl), (1, q), (2, .int .i64 i), (3, u3), (6, u6), (32, u32)], hp := h1 }) (625) ?_ ?_
  ·
    refine ⟨0, _, _, _, _, _, by omega, ⟨by omega, by (repeat' (first|assumption|exact mAx _|refine mBx ?_ ?_|exact mCx (by assumption)|refine mDx ?_|refine mEx ?_ ?_ ?_|exact mFx|refine mGx ?_ ?_ ?_|exact mHx|exact mIx _|(simp only [wM,Nat.reduceAdd,Nat.reduceLT,Nat.reduceLeDiff];done))), OwnQ.fresh (l := []) (cs := []) (len := 0) (cap := 0) (Nat.le_refl _) rfl rfl rfl (Nat.le_refl 0)⟩, rfl⟩
  rintro nA sA ⟨i, q, h1, u3, u6, u32, hnA, ⟨hi, g1, o1⟩, rfl⟩
  have k1 := g1.ok hk
  simp (disch := first|(simp only [Nat.reduceBEq,wE];done)|((repeat' (first|assumption|exact mAx _|refine mBx ?_ ?_|exact mCx (by assumption)|refine mDx ?_|refine mEx ?_ ?_ ?_|exact mFx|refine mGx ?_ ?_ ?_|exact mHx|exact mIx _|(simp only [wM,Nat.reduceAdd,Nat.reduceLT,Nat.reduceLeDiff];done)));done)|omega|decide) only [↓wA,wB,wL,resOf,Nat.reduceBEq,Int.reduceBEq,Int.reduceBNe,Int.reduceLT,Int.reduceLE,Int.reduceAdd,Int.reduceSub,Int.reduceMul,Int.reduceToNat]
  refine ifThen_intro (fun e => ?_) (fun e => ?_) <;> have eq := e <;> try simp [-List.getD_eq_getElem?_getD] at eq
  · have ua : (i : Int) / 125 - 2 = (unitAt i).a := rfl
    have ub : (i : Int) / 25 % 5 - 2 = (unitAt i).b := rfl
    have uc : (i : Int) / 5 % 5 - 2 = (unitAt i).c := rfl
    have ud : (i : Int) % 5 - 2 = (unitAt i).d := rfl
    simp (disch := first|(simp only [Nat.reduceBEq,wE];done)|((repeat' (first|assumption|exact mAx _|refine mBx ?_ ?_|exact mCx (by assumption)|refine mDx ?_|refine mEx ?_ ?_ ?_|exact mFx|refine mGx ?_ ?_ ?_|exact mHx|exact mIx _|(simp only [wM,Nat.reduceAdd,Nat.reduceLT,Nat.reduceLeDiff];done)));done)|omega|decide) only [e, e, sBin_quo, sBin_rem, ↓wA,wB,wL,resOf,Nat.reduceBEq,Int.reduceBEq,Int.reduceBNe,Int.reduceLT,Int.reduceLE,Int.reduceAdd,Int.reduceSub,Int.reduceMul,Int.reduceToNat]
    rw [ua, ub, uc, ud]
    have hl := unitsN_len (n := i)
    have hb : (unitAt i).bd 1000 := by
      simp only [Qt.bd, unitAt]
      omega
    refine callP (f20 _ [unitAt i] _ (by (repeat' (first|assumption|exact mAx _|refine mBx ?_ ?_|exact mCx (by assumption)|refine mDx ?_|refine mEx ?_ ?_ ?_|exact mFx|refine mGx ?_ ?_ ?_|exact mHx|exact mIx _|(simp only [wM,Nat.reduceAdd,Nat.reduceLT,Nat.reduceLeDiff];done)))) oneQ (by simp)) ?_
    by_cases hu : (unitAt i).int
    · rw [err1 hu hb]
      simp (disch := first|(simp only [Nat.reduceBEq,wE];done)|((repeat' (first|assumption|exact mAx _|refine mBx ?_ ?_|exact mCx (by assumption)|refine mDx ?_|refine mEx ?_ ?_ ?_|exact mFx|refine mGx ?_ ?_ ?_|exact mHx|exact mIx _|(simp only [wM,Nat.reduceAdd,Nat.reduceLT,Nat.reduceLeDiff];done)));done)|omega|decide) only [e, ↓wA,wB,wL,resOf,Nat.reduceBEq,Int.reduceBEq,Int.reduceBNe,Int.reduceLT,Int.reduceLE,Int.reduceAdd,Int.reduceSub,Int.reduceMul,Int.reduceToNat]
      refine callP (f22 (unitAt i) _ (by (repeat' (first|assumption|exact mAx _|refine mBx ?_ ?_|exact mCx (by assumption)|refine mDx ?_|refine mEx ?_ ?_ ?_|exact mFx|refine mGx ?_ ?_ ?_|exact mHx|exact mIx _|(simp only [wM,Nat.reduceAdd,Nat.reduceLT,Nat.reduceLeDiff];done)))) (Qt.bd_mono hb (by omega))) ?_
      by_cases h1' : (unitAt i).nrm = 1
      · have hu1 : isUnit (unitAt i) = true := by simp [isUnit, hu, h1']
        obtain ⟨s2, h2, y1, y2, y3, y4⟩ := own_appQ1 (q := unitAt i) (h := (h1.pu [.int .i64 (unitAt i).a, .int .i64 (unitAt i).b, .int .i64 (unitAt i).c, .int .i64 (unitAt i).d]).pu [.int .i64 (unitAt i).a, .int .i64 (unitAt i).b, .int .i64 (unitAt i).c, .int .i64 (unitAt i).d]) hk ((g1.pu rfl).pu rfl) ((o1.sub (Sub.pu k1)).sub (Sub.pu (Hok.pu k1 rfl))) (by omega)
        simp only [Hp.pu] at y1
        have e2 : ((unitAt i).nrm == 1) = true := by simp [h1']
        simp (disch := first|(simp only [Nat.reduceBEq,wE];done)|((repeat' (first|assumption|exact mAx _|refine mBx ?_ ?_|exact mCx (by assumption)|refine mDx ?_|refine mEx ?_ ?_ ?_|exact mFx|refine mGx ?_ ?_ ?_|exact mHx|exact mIx _|(simp only [wM,Nat.reduceAdd,Nat.reduceLT,Nat.reduceLeDiff];done)));done)|omega|decide) only [e, e2, y1, ↓wA,wB,wL,resOf,Nat.reduceBEq,Int.reduceBEq,Int.reduceBNe,Int.reduceLT,Int.reduceLE,Int.reduceAdd,Int.reduceSub,Int.reduceMul,Int.reduceToNat]
        refine ⟨_, ?_, i + 1, _, _, _, _, _, rfl, ?_, rfl⟩
        · omega
        exact ⟨by omega, y3, by rw [unitsN_succ, hu1]; exact y2⟩
      · have hu1 : isUnit (unitAt i) = false := by simp [isUnit, h1']
        have e2 : ((unitAt i).nrm == 1) = false := by simp [h1']
        simp (disch := first|(simp only [Nat.reduceBEq,wE];done)|((repeat' (first|assumption|exact mAx _|refine mBx ?_ ?_|exact mCx (by assumption)|refine mDx ?_|refine mEx ?_ ?_ ?_|exact mFx|refine mGx ?_ ?_ ?_|exact mHx|exact mIx _|(simp only [wM,Nat.reduceAdd,Nat.reduceLT,Nat.reduceLeDiff];done)));done)|omega|decide) only [e, e2, ↓wA,wB,wL,resOf,Nat.reduceBEq,Int.reduceBEq,Int.reduceBNe,Int.reduceLT,Int.reduceLE,Int.reduceAdd,Int.reduceSub,Int.reduceMul,Int.reduceToNat]
        refine ⟨_, ?_, i + 1, _, _, _, _, _, rfl, ?_, rfl⟩
        · omega
        exact ⟨by omega, by (repeat' (first|assumption|exact mAx _|refine mBx ?_ ?_|exact mCx (by assumption)|refine mDx ?_|refine mEx ?_ ?_ ?_|exact mFx|refine mGx ?_ ?_ ?_|exact mHx|exact mIx _|(simp only [wM,Nat.reduceAdd,Nat.reduceLT,Nat.reduceLeDiff];done))), by rw [unitsN_succ, hu1]; simp only [Bool.false_eq_true, if_false, List.append_nil]; exact o1.sub (by (repeat' (first|assumption|exact mAx _|refine mBx ?_ ?_|exact mCx (by assumption)|refine mDx ?_|refine mEx ?_ ?_ ?_|exact mFx|refine mGx ?_ ?_ ?_|exact mHx|exact mIx _|(simp only [wM,Nat.reduceAdd,Nat.reduceLT,Nat.reduceLeDiff];done))))⟩
    · have hu1 : isUnit (unitAt i) = false := by simp [isUnit, hu]
      have e0 : errOf [unitAt i] ≠ 0 := fun hh => hu ((errOf_0.1 hh).1 _ (by simp))
      have e2 : (errOf [unitAt i] == 0) = false := by simp [e0]
      simp (disch := first|(simp only [Nat.reduceBEq,wE];done)|((repeat' (first|assumption|exact mAx _|refine mBx ?_ ?_|exact mCx (by assumption)|refine mDx ?_|refine mEx ?_ ?_ ?_|exact mFx|refine mGx ?_ ?_ ?_|exact mHx|exact mIx _|(simp only [wM,Nat.reduceAdd,Nat.reduceLT,Nat.reduceLeDiff];done)));done)|omega|decide) only [e, e2, ↓wA,wB,wL,resOf,Nat.reduceBEq,Int.reduceBEq,Int.reduceBNe,Int.reduceLT,Int.reduceLE,Int.reduceAdd,Int.reduceSub,Int.reduceMul,Int.reduceToNat]
      refine ⟨_, ?_, i + 1, _, _, _, _, _, rfl, ?_, rfl⟩
      · omega
      exact ⟨by omega, by (repeat' (first|assumption|exact mAx _|refine mBx ?_ ?_|exact mCx (by assumption)|refine mDx ?_|refine mEx ?_ ?_ ?_|exact mFx|refine mGx ?_ ?_ ?_|exact mHx|exact mIx _|(simp only [wM,Nat.reduceAdd,Nat.reduceLT,Nat.reduceLeDiff];done))), by rw [unitsN_succ, hu1]; simp only [Bool.false_eq_true, if_false, List.append_nil]; exact o1.sub (by (repeat' (first|assumption|exact mAx _|refine mBx ?_ ?_|exact mCx (by assumption)|refine mDx ?_|refine mEx ?_ ?_ ?_|exact mFx|refine mGx ?_ ?_ ?_|exact mHx|exact mIx _|(simp only [wM,Nat.reduceAdd,Nat.reduceLT,Nat.reduceLeDiff];done))))⟩
  · simp (disch := first|(simp only [Nat.reduceBEq,wE];done)|((repeat' (first|assumption|exact mAx _|refine mBx ?_ ?_|exact mCx (by assumption)|refine mDx ?_|refine mEx ?_ ?_ ?_|exact mFx|refine mGx ?_ ?_ ?_|exact mHx|exact mIx _|(simp only [wM,Nat.reduceAdd,Nat.reduceLT,Nat.reduceLeDiff];done)));done)|omega|decide) only [e, e, ↓wA,wB,wL,resOf,Nat.reduceBEq,Int.reduceBEq,Int.reduceBNe,Int.reduceLT,Int.reduceLE,Int.reduceAdd,Int.reduceSub,Int.reduceMul,Int.reduceToNat]
    refine ⟨_, rfl, g1, ?_⟩
    have e6 : units24 = unitsN i := by rw [units24, show (625 : Nat) = i by omega]
    rw [e6]
    exact o1

set_option maxRecDepth 100000 in
set_option maxHeartbeats 8000000 in
theorem f28 (x y : Qt) (h : Hp) (hk : Hok h) (ix : x.int) (iy : y.int) (nx : x.nrm ≤ 1000000) (ny : y.nrm ≤ 1000000) :
    Evals Try.prog tab false (.func 28) [(AV.ag [.int .i64 x.a, .int .i64 x.b, .int .i64 x.c, .int .i64 x.d]), (AV.ag [.int .i64 y.a, .int .i64 y.b, .int .i64 y.c, .int .i64 y.d])] h ((AV.ag [.int .i64 (((x.gcd y).great)).a, .int .i64 (((x.gcd y).great)).b, .int .i64 (((x.gcd y).great)).c, .int .i64 (((x.gcd y).great)).d]), h) := by
  refine evals_pure c28 rfl hk ?_
  simp only [sf28, initS_cons, initS_nil]
  simp (disch := first|(simp only [Nat.reduceBEq,wE];done)|((repeat' (first|assumption|exact mAx _|refine mBx ?_ ?_|exact mCx (by assumption)|refine mDx ?_|refine mEx ?_ ?_ ?_|exact mFx|refine mGx ?_ ?_ ?_|exact mHx|exact mIx _|(simp only [wM,Nat.reduceAdd,Nat.reduceLT,Nat.reduceLeDiff];done)));done)|omega|decide) only [↓wA,wB,wL,resOf,Nat.reduceBEq,Int.reduceBEq,Int.reduceBNe,Int.reduceLT,Int.reduceLE,Int.reduceAdd,Int.reduceSub,Int.reduceMul,Int.reduceToNat]
  refine wloop (fun mm ss => ∃ (u : Qt) (v : Qt) (nx : Nat) (bs : List (Nat × Blk)) (u6 u7 u8 u9 u10 u13 u27 u38 : AV), (mm = v.nrm.toNat) ∧ (u.int ∧ v.int ∧ u.nrm ≤ 1000000 ∧ v.nrm ≤ 1000000 ∧ u.gcd v = x.gcd y ∧ h.next + 3 ≤ nx ∧ GrownR h nx bs h.loops ∧ Var bs h.next [.int .i64 u.a, .int .i64 u.b, .int .i64 u.c, .int .i64 u.d] ∧ Var bs (h.next + 1) [.int .i64 v.a, .int .i64 v.b, .int .i64 v.c, .int .i64 v.d] ∧ Var bs (h.next + 1 + 1) [.int .i64 0, .int .i64 0, .int .i64 0, .int .i64 0]) ∧ ss = { fr := [(0, (AV.ag [.int .i64 x.a, .int .i64 x.b, .int .i64 x.c, .int .i64 x.d])), (1, (AV.ag [.int .i64 y.a, .int .i64 y.b, .int .i64 y.c, .int .i64 y.d])), (2, .ptr h.next 0), (3, .ptr (h.next + 1) 0), (4, .ptr (h.next + 1 + 1) 0), (6, u6), (7, u7), (8, u8), (9, u9), (10, u10), (13, u13), (27, u27), (38, u38)], hp := { next := nx, blks := bs, loops := h.loops, base := h.next, esc := false } }) (y.nrm.toNat) ?_ ?_
  ·
    refine ⟨x, y, _, _, _, _, _, _, _, _, _, _, rfl, ⟨ix, iy, nx, ny, rfl, Nat.le_refl _, by (repeat' (first|assumption|exact mAx _|refine mBx ?_ ?_|exact mCx (by assumption)|refine mDx ?_|refine mEx ?_ ?_ ?_|exact mFx|refine mGx ?_ ?_ ?_|exact mHx|exact mIx _|(simp only [wM,Nat.reduceAdd,Nat.reduceLT,Nat.reduceLeDiff];done))), Var.push (Var.push Var.top (by omega)) (by omega), Var.push Var.top (by omega), Var.top⟩, rfl⟩
  rintro nA sA ⟨u, v, nx, bs, u6, u7, u8, u9, u10, u13, u27, u38, hnA, ⟨iu, iv, nu, nv, hg, hnx, g, V1, V2, V3⟩, rfl⟩
  have hK := g.ok hk
  by_cases h0 : v = ⟨0, 0, 0, 0⟩
  · simp (disch := first|(simp only [Nat.reduceBEq,wE];done)|((repeat' (first|assumption|exact mAx _|refine mBx ?_ ?_|exact mCx (by assumption)|refine mDx ?_|refine mEx ?_ ?_ ?_|exact mFx|refine mGx ?_ ?_ ?_|exact mHx|exact mIx _|(simp only [wM,Nat.reduceAdd,Nat.reduceLT,Nat.reduceLeDiff];done)));done)|omega|decide) only [V2.ld, agz_t h0, ↓wA,wB,wL,resOf,Nat.reduceBEq,Int.reduceBEq,Int.reduceBNe,Int.reduceLT,Int.reduceLE,Int.reduceAdd,Int.reduceSub,Int.reduceMul,Int.reduceToNat]
    rw [h0, Qt.gcd_zero] at hg
    have bu := Qt.bd_nrm iu nu
    refine callE (f58 _ (by exact hK)) ?_
    rintro q h1 ⟨g0, o0⟩
    have s0 := g0.sub (by exact hK)
    have gg : Grown h h1 := GrownR.trans (by (repeat' (first|assumption|exact mAx _|refine mBx ?_ ?_|exact mCx (by assumption)|refine mDx ?_|refine mEx ?_ ?_ ?_|exact mFx|refine mGx ?_ ?_ ?_|exact mHx|exact mIx _|(simp only [wM,Nat.reduceAdd,Nat.reduceLT,Nat.reduceLeDiff];done)))) g0
    have k1 := gg.ok hk
    have hn1 : nx ≤ h1.next := g0.next
    have W1 := V1.sub s0
    have W3 := V3.sub s0
    have hl := units24_len
    obtain ⟨hpl, ⟨hp0, _⟩ | ⟨pi, pb, cap, rfl, p1, p2, p3, p4, p5⟩⟩ := o0
    · exact absurd hp0 (by omega)
    obtain ⟨p6, p7, _⟩ := HokR.get k1 p1
    have oP : ∀ bs, lkB bs pi = some pb → Quads bs (.sl pi 0 units24.length cap 4) units24 := fun bs hb => OwnA.arr (c := 0) ⟨hpl, .inr ⟨pi, pb, cap, rfl, hb, p2, Nat.zero_le _, Nat.zero_le _, p5⟩⟩
    simp (disch := first|(simp only [Nat.reduceBEq,wE];done)|((repeat' (first|assumption|exact mAx _|refine mBx ?_ ?_|exact mCx (by assumption)|refine mDx ?_|refine mEx ?_ ?_ ?_|exact mFx|refine mGx ?_ ?_ ?_|exact mHx|exact mIx _|(simp only [wM,Nat.reduceAdd,Nat.reduceLT,Nat.reduceLeDiff];done)));done)|omega|decide) only [W1.ld, V1.ld, ↓wA,wB,wL,resOf,Nat.reduceBEq,Int.reduceBEq,Int.reduceBNe,Int.reduceLT,Int.reduceLE,Int.reduceAdd,Int.reduceSub,Int.reduceMul,Int.reduceToNat]
    refine wloop (fun mm ss => ∃ (i : Nat) (hh : Hp) (u6 u10 u13 u27 u38 : AV), (mm = 24 - i) ∧ (i ≤ 24 ∧ Grown h hh ∧ Var hh.blks h.next [.int .i64 u.a, .int .i64 u.b, .int .i64 u.c, .int .i64 u.d] ∧ Var hh.blks (h.next + 1 + 1) [.int .i64 0, .int .i64 0, .int .i64 0, .int .i64 0] ∧ lkB hh.blks pi = some pb ∧ Var hh.blks h1.next [.int .i64 (greatN u i).a, .int .i64 (greatN u i).b, .int .i64 (greatN u i).c, .int .i64 (greatN u i).d] ∧ h1.next < hh.next) ∧ ss = { fr := [(0, (AV.ag [.int .i64 x.a, .int .i64 x.b, .int .i64 x.c, .int .i64 x.d])), (1, (AV.ag [.int .i64 y.a, .int .i64 y.b, .int .i64 y.c, .int .i64 y.d])), (2, .ptr h.next 0), (3, .ptr (h.next + 1) 0), (4, .ptr (h.next + 1 + 1) 0), (6, u6), (7, .sl pi 0 units24.length cap 4), (8, .ptr h1.next 0), (9, .int .i64 i), (10, u10), (13, u13), (27, u27), (38, u38)], hp := hh }) (24) ?_ ?_
    ·
      refine ⟨0, _, _, _, _, _, _, by omega, ⟨by omega, by (repeat' (first|assumption|exact mAx _|refine mBx ?_ ?_|exact mCx (by assumption)|refine mDx ?_|refine mEx ?_ ?_ ?_|exact mFx|refine mGx ?_ ?_ ?_|exact mHx|exact mIx _|(simp only [wM,Nat.reduceAdd,Nat.reduceLT,Nat.reduceLeDiff];done))), Var.push W1 (by omega), Var.push W3 (by omega), by rw [lkB_push (by omega)]; exact p1, Var.top, by simp only; omega⟩, rfl⟩
    rintro nC sC ⟨i, hh, u6, u10, u13, u27, u38, hnC, ⟨hi, gC, C1, C3, CP, C8, Cn⟩, rfl⟩
    have kC := gC.ok hk
    have qC := oP _ CP
    simp (disch := first|(simp only [Nat.reduceBEq,wE];done)|((repeat' (first|assumption|exact mAx _|refine mBx ?_ ?_|exact mCx (by assumption)|refine mDx ?_|refine mEx ?_ ?_ ?_|exact mFx|refine mGx ?_ ?_ ?_|exact mHx|exact mIx _|(simp only [wM,Nat.reduceAdd,Nat.reduceLT,Nat.reduceLeDiff];done)));done)|omega|decide) only [qC.len, hl, ↓wA,wB,wL,resOf,Nat.reduceBEq,Int.reduceBEq,Int.reduceBNe,Int.reduceLT,Int.reduceLE,Int.reduceAdd,Int.reduceSub,Int.reduceMul,Int.reduceToNat]
    refine ifThen_intro (fun e => ?_) (fun e => ?_) <;> have eq := e <;> try simp [-List.getD_eq_getElem?_getD] at eq
    · obtain ⟨w, hw⟩ : ∃ w, w = units24.getD i default := ⟨_, rfl⟩
      have hm : w ∈ units24 := by
        rw [hw, List.getD_eq_getElem?_getD, List.getElem?_eq_getElem (by omega)]
        exact List.getElem_mem _
      obtain ⟨iw, nw⟩ := mem_units hm
      have bw := unit_bd iw nw
      have hs := greatN_succ (p := u) (show i < 24 by omega)
      rw [← hw] at hs
      have lda := qC.lda (Sub.refl _) (i := i) (by omega)
      rw [← hw] at lda
      simp (disch := first|(simp only [Nat.reduceBEq,wE];done)|((repeat' (first|assumption|exact mAx _|refine mBx ?_ ?_|exact mCx (by assumption)|refine mDx ?_|refine mEx ?_ ?_ ?_|exact mFx|refine mGx ?_ ?_ ?_|exact mHx|exact mIx _|(simp only [wM,Nat.reduceAdd,Nat.reduceLT,Nat.reduceLeDiff];done)));done)|omega|decide) only [e, e, qC.ix, lda, C1.ld, ↓wA,wB,wL,resOf,Nat.reduceBEq,Int.reduceBEq,Int.reduceBNe,Int.reduceLT,Int.reduceLE,Int.reduceAdd,Int.reduceSub,Int.reduceMul,Int.reduceToNat]
      refine callP (f24 w u _ (by exact kC) (Qt.bd_mono bw (by omega)) (Qt.bd_mono bu (by omega)) iw iu) ?_
      simp (disch := first|(simp only [Nat.reduceBEq,wE];done)|((repeat' (first|assumption|exact mAx _|refine mBx ?_ ?_|exact mCx (by assumption)|refine mDx ?_|refine mEx ?_ ?_ ?_|exact mFx|refine mGx ?_ ?_ ?_|exact mHx|exact mIx _|(simp only [wM,Nat.reduceAdd,Nat.reduceLT,Nat.reduceLeDiff];done)));done)|omega|decide) only [e, qC.ix, lda, C1.ld, C8.ld, ↓wA,wB,wL,resOf,Nat.reduceBEq,Int.reduceBEq,Int.reduceBNe,Int.reduceLT,Int.reduceLE,Int.reduceAdd,Int.reduceSub,Int.reduceMul,Int.reduceToNat]
      refine callP (f43 (greatN u i) (w.mul u) _ (by (repeat' (first|assumption|exact mAx _|refine mBx ?_ ?_|exact mCx (by assumption)|refine mDx ?_|refine mEx ?_ ?_ ?_|exact mFx|refine mGx ?_ ?_ ?_|exact mHx|exact mIx _|(simp only [wM,Nat.reduceAdd,Nat.reduceLT,Nat.reduceLeDiff];done))))) ?_
      by_cases hc : (greatN u i).lst < (w.mul u).lst
      · rw [better, if_pos (show 0 < (w.mul u).cmp (greatN u i) from cmpL_pos.2 hc)] at hs
        simp (disch := first|(simp only [Nat.reduceBEq,wE];done)|((repeat' (first|assumption|exact mAx _|refine mBx ?_ ?_|exact mCx (by assumption)|refine mDx ?_|refine mEx ?_ ?_ ?_|exact mFx|refine mGx ?_ ?_ ?_|exact mHx|exact mIx _|(simp only [wM,Nat.reduceAdd,Nat.reduceLT,Nat.reduceLeDiff];done)));done)|omega|decide) only [e, decide_eq_true hc, C8.ld, ↓wA,wB,wL,resOf,Nat.reduceBEq,Int.reduceBEq,Int.reduceBNe,Int.reduceLT,Int.reduceLE,Int.reduceAdd,Int.reduceSub,Int.reduceMul,Int.reduceToNat]
        rw [andT_pushB]
        refine stA hk gC C8 (by omega) rfl rfl rfl rfl rfl ?_
        intro bs1 X8 g3 K1 S1
        have X1 := K1.var C1 (by omega)
        have X3 := K1.var C3 (by omega)
        have XP := K1.k pi pb (by omega) CP (by omega)
        simp (disch := first|(simp only [Nat.reduceBEq,wE];done)|((repeat' (first|assumption|exact mAx _|refine mBx ?_ ?_|exact mCx (by assumption)|refine mDx ?_|refine mEx ?_ ?_ ?_|exact mFx|refine mGx ?_ ?_ ?_|exact mHx|exact mIx _|(simp only [wM,Nat.reduceAdd,Nat.reduceLT,Nat.reduceLeDiff];done)));done)|omega|decide) only [e, ↓wA,wB,wL,resOf,Nat.reduceBEq,Int.reduceBEq,Int.reduceBNe,Int.reduceLT,Int.reduceLE,Int.reduceAdd,Int.reduceSub,Int.reduceMul,Int.reduceToNat]
        refine ⟨_, ?_, i + 1, _, _, _, _, _, _, rfl, ?_, rfl⟩
        · omega
        exact ⟨by omega, by (repeat' (first|assumption|exact mAx _|refine mBx ?_ ?_|exact mCx (by assumption)|refine mDx ?_|refine mEx ?_ ?_ ?_|exact mFx|refine mGx ?_ ?_ ?_|exact mHx|exact mIx _|(simp only [wM,Nat.reduceAdd,Nat.reduceLT,Nat.reduceLeDiff];done))), Var.push X1 (by omega), Var.push X3 (by omega), by rw [lkB_push (by omega)]; exact XP, by rw [hs]; exact Var.push X8 (by omega), by simp only; omega⟩
      · rw [better, if_neg (show ¬ 0 < (w.mul u).cmp (greatN u i) from fun hh => hc (cmpL_pos.1 hh))] at hs
        simp (disch := first|(simp only [Nat.reduceBEq,wE];done)|((repeat' (first|assumption|exact mAx _|refine mBx ?_ ?_|exact mCx (by assumption)|refine mDx ?_|refine mEx ?_ ?_ ?_|exact mFx|refine mGx ?_ ?_ ?_|exact mHx|exact mIx _|(simp only [wM,Nat.reduceAdd,Nat.reduceLT,Nat.reduceLeDiff];done)));done)|omega|decide) only [e, decide_eq_false hc, ↓wA,wB,wL,resOf,Nat.reduceBEq,Int.reduceBEq,Int.reduceBNe,Int.reduceLT,Int.reduceLE,Int.reduceAdd,Int.reduceSub,Int.reduceMul,Int.reduceToNat]
        refine ⟨_, ?_, i + 1, _, _, _, _, _, _, rfl, ?_, rfl⟩
        · omega
        exact ⟨by omega, by (repeat' (first|assumption|exact mAx _|refine mBx ?_ ?_|exact mCx (by assumption)|refine mDx ?_|refine mEx ?_ ?_ ?_|exact mFx|refine mGx ?_ ?_ ?_|exact mHx|exact mIx _|(simp only [wM,Nat.reduceAdd,Nat.reduceLT,Nat.reduceLeDiff];done))), Var.push C1 (by omega), Var.push C3 (by omega), by rw [lkB_push (by omega)]; exact CP, by rw [hs]; exact Var.push C8 (by omega), by simp only; omega⟩
    · have e6 : i = 24 := by omega
      have e7 : greatN u i = u.great := by
        unfold greatN Qt.great
        rw [List.take_of_length_le (by omega)]
      rw [e7] at C8
      simp (disch := first|(simp only [Nat.reduceBEq,wE];done)|((repeat' (first|assumption|exact mAx _|refine mBx ?_ ?_|exact mCx (by assumption)|refine mDx ?_|refine mEx ?_ ?_ ?_|exact mFx|refine mGx ?_ ?_ ?_|exact mHx|exact mIx _|(simp only [wM,Nat.reduceAdd,Nat.reduceLT,Nat.reduceLeDiff];done)));done)|omega|decide) only [e, e, C8.ld, ↓wA,wB,wL,resOf,Nat.reduceBEq,Int.reduceBEq,Int.reduceBNe,Int.reduceLT,Int.reduceLE,Int.reduceAdd,Int.reduceSub,Int.reduceMul,Int.reduceToNat]
      refine stA hk gC C3 (by omega) rfl rfl rfl rfl rfl ?_
      intro bs1 Y3 g2 K1 S1
      simp (disch := first|(simp only [Nat.reduceBEq,wE];done)|((repeat' (first|assumption|exact mAx _|refine mBx ?_ ?_|exact mCx (by assumption)|refine mDx ?_|refine mEx ?_ ?_ ?_|exact mFx|refine mGx ?_ ?_ ?_|exact mHx|exact mIx _|(simp only [wM,Nat.reduceAdd,Nat.reduceLT,Nat.reduceLeDiff];done)));done)|omega|decide) only [e, Y3.ld, ↓wA,wB,wL,resOf,Nat.reduceBEq,Int.reduceBEq,Int.reduceBNe,Int.reduceLT,Int.reduceLE,Int.reduceAdd,Int.reduceSub,Int.reduceMul,Int.reduceToNat]
      exact ⟨_, rfl, by rw [← hg], g2⟩
  · simp (disch := first|(simp only [Nat.reduceBEq,wE];done)|((repeat' (first|assumption|exact mAx _|refine mBx ?_ ?_|exact mCx (by assumption)|refine mDx ?_|refine mEx ?_ ?_ ?_|exact mFx|refine mGx ?_ ?_ ?_|exact mHx|exact mIx _|(simp only [wM,Nat.reduceAdd,Nat.reduceLT,Nat.reduceLeDiff];done)));done)|omega|decide) only [V2.ld, agz_f h0, V1.ld, ↓wA,wB,wL,resOf,Nat.reduceBEq,Int.reduceBEq,Int.reduceBNe,Int.reduceLT,Int.reduceLE,Int.reduceAdd,Int.reduceSub,Int.reduceMul,Int.reduceToNat]
    refine callP (f26 u v _ (by exact hK) (Qt.bd_nrm iu nu) (Qt.bd_nrm iv nv) iu iv h0) ?_
    simp (disch := first|(simp only [Nat.reduceBEq,wE];done)|((repeat' (first|assumption|exact mAx _|refine mBx ?_ ?_|exact mCx (by assumption)|refine mDx ?_|refine mEx ?_ ?_ ?_|exact mFx|refine mGx ?_ ?_ ?_|exact mHx|exact mIx _|(simp only [wM,Nat.reduceAdd,Nat.reduceLT,Nat.reduceLeDiff];done)));done)|omega|decide) only [V2.ld, V1.ld, ↓wA,wB,wL,resOf,Nat.reduceBEq,Int.reduceBEq,Int.reduceBNe,Int.reduceLT,Int.reduceLE,Int.reduceAdd,Int.reduceSub,Int.reduceMul,Int.reduceToNat]
    rw [andT_pushB, andT_pushB]
    refine stA hk g V1 (by omega) rfl rfl rfl rfl rfl ?_
    intro bs1 W1 g1 K1 S1
    have W2 := K1.var V2 (by omega)
    have W3 := K1.var V3 (by omega)
    have hK1 := g1.ok hk
    simp (disch := first|(simp only [Nat.reduceBEq,wE];done)|((repeat' (first|assumption|exact mAx _|refine mBx ?_ ?_|exact mCx (by assumption)|refine mDx ?_|refine mEx ?_ ?_ ?_|exact mFx|refine mGx ?_ ?_ ?_|exact mHx|exact mIx _|(simp only [wM,Nat.reduceAdd,Nat.reduceLT,Nat.reduceLeDiff];done)));done)|omega|decide) only [W2.ld, W1.ld, ↓wA,wB,wL,resOf,Nat.reduceBEq,Int.reduceBEq,Int.reduceBNe,Int.reduceLT,Int.reduceLE,Int.reduceAdd,Int.reduceSub,Int.reduceMul,Int.reduceToNat]
    rw [andT_pushB, andT_pushB]
    refine stA hk g1 W2 (by omega) rfl rfl rfl rfl rfl ?_
    intro bs2 X2 g2 K2 S2
    have X1 := K2.var W1 (by omega)
    have X3 := K2.var W3 (by omega)
    have hr := Qt.rem_nrm iu iv h0
    have hp := Qt.nrm_pos iv h0
    have h4 := Qt.nrm_nonneg (x := u.rem v)
    simp (disch := first|(simp only [Nat.reduceBEq,wE];done)|((repeat' (first|assumption|exact mAx _|refine mBx ?_ ?_|exact mCx (by assumption)|refine mDx ?_|refine mEx ?_ ?_ ?_|exact mFx|refine mGx ?_ ?_ ?_|exact mHx|exact mIx _|(simp only [wM,Nat.reduceAdd,Nat.reduceLT,Nat.reduceLeDiff];done)));done)|omega|decide) only [X2.ld, X1.ld, W2.ld, W1.ld, V2.ld, V1.ld, ↓wA,wB,wL,resOf,Nat.reduceBEq,Int.reduceBEq,Int.reduceBNe,Int.reduceLT,Int.reduceLE,Int.reduceAdd,Int.reduceSub,Int.reduceMul,Int.reduceToNat]
    refine ⟨_, ?_, v, u.rem v, _, _, _, _, _, _, _, _, _, _, rfl, ?_, rfl⟩
    · omega
    exact ⟨iv, Qt.rem_int iu iv, nv, by omega, by rw [← hg, Qt.gcd_step iu iv h0], by omega, by (repeat' (first|assumption|exact mAx _|refine mBx ?_ ?_|exact mCx (by assumption)|refine mDx ?_|refine mEx ?_ ?_ ?_|exact mFx|refine mGx ?_ ?_ ?_|exact mHx|exact mIx _|(simp only [wM,Nat.reduceAdd,Nat.reduceLT,Nat.reduceLeDiff];done))), Var.push (Var.push X1 (by omega)) (by omega), Var.push (Var.push X2 (by omega)) (by omega), Var.push (Var.push X3 (by omega)) (by omega)⟩
end Go.Proofs.Ytpobklkllfokdaa
