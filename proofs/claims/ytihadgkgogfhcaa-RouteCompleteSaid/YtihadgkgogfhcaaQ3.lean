/- The cuts of positions, and the positions of an order's vertices. -/
import Derived.Test.YtihadgkgogfhcaaQ2
set_option linter.unusedSimpArgs false
set_option linter.unusedVariables false
set_option maxHeartbeats 4000000
set_option maxRecDepth 20000
namespace Go.Ro
open Go.Abs
theorem cut_bd {p : Int → Int} {q : Int} {E : List (Int × Int)} (hE : E.length ≤ 100) (i : Nat) : 0 ≤ cut p q (E.take i) ∧ cut p q (E.take i) ≤ 100 := by
  have h1 := cut_nonneg (p := p) (q := q) (E := E.take i)
  have h2 := cut_le (p := p) (q := q) (E := E.take i)
  rw [List.length_take] at h2
  omega
end Go.Ro
namespace Go.Proofs.Ytihadgkgogfhcaa
open Go Go.Abs Go.Pa Go.Ro

theorem f41 (a : AV) (E : List (Int × Int)) (p : Int → Int) (hp : Pos8 p) (h : Hp) (hk : Hok h) (ha : Pairs h.blks a E) (hE : E.length ≤ 100) (h8 : In8 E) :
    Evals Try.prog tab false (.func 41) [a, .ag (ints .i64 (pArr p))] h (.ag (ints .i64 (tabF 8 fun q : Nat => cut p q E)), h) := by
  refine evals_pure c41 rfl hk ?_ (refsOK_ints)
  simp only [sf41, initS_cons, initS_nil]
  have g1 : Grown h (((h.en.pu (ints .i64 (pArr p))).pu (ints .i64 (tabF 8 fun _ => 0))).pu (ints .i64 (tabF 8 fun _ => 0))) := Grown.pu (Grown.pu (Grown.pu Grown.en refsOK_ints) refsOK_ints) refsOK_ints
  have a1 := ha.sub (g1.sub hk)
  have A0 : ArrB h.next (((h.en.pu (ints .i64 (pArr p))).pu (ints .i64 (tabF 8 fun _ => 0))).pu (ints .i64 (tabF 8 fun _ => 0))).blks h.next (pArr p) := ⟨by rw [lkB_push (by simp; omega), lkB_push (by simp), lkB_top], Nat.le_refl _⟩
  have B0 : ArrB h.next (((h.en.pu (ints .i64 (pArr p))).pu (ints .i64 (tabF 8 fun _ => 0))).pu (ints .i64 (tabF 8 fun _ => 0))).blks (h.next + 1) (tabF 8 fun _ => 0) := ⟨by rw [lkB_push (by simp), lkB_top], by omega⟩
  have C0 : ArrB h.next (((h.en.pu (ints .i64 (pArr p))).pu (ints .i64 (tabF 8 fun _ => 0))).pu (ints .i64 (tabF 8 fun _ => 0))).blks (h.next + 2) (tabF 8 fun q : Nat => cut p q (E.take 0)) := ⟨by rw [lkB_top]; rfl, by omega⟩
  rw [zero8]
  simp (disch := first|(simp only [Nat.reduceBEq,wE];done)|((repeat' (first|assumption|exact mAx _|refine mBx ?_ ?_|exact mCx (by assumption)|refine mDx ?_|refine mEx ?_ ?_ ?_|exact mFx|refine mGx ?_ ?_ ?_|exact mHx|exact mIx _|(simp only [wM,Nat.reduceAdd,Nat.reduceLT,Nat.reduceLeDiff];done)));done)|omega|decide) only [a1.len, ↓wA,wB,wL,resOf,Nat.reduceBEq,Int.reduceBEq,Int.reduceBNe,Int.reduceLT,Int.reduceLE,Int.reduceAdd,Int.reduceSub,Int.reduceMul,Int.reduceToNat]
  refine wloop (fun mm ss => ∃ (i : Nat) (h1 : Hp) (u1 u7 u8 u9 u10 u14 u26 : AV), (mm = E.length - i) ∧ (i ≤ E.length ∧ Grown h h1 ∧ ArrB h.next h1.blks h.next (pArr p) ∧ ArrB h.next h1.blks (h.next + 1) (tabF 8 fun _ => 0) ∧ ArrB h.next h1.blks (h.next + 2) (tabF 8 fun q : Nat => cut p q (E.take i))) ∧ ss = { fr := [(0, a), (1, u1), (3, .ptr h.next 0), (4, .ptr (h.next + 1) 0), (5, .ptr (h.next + 2) 0), (7, u7), (8, u8), (9, u9), (10, u10), (11, a), (12, .int .i64 E.length), (13, .int .i64 i), (14, u14), (26, u26)], hp := h1 }) (E.length) ?_ ?_
  ·
    refine ⟨0, _, _, _, _, _, _, _, _, by omega, ⟨by omega, g1, A0, B0, C0⟩, rfl⟩
  rintro nA sA ⟨i, h1, u1, u7, u8, u9, u10, u14, u26, hnA, ⟨hi, g2, A2, B2, C2⟩, rfl⟩
  have k2 := g2.ok hk
  have a2 := ha.sub (g2.sub hk)
  simp (disch := first|(simp only [Nat.reduceBEq,wE];done)|((repeat' (first|assumption|exact mAx _|refine mBx ?_ ?_|exact mCx (by assumption)|refine mDx ?_|refine mEx ?_ ?_ ?_|exact mFx|refine mGx ?_ ?_ ?_|exact mHx|exact mIx _|(simp only [wM,Nat.reduceAdd,Nat.reduceLT,Nat.reduceLeDiff];done)));done)|omega|decide) only [↓wA,wB,wL,resOf,Nat.reduceBEq,Int.reduceBEq,Int.reduceBNe,Int.reduceLT,Int.reduceLE,Int.reduceAdd,Int.reduceSub,Int.reduceMul,Int.reduceToNat]
  refine ifThen_intro (fun e => ?_) (fun e => ?_) <;> have eq := e <;> try simp [-List.getD_eq_getElem?_getD] at eq
  · obtain ⟨x, y, exy, hx, hy⟩ := h8.nat eq
    have bs := fun q => cut_snoc (p := p) (q := q) eq
    rw [exy] at bs
    have hlt : h.next + 2 < h1.next := (k2.get C2.1).1
    have e1 : (E.getD i (0, 0)).1 = (x : Int) := by rw [exy]
    have e2 : (E.getD i (0, 0)).2 = (y : Int) := by rw [exy]
    have l1 : aggB h1.blks h.next 0 8 = some (.ag (ints .i64 (pArr p))) := A2.all
    have b1 := hp x
    have b2 := hp y
    obtain ⟨l, el⟩ : ∃ l : Nat, min (p x) (p y) = l := ⟨(min (p x) (p y)).toNat, by omega⟩
    obtain ⟨u, eu⟩ : ∃ u : Nat, max (p x) (p y) = u := ⟨(max (p x) (p y)).toNat, by omega⟩
    have hu : u ≤ 8 := by omega
    have hlu : l ≤ u := by omega
    have ge : Grown h { next := h1.next + 1, blks := (h1.next, { cells := [AV.int .i64 x, AV.int .i64 y], ch := h1.next, wr := true }) :: h1.blks, loops := h1.loops, base := h1.base, esc := h1.esc } := GrownR.push g2 rfl (Nat.le_refl _)
    have sb : Sub h1.blks ((h1.next, { cells := [AV.int .i64 x, AV.int .i64 y], ch := h1.next, wr := true }) :: h1.blks) := Sub.push (Sub.refl _) (HokR.fresh k2)
    have lof : Ro.lo p ((x : Int), (y : Int)) = l := el
    have hif : Ro.hi p ((x : Int), (y : Int)) = u := eu
    rw [lof, hif] at bs
    simp (disch := first|(simp only [Nat.reduceBEq,wE];done)|((repeat' (first|assumption|exact mAx _|refine mBx ?_ ?_|exact mCx (by assumption)|refine mDx ?_|refine mEx ?_ ?_ ?_|exact mFx|refine mGx ?_ ?_ ?_|exact mHx|exact mIx _|(simp only [wM,Nat.reduceAdd,Nat.reduceLT,Nat.reduceLeDiff];done)));done)|omega|decide) only [e, a2.ix, a2.lda, e1, e2, l1, callT (f57 x y p hx hy _ _), el, eu, ↓wA,wB,wL,resOf,Nat.reduceBEq,Int.reduceBEq,Int.reduceBNe,Int.reduceLT,Int.reduceLE,Int.reduceAdd,Int.reduceSub,Int.reduceMul,Int.reduceToNat]
    refine wloop (fun mm ss => ∃ (q : Nat) (h2 : Hp) (u1 u7 u8 u14 u26 : AV), (mm = u - q) ∧ (l ≤ q ∧ q ≤ u ∧ Grown h h2 ∧ ArrB h.next h2.blks h.next (pArr p) ∧ ArrB h.next h2.blks (h.next + 1) (tabF 8 fun _ => 0) ∧ ArrB h.next h2.blks (h.next + 2) (tabF 8 fun j : Nat => cut p j (E.take i) + if (l : Int) ≤ j ∧ (j : Int) < q then 1 else 0)) ∧ ss = { fr := [(0, a), (1, u1), (3, .ptr h.next 0), (4, .ptr (h.next + 1) 0), (5, .ptr (h.next + 2) 0), (7, u7), (8, u8), (9, .int .i64 u), (10, .int .i64 q), (11, a), (12, .int .i64 E.length), (13, .int .i64 i), (14, u14), (26, u26)], hp := h2 }) (u - l) ?_ ?_
    ·
      have eqc : (tabF 8 fun j : Nat => cut p j (E.take i) + if (l : Int) ≤ j ∧ (j : Int) < l then 1 else 0) = tabF 8 fun q : Nat => cut p q (E.take i) := tabF_congr fun j _ => by
        rw [if_neg (by omega)]; omega
      refine ⟨l, _, _, _, _, _, _, by omega, ⟨by omega, hlu, ge, A2.sub sb, B2.sub sb, by rw [eqc]; exact C2.sub sb⟩, rfl⟩
    rintro nB sB ⟨q, h2, u1, u7, u8, u14, u26, hnB, ⟨hl1, hq1, g3, A3, B3, C3⟩, rfl⟩
    have k3 := g3.ok hk
    simp (disch := first|(simp only [Nat.reduceBEq,wE];done)|((repeat' (first|assumption|exact mAx _|refine mBx ?_ ?_|exact mCx (by assumption)|refine mDx ?_|refine mEx ?_ ?_ ?_|exact mFx|refine mGx ?_ ?_ ?_|exact mHx|exact mIx _|(simp only [wM,Nat.reduceAdd,Nat.reduceLT,Nat.reduceLeDiff];done)));done)|omega|decide) only [e, ↓wA,wB,wL,resOf,Nat.reduceBEq,Int.reduceBEq,Int.reduceBNe,Int.reduceLT,Int.reduceLE,Int.reduceAdd,Int.reduceSub,Int.reduceMul,Int.reduceToNat]
    refine ifThen_intro (fun e3 => ?_) (fun e3 => ?_) <;> have e3q := e3 <;> try simp [-List.getD_eq_getElem?_getD] at e3q
    · have q8 : q < 8 := by omega
      have ld := C3.tab q8
      have cb := cut_bd (p := p) (q := (q : Int)) hE i
      have n0 : (if (l : Int) ≤ q ∧ (q : Int) < q then 1 else 0 : Int) = 0 := if_neg (by omega)
      rw [n0, Int.add_zero] at ld
      obtain ⟨h3, es, C4, g4, n4, r4⟩ := arr_set (v := cut p q (E.take i) + 1) hk g3 C3 (i := q) (by rw [tabF_len]; exact q8)
      have eqc : (tabF 8 fun j : Nat => cut p j (E.take i) + if (l : Int) ≤ j ∧ (j : Int) < q then 1 else 0).set q (cut p q (E.take i) + 1) = tabF 8 fun j : Nat => cut p j (E.take i) + if (l : Int) ≤ j ∧ (j : Int) < (q + 1 : Nat) then 1 else 0 := by
        rw [tabF_set q8]
        refine tabF_congr fun j _ => ?_
        by_cases ej : j = q
        · subst ej
          rw [if_pos rfl, if_pos (by omega)]
        · rw [if_neg ej]
          by_cases hj : (l : Int) ≤ j ∧ (j : Int) < q
          · rw [if_pos hj, if_pos (by omega)]
          · rw [if_neg hj, if_neg (by omega)]
      rw [eqc] at C4
      simp (disch := first|(simp only [Nat.reduceBEq,wE];done)|((repeat' (first|assumption|exact mAx _|refine mBx ?_ ?_|exact mCx (by assumption)|refine mDx ?_|refine mEx ?_ ?_ ?_|exact mFx|refine mGx ?_ ?_ ?_|exact mHx|exact mIx _|(simp only [wM,Nat.reduceAdd,Nat.reduceLT,Nat.reduceLeDiff];done)));done)|omega|decide) only [e, e3, sIxA_ptr, Nat.add_zero, ld, es, ↓wA,wB,wL,resOf,Nat.reduceBEq,Int.reduceBEq,Int.reduceBNe,Int.reduceLT,Int.reduceLE,Int.reduceAdd,Int.reduceSub,Int.reduceMul,Int.reduceToNat]
      refine ⟨_, ?_, q + 1, h3, _, _, _, _, _, rfl, ?_, rfl⟩
      · omega
      exact ⟨by omega, by omega, g4, ⟨r4 _ _ (by omega) (by simp) A3.1, A3.2⟩, ⟨r4 _ _ (by omega) (by simp) B3.1, B3.2⟩, C4⟩
    · have eqq : q = u := by omega
      have eqc : (tabF 8 fun j : Nat => cut p j (E.take i) + if (l : Int) ≤ j ∧ (j : Int) < q then 1 else 0) = tabF 8 fun j : Nat => cut p j (E.take (i + 1)) := tabF_congr fun j _ => by
        rw [bs, eqq]
      rw [eqc] at C3
      simp (disch := first|(simp only [Nat.reduceBEq,wE];done)|((repeat' (first|assumption|exact mAx _|refine mBx ?_ ?_|exact mCx (by assumption)|refine mDx ?_|refine mEx ?_ ?_ ?_|exact mFx|refine mGx ?_ ?_ ?_|exact mHx|exact mIx _|(simp only [wM,Nat.reduceAdd,Nat.reduceLT,Nat.reduceLeDiff];done)));done)|omega|decide) only [e, e3, ↓wA,wB,wL,resOf,Nat.reduceBEq,Int.reduceBEq,Int.reduceBNe,Int.reduceLT,Int.reduceLE,Int.reduceAdd,Int.reduceSub,Int.reduceMul,Int.reduceToNat]
      refine ⟨_, ?_, i + 1, h2, _, _, _, _, _, _, _, rfl, ?_, rfl⟩
      · omega
      exact ⟨by omega, g3, A3, B3, C3⟩
  · have ei : i = E.length := by omega
    rw [ei, List.take_of_length_le (Nat.le_refl _)] at C2
    obtain ⟨h3, es, D3, g3, n3, r3⟩ := arr_all (f := fun q : Nat => cut p q E) hk g2 B2 tabF_len
    have l5 := C2.all
    have l4 := D3.all
    simp (disch := first|(simp only [Nat.reduceBEq,wE];done)|((repeat' (first|assumption|exact mAx _|refine mBx ?_ ?_|exact mCx (by assumption)|refine mDx ?_|refine mEx ?_ ?_ ?_|exact mFx|refine mGx ?_ ?_ ?_|exact mHx|exact mIx _|(simp only [wM,Nat.reduceAdd,Nat.reduceLT,Nat.reduceLeDiff];done)));done)|omega|decide) only [e, l5, es, l4, ↓wA,wB,wL,resOf,Nat.reduceBEq,Int.reduceBEq,Int.reduceBNe,Int.reduceLT,Int.reduceLE,Int.reduceAdd,Int.reduceSub,Int.reduceMul,Int.reduceToNat]
    exact ⟨_, rfl, rfl, g3⟩
end Go.Proofs.Ytihadgkgogfhcaa
