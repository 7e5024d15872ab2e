/- The references' colourings; routes. -/
import Derived.Test.YtbomimhfldmlbaaDoorPD
set_option linter.unusedSimpArgs false
set_option linter.unusedVariables false
set_option maxHeartbeats 4000000
set_option maxRecDepth 20000
namespace Go.Abs
theorem Own.eql {c : Nat} {bs : List (Nat × Blk)} {k : IntKind} {s : AV} {zs : List Int} (O : Own c bs k s zs) (h : s ≠ .nilsl) : sBin .eql .slice s .nilsl = some (.bool false) ∧ sBin .neq .slice s .nilsl = some (.bool true) := by
  obtain ⟨_, ⟨_, rfl⟩ | ⟨id, b, cap, rfl, _⟩⟩ := O
  · exact absurd rfl h
  · exact ⟨rfl, rfl⟩
theorem sBin_nilN : sBin .neq .slice .nilsl .nilsl = some (.bool false) := (Eq.refl _).trans rfl
end Go.Abs
namespace Go.Pa
open Go Go.Abs
/- A list of one's own, or nothing. -/
def HD (c : Nat) (r : AV) (bs : List (Nat × Blk)) : Option (List Int) → Prop
  | none => r = .nilsl
  | some zs => Own c bs .i64 r zs ∧ r ≠ .nilsl
theorem HD.lk {c d : Nat} {r : AV} {bs bs' : List (Nat × Blk)} {o : Option (List Int)} (G : HD c r bs o) (hr : refOK d r = true) (hl : ∀ id, id < d → lkB bs' id = lkB bs id) : HD c r bs' o := by
  cases o with
  | none => exact G
  | some cl => exact ⟨OwnA.lk G.1 hr hl, G.2⟩
theorem HD.sub {c : Nat} {r : AV} {bs bs' : List (Nat × Blk)} {o : Option (List Int)} (G : HD c r bs o) (s : Sub bs bs') : HD c r bs' o := by
  cases o with
  | none => exact G
  | some cl => exact ⟨G.1.sub s, G.2⟩
theorem HD.le {c c' : Nat} {r : AV} {bs : List (Nat × Blk)} {o : Option (List Int)} (G : HD c r bs o) (h : c' ≤ c) : HD c' r bs o := by
  cases o with
  | none => exact G
  | some cl => exact ⟨G.1.le h, G.2⟩
theorem HD.ints {c : Nat} {r : AV} {bs : List (Nat × Blk)} {o : Option (List Int)} (G : HD c r bs o) : Ints bs .i64 r (o.getD []) := by
  cases o with
  | none => cases G; exact Ints.nil
  | some cl => exact G.1.ints
theorem prp_of {E : List (Int × Int)} {zs : List Int} {i : Nat} (hi : zs.length ≤ i) (hp : ∀ j, j < i → ∀ k, k < j → ¬ (cl zs j = cl zs k ∧ adj (eg E j) (eg E k))) : Prp E zs := fun j hj k hk => hp j (by omega) k hk
end Go.Pa
namespace Go.Proofs.YtbomimhfldmlbaaDoor
open Go Go.Abs Go.Pa

theorem LeastOK.hd {c : Nat} {E : List (Int × Int)} {limit : Nat} {v : AV} {bs : List (Nat × Blk)} (q : LeastOK c E limit v bs) : HD c v bs (ext E limit E.length []) := by
  unfold LeastOK at q
  cases hx : ext E limit E.length [] with
  | some ys => rw [hx] at q; exact q
  | none => rw [hx] at q; exact q

theorem f24 (n : Nat) (a b : AV) (ps zs : List Int) (h : Hp) (hk : Hok h) (hn : 0 < n ∧ n ≤ 1000) (ha : Ints h.blks .i64 a ps) (hb : Ints h.blks .i64 b zs) (hz : zs.length ≤ ps.length) (hp : ps.length ≤ 1000) (hr : ∀ z ∈ ps, 0 ≤ z ∧ z ≤ 100000) :
    Evals Tryd.prog tab false (.func 24) [.int .i64 n, a, b] h (.bool (decide (Prp (edgs n ps) zs)), h) := by
  refine evals_pure c24 rfl hk ?_
  simp only [sf24, initS_cons, initS_nil]
  have qo := @sBin_quo
  simp (disch := first|(simp only [Nat.reduceBEq,wE];done)|((repeat' (first|assumption|exact mAx _|refine mBx ?_ ?_|exact mCx (by assumption)|refine mDx ?_|refine mEx ?_ ?_ ?_|exact mFx|refine mGx ?_ ?_ ?_|exact mHx|exact mIx _|(simp only [wM,Nat.reduceAdd,Nat.reduceLT,Nat.reduceLeDiff];done)));done)|omega|decide) only [↓wA,wB,wL,resOf,Nat.reduceBEq,Int.reduceBEq,Int.reduceBNe,Int.reduceLT,Int.reduceLE,Int.reduceAdd,Int.reduceSub,Int.reduceMul,Int.reduceToNat]
  refine wloop (fun mm ss => ∃ (i : Nat) (u6 u8 u12 u17 u52 : AV), (mm = zs.length - i) ∧ (i ≤ zs.length ∧ (∀ j, j < i → ∀ k, k < j → ¬ (cl zs j = cl zs k ∧ adj (eg (edgs n ps) j) (eg (edgs n ps) k)))) ∧ ss = { fr := [(0, .int .i64 n), (1, a), (2, b), (6, u6), (7, .int .i64 i), (8, u8), (12, u12), (17, u17), (52, u52)], hp := h.en }) (zs.length) ?_ ?_
  ·
    refine ⟨0, _, _, _, _, _, by omega, ⟨by omega, fun j hj => absurd hj (by omega)⟩, rfl⟩
  rintro nA sA ⟨i, u6, u8, u12, u17, u52, hnA, ⟨hi, hq⟩, rfl⟩
  simp (disch := first|(simp only [Nat.reduceBEq,wE];done)|((repeat' (first|assumption|exact mAx _|refine mBx ?_ ?_|exact mCx (by assumption)|refine mDx ?_|refine mEx ?_ ?_ ?_|exact mFx|refine mGx ?_ ?_ ?_|exact mHx|exact mIx _|(simp only [wM,Nat.reduceAdd,Nat.reduceLT,Nat.reduceLeDiff];done)));done)|omega|decide) only [hb.len, ↓wA,wB,wL,resOf,Nat.reduceBEq,Int.reduceBEq,Int.reduceBNe,Int.reduceLT,Int.reduceLE,Int.reduceAdd,Int.reduceSub,Int.reduceMul,Int.reduceToNat]
  refine ifThen_intro (fun e => ?_) (fun e => ?_) <;> have eq := e <;> try simp [-List.getD_eq_getElem?_getD] at eq
  · simp (disch := first|(simp only [Nat.reduceBEq,wE];done)|((repeat' (first|assumption|exact mAx _|refine mBx ?_ ?_|exact mCx (by assumption)|refine mDx ?_|refine mEx ?_ ?_ ?_|exact mFx|refine mGx ?_ ?_ ?_|exact mHx|exact mIx _|(simp only [wM,Nat.reduceAdd,Nat.reduceLT,Nat.reduceLeDiff];done)));done)|omega|decide) only [e, ↓wA,wB,wL,resOf,Nat.reduceBEq,Int.reduceBEq,Int.reduceBNe,Int.reduceLT,Int.reduceLE,Int.reduceAdd,Int.reduceSub,Int.reduceMul,Int.reduceToNat]
    have hi2 : i < ps.length := by omega
    have b1 : 0 ≤ ps.getD i 0 ∧ ps.getD i 0 ≤ 100000 := by rw [getD_at hi2]; exact hr _ (List.getElem_mem hi2)
    refine wloop (fun mm ss => ∃ (k : Nat) (u6 u12 u17 u52 : AV), (mm = i - k) ∧ (k ≤ i ∧ (∀ k', k' < k → ¬ (cl zs i = cl zs k' ∧ adj (eg (edgs n ps) i) (eg (edgs n ps) k')))) ∧ ss = { fr := [(0, .int .i64 n), (1, a), (2, b), (6, u6), (7, .int .i64 i), (8, .int .i64 k), (12, u12), (17, u17), (52, u52)], hp := h.en }) (i) ?_ ?_
    ·
      refine ⟨0, _, _, _, _, by omega, ⟨by omega, fun j hj => absurd hj (by omega)⟩, rfl⟩
    rintro nB sB ⟨k, u6, u12, u17, u52, hnB, ⟨hk2, hq2⟩, rfl⟩
    simp (disch := first|(simp only [Nat.reduceBEq,wE];done)|((repeat' (first|assumption|exact mAx _|refine mBx ?_ ?_|exact mCx (by assumption)|refine mDx ?_|refine mEx ?_ ?_ ?_|exact mFx|refine mGx ?_ ?_ ?_|exact mHx|exact mIx _|(simp only [wM,Nat.reduceAdd,Nat.reduceLT,Nat.reduceLeDiff];done)));done)|omega|decide) only [e, ↓wA,wB,wL,resOf,Nat.reduceBEq,Int.reduceBEq,Int.reduceBNe,Int.reduceLT,Int.reduceLE,Int.reduceAdd,Int.reduceSub,Int.reduceMul,Int.reduceToNat]
    refine ifThen_intro (fun e2 => ?_) (fun e2 => ?_) <;> have e2q := e2 <;> try simp [-List.getD_eq_getElem?_getD] at e2q
    · have hk3 : k < zs.length := by omega
      have hk4 : k < ps.length := by omega
      have b2 : 0 ≤ ps.getD k 0 ∧ ps.getD k 0 ≤ 100000 := by rw [getD_at hk4]; exact hr _ (List.getElem_mem hk4)
      have next : ¬ (cl zs i = cl zs k ∧ adj (eg (edgs n ps) i) (eg (edgs n ps) k)) → ∀ k', k' < k + 1 → ¬ (cl zs i = cl zs k' ∧ adj (eg (edgs n ps) i) (eg (edgs n ps) k')) := fun hn j hj => by
        by_cases ej : j = k
        · subst ej; exact hn
        · exact hq2 j (by omega)
      have bad : (cl zs i = cl zs k ∧ adj (eg (edgs n ps) i) (eg (edgs n ps) k)) → decide (Prp (edgs n ps) zs) = false := fun H => decide_eq_false fun P => P i (by omega) k e2q H
      by_cases e3 : zs.getD i 0 = zs.getD k 0
      · have e3t : (zs.getD i 0 == zs.getD k 0) = true := by simpa using e3
        by_cases e4 : (i : Int) / n = (k : Int) / n
        · have e4t : ((i : Int) / n == (k : Int) / n) = true := by simpa using e4
          simp (disch := first|(simp only [Nat.reduceBEq,wE];done)|((repeat' (first|assumption|exact mAx _|refine mBx ?_ ?_|exact mCx (by assumption)|refine mDx ?_|refine mEx ?_ ?_ ?_|exact mFx|refine mGx ?_ ?_ ?_|exact mHx|exact mIx _|(simp only [wM,Nat.reduceAdd,Nat.reduceLT,Nat.reduceLeDiff];done)));done)|omega|decide) only [e, e2, hb.ix, hb.ld, qo, e3t, e4t, ↓wA,wB,wL,resOf,Nat.reduceBEq,Int.reduceBEq,Int.reduceBNe,Int.reduceLT,Int.reduceLE,Int.reduceAdd,Int.reduceSub,Int.reduceMul,Int.reduceToNat]
          refine ⟨_, rfl, ?_, by (repeat' (first|assumption|exact mAx _|refine mBx ?_ ?_|exact mCx (by assumption)|refine mDx ?_|refine mEx ?_ ?_ ?_|exact mFx|refine mGx ?_ ?_ ?_|exact mHx|exact mIx _|(simp only [wM,Nat.reduceAdd,Nat.reduceLT,Nat.reduceLeDiff];done)))⟩
          rw [bad ⟨e3, by rw [edgs_at hi2, edgs_at hk4]; exact .inl e4⟩]
        · have e4t : ((i : Int) / n == (k : Int) / n) = false := by simpa using e4
          by_cases e5 : ps.getD i 0 / (n : Int) = ps.getD k 0 / n
          · have e5t : (ps.getD i 0 / (n : Int) == ps.getD k 0 / n) = true := by simpa using e5
            simp (disch := first|(simp only [Nat.reduceBEq,wE];done)|((repeat' (first|assumption|exact mAx _|refine mBx ?_ ?_|exact mCx (by assumption)|refine mDx ?_|refine mEx ?_ ?_ ?_|exact mFx|refine mGx ?_ ?_ ?_|exact mHx|exact mIx _|(simp only [wM,Nat.reduceAdd,Nat.reduceLT,Nat.reduceLeDiff];done)));done)|omega|decide) only [e, e2, hb.ix, hb.ld, ha.ix, ha.ld, qo, e3t, e4t, e5t, ↓wA,wB,wL,resOf,Nat.reduceBEq,Int.reduceBEq,Int.reduceBNe,Int.reduceLT,Int.reduceLE,Int.reduceAdd,Int.reduceSub,Int.reduceMul,Int.reduceToNat]
            refine ⟨_, rfl, ?_, by (repeat' (first|assumption|exact mAx _|refine mBx ?_ ?_|exact mCx (by assumption)|refine mDx ?_|refine mEx ?_ ?_ ?_|exact mFx|refine mGx ?_ ?_ ?_|exact mHx|exact mIx _|(simp only [wM,Nat.reduceAdd,Nat.reduceLT,Nat.reduceLeDiff];done)))⟩
            rw [bad ⟨e3, by rw [edgs_at hi2, edgs_at hk4]; exact .inr e5⟩]
          · have e5t : (ps.getD i 0 / (n : Int) == ps.getD k 0 / n) = false := by simpa using e5
            simp (disch := first|(simp only [Nat.reduceBEq,wE];done)|((repeat' (first|assumption|exact mAx _|refine mBx ?_ ?_|exact mCx (by assumption)|refine mDx ?_|refine mEx ?_ ?_ ?_|exact mFx|refine mGx ?_ ?_ ?_|exact mHx|exact mIx _|(simp only [wM,Nat.reduceAdd,Nat.reduceLT,Nat.reduceLeDiff];done)));done)|omega|decide) only [e, e2, hb.ix, hb.ld, ha.ix, ha.ld, qo, e3t, e4t, e5t, ↓wA,wB,wL,resOf,Nat.reduceBEq,Int.reduceBEq,Int.reduceBNe,Int.reduceLT,Int.reduceLE,Int.reduceAdd,Int.reduceSub,Int.reduceMul,Int.reduceToNat]
            refine ⟨_, ?_, k + 1, _, _, _, _, rfl, ?_, rfl⟩
            · omega
            exact ⟨by omega, next fun H => by rw [edgs_at hi2, edgs_at hk4] at H; exact H.2.elim e4 e5⟩
      · have e3t : (zs.getD i 0 == zs.getD k 0) = false := by simpa using e3
        simp (disch := first|(simp only [Nat.reduceBEq,wE];done)|((repeat' (first|assumption|exact mAx _|refine mBx ?_ ?_|exact mCx (by assumption)|refine mDx ?_|refine mEx ?_ ?_ ?_|exact mFx|refine mGx ?_ ?_ ?_|exact mHx|exact mIx _|(simp only [wM,Nat.reduceAdd,Nat.reduceLT,Nat.reduceLeDiff];done)));done)|omega|decide) only [e, e2, hb.ix, hb.ld, qo, e3t, ↓wA,wB,wL,resOf,Nat.reduceBEq,Int.reduceBEq,Int.reduceBNe,Int.reduceLT,Int.reduceLE,Int.reduceAdd,Int.reduceSub,Int.reduceMul,Int.reduceToNat]
        refine ⟨_, ?_, k + 1, _, _, _, _, rfl, ?_, rfl⟩
        · omega
        exact ⟨by omega, next fun H => e3 H.1⟩
    · simp (disch := first|(simp only [Nat.reduceBEq,wE];done)|((repeat' (first|assumption|exact mAx _|refine mBx ?_ ?_|exact mCx (by assumption)|refine mDx ?_|refine mEx ?_ ?_ ?_|exact mFx|refine mGx ?_ ?_ ?_|exact mHx|exact mIx _|(simp only [wM,Nat.reduceAdd,Nat.reduceLT,Nat.reduceLeDiff];done)));done)|omega|decide) only [e, e2, ↓wA,wB,wL,resOf,Nat.reduceBEq,Int.reduceBEq,Int.reduceBNe,Int.reduceLT,Int.reduceLE,Int.reduceAdd,Int.reduceSub,Int.reduceMul,Int.reduceToNat]
      refine ⟨_, ?_, i + 1, _, _, _, _, _, rfl, ?_, rfl⟩
      · omega
      refine ⟨by omega, fun j hj k' hk' => ?_⟩
      by_cases ej : j = i
      · subst ej; exact hq2 k' (by omega)
      · exact hq j (by omega) k' hk'
  · simp (disch := first|(simp only [Nat.reduceBEq,wE];done)|((repeat' (first|assumption|exact mAx _|refine mBx ?_ ?_|exact mCx (by assumption)|refine mDx ?_|refine mEx ?_ ?_ ?_|exact mFx|refine mGx ?_ ?_ ?_|exact mHx|exact mIx _|(simp only [wM,Nat.reduceAdd,Nat.reduceLT,Nat.reduceLeDiff];done)));done)|omega|decide) only [e, ↓wA,wB,wL,resOf,Nat.reduceBEq,Int.reduceBEq,Int.reduceBNe,Int.reduceLT,Int.reduceLE,Int.reduceAdd,Int.reduceSub,Int.reduceMul,Int.reduceToNat]
    refine ⟨_, rfl, ?_, by (repeat' (first|assumption|exact mAx _|refine mBx ?_ ?_|exact mCx (by assumption)|refine mDx ?_|refine mEx ?_ ?_ ?_|exact mFx|refine mGx ?_ ?_ ?_|exact mHx|exact mIx _|(simp only [wM,Nat.reduceAdd,Nat.reduceLT,Nat.reduceLeDiff];done)))⟩
    have H : Prp (edgs n ps) zs := prp_of (i := i) (by omega) hq
    rw [decide_eq_true H]

theorem f49 (a b : AV) (E : List (Int × Int)) (zs : List Int) (h : Hp) (hk : Hok h) (ha : Pairs h.blks a E) (hb : Ints h.blks .i64 b zs) (hz : zs.length ≤ E.length) (hp : E.length ≤ 1000) :
    Evals Tryd.prog tab false (.func 49) [a, b] h (.bool (decide (Prp E zs)), h) := by
  refine evals_pure c49 rfl hk ?_
  simp only [sf49, initS_cons, initS_nil]
  simp (disch := first|(simp only [Nat.reduceBEq,wE];done)|((repeat' (first|assumption|exact mAx _|refine mBx ?_ ?_|exact mCx (by assumption)|refine mDx ?_|refine mEx ?_ ?_ ?_|exact mFx|refine mGx ?_ ?_ ?_|exact mHx|exact mIx _|(simp only [wM,Nat.reduceAdd,Nat.reduceLT,Nat.reduceLeDiff];done)));done)|omega|decide) only [↓wA,wB,wL,resOf,Nat.reduceBEq,Int.reduceBEq,Int.reduceBNe,Int.reduceLT,Int.reduceLE,Int.reduceAdd,Int.reduceSub,Int.reduceMul,Int.reduceToNat]
  refine wloop (fun mm ss => ∃ (i : Nat) (u4 u6 u10 u15 u52 : AV), (mm = zs.length - i) ∧ (i ≤ zs.length ∧ (∀ j, j < i → ∀ k, k < j → ¬ (cl zs j = cl zs k ∧ adj (eg E j) (eg E k)))) ∧ ss = { fr := [(0, a), (1, b), (4, u4), (5, .int .i64 i), (6, u6), (10, u10), (15, u15), (52, u52)], hp := h.en }) (zs.length) ?_ ?_
  ·
    refine ⟨0, _, _, _, _, _, by omega, ⟨by omega, fun j hj => absurd hj (by omega)⟩, rfl⟩
  rintro nA sA ⟨i, u4, u6, u10, u15, u52, hnA, ⟨hi, hq⟩, rfl⟩
  simp (disch := first|(simp only [Nat.reduceBEq,wE];done)|((repeat' (first|assumption|exact mAx _|refine mBx ?_ ?_|exact mCx (by assumption)|refine mDx ?_|refine mEx ?_ ?_ ?_|exact mFx|refine mGx ?_ ?_ ?_|exact mHx|exact mIx _|(simp only [wM,Nat.reduceAdd,Nat.reduceLT,Nat.reduceLeDiff];done)));done)|omega|decide) only [hb.len, ↓wA,wB,wL,resOf,Nat.reduceBEq,Int.reduceBEq,Int.reduceBNe,Int.reduceLT,Int.reduceLE,Int.reduceAdd,Int.reduceSub,Int.reduceMul,Int.reduceToNat]
  refine ifThen_intro (fun e => ?_) (fun e => ?_) <;> have eq := e <;> try simp [-List.getD_eq_getElem?_getD] at eq
  · simp (disch := first|(simp only [Nat.reduceBEq,wE];done)|((repeat' (first|assumption|exact mAx _|refine mBx ?_ ?_|exact mCx (by assumption)|refine mDx ?_|refine mEx ?_ ?_ ?_|exact mFx|refine mGx ?_ ?_ ?_|exact mHx|exact mIx _|(simp only [wM,Nat.reduceAdd,Nat.reduceLT,Nat.reduceLeDiff];done)));done)|omega|decide) only [e, ↓wA,wB,wL,resOf,Nat.reduceBEq,Int.reduceBEq,Int.reduceBNe,Int.reduceLT,Int.reduceLE,Int.reduceAdd,Int.reduceSub,Int.reduceMul,Int.reduceToNat]
    have hi2 : i < E.length := by omega
    refine wloop (fun mm ss => ∃ (k : Nat) (u4 u10 u15 u52 : AV), (mm = i - k) ∧ (k ≤ i ∧ (∀ k', k' < k → ¬ (cl zs i = cl zs k' ∧ adj (eg E i) (eg E k')))) ∧ ss = { fr := [(0, a), (1, b), (4, u4), (5, .int .i64 i), (6, .int .i64 k), (10, u10), (15, u15), (52, u52)], hp := h.en }) (i) ?_ ?_
    ·
      refine ⟨0, _, _, _, _, by omega, ⟨by omega, fun j hj => absurd hj (by omega)⟩, rfl⟩
    rintro nB sB ⟨k, u4, u10, u15, u52, hnB, ⟨hk2, hq2⟩, rfl⟩
    simp (disch := first|(simp only [Nat.reduceBEq,wE];done)|((repeat' (first|assumption|exact mAx _|refine mBx ?_ ?_|exact mCx (by assumption)|refine mDx ?_|refine mEx ?_ ?_ ?_|exact mFx|refine mGx ?_ ?_ ?_|exact mHx|exact mIx _|(simp only [wM,Nat.reduceAdd,Nat.reduceLT,Nat.reduceLeDiff];done)));done)|omega|decide) only [e, ↓wA,wB,wL,resOf,Nat.reduceBEq,Int.reduceBEq,Int.reduceBNe,Int.reduceLT,Int.reduceLE,Int.reduceAdd,Int.reduceSub,Int.reduceMul,Int.reduceToNat]
    refine ifThen_intro (fun e2 => ?_) (fun e2 => ?_) <;> have e2q := e2 <;> try simp [-List.getD_eq_getElem?_getD] at e2q
    · have hk3 : k < zs.length := by omega
      have hk4 : k < E.length := by omega
      have next : ¬ (cl zs i = cl zs k ∧ adj (eg E i) (eg E k)) → ∀ k', k' < k + 1 → ¬ (cl zs i = cl zs k' ∧ adj (eg E i) (eg E k')) := fun hn j hj => by
        by_cases ej : j = k
        · subst ej; exact hn
        · exact hq2 j (by omega)
      have bad : (cl zs i = cl zs k ∧ adj (eg E i) (eg E k)) → decide (Prp E zs) = false := fun H => decide_eq_false fun P => P i (by omega) k e2q H
      by_cases e3 : zs.getD i 0 = zs.getD k 0
      · have e3t : (zs.getD i 0 == zs.getD k 0) = true := by simpa using e3
        by_cases e4 : (E.getD i (0, 0)).1 = (E.getD k (0, 0)).1
        · have e4t : ((E.getD i (0, 0)).1 == (E.getD k (0, 0)).1) = true := by simpa using e4
          simp (disch := first|(simp only [Nat.reduceBEq,wE];done)|((repeat' (first|assumption|exact mAx _|refine mBx ?_ ?_|exact mCx (by assumption)|refine mDx ?_|refine mEx ?_ ?_ ?_|exact mFx|refine mGx ?_ ?_ ?_|exact mHx|exact mIx _|(simp only [wM,Nat.reduceAdd,Nat.reduceLT,Nat.reduceLeDiff];done)));done)|omega|decide) only [e, e2, hb.ix, hb.ld, ha.ix, ha.fa, ha.ld0, ha.ld1, e3t, e4t, ↓wA,wB,wL,resOf,Nat.reduceBEq,Int.reduceBEq,Int.reduceBNe,Int.reduceLT,Int.reduceLE,Int.reduceAdd,Int.reduceSub,Int.reduceMul,Int.reduceToNat]
          refine ⟨_, rfl, ?_, by (repeat' (first|assumption|exact mAx _|refine mBx ?_ ?_|exact mCx (by assumption)|refine mDx ?_|refine mEx ?_ ?_ ?_|exact mFx|refine mGx ?_ ?_ ?_|exact mHx|exact mIx _|(simp only [wM,Nat.reduceAdd,Nat.reduceLT,Nat.reduceLeDiff];done)))⟩
          rw [bad ⟨e3, .inl e4⟩]
        · have e4t : ((E.getD i (0, 0)).1 == (E.getD k (0, 0)).1) = false := by simpa using e4
          by_cases e5 : (E.getD i (0, 0)).2 = (E.getD k (0, 0)).2
          · have e5t : ((E.getD i (0, 0)).2 == (E.getD k (0, 0)).2) = true := by simpa using e5
            simp (disch := first|(simp only [Nat.reduceBEq,wE];done)|((repeat' (first|assumption|exact mAx _|refine mBx ?_ ?_|exact mCx (by assumption)|refine mDx ?_|refine mEx ?_ ?_ ?_|exact mFx|refine mGx ?_ ?_ ?_|exact mHx|exact mIx _|(simp only [wM,Nat.reduceAdd,Nat.reduceLT,Nat.reduceLeDiff];done)));done)|omega|decide) only [e, e2, hb.ix, hb.ld, ha.ix, ha.fa, ha.ld0, ha.ld1, e3t, e4t, e5t, ↓wA,wB,wL,resOf,Nat.reduceBEq,Int.reduceBEq,Int.reduceBNe,Int.reduceLT,Int.reduceLE,Int.reduceAdd,Int.reduceSub,Int.reduceMul,Int.reduceToNat]
            refine ⟨_, rfl, ?_, by (repeat' (first|assumption|exact mAx _|refine mBx ?_ ?_|exact mCx (by assumption)|refine mDx ?_|refine mEx ?_ ?_ ?_|exact mFx|refine mGx ?_ ?_ ?_|exact mHx|exact mIx _|(simp only [wM,Nat.reduceAdd,Nat.reduceLT,Nat.reduceLeDiff];done)))⟩
            rw [bad ⟨e3, .inr e5⟩]
          · have e5t : ((E.getD i (0, 0)).2 == (E.getD k (0, 0)).2) = false := by simpa using e5
            simp (disch := first|(simp only [Nat.reduceBEq,wE];done)|((repeat' (first|assumption|exact mAx _|refine mBx ?_ ?_|exact mCx (by assumption)|refine mDx ?_|refine mEx ?_ ?_ ?_|exact mFx|refine mGx ?_ ?_ ?_|exact mHx|exact mIx _|(simp only [wM,Nat.reduceAdd,Nat.reduceLT,Nat.reduceLeDiff];done)));done)|omega|decide) only [e, e2, hb.ix, hb.ld, ha.ix, ha.fa, ha.ld0, ha.ld1, e3t, e4t, e5t, ↓wA,wB,wL,resOf,Nat.reduceBEq,Int.reduceBEq,Int.reduceBNe,Int.reduceLT,Int.reduceLE,Int.reduceAdd,Int.reduceSub,Int.reduceMul,Int.reduceToNat]
            refine ⟨_, ?_, k + 1, _, _, _, _, rfl, ?_, rfl⟩
            · omega
            exact ⟨by omega, next fun H => H.2.elim e4 e5⟩
      · have e3t : (zs.getD i 0 == zs.getD k 0) = false := by simpa using e3
        simp (disch := first|(simp only [Nat.reduceBEq,wE];done)|((repeat' (first|assumption|exact mAx _|refine mBx ?_ ?_|exact mCx (by assumption)|refine mDx ?_|refine mEx ?_ ?_ ?_|exact mFx|refine mGx ?_ ?_ ?_|exact mHx|exact mIx _|(simp only [wM,Nat.reduceAdd,Nat.reduceLT,Nat.reduceLeDiff];done)));done)|omega|decide) only [e, e2, hb.ix, hb.ld, e3t, ↓wA,wB,wL,resOf,Nat.reduceBEq,Int.reduceBEq,Int.reduceBNe,Int.reduceLT,Int.reduceLE,Int.reduceAdd,Int.reduceSub,Int.reduceMul,Int.reduceToNat]
        refine ⟨_, ?_, k + 1, _, _, _, _, rfl, ?_, rfl⟩
        · omega
        exact ⟨by omega, next fun H => e3 H.1⟩
    · simp (disch := first|(simp only [Nat.reduceBEq,wE];done)|((repeat' (first|assumption|exact mAx _|refine mBx ?_ ?_|exact mCx (by assumption)|refine mDx ?_|refine mEx ?_ ?_ ?_|exact mFx|refine mGx ?_ ?_ ?_|exact mHx|exact mIx _|(simp only [wM,Nat.reduceAdd,Nat.reduceLT,Nat.reduceLeDiff];done)));done)|omega|decide) only [e, e2, ↓wA,wB,wL,resOf,Nat.reduceBEq,Int.reduceBEq,Int.reduceBNe,Int.reduceLT,Int.reduceLE,Int.reduceAdd,Int.reduceSub,Int.reduceMul,Int.reduceToNat]
      refine ⟨_, ?_, i + 1, _, _, _, _, _, rfl, ?_, rfl⟩
      · omega
      refine ⟨by omega, fun j hj k' hk' => ?_⟩
      by_cases ej : j = i
      · subst ej; exact hq2 k' (by omega)
      · exact hq j (by omega) k' hk'
  · simp (disch := first|(simp only [Nat.reduceBEq,wE];done)|((repeat' (first|assumption|exact mAx _|refine mBx ?_ ?_|exact mCx (by assumption)|refine mDx ?_|refine mEx ?_ ?_ ?_|exact mFx|refine mGx ?_ ?_ ?_|exact mHx|exact mIx _|(simp only [wM,Nat.reduceAdd,Nat.reduceLT,Nat.reduceLeDiff];done)));done)|omega|decide) only [e, ↓wA,wB,wL,resOf,Nat.reduceBEq,Int.reduceBEq,Int.reduceBNe,Int.reduceLT,Int.reduceLE,Int.reduceAdd,Int.reduceSub,Int.reduceMul,Int.reduceToNat]
    refine ⟨_, rfl, ?_, by (repeat' (first|assumption|exact mAx _|refine mBx ?_ ?_|exact mCx (by assumption)|refine mDx ?_|refine mEx ?_ ?_ ?_|exact mFx|refine mGx ?_ ?_ ?_|exact mHx|exact mIx _|(simp only [wM,Nat.reduceAdd,Nat.reduceLT,Nat.reduceLeDiff];done)))⟩
    have H : Prp E zs := prp_of (i := i) (by omega) hq
    rw [decide_eq_true H]

theorem f25 (n m : Nat) (a : AV) (ps : List Int) (h0 : Hp) (ho : Hok h0) (hn : 0 < n ∧ n ≤ 1000) (hm : m ≤ 1000) (hnm : n ≤ m) (ha : Ints h0.blks .i64 a ps) (hp : ps.length ≤ 1000) (hr : ∀ z ∈ ps, 0 ≤ z ∧ z ≤ 100000) :
    ∀ (f : Nat) (zs : List Int) (s : AV) (h : Hp) (d : Nat), zs.length + f = ps.length → Grown h0 h → Own d h.blks .i64 s zs → s ≠ .nilsl → d ≤ h.next →
    ∃ v h', Evals Tryd.prog tab false (.func 25) [.int .i64 n, .int .i64 m, a, s] h (v, h') ∧ Grown h h' ∧ HD d v h'.blks (rfE (edgs n ps) m f zs) := by
  intro f
  induction f with
  | zero =>
    intro zs s h d hlen g0 os hne hd
    have hk := g0.ok ho
    have a1 := ha.sub (g0.sub ho)
    refine evals_q c25 (fun v h' => HD d v h'.blks (rfE (edgs n ps) m 0 zs)) rfl hk ?_ (fun v h1 g q => ⟨fun hr => q.lk hr (fun id hid => (g.lkB hid).symm), fun _ => q⟩)
    simp only [sf25, initS_cons, initS_nil]
    have e0 : ((zs.length : Int) == (ps.length : Int)) = true := by simp; omega
    have C := f24 n a s ps zs h.en hk hn a1 os.ints (by omega) hp hr
    have dm : decide ((m : Int) < (n : Int)) = false := decide_eq_false (by omega)
    by_cases hs : Prp (edgs n ps) zs
    · simp (disch := first|(simp only [Nat.reduceBEq,wE];done)|((repeat' (first|assumption|exact mAx _|refine mBx ?_ ?_|exact mCx (by assumption)|refine mDx ?_|refine mEx ?_ ?_ ?_|exact mFx|refine mGx ?_ ?_ ?_|exact mHx|exact mIx _|(simp only [wM,Nat.reduceAdd,Nat.reduceLT,Nat.reduceLeDiff];done)));done)|omega|decide) only [dm, callT C, decide_eq_true hs, os.len, a1.len, e0, ↓wA,wB,wL,resOf,Nat.reduceBEq,Int.reduceBEq,Int.reduceBNe,Int.reduceLT,Int.reduceLE,Int.reduceAdd,Int.reduceSub,Int.reduceMul,Int.reduceToNat]
      refine ⟨_, rfl, Grown.en, ?_⟩
      rw [rfE, if_pos hs]
      exact ⟨os, hne⟩
    · simp (disch := first|(simp only [Nat.reduceBEq,wE];done)|((repeat' (first|assumption|exact mAx _|refine mBx ?_ ?_|exact mCx (by assumption)|refine mDx ?_|refine mEx ?_ ?_ ?_|exact mFx|refine mGx ?_ ?_ ?_|exact mHx|exact mIx _|(simp only [wM,Nat.reduceAdd,Nat.reduceLT,Nat.reduceLeDiff];done)));done)|omega|decide) only [dm, callT C, decide_eq_false hs, ↓wA,wB,wL,resOf,Nat.reduceBEq,Int.reduceBEq,Int.reduceBNe,Int.reduceLT,Int.reduceLE,Int.reduceAdd,Int.reduceSub,Int.reduceMul,Int.reduceToNat]
      refine ⟨_, rfl, Grown.en, ?_⟩
      rw [rfE, if_neg hs]
      rfl
  | succ f IH =>
    intro zs s h d hlen g0 os hne hd
    have hk := g0.ok ho
    have a1 := ha.sub (g0.sub ho)
    refine evals_q c25 (fun v h' => HD d v h'.blks (rfE (edgs n ps) m (f + 1) zs)) rfl hk ?_ (fun v h1 g q => ⟨fun hr => q.lk hr (fun id hid => (g.lkB hid).symm), fun _ => q⟩)
    simp only [sf25, initS_cons, initS_nil]
    have e0 : ((zs.length : Int) == (ps.length : Int)) = false := by simp; omega
    have C := f24 n a s ps zs h.en hk hn a1 os.ints (by omega) hp hr
    have dm : decide ((m : Int) < (n : Int)) = false := decide_eq_false (by omega)
    by_cases hs : Prp (edgs n ps) zs
    · simp (disch := first|(simp only [Nat.reduceBEq,wE];done)|((repeat' (first|assumption|exact mAx _|refine mBx ?_ ?_|exact mCx (by assumption)|refine mDx ?_|refine mEx ?_ ?_ ?_|exact mFx|refine mGx ?_ ?_ ?_|exact mHx|exact mIx _|(simp only [wM,Nat.reduceAdd,Nat.reduceLT,Nat.reduceLeDiff];done)));done)|omega|decide) only [dm, callT C, decide_eq_true hs, os.len, a1.len, e0, ↓wA,wB,wL,resOf,Nat.reduceBEq,Int.reduceBEq,Int.reduceBNe,Int.reduceLT,Int.reduceLE,Int.reduceAdd,Int.reduceSub,Int.reduceMul,Int.reduceToNat]
      refine wloop (fun mm ss => ∃ (i : Nat) (h3 : Hp) (u8 u10 u20 u25 u29 u43 : AV), (mm = m - i) ∧ (i ≤ m ∧ Grown h h3 ∧ rfE (edgs n ps) m (f + 1) zs = firstS (fun k => rfE (edgs n ps) m f (zs ++ [(k : Int)])) (m - i) i) ∧ ss = { fr := [(0, .int .i64 n), (1, .int .i64 m), (2, a), (3, s), (8, u8), (9, .int .i64 i), (10, u10), (20, u20), (25, u25), (29, u29), (43, u43)], hp := h3 }) (m) ?_ ?_
      ·
        refine ⟨0, h.en, _, _, _, _, _, _, by omega, ⟨by omega, Grown.en, by rw [rfE, if_pos hs]; rfl⟩, rfl⟩
      rintro nA sA ⟨i, h3, u8, u10, u20, u25, u29, u43, hnA, ⟨hi, g3, hg⟩, rfl⟩
      have k3 := g3.ok hk
      simp (disch := first|(simp only [Nat.reduceBEq,wE];done)|((repeat' (first|assumption|exact mAx _|refine mBx ?_ ?_|exact mCx (by assumption)|refine mDx ?_|refine mEx ?_ ?_ ?_|exact mFx|refine mGx ?_ ?_ ?_|exact mHx|exact mIx _|(simp only [wM,Nat.reduceAdd,Nat.reduceLT,Nat.reduceLeDiff];done)));done)|omega|decide) only [↓wA,wB,wL,resOf,Nat.reduceBEq,Int.reduceBEq,Int.reduceBNe,Int.reduceLT,Int.reduceLE,Int.reduceAdd,Int.reduceSub,Int.reduceMul,Int.reduceToNat]
      refine ifThen_intro (fun e => ?_) (fun e => ?_) <;> have eq := e <;> try simp [-List.getD_eq_getElem?_getD] at eq
      · have os3 := os.sub (g3.sub hk)
        have O : Own h3.next (h3.pu []).blks .i64 (.sl h3.next 0 0 (some 0) 1) [] := Own.fresh (Nat.le_refl _) rfl rfl rfl (Nat.le_refl _)
        obtain ⟨s1, h4, e4, o4, g4, _⟩ := own_appI (h0 := h3) (h := h3.pu []) k3 (Grown.pu Grown.refl rfl) O (os3.ints.sub (Sub.pu k3)) (by rw [List.length_nil]; omega)
        rw [List.nil_append] at o4
        obtain ⟨s2, h5, e5, o5, g5, n5⟩ := own_app1 (v := (i : Int)) k3 g4 o4 (by omega)
        obtain ⟨v, h6, ev, g6, q6⟩ := IH (zs ++ [(i : Int)]) s2 h5 h3.next (by rw [List.length_append, List.length_singleton]; omega) (GrownR.trans g0 (GrownR.trans g3 g5)) o5 n5 g5.next
        have g6' : Grown h h6 := GrownR.trans g3 (GrownR.trans g5 g6)
        rw [show m - i = (m - (i + 1)) + 1 by omega, firstS] at hg
        cases hrc : rfE (edgs n ps) m f (zs ++ [(i : Int)]) with
        | none =>
          rw [hrc] at q6 hg
          cases q6
          simp (disch := first|(simp only [Nat.reduceBEq,wE];done)|((repeat' (first|assumption|exact mAx _|refine mBx ?_ ?_|exact mCx (by assumption)|refine mDx ?_|refine mEx ?_ ?_ ?_|exact mFx|refine mGx ?_ ?_ ?_|exact mHx|exact mIx _|(simp only [wM,Nat.reduceAdd,Nat.reduceLT,Nat.reduceLeDiff];done)));done)|omega|decide) only [e, e4, e5, callT ev, sBin_nilN, ↓wA,wB,wL,resOf,Nat.reduceBEq,Int.reduceBEq,Int.reduceBNe,Int.reduceLT,Int.reduceLE,Int.reduceAdd,Int.reduceSub,Int.reduceMul,Int.reduceToNat]
          refine ⟨_, ?_, i + 1, h6, _, _, _, _, _, _, rfl, ?_, rfl⟩
          · omega
          exact ⟨by omega, g6', hg⟩
        | some c5 =>
          rw [hrc] at q6 hg
          simp (disch := first|(simp only [Nat.reduceBEq,wE];done)|((repeat' (first|assumption|exact mAx _|refine mBx ?_ ?_|exact mCx (by assumption)|refine mDx ?_|refine mEx ?_ ?_ ?_|exact mFx|refine mGx ?_ ?_ ?_|exact mHx|exact mIx _|(simp only [wM,Nat.reduceAdd,Nat.reduceLT,Nat.reduceLeDiff];done)));done)|omega|decide) only [e, e4, e5, callT ev, (q6.1.eql q6.2).2, ↓wA,wB,wL,resOf,Nat.reduceBEq,Int.reduceBEq,Int.reduceBNe,Int.reduceLT,Int.reduceLE,Int.reduceAdd,Int.reduceSub,Int.reduceMul,Int.reduceToNat]
          refine ⟨_, rfl, g6', ?_⟩
          rw [hg]
          exact ⟨q6.1.le (by have := g3.next; omega), q6.2⟩
      · simp (disch := first|(simp only [Nat.reduceBEq,wE];done)|((repeat' (first|assumption|exact mAx _|refine mBx ?_ ?_|exact mCx (by assumption)|refine mDx ?_|refine mEx ?_ ?_ ?_|exact mFx|refine mGx ?_ ?_ ?_|exact mHx|exact mIx _|(simp only [wM,Nat.reduceAdd,Nat.reduceLT,Nat.reduceLeDiff];done)));done)|omega|decide) only [e, ↓wA,wB,wL,resOf,Nat.reduceBEq,Int.reduceBEq,Int.reduceBNe,Int.reduceLT,Int.reduceLE,Int.reduceAdd,Int.reduceSub,Int.reduceMul,Int.reduceToNat]
        refine ⟨_, rfl, g3, ?_⟩
        rw [hg, show m - i = 0 by omega, firstS]
        rfl
    · simp (disch := first|(simp only [Nat.reduceBEq,wE];done)|((repeat' (first|assumption|exact mAx _|refine mBx ?_ ?_|exact mCx (by assumption)|refine mDx ?_|refine mEx ?_ ?_ ?_|exact mFx|refine mGx ?_ ?_ ?_|exact mHx|exact mIx _|(simp only [wM,Nat.reduceAdd,Nat.reduceLT,Nat.reduceLeDiff];done)));done)|omega|decide) only [dm, callT C, decide_eq_false hs, ↓wA,wB,wL,resOf,Nat.reduceBEq,Int.reduceBEq,Int.reduceBNe,Int.reduceLT,Int.reduceLE,Int.reduceAdd,Int.reduceSub,Int.reduceMul,Int.reduceToNat]
      refine ⟨_, rfl, Grown.en, ?_⟩
      rw [rfE, if_neg hs]
      rfl

theorem f42 (m : Nat) (a : AV) (E : List (Int × Int)) (h0 : Hp) (ho : Hok h0) (hm : m ≤ 1000) (ha : Pairs h0.blks a E) (hp : E.length ≤ 1000) :
    ∀ (f : Nat) (zs : List Int) (s : AV) (h : Hp) (d : Nat), zs.length + f = E.length → Grown h0 h → Own d h.blks .i64 s zs → s ≠ .nilsl → d ≤ h.next →
    ∃ v h', Evals Tryd.prog tab false (.func 42) [a, .int .i64 m, s] h (v, h') ∧ Grown h h' ∧ HD d v h'.blks (rfE E m f zs) := by
  intro f
  induction f with
  | zero =>
    intro zs s h d hlen g0 os hne hd
    have hk := g0.ok ho
    have a1 := ha.sub (g0.sub ho)
    refine evals_q c42 (fun v h' => HD d v h'.blks (rfE E m 0 zs)) rfl hk ?_ (fun v h1 g q => ⟨fun hr => q.lk hr (fun id hid => (g.lkB hid).symm), fun _ => q⟩)
    simp only [sf42, initS_cons, initS_nil]
    have e0 : ((zs.length : Int) == (E.length : Int)) = true := by simp; omega
    have C := f49 a s E zs h.en hk a1 os.ints (by omega) hp
    by_cases hs : Prp E zs
    · simp (disch := first|(simp only [Nat.reduceBEq,wE];done)|((repeat' (first|assumption|exact mAx _|refine mBx ?_ ?_|exact mCx (by assumption)|refine mDx ?_|refine mEx ?_ ?_ ?_|exact mFx|refine mGx ?_ ?_ ?_|exact mHx|exact mIx _|(simp only [wM,Nat.reduceAdd,Nat.reduceLT,Nat.reduceLeDiff];done)));done)|omega|decide) only [callT C, decide_eq_true hs, os.len, a1.len, e0, ↓wA,wB,wL,resOf,Nat.reduceBEq,Int.reduceBEq,Int.reduceBNe,Int.reduceLT,Int.reduceLE,Int.reduceAdd,Int.reduceSub,Int.reduceMul,Int.reduceToNat]
      refine ⟨_, rfl, Grown.en, ?_⟩
      rw [rfE, if_pos hs]
      exact ⟨os, hne⟩
    · simp (disch := first|(simp only [Nat.reduceBEq,wE];done)|((repeat' (first|assumption|exact mAx _|refine mBx ?_ ?_|exact mCx (by assumption)|refine mDx ?_|refine mEx ?_ ?_ ?_|exact mFx|refine mGx ?_ ?_ ?_|exact mHx|exact mIx _|(simp only [wM,Nat.reduceAdd,Nat.reduceLT,Nat.reduceLeDiff];done)));done)|omega|decide) only [callT C, decide_eq_false hs, ↓wA,wB,wL,resOf,Nat.reduceBEq,Int.reduceBEq,Int.reduceBNe,Int.reduceLT,Int.reduceLE,Int.reduceAdd,Int.reduceSub,Int.reduceMul,Int.reduceToNat]
      refine ⟨_, rfl, Grown.en, ?_⟩
      rw [rfE, if_neg hs]
      rfl
  | succ f IH =>
    intro zs s h d hlen g0 os hne hd
    have hk := g0.ok ho
    have a1 := ha.sub (g0.sub ho)
    refine evals_q c42 (fun v h' => HD d v h'.blks (rfE E m (f + 1) zs)) rfl hk ?_ (fun v h1 g q => ⟨fun hr => q.lk hr (fun id hid => (g.lkB hid).symm), fun _ => q⟩)
    simp only [sf42, initS_cons, initS_nil]
    have e0 : ((zs.length : Int) == (E.length : Int)) = false := by simp; omega
    have C := f49 a s E zs h.en hk a1 os.ints (by omega) hp
    by_cases hs : Prp E zs
    · simp (disch := first|(simp only [Nat.reduceBEq,wE];done)|((repeat' (first|assumption|exact mAx _|refine mBx ?_ ?_|exact mCx (by assumption)|refine mDx ?_|refine mEx ?_ ?_ ?_|exact mFx|refine mGx ?_ ?_ ?_|exact mHx|exact mIx _|(simp only [wM,Nat.reduceAdd,Nat.reduceLT,Nat.reduceLeDiff];done)));done)|omega|decide) only [callT C, decide_eq_true hs, os.len, a1.len, e0, ↓wA,wB,wL,resOf,Nat.reduceBEq,Int.reduceBEq,Int.reduceBNe,Int.reduceLT,Int.reduceLE,Int.reduceAdd,Int.reduceSub,Int.reduceMul,Int.reduceToNat]
      refine wloop (fun mm ss => ∃ (i : Nat) (h3 : Hp) (u6 u8 u12 u17 u21 u34 : AV), (mm = m - i) ∧ (i ≤ m ∧ Grown h h3 ∧ rfE E m (f + 1) zs = firstS (fun k => rfE E m f (zs ++ [(k : Int)])) (m - i) i) ∧ ss = { fr := [(0, a), (1, .int .i64 m), (2, s), (6, u6), (7, .int .i64 i), (8, u8), (12, u12), (17, u17), (21, u21), (34, u34)], hp := h3 }) (m) ?_ ?_
      ·
        refine ⟨0, h.en, _, _, _, _, _, _, by omega, ⟨by omega, Grown.en, by rw [rfE, if_pos hs]; rfl⟩, rfl⟩
      rintro nA sA ⟨i, h3, u6, u8, u12, u17, u21, u34, hnA, ⟨hi, g3, hg⟩, rfl⟩
      have k3 := g3.ok hk
      simp (disch := first|(simp only [Nat.reduceBEq,wE];done)|((repeat' (first|assumption|exact mAx _|refine mBx ?_ ?_|exact mCx (by assumption)|refine mDx ?_|refine mEx ?_ ?_ ?_|exact mFx|refine mGx ?_ ?_ ?_|exact mHx|exact mIx _|(simp only [wM,Nat.reduceAdd,Nat.reduceLT,Nat.reduceLeDiff];done)));done)|omega|decide) only [↓wA,wB,wL,resOf,Nat.reduceBEq,Int.reduceBEq,Int.reduceBNe,Int.reduceLT,Int.reduceLE,Int.reduceAdd,Int.reduceSub,Int.reduceMul,Int.reduceToNat]
      refine ifThen_intro (fun e => ?_) (fun e => ?_) <;> have eq := e <;> try simp [-List.getD_eq_getElem?_getD] at eq
      · have os3 := os.sub (g3.sub hk)
        have O : Own h3.next (h3.pu []).blks .i64 (.sl h3.next 0 0 (some 0) 1) [] := Own.fresh (Nat.le_refl _) rfl rfl rfl (Nat.le_refl _)
        obtain ⟨s1, h4, e4, o4, g4, _⟩ := own_appI (h0 := h3) (h := h3.pu []) k3 (Grown.pu Grown.refl rfl) O (os3.ints.sub (Sub.pu k3)) (by rw [List.length_nil]; omega)
        rw [List.nil_append] at o4
        obtain ⟨s2, h5, e5, o5, g5, n5⟩ := own_app1 (v := (i : Int)) k3 g4 o4 (by omega)
        obtain ⟨v, h6, ev, g6, q6⟩ := IH (zs ++ [(i : Int)]) s2 h5 h3.next (by rw [List.length_append, List.length_singleton]; omega) (GrownR.trans g0 (GrownR.trans g3 g5)) o5 n5 g5.next
        have g6' : Grown h h6 := GrownR.trans g3 (GrownR.trans g5 g6)
        rw [show m - i = (m - (i + 1)) + 1 by omega, firstS] at hg
        cases hrc : rfE E m f (zs ++ [(i : Int)]) with
        | none =>
          rw [hrc] at q6 hg
          cases q6
          simp (disch := first|(simp only [Nat.reduceBEq,wE];done)|((repeat' (first|assumption|exact mAx _|refine mBx ?_ ?_|exact mCx (by assumption)|refine mDx ?_|refine mEx ?_ ?_ ?_|exact mFx|refine mGx ?_ ?_ ?_|exact mHx|exact mIx _|(simp only [wM,Nat.reduceAdd,Nat.reduceLT,Nat.reduceLeDiff];done)));done)|omega|decide) only [e, e4, e5, callT ev, sBin_nilN, ↓wA,wB,wL,resOf,Nat.reduceBEq,Int.reduceBEq,Int.reduceBNe,Int.reduceLT,Int.reduceLE,Int.reduceAdd,Int.reduceSub,Int.reduceMul,Int.reduceToNat]
          refine ⟨_, ?_, i + 1, h6, _, _, _, _, _, _, rfl, ?_, rfl⟩
          · omega
          exact ⟨by omega, g6', hg⟩
        | some c5 =>
          rw [hrc] at q6 hg
          simp (disch := first|(simp only [Nat.reduceBEq,wE];done)|((repeat' (first|assumption|exact mAx _|refine mBx ?_ ?_|exact mCx (by assumption)|refine mDx ?_|refine mEx ?_ ?_ ?_|exact mFx|refine mGx ?_ ?_ ?_|exact mHx|exact mIx _|(simp only [wM,Nat.reduceAdd,Nat.reduceLT,Nat.reduceLeDiff];done)));done)|omega|decide) only [e, e4, e5, callT ev, (q6.1.eql q6.2).2, ↓wA,wB,wL,resOf,Nat.reduceBEq,Int.reduceBEq,Int.reduceBNe,Int.reduceLT,Int.reduceLE,Int.reduceAdd,Int.reduceSub,Int.reduceMul,Int.reduceToNat]
          refine ⟨_, rfl, g6', ?_⟩
          rw [hg]
          exact ⟨q6.1.le (by have := g3.next; omega), q6.2⟩
      · simp (disch := first|(simp only [Nat.reduceBEq,wE];done)|((repeat' (first|assumption|exact mAx _|refine mBx ?_ ?_|exact mCx (by assumption)|refine mDx ?_|refine mEx ?_ ?_ ?_|exact mFx|refine mGx ?_ ?_ ?_|exact mHx|exact mIx _|(simp only [wM,Nat.reduceAdd,Nat.reduceLT,Nat.reduceLeDiff];done)));done)|omega|decide) only [e, ↓wA,wB,wL,resOf,Nat.reduceBEq,Int.reduceBEq,Int.reduceBNe,Int.reduceLT,Int.reduceLE,Int.reduceAdd,Int.reduceSub,Int.reduceMul,Int.reduceToNat]
        refine ⟨_, rfl, g3, ?_⟩
        rw [hg, show m - i = 0 by omega, firstS]
        rfl
    · simp (disch := first|(simp only [Nat.reduceBEq,wE];done)|((repeat' (first|assumption|exact mAx _|refine mBx ?_ ?_|exact mCx (by assumption)|refine mDx ?_|refine mEx ?_ ?_ ?_|exact mFx|refine mGx ?_ ?_ ?_|exact mHx|exact mIx _|(simp only [wM,Nat.reduceAdd,Nat.reduceLT,Nat.reduceLeDiff];done)));done)|omega|decide) only [callT C, decide_eq_false hs, ↓wA,wB,wL,resOf,Nat.reduceBEq,Int.reduceBEq,Int.reduceBNe,Int.reduceLT,Int.reduceLE,Int.reduceAdd,Int.reduceSub,Int.reduceMul,Int.reduceToNat]
      refine ⟨_, rfl, Grown.en, ?_⟩
      rw [rfE, if_neg hs]
      rfl
end Go.Proofs.YtbomimhfldmlbaaDoor
