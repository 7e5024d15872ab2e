/- The reference: graphs, places, cuts, measures. -/
import Derived.Test.YtihadgkgogfhcaaQA
set_option linter.unusedSimpArgs false
set_option linter.unusedVariables false
set_option maxHeartbeats 4000000
set_option maxRecDepth 20000
namespace Go.Abs
theorem sBin_bN {a b : Bool} : sBin .neq .bool (.bool a) (.bool b) = some (.bool (a != b)) := by cases a <;> cases b <;> rfl
theorem sBin_bE {a b : Bool} : sBin .eql .bool (.bool a) (.bool b) = some (.bool (a == b)) := by cases a <;> cases b <;> rfl
end Go.Abs
namespace Go.Ro
open Go.Abs Go.Pa
def posV (zs : List Int) (i : Nat) (v : Int) : Int := if v ∈ zs.take i then ((zs.take i).idxOf v : Int) else 0
theorem posV_step {zs : List Int} (hd : zs.Nodup) {i : Nat} (hi : i < zs.length) (v : Int) : (if v = zs.getD i 0 then (i : Int) else posV zs i v) = posV zs (i + 1) v := by
  unfold posV
  rw [List.take_succ_eq_append_getElem hi, getD_at hi]
  have hn : zs[i] ∉ zs.take i := fun h => by
    have := hd.sublist (List.take_sublist (i + 1) zs)
    rw [List.take_succ_eq_append_getElem hi, List.nodup_append] at this
    exact absurd rfl (this.2.2 _ h _ (by simp))
  by_cases e : v = zs[i]
  · rw [if_pos e, e, if_pos (List.mem_append.2 (.inr (List.mem_singleton.2 rfl))), List.idxOf_append, if_neg hn]
    simp; omega
  · rw [if_neg e]
    by_cases h : v ∈ zs.take i
    · rw [if_pos h, if_pos (List.mem_append.2 (.inl h)), List.idxOf_append, if_pos h]
    · rw [if_neg h, if_neg fun hm => (List.mem_append.1 hm).elim h fun hm => e (List.mem_singleton.1 hm)]
theorem posV_end {zs : List Int} {v : Int} (h : v ∈ zs) : posV zs zs.length v = pos zs v := by
  unfold posV
  rw [List.take_length, if_pos h]; rfl
theorem EdgeOK.nat {n : Nat} {E : List (Int × Int)} (h : EdgeOK n E) {i : Nat} (hi : i < E.length) : ∃ x y : Nat, E.getD i (0, 0) = ((x : Int), (y : Int)) ∧ x < n ∧ y < n := by
  have hm : E.getD i (0, 0) ∈ E := by simp [List.getD_eq_getElem?_getD, List.getElem?_eq_getElem hi]
  have h1 := h _ hm
  exact ⟨(E.getD i (0, 0)).1.toNat, (E.getD i (0, 0)).2.toNat, Prod.ext (by simp only; omega) (by simp only; omega), by omega, by omega⟩
theorem bad_iff {n : Int} {e : Int × Int} : bad n e = false ↔ (0 ≤ e.1 ∧ e.1 ≤ n - 1) ∧ (0 ≤ e.2 ∧ e.2 ≤ n - 1) ∧ e.1 ≠ e.2 := by
  simp [bad, and_assoc]
end Go.Ro
namespace Go.Proofs.Ytihadgkgogfhcaa
open Go Go.Abs Go.Pa Go.Ro

theorem f18 (n : Int) (a : AV) (E : List (Int × Int)) (h : Hp) (hk : Hok h) (ha : Pairs h.blks a E) (hE : E.length ≤ 100) :
    Evals Try.prog tab false (.func 18) [.int .i64 n, a] h (.int .i64 (errG n E), h) := by
  refine evals_pure c18 rfl hk ?_
  simp only [sf18, initS_cons, initS_nil]
  by_cases e1 : 30 < E.length
  · have e1t : decide ((30 : Int) < E.length) = true := decide_eq_true (by omega)
    simp (disch := first|(simp only [Nat.reduceBEq,wE];done)|((repeat' (first|assumption|exact mAx _|refine mBx ?_ ?_|exact mCx (by assumption)|refine mDx ?_|refine mEx ?_ ?_ ?_|exact mFx|refine mGx ?_ ?_ ?_|exact mHx|exact mIx _|(simp only [wM,Nat.reduceAdd,Nat.reduceLT,Nat.reduceLeDiff];done)));done)|omega|decide) only [ha.len, e1t, ↓wA,wB,wL,resOf,Nat.reduceBEq,Int.reduceBEq,Int.reduceBNe,Int.reduceLT,Int.reduceLE,Int.reduceAdd,Int.reduceSub,Int.reduceMul,Int.reduceToNat]
    refine ⟨_, rfl, ?_, by (repeat' (first|assumption|exact mAx _|refine mBx ?_ ?_|exact mCx (by assumption)|refine mDx ?_|refine mEx ?_ ?_ ?_|exact mFx|refine mGx ?_ ?_ ?_|exact mHx|exact mIx _|(simp only [wM,Nat.reduceAdd,Nat.reduceLT,Nat.reduceLeDiff];done)))⟩
    rw [errG, if_pos e1]
  · have e1t : decide ((30 : Int) < E.length) = false := decide_eq_false (by omega)
    by_cases e2 : 1 ≤ n ∧ n ≤ 8
    · simp (disch := first|(simp only [Nat.reduceBEq,wE];done)|((repeat' (first|assumption|exact mAx _|refine mBx ?_ ?_|exact mCx (by assumption)|refine mDx ?_|refine mEx ?_ ?_ ?_|exact mFx|refine mGx ?_ ?_ ?_|exact mHx|exact mIx _|(simp only [wM,Nat.reduceAdd,Nat.reduceLT,Nat.reduceLeDiff];done)));done)|omega|decide) only [ha.len, e1t, callT (f43 _ _ _ _ _), decide_eq_true e2, ↓wA,wB,wL,resOf,Nat.reduceBEq,Int.reduceBEq,Int.reduceBNe,Int.reduceLT,Int.reduceLE,Int.reduceAdd,Int.reduceSub,Int.reduceMul,Int.reduceToNat]
      refine wloop (fun mm ss => ∃ (i : Nat) (h1 : Hp) (u4 u6 u9 u12 u16 u43 : AV), (mm = E.length - i) ∧ (i ≤ E.length ∧ Grown h h1 ∧ ∀ e ∈ E.take i, bad n e = false) ∧ ss = { fr := [(0, .int .i64 n), (1, a), (4, u4), (5, .int .i64 i), (6, u6), (9, u9), (12, u12), (16, u16), (43, u43)], hp := h1 }) (E.length) ?_ ?_
      ·
        refine ⟨0, h.en, _, _, _, _, _, _, by omega, ⟨by omega, Grown.en, by simp⟩, rfl⟩
      rintro nA sA ⟨i, h1, u4, u6, u9, u12, u16, u43, hnA, ⟨hi, g1, hall⟩, rfl⟩
      have k1 := g1.ok hk
      have a1 := ha.sub (g1.sub hk)
      simp (disch := first|(simp only [Nat.reduceBEq,wE];done)|((repeat' (first|assumption|exact mAx _|refine mBx ?_ ?_|exact mCx (by assumption)|refine mDx ?_|refine mEx ?_ ?_ ?_|exact mFx|refine mGx ?_ ?_ ?_|exact mHx|exact mIx _|(simp only [wM,Nat.reduceAdd,Nat.reduceLT,Nat.reduceLeDiff];done)));done)|omega|decide) only [a1.len, ↓wA,wB,wL,resOf,Nat.reduceBEq,Int.reduceBEq,Int.reduceBNe,Int.reduceLT,Int.reduceLE,Int.reduceAdd,Int.reduceSub,Int.reduceMul,Int.reduceToNat]
      refine ifThen_intro (fun e => ?_) (fun e => ?_) <;> have eq := e <;> try simp [-List.getD_eq_getElem?_getD] at eq
      · have ge : Grown h { next := h1.next + 1, blks := (h1.next, { cells := [AV.int .i64 (E.getD i (0, 0)).1, AV.int .i64 (E.getD i (0, 0)).2], ch := h1.next, wr := true }) :: h1.blks, loops := h1.loops, base := h1.base, esc := h1.esc } := GrownR.push g1 rfl (Nat.le_refl _)
        have next : bad n (E.getD i (0, 0)) = false → ∀ e ∈ E.take (i + 1), bad n e = false := fun hb e he => by
          rw [take_snoc eq, List.mem_append, List.mem_singleton] at he
          rcases he with he | rfl
          · exact hall e he
          · exact hb
        have stop : bad n (E.getD i (0, 0)) = true → (1 : Int) = errG n E := fun hb => by
          have hm : E.getD i (0, 0) ∈ E := by simp [List.getD_eq_getElem?_getD, List.getElem?_eq_getElem eq]
          rw [errG, if_neg e1, if_neg fun H => by
            have := bad_iff.2 (H.2 _ hm)
            rw [hb] at this
            cases this]
        by_cases c1 : 0 ≤ (E.getD i (0, 0)).1 ∧ (E.getD i (0, 0)).1 ≤ n - 1
        · by_cases c2 : 0 ≤ (E.getD i (0, 0)).2 ∧ (E.getD i (0, 0)).2 ≤ n - 1
          · by_cases c3 : (E.getD i (0, 0)).1 = (E.getD i (0, 0)).2
            · have c3t : ((E.getD i (0, 0)).1 == (E.getD i (0, 0)).2) = true := by simpa using c3
              simp (disch := first|(simp only [Nat.reduceBEq,wE];done)|((repeat' (first|assumption|exact mAx _|refine mBx ?_ ?_|exact mCx (by assumption)|refine mDx ?_|refine mEx ?_ ?_ ?_|exact mFx|refine mGx ?_ ?_ ?_|exact mHx|exact mIx _|(simp only [wM,Nat.reduceAdd,Nat.reduceLT,Nat.reduceLeDiff];done)));done)|omega|decide) only [e, a1.ix, a1.lda, callT (f43 _ _ _ _ _), decide_eq_true c1, decide_eq_true c2, c3t, ↓wA,wB,wL,resOf,Nat.reduceBEq,Int.reduceBEq,Int.reduceBNe,Int.reduceLT,Int.reduceLE,Int.reduceAdd,Int.reduceSub,Int.reduceMul,Int.reduceToNat]
              refine ⟨_, rfl, congrArg (AV.int .i64) (stop ?_), ge⟩
              simp only [bad, c3t, Bool.or_true]
            · have c3t : ((E.getD i (0, 0)).1 == (E.getD i (0, 0)).2) = false := by simpa using c3
              simp (disch := first|(simp only [Nat.reduceBEq,wE];done)|((repeat' (first|assumption|exact mAx _|refine mBx ?_ ?_|exact mCx (by assumption)|refine mDx ?_|refine mEx ?_ ?_ ?_|exact mFx|refine mGx ?_ ?_ ?_|exact mHx|exact mIx _|(simp only [wM,Nat.reduceAdd,Nat.reduceLT,Nat.reduceLeDiff];done)));done)|omega|decide) only [e, a1.ix, a1.lda, callT (f43 _ _ _ _ _), decide_eq_true c1, decide_eq_true c2, c3t, ↓wA,wB,wL,resOf,Nat.reduceBEq,Int.reduceBEq,Int.reduceBNe,Int.reduceLT,Int.reduceLE,Int.reduceAdd,Int.reduceSub,Int.reduceMul,Int.reduceToNat]
              refine ⟨_, ?_, i + 1, _, _, _, _, _, _, _, rfl, ?_, rfl⟩
              · omega
              exact ⟨by omega, ge, next (bad_iff.2 ⟨c1, c2, c3⟩)⟩
          · simp (disch := first|(simp only [Nat.reduceBEq,wE];done)|((repeat' (first|assumption|exact mAx _|refine mBx ?_ ?_|exact mCx (by assumption)|refine mDx ?_|refine mEx ?_ ?_ ?_|exact mFx|refine mGx ?_ ?_ ?_|exact mHx|exact mIx _|(simp only [wM,Nat.reduceAdd,Nat.reduceLT,Nat.reduceLeDiff];done)));done)|omega|decide) only [e, a1.ix, a1.lda, callT (f43 _ _ _ _ _), decide_eq_true c1, decide_eq_false c2, ↓wA,wB,wL,resOf,Nat.reduceBEq,Int.reduceBEq,Int.reduceBNe,Int.reduceLT,Int.reduceLE,Int.reduceAdd,Int.reduceSub,Int.reduceMul,Int.reduceToNat]
            refine ⟨_, rfl, congrArg (AV.int .i64) (stop ?_), ge⟩
            simp only [bad, decide_eq_false c2, Bool.not_false, Bool.or_true, Bool.true_or]
        · simp (disch := first|(simp only [Nat.reduceBEq,wE];done)|((repeat' (first|assumption|exact mAx _|refine mBx ?_ ?_|exact mCx (by assumption)|refine mDx ?_|refine mEx ?_ ?_ ?_|exact mFx|refine mGx ?_ ?_ ?_|exact mHx|exact mIx _|(simp only [wM,Nat.reduceAdd,Nat.reduceLT,Nat.reduceLeDiff];done)));done)|omega|decide) only [e, a1.ix, a1.lda, callT (f43 _ _ _ _ _), decide_eq_false c1, ↓wA,wB,wL,resOf,Nat.reduceBEq,Int.reduceBEq,Int.reduceBNe,Int.reduceLT,Int.reduceLE,Int.reduceAdd,Int.reduceSub,Int.reduceMul,Int.reduceToNat]
          refine ⟨_, rfl, congrArg (AV.int .i64) (stop ?_), ge⟩
          simp only [bad, decide_eq_false c1, Bool.not_false, Bool.or_true, Bool.true_or]
      · simp (disch := first|(simp only [Nat.reduceBEq,wE];done)|((repeat' (first|assumption|exact mAx _|refine mBx ?_ ?_|exact mCx (by assumption)|refine mDx ?_|refine mEx ?_ ?_ ?_|exact mFx|refine mGx ?_ ?_ ?_|exact mHx|exact mIx _|(simp only [wM,Nat.reduceAdd,Nat.reduceLT,Nat.reduceLeDiff];done)));done)|omega|decide) only [e, ↓wA,wB,wL,resOf,Nat.reduceBEq,Int.reduceBEq,Int.reduceBNe,Int.reduceLT,Int.reduceLE,Int.reduceAdd,Int.reduceSub,Int.reduceMul,Int.reduceToNat]
        refine ⟨_, rfl, ?_, g1⟩
        rw [errG, if_neg e1, if_pos ⟨e2, fun e he => bad_iff.1 (hall e (by rw [List.take_of_length_le (by omega)]; exact he))⟩]
    · simp (disch := first|(simp only [Nat.reduceBEq,wE];done)|((repeat' (first|assumption|exact mAx _|refine mBx ?_ ?_|exact mCx (by assumption)|refine mDx ?_|refine mEx ?_ ?_ ?_|exact mFx|refine mGx ?_ ?_ ?_|exact mHx|exact mIx _|(simp only [wM,Nat.reduceAdd,Nat.reduceLT,Nat.reduceLeDiff];done)));done)|omega|decide) only [ha.len, e1t, callT (f43 _ _ _ _ _), decide_eq_false e2, ↓wA,wB,wL,resOf,Nat.reduceBEq,Int.reduceBEq,Int.reduceBNe,Int.reduceLT,Int.reduceLE,Int.reduceAdd,Int.reduceSub,Int.reduceMul,Int.reduceToNat]
      refine ⟨_, rfl, ?_, by (repeat' (first|assumption|exact mAx _|refine mBx ?_ ?_|exact mCx (by assumption)|refine mDx ?_|refine mEx ?_ ?_ ?_|exact mFx|refine mGx ?_ ?_ ?_|exact mHx|exact mIx _|(simp only [wM,Nat.reduceAdd,Nat.reduceLT,Nat.reduceLeDiff];done)))⟩
      rw [errG, if_neg e1, if_neg fun h => e2 h.1]

theorem f45 (a : AV) (n : Nat) (zs : List Int) (h : Hp) (hk : Hok h) (ha : Ints h.blks .i64 a zs) (hn : n ≤ 8) (hp : PermI n zs) :
    ∃ v h', Evals Try.prog tab false (.func 45) [a] h (v, h') ∧ Grown h h' ∧ Own h.next h'.blks .i64 v (tabF n fun v : Nat => pos zs v) := by
  refine evals_q c45 (fun v h' => Own h.next h'.blks .i64 v (tabF n fun v : Nat => pos zs v)) rfl hk ?_ (fun v h1 g q => q.leave)
  simp only [sf45, initS_cons, initS_nil]
  have hl := PermI.len hp
  have mk := sMks_ok (h := h.en) (z := [.int .i64 0]) (n := 1) (l := n) (c := n) (Nat.le_refl _) (by omega)
  rw [repl_ints] at mk
  have O : Own h.next (h.en.pu (ints .i64 (List.replicate n 0))).blks .i64 (.sl h.next 0 n (some n) 1) (tabF n fun v : Nat => posV zs 0 v) := by
    have : (tabF n fun v : Nat => posV zs 0 v) = List.replicate n 0 := by
      refine List.ext_getElem (by simp [tabF]) fun i h1 h2 => ?_
      simp [tabF, posV]
    rw [this]
    exact Own.fresh (Nat.le_refl _) (by simp) (by rw [List.take_of_length_le (by simp [ints])]) (by simp [ints]) (Nat.le_refl _)
  have g1 : Grown h (h.en.pu (ints .i64 (List.replicate n 0))) := Grown.pu Grown.en refsOK_ints
  have la := ha.len
  rw [hl] at la
  simp (disch := first|(simp only [Nat.reduceBEq,wE];done)|((repeat' (first|assumption|exact mAx _|refine mBx ?_ ?_|exact mCx (by assumption)|refine mDx ?_|refine mEx ?_ ?_ ?_|exact mFx|refine mGx ?_ ?_ ?_|exact mHx|exact mIx _|(simp only [wM,Nat.reduceAdd,Nat.reduceLT,Nat.reduceLeDiff];done)));done)|omega|decide) only [la, mk, ↓wA,wB,wL,resOf,Nat.reduceBEq,Int.reduceBEq,Int.reduceBNe,Int.reduceLT,Int.reduceLE,Int.reduceAdd,Int.reduceSub,Int.reduceMul,Int.reduceToNat]
  refine wloop (fun mm ss => ∃ (i : Nat) (h1 : Hp) (u2 u11 : AV), (mm = n - i) ∧ (i ≤ n ∧ Grown h h1 ∧ Own h.next h1.blks .i64 (.sl h.next 0 n (some n) 1) (tabF n fun v : Nat => posV zs i v)) ∧ ss = { fr := [(0, a), (2, u2), (3, .sl h.next 0 n (some n) 1), (4, .int .i64 i), (11, u11)], hp := h1 }) (n) ?_ ?_
  ·
    refine ⟨0, _, _, _, by omega, ⟨by omega, g1, O⟩, rfl⟩
  rintro nA sA ⟨i, h1, u2, u11, hnA, ⟨hi, g2, o2⟩, rfl⟩
  have k2 := g2.ok hk
  have a2 := ha.sub (g2.sub hk)
  simp (disch := first|(simp only [Nat.reduceBEq,wE];done)|((repeat' (first|assumption|exact mAx _|refine mBx ?_ ?_|exact mCx (by assumption)|refine mDx ?_|refine mEx ?_ ?_ ?_|exact mFx|refine mGx ?_ ?_ ?_|exact mHx|exact mIx _|(simp only [wM,Nat.reduceAdd,Nat.reduceLT,Nat.reduceLeDiff];done)));done)|omega|decide) only [la, ↓wA,wB,wL,resOf,Nat.reduceBEq,Int.reduceBEq,Int.reduceBNe,Int.reduceLT,Int.reduceLE,Int.reduceAdd,Int.reduceSub,Int.reduceMul,Int.reduceToNat]
  refine ifThen_intro (fun e => ?_) (fun e => ?_) <;> have eq := e <;> try simp [-List.getD_eq_getElem?_getD] at eq
  · have hz1 : 0 ≤ zs.getD i 0 ∧ zs.getD i 0 < n := by rw [getD_at (by omega)]; exact hp.2.1 _ (List.getElem_mem _)
    obtain ⟨z, ez⟩ : ∃ z : Nat, zs.getD i 0 = z := ⟨(zs.getD i 0).toNat, by omega⟩
    have z8 : z < n := by omega
    have ixa := fun h' : Hp => a2.ix h' (i := i) (by omega)
    have lda := a2.ld (Sub.refl _) (i := i) (by omega)
    have ixo := fun h' : Hp => o2.ints.ix h' (i := z) (by rw [tabF_len]; exact z8)
    obtain ⟨h3, es, o3, g3⟩ := own_setI (v := (i : Int)) (i := z) hk g2 o2 (by rw [tabF_len]; exact z8)
    have eqc : (tabF n fun v : Nat => posV zs i v).set z i = tabF n fun v : Nat => posV zs (i + 1) v := by
      rw [tabF_set z8]
      refine tabF_congr fun j _ => ?_
      rw [← posV_step hp.2.2 (by omega), ez]
      by_cases ej : j = z
      · rw [if_pos ej, if_pos (by omega)]
      · rw [if_neg ej, if_neg (by omega)]
    rw [eqc] at o3
    simp (disch := first|(simp only [Nat.reduceBEq,wE];done)|((repeat' (first|assumption|exact mAx _|refine mBx ?_ ?_|exact mCx (by assumption)|refine mDx ?_|refine mEx ?_ ?_ ?_|exact mFx|refine mGx ?_ ?_ ?_|exact mHx|exact mIx _|(simp only [wM,Nat.reduceAdd,Nat.reduceLT,Nat.reduceLeDiff];done)));done)|omega|decide) only [e, ixa, lda, ez, ixo, es, ↓wA,wB,wL,resOf,Nat.reduceBEq,Int.reduceBEq,Int.reduceBNe,Int.reduceLT,Int.reduceLE,Int.reduceAdd,Int.reduceSub,Int.reduceMul,Int.reduceToNat]
    refine ⟨_, ?_, i + 1, h3, _, _, rfl, ?_, rfl⟩
    · omega
    exact ⟨by omega, g3, o3⟩
  · simp (disch := first|(simp only [Nat.reduceBEq,wE];done)|((repeat' (first|assumption|exact mAx _|refine mBx ?_ ?_|exact mCx (by assumption)|refine mDx ?_|refine mEx ?_ ?_ ?_|exact mFx|refine mGx ?_ ?_ ?_|exact mHx|exact mIx _|(simp only [wM,Nat.reduceAdd,Nat.reduceLT,Nat.reduceLeDiff];done)));done)|omega|decide) only [e, ↓wA,wB,wL,resOf,Nat.reduceBEq,Int.reduceBEq,Int.reduceBNe,Int.reduceLT,Int.reduceLE,Int.reduceAdd,Int.reduceSub,Int.reduceMul,Int.reduceToNat]
    refine ⟨_, rfl, g2, ?_⟩
    have eqc : (tabF n fun v : Nat => posV zs i v) = tabF n fun v : Nat => pos zs v := tabF_congr fun j hj => by
      rw [show i = zs.length by omega, posV_end (perm_mem hp (by omega) (by omega))]
    rw [← eqc]
    exact o2

theorem f23 (a b : AV) (n : Nat) (E : List (Int × Int)) (zs : List Int) (h : Hp) (hk : Hok h) (ha : Pairs h.blks a E) (hb : Ints h.blks .i64 b zs) (hn : n ≤ 8) (h0 : 0 < n) (hE : E.length ≤ 100) (hO : EdgeOK n E) (hp : PermI n zs) :
    ∃ v h', Evals Try.prog tab false (.func 23) [a, b] h (v, h') ∧ Grown h h' ∧ Own h.next h'.blks .i64 v (cutsU (pos zs) E (n - 1)) := by
  refine evals_q c23 (fun v h' => Own h.next h'.blks .i64 v (cutsU (pos zs) E (n - 1))) rfl hk ?_ (fun v h1 g q => q.leave)
  simp only [sf23, initS_cons, initS_nil]
  have hl := PermI.len hp
  obtain ⟨t, h2, et, g2, ot⟩ := f45 b n zs h.en hk hb hn hp
  have k2 : Hok h2 := g2.ok hk
  have gh2 : Grown h h2 := GrownR.of_en g2
  have O : Own h2.next (h2.pu []).blks .i64 (.sl h2.next 0 0 (some 0) 1) (cutsU (pos zs) E 0) := Own.fresh (Nat.le_refl _) rfl rfl rfl (Nat.le_refl _)
  have lb := hb.len
  rw [hl] at lb
  simp (disch := first|(simp only [Nat.reduceBEq,wE];done)|((repeat' (first|assumption|exact mAx _|refine mBx ?_ ?_|exact mCx (by assumption)|refine mDx ?_|refine mEx ?_ ?_ ?_|exact mFx|refine mGx ?_ ?_ ?_|exact mHx|exact mIx _|(simp only [wM,Nat.reduceAdd,Nat.reduceLT,Nat.reduceLeDiff];done)));done)|omega|decide) only [callT et, ↓wA,wB,wL,resOf,Nat.reduceBEq,Int.reduceBEq,Int.reduceBNe,Int.reduceLT,Int.reduceLE,Int.reduceAdd,Int.reduceSub,Int.reduceMul,Int.reduceToNat]
  refine wloop (fun mm ss => ∃ (i : Nat) (q : AV) (h1 : Hp) (u4 u8 u9 u17 u23 u46 : AV), (mm = n - i) ∧ (i + 1 ≤ n ∧ Grown h2 h1 ∧ Own h2.next h1.blks .i64 q (cutsU (pos zs) E i)) ∧ ss = { fr := [(0, a), (1, b), (4, u4), (5, t), (6, q), (7, .int .i64 i), (8, u8), (9, u9), (17, u17), (23, u23), (46, u46)], hp := h1 }) (n) ?_ ?_
  ·
    refine ⟨0, _, _, _, _, _, _, _, _, by omega, ⟨by omega, Grown.pu Grown.refl rfl, O⟩, rfl⟩
  rintro nA sA ⟨i, q, h1, u4, u8, u9, u17, u23, u46, hnA, ⟨hi, g3, o3⟩, rfl⟩
  have g4 := GrownR.trans gh2 g3
  have k3 := g3.ok k2
  have a3 := ha.sub (g4.sub hk)
  have t3 := (ot.sub (g3.sub k2)).ints
  by_cases e : i + 1 < n
  · have et : decide ((i : Int) + 1 < (n : Int)) = true := decide_eq_true (by omega)
    simp (disch := first|(simp only [Nat.reduceBEq,wE];done)|((repeat' (first|assumption|exact mAx _|refine mBx ?_ ?_|exact mCx (by assumption)|refine mDx ?_|refine mEx ?_ ?_ ?_|exact mFx|refine mGx ?_ ?_ ?_|exact mHx|exact mIx _|(simp only [wM,Nat.reduceAdd,Nat.reduceLT,Nat.reduceLeDiff];done)));done)|omega|decide) only [lb, et, ↓wA,wB,wL,resOf,Nat.reduceBEq,Int.reduceBEq,Int.reduceBNe,Int.reduceLT,Int.reduceLE,Int.reduceAdd,Int.reduceSub,Int.reduceMul,Int.reduceToNat]
    refine wloop (fun mm ss => ∃ (j : Nat) (u4 u17 u23 u46 : AV), (mm = E.length - j) ∧ (j ≤ E.length) ∧ ss = { fr := [(0, a), (1, b), (4, u4), (5, t), (6, q), (7, .int .i64 i), (8, .int .i64 (cut (pos zs) i (E.take j))), (9, .int .i64 j), (17, u17), (23, u23), (46, u46)], hp := h1 }) (E.length) ?_ ?_
    ·
      refine ⟨0, _, _, _, _, by omega, (by omega : (0 : Nat) ≤ E.length), rfl⟩
    rintro nB sB ⟨j, u4, u17, u23, u46, hnB, hj, rfl⟩
    simp (disch := first|(simp only [Nat.reduceBEq,wE];done)|((repeat' (first|assumption|exact mAx _|refine mBx ?_ ?_|exact mCx (by assumption)|refine mDx ?_|refine mEx ?_ ?_ ?_|exact mFx|refine mGx ?_ ?_ ?_|exact mHx|exact mIx _|(simp only [wM,Nat.reduceAdd,Nat.reduceLT,Nat.reduceLeDiff];done)));done)|omega|decide) only [a3.len, ↓wA,wB,wL,resOf,Nat.reduceBEq,Int.reduceBEq,Int.reduceBNe,Int.reduceLT,Int.reduceLE,Int.reduceAdd,Int.reduceSub,Int.reduceMul,Int.reduceToNat]
    refine ifThen_intro (fun e2 => ?_) (fun e2 => ?_) <;> have e2q := e2 <;> try simp [-List.getD_eq_getElem?_getD] at e2q
    · obtain ⟨x, y, exy, hx, hy⟩ := hO.nat e2q
      have e1 : (E.getD j (0, 0)).1 = (x : Int) := by rw [exy]
      have e2' : (E.getD j (0, 0)).2 = (y : Int) := by rw [exy]
      have bs := cut_snoc (p := pos zs) (q := (i : Int)) e2q
      rw [exy] at bs
      have cb := cut_bd (p := pos zs) (q := (i : Int)) hE j
      have ixx := fun h' : Hp => t3.ix h' (i := x) (by rw [tabF_len]; exact hx)
      have ixy := fun h' : Hp => t3.ix h' (i := y) (by rw [tabF_len]; exact hy)
      have ldx : cellV h1.blks t x 0 = some (.int .i64 (pos zs x)) := by rw [t3.ld (Sub.refl _) (by rw [tabF_len]; exact hx), tabF_at hx]
      have ldy : cellV h1.blks t y 0 = some (.int .i64 (pos zs y)) := by rw [t3.ld (Sub.refl _) (by rw [tabF_len]; exact hy), tabF_at hy]
      by_cases cx : pos zs x ≤ (i : Int)
      · by_cases cy : pos zs y ≤ (i : Int)
        · rw [if_neg (by simp only [Ro.lo, Ro.hi]; omega), Int.add_zero] at bs
          have bb : (true != true) = false := rfl
          simp (disch := first|(simp only [Nat.reduceBEq,wE];done)|((repeat' (first|assumption|exact mAx _|refine mBx ?_ ?_|exact mCx (by assumption)|refine mDx ?_|refine mEx ?_ ?_ ?_|exact mFx|refine mGx ?_ ?_ ?_|exact mHx|exact mIx _|(simp only [wM,Nat.reduceAdd,Nat.reduceLT,Nat.reduceLeDiff];done)));done)|omega|decide) only [e2, a3.ix, a3.fa, a3.ld0, a3.ld1, e1, e2', ixx, ixy, ldx, ldy, decide_eq_true cx, decide_eq_true cy, sBin_bN, bb, ↓wA,wB,wL,resOf,Nat.reduceBEq,Int.reduceBEq,Int.reduceBNe,Int.reduceLT,Int.reduceLE,Int.reduceAdd,Int.reduceSub,Int.reduceMul,Int.reduceToNat]
          rw [← bs]
          refine ⟨_, ?_, j + 1, _, _, _, _, rfl, ?_, rfl⟩
          · omega
          omega
        · rw [if_pos (by simp only [Ro.lo, Ro.hi]; omega)] at bs
          have bb : (true != false) = true := rfl
          simp (disch := first|(simp only [Nat.reduceBEq,wE];done)|((repeat' (first|assumption|exact mAx _|refine mBx ?_ ?_|exact mCx (by assumption)|refine mDx ?_|refine mEx ?_ ?_ ?_|exact mFx|refine mGx ?_ ?_ ?_|exact mHx|exact mIx _|(simp only [wM,Nat.reduceAdd,Nat.reduceLT,Nat.reduceLeDiff];done)));done)|omega|decide) only [e2, a3.ix, a3.fa, a3.ld0, a3.ld1, e1, e2', ixx, ixy, ldx, ldy, decide_eq_true cx, decide_eq_false cy, sBin_bN, bb, ↓wA,wB,wL,resOf,Nat.reduceBEq,Int.reduceBEq,Int.reduceBNe,Int.reduceLT,Int.reduceLE,Int.reduceAdd,Int.reduceSub,Int.reduceMul,Int.reduceToNat]
          rw [← bs]
          refine ⟨_, ?_, j + 1, _, _, _, _, rfl, ?_, rfl⟩
          · omega
          omega
      · by_cases cy : pos zs y ≤ (i : Int)
        · rw [if_pos (by simp only [Ro.lo, Ro.hi]; omega)] at bs
          have bb : (false != true) = true := rfl
          simp (disch := first|(simp only [Nat.reduceBEq,wE];done)|((repeat' (first|assumption|exact mAx _|refine mBx ?_ ?_|exact mCx (by assumption)|refine mDx ?_|refine mEx ?_ ?_ ?_|exact mFx|refine mGx ?_ ?_ ?_|exact mHx|exact mIx _|(simp only [wM,Nat.reduceAdd,Nat.reduceLT,Nat.reduceLeDiff];done)));done)|omega|decide) only [e2, a3.ix, a3.fa, a3.ld0, a3.ld1, e1, e2', ixx, ixy, ldx, ldy, decide_eq_false cx, decide_eq_true cy, sBin_bN, bb, ↓wA,wB,wL,resOf,Nat.reduceBEq,Int.reduceBEq,Int.reduceBNe,Int.reduceLT,Int.reduceLE,Int.reduceAdd,Int.reduceSub,Int.reduceMul,Int.reduceToNat]
          rw [← bs]
          refine ⟨_, ?_, j + 1, _, _, _, _, rfl, ?_, rfl⟩
          · omega
          omega
        · rw [if_neg (by simp only [Ro.lo, Ro.hi]; omega), Int.add_zero] at bs
          have bb : (false != false) = false := rfl
          simp (disch := first|(simp only [Nat.reduceBEq,wE];done)|((repeat' (first|assumption|exact mAx _|refine mBx ?_ ?_|exact mCx (by assumption)|refine mDx ?_|refine mEx ?_ ?_ ?_|exact mFx|refine mGx ?_ ?_ ?_|exact mHx|exact mIx _|(simp only [wM,Nat.reduceAdd,Nat.reduceLT,Nat.reduceLeDiff];done)));done)|omega|decide) only [e2, a3.ix, a3.fa, a3.ld0, a3.ld1, e1, e2', ixx, ixy, ldx, ldy, decide_eq_false cx, decide_eq_false cy, sBin_bN, bb, ↓wA,wB,wL,resOf,Nat.reduceBEq,Int.reduceBEq,Int.reduceBNe,Int.reduceLT,Int.reduceLE,Int.reduceAdd,Int.reduceSub,Int.reduceMul,Int.reduceToNat]
          rw [← bs]
          refine ⟨_, ?_, j + 1, _, _, _, _, rfl, ?_, rfl⟩
          · omega
          omega
    · obtain ⟨s2, h4, y1, y2, y3, y4⟩ := own_app1 (v := cut (pos zs) i (E.take j)) k2 g3 o3 (by rw [cutsU_len]; omega)
      simp (disch := first|(simp only [Nat.reduceBEq,wE];done)|((repeat' (first|assumption|exact mAx _|refine mBx ?_ ?_|exact mCx (by assumption)|refine mDx ?_|refine mEx ?_ ?_ ?_|exact mFx|refine mGx ?_ ?_ ?_|exact mHx|exact mIx _|(simp only [wM,Nat.reduceAdd,Nat.reduceLT,Nat.reduceLeDiff];done)));done)|omega|decide) only [e2, y1, ↓wA,wB,wL,resOf,Nat.reduceBEq,Int.reduceBEq,Int.reduceBNe,Int.reduceLT,Int.reduceLE,Int.reduceAdd,Int.reduceSub,Int.reduceMul,Int.reduceToNat]
      refine ⟨_, ?_, i + 1, s2, h4, _, _, _, _, _, _, rfl, ?_, rfl⟩
      · omega
      refine ⟨by omega, y3, ?_⟩
      rw [cutsU_succ]
      rw [List.take_of_length_le (by omega)] at y2
      exact y2
  · have et : decide ((i : Int) + 1 < (n : Int)) = false := decide_eq_false (by omega)
    simp (disch := first|(simp only [Nat.reduceBEq,wE];done)|((repeat' (first|assumption|exact mAx _|refine mBx ?_ ?_|exact mCx (by assumption)|refine mDx ?_|refine mEx ?_ ?_ ?_|exact mFx|refine mGx ?_ ?_ ?_|exact mHx|exact mIx _|(simp only [wM,Nat.reduceAdd,Nat.reduceLT,Nat.reduceLeDiff];done)));done)|omega|decide) only [lb, et, ↓wA,wB,wL,resOf,Nat.reduceBEq,Int.reduceBEq,Int.reduceBNe,Int.reduceLT,Int.reduceLE,Int.reduceAdd,Int.reduceSub,Int.reduceMul,Int.reduceToNat]
    refine ⟨_, rfl, g4, ?_⟩
    rw [show n - 1 = i by omega]
    exact o3.le gh2.next

theorem f21 (a b : AV) (n : Nat) (E : List (Int × Int)) (zs : List Int) (h : Hp) (hk : Hok h) (ha : Pairs h.blks a E) (hb : Ints h.blks .i64 b zs) (hn : n ≤ 8) (h0 : 0 < n) (hE : E.length ≤ 100) (hO : EdgeOK n E) (hp : PermI n zs) :
    Evals Try.prog tab false (.func 21) [a, b] h (.tu [.int .i64 (cBand E zs), .int .i64 (cCut E zs), .int .i64 (cSum E zs)], h) := by
  refine evals_pure c21 rfl hk ?_ rfl
  simp only [sf21, initS_cons, initS_nil]
  obtain ⟨t, h2, et, g2, ot⟩ := f45 b n zs h.en hk hb hn hp
  have k2 : Hok h2 := g2.ok hk
  have gh2 : Grown h h2 := GrownR.of_en g2
  obtain ⟨w, h3, ew, g3, ow⟩ := f23 a b n E zs h2 k2 (ha.sub (gh2.sub hk)) (hb.sub (gh2.sub hk)) hn h0 hE hO hp
  have gh3 := GrownR.trans gh2 g3
  have k3 := g3.ok k2
  have a3 := ha.sub (gh3.sub hk)
  have t3 := (ot.sub (g3.sub k2)).ints
  have w3 := ow.ints
  have p8 : Pos8 (pos zs) := pos8 (by rw [PermI.len hp]; exact hn)
  simp (disch := first|(simp only [Nat.reduceBEq,wE];done)|((repeat' (first|assumption|exact mAx _|refine mBx ?_ ?_|exact mCx (by assumption)|refine mDx ?_|refine mEx ?_ ?_ ?_|exact mFx|refine mGx ?_ ?_ ?_|exact mHx|exact mIx _|(simp only [wM,Nat.reduceAdd,Nat.reduceLT,Nat.reduceLeDiff];done)));done)|omega|decide) only [callT et, callT ew, ↓wA,wB,wL,resOf,Nat.reduceBEq,Int.reduceBEq,Int.reduceBNe,Int.reduceLT,Int.reduceLE,Int.reduceAdd,Int.reduceSub,Int.reduceMul,Int.reduceToNat]
  refine wloop (fun mm ss => ∃ (j : Nat) (u4 u5 u6 u13 u14 u23 u70 : AV), (mm = E.length - j) ∧ (j ≤ E.length) ∧ ss = { fr := [(0, a), (1, b), (4, u4), (5, u5), (6, u6), (7, t), (8, w), (9, .int .i64 (band (pos zs) (E.take j))), (10, .int .i64 0), (11, .int .i64 (total (pos zs) (E.take j))), (12, .int .i64 j), (13, u13), (14, u14), (23, u23), (70, u70)], hp := h3 }) (E.length) ?_ ?_
  ·
    refine ⟨0, _, _, _, _, _, _, _, by omega, (by omega : (0 : Nat) ≤ E.length), rfl⟩
  rintro nA sA ⟨j, u4, u5, u6, u13, u14, u23, u70, hnA, hj, rfl⟩
  simp (disch := first|(simp only [Nat.reduceBEq,wE];done)|((repeat' (first|assumption|exact mAx _|refine mBx ?_ ?_|exact mCx (by assumption)|refine mDx ?_|refine mEx ?_ ?_ ?_|exact mFx|refine mGx ?_ ?_ ?_|exact mHx|exact mIx _|(simp only [wM,Nat.reduceAdd,Nat.reduceLT,Nat.reduceLeDiff];done)));done)|omega|decide) only [a3.len, ↓wA,wB,wL,resOf,Nat.reduceBEq,Int.reduceBEq,Int.reduceBNe,Int.reduceLT,Int.reduceLE,Int.reduceAdd,Int.reduceSub,Int.reduceMul,Int.reduceToNat]
  refine ifThen_intro (fun e2 => ?_) (fun e2 => ?_) <;> have e2q := e2 <;> try simp [-List.getD_eq_getElem?_getD] at e2q
  · obtain ⟨x, y, exy, hx, hy⟩ := hO.nat e2q
    have e1 : (E.getD j (0, 0)).1 = (x : Int) := by rw [exy]
    have e2' : (E.getD j (0, 0)).2 = (y : Int) := by rw [exy]
    have b1 := band_snoc (p := pos zs) e2q
    have b2 := total_snoc (p := pos zs) e2q
    rw [exy] at b1 b2
    have ixx := fun h' : Hp => t3.ix h' (i := x) (by rw [tabF_len]; exact hx)
    have ixy := fun h' : Hp => t3.ix h' (i := y) (by rw [tabF_len]; exact hy)
    have ldx : cellV h3.blks t x 0 = some (.int .i64 (pos zs x)) := by rw [t3.ld (Sub.refl _) (by rw [tabF_len]; exact hx), tabF_at hx]
    have ldy : cellV h3.blks t y 0 = some (.int .i64 (pos zs y)) := by rw [t3.ld (Sub.refl _) (by rw [tabF_len]; exact hy), tabF_at hy]
    have px := p8 x
    have py := p8 y
    have ml : max (pos zs x - pos zs y) (pos zs y - pos zs x) = len (pos zs) ((x : Int), (y : Int)) := by simp only [len, Ro.lo, Ro.hi]; omega
    have lb := len_le8 p8 ((x : Int), (y : Int))
    have ln := len_nonneg (p := pos zs) (e := ((x : Int), (y : Int)))
    have tb := total_le8 p8 (E := E.take j)
    have tl := List.length_take_le j E
    simp (disch := first|(simp only [Nat.reduceBEq,wE];done)|((repeat' (first|assumption|exact mAx _|refine mBx ?_ ?_|exact mCx (by assumption)|refine mDx ?_|refine mEx ?_ ?_ ?_|exact mFx|refine mGx ?_ ?_ ?_|exact mHx|exact mIx _|(simp only [wM,Nat.reduceAdd,Nat.reduceLT,Nat.reduceLeDiff];done)));done)|omega|decide) only [e2, a3.ix, a3.fa, a3.ld0, a3.ld1, e1, e2', ixx, ixy, ldx, ldy, ml, ↓wA,wB,wL,resOf,Nat.reduceBEq,Int.reduceBEq,Int.reduceBNe,Int.reduceLT,Int.reduceLE,Int.reduceAdd,Int.reduceSub,Int.reduceMul,Int.reduceToNat]
    rw [← b1, ← b2]
    refine ⟨_, ?_, j + 1, _, _, _, _, _, _, _, rfl, ?_, rfl⟩
    · omega
    omega
  · rw [List.take_of_length_le (by omega)]
    simp (disch := first|(simp only [Nat.reduceBEq,wE];done)|((repeat' (first|assumption|exact mAx _|refine mBx ?_ ?_|exact mCx (by assumption)|refine mDx ?_|refine mEx ?_ ?_ ?_|exact mFx|refine mGx ?_ ?_ ?_|exact mHx|exact mIx _|(simp only [wM,Nat.reduceAdd,Nat.reduceLT,Nat.reduceLeDiff];done)));done)|omega|decide) only [e2, ↓wA,wB,wL,resOf,Nat.reduceBEq,Int.reduceBEq,Int.reduceBNe,Int.reduceLT,Int.reduceLE,Int.reduceAdd,Int.reduceSub,Int.reduceMul,Int.reduceToNat]
    have lw := w3.len
    rw [cutsU_len] at lw
    refine wloop (fun mm ss => ∃ (i : Nat) (u4 u5 u6 u12 u13 u23 u70 : AV), (mm = n - i) ∧ (i + 1 ≤ n) ∧ ss = { fr := [(0, a), (1, b), (4, u4), (5, u5), (6, u6), (7, t), (8, w), (9, .int .i64 (band (pos zs) E)), (10, .int .i64 (mxL ((cutsU (pos zs) E (n - 1)).take i))), (11, .int .i64 (total (pos zs) E)), (12, u12), (13, u13), (14, .int .i64 i), (23, u23), (70, u70)], hp := h3 }) (n) ?_ ?_
    ·
      refine ⟨0, _, _, _, _, _, _, _, by omega, (by omega : (0 : Nat) + 1 ≤ n), rfl⟩
    rintro nB sB ⟨i, u4, u5, u6, u12, u13, u23, u70, hnB, hi, rfl⟩
    by_cases e3 : i + 1 < n
    · have et : decide ((i : Int) < ((n - 1 : Nat) : Int)) = true := decide_eq_true (by omega)
      have hi' : i < (cutsU (pos zs) E (n - 1)).length := by rw [cutsU_len]; omega
      have ms := mxL_snoc hi' fun z hz => by
        obtain ⟨q, _, rfl⟩ := List.mem_map.1 hz
        exact cut_nonneg
      have ix := fun h' : Hp => w3.ix h' hi'
      have ld := w3.ld (Sub.refl _) hi'
      simp (disch := first|(simp only [Nat.reduceBEq,wE];done)|((repeat' (first|assumption|exact mAx _|refine mBx ?_ ?_|exact mCx (by assumption)|refine mDx ?_|refine mEx ?_ ?_ ?_|exact mFx|refine mGx ?_ ?_ ?_|exact mHx|exact mIx _|(simp only [wM,Nat.reduceAdd,Nat.reduceLT,Nat.reduceLeDiff];done)));done)|omega|decide) only [e2, lw, et, ix, ld, ↓wA,wB,wL,resOf,Nat.reduceBEq,Int.reduceBEq,Int.reduceBNe,Int.reduceLT,Int.reduceLE,Int.reduceAdd,Int.reduceSub,Int.reduceMul,Int.reduceToNat]
      rw [← ms]
      refine ⟨_, ?_, i + 1, _, _, _, _, _, _, _, rfl, ?_, rfl⟩
      · omega
      omega
    · have et : decide ((i : Int) < ((n - 1 : Nat) : Int)) = false := decide_eq_false (by omega)
      simp (disch := first|(simp only [Nat.reduceBEq,wE];done)|((repeat' (first|assumption|exact mAx _|refine mBx ?_ ?_|exact mCx (by assumption)|refine mDx ?_|refine mEx ?_ ?_ ?_|exact mFx|refine mGx ?_ ?_ ?_|exact mHx|exact mIx _|(simp only [wM,Nat.reduceAdd,Nat.reduceLT,Nat.reduceLeDiff];done)));done)|omega|decide) only [e2, lw, et, ↓wA,wB,wL,resOf,Nat.reduceBEq,Int.reduceBEq,Int.reduceBNe,Int.reduceLT,Int.reduceLE,Int.reduceAdd,Int.reduceSub,Int.reduceMul,Int.reduceToNat]
      refine ⟨_, rfl, ?_, gh3⟩
      rw [List.take_of_length_le (by rw [cutsU_len]; omega), ← width_perm hp hO hn]
      rfl
end Go.Proofs.Ytihadgkgogfhcaa
