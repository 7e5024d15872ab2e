/- Best's order by the beginnings is one order; First Fit as the reference says it. -/
import Derived.Test.YtgpdimkgfhgffaaS24
import Derived.Test.YtgpdimkgfhgffaaS27
set_option linter.unusedSimpArgs false
set_option linter.unusedVariables false
set_option maxHeartbeats 4000000
set_option maxRecDepth 20000

namespace Go.Sh

/-- The indices of those among the first ones that begin at a place, in their order. -/
def rowU (l : List Span) (t : Int) : Nat → List Int
  | 0 => []
  | i + 1 => if (sg l i).1 = t then rowU l t i ++ [(i : Int)] else rowU l t i
def ordB (l : List Span) : Nat → List Int
  | 0 => []
  | t + 1 => ordB l t ++ rowU l (t : Int) l.length
theorem mem_rowU {l : List Span} {t x : Int} : ∀ {n : Nat}, x ∈ rowU l t n ↔ ∃ j : Nat, x = j ∧ j < n ∧ (sg l j).1 = t
  | 0 => by simp [rowU]
  | n + 1 => by
    rw [rowU]
    by_cases e : (sg l n).1 = t
    · rw [if_pos e, List.mem_append, mem_rowU, List.mem_singleton]
      constructor
      · rintro (⟨j, h1, h2, h3⟩ | rfl)
        · exact ⟨j, h1, by omega, h3⟩
        · exact ⟨n, rfl, by omega, e⟩
      · rintro ⟨j, h1, h2, h3⟩
        by_cases ej : j = n
        · exact .inr (by rw [h1, ej])
        · exact .inl ⟨j, h1, by omega, h3⟩
    · rw [if_neg e, mem_rowU]
      constructor
      · rintro ⟨j, h1, h2, h3⟩
        exact ⟨j, h1, by omega, h3⟩
      · rintro ⟨j, h1, h2, h3⟩
        refine ⟨j, h1, ?_, h3⟩
        rcases Nat.lt_or_ge j n with hh | hh
        · exact hh
        · have : j = n := by omega
          subst this
          exact absurd h3 e
theorem mem_ordB {l : List Span} {x : Int} : ∀ {t : Nat}, x ∈ ordB l t ↔ ∃ j : Nat, x = j ∧ j < l.length ∧ 0 ≤ (sg l j).1 ∧ (sg l j).1 < t
  | 0 => by
    simp only [ordB, List.not_mem_nil, false_iff]
    rintro ⟨j, _, _, h3, h4⟩
    omega
  | t + 1 => by
    rw [ordB, List.mem_append, mem_ordB, mem_rowU]
    constructor
    · rintro (⟨j, h1, h2, h3, h4⟩ | ⟨j, h1, h2, h3⟩)
      · exact ⟨j, h1, h2, h3, by omega⟩
      · exact ⟨j, h1, h2, by omega, by omega⟩
    · rintro ⟨j, h1, h2, h3, h4⟩
      by_cases e : (sg l j).1 = t
      · exact .inr ⟨j, h1, h2, e⟩
      · exact .inl ⟨j, h1, h2, h3, by omega⟩
abbrev KB (l : List Span) (z : Int) : Int := (sg l z.toNat).1
theorem row_sorted (l : List Span) (t : Int) : ∀ n, (rowU l t n).Pairwise (Bef (KB l))
  | 0 => List.Pairwise.nil
  | n + 1 => by
    rw [rowU]
    by_cases e : (sg l n).1 = t
    · rw [if_pos e, List.pairwise_append]
      refine ⟨row_sorted l t n, List.pairwise_singleton .., fun x hx y hy => ?_⟩
      obtain ⟨j, h1, h2, h3⟩ := mem_rowU.1 hx
      rw [List.mem_singleton] at hy
      subst x
      subst y
      refine .inr ⟨?_, by omega⟩
      show (sg l (j : Int).toNat).1 = (sg l (n : Int).toNat).1
      rw [Int.toNat_natCast, Int.toNat_natCast, h3, e]
    · rw [if_neg e]; exact row_sorted l t n
theorem ord_sorted (l : List Span) : ∀ t, (ordB l t).Pairwise (Bef (KB l))
  | 0 => List.Pairwise.nil
  | t + 1 => by
    rw [ordB, List.pairwise_append]
    refine ⟨ord_sorted l t, row_sorted l t _, fun x hx y hy => ?_⟩
    obtain ⟨j, h1, h2, h3, h4⟩ := mem_ordB.1 hx
    obtain ⟨k, k1, k2, k3⟩ := mem_rowU.1 hy
    subst x
    subst y
    refine .inl ?_
    show (sg l (j : Int).toNat).1 < (sg l (k : Int).toNat).1
    rw [Int.toNat_natCast, Int.toNat_natCast]
    omega
theorem bef_nodup {K : Int → Int} {L : List Int} (h : L.Pairwise (Bef K)) : L.Nodup :=
  h.imp fun {a b} hb he => by subst he; exact hb.irrefl
theorem bef_asymm {K : Int → Int} {a b : Int} (h : Bef K a b) (h' : Bef K b a) : a = b := (h.trans h').irrefl.elim
/-- A sorted list of all the indices is this one. -/
theorem srt_ordB {l : List Span} {ord : List Int} (hok : ∀ s ∈ l, 0 ≤ s.1 ∧ s.1 < 1000) (hlen : ord.length = l.length) (hcov : ∀ j : Nat, j < l.length → (j : Int) ∈ ord) (hrng : ∀ x ∈ ord, 0 ≤ x ∧ x < l.length) (hs : Srt (KB l) ord 0 l.length) : ord = ordB l 1000 := by
  have hp : ord.Pairwise (Bef (KB l)) := by
    rw [List.pairwise_iff_getElem]
    intro i j hi hj hij
    have := hs i j (Nat.zero_le _) hij (by omega)
    simpa only [gz, List.getD_eq_getElem?_getD, List.getElem?_eq_getElem hi, List.getElem?_eq_getElem hj, Option.getD_some] using this
  have hq := ord_sorted l 1000
  refine List.Perm.eq_of_pairwise (fun a b _ _ h h' => bef_asymm h h') hp hq ((List.perm_ext_iff_of_nodup (bef_nodup hp) (bef_nodup hq)).2 fun x => ?_)
  rw [mem_ordB]
  constructor
  · intro hx
    have h1 := hrng x hx
    obtain ⟨j, rfl⟩ : ∃ j : Nat, x = j := ⟨x.toNat, by omega⟩
    have h2 := hok _ (sg_mem (l := l) (i := j) (by omega))
    exact ⟨j, rfl, by omega, h2.1, h2.2⟩
  · rintro ⟨j, rfl, h2, _⟩
    exact hcov j h2
theorem ordB_len {l : List Span} (hok : ∀ s ∈ l, 0 ≤ s.1 ∧ s.1 < 1000) : (ordB l 1000).length = l.length := by
  have h1 := nodup_sub (bef_nodup (ord_sorted l 1000)) (M := upN l.length) fun x hx => by
    obtain ⟨j, rfl, h2, _⟩ := mem_ordB.1 hx
    exact mem_upN.2 ⟨by omega, by omega⟩
  have h2 := nodup_sub (upN_nodup l.length) (M := ordB l 1000) fun x hx => by
    have h1 := mem_upN.1 hx
    obtain ⟨j, rfl⟩ : ∃ j : Nat, x = j := ⟨x.toNat, by omega⟩
    have h2 := hok _ (sg_mem (l := l) (i := j) (by omega))
    exact mem_ordB.2 ⟨j, rfl, by omega, h2.1, h2.2⟩
  rw [upN_len] at h1 h2
  omega
theorem rowU_len (l : List Span) (t : Int) : ∀ n, (rowU l t n).length ≤ n
  | 0 => Nat.le_refl _
  | n + 1 => by
    have := rowU_len l t n
    rw [rowU]
    split
    · simp; omega
    · omega
theorem ordB_le (l : List Span) : ∀ t, (ordB l t).length ≤ t * l.length
  | 0 => by simp [ordB]
  | t + 1 => by
    have := ordB_le l t
    have := rowU_len l (t : Int) l.length
    rw [ordB, List.length_append, Nat.succ_mul]
    omega
/-- Two colourings along the same order are the same. -/
theorem best_eq {l : List Span} {ord C D : List Int} (hok : ∀ s ∈ l, 0 ≤ s.1 ∧ s.1 < 1000) (B : BestOK l ord C) (hD : D.length = l.length) (hc : ∀ t, t < l.length → gz D (gz (ordB l 1000) t).toNat = gz (fit ((ordB l 1000).map fun z => sg l z.toNat)) t) : C = D := by
  have he : ord = ordB l 1000 := srt_ordB hok B.len (fun j hj => by
      obtain ⟨t, ht, e⟩ := B.cover hj
      rw [← e, gz, List.getD_eq_getElem?_getD, List.getElem?_eq_getElem (show t < ord.length by rw [B.len]; exact ht), Option.getD_some]
      exact List.getElem_mem ..) (fun x hx => by
      obtain ⟨t, ht, rfl⟩ := List.getElem_of_mem hx
      have := B.rng t (by rw [← B.len]; exact ht)
      simpa only [gz, List.getD_eq_getElem?_getD, List.getElem?_eq_getElem ht, Option.getD_some] using this) B.srt
  rw [← he] at hc
  have lC := B.clen
  refine List.ext_getElem (by omega) fun j h1 h2 => ?_
  obtain ⟨t, ht, e⟩ := B.cover (show j < l.length by omega)
  have a := B.col t ht
  have b := hc t ht
  rw [e, Int.toNat_natCast] at a b
  rw [← b] at a
  simpa only [gz, List.getD_eq_getElem?_getD, List.getElem?_eq_getElem h1, List.getElem?_eq_getElem h2, Option.getD_some] using a
theorem onl_fit {l : List Span} {i : Nat} (hi : i ≤ l.length) : onl fitR l (i + 1) = onl fitR l i ++ [mex 0 (takenU (sg l i) l (onl fitR l i) i)] := by
  have hlt : (l.take i).length = i := by simp; omega
  show onl fitR l i ++ [mex 0 (Sh.taken (sg l i) (l.take i) (onl fitR l i))] = _
  rw [Sh.taken, hlt, takenU_take _ _ _ _ (Nat.le_refl _)]

end Go.Sh


namespace Go.Proofs.Ytgpdimkgfhgffaa

open Go Go.Abs Go.Sh

theorem f13 (a : AV) (l : List Span) (h : Hp) (hk : Hok h) (ha : Pairs h.blks a l) (hl : l.length ≤ 800) :
    ∃ v h', Evals Try.prog tab false (.func 13) [a] h (v, h') ∧ Grown h h' ∧ Own h.next h'.blks .i64 v (fit l) := by
  refine evals_q c13 (fun v h' => Own h.next h'.blks .i64 v (fit l)) rfl hk ?_ (fun v h1 g q => q.leave)
  simp only [sf13, initS_cons, initS_nil]
  simp (disch := first|(simp only [Nat.reduceBEq,wE];done)|((repeat' (first|assumption|exact mAx _|refine mBx ?_ ?_|exact mCx (by assumption)|refine mDx ?_|refine mEx ?_ ?_ ?_|exact mFx|refine mGx ?_ ?_ ?_|exact mHx|exact mIx _|(simp only [wM,Nat.reduceAdd,Nat.reduceLT,Nat.reduceLeDiff];done)));done)|omega|decide) only [↓wA,wB,wL,resOf,Nat.reduceBEq,Int.reduceBEq,Int.reduceBNe,Int.reduceLT,Int.reduceLE,Int.reduceAdd,Int.reduceSub,Int.reduceMul,Int.reduceToNat]
  refine wloop (fun mm ss => ∃ (i : Nat) (q : AV) (h1 : Hp) (u2 u5 u6 u11 u17 u28 : AV), (mm = l.length - i) ∧ (i ≤ l.length ∧ Grown h h1 ∧ Own h.next h1.blks .i64 q (onl fitR l i)) ∧ ss = { fr := [(0, a), (2, u2), (3, q), (4, .int .i64 i), (5, u5), (6, u6), (11, u11), (17, u17), (28, u28)], hp := h1 }) (l.length) ?_ ?_
  ·
    refine ⟨0, _, h.en.pu [], _, _, _, _, _, _, by omega, ⟨by omega, by (repeat' (first|assumption|exact mAx _|refine mBx ?_ ?_|exact mCx (by assumption)|refine mDx ?_|refine mEx ?_ ?_ ?_|exact mFx|refine mGx ?_ ?_ ?_|exact mHx|exact mIx _|(simp only [wM,Nat.reduceAdd,Nat.reduceLT,Nat.reduceLeDiff];done))), Own.fresh (Nat.le_refl _) rfl rfl rfl (Nat.le_refl _)⟩, rfl⟩
  rintro nA sA ⟨i, q, h1, u2, u5, u6, u11, u17, u28, hnA, ⟨hi, g1, o1⟩, rfl⟩
  have k1 := g1.ok hk
  have a1 := ha.sub (g1.sub hk)
  have hrl := onl_len fitR l i
  simp (disch := first|(simp only [Nat.reduceBEq,wE];done)|((repeat' (first|assumption|exact mAx _|refine mBx ?_ ?_|exact mCx (by assumption)|refine mDx ?_|refine mEx ?_ ?_ ?_|exact mFx|refine mGx ?_ ?_ ?_|exact mHx|exact mIx _|(simp only [wM,Nat.reduceAdd,Nat.reduceLT,Nat.reduceLeDiff];done)));done)|omega|decide) only [a1.len, ↓wA,wB,wL,resOf,Nat.reduceBEq,Int.reduceBEq,Int.reduceBNe,Int.reduceLT,Int.reduceLE,Int.reduceAdd,Int.reduceSub,Int.reduceMul,Int.reduceToNat]
  refine ifThen_intro (fun e => ?_) (fun e => ?_) <;> have eq := e <;> try simp [-List.getD_eq_getElem?_getD] at eq
  · simp (disch := first|(simp only [Nat.reduceBEq,wE];done)|((repeat' (first|assumption|exact mAx _|refine mBx ?_ ?_|exact mCx (by assumption)|refine mDx ?_|refine mEx ?_ ?_ ?_|exact mFx|refine mGx ?_ ?_ ?_|exact mHx|exact mIx _|(simp only [wM,Nat.reduceAdd,Nat.reduceLT,Nat.reduceLeDiff];done)));done)|omega|decide) only [e, ↓wA,wB,wL,resOf,Nat.reduceBEq,Int.reduceBEq,Int.reduceBNe,Int.reduceLT,Int.reduceLE,Int.reduceAdd,Int.reduceSub,Int.reduceMul,Int.reduceToNat]
    refine wloop (fun mm ss => ∃ (j : Nat) (p : AV) (h2 : Hp) (u2 u11 u17 u28 : AV), (mm = i - j) ∧ (j ≤ i ∧ Grown h1 h2 ∧ Own h1.next h2.blks .i64 p (takenU (sg l i) l (onl fitR l i) j)) ∧ ss = { fr := [(0, a), (2, u2), (3, q), (4, .int .i64 i), (5, p), (6, .int .i64 j), (11, u11), (17, u17), (28, u28)], hp := h2 }) (i) ?_ ?_
    ·
      refine ⟨0, _, h1.pu [], _, _, _, _, by omega, ⟨by omega, by (repeat' (first|assumption|exact mAx _|refine mBx ?_ ?_|exact mCx (by assumption)|refine mDx ?_|refine mEx ?_ ?_ ?_|exact mFx|refine mGx ?_ ?_ ?_|exact mHx|exact mIx _|(simp only [wM,Nat.reduceAdd,Nat.reduceLT,Nat.reduceLeDiff];done))), Own.fresh (Nat.le_refl _) rfl rfl rfl (Nat.le_refl _)⟩, rfl⟩
    rintro nB sB ⟨j, p, h2, u2, u11, u17, u28, hnB, ⟨hj, g2, o2⟩, rfl⟩
    have k2 := g2.ok k1
    have s2 := g2.sub k1
    have a2 := a1.sub s2
    have q2 := o1.sub s2
    have hul := takenU_len (sg l i) l (onl fitR l i) j
    have hdi : l.getD i (0, 0) = sg l i := rfl
    simp (disch := first|(simp only [Nat.reduceBEq,wE];done)|((repeat' (first|assumption|exact mAx _|refine mBx ?_ ?_|exact mCx (by assumption)|refine mDx ?_|refine mEx ?_ ?_ ?_|exact mFx|refine mGx ?_ ?_ ?_|exact mHx|exact mIx _|(simp only [wM,Nat.reduceAdd,Nat.reduceLT,Nat.reduceLeDiff];done)));done)|omega|decide) only [e, ↓wA,wB,wL,resOf,Nat.reduceBEq,Int.reduceBEq,Int.reduceBNe,Int.reduceLT,Int.reduceLE,Int.reduceAdd,Int.reduceSub,Int.reduceMul,Int.reduceToNat]
    refine ifThen_intro (fun e2 => ?_) (fun e2 => ?_) <;> have e2q := e2 <;> try simp [-List.getD_eq_getElem?_getD] at e2q
    · have hdj : l.getD j (0, 0) = sg l j := rfl
      have e1 : ov ((sg l i).1, (sg l i).2) ((sg l j).1, (sg l j).2) = ov (sg l i) (sg l j) := rfl
      by_cases e4 : ov (sg l i) (sg l j) = true
      · obtain ⟨s3, h3, y1, y2, y3, y4⟩ := own_app1 (v := (onl fitR l i).getD j 0) (h := h2) k1 g2 o2 (by omega)
        simp (disch := first|(simp only [Nat.reduceBEq,wE];done)|((repeat' (first|assumption|exact mAx _|refine mBx ?_ ?_|exact mCx (by assumption)|refine mDx ?_|refine mEx ?_ ?_ ?_|exact mFx|refine mGx ?_ ?_ ?_|exact mHx|exact mIx _|(simp only [wM,Nat.reduceAdd,Nat.reduceLT,Nat.reduceLeDiff];done)));done)|omega|decide) only [e, e2, a2.ix, a2.lda, hdi, hdj, callT (f24 _ _ _ _ _ k2), e1, e4, q2.ints.ix, q2.ints.ld, y1, ↓wA,wB,wL,resOf,Nat.reduceBEq,Int.reduceBEq,Int.reduceBNe,Int.reduceLT,Int.reduceLE,Int.reduceAdd,Int.reduceSub,Int.reduceMul,Int.reduceToNat]
        refine ⟨_, ?_, j + 1, _, _, _, _, _, _, rfl, ?_, rfl⟩
        · omega
        exact ⟨by omega, y3, by rw [takenU, if_pos e4]; exact y2⟩
      · have e4b : ov (sg l i) (sg l j) = false := by simpa using e4
        simp (disch := first|(simp only [Nat.reduceBEq,wE];done)|((repeat' (first|assumption|exact mAx _|refine mBx ?_ ?_|exact mCx (by assumption)|refine mDx ?_|refine mEx ?_ ?_ ?_|exact mFx|refine mGx ?_ ?_ ?_|exact mHx|exact mIx _|(simp only [wM,Nat.reduceAdd,Nat.reduceLT,Nat.reduceLeDiff];done)));done)|omega|decide) only [e, e2, a2.ix, a2.lda, hdi, hdj, callT (f24 _ _ _ _ _ k2), e1, e4b, ↓wA,wB,wL,resOf,Nat.reduceBEq,Int.reduceBEq,Int.reduceBNe,Int.reduceLT,Int.reduceLE,Int.reduceAdd,Int.reduceSub,Int.reduceMul,Int.reduceToNat]
        refine ⟨_, ?_, j + 1, _, _, _, _, _, _, rfl, ?_, rfl⟩
        · omega
        exact ⟨by omega, g2, by rw [takenU, if_neg e4]; exact o2⟩
    · have hji : j = i := by omega
      subst hji
      obtain ⟨s3, h3, y1, y2, y3, y4⟩ := own_app1 (v := mex 0 (takenU (sg l j) l (onl fitR l j) j)) (h := h2) hk (GrownR.trans g1 g2) q2 (by omega)
      simp (disch := first|(simp only [Nat.reduceBEq,wE];done)|((repeat' (first|assumption|exact mAx _|refine mBx ?_ ?_|exact mCx (by assumption)|refine mDx ?_|refine mEx ?_ ?_ ?_|exact mFx|refine mGx ?_ ?_ ?_|exact mHx|exact mIx _|(simp only [wM,Nat.reduceAdd,Nat.reduceLT,Nat.reduceLeDiff];done)));done)|omega|decide) only [e, e2, callT (f30 p _ 0 h2 k2 o2.ints (by omega) (by omega)), y1, ↓wA,wB,wL,resOf,Nat.reduceBEq,Int.reduceBEq,Int.reduceBNe,Int.reduceLT,Int.reduceLE,Int.reduceAdd,Int.reduceSub,Int.reduceMul,Int.reduceToNat]
      refine ⟨_, ?_, j + 1, _, _, _, _, _, _, _, _, rfl, ?_, rfl⟩
      · omega
      exact ⟨by omega, y3, by rw [onl_fit (by omega)]; exact y2⟩
  · have hil : i = l.length := by omega
    simp (disch := first|(simp only [Nat.reduceBEq,wE];done)|((repeat' (first|assumption|exact mAx _|refine mBx ?_ ?_|exact mCx (by assumption)|refine mDx ?_|refine mEx ?_ ?_ ?_|exact mFx|refine mGx ?_ ?_ ?_|exact mHx|exact mIx _|(simp only [wM,Nat.reduceAdd,Nat.reduceLT,Nat.reduceLeDiff];done)));done)|omega|decide) only [e, ↓wA,wB,wL,resOf,Nat.reduceBEq,Int.reduceBEq,Int.reduceBNe,Int.reduceLT,Int.reduceLE,Int.reduceAdd,Int.reduceSub,Int.reduceMul,Int.reduceToNat]
    refine ⟨_, rfl, g1, ?_⟩
    rw [hil] at o1
    exact o1

end Go.Proofs.Ytgpdimkgfhgffaa

