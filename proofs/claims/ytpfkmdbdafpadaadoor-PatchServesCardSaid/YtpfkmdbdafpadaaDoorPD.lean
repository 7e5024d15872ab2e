/- Colours of edges: what is free, and the search for the first colouring. -/
import Derived.Test.YtpfkmdbdafpadaaDoorPC
import Derived.Test.YtpfkmdbdafpadaaDoorKA
set_option linter.unusedSimpArgs false
set_option linter.unusedVariables false
set_option maxHeartbeats 2000000
set_option maxRecDepth 20000
namespace Go.Abs
theorem repl_pairs : ∀ n : Nat, repl [.int .i64 0, .int .i64 0] n = pairs (List.replicate n (0, 0))
  | 0 => rfl
  | n + 1 => by
    rw [List.replicate_succ, pairs_cons, ← repl_pairs n]
    rfl
theorem own_setP {h0 h : Hp} {s : AV} {l : List (Int × Int)} {i : Nat} {x y : Int} (ho : Hok h0) (g : Grown h0 h) (O : OwnP h0.next h.blks s l) (hi : i < l.length) :
    ∃ h', sStore 2 h (.ag [.int .i64 x, .int .i64 y]) (cellAt s i) = some (.any, h') ∧ OwnP h0.next h'.blks s (l.set i (x, y)) ∧ Grown h0 h' := by
  obtain ⟨h', e, o, g'⟩ := own_set (v := .ag [.int .i64 x, .int .i64 y]) (vs := [.int .i64 x, .int .i64 y]) ho g O hi rfl rfl rfl rfl
  refine ⟨h', e, ?_, g'⟩
  unfold OwnP
  have : splice (Abs.pairs l) (i * 2) [.int .i64 x, .int .i64 y] = Abs.pairs (l.set i (x, y)) := by
    have hd : ∀ (l : List (Int × Int)) (k : Nat), (Abs.pairs l).drop (k * 2) = Abs.pairs (l.drop k) := fun l => by
      induction l with
      | nil => intro k; simp [Abs.pairs]
      | cons p r ih =>
        intro k
        cases k with
        | zero => rfl
        | succ k =>
          rw [pairs_cons, Nat.succ_mul, List.drop_succ_cons]
          simp only [List.drop_succ_cons]
          exact ih k
    simp only [splice, List.length_cons, List.length_nil, Nat.zero_add, Nat.reduceAdd]
    rw [List.set_eq_take_append_cons_drop, if_pos hi, pairs_append, pairs_cons, pairs_take, show i * 2 + 2 = (i + 1) * 2 by omega, hd]
    simp
  rw [List.length_set, ← this]
  exact o
end Go.Abs
namespace Go.Pa
/- The edges of a permutation's connections. -/
def edgs (n : Nat) (zs : List Int) : List (Int × Int) := zs.zipIdx.map fun p => ((p.2 : Int) / (n : Int), p.1 / (n : Int))
theorem edgs_len {n : Nat} {zs : List Int} : (edgs n zs).length = zs.length := by simp [edgs]
theorem edgs_at {n : Nat} {zs : List Int} {i : Nat} (h : i < zs.length) : eg (edgs n zs) i = ((i : Int) / (n : Int), zs.getD i 0 / (n : Int)) := by
  simp [eg, edgs, List.getD_eq_getElem?_getD, List.getElem?_eq_getElem h]
end Go.Pa
namespace Go.Proofs.YtpfkmdbdafpadaaDoor
open Go Go.Abs Go.Pa

theorem f43 (x : Int) (e : Int × Int) (a b : AV) (E : List (Int × Int)) (zs : List Int) (h : Hp) (hk : Hok h) (ha : Pairs h.blks a E) (hb : Ints h.blks .i64 b zs) (hz : zs.length ≤ E.length) (hE : E.length ≤ 100000) :
    Evals Tryd.prog tab false (.func 43) [.int .i64 x, .ag [.int .i64 e.1, .int .i64 e.2], a, b] h (.bool (decide (Fr E zs x e)), h) := by
  refine evals_pure c43 rfl hk ?_
  simp only [sf43, initS_cons, initS_nil]
  have k1 : Hok (h.en.pu [.int .i64 e.1, .int .i64 e.2]) := Hok.pu hk rfl
  have a1 : Pairs (h.en.pu [.int .i64 e.1, .int .i64 e.2]).blks a E := ha.sub (Sub.pu (h := h.en) hk)
  have b1 : Ints (h.en.pu [.int .i64 e.1, .int .i64 e.2]).blks .i64 b zs := hb.sub (Sub.pu (h := h.en) hk)
  have bx : Box (h.en.pu [.int .i64 e.1, .int .i64 e.2]).blks h.next [.int .i64 e.1, .int .i64 e.2] := Box.top
  simp (disch := first|(simp only [Nat.reduceBEq,wE];done)|((repeat' (first|assumption|exact mAx _|refine mBx ?_ ?_|exact mCx (by assumption)|refine mDx ?_|refine mEx ?_ ?_ ?_|exact mFx|refine mGx ?_ ?_ ?_|exact mHx|exact mIx _|(simp only [wM,Nat.reduceAdd,Nat.reduceLT,Nat.reduceLeDiff];done)));done)|omega|decide) only [b1.len, ↓wA,wB,wL,resOf,Nat.reduceBEq,Int.reduceBEq,Int.reduceBNe,Int.reduceLT,Int.reduceLE,Int.reduceAdd,Int.reduceSub,Int.reduceMul,Int.reduceToNat]
  refine wloop (fun mm ss => ∃ (i : Nat) (u8 u9 u10 u14 u40 : AV), (mm = zs.length - i) ∧ (i ≤ zs.length ∧ ∀ j, j < i → ¬ (cl zs j = x ∧ adj (eg E j) e)) ∧ ss = { fr := [(0, .int .i64 x), (1, .ag [.int .i64 e.1, .int .i64 e.2]), (2, a), (3, b), (5, .ptr h.next 0), (8, u8), (9, u9), (10, u10), (11, b), (12, .int .i64 zs.length), (13, .int .i64 i), (14, u14), (40, u40)], hp := (h.en.pu [.int .i64 e.1, .int .i64 e.2]) }) (zs.length) ?_ ?_
  ·
    refine ⟨0, _, _, _, _, _, by omega, ⟨by omega, fun j hj => absurd hj (by omega)⟩, rfl⟩
  rintro nA sA ⟨i, u8, u9, u10, u14, u40, hnA, ⟨hi, hp⟩, rfl⟩
  simp (disch := first|(simp only [Nat.reduceBEq,wE];done)|((repeat' (first|assumption|exact mAx _|refine mBx ?_ ?_|exact mCx (by assumption)|refine mDx ?_|refine mEx ?_ ?_ ?_|exact mFx|refine mGx ?_ ?_ ?_|exact mHx|exact mIx _|(simp only [wM,Nat.reduceAdd,Nat.reduceLT,Nat.reduceLeDiff];done)));done)|omega|decide) only [↓wA,wB,wL,resOf,Nat.reduceBEq,Int.reduceBEq,Int.reduceBNe,Int.reduceLT,Int.reduceLE,Int.reduceAdd,Int.reduceSub,Int.reduceMul,Int.reduceToNat]
  refine ifThen_intro (fun e0 => ?_) (fun e0 => ?_) <;> have e0q := e0 <;> try simp [-List.getD_eq_getElem?_getD] at e0q
  · have hE1 : i < E.length := by omega
    have next : ¬ (cl zs i = x ∧ adj (eg E i) e) → ∀ j, j < i + 1 → ¬ (cl zs j = x ∧ adj (eg E j) e) := fun hn j hj => by
      by_cases ej : j = i
      · subst ej; exact hn
      · exact hp j (by omega)
    by_cases e1 : zs.getD i 0 = x
    · have e1t : (zs.getD i 0 == x) = true := by simpa using e1
      by_cases e2 : (E.getD i (0, 0)).1 = e.1
      · have e2t : ((E.getD i (0, 0)).1 == e.1) = true := by simpa using e2
        simp (disch := first|(simp only [Nat.reduceBEq,wE];done)|((repeat' (first|assumption|exact mAx _|refine mBx ?_ ?_|exact mCx (by assumption)|refine mDx ?_|refine mEx ?_ ?_ ?_|exact mFx|refine mGx ?_ ?_ ?_|exact mHx|exact mIx _|(simp only [wM,Nat.reduceAdd,Nat.reduceLT,Nat.reduceLeDiff];done)));done)|omega|decide) only [e0, b1.ix, b1.ld, a1.ix, a1.fa, a1.ld0, a1.ld1, bx.ld, e1t, e2t, ↓wA,wB,wL,resOf,Nat.reduceBEq,Int.reduceBEq,Int.reduceBNe,Int.reduceLT,Int.reduceLE,Int.reduceAdd,Int.reduceSub,Int.reduceMul,Int.reduceToNat]
        refine ⟨_, rfl, ?_, by (repeat' (first|assumption|exact mAx _|refine mBx ?_ ?_|exact mCx (by assumption)|refine mDx ?_|refine mEx ?_ ?_ ?_|exact mFx|refine mGx ?_ ?_ ?_|exact mHx|exact mIx _|(simp only [wM,Nat.reduceAdd,Nat.reduceLT,Nat.reduceLeDiff];done)))⟩
        rw [decide_eq_false fun H => H i e0q ⟨e1, .inl e2⟩]
      · have e2t : ((E.getD i (0, 0)).1 == e.1) = false := by simpa using e2
        by_cases e3 : (E.getD i (0, 0)).2 = e.2
        · have e3t : ((E.getD i (0, 0)).2 == e.2) = true := by simpa using e3
          simp (disch := first|(simp only [Nat.reduceBEq,wE];done)|((repeat' (first|assumption|exact mAx _|refine mBx ?_ ?_|exact mCx (by assumption)|refine mDx ?_|refine mEx ?_ ?_ ?_|exact mFx|refine mGx ?_ ?_ ?_|exact mHx|exact mIx _|(simp only [wM,Nat.reduceAdd,Nat.reduceLT,Nat.reduceLeDiff];done)));done)|omega|decide) only [e0, b1.ix, b1.ld, a1.ix, a1.fa, a1.ld0, a1.ld1, bx.ld, e1t, e2t, e3t, ↓wA,wB,wL,resOf,Nat.reduceBEq,Int.reduceBEq,Int.reduceBNe,Int.reduceLT,Int.reduceLE,Int.reduceAdd,Int.reduceSub,Int.reduceMul,Int.reduceToNat]
          refine ⟨_, rfl, ?_, by (repeat' (first|assumption|exact mAx _|refine mBx ?_ ?_|exact mCx (by assumption)|refine mDx ?_|refine mEx ?_ ?_ ?_|exact mFx|refine mGx ?_ ?_ ?_|exact mHx|exact mIx _|(simp only [wM,Nat.reduceAdd,Nat.reduceLT,Nat.reduceLeDiff];done)))⟩
          rw [decide_eq_false fun H => H i e0q ⟨e1, .inr e3⟩]
        · have e3t : ((E.getD i (0, 0)).2 == e.2) = false := by simpa using e3
          simp (disch := first|(simp only [Nat.reduceBEq,wE];done)|((repeat' (first|assumption|exact mAx _|refine mBx ?_ ?_|exact mCx (by assumption)|refine mDx ?_|refine mEx ?_ ?_ ?_|exact mFx|refine mGx ?_ ?_ ?_|exact mHx|exact mIx _|(simp only [wM,Nat.reduceAdd,Nat.reduceLT,Nat.reduceLeDiff];done)));done)|omega|decide) only [e0, b1.ix, b1.ld, a1.ix, a1.fa, a1.ld0, a1.ld1, bx.ld, e1t, e2t, e3t, ↓wA,wB,wL,resOf,Nat.reduceBEq,Int.reduceBEq,Int.reduceBNe,Int.reduceLT,Int.reduceLE,Int.reduceAdd,Int.reduceSub,Int.reduceMul,Int.reduceToNat]
          refine ⟨_, ?_, i + 1, _, _, _, _, _, rfl, ?_, rfl⟩
          · omega
          exact ⟨by omega, next fun H => H.2.elim e2 e3⟩
    · have e1t : (zs.getD i 0 == x) = false := by simpa using e1
      simp (disch := first|(simp only [Nat.reduceBEq,wE];done)|((repeat' (first|assumption|exact mAx _|refine mBx ?_ ?_|exact mCx (by assumption)|refine mDx ?_|refine mEx ?_ ?_ ?_|exact mFx|refine mGx ?_ ?_ ?_|exact mHx|exact mIx _|(simp only [wM,Nat.reduceAdd,Nat.reduceLT,Nat.reduceLeDiff];done)));done)|omega|decide) only [e0, b1.ix, b1.ld, e1t, ↓wA,wB,wL,resOf,Nat.reduceBEq,Int.reduceBEq,Int.reduceBNe,Int.reduceLT,Int.reduceLE,Int.reduceAdd,Int.reduceSub,Int.reduceMul,Int.reduceToNat]
      refine ⟨_, ?_, i + 1, _, _, _, _, _, rfl, ?_, rfl⟩
      · omega
      exact ⟨by omega, next fun H => e1 H.1⟩
  · simp (disch := first|(simp only [Nat.reduceBEq,wE];done)|((repeat' (first|assumption|exact mAx _|refine mBx ?_ ?_|exact mCx (by assumption)|refine mDx ?_|refine mEx ?_ ?_ ?_|exact mFx|refine mGx ?_ ?_ ?_|exact mHx|exact mIx _|(simp only [wM,Nat.reduceAdd,Nat.reduceLT,Nat.reduceLeDiff];done)));done)|omega|decide) only [e0, ↓wA,wB,wL,resOf,Nat.reduceBEq,Int.reduceBEq,Int.reduceBNe,Int.reduceLT,Int.reduceLE,Int.reduceAdd,Int.reduceSub,Int.reduceMul,Int.reduceToNat]
    refine ⟨_, rfl, ?_, by (repeat' (first|assumption|exact mAx _|refine mBx ?_ ?_|exact mCx (by assumption)|refine mDx ?_|refine mEx ?_ ?_ ?_|exact mFx|refine mGx ?_ ?_ ?_|exact mHx|exact mIx _|(simp only [wM,Nat.reduceAdd,Nat.reduceLT,Nat.reduceLeDiff];done)))⟩
    have H : Pa.Fr E zs x e := fun j hj => hp j (by omega)
    rw [decide_eq_true H]

theorem f42 (n a b : Int) (h : Hp) (hk : Hok h) (hn : 0 < n ∧ n ≤ 1000) (h1 : 0 ≤ a ∧ a ≤ 100000) (h2 : 0 ≤ b ∧ b ≤ 100000) :
    Evals Tryd.prog tab false (.func 42) [.int .i64 n, .ag [.int .i64 a, .int .i64 b]] h (.ag [.int .i64 (a / n), .int .i64 (b / n)], h) := by
  refine evals_pure c42 rfl hk ?_ rfl
  simp only [sf42, initS_cons, initS_nil]
  have q1 : ∀ c, sBin .quo c (.int .i64 a) (.int .i64 n) = some (.int .i64 (a / n)) := fun c => sBin_quo h1.1 hn.1 (by omega)
  have q2 : ∀ c, sBin .quo c (.int .i64 b) (.int .i64 n) = some (.int .i64 (b / n)) := fun c => sBin_quo h2.1 hn.1 (by omega)
  simp (disch := first|(simp only [Nat.reduceBEq,wE];done)|((repeat' (first|assumption|exact mAx _|refine mBx ?_ ?_|exact mCx (by assumption)|refine mDx ?_|refine mEx ?_ ?_ ?_|exact mFx|refine mGx ?_ ?_ ?_|exact mHx|exact mIx _|(simp only [wM,Nat.reduceAdd,Nat.reduceLT,Nat.reduceLeDiff];done)));done)|omega|decide) only [q1, q2, ↓wA,wB,wL,resOf,Nat.reduceBEq,Int.reduceBEq,Int.reduceBNe,Int.reduceLT,Int.reduceLE,Int.reduceAdd,Int.reduceSub,Int.reduceMul,Int.reduceToNat]
  exact ⟨_, rfl, rfl, by (repeat' (first|assumption|exact mAx _|refine mBx ?_ ?_|exact mCx (by assumption)|refine mDx ?_|refine mEx ?_ ?_ ?_|exact mFx|refine mGx ?_ ?_ ?_|exact mHx|exact mIx _|(simp only [wM,Nat.reduceAdd,Nat.reduceLT,Nat.reduceLeDiff];done)))⟩

theorem f32 (n : Nat) (a : AV) (zs : List Int) (h : Hp) (hk : Hok h) (hn : 0 < n ∧ n ≤ 1000) (ha : Ints h.blks .i64 a zs) (hz : zs.length ≤ 1000) (hr : ∀ z ∈ zs, 0 ≤ z ∧ z ≤ 100000) :
    ∃ v h', Evals Tryd.prog tab false (.func 32) [.int .i64 n, a] h (v, h') ∧ Grown h h' ∧ OwnP h.next h'.blks v (edgs n zs) := by
  refine evals_q c32 (fun v h' => OwnP h.next h'.blks v (edgs n zs)) rfl hk ?_ (fun v h1 g q => q.leave)
  simp only [sf32, initS_cons, initS_nil]
  have mk := sMks_ok (h := h.en) (z := [.int .i64 0, .int .i64 0]) (n := 2) (l := zs.length) (c := zs.length) (Nat.le_refl _) (by omega)
  have rep : OwnP h.next (h.en.pu (repl [.int .i64 0, .int .i64 0] zs.length)).blks (.sl h.next 0 zs.length (some zs.length) 2) (List.replicate zs.length (0, 0)) := by
    rw [repl_pairs]
    exact OwnP.fresh (Nat.le_refl _) (by simp) (by rw [pairs_take, List.take_of_length_le (by simp)]) (by simp [pairs_len]) (Nat.le_refl _)
  have gp : Grown h (h.en.pu (repl [.int .i64 0, .int .i64 0] zs.length)) := Grown.pu Grown.en (by rw [repl_pairs]; exact refsOK_pairs)
  have a1 := ha.sub (gp.sub hk)
  simp (disch := first|(simp only [Nat.reduceBEq,wE];done)|((repeat' (first|assumption|exact mAx _|refine mBx ?_ ?_|exact mCx (by assumption)|refine mDx ?_|refine mEx ?_ ?_ ?_|exact mFx|refine mGx ?_ ?_ ?_|exact mHx|exact mIx _|(simp only [wM,Nat.reduceAdd,Nat.reduceLT,Nat.reduceLeDiff];done)));done)|omega|decide) only [ha.len, mk, a1.len, ↓wA,wB,wL,resOf,Nat.reduceBEq,Int.reduceBEq,Int.reduceBNe,Int.reduceLT,Int.reduceLE,Int.reduceAdd,Int.reduceSub,Int.reduceMul,Int.reduceToNat]
  refine wloop (fun mm ss => ∃ (i : Nat) (L : List (Int × Int)) (h1 : Hp) (u4 u6 u7 u14 : AV), (mm = zs.length - i) ∧ (i ≤ zs.length ∧ Grown h h1 ∧ OwnP h.next h1.blks (.sl h.next 0 zs.length (some zs.length) 2) L ∧ L.length = zs.length ∧ ∀ j, j < i → eg L j = eg (edgs n zs) j) ∧ ss = { fr := [(0, .int .i64 n), (1, a), (4, u4), (5, .sl h.next 0 zs.length (some zs.length) 2), (6, u6), (7, u7), (11, a), (12, .int .i64 zs.length), (13, .int .i64 i), (14, u14)], hp := h1 }) (zs.length) ?_ ?_
  ·
    refine ⟨0, List.replicate zs.length (0, 0), _, _, _, _, _, by omega, ⟨by omega, gp, rep, by simp, fun j hj => absurd hj (by omega)⟩, rfl⟩
  rintro nA sA ⟨i, L, h1, u4, u6, u7, u14, hnA, ⟨hi, g1, o1, hl, hL⟩, rfl⟩
  have k1 := g1.ok hk
  have b1 := ha.sub (g1.sub hk)
  simp (disch := first|(simp only [Nat.reduceBEq,wE];done)|((repeat' (first|assumption|exact mAx _|refine mBx ?_ ?_|exact mCx (by assumption)|refine mDx ?_|refine mEx ?_ ?_ ?_|exact mFx|refine mGx ?_ ?_ ?_|exact mHx|exact mIx _|(simp only [wM,Nat.reduceAdd,Nat.reduceLT,Nat.reduceLeDiff];done)));done)|omega|decide) only [↓wA,wB,wL,resOf,Nat.reduceBEq,Int.reduceBEq,Int.reduceBNe,Int.reduceLT,Int.reduceLE,Int.reduceAdd,Int.reduceSub,Int.reduceMul,Int.reduceToNat]
  refine ifThen_intro (fun e => ?_) (fun e => ?_) <;> have eq := e <;> try simp [-List.getD_eq_getElem?_getD] at eq
  · have hz1 : 0 ≤ zs.getD i 0 ∧ zs.getD i 0 ≤ 100000 := by rw [getD_at eq]; exact hr _ (List.getElem_mem eq)
    obtain ⟨h2, e2, o2, g2⟩ := own_setP (x := (i : Int) / n) (y := zs.getD i 0 / n) (i := i) hk g1 o1 (by omega)
    simp (disch := first|(simp only [Nat.reduceBEq,wE];done)|((repeat' (first|assumption|exact mAx _|refine mBx ?_ ?_|exact mCx (by assumption)|refine mDx ?_|refine mEx ?_ ?_ ?_|exact mFx|refine mGx ?_ ?_ ?_|exact mHx|exact mIx _|(simp only [wM,Nat.reduceAdd,Nat.reduceLT,Nat.reduceLeDiff];done)));done)|omega|decide) only [e, b1.ix, b1.ld, callT (f42 n i (zs.getD i 0) h1 k1 (by omega) (by omega) hz1), o1.pairs.ix, e2, ↓wA,wB,wL,resOf,Nat.reduceBEq,Int.reduceBEq,Int.reduceBNe,Int.reduceLT,Int.reduceLE,Int.reduceAdd,Int.reduceSub,Int.reduceMul,Int.reduceToNat]
    refine ⟨_, ?_, i + 1, L.set i ((i : Int) / n, zs.getD i 0 / n), h2, _, _, _, _, rfl, ?_, rfl⟩
    · omega
    refine ⟨by omega, g2, o2, by simpa using hl, fun j hj => ?_⟩
    by_cases ej : j = i
    · subst ej
      rw [edgs_at eq]
      simp [eg, List.getD_eq_getElem?_getD, show j < L.length by omega]
    · rw [← hL j (by omega)]
      simp [eg, List.getD_eq_getElem?_getD, List.getElem?_set, Ne.symm ej]
  · simp (disch := first|(simp only [Nat.reduceBEq,wE];done)|((repeat' (first|assumption|exact mAx _|refine mBx ?_ ?_|exact mCx (by assumption)|refine mDx ?_|refine mEx ?_ ?_ ?_|exact mFx|refine mGx ?_ ?_ ?_|exact mHx|exact mIx _|(simp only [wM,Nat.reduceAdd,Nat.reduceLT,Nat.reduceLeDiff];done)));done)|omega|decide) only [e, ↓wA,wB,wL,resOf,Nat.reduceBEq,Int.reduceBEq,Int.reduceBNe,Int.reduceLT,Int.reduceLE,Int.reduceAdd,Int.reduceSub,Int.reduceMul,Int.reduceToNat]
    refine ⟨_, rfl, g1, ?_⟩
    have : L = edgs n zs := List.ext_getElem (by rw [edgs_len, hl]) fun j h1 h2 => by
      have := hL j (by omega)
      simpa [eg, List.getD_eq_getElem?_getD, List.getElem?_eq_getElem h1, List.getElem?_eq_getElem h2] using this
    rw [← this]
    exact o1

theorem f48 (a : AV) (E : List (Int × Int)) (limit : Nat) (h0 : Hp) (ho : Hok h0) (ha : Pairs h0.blks a E) (hE : E.length ≤ 1000) (hl : limit ≤ 100000) :
    ∀ (f : Nat) (zs : List Int) (h : Hp) (id : Nat), zs.length + f = E.length → Grown h0 h → OwnK h0.next h.blks id E.length zs →
    ∃ v h', Evals Tryd.prog tab false (.func 48) [a, .sl id 0 zs.length (some E.length) 1, .int .i64 limit] h (v, h') ∧ (Grown h0 h' ∧ Elder h h' ∧
      (match ext E limit f zs with
        | some ys => v = .tu [.sl id 0 ys.length (some E.length) 1, .bool true] ∧ OwnK h0.next h'.blks id E.length ys
        | none => v = .tu [.nilsl, .bool false] ∧ OwnK h0.next h'.blks id E.length zs)) := by
  intro f
  induction f with
  | zero =>
    intro zs h id hlen g O
    have hk := g.ok ho
    have a1 := ha.sub (g.sub ho)
    have hid : id < h.next := by
      obtain ⟨b, hb, _⟩ := O
      exact (hk.get hb).1
    refine evals_two c48 (fun v h' => Grown h0 h' ∧ Elder h h' ∧
      (match ext E limit 0 zs with
        | some ys => v = .tu [.sl id 0 ys.length (some E.length) 1, .bool true] ∧ OwnK h0.next h'.blks id E.length ys
        | none => v = .tu [.nilsl, .bool false] ∧ OwnK h0.next h'.blks id E.length zs)) rfl ?_
    simp only [sf48, initS_cons, initS_nil]
    have e0 : ((zs.length : Int) == (E.length : Int)) = true := by simp; omega
    simp (disch := first|(simp only [Nat.reduceBEq,wE];done)|((repeat' (first|assumption|exact mAx _|refine mBx ?_ ?_|exact mCx (by assumption)|refine mDx ?_|refine mEx ?_ ?_ ?_|exact mFx|refine mGx ?_ ?_ ?_|exact mHx|exact mIx _|(simp only [wM,Nat.reduceAdd,Nat.reduceLT,Nat.reduceLeDiff];done)));done)|omega|decide) only [O.own.len, a1.len, e0, ↓wA,wB,wL,resOf,Nat.reduceBEq,Int.reduceBEq,Int.reduceBNe,Int.reduceLT,Int.reduceLE,Int.reduceAdd,Int.reduceSub,Int.reduceMul,Int.reduceToNat]
    refine ⟨_, rfl, Elder.en, ?_⟩
    have gl := grown_leave (h1 := h.en) (v := .tu [.sl id 0 zs.length (some E.length) 1, .bool true]) rfl rfl g g ho Elder.en
    refine ⟨gl.1, gl.2, rfl, ?_⟩
    exact O.lk hid fun i hi1 hi2 => leave_lk hk Elder.en i hi2
  | succ f IH =>
    intro zs h id hlen g O
    have hk := g.ok ho
    have a1 := ha.sub (g.sub ho)
    have hid : id < h.next := by
      obtain ⟨b, hb, _⟩ := O
      exact (hk.get hb).1
    refine evals_two c48 (fun v h' => Grown h0 h' ∧ Elder h h' ∧
      (match ext E limit (f + 1) zs with
        | some ys => v = .tu [.sl id 0 ys.length (some E.length) 1, .bool true] ∧ OwnK h0.next h'.blks id E.length ys
        | none => v = .tu [.nilsl, .bool false] ∧ OwnK h0.next h'.blks id E.length zs)) rfl ?_
    simp only [sf48, initS_cons, initS_nil]
    have e0 : ((zs.length : Int) == (E.length : Int)) = false := by simp; omega
    simp (disch := first|(simp only [Nat.reduceBEq,wE];done)|((repeat' (first|assumption|exact mAx _|refine mBx ?_ ?_|exact mCx (by assumption)|refine mDx ?_|refine mEx ?_ ?_ ?_|exact mFx|refine mGx ?_ ?_ ?_|exact mHx|exact mIx _|(simp only [wM,Nat.reduceAdd,Nat.reduceLT,Nat.reduceLeDiff];done)));done)|omega|decide) only [O.own.len, a1.len, e0, ↓wA,wB,wL,resOf,Nat.reduceBEq,Int.reduceBEq,Int.reduceBNe,Int.reduceLT,Int.reduceLE,Int.reduceAdd,Int.reduceSub,Int.reduceMul,Int.reduceToNat]
    refine wloop (fun mm ss => ∃ (i : Nat) (h3 : Hp) (u6 u7 u8 u9 u10 u15 u19 u30 u41 : AV), (mm = limit - i) ∧ (i ≤ limit ∧ Grown h0 h3 ∧ Elder h h3 ∧ OwnK h0.next h3.blks id E.length zs ∧ ext E limit (f + 1) zs = firstS (fun k => if Fr E zs k (eg E zs.length) then ext E limit f (zs ++ [(k : Int)]) else none) (limit - i) i) ∧ ss = { fr := [(0, a), (1, .sl id 0 zs.length (some E.length) 1), (2, .int .i64 limit), (6, u6), (7, u7), (8, u8), (9, u9), (10, u10), (15, u15), (17, .int .i64 limit), (18, .int .i64 i), (19, u19), (30, u30), (41, u41)], hp := h3 }) (limit) ?_ ?_
    ·
      refine ⟨0, h.en, _, _, _, _, _, _, _, _, _, by omega, ⟨by omega, g, Elder.en, O, rfl⟩, rfl⟩
    rintro nA sA ⟨i, h3, u6, u7, u8, u9, u10, u15, u19, u30, u41, hnA, ⟨hi, g3, x3, O3, hrun⟩, rfl⟩
    have k3 := g3.ok ho
    have a3 := ha.sub (g3.sub ho)
    simp (disch := first|(simp only [Nat.reduceBEq,wE];done)|((repeat' (first|assumption|exact mAx _|refine mBx ?_ ?_|exact mCx (by assumption)|refine mDx ?_|refine mEx ?_ ?_ ?_|exact mFx|refine mGx ?_ ?_ ?_|exact mHx|exact mIx _|(simp only [wM,Nat.reduceAdd,Nat.reduceLT,Nat.reduceLeDiff];done)));done)|omega|decide) only [↓wA,wB,wL,resOf,Nat.reduceBEq,Int.reduceBEq,Int.reduceBNe,Int.reduceLT,Int.reduceLE,Int.reduceAdd,Int.reduceSub,Int.reduceMul,Int.reduceToNat]
    refine ifThen_intro (fun e => ?_) (fun e => ?_) <;> have eq := e <;> try simp [-List.getD_eq_getElem?_getD] at eq
    · rw [show limit - i = (limit - (i + 1)) + 1 by omega, firstS] at hrun
      have hE1 : zs.length < E.length := by omega
      have fr := f43 (i : Int) (E.getD zs.length (0, 0)) a (.sl id 0 zs.length (some E.length) 1) E zs h3 k3 a3 O3.own.ints (by omega) (by omega)
      by_cases eF : Fr E zs (i : Int) (eg E zs.length)
      · rw [if_pos eF] at hrun
        have eF' : decide (Fr E zs (i : Int) (E.getD zs.length (0, 0))) = true := decide_eq_true eF
        obtain ⟨h4, e4, o4, g4, x4⟩ := appK (v := (i : Int)) ho g3 O3 (by omega) hE
        obtain ⟨v, h5, ev, g5, x5, q5⟩ := IH (zs ++ [(i : Int)]) h4 id (by rw [List.length_append, List.length_singleton]; omega) g4 o4
        rw [List.length_append, List.length_singleton] at ev
        have x6 : Elder h h5 := x3.trans (x4.trans x5)
        cases hx : ext E limit f (zs ++ [(i : Int)]) with
        | some ys =>
          rw [hx] at q5 hrun
          obtain ⟨rfl, o5⟩ := q5
          simp (disch := first|(simp only [Nat.reduceBEq,wE];done)|((repeat' (first|assumption|exact mAx _|refine mBx ?_ ?_|exact mCx (by assumption)|refine mDx ?_|refine mEx ?_ ?_ ?_|exact mFx|refine mGx ?_ ?_ ?_|exact mHx|exact mIx _|(simp only [wM,Nat.reduceAdd,Nat.reduceLT,Nat.reduceLeDiff];done)));done)|omega|decide) only [e, O3.own.len, a3.ix, a3.lda, callT fr, eF', e4, callT ev, ↓wA,wB,wL,resOf,Nat.reduceBEq,Int.reduceBEq,Int.reduceBNe,Int.reduceLT,Int.reduceLE,Int.reduceAdd,Int.reduceSub,Int.reduceMul,Int.reduceToNat]
          refine ⟨_, rfl, x6, ?_⟩
          have gl := grown_leave (v := .tu [.sl id 0 ys.length (some E.length) 1, .bool true]) rfl rfl g g5 ho x6
          refine ⟨gl.1, gl.2, ?_⟩
          rw [hrun]
          exact ⟨rfl, o5.lk hid fun i hi1 hi2 => leave_lk hk x6 i hi2⟩
        | none =>
          rw [hx] at q5 hrun
          obtain ⟨rfl, o5⟩ := q5
          simp (disch := first|(simp only [Nat.reduceBEq,wE];done)|((repeat' (first|assumption|exact mAx _|refine mBx ?_ ?_|exact mCx (by assumption)|refine mDx ?_|refine mEx ?_ ?_ ?_|exact mFx|refine mGx ?_ ?_ ?_|exact mHx|exact mIx _|(simp only [wM,Nat.reduceAdd,Nat.reduceLT,Nat.reduceLeDiff];done)));done)|omega|decide) only [e, O3.own.len, a3.ix, a3.lda, callT fr, eF', e4, callT ev, ↓wA,wB,wL,resOf,Nat.reduceBEq,Int.reduceBEq,Int.reduceBNe,Int.reduceLT,Int.reduceLE,Int.reduceAdd,Int.reduceSub,Int.reduceMul,Int.reduceToNat]
          refine ⟨_, ?_, i + 1, h5, _, _, _, _, _, _, _, _, _, rfl, ?_, rfl⟩
          · omega
          exact ⟨by omega, g5, x6, o5.pre, hrun⟩
      · rw [if_neg eF] at hrun
        have eF' : decide (Fr E zs (i : Int) (E.getD zs.length (0, 0))) = false := decide_eq_false eF
        simp (disch := first|(simp only [Nat.reduceBEq,wE];done)|((repeat' (first|assumption|exact mAx _|refine mBx ?_ ?_|exact mCx (by assumption)|refine mDx ?_|refine mEx ?_ ?_ ?_|exact mFx|refine mGx ?_ ?_ ?_|exact mHx|exact mIx _|(simp only [wM,Nat.reduceAdd,Nat.reduceLT,Nat.reduceLeDiff];done)));done)|omega|decide) only [e, O3.own.len, a3.ix, a3.lda, callT fr, eF', ↓wA,wB,wL,resOf,Nat.reduceBEq,Int.reduceBEq,Int.reduceBNe,Int.reduceLT,Int.reduceLE,Int.reduceAdd,Int.reduceSub,Int.reduceMul,Int.reduceToNat]
        refine ⟨_, ?_, i + 1, h3, _, _, _, _, _, _, _, _, _, rfl, ?_, rfl⟩
        · omega
        exact ⟨by omega, g3, x3, O3, hrun⟩
    · simp (disch := first|(simp only [Nat.reduceBEq,wE];done)|((repeat' (first|assumption|exact mAx _|refine mBx ?_ ?_|exact mCx (by assumption)|refine mDx ?_|refine mEx ?_ ?_ ?_|exact mFx|refine mGx ?_ ?_ ?_|exact mHx|exact mIx _|(simp only [wM,Nat.reduceAdd,Nat.reduceLT,Nat.reduceLeDiff];done)));done)|omega|decide) only [e, ↓wA,wB,wL,resOf,Nat.reduceBEq,Int.reduceBEq,Int.reduceBNe,Int.reduceLT,Int.reduceLE,Int.reduceAdd,Int.reduceSub,Int.reduceMul,Int.reduceToNat]
      refine ⟨_, rfl, x3, ?_⟩
      have gl := grown_leave (v := .tu [.nilsl, .bool false]) rfl rfl g g3 ho x3
      refine ⟨gl.1, gl.2, ?_⟩
      rw [hrun, show limit - i = 0 by omega, firstS]
      exact ⟨rfl, O3.lk hid fun i hi1 hi2 => leave_lk hk x3 i hi2⟩

/- The first colouring, or nothing. -/
def LeastOK (c : Nat) (E : List (Int × Int)) (limit : Nat) (v : AV) (bs : List (Nat × Blk)) : Prop :=
  match ext E limit E.length [] with
  | some ys => Own c bs .i64 v ys ∧ v ≠ .nilsl
  | none => v = .nilsl

theorem LeastOK.leave {h h1 : Hp} {E : List (Int × Int)} {limit : Nat} {v : AV} (q : LeastOK h.next E limit v h1.blks) : (refOK h.next v = true → LeastOK h.next E limit v h.blks) ∧ (refOK h.next v = false → LeastOK h.next E limit v h1.blks) := by
  refine ⟨fun r => ?_, fun _ => q⟩
  unfold LeastOK at q ⊢
  cases hx : ext E limit E.length [] with
  | some ys =>
    rw [hx] at q
    exact ⟨q.1.leave.1 r, q.2⟩
  | none =>
    rw [hx] at q
    exact q

theorem f31 (a : AV) (E : List (Int × Int)) (limit : Nat) (h : Hp) (hk : Hok h) (ha : Pairs h.blks a E) (hE : E.length ≤ 1000) (hl : limit ≤ 100000) :
    ∃ v h', Evals Tryd.prog tab false (.func 31) [a, .int .i64 limit] h (v, h') ∧ Grown h h' ∧ LeastOK h.next E limit v h'.blks := by
  refine evals_q c31 (fun v h' => LeastOK h.next E limit v h'.blks) rfl hk ?_ (fun v h1 g q => q.leave)
  simp only [sf31, initS_cons, initS_nil]
  have mk := sMks_0 (h := h.en) (z := [.int .i64 0]) (n := 1) (c := E.length) (by omega)
  have gp : Grown h (h.en.pu (repl [.int .i64 0] E.length)) := Grown.pu Grown.en (by rw [repl_ints]; exact refsOK_ints)
  have O : OwnK h.next (h.en.pu (repl [.int .i64 0] E.length)).blks h.next E.length [] := ⟨_, lkB_top, by rw [repl_ints]; simp [ints_len], by simp [ints], Nat.le_refl _, Nat.le_refl _, rfl, by simp⟩
  obtain ⟨v, h2, ev, g2, x2, q⟩ := f48 a E limit h hk ha hE hl E.length [] (h.en.pu (repl [.int .i64 0] E.length)) h.next (by simp) gp O
  rw [List.length_nil] at ev
  unfold LeastOK
  cases hx : ext E limit E.length [] with
  | some ys =>
    rw [hx] at q
    obtain ⟨rfl, o⟩ := q
    simp (disch := first|(simp only [Nat.reduceBEq,wE];done)|((repeat' (first|assumption|exact mAx _|refine mBx ?_ ?_|exact mCx (by assumption)|refine mDx ?_|refine mEx ?_ ?_ ?_|exact mFx|refine mGx ?_ ?_ ?_|exact mHx|exact mIx _|(simp only [wM,Nat.reduceAdd,Nat.reduceLT,Nat.reduceLeDiff];done)));done)|omega|decide) only [ha.len, mk, callT ev, ↓wA,wB,wL,resOf,Nat.reduceBEq,Int.reduceBEq,Int.reduceBNe,Int.reduceLT,Int.reduceLE,Int.reduceAdd,Int.reduceSub,Int.reduceMul,Int.reduceToNat]
    exact ⟨_, rfl, g2, o.own, fun e => by cases e⟩
  | none =>
    rw [hx] at q
    obtain ⟨rfl, o⟩ := q
    simp (disch := first|(simp only [Nat.reduceBEq,wE];done)|((repeat' (first|assumption|exact mAx _|refine mBx ?_ ?_|exact mCx (by assumption)|refine mDx ?_|refine mEx ?_ ?_ ?_|exact mFx|refine mGx ?_ ?_ ?_|exact mHx|exact mIx _|(simp only [wM,Nat.reduceAdd,Nat.reduceLT,Nat.reduceLeDiff];done)));done)|omega|decide) only [ha.len, mk, callT ev, ↓wA,wB,wL,resOf,Nat.reduceBEq,Int.reduceBEq,Int.reduceBNe,Int.reduceLT,Int.reduceLE,Int.reduceAdd,Int.reduceSub,Int.reduceMul,Int.reduceToNat]
    exact ⟨_, rfl, g2, rfl⟩
end Go.Proofs.YtpfkmdbdafpadaaDoor
