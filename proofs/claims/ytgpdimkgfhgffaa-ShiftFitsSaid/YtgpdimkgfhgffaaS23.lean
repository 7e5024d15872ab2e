/- Best: First Fit in the order of the beginnings. -/
import Derived.Test.YtgpdimkgfhgffaaS22
import Derived.Test.YtgpdimkgfhgffaaS10
set_option linter.unusedSimpArgs false
set_option linter.unusedVariables false
set_option maxHeartbeats 4000000
set_option maxRecDepth 20000

namespace Go.Abs

theorem sBox_v {h : Hp} {v : AV} (hp : v.parts = some [v] ∧ v.isCell = true) : sBox h v = some (.ptr h.next 0, { next := h.next + 1, blks := (h.next, { cells := [v], ch := h.next, wr := true }) :: h.blks, loops := h.loops, base := h.base, esc := h.esc }) := by
  simp only [sBox, hp.1]
theorem repl_pairs : ∀ n : Nat, repl [.int .i64 0, .int .i64 0] n = pairs (List.replicate n (0, 0))
  | 0 => rfl
  | n + 1 => by
    rw [List.replicate_succ, pairs_cons, ← repl_pairs n]
    rfl
theorem own_setP {h0 h : Hp} {s : AV} {l : List (Int × Int)} {i : Nat} {x y : Int} (ho : Hok h0) (g : Grown h0 h) (O : OwnP h0.next h.blks s l) (hi : i < l.length) :
    ∃ h', sStore 2 h (.ag [.int .i64 x, .int .i64 y]) (cellAt s i) = some (.any, h') ∧ OwnP h0.next h'.blks s (l.set i (x, y)) ∧ Grown h0 h' := by
  obtain ⟨h', e, o, g'⟩ := own_set (v := .ag [.int .i64 x, .int .i64 y]) (vs := [.int .i64 x, .int .i64 y]) ho g O hi rfl rfl rfl rfl
  refine ⟨h', e, ?_, g'⟩
  unfold OwnP
  have : splice (Abs.pairs l) (i * 2) [.int .i64 x, .int .i64 y] = Abs.pairs (l.set i (x, y)) := by
    have hd : ∀ (l : List (Int × Int)) (k : Nat), (Abs.pairs l).drop (k * 2) = Abs.pairs (l.drop k) := fun l => by
      induction l with
      | nil => intro k; simp [Abs.pairs]
      | cons p r ih =>
        intro k
        cases k with
        | zero => rfl
        | succ k =>
          rw [pairs_cons, Nat.succ_mul, List.drop_succ_cons]
          simp only [List.drop_succ_cons]
          exact ih k
    simp only [splice, List.length_cons, List.length_nil, Nat.zero_add, Nat.reduceAdd]
    rw [List.set_eq_take_append_cons_drop, if_pos hi, pairs_append, pairs_cons, pairs_take, show i * 2 + 2 = (i + 1) * 2 by omega, hd]
    simp
  rw [List.length_set, ← this]
  exact o

/-- A slice whose block and chain lie below a bound. -/
def Under (d : Nat) (bs : List (Nat × Blk)) (s : AV) : Prop := ∀ id off len cap sz, s = .sl id off len cap sz → id < d ∧ ∃ b, lkB bs id = some b ∧ b.ch < d
theorem Under.of {h : Hp} {sz c n : Nat} {s : AV} {cs : List AV} (O : OwnA sz c h.blks s n cs) (hk : Hok h) : Under h.next h.blks s := by
  intro id off len cap sz' e
  obtain ⟨_, ⟨_, rfl⟩ | ⟨id', b, cap', rfl, h1, _⟩⟩ := O
  · cases e
  · cases e
    have := hk.get h1
    exact ⟨this.1, b, h1, by omega⟩
theorem Under.sub {d : Nat} {bs bs' : List (Nat × Blk)} {s : AV} (U : Under d bs s) (t : Sub bs bs') : Under d bs' s := by
  intro id off len cap sz e
  obtain ⟨h1, b, h2, h3⟩ := U id off len cap sz e
  exact ⟨h1, b, t _ _ h2, h3⟩
theorem write_keep {h h' : Hp} {id off d : Nat} {vs : List AV} {b : Blk} (hb : lkB h.blks id = some b) (hid : id < d) (hch : b.ch < d) (e : h.write id off vs = some h') {sz n : Nat} {t : AV} {cs : List AV} (O : OwnA sz d h.blks t n cs) : OwnA sz d h'.blks t n cs := by
  obtain ⟨h1, h2 | ⟨idt, bt, cap, h3, h4, h5, h6, h7, h8⟩⟩ := O
  · exact ⟨h1, .inl h2⟩
  · refine ⟨h1, .inr ⟨idt, bt, cap, h3, ?_, h5, h6, h7, h8⟩⟩
    unfold Hp.write at e
    simp only [hb] at e
    cases hc : (b.wr && Nat.ble (off + vs.length) b.cells.length && vs.all AV.isCell)
    · rw [hc] at e
      cases e
    · rw [hc] at e
      cases e
      simp only
      rw [lkB_setB_other _ _ _ _ (by omega)]
      exact lkB_trunc_some _ _ _ h4 (.inl (by omega))
/-- A write to a slice of one's own that leaves later ones as they are. -/
theorem own_set2 {h0 h : Hp} {d : Nat} {s : AV} {zs : List Int} {i : Nat} {v : Int} (ho : Hok h0) (g : Grown h0 h) (O : Own h0.next h.blks .i64 s zs) (U : Under d h.blks s) (hi : i < zs.length) :
    ∃ h', sStore 1 h (.int .i64 v) (cellAt s i) = some (.any, h') ∧ Own h0.next h'.blks .i64 s (zs.set i v) ∧ Grown h0 h' ∧ Under d h'.blks s ∧ ∀ t xs, Own d h.blks .i64 t xs → Own d h'.blks .i64 t xs := by
  have O' := O
  obtain ⟨h', e, o, g'⟩ := own_setI (v := v) ho g O hi
  obtain ⟨hl, ⟨h1, rfl⟩ | ⟨id, b, cap, rfl, h1, h2, h3, h4, h5, h6⟩⟩ := O'
  · omega
  · obtain ⟨u1, b', u2, u3⟩ := U _ _ _ _ _ rfl
    rw [h1] at u2
    cases u2
    have ew : h.write id (0 + i * 1) [.int .i64 v] = some h' := by
      simp only [cellAt, sStore, AV.parts, List.length_cons, List.length_nil, Nat.zero_add, Nat.beq_refl, cond_true, Option.map_eq_some_iff] at e
      obtain ⟨h2, e1, e2⟩ := e
      cases e2
      simpa only [Nat.zero_add] using e1
    refine ⟨h', e, o, g', fun id2 off len cap2 sz e2 => ?_, fun t xs T => write_keep h1 u1 u3 ew T⟩
    cases e2
    refine ⟨u1, ?_⟩
    unfold Hp.write at ew
    simp only [h1] at ew
    cases hc : (b.wr && Nat.ble (0 + i * 1 + [AV.int .i64 v].length) b.cells.length && [AV.int .i64 v].all AV.isCell)
    · rw [hc] at ew
      cases ew
    · rw [hc] at ew
      cases ew
      exact ⟨_, lkB_setB_same _ _ _ _ (lkB_trunc_some _ _ _ h1 (.inr rfl)), u3⟩

end Go.Abs


namespace Go.Sh

/-- What Best returns. -/
structure BestOK (l : List Span) (ord C : List Int) : Prop where
  len : ord.length = l.length
  rng : ∀ t, t < l.length → 0 ≤ gz ord t ∧ gz ord t < l.length
  srt : Srt (fun z => (sg l z.toNat).1) ord 0 l.length
  clen : C.length = l.length
  col : ∀ t, t < l.length → gz C (gz ord t).toNat = gz (fit (ord.map fun z => sg l z.toNat)) t

end Go.Sh


namespace Go.Proofs.Ytgpdimkgfhgffaa

open Go Go.Abs Go.Sh

theorem f11 (a : AV) (l : List Span) (h : Hp) (hk : Hok h) (ha : Pairs h.blks a l) (hr : refOK h.next a = true) (hb : bad l = 0) :
    ∃ r h', Evals Try.prog tab false (.func 11) [a] h (r, h') ∧ Grown h h' ∧ ∃ ord C, Res h.next h'.blks 0 C r ∧ BestOK l ord C := by
  refine evals_q c11 (fun r h' => ∃ ord C, Res h.next h'.blks 0 C r ∧ BestOK l ord C) rfl hk ?_ (fun v h1 g q => by
    obtain ⟨ord, C, q1, q2⟩ := q
    exact ⟨fun hh => ⟨ord, C, q1.leave.1 hh, q2⟩, fun hh => ⟨ord, C, q1.leave.2 hh, q2⟩⟩)
  simp only [sf11, initS_cons, initS_nil]
  have hl := (bad_0 hb).1
  have kb : Hok (h.en.pu [a]) := Hok.pu hk (by simp only [refsOK_cons, refsOK_nil, Bool.and_true]; exact refOK_mono (Nat.le_succ _) hr)
  have ab : Pairs (h.en.pu [a]).blks a l := ha.sub (Sub.pu (h := h.en) (cs := [a]) hk)
  have bx : Box (h.en.pu [a]).blks h.next [a] := Box.top
  have gb : Grown h (h.en.pu [a]) := Grown.pu Grown.en (by simp only [refsOK_cons, refsOK_nil, Bool.and_true]; exact refOK_mono (Nat.le_succ _) hr)
  have mk := fun (hh : Hp) (z : List AV) (m : Nat) => sMks_ok (h := hh) (z := z) (n := m) (l := l.length) (c := l.length) (Nat.le_refl _) (by omega)
  have rep : Own (h.next + 1) ((h.next + 1, { cells := Abs.ints .i64 (List.replicate l.length 0), ch := h.next + 1, wr := true }) :: (h.en.pu [a]).blks) .i64 (.sl (h.next + 1) 0 l.length (some l.length) 1) (List.replicate l.length 0) :=
    Own.fresh (Nat.le_refl _) (by simp) (by rw [ints_take, List.take_of_length_le (by simp)]) (by simp [ints_len]) (Nat.le_refl _)
  simp (disch := first|(simp only [Nat.reduceBEq,wE];done)|((repeat' (first|assumption|exact mAx _|refine mBx ?_ ?_|exact mCx (by assumption)|refine mDx ?_|refine mEx ?_ ?_ ?_|exact mFx|refine mGx ?_ ?_ ?_|exact mHx|exact mIx _|(simp only [wM,Nat.reduceAdd,Nat.reduceLT,Nat.reduceLeDiff];done)));done)|omega|decide) only [sBox_v (Arr.cell ha), callT (f15 a l (h.en.pu [a]) kb ab (by omega)), hb, ab.len, mk, repl_ints, ↓wA,wB,wL,resOf,Nat.reduceBEq,Int.reduceBEq,Int.reduceBNe,Int.reduceLT,Int.reduceLE,Int.reduceAdd,Int.reduceSub,Int.reduceMul,Int.reduceToNat]
  refine wloop (fun mm ss => ∃ (i : Nat) (q : AV) (zs : List Int) (h3 : Hp) (u0 u2 u3 u4 u6 u7 u8 u9 u10 u11 u12 u16 u24 u37 u38 u39 u40 u56 u57 u58 u59 : AV), (mm = l.length - i) ∧ (i ≤ l.length ∧ Grown (h.en.pu [a]) h3 ∧ Own (h.next + 1) h3.blks .i64 q zs ∧ zs.length = l.length ∧ ∀ y, y < i → gz zs y = y) ∧ ss = { fr := [(0, u0), (1, .ptr h.next 0), (2, u2), (3, u3), (4, u4), (5, q), (6, u6), (7, u7), (8, u8), (9, u9), (10, u10), (11, u11), (12, u12), (16, u16), (22, .int .i64 l.length), (23, .int .i64 i), (24, u24), (37, u37), (38, u38), (39, u39), (40, u40), (56, u56), (57, u57), (58, u58), (59, u59)], hp := h3 }) (l.length) ?_ ?_
  ·
    refine ⟨0, _, List.replicate l.length 0, _, _, _, _, _, _, _, _, _, _, _, _, _, _, _, _, _, _, _, _, _, _, by omega, ⟨by omega, GrownR.push Grown.refl refsOK_ints (Nat.le_refl _), rep, by simp, fun y hy => by omega⟩, rfl⟩
  rintro nA sA ⟨i, q, zs, h3, u0, u2, u3, u4, u6, u7, u8, u9, u10, u11, u12, u16, u24, u37, u38, u39, u40, u56, u57, u58, u59, hnA, ⟨hi, g3, o3, l3, r3⟩, rfl⟩
  simp (disch := first|(simp only [Nat.reduceBEq,wE];done)|((repeat' (first|assumption|exact mAx _|refine mBx ?_ ?_|exact mCx (by assumption)|refine mDx ?_|refine mEx ?_ ?_ ?_|exact mFx|refine mGx ?_ ?_ ?_|exact mHx|exact mIx _|(simp only [wM,Nat.reduceAdd,Nat.reduceLT,Nat.reduceLeDiff];done)));done)|omega|decide) only [↓wA,wB,wL,resOf,Nat.reduceBEq,Int.reduceBEq,Int.reduceBNe,Int.reduceLT,Int.reduceLE,Int.reduceAdd,Int.reduceSub,Int.reduceMul,Int.reduceToNat]
  refine ifThen_intro (fun e => ?_) (fun e => ?_) <;> have eq := e <;> try simp [-List.getD_eq_getElem?_getD] at eq
  · obtain ⟨h4, e4, o4, g4⟩ := own_setI (v := (i : Int)) (i := i) kb g3 o3 (by omega)
    simp (disch := first|(simp only [Nat.reduceBEq,wE];done)|((repeat' (first|assumption|exact mAx _|refine mBx ?_ ?_|exact mCx (by assumption)|refine mDx ?_|refine mEx ?_ ?_ ?_|exact mFx|refine mGx ?_ ?_ ?_|exact mHx|exact mIx _|(simp only [wM,Nat.reduceAdd,Nat.reduceLT,Nat.reduceLeDiff];done)));done)|omega|decide) only [e, o3.ints.ix, e4, ↓wA,wB,wL,resOf,Nat.reduceBEq,Int.reduceBEq,Int.reduceBNe,Int.reduceLT,Int.reduceLE,Int.reduceAdd,Int.reduceSub,Int.reduceMul,Int.reduceToNat]
    refine ⟨_, ?_, i + 1, q, zs.set i (i : Int), h4, _, _, _, _, _, _, _, _, _, _, _, _, _, _, _, _, _, _, _, _, _, rfl, ?_, rfl⟩
    · omega
    refine ⟨by omega, g4, o4, by simpa using l3, fun y hy => ?_⟩
    rw [gz_set (by omega)]
    by_cases ey : y = i
    · rw [if_pos ey, ey]
    · rw [if_neg ey]; exact r3 y (by omega)
  · have k3 := g3.ok kb
    have hc : CmpOK (h.en.pu [a]) l.length 27 [.ptr h.next 0] (fun z => (sg l z.toNat).1) := by
      intro h' x y hk' hs' hx hy
      refine ⟨_, f27 x y a h.next l h' hk' (bx.sub hs') (ab.sub hs') hx hy, ?_⟩
      by_cases c1 : (sg l x.toNat).1 < (sg l y.toNat).1
      · rw [if_pos c1]; simp [c1]
      · rw [if_neg c1]; split <;> simp [c1]
    have r3' : ∀ y, y < l.length → gz zs y = y := fun y hy => r3 y (by omega)
    simp (disch := first|(simp only [Nat.reduceBEq,wE];done)|((repeat' (first|assumption|exact mAx _|refine mBx ?_ ?_|exact mCx (by assumption)|refine mDx ?_|refine mEx ?_ ?_ ?_|exact mFx|refine mGx ?_ ?_ ?_|exact mHx|exact mIx _|(simp only [wM,Nat.reduceAdd,Nat.reduceLT,Nat.reduceLeDiff];done)));done)|omega|decide) only [e, ↓wA,wB,wL,resOf,Nat.reduceBEq,Int.reduceBEq,Int.reduceBNe,Int.reduceLT,Int.reduceLE,Int.reduceAdd,Int.reduceSub,Int.reduceMul,Int.reduceToNat]
    refine callE (f26 q 27 [.ptr h.next 0] (fun z => (sg l z.toNat).1) l.length zs (h.en.pu [a]) h3 kb g3 o3 (by omega) hc (fun y hy => by rw [r3' y (by omega)]; omega) (fun x y h1 h2 h3 => by rw [r3' x (by omega), r3' y (by omega)]; omega)) ?_
    rintro v h4 ⟨rfl, m4, g4, ord, o4, S, T⟩
    have k4 := g4.ok kb
    have a4 := ab.sub (g4.sub kb)
    have b4 := bx.sub (g4.sub kb)
    have lo : ord.length = l.length := S.len.trans l3
    have ro : ∀ t, t < l.length → ∃ j : Nat, gz ord t = (j : Int) ∧ j < l.length := fun t ht => by
      obtain ⟨k, _, k2, ek⟩ := S.mem t (Nat.zero_le _) (by omega)
      exact ⟨k, by rw [ek, r3' k (by omega)], by omega⟩
    rw [l3] at T
    have inj : ∀ x y, x < y → y < l.length → gz ord x ≠ gz ord y := fun x y h1 h2 he => by
      have := T x y (Nat.zero_le _) h1 h2
      rw [he] at this
      exact this.irrefl
    have rep2 : OwnP h4.next ((h4.next, { cells := Abs.pairs (List.replicate l.length (0, 0)), ch := h4.next, wr := true }) :: h4.blks) (.sl h4.next 0 l.length (some l.length) 2) (List.replicate l.length (0, 0)) :=
      OwnP.fresh (Nat.le_refl _) (by simp) (by rw [pairs_take, List.take_of_length_le (by simp)]) (by simp [pairs_len]) (Nat.le_refl _)
    simp (disch := first|(simp only [Nat.reduceBEq,wE];done)|((repeat' (first|assumption|exact mAx _|refine mBx ?_ ?_|exact mCx (by assumption)|refine mDx ?_|refine mEx ?_ ?_ ?_|exact mFx|refine mGx ?_ ?_ ?_|exact mHx|exact mIx _|(simp only [wM,Nat.reduceAdd,Nat.reduceLT,Nat.reduceLeDiff];done)));done)|omega|decide) only [e, b4.ld, a4.len, mk, repl_pairs, o4.len, lo, ↓wA,wB,wL,resOf,Nat.reduceBEq,Int.reduceBEq,Int.reduceBNe,Int.reduceLT,Int.reduceLE,Int.reduceAdd,Int.reduceSub,Int.reduceMul,Int.reduceToNat]
    refine wloop (fun mm ss => ∃ (t : Nat) (p : AV) (L : List Span) (h5 : Hp) (u0 u2 u3 u4 u6 u8 u9 u10 u11 u12 u16 u22 u23 u24 u40 u56 u57 u58 u59 : AV), (mm = l.length - t) ∧ (t ≤ l.length ∧ Grown h4 h5 ∧ OwnP h4.next h5.blks p L ∧ L.length = l.length ∧ ∀ y, y < t → sg L y = sg l (gz ord y).toNat) ∧ ss = { fr := [(0, u0), (1, .ptr h.next 0), (2, u2), (3, u3), (4, u4), (5, q), (6, u6), (7, p), (8, u8), (9, u9), (10, u10), (11, u11), (12, u12), (16, u16), (22, u22), (23, u23), (24, u24), (37, q), (38, .int .i64 l.length), (39, .int .i64 t), (40, u40), (56, u56), (57, u57), (58, u58), (59, u59)], hp := h5 }) (l.length) ?_ ?_
    ·
      refine ⟨0, _, List.replicate l.length (0, 0), _, _, _, _, _, _, _, _, _, _, _, _, _, _, _, _, _, _, _, _, by omega, ⟨by omega, GrownR.push Grown.refl refsOK_pairs (Nat.le_refl _), rep2, by simp, fun y hy => by omega⟩, rfl⟩
    rintro nB sB ⟨t, p, L, h5, u0, u2, u3, u4, u6, u8, u9, u10, u11, u12, u16, u22, u23, u24, u40, u56, u57, u58, u59, hnB, ⟨ht, g5, p5, lL, rL⟩, rfl⟩
    have k5 := g5.ok k4
    have a5 := a4.sub (g5.sub k4)
    have b5 := b4.sub (g5.sub k4)
    have q5 := o4.sub (g5.sub k4)
    simp (disch := first|(simp only [Nat.reduceBEq,wE];done)|((repeat' (first|assumption|exact mAx _|refine mBx ?_ ?_|exact mCx (by assumption)|refine mDx ?_|refine mEx ?_ ?_ ?_|exact mFx|refine mGx ?_ ?_ ?_|exact mHx|exact mIx _|(simp only [wM,Nat.reduceAdd,Nat.reduceLT,Nat.reduceLeDiff];done)));done)|omega|decide) only [e, ↓wA,wB,wL,resOf,Nat.reduceBEq,Int.reduceBEq,Int.reduceBNe,Int.reduceLT,Int.reduceLE,Int.reduceAdd,Int.reduceSub,Int.reduceMul,Int.reduceToNat]
    refine ifThen_intro (fun e2 => ?_) (fun e2 => ?_) <;> have e2q := e2 <;> try simp [-List.getD_eq_getElem?_getD] at e2q
    · obtain ⟨j, hj1, hj2⟩ := ro t e2q
      obtain ⟨h6, e6, o6, g6⟩ := own_setP (x := (sg l j).1) (y := (sg l j).2) (i := t) k4 g5 p5 (by omega)
      have hd : l.getD j (0, 0) = sg l j := rfl
      have hj1' : ord.getD t 0 = (j : Int) := hj1
      simp (disch := first|(simp only [Nat.reduceBEq,wE];done)|((repeat' (first|assumption|exact mAx _|refine mBx ?_ ?_|exact mCx (by assumption)|refine mDx ?_|refine mEx ?_ ?_ ?_|exact mFx|refine mGx ?_ ?_ ?_|exact mHx|exact mIx _|(simp only [wM,Nat.reduceAdd,Nat.reduceLT,Nat.reduceLeDiff];done)));done)|omega|decide) only [e, e2, q5.ints.ix, q5.ints.ld, hj1', b5.ld, a5.ix, a5.lda, hd, p5.pairs.ix, e6, ↓wA,wB,wL,resOf,Nat.reduceBEq,Int.reduceBEq,Int.reduceBNe,Int.reduceLT,Int.reduceLE,Int.reduceAdd,Int.reduceSub,Int.reduceMul,Int.reduceToNat]
      refine ⟨_, ?_, t + 1, p, L.set t (sg l j), h6, _, _, _, _, _, _, _, _, _, _, _, _, _, _, _, _, _, _, _, rfl, ?_, rfl⟩
      · omega
      refine ⟨by omega, g6, o6, by simpa using lL, fun y hy => ?_⟩
      have hs : sg (L.set t (sg l j)) y = if y = t then sg l j else sg L y := by
        simp only [sg, List.getD_eq_getElem?_getD, List.getElem?_set]
        by_cases e3 : t = y
        · subst e3; simp [show t < L.length by omega]
        · simp [e3, Ne.symm e3]
      rw [hs]
      by_cases ey : y = t
      · rw [if_pos ey, ey, hj1]; simp
      · rw [if_neg ey]; exact rL y (by omega)
    · have rL' : ∀ y, y < l.length → sg L y = sg l (gz ord y).toNat := fun y hy => rL y (by omega)
      have hL : L = ord.map fun z => sg l z.toNat := by
        refine List.ext_getElem (by simp; omega) fun y h1 h2 => ?_
        have h3 := rL' y (by omega)
        simp only [sg, gz, List.getD_eq_getElem?_getD, List.getElem?_eq_getElem h1, List.getElem?_eq_getElem (show y < ord.length by omega), Option.getD_some] at h3
        simp only [List.getElem_map, sg, List.getD_eq_getElem?_getD]
        exact h3
      have k6 : Hok (h5.pu (Abs.ints .i64 (List.replicate l.length 0))) := Hok.pu k5 refsOK_ints
      have c6 : Own h5.next (h5.pu (Abs.ints .i64 (List.replicate l.length 0))).blks .i64 (.sl h5.next 0 l.length (some l.length) 1) (List.replicate l.length 0) :=
        Own.fresh (Nat.le_refl _) (by simp) (by rw [ints_take, List.take_of_length_le (by simp)]) (by simp [ints_len]) (Nat.le_refl _)
      have u6 := Under.of c6 k6
      have hfl : (fit L).length = l.length := by rw [← lL]; exact onl_len _ _ _
      simp (disch := first|(simp only [Nat.reduceBEq,wE];done)|((repeat' (first|assumption|exact mAx _|refine mBx ?_ ?_|exact mCx (by assumption)|refine mDx ?_|refine mEx ?_ ?_ ?_|exact mFx|refine mGx ?_ ?_ ?_|exact mHx|exact mIx _|(simp only [wM,Nat.reduceAdd,Nat.reduceLT,Nat.reduceLeDiff];done)));done)|omega|decide) only [e, e2, b5.ld, a5.len, mk, repl_ints, ↓wA,wB,wL,resOf,Nat.reduceBEq,Int.reduceBEq,Int.reduceBNe,Int.reduceLT,Int.reduceLE,Int.reduceAdd,Int.reduceSub,Int.reduceMul,Int.reduceToNat]
      refine callE (f25 p L (h5.pu (Abs.ints .i64 (List.replicate l.length 0))) k6 (p5.pairs.sub (Sub.pu k5)) (by omega)) ?_
      rintro u h7 ⟨g7, of⟩
      have c7 := c6.sub (g7.sub k6)
      have u7 := u6.sub (g7.sub k6)
      have G57 : Grown h5 h7 := GrownR.trans (Grown.pu Grown.refl refsOK_ints) g7
      simp (disch := first|(simp only [Nat.reduceBEq,wE];done)|((repeat' (first|assumption|exact mAx _|refine mBx ?_ ?_|exact mCx (by assumption)|refine mDx ?_|refine mEx ?_ ?_ ?_|exact mFx|refine mGx ?_ ?_ ?_|exact mHx|exact mIx _|(simp only [wM,Nat.reduceAdd,Nat.reduceLT,Nat.reduceLeDiff];done)));done)|omega|decide) only [e, e2, of.len, hfl, ↓wA,wB,wL,resOf,Nat.reduceBEq,Int.reduceBEq,Int.reduceBNe,Int.reduceLT,Int.reduceLE,Int.reduceAdd,Int.reduceSub,Int.reduceMul,Int.reduceToNat]
      refine wloop (fun mm ss => ∃ (t : Nat) (C : List Int) (h8 : Hp) (u0 u1 u2 u3 u4 u6 u7 u8 u9 u11 u12 u16 u22 u23 u24 u37 u38 u39 u40 u59 : AV), (mm = l.length - t) ∧ (t ≤ l.length ∧ Grown h5 h8 ∧ Own h5.next h8.blks .i64 (.sl h5.next 0 l.length (some l.length) 1) C ∧ Under (h5.next + 1) h8.blks (.sl h5.next 0 l.length (some l.length) 1) ∧ Own (h5.next + 1) h8.blks .i64 u (fit L) ∧ C.length = l.length ∧ ∀ y, y < t → gz C (gz ord y).toNat = gz (fit L) y) ∧ ss = { fr := [(0, u0), (1, u1), (2, u2), (3, u3), (4, u4), (5, q), (6, u6), (7, u7), (8, u8), (9, u9), (10, .sl h5.next 0 l.length (some l.length) 1), (11, u11), (12, u12), (16, u16), (22, u22), (23, u23), (24, u24), (37, u37), (38, u38), (39, u39), (40, u40), (56, u), (57, .int .i64 l.length), (58, .int .i64 t), (59, u59)], hp := h8 }) (l.length) ?_ ?_
      ·
        refine ⟨0, List.replicate l.length 0, h7, _, _, _, _, _, _, _, _, _, _, _, _, _, _, _, _, _, _, _, _, by omega, ⟨by omega, G57, c7, u7, of, by simp, fun y hy => by omega⟩, rfl⟩
      rintro nD sD ⟨t, C, h8, u0, u1, u2, u3, u4, u6, u7, u8, u9, u11, u12, u16, u22, u23, u24, u37, u38, u39, u40, u59, hnD, ⟨ht8, g8, c8, u8, f8, lC, rC⟩, rfl⟩
      have q8 := q5.sub (g8.sub k5)
      simp (disch := first|(simp only [Nat.reduceBEq,wE];done)|((repeat' (first|assumption|exact mAx _|refine mBx ?_ ?_|exact mCx (by assumption)|refine mDx ?_|refine mEx ?_ ?_ ?_|exact mFx|refine mGx ?_ ?_ ?_|exact mHx|exact mIx _|(simp only [wM,Nat.reduceAdd,Nat.reduceLT,Nat.reduceLeDiff];done)));done)|omega|decide) only [e, e2, ↓wA,wB,wL,resOf,Nat.reduceBEq,Int.reduceBEq,Int.reduceBNe,Int.reduceLT,Int.reduceLE,Int.reduceAdd,Int.reduceSub,Int.reduceMul,Int.reduceToNat]
      refine ifThen_intro (fun e3 => ?_) (fun e3 => ?_) <;> have e3q := e3 <;> try simp [-List.getD_eq_getElem?_getD] at e3q
      · obtain ⟨j, hj1, hj2⟩ := ro _ e3q
        have hj1' : ord.getD t 0 = (j : Int) := hj1
        obtain ⟨h9, e9, c9, g9, u9, f9⟩ := own_set2 (v := (fit L).getD t 0) (i := j) k5 g8 c8 u8 (by omega)
        simp (disch := first|(simp only [Nat.reduceBEq,wE];done)|((repeat' (first|assumption|exact mAx _|refine mBx ?_ ?_|exact mCx (by assumption)|refine mDx ?_|refine mEx ?_ ?_ ?_|exact mFx|refine mGx ?_ ?_ ?_|exact mHx|exact mIx _|(simp only [wM,Nat.reduceAdd,Nat.reduceLT,Nat.reduceLeDiff];done)));done)|omega|decide) only [e, e2, e3, f8.ints.ix, f8.ints.ld, q8.ints.ix, q8.ints.ld, hj1', c8.ints.ix, e9, ↓wA,wB,wL,resOf,Nat.reduceBEq,Int.reduceBEq,Int.reduceBNe,Int.reduceLT,Int.reduceLE,Int.reduceAdd,Int.reduceSub,Int.reduceMul,Int.reduceToNat]
        refine ⟨_, ?_, t + 1, C.set j ((fit L).getD t 0), h9, _, _, _, _, _, _, _, _, _, _, _, _, _, _, _, _, _, _, _, _, rfl, ?_, rfl⟩
        · omega
        refine ⟨by omega, g9, c9, u9, f9 _ _ f8, by simpa using lC, fun y hy => ?_⟩
        rw [gz_set (by omega)]
        by_cases ey : y = t
        · rw [ey, hj1, if_pos (by simp)]
        · have hne := inj y t (by omega) e3q
          obtain ⟨m, hm1, hm2⟩ := ro y (by omega)
          rw [hm1] at hne
          rw [hj1] at hne
          rw [if_neg (by rw [hm1]; simp; omega)]
          exact rC y (by omega)
      · simp (disch := first|(simp only [Nat.reduceBEq,wE];done)|((repeat' (first|assumption|exact mAx _|refine mBx ?_ ?_|exact mCx (by assumption)|refine mDx ?_|refine mEx ?_ ?_ ?_|exact mFx|refine mGx ?_ ?_ ?_|exact mHx|exact mIx _|(simp only [wM,Nat.reduceAdd,Nat.reduceLT,Nat.reduceLeDiff];done)));done)|omega|decide) only [e, e2, e3, ↓wA,wB,wL,resOf,Nat.reduceBEq,Int.reduceBEq,Int.reduceBNe,Int.reduceLT,Int.reduceLE,Int.reduceAdd,Int.reduceSub,Int.reduceMul,Int.reduceToNat]
        refine ⟨_, rfl, GrownR.trans gb (GrownR.trans g4 (GrownR.trans g5 g8)), ord, C, ⟨_, rfl, ?_⟩, ⟨lo, fun t ht => ?_, T, lC, fun t ht => ?_⟩⟩
        · rw [if_pos rfl]
          exact c8.le (Nat.le_trans gb.next (Nat.le_trans g4.next g5.next))
        · obtain ⟨j, hj1, hj2⟩ := ro t ht
          rw [hj1]; omega
        · rw [← hL]
          exact rC t (by omega)

end Go.Proofs.Ytgpdimkgfhgffaa

