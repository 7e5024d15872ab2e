/- connect. -/
import Derived.Test.YtpfkmdbdafpadaaDoorDX
set_option linter.unusedSimpArgs false
set_option linter.unusedVariables false
set_option maxHeartbeats 8000000
set_option maxRecDepth 20000
namespace Go.Proofs.YtpfkmdbdafpadaaDoor
open Go Go.Abs Go.Pa

theorem f28 (p : Int × Int) (bid n m : Nat) (E : List (Int × Int)) (zs : List Int) (sE sZ : AV) (h0 h : Hp) (ho : Hok h0) (g : Grown h0 h) (B : Brd h0.next h.blks bid n m E zs sE sZ) (hl : zs.length = E.length) (hE : E.length ≤ 1000) (hp : p.2 ≠ -1)
    (hn : 0 < n ∧ n ≤ 1000) (hm : m ≤ 1000) (bE : ∀ c ∈ E, (0 ≤ c.1 ∧ c.1 ≤ 100000) ∧ (0 ≤ c.2 ∧ c.2 ≤ 100000)) (bp : (0 ≤ p.1 ∧ p.1 ≤ 100000) ∧ (0 ≤ p.2 ∧ p.2 ≤ 100000)) :
    ∃ v h', Evals Tryd.prog tab false (.func 28) [.ptr bid 0, .ag [.int .i64 p.1, .int .i64 p.2]] h (v, h') ∧ (v = .int .i64 (stepC n m (E, zs) p).1 ∧ Grown h0 h' ∧ Elder h h' ∧
      (∃ sE' sZ', Brd h0.next h'.blks bid n m (stepC n m (E, zs) p).2.1 (stepC n m (E, zs) p).2.2 sE' sZ' ∧ (chOf h'.blks sE' = chOf h.blks sE ∨ ∃ k, chOf h'.blks sE' = some k ∧ h.next ≤ k) ∧ (chOf h'.blks sZ' = chOf h.blks sZ ∨ ∃ k, chOf h'.blks sZ' = some k ∧ h.next ≤ k)) ∧
      ∀ j d, lkB h.blks j = some d → d.ch ≠ bid → some d.ch ≠ chOf h.blks sE → some d.ch ≠ chOf h.blks sZ → lkB h'.blks j = some d) := by
  have hk := g.ok ho
  have hb := (hk.get B.blk).1
  obtain ⟨S, eS⟩ : ∃ S, S = stepC n m (E, zs) p := ⟨_, rfl⟩
  rw [← eS]
  refine evals_two c28 (fun v h' => v = .int .i64 S.1 ∧ Grown h0 h' ∧ Elder h h' ∧
      (∃ sE' sZ', Brd h0.next h'.blks bid n m S.2.1 S.2.2 sE' sZ' ∧ (chOf h'.blks sE' = chOf h.blks sE ∨ ∃ k, chOf h'.blks sE' = some k ∧ h.next ≤ k) ∧ (chOf h'.blks sZ' = chOf h.blks sZ ∨ ∃ k, chOf h'.blks sZ' = some k ∧ h.next ≤ k)) ∧
      ∀ j d, lkB h.blks j = some d → d.ch ≠ bid → some d.ch ≠ chOf h.blks sE → some d.ch ≠ chOf h.blks sZ → lkB h'.blks j = some d) rfl ?_
  simp only [sf28, initS_cons, initS_nil]
  obtain ⟨h1, eh1⟩ : ∃ h1 : Hp, h1 = h.en.pu [.int .i64 p.1, .int .i64 p.2] := ⟨_, rfl⟩
  have k1 : Hok h1 := by rw [eh1]; exact Hok.pu hk rfl
  have s1 : Sub h.blks h1.blks := by rw [eh1]; exact Sub.pu (h := h.en) hk
  have g1 : Grown h0 h1 := by rw [eh1]; exact Grown.pu (show Grown h0 h.en from g) rfl
  have x1 : Elder h h1 := by rw [eh1]; exact Elder.of_en (GrownR.elder (Grown.pu (h := h.en) Grown.refl rfl))
  have bx : Box h1.blks h.next [.int .i64 p.1, .int .i64 p.2] := by rw [eh1]; exact Box.top
  have B1 := B.sub s1
  -- what ends without a change
  have keep : ∀ (h5 : Hp) (r : Int), Sub h1.blks h5.blks → Grown h0 h5 → Elder h h5 → S = (r, (E, zs)) →
      (.int .i64 r : AV) = .int .i64 S.1 ∧ Grown h0 (Abs.leave false h (.int .i64 r) h5) ∧ Elder h (Abs.leave false h (.int .i64 r) h5) ∧
      (∃ sE' sZ', Brd h0.next (Abs.leave false h (.int .i64 r) h5).blks bid n m S.2.1 S.2.2 sE' sZ' ∧ (chOf (Abs.leave false h (.int .i64 r) h5).blks sE' = chOf h.blks sE ∨ ∃ k, chOf (Abs.leave false h (.int .i64 r) h5).blks sE' = some k ∧ h.next ≤ k) ∧ (chOf (Abs.leave false h (.int .i64 r) h5).blks sZ' = chOf h.blks sZ ∨ ∃ k, chOf (Abs.leave false h (.int .i64 r) h5).blks sZ' = some k ∧ h.next ≤ k)) ∧
      ∀ j d, lkB h.blks j = some d → d.ch ≠ bid → some d.ch ≠ chOf h.blks sE → some d.ch ≠ chOf h.blks sZ → lkB (Abs.leave false h (.int .i64 r) h5).blks j = some d := fun h5 r s5 g5 x5 e => by
    have B5 := B1.sub s5
    have gl := grown_leave (v := .int .i64 r) rfl rfl g g5 ho x5
    rw [e]
    have w1 := B5.e.lk (bs' := (Abs.leave false h (.int .i64 r) h5).blks) fun id off n cap sz e => lk_leave x5 hk hb B5.blk (by simp) e
    have w2 := B5.z.lk (bs' := (Abs.leave false h (.int .i64 r) h5).blks) fun id off n cap sz e => lk_leave x5 hk hb B5.blk (by simp) e
    refine ⟨rfl, gl.1, gl.2, ⟨sE, sZ, B5.leave x5 hk hb, .inl ?_, .inl ?_⟩, fun j d hd _ _ _ => ?_⟩
    · rw [w1.2, B1.e.chSub s5, B.e.chSub s1]
    · rw [w2.2, B1.z.chSub s5, B.z.chSub s1]
    · rw [leave_lk hk x5 j (hk.get hd).1]
      exact s5 _ _ (s1 _ _ hd)
  have l2 : cellB h1.blks bid 2 = some sE := by simp [cellB, B1.blk]
  have CF := f16 sE E 41 [.ptr h.next 0] (fun c => decide (c.1 = p.1) || decide (c.2 = p.2)) h1 k1 B1.e.arr (by omega)
    (fun c _ => f41 c p h.next _ k1 bx)
  cases hf : E.any (fun c => decide (c.1 = p.1) || decide (c.2 = p.2)) with
  | true =>
    rw [hf] at CF
    rw [eh1] at l2 CF
    simp (disch := first|(simp only [Nat.reduceBEq,wE];done)|((repeat' (first|assumption|exact mAx _|refine mBx ?_ ?_|exact mCx (by assumption)|refine mDx ?_|refine mEx ?_ ?_ ?_|exact mFx|refine mGx ?_ ?_ ?_|exact mHx|exact mIx _|(simp only [wM,Nat.reduceAdd,Nat.reduceLT,Nat.reduceLeDiff];done)));done)|omega|decide) only [wpOp_nil, sNilC_ptr, l2, callT CF, ↓wA,wB,wL,resOf,Nat.reduceBEq,Int.reduceBEq,Int.reduceBNe,Int.reduceLT,Int.reduceLE,Int.reduceAdd,Int.reduceSub,Int.reduceMul,Int.reduceToNat]
    rw [← eh1]
    exact ⟨_, rfl, x1, keep h1 (-2) (Sub.refl _) g1 x1 (by rw [eS, stepC, if_neg hp, if_pos hf])⟩
  | false =>
    rw [hf] at CF
    rw [eh1] at l2 CF
    have hlen := B1.e.arr.len
    simp (disch := first|(simp only [Nat.reduceBEq,wE];done)|((repeat' (first|assumption|exact mAx _|refine mBx ?_ ?_|exact mCx (by assumption)|refine mDx ?_|refine mEx ?_ ?_ ?_|exact mFx|refine mGx ?_ ?_ ?_|exact mHx|exact mIx _|(simp only [wM,Nat.reduceAdd,Nat.reduceLT,Nat.reduceLeDiff];done)));done)|omega|decide) only [wpOp_nil, sNilC_ptr, l2, callT CF, hlen, ↓wA,wB,wL,resOf,Nat.reduceBEq,Int.reduceBEq,Int.reduceBNe,Int.reduceLT,Int.reduceLE,Int.reduceAdd,Int.reduceSub,Int.reduceMul,Int.reduceToNat]
    obtain ⟨F', eF'⟩ : ∃ F', F' = E.map (eOf n) := ⟨_, rfl⟩
    have lF : F'.length = E.length := by rw [eF', List.length_map]
    refine wloop (fun mm ss => ∃ (i : Nat) (q : AV) (h2 : Hp) (u1 u4 u5 u8 u9 u16 u23 u39 u40 u41 u55 : AV), (mm = E.length - i) ∧ (i ≤ E.length ∧ Grown h1 h2 ∧ OwnP h1.next h2.blks q (F'.take i)) ∧ ss = { fr := [(0, .ptr bid 0), (1, u1), (3, .ptr h.next 0), (4, u4), (5, u5), (6, q), (8, u8), (9, u9), (16, u16), (20, sE), (21, .int .i64 E.length), (22, .int .i64 i), (23, u23), (39, u39), (40, u40), (41, u41), (55, u55)], hp := h2 }) (E.length) ?_ ?_
    ·
      refine ⟨0, .nilsl, h.en.pu [.int .i64 p.1, .int .i64 p.2], _, _, _, _, _, _, _, _, _, _, _, by omega, ⟨by omega, by rw [eh1]; exact Grown.refl, OwnP.nil⟩, rfl⟩
    rintro nA sA ⟨i, q, h2, u1, u4, u5, u8, u9, u16, u23, u39, u40, u41, u55, hnA, ⟨hi, g2, o2⟩, rfl⟩
    have k2 := g2.ok k1
    have s2 := g2.sub k1
    have B2 := B1.sub s2
    have g02 : Grown h0 h2 := GrownR.trans g1 g2
    have x2 : Elder h h2 := x1.trans (GrownR.elder g2)
    simp (disch := first|(simp only [Nat.reduceBEq,wE];done)|((repeat' (first|assumption|exact mAx _|refine mBx ?_ ?_|exact mCx (by assumption)|refine mDx ?_|refine mEx ?_ ?_ ?_|exact mFx|refine mGx ?_ ?_ ?_|exact mHx|exact mIx _|(simp only [wM,Nat.reduceAdd,Nat.reduceLT,Nat.reduceLeDiff];done)));done)|omega|decide) only [↓wA,wB,wL,resOf,Nat.reduceBEq,Int.reduceBEq,Int.reduceBNe,Int.reduceLT,Int.reduceLE,Int.reduceAdd,Int.reduceSub,Int.reduceMul,Int.reduceToNat]
    refine ifThen_intro (fun e => ?_) (fun e => ?_) <;> have eq := e <;> try simp [-List.getD_eq_getElem?_getD] at eq
    · have ei : i < E.length := by omega
      obtain ⟨c, ec⟩ : ∃ c, E.getD i (0, 0) = c := ⟨_, rfl⟩
      have mc : c ∈ E := by rw [← ec, List.getD_eq_getElem?_getD, List.getElem?_eq_getElem ei]; exact List.getElem_mem ei
      have bc := bE c mc
      have pE : Pairs h2.blks sE E := B2.e.arr
      have k3 : Hok (h2.pu [.int .i64 c.1, .int .i64 c.2]) := Hok.pu k2 rfl
      have s3 : Sub h2.blks (h2.pu [.int .i64 c.1, .int .i64 c.2]).blks := Sub.pu k2
      have l0 : cellB (h2.pu [.int .i64 c.1, .int .i64 c.2]).blks bid 0 = some (.int .i64 n) := by simp [cellB, (B2.sub s3).blk]
      have l0' : cellB h2.blks bid 0 = some (.int .i64 n) := by simp [cellB, B2.blk]
      have lc : aggB (h2.pu [.int .i64 c.1, .int .i64 c.2]).blks h2.next 0 2 = some (.ag [.int .i64 c.1, .int .i64 c.2]) := by
        rw [Box.lda (Box.top : Box (h2.pu [.int .i64 c.1, .int .i64 c.2]).blks h2.next _) (Sub.refl _)]; rfl
      have ED := f42 n c.1 c.2 (h2.pu [.int .i64 c.1, .int .i64 c.2]) k3 (by omega) bc.1 bc.2
      obtain ⟨s', h4, e4, o4, g4, _⟩ := own_appP1 (a := c.1 / n) (b := c.2 / n) k1 (Grown.pu g2 rfl : Grown h1 (h2.pu [.int .i64 c.1, .int .i64 c.2])) (o2.sub s3) (by rw [List.length_take]; omega)
      have res : F'.take i ++ [(c.1 / (n : Int), c.2 / (n : Int))] = F'.take (i + 1) := by
        rw [List.take_succ_eq_append_getElem (by omega)]
        congr 2
        simp only [eF', List.getElem_map, eOf]
        rw [List.getD_eq_getElem?_getD, List.getElem?_eq_getElem ei] at ec
        simp only [Option.getD_some] at ec
        rw [ec]
      rw [res] at o4
      simp (disch := first|(simp only [Nat.reduceBEq,wE];done)|((repeat' (first|assumption|exact mAx _|refine mBx ?_ ?_|exact mCx (by assumption)|refine mDx ?_|refine mEx ?_ ?_ ?_|exact mFx|refine mGx ?_ ?_ ?_|exact mHx|exact mIx _|(simp only [wM,Nat.reduceAdd,Nat.reduceLT,Nat.reduceLeDiff];done)));done)|omega|decide) only [e, pE.ix, pE.lda, ec, l0, l0', lc, wpOp_nil, sNilC_ptr, callT ED, e4, ↓wA,wB,wL,resOf,Nat.reduceBEq,Int.reduceBEq,Int.reduceBNe,Int.reduceLT,Int.reduceLE,Int.reduceAdd,Int.reduceSub,Int.reduceMul,Int.reduceToNat]
      refine ⟨_, ?_, i + 1, s', h4, _, _, _, _, _, _, _, _, _, _, _, rfl, ?_, rfl⟩
      · omega
      exact ⟨by omega, g4, o4⟩
    · rw [List.take_of_length_le (by omega)] at o2
      have l1m : cellB h2.blks bid 1 = some (.int .i64 m) := by simp [cellB, B2.blk]
      have l0 : cellB h2.blks bid 0 = some (.int .i64 n) := by simp [cellB, B2.blk]
      have l3 : cellB h2.blks bid 3 = some sZ := by simp [cellB, B2.blk]
      have l2' : cellB h2.blks bid 2 = some sE := by simp [cellB, B2.blk]
      have lp : aggB h2.blks h.next 0 2 = some (.ag [.int .i64 p.1, .int .i64 p.2]) := by
        rw [Box.lda (bx.sub s2) (Sub.refl _)]; rfl
      have ED := f42 n p.1 p.2 h2 k2 (by omega) bp.1 bp.2
      have zI : Ints h2.blks .i64 sZ zs := B2.z.arr
      simp (disch := first|(simp only [Nat.reduceBEq,wE];done)|((repeat' (first|assumption|exact mAx _|refine mBx ?_ ?_|exact mCx (by assumption)|refine mDx ?_|refine mEx ?_ ?_ ?_|exact mFx|refine mGx ?_ ?_ ?_|exact mHx|exact mIx _|(simp only [wM,Nat.reduceAdd,Nat.reduceLT,Nat.reduceLeDiff];done)));done)|omega|decide) only [e, wpOp_nil, sNilC_ptr, l1m, ↓wA,wB,wL,resOf,Nat.reduceBEq,Int.reduceBEq,Int.reduceBNe,Int.reduceLT,Int.reduceLE,Int.reduceAdd,Int.reduceSub,Int.reduceMul,Int.reduceToNat]
      refine wloop (fun mm ss => ∃ (k : Nat) (u1 u4 u5 u8 u9 u16 u20 u21 u22 u23 u41 u55 : AV), (mm = m - k) ∧ (k ≤ m ∧ ∀ j : Nat, j < k → ¬ Fr F' zs (j : Int) (eOf n p)) ∧ ss = { fr := [(0, .ptr bid 0), (1, u1), (3, .ptr h.next 0), (4, u4), (5, u5), (6, q), (8, u8), (9, u9), (16, u16), (20, u20), (21, u21), (22, u22), (23, u23), (39, .int .i64 m), (40, .int .i64 k), (41, u41), (55, u55)], hp := h2 }) (m) ?_ ?_
      ·
        refine ⟨0, _, _, _, _, _, _, _, _, _, _, _, _, by omega, ⟨by omega, fun j hj => absurd hj (by omega)⟩, rfl⟩
      rintro nC sC ⟨k, u1, u4, u5, u8, u9, u16, u20, u21, u22, u23, u41, u55, hnC, ⟨hk3, hno⟩, rfl⟩
      simp (disch := first|(simp only [Nat.reduceBEq,wE];done)|((repeat' (first|assumption|exact mAx _|refine mBx ?_ ?_|exact mCx (by assumption)|refine mDx ?_|refine mEx ?_ ?_ ?_|exact mFx|refine mGx ?_ ?_ ?_|exact mHx|exact mIx _|(simp only [wM,Nat.reduceAdd,Nat.reduceLT,Nat.reduceLeDiff];done)));done)|omega|decide) only [e, ↓wA,wB,wL,resOf,Nat.reduceBEq,Int.reduceBEq,Int.reduceBNe,Int.reduceLT,Int.reduceLE,Int.reduceAdd,Int.reduceSub,Int.reduceMul,Int.reduceToNat]
      refine ifThen_intro (fun e3 => ?_) (fun e3 => ?_) <;> have e3q := e3 <;> try simp [-List.getD_eq_getElem?_getD] at e3q
      · have km : k < m := by omega
        have FR : Evals Tryd.prog tab false (.func 43) [.int .i64 k, .ag [.int .i64 (p.1 / (n : Int)), .int .i64 (p.2 / (n : Int))], q, sZ] h2 (.bool (decide (Fr F' zs (k : Int) (eOf n p))), h2) := f43 (k : Int) (eOf n p) q sZ F' zs h2 k2 o2.pairs zI (by omega) (by omega)
        by_cases fr : Fr F' zs (k : Int) (eOf n p)
        · rw [decide_eq_true fr] at FR
          have el : least F' zs (eOf n p) m = some k := firstS_hit (g := fun k => if Fr F' zs (k : Int) (eOf n p) then some k else none) (n := m) (k := 0) (j := k) (Nat.zero_le _) (by omega) (fun j _ hj => if_neg (hno j hj)) (if_pos fr)
          have eS1 : S = ((k : Int), (E ++ [p], zs ++ [(k : Int)])) := by
            rw [eS, stepC, if_neg hp, if_neg (by rw [hf]; simp)]
            simp only
            rw [← eF', el]
          have s3 : Sub h2.blks (h2.pu [.int .i64 p.1, .int .i64 p.2]).blks := Sub.pu k2
          have B3 := B2.sub s3
          have g3 : Grown h0 (h2.pu [.int .i64 p.1, .int .i64 p.2]) := Grown.pu g02 rfl
          have x3 : Elder h (h2.pu [.int .i64 p.1, .int .i64 p.2]) := x2.trans (GrownR.elder (Grown.pu Grown.refl rfl))
          have top : Arr (h2.pu [.int .i64 p.1, .int .i64 p.2]).blks 2 (.sl h2.next 0 1 (some 1) 2) 1 [.int .i64 p.1, .int .i64 p.2] := by
            have := Pairs.top (bs := h2.blks) (n := h2.next) (len := 1) (c := h2.next) (cap := some 1) (w := true) (l := [p]) rfl (Nat.le_refl 1)
            exact this
          obtain ⟨sE', h4, e4, O4, g4, x4', c4, fr4⟩ := ownD_app (m := 0) ho g3 B3.e top (by omega) rfl (by omega)
          have k4 := g4.ok ho
          have bb4 := fr4 _ _ B3.blk (fun id off n' cap sz b e hb hh => B3.ae (by rw [e]; simp only [chOf, hb, Option.map_some]; rw [← hh]))
          have zz4 : OwnD 1 h0.next h4.blks sZ zs.length (ints .i64 zs) ∧ chOf h4.blks sZ = chOf (h2.pu [.int .i64 p.1, .int .i64 p.2]).blks sZ := by
            refine B3.z.off (k := chOf (h2.pu [.int .i64 p.1, .int .i64 p.2]).blks sE) (fun id b hb hne => fr4 _ _ hb fun id' off n' cap sz b' e hb' hh => hne (by rw [e]; simp only [chOf, hb', Option.map_some]; rw [hh])) (fun x hx hh => B3.ez x hh.symm hx)
          have x4 := x3.trans x4'
          have cE := (OwnD.arr O4).cell
          obtain ⟨h5, e5, l5, g5, x5', n5, f5⟩ := brd_set (j := 2) (v := sE') ho g4 bb4 B1.lim (by simp) cE.1 cE.2 (O4.ref k4)
          have k5 := g5.ok ho
          have x5 := x4.trans x5'
          obtain ⟨zz5, cz5⟩ := zz4.1.off f5 (fun x hx hh => by rw [zz4.2] at hx; exact B3.az (hx.trans hh))
          have l5z : cellB h5.blks bid 3 = some sZ := by simp [cellB, l5]
          have s6 : Sub h5.blks (h5.pu (ints .i64 [(k : Int)])).blks := Sub.pu k5
          have g6 : Grown h0 (h5.pu (ints .i64 [(k : Int)])) := Grown.pu g5 refsOK_ints
          have x6 : Elder h (h5.pu (ints .i64 [(k : Int)])) := x5.trans (GrownR.elder (Grown.pu Grown.refl refsOK_ints))
          have top6 : Arr (h5.pu (ints .i64 [(k : Int)])).blks 1 (.sl h5.next 0 1 (some 1) 1) 1 (ints .i64 [(k : Int)]) := Ints.top rfl (Nat.le_refl 1)
          have zz6 := zz5.sub s6
          have cz6 : chOf (h5.pu (ints .i64 [(k : Int)])).blks sZ = chOf h.blks sZ := by rw [zz5.chSub s6, cz5, zz4.2, B2.z.chSub s3, B1.z.chSub s2, B.z.chSub s1]
          obtain ⟨sZ', h7, e7, O7, g7, x7', c7, fr7⟩ := ownD_app (m := 0) ho g6 zz6 top6 (by omega) all_cell_ints (by omega)
          have k7 := g7.ok ho
          have x7 := x6.trans x7'
          have cZ := (OwnD.arr O7).cell
          have hnx : h.next ≤ h2.next := by have := g2.next; have := x1.next; omega
          have hnx5 : h2.next ≤ h5.next := by have := x4'.next; rw [n5]; exact Nat.le_trans (Nat.le_succ _) this
          have bb7 := fr7 _ _ (s6 _ _ l5) (fun id off n' cap sz b e hb hh => by
            have : chOf (h5.pu (ints .i64 [(k : Int)])).blks sZ = some b.ch := by rw [e]; simp only [chOf, hb, Option.map_some]
            rw [cz6] at this
            exact B.az (by rw [this, ← hh]))
          have cE3 : chOf (h2.pu [.int .i64 p.1, .int .i64 p.2]).blks sE = chOf h.blks sE := by rw [B2.e.chSub s3, B1.e.chSub s2, B.e.chSub s1]
          rw [cE3] at c4
          rw [cz6] at c7
          have c4' : chOf h4.blks sE' = chOf h.blks sE ∨ ∃ k, chOf h4.blks sE' = some k ∧ h.next ≤ k := c4.elim .inl fun ⟨k, a, b⟩ => .inr ⟨k, a, by have : h2.next + 1 ≤ k := b; omega⟩
          have c7' : chOf h7.blks sZ' = chOf h.blks sZ ∨ ∃ k, chOf h7.blks sZ' = some k ∧ h5.next ≤ k := c7.elim .inl fun ⟨k, a, b⟩ => .inr ⟨k, a, by have : h5.next + 1 ≤ k := b; omega⟩
          have ne4 : chOf h4.blks sE' ≠ some bid := fun hh => c4'.elim (fun a => B.ae (by rw [← a, hh])) fun ⟨k, a, b⟩ => by rw [hh] at a; cases a; omega
          have ne7 : chOf h7.blks sZ' ≠ some bid := fun hh => c7'.elim (fun a => B.az (by rw [← a, hh])) fun ⟨k, a, b⟩ => by rw [hh] at a; cases a; omega
          obtain ⟨E5, d5⟩ := O4.off f5 (fun x hx hh => ne4 (hx.trans hh))
          have E6 := E5.sub s6
          have d6 := E5.chSub s6
          have lt5 := OwnD.chLt k5 E5
          have apart : ∀ x, chOf h4.blks sE' = some x → chOf h.blks sZ ≠ some x := fun x hx hz => c4'.elim (fun a => B.ez x (by rw [← a, hx]) hz) fun ⟨k, a, b⟩ => by
            rw [hx] at a; cases a
            have := OwnD.chLt hk B.z x hz
            omega
          obtain ⟨E7, d7⟩ := E6.off (k := chOf (h5.pu (ints .i64 [(k : Int)])).blks sZ) (bs' := h7.blks) (fun id b hb hne => fr7 _ _ hb fun id' off n' cap sz b' e hb' hh => hne (by rw [e]; simp only [chOf, hb', Option.map_some]; rw [hh])) (fun x hx hh => by
            rw [d6, d5] at hx
            rw [cz6] at hh
            exact apart x hx hh.symm)
          obtain ⟨h8, e8, l8, g8, x8', n8, f8⟩ := brd_set (j := 3) (v := sZ') ho g7 bb7 B1.lim (by simp) cZ.1 cZ.2 (O7.ref k7)
          have x8 := x7.trans x8'
          obtain ⟨E8, d8⟩ := E7.off f8 (fun x hx hh => by rw [d7, d6, d5] at hx; exact ne4 (hx.trans hh))
          obtain ⟨Z8, y8⟩ := O7.off f8 (fun x hx hh => ne7 (hx.trans hh))
          rw [show pairs E ++ [.int .i64 p.1, .int .i64 p.2] = pairs (E ++ [p]) by simp [Abs.pairs]] at E8
          rw [ints_append] at Z8
          have B8 : Brd h0.next h8.blks bid n m (E ++ [p]) (zs ++ [(k : Int)]) sE' sZ' := by
            refine ⟨l8, B1.lim, by simpa using E8, by simpa using Z8, by rw [d8, d7, d6, d5]; exact ne4, by rw [y8]; exact ne7, fun x hx hz => ?_⟩
            rw [d8, d7, d6, d5] at hx
            rw [y8] at hz
            exact c7'.elim (fun a => apart x hx (by rw [← a, hz])) fun ⟨k, a, b⟩ => by
              rw [hz] at a; cases a
              have := lt5 x (by rw [d5, hx])
              omega
          simp (disch := first|(simp only [Nat.reduceBEq,wE];done)|((repeat' (first|assumption|exact mAx _|refine mBx ?_ ?_|exact mCx (by assumption)|refine mDx ?_|refine mEx ?_ ?_ ?_|exact mFx|refine mGx ?_ ?_ ?_|exact mHx|exact mIx _|(simp only [wM,Nat.reduceAdd,Nat.reduceLT,Nat.reduceLeDiff];done)));done)|omega|decide) only [e, e3, wpOp_nil, sNilC_ptr, l0, lp, callT ED, l3, callT FR, l2', e4, e5, l5z, e7, e8, ↓wA,wB,wL,resOf,Nat.reduceBEq,Int.reduceBEq,Int.reduceBNe,Int.reduceLT,Int.reduceLE,Int.reduceAdd,Int.reduceSub,Int.reduceMul,Int.reduceToNat]
          have gl := grown_leave (v := .int .i64 (k : Int)) rfl rfl g g8 ho x8
          rw [eS1]
          have w1 := B8.e.lk (bs' := (Abs.leave false h (.int .i64 (k : Int)) h8).blks) fun id off n cap sz e => lk_leave x8 hk hb B8.blk (by simp) e
          have w2 := B8.z.lk (bs' := (Abs.leave false h (.int .i64 (k : Int)) h8).blks) fun id off n cap sz e => lk_leave x8 hk hb B8.blk (by simp) e
          refine ⟨_, rfl, x8, rfl, gl.1, gl.2, ⟨sE', sZ', B8.leave x8 hk hb, ?_, ?_⟩, fun j d hd d1 d2 d3 => ?_⟩
          · rw [show chOf _ sE' = _ from w1.2, d8, d7, d6, d5]; exact c4'
          · rw [show chOf _ sZ' = _ from w2.2, y8]
            exact c7'.elim .inl fun ⟨k, a, b⟩ => .inr ⟨k, a, by omega⟩
          · show lkB (Abs.leave false h (.int .i64 (k : Int)) h8).blks j = some d
            rw [leave_lk hk x8 j (hk.get hd).1]
            refine f8 _ _ (fr7 _ _ (s6 _ _ (f5 _ _ (fr4 _ _ (s3 _ _ (s2 _ _ (s1 _ _ hd))) fun id off n' cap sz b e hb hh => d2 ?_) (by simpa using d1))) fun id off n' cap sz b e hb hh => d3 ?_) (by simpa using d1)
            · rw [← cE3, e]; simp only [chOf, hb, Option.map_some]; rw [hh]
            · rw [← cz6, e]; simp only [chOf, hb, Option.map_some]; rw [hh]
        · rw [decide_eq_false fr] at FR
          simp (disch := first|(simp only [Nat.reduceBEq,wE];done)|((repeat' (first|assumption|exact mAx _|refine mBx ?_ ?_|exact mCx (by assumption)|refine mDx ?_|refine mEx ?_ ?_ ?_|exact mFx|refine mGx ?_ ?_ ?_|exact mHx|exact mIx _|(simp only [wM,Nat.reduceAdd,Nat.reduceLT,Nat.reduceLeDiff];done)));done)|omega|decide) only [e, e3, wpOp_nil, sNilC_ptr, l0, lp, callT ED, l3, callT FR, ↓wA,wB,wL,resOf,Nat.reduceBEq,Int.reduceBEq,Int.reduceBNe,Int.reduceLT,Int.reduceLE,Int.reduceAdd,Int.reduceSub,Int.reduceMul,Int.reduceToNat]
          refine ⟨_, ?_, k + 1, _, _, _, _, _, _, _, _, _, _, _, _, rfl, ?_, rfl⟩
          · omega
          exact ⟨by omega, fun j hj => by by_cases ej : j = k; (subst ej; exact fr); exact hno j (by omega)⟩
      · simp (disch := first|(simp only [Nat.reduceBEq,wE];done)|((repeat' (first|assumption|exact mAx _|refine mBx ?_ ?_|exact mCx (by assumption)|refine mDx ?_|refine mEx ?_ ?_ ?_|exact mFx|refine mGx ?_ ?_ ?_|exact mHx|exact mIx _|(simp only [wM,Nat.reduceAdd,Nat.reduceLT,Nat.reduceLeDiff];done)));done)|omega|decide) only [e, e3, ↓wA,wB,wL,resOf,Nat.reduceBEq,Int.reduceBEq,Int.reduceBNe,Int.reduceLT,Int.reduceLE,Int.reduceAdd,Int.reduceSub,Int.reduceMul,Int.reduceToNat]
        have el : least F' zs (eOf n p) m = none := firstS_none fun j _ hj => by rw [if_neg (hno j (by omega))]
        exact ⟨_, rfl, x2, keep h2 (-1) s2 g02 x2 (by rw [eS, stepC, if_neg hp, if_neg (by rw [hf]; simp)]; simp only; rw [← eF', el])⟩
end Go.Proofs.YtpfkmdbdafpadaaDoor
