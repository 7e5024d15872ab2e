/- disconnect. -/
import Derived.Test.YtpfkmdbdafpadaaDoorDW
set_option linter.unusedSimpArgs false
set_option linter.unusedVariables false
set_option maxHeartbeats 8000000
set_option maxRecDepth 20000
namespace Go.Abs
theorem pairs_drop : ∀ (l : List (Int × Int)) (k : Nat), (Abs.pairs l).drop (k * 2) = Abs.pairs (l.drop k) := fun l => by
  induction l with
  | nil => intro k; simp [Abs.pairs]
  | cons p r ih =>
    intro k
    cases k with
    | zero => rfl
    | succ k =>
      rw [pairs_cons, Nat.succ_mul, List.drop_succ_cons]
      simp only [List.drop_succ_cons]
      exact ih k
theorem pairs_erase {l : List (Int × Int)} {i : Nat} : (Abs.pairs l).take (i * 2) ++ (Abs.pairs l).drop ((i + 1) * 2) = Abs.pairs (l.eraseIdx i) := by
  rw [pairs_drop, pairs_take, ← pairs_append, List.eraseIdx_eq_take_drop_succ]
theorem ints_erase {zs : List Int} {i : Nat} : (Abs.ints .i64 zs).take (i * 1) ++ (Abs.ints .i64 zs).drop ((i + 1) * 1) = Abs.ints .i64 (zs.eraseIdx i) := by
  rw [Nat.mul_one, Nat.mul_one, List.eraseIdx_eq_take_drop_succ]
  simp [Abs.ints, List.map_take, List.map_drop]
end Go.Abs
namespace Go.Proofs.YtpfkmdbdafpadaaDoor
open Go Go.Abs Go.Pa

theorem del2_ev {id n i : Nat} {h h' : Hp} (hk : Hok h) (hi : i < n) (hn : n ≤ 1073741824) (e : delA 2 [.int .i64 0, .int .i64 0] h id 0 n i = some h') :
    Evals Tryd.prog tab false (.func 45) [.sl id 0 n none 2, .int .i64 i, .int .i64 (i + 1 : Nat)] h (.sl id 0 (n - 1) none 2, h') :=
  evals_tab (delT_of hi hn (fun x hx => HokR.lps hk hx) e)
theorem del1_ev {id n i : Nat} {h h' : Hp} (hk : Hok h) (hi : i < n) (hn : n ≤ 1073741824) (e : delA 1 [.int .i64 0] h id 0 n i = some h') :
    Evals Tryd.prog tab false (.func 46) [.sl id 0 n none 1, .int .i64 i, .int .i64 (i + 1 : Nat)] h (.sl id 0 (n - 1) none 1, h') :=
  evals_tab (delT_of hi hn (fun x hx => HokR.lps hk hx) e)

theorem f29 (p : Int × Int) (bid n m : Nat) (E : List (Int × Int)) (zs : List Int) (sE sZ : AV) (h0 h : Hp) (ho : Hok h0) (g : Grown h0 h) (B : Brd h0.next h.blks bid n m E zs sE sZ) (hl : zs.length = E.length) (hE : E.length ≤ 1000) (hp : p.2 = -1) :
    ∃ v h', Evals Tryd.prog tab false (.func 29) [.ptr bid 0, .ag [.int .i64 p.1, .int .i64 p.2]] h (v, h') ∧ (v = .int .i64 (stepC n m (E, zs) p).1 ∧ Grown h0 h' ∧ Elder h h' ∧
      (∃ sE' sZ', Brd h0.next h'.blks bid n m (stepC n m (E, zs) p).2.1 (stepC n m (E, zs) p).2.2 sE' sZ' ∧ chOf h'.blks sE' = chOf h.blks sE ∧ chOf h'.blks sZ' = chOf h.blks sZ) ∧
      ∀ j d, lkB h.blks j = some d → d.ch ≠ bid → some d.ch ≠ chOf h.blks sE → some d.ch ≠ chOf h.blks sZ → lkB h'.blks j = some d) := by
  have hk := g.ok ho
  have hb := (hk.get B.blk).1
  obtain ⟨S, eS⟩ : ∃ S, S = stepC n m (E, zs) p := ⟨_, rfl⟩
  rw [← eS]
  refine evals_two c29 (fun v h' => v = .int .i64 S.1 ∧ Grown h0 h' ∧ Elder h h' ∧
      (∃ sE' sZ', Brd h0.next h'.blks bid n m S.2.1 S.2.2 sE' sZ' ∧ chOf h'.blks sE' = chOf h.blks sE ∧ chOf h'.blks sZ' = chOf h.blks sZ) ∧
      ∀ j d, lkB h.blks j = some d → d.ch ≠ bid → some d.ch ≠ chOf h.blks sE → some d.ch ≠ chOf h.blks sZ → lkB h'.blks j = some d) rfl ?_
  simp only [sf29, initS_cons, initS_nil]
  have k1 : Hok (h.en.pu [.int .i64 p.1, .int .i64 p.2]) := Hok.pu hk rfl
  have s1 : Sub h.blks (h.en.pu [.int .i64 p.1, .int .i64 p.2]).blks := Sub.pu (h := h.en) hk
  have g1 : Grown h0 (h.en.pu [.int .i64 p.1, .int .i64 p.2]) := Grown.pu (show Grown h0 h.en from g) rfl
  have x1 : Elder h (h.en.pu [.int .i64 p.1, .int .i64 p.2]) := Elder.of_en (GrownR.elder (Grown.pu (h := h.en) Grown.refl rfl))
  have B1 := B.sub s1
  have bx : Box (h.en.pu [.int .i64 p.1, .int .i64 p.2]).blks h.next [.int .i64 p.1, .int .i64 p.2] := Box.top
  have l2 : cellB (h.en.pu [.int .i64 p.1, .int .i64 p.2]).blks bid 2 = some sE := by simp [cellB, B1.blk]
  have l3 : cellB (h.en.pu [.int .i64 p.1, .int .i64 p.2]).blks bid 3 = some sZ := by simp [cellB, B1.blk]
  have IX := f27 sE E 44 [.ptr h.next 0] (fun c => decide (c.1 = p.1)) (h.en.pu [.int .i64 p.1, .int .i64 p.2]) k1 B1.e.arr (by omega)
    (fun c _ => f44 c p h.next _ k1 bx)
  have eS1 : S = (match E.findIdx? (fun c => decide (c.1 = p.1)) with | none => (-2, (E, zs)) | some i => (cl zs i, (E.eraseIdx i, zs.eraseIdx i))) := by
    rw [eS, stepC, if_pos hp]
    rfl
  cases hf : E.findIdx? (fun c => decide (c.1 = p.1)) with
  | none =>
    have ei : idxI (fun c : Int × Int => decide (c.1 = p.1)) E = -1 := by simp [idxI, hf]
    rw [ei] at IX
    rw [hf] at eS1
    simp only at eS1
    simp (disch := first|(simp only [Nat.reduceBEq,wE];done)|((repeat' (first|assumption|exact mAx _|refine mBx ?_ ?_|exact mCx (by assumption)|refine mDx ?_|refine mEx ?_ ?_ ?_|exact mFx|refine mGx ?_ ?_ ?_|exact mHx|exact mIx _|(simp only [wM,Nat.reduceAdd,Nat.reduceLT,Nat.reduceLeDiff];done)));done)|omega|decide) only [wpOp_nil, sNilC_ptr, l2, callT IX, ↓wA,wB,wL,resOf,Nat.reduceBEq,Int.reduceBEq,Int.reduceBNe,Int.reduceLT,Int.reduceLE,Int.reduceAdd,Int.reduceSub,Int.reduceMul,Int.reduceToNat]
    have gl := grown_leave (v := .int .i64 (-2)) rfl rfl g g1 ho x1
    rw [eS1]
    refine ⟨_, rfl, x1, rfl, gl.1, gl.2, ?_, fun j d hd _ _ _ => ?_⟩
    · have c1 := B1.e.lk (bs' := (Abs.leave false h (.int .i64 (-2)) (h.en.pu [.int .i64 p.1, .int .i64 p.2])).blks) fun id off n cap sz e => lk_leave x1 hk hb B1.blk (by simp) e
      have c2 := B1.z.lk (bs' := (Abs.leave false h (.int .i64 (-2)) (h.en.pu [.int .i64 p.1, .int .i64 p.2])).blks) fun id off n cap sz e => lk_leave x1 hk hb B1.blk (by simp) e
      exact ⟨sE, sZ, B1.leave x1 hk hb, by rw [← B.e.chSub s1]; exact c1.2, by rw [← B.z.chSub s1]; exact c2.2⟩
    · show lkB (Abs.leave false h (.int .i64 (-2)) (h.en.pu [.int .i64 p.1, .int .i64 p.2])).blks j = some d
      rw [leave_lk hk x1 j (hk.get hd).1]
      exact s1 _ _ hd
  | some i =>
    have ei : idxI (fun c : Int × Int => decide (c.1 = p.1)) E = (i : Int) := by simp [idxI, hf]
    rw [ei] at IX
    rw [hf] at eS1
    simp only at eS1
    have hi : i < E.length := by
      obtain ⟨h, _⟩ := List.findIdx?_eq_some_iff_getElem.1 hf
      exact h
    have t0 : decide ((i : Int) < 0) = false := decide_eq_false (by omega)
    have ad : (i : Int) + 1 = ((i + 1 : Nat) : Int) := by omega
    obtain ⟨_, ⟨q, _⟩ | ⟨idE, bE, rfl, e2, e3, e7, e4, e5, e6⟩⟩ := B1.e
    · omega
    obtain ⟨_, ⟨q, _⟩ | ⟨idZ, bZ, rfl, z2, z3, z7, z4, z5, z6⟩⟩ := B1.z
    · omega
    have cE : chOf (h.en.pu [.int .i64 p.1, .int .i64 p.2]).blks (.sl idE 0 E.length none 2) = some bE.ch := by simp only [chOf, e2, Option.map_some]
    have cZ : chOf (h.en.pu [.int .i64 p.1, .int .i64 p.2]).blks (.sl idZ 0 zs.length none 1) = some bZ.ch := by simp only [chOf, z2, Option.map_some]
    have nE : bE.ch ≠ bid := fun hh => B1.ae (by rw [cE, hh])
    have nZ : bZ.ch ≠ bid := fun hh => B1.az (by rw [cZ, hh])
    have nEZ : bZ.ch ≠ bE.ch := fun hh => B1.ez _ cE (by rw [cZ, hh])
    have zI : Ints (h.en.pu [.int .i64 p.1, .int .i64 p.2]).blks .i64 (.sl idZ 0 zs.length none 1) zs := B1.z.arr
    have hiz : i < zs.length := by omega
    obtain ⟨h2, eD, O2, g2, n2, c2, fr2⟩ := ownD_del (z := [.int .i64 0, .int .i64 0]) ho g1 e2 e3 e7 e4 e5 e6 (by omega) hi all_cell_pairs rfl rfl (fun _ => rfl)
    have k2 := g2.ok ho
    have x2 := x1.trans (delA_elder eD)
    have D2 := del2_ev k1 hi (by omega) eD
    have rE : refOK h2.next (.sl idE 0 (E.length - 1) none 2) = true := O2.ref k2
    obtain ⟨h3, e8, l8, g3, x3', n3, f3⟩ := brd_set (j := 2) (v := .sl idE 0 (E.length - 1) none 2) ho g2 (fr2 _ _ B1.blk (Ne.symm nE)) B1.lim (by simp) rfl rfl rE
    have k3 := g3.ok ho
    have x3 := x2.trans x3'
    have z3' : lkB h3.blks idZ = some bZ := f3 _ _ (fr2 _ _ z2 nEZ) (by simpa using nZ)
    obtain ⟨h4, eF, O4, g4, n4, c4, fr4⟩ := ownD_del (z := [.int .i64 0]) ho g3 z3' z3 z7 z4 z5 z6 (by omega) hiz all_cell_ints rfl rfl (fun _ => rfl)
    have k4 := g4.ok ho
    have x4 := x3.trans (delA_elder eF)
    have D4 := del1_ev k3 hiz (by omega) eF
    have l3' : cellB h3.blks bid 3 = some (.sl idZ 0 zs.length none 1) := by simp [cellB, l8]
    have rZ : refOK h4.next (.sl idZ 0 (zs.length - 1) none 1) = true := O4.ref k4
    obtain ⟨h5, e9, l9, g5, x5', n5, f5⟩ := brd_set (j := 3) (v := .sl idZ 0 (zs.length - 1) none 1) ho g4 (fr4 _ _ l8 (Ne.symm nZ)) B1.lim (by simp) rfl rfl rZ
    have x5 := x4.trans x5'
    have ldz : zs.getD i 0 = cl zs i := rfl
    simp (disch := first|(simp only [Nat.reduceBEq,wE];done)|((repeat' (first|assumption|exact mAx _|refine mBx ?_ ?_|exact mCx (by assumption)|refine mDx ?_|refine mEx ?_ ?_ ?_|exact mFx|refine mGx ?_ ?_ ?_|exact mHx|exact mIx _|(simp only [wM,Nat.reduceAdd,Nat.reduceLT,Nat.reduceLeDiff];done)));done)|omega|decide) only [wpOp_nil, sNilC_ptr, l2, callT IX, t0, l3, zI.ix, zI.ld, ad, callT D2, e8, l3', callT D4, e9, ↓wA,wB,wL,resOf,Nat.reduceBEq,Int.reduceBEq,Int.reduceBNe,Int.reduceLT,Int.reduceLE,Int.reduceAdd,Int.reduceSub,Int.reduceMul,Int.reduceToNat]
    have gl := grown_leave (v := .int .i64 (cl zs i)) rfl rfl g g5 ho x5
    rw [eS1]
    rw [pairs_erase] at O2
    rw [ints_erase] at O4
    obtain ⟨P3, q3⟩ := O2.off f3 (fun x hx hh => by rw [c2] at hx; cases hx; cases hh; exact nE rfl)
    obtain ⟨P4, q4⟩ := P3.off (k := some bZ.ch) (bs' := h4.blks) (fun id b hb hne => fr4 id b hb fun hh => hne (by rw [hh])) (fun x hx hh => by rw [q3, c2] at hx; exact nEZ (Option.some.inj (hx.trans hh)).symm)
    obtain ⟨P5, q5⟩ := P4.off f5 (fun x hx hh => by rw [q4, q3, c2] at hx; cases hx; cases hh; exact nE rfl)
    obtain ⟨Q5, r5⟩ := O4.off f5 (fun x hx hh => by rw [c4] at hx; cases hx; cases hh; exact nZ rfl)
    have le1 : (E.eraseIdx i).length = E.length - 1 := List.length_eraseIdx_of_lt hi
    have le2 : (zs.eraseIdx i).length = zs.length - 1 := List.length_eraseIdx_of_lt hiz
    have B5 : Brd h0.next h5.blks bid n m (E.eraseIdx i) (zs.eraseIdx i) (.sl idE 0 (E.length - 1) none 2) (.sl idZ 0 (zs.length - 1) none 1) := by
      refine ⟨l9, B1.lim, by rw [le1]; exact P5, by rw [le2]; exact Q5, ?_, ?_, ?_⟩
      · rw [q5, q4, q3, c2]; simpa using nE
      · rw [r5, c4]; simpa using nZ
      · rw [q5, q4, q3, c2, r5, c4]
        intro x hx hy
        exact nEZ (Option.some.inj (hy.trans hx.symm))
    refine ⟨_, rfl, x5, rfl, gl.1, gl.2, ?_, fun j d hd d1 d2 d3 => ?_⟩
    · have w1 := B5.e.lk (bs' := (Abs.leave false h (.int .i64 (cl zs i)) h5).blks) fun id off n cap sz e => lk_leave x5 hk hb B5.blk (by simp) e
      have w2 := B5.z.lk (bs' := (Abs.leave false h (.int .i64 (cl zs i)) h5).blks) fun id off n cap sz e => lk_leave x5 hk hb B5.blk (by simp) e
      exact ⟨_, _, B5.leave x5 hk hb, by rw [← B.e.chSub s1, cE]; exact w1.2.trans (by rw [q5, q4, q3, c2]), by rw [← B.z.chSub s1, cZ]; exact w2.2.trans (by rw [r5, c4])⟩
    · show lkB (Abs.leave false h (.int .i64 (cl zs i)) h5).blks j = some d
      rw [leave_lk hk x5 j (hk.get hd).1]
      rw [← B.e.chSub s1, cE] at d2
      rw [← B.z.chSub s1, cZ] at d3
      exact f5 _ _ (fr4 _ _ (f3 _ _ (fr2 _ _ (s1 _ _ hd) fun hh => d2 (by rw [hh])) (by simpa using d1)) fun hh => d3 (by rw [hh])) (by simpa using d1)
end Go.Proofs.YtpfkmdbdafpadaaDoor
