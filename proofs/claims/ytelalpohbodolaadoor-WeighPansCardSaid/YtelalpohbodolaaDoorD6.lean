/- areDistinct: the function. -/
import Derived.Test.YtelalpohbodolaaDoorD5
set_option linter.unusedSimpArgs false
set_option linter.unusedVariables false
set_option maxHeartbeats 4000000
set_option maxRecDepth 20000
namespace Go.Abs
theorem sBin_shlN {a j : Nat} (hj : j ≤ 40) (ha : a * 2 ^ j ≤ 9223372036854775807) : sBin .shl .no (.int .i64 (a : Int)) (.int .i64 (j : Int)) = some (.int .i64 ((a * 2 ^ j : Nat) : Int)) := by
  have hm : min ((j : Int).toNat) IntKind.i64.bits = j := by rw [Int.toNat_natCast]; show min j 64 = j; omega
  simp only [sBin, abShift, hm]
  rw [if_neg (by omega)]
  have : (a : Int) * 2 ^ j = ((a * 2 ^ j : Nat) : Int) := by simp
  rw [this, wrap_i64 (by omega) (by omega)]
theorem sBin_shl1 {j : Nat} (hj : j ≤ 40) : sBin .shl .no (.int .i64 1) (.int .i64 (j : Int)) = some (.int .i64 ((2 ^ j : Nat) : Int)) := by
  have h2 : 2 ^ j ≤ 2 ^ 40 := Nat.pow_le_pow_right (by omega) hj
  have := sBin_shlN (a := 1) hj (by omega)
  rw [Nat.one_mul] at this
  exact this
theorem sBox_v {h : Hp} {v : AV} (hp : v.parts = some [v] ∧ v.isCell = true) : sBox h v = some (.ptr h.next 0, { next := h.next + 1, blks := (h.next, { cells := [v], ch := h.next, wr := true }) :: h.blks, loops := h.loops, base := h.base, esc := h.esc }) := by
  simp only [sBox, hp.1]
theorem Arr.refs0 {bs : List (Nat × Blk)} {sz n m : Nat} {a : AV} {cs : List AV} {ls : List (Nat × LoopA)} (H : Arr bs sz a n cs) (hk : HokR m bs ls) (h0 : 0 < n * sz) : refOK m a = true := by
  obtain ⟨hl, ⟨rfl, _⟩ | ⟨id, off, cap, rfl, _, h1⟩⟩ := H
  · omega
  · have := h1 0 h0
    simp only [cellB] at this
    cases hb : lkB bs id with
    | none => rw [hb, Option.bind_none, List.getElem?_eq_getElem (by omega)] at this; cases this
    | some b => simp only [refOK, Nat.blt_eq]; exact (hk.get hb).1
theorem HokR.addLoop {n : Nat} {bs : List (Nat × Blk)} {ls : List (Nat × LoopA)} {e : LoopA} (H : HokR n bs ls) (hr : refsOK (n + 1) (e.fr.map (·.2)) = true) (h5 : e.st = 0) : HokR (n + 1) bs ((n, e) :: ls) := by
  have H1 := HokR.up H (Nat.le_succ n)
  refine HokR.mk' (fun x hx => H1.blk hx) fun x hx => ?_
  rcases List.mem_cons.1 hx with rfl | hx
  · refine ⟨Nat.lt_succ_self _, ?_⟩
    simp only [refL, hr, h5, Bool.true_and]
    rfl
  · exact H1.lps hx
theorem HokR.dropLoop {n : Nat} {bs : List (Nat × Blk)} {ls : List (Nat × LoopA)} {x : Nat × LoopA} (H : HokR n bs (x :: ls)) : HokR n bs ls :=
  HokR.mk' (fun y hy => H.blk hy) fun y hy => H.lps (List.mem_cons_of_mem _ hy)
theorem Keepy.no {N0 : Nat} : Keepy N0 fun _ _ => False := fun _ _ _ _ _ h => h.elim
theorem cmpI_le : ∀ zs : List Int, (cmpI zs).length ≤ zs.length
  | [] => by simp [cmpI]
  | [a] => by simp [cmpI]
  | a :: b :: l => by
    have ih := cmpI_le (b :: l)
    rw [cmpI]
    cases decide (a = b) <;> simp only [cond_false, cond_true, List.length_cons] at ih ⊢ <;> omega
theorem cmpI_L : ∀ zs : List Int, cmpI zs = Wg.cmpL zs
  | [] => rfl
  | [a] => rfl
  | a :: b :: l => by
    rw [cmpI, Wg.cmpL, cmpI_L (b :: l)]
    by_cases e : a = b
    · simp [e]
    · simp [e]
theorem dist_cmp (zs : List Int) : (cmpI (isortI (((Wg.LL zs.length).map (Wg.msum zs))))).length = 2 ^ zs.length ↔ Wg.Dist zs := by
  rw [cmpI_L, isortI_eq]
  exact Wg.distinct_iff zs
theorem row_own {h : Hp} {old : List (Nat × Blk)} {lim c id : Nat} {b : Blk} {zs ds : List Int} (hk : Hok h) (ov : Over lim old h.blks) (hlt : ∀ x ∈ old, x.1 < lim) (hlc : lim ≤ c) (h1 : lkB h.blks id = some b) (h2 : b.cells.take (zs.length * 1) = ints .i64 zs) (h3 : c ≤ id) (h4 : c ≤ b.ch) (h5 : b.wr = true) (hd : ds.length = zs.length) :
    ∃ h', h.write id 0 (ds.map (.int .i64)) = some h' ∧ lkB h'.blks id = some { b with cells := splice b.cells 0 (ints .i64 ds) } ∧ (splice b.cells 0 (ints .i64 ds)).take zs.length = ints .i64 ds ∧ (splice b.cells 0 (ints .i64 ds)).length = b.cells.length ∧ Over lim old h'.blks ∧ Hok h' ∧ h'.next = h.next ∧ h'.loops = h.loops ∧ Elder h h' ∧ (∀ j d, d.ch < c → lkB h.blks j = some d → lkB h'.blks j = some d) := by
  have hlen : zs.length ≤ b.cells.length := by
    have := congrArg List.length h2
    rw [ints_len, List.length_take] at this
    omega
  have hil : (ints .i64 ds).length = zs.length := by rw [ints_len, hd]
  obtain ⟨h', w1, w2, w3, w4, w5, w6, w7⟩ := write_old (off := 0) (vs := ints .i64 ds) hk ov hlt h1 (by omega) (by omega) h5 (by rw [hil]; omega) all_cell_ints refsOK_ints
  refine ⟨h', w1, w2, ?_, splice_len (by rw [hil]; omega), w3, w4, w5, w6, write_elder w1, fun j d hj hd' => ?_⟩
  · have := splice_take (cs := b.cells) (vs := ints .i64 ds) (n := 0) (by rw [hil]; omega)
    rw [Nat.zero_add, hil, List.take_zero, List.nil_append] at this
    exact this
  · by_cases e : j = id
    · subst e
      rw [h1] at hd'
      cases hd'
      omega
    · exact w7 j d e hd' (by omega)
theorem sort_own {h : Hp} {old : List (Nat × Blk)} {lim c : Nat} {q : AV} {zs : List Int} (hk : Hok h) (ov : Over lim old h.blks) (hlt : ∀ x ∈ old, x.1 < lim) (hlc : lim ≤ c) (O : Own c h.blks .i64 q zs) (h0 : 0 < zs.length) (hl : zs.length ≤ 1073741824) :
    ∃ h', sortT [q] h = some (.tu [], h') ∧ Own c h'.blks .i64 q (isortI zs) ∧ Over lim old h'.blks ∧ Hok h' ∧ h'.next = h.next ∧ h'.loops = h.loops ∧ Elder h h' ∧ (∀ j d, d.ch < c → lkB h.blks j = some d → lkB h'.blks j = some d) := by
  obtain ⟨hl', ⟨h1, _⟩ | ⟨id, b, cap, rfl, h1, h2, h3, h4, h5, h6⟩⟩ := O
  · omega
  have hp := (isortI_perm zs).length_eq
  obtain ⟨h', w1, w2, w3, w4, w5, w6, w7, w8, w9, w10⟩ := row_own hk ov hlt hlc h1 h2 h3 h4 h5 hp
  have hu : unI ((b.cells.drop 0).take zs.length) = some zs := by
    rw [Nat.mul_one] at h2
    rw [List.drop_zero, h2]
    exact unI_of zs
  refine ⟨h', ?_, ⟨by rw [ints_len, Nat.mul_one], .inr ⟨id, _, cap, by rw [hp], w2, by rw [Nat.mul_one, hp]; exact w3, h3, h4, h5, ?_⟩⟩, w5, w6, w7, w8, w9, w10⟩
  · simp only [sortT, h1, hu, Nat.beq_refl, Nat.ble_eq_true_of_le hl, Bool.and_self, cond_true, w1, Option.map_some]
  · cases cap with
    | none => exact ⟨by rw [hp]; exact h6.1, by simp only; rw [w4, hp]; exact h6.2⟩
    | some m => exact ⟨by simp only; rw [w4]; exact h6.1, by rw [hp]; exact h6.2⟩
theorem cmp_own {h : Hp} {old : List (Nat × Blk)} {lim c : Nat} {q : AV} {zs : List Int} (hk : Hok h) (ov : Over lim old h.blks) (hlt : ∀ x ∈ old, x.1 < lim) (hlc : lim ≤ c) (O : Own c h.blks .i64 q zs) (h0 : 0 < zs.length) (hl : zs.length ≤ 1073741824) :
    ∃ id cap h', cmpT [q] h = some (.sl id 0 (cmpI zs).length cap 1, h') ∧ Over lim old h'.blks ∧ Hok h' ∧ h'.next = h.next ∧ h'.loops = h.loops ∧ Elder h h' ∧ (∀ j d, d.ch < c → lkB h.blks j = some d → lkB h'.blks j = some d) := by
  obtain ⟨hl', ⟨h1, _⟩ | ⟨id, b, cap, rfl, h1, h2, h3, h4, h5, h6⟩⟩ := O
  · omega
  have hc := cmpI_le zs
  obtain ⟨h', w1, w2, w3, w4, w5, w6, w7, w8, w9, w10⟩ := row_own (ds := cmpI zs ++ List.replicate (zs.length - (cmpI zs).length) 0) hk ov hlt hlc h1 h2 h3 h4 h5 (by simp; omega)
  have hu : unI ((b.cells.drop 0).take zs.length) = some zs := by
    rw [Nat.mul_one] at h2
    rw [List.drop_zero, h2]
    exact unI_of zs
  refine ⟨id, cap, h', ?_, w5, w6, w7, w8, w9, w10⟩
  simp only [cmpT, h1, hu, Nat.beq_refl, Nat.ble_eq_true_of_le hl, Nat.ble_eq_true_of_le hc, Bool.and_self, cond_true, w1, Option.map_some]
end Go.Abs
namespace Go.Proofs.YtelalpohbodolaaDoor
open Go Go.Abs Go.Wg

theorem f37 (a : AV) (zs : List Int) (h : Hp) (hk : Hok h) (ha : Ints h.blks .i64 a zs) (hz : 0 < zs.length) (hz' : zs.length ≤ 12) (hb : ∀ z ∈ zs, 0 ≤ z ∧ z ≤ 100000) :
    ∃ d, (d = true ↔ Dist zs) ∧ Evals Tryd.prog tab false (.func 37) [a] h (.bool d, h) := by
  refine ⟨decide ((cmpI (isortI ((LL zs.length).map (msum zs)))).length = 2 ^ zs.length), by rw [decide_eq_true_eq]; exact dist_cmp zs, ?_⟩
  refine evals_pure c37 rfl hk ?_
  simp only [sf37, initS_cons, initS_nil]
  have hlt : ∀ x ∈ h.blks, x.1 < h.next := fun x hx => (hk.blk hx).1
  have hne : ∀ x ∈ h.loops, x.1 ≠ h.next + 1 + 1 + 1 := fun x hx => by have := (hk.lps hx).1; omega
  have ra : refOK h.next a = true := Arr.refs0 ha hk (by omega)
  have k1 : Hok (h.en.pu [a]) := Hok.pu hk (by simp only [refsOK_cons, refsOK_nil, Bool.and_true]; exact refOK_mono (Nat.le_succ _) ra)
  have k2 : Hok ((h.en.pu [a]).pu [.nilsl]) := Hok.pu k1 rfl
  have k3 : Hok (((h.en.pu [a]).pu [.nilsl]).pu [.int .i64 zs.length]) := Hok.pu k2 rfl
  have ca := Arr.cell ha
  have su := f47 zs.length ((h.en.pu [a]).pu [.nilsl])
  have p12 : 2 ^ zs.length ≤ 2 ^ 12 := Nat.pow_le_pow_right (by omega) hz'
  have p0 : 0 < 2 ^ zs.length := Nat.two_pow_pos _
  simp (disch := first|(simp only [Nat.reduceBEq,wE];done)|((repeat' (first|assumption|exact mAx _|refine mBx ?_ ?_|exact mCx (by assumption)|refine mDx ?_|refine mEx ?_ ?_ ?_|exact mFx|refine mGx ?_ ?_ ?_|exact mHx|exact mIx _|(simp only [wM,Nat.reduceAdd,Nat.reduceLT,Nat.reduceLeDiff];done)));done)|omega|decide) only [sBox_v ca, ha.len, callT su, ↓wA,wB,wL,resOf,Nat.reduceBEq,Int.reduceBEq,Int.reduceBNe,Int.reduceLT,Int.reduceLE,Int.reduceAdd,Int.reduceSub,Int.reduceMul,Int.reduceToNat]
  have ro : ∀ m, h.next ≤ m → refOK m a = true := fun m hm => refOK_mono hm ra
  have HL : HokR (h.next + 1 + 1 + 1 + 1) (((h.en.pu [a]).pu [.nilsl]).pu [.int .i64 zs.length]).blks ((h.next + 1 + 1 + 1, adE a h.next) :: h.loops) := HokR.addLoop k3 (by
    simp only [List.map_cons, List.map_nil, refsOK_cons, refsOK_nil, Bool.and_true, ro _ (show h.next ≤ h.next + 1 + 1 + 1 + 1 by omega), refOK, Bool.true_and, Bool.and_eq_true, Nat.blt_eq]
    omega) rfl
  have ov0 : Over h.next h.blks (((h.en.pu [a]).pu [.nilsl]).pu [.int .i64 zs.length]).blks := ⟨[_, _, _], rfl, fun x hx => by
    simp only [List.mem_cons, List.not_mem_nil, or_false] at hx
    rcases hx with rfl | rfl | rfl <;> simp only [Hp.pu, Hp.en] <;> omega⟩
  have n1 : h.next ≠ h.next + 1 := by omega
  have n2 : h.next ≠ h.next + 1 + 1 := by omega
  have n3 : h.next + 1 ≠ h.next + 1 + 1 := by omega
  have L0 : LI h (h.next + 1 + 1 + 1) (adE a h.next) (adV h.next a zs) 0 { next := h.next + 1 + 1 + 1 + 1, blks := (((h.en.pu [a]).pu [.nilsl]).pu [.int .i64 zs.length]).blks, loops := (h.next + 1 + 1 + 1, adE a h.next) :: h.loops, base := h.next, esc := false } :=
    ⟨ov0, HL, Nat.le_refl _, rfl, by
      refine ⟨?_, ?_, .nilsl, ?_, ?_⟩
      · show lkB (_ :: _ :: _ :: h.blks) h.next = _
        rw [lkB_push n2, lkB_push n1]; exact lkB_top
      · show lkB (_ :: _ :: _ :: h.blks) (h.next + 1 + 1) = _
        exact lkB_top
      · show lkB (_ :: _ :: _ :: h.blks) (h.next + 1) = _
        rw [lkB_push n3]; exact lkB_top
      · rw [List.take_zero]; exact Own.nil⟩
  obtain ⟨v, h2, ev, x2, q⟩ := f66 zs.length (h.next + 1 + 1 + 1) (h.next + 1 + 1) hz (by omega) h (adE a h.next) rfl (adV h.next a zs) (fun _ _ => False) (adV_keep _ _ _) Keepy.no
    (fun k bs hv => ⟨_, _, hv.2.1⟩) (fun k s h' hk' hs' L => by
      obtain ⟨b, h3, e1, e2, e3, e4⟩ := ad_round a zs h hk ha hz hz' hb k s h' hk' hs' L
      exact ⟨b, h3, e1, e2, .inl ⟨e3, e4⟩⟩) _ L0
  refine wrange (g := 66) (fs := []) (cs := [.ptr (h.next + 1 + 1) 0]) rfl ⟨v, h2, ev, ?_⟩
  rcases q with L2 | ⟨k, hk2, L2⟩
  · refine ⟨adE a h.next, by rw [L2.lps]; exact lkL_top, (by intro e; cases e), ?_⟩
    have nx2 := L2.nx
    have ok2 : HokR h2.next h2.blks h.loops := by
      have : HokR h2.next h2.blks ((h.next + 1 + 1 + 1, adE a h.next) :: h.loops) := by rw [← L2.lps]; exact L2.ok
      exact this.dropLoop
    simp only [L2.lps, delL_top hne]
    obtain ⟨v1, v2, q, v3, v4⟩ := L2.v
    rw [List.take_of_length_le (by rw [LL_len]; exact Nat.le_refl _)] at v4
    have sl : ((LL zs.length).map (msum zs)).length = 2 ^ zs.length := by rw [List.length_map, LL_len]
    generalize eE' : ({ next := h2.next, blks := h2.blks, loops := h.loops, base := h2.base, esc := h2.esc } : Hp) = hE
    have bE : hE.blks = h2.blks := by rw [← eE']
    have nE : hE.next = h2.next := by rw [← eE']
    have lE : hE.loops = h.loops := by rw [← eE']
    have kE : Hok hE := by rw [← eE']; exact ok2
    have oE : Over h.next h.blks hE.blks := by rw [bE]; exact L2.over
    clear eE'
    rw [← bE] at v1 v3 v4
    obtain ⟨h3, s1, s2, s3, s4, s5, s6, s7, s8⟩ := sort_own kE oE hlt (by omega) v4 (by omega) (by omega)
    have il : (isortI ((LL zs.length).map (msum zs))).length = 2 ^ zs.length := by rw [(isortI_perm _).length_eq, sl]
    obtain ⟨id, cap, h4, t1, t2, t3, t4, t5, t6, t7⟩ := cmp_own s4 s3 hlt (by omega) s2 (by omega) (by omega)
    have es : Evals Tryd.prog tab false (.func 58) [q] hE (.tu [], h3) := evals_tab s1
    have ec : Evals Tryd.prog tab false (.func 59) [q] h3 (_, h4) := evals_tab t1
    have u1 := s8 _ _ (by simp only; omega) v1
    have u3 := s8 _ _ (by simp only; omega) v3
    have y1 := t7 _ _ (by simp only; omega) u1
    have y3 := t7 _ _ (by simp only; omega) u3
    have l1 : cellB h2.blks (h.next + 1) 0 = some q := by rw [← bE]; simp only [cellB, v3, Option.bind_some]; rfl
    have l2 : cellB hE.blks (h.next + 1) 0 = some q := by simp only [cellB, v3, Option.bind_some]; rfl
    have l3 : cellB h3.blks (h.next + 1) 0 = some q := by simp only [cellB, u3, Option.bind_some]; rfl
    have l4 : cellB h3.blks h.next 0 = some a := by simp only [cellB, u1, Option.bind_some]; rfl
    have l5 : cellB h4.blks (h.next + 1) 0 = some q := by simp only [cellB, y3, Option.bind_some]; rfl
    have l6 : cellB h4.blks h.next 0 = some a := by simp only [cellB, y1, Option.bind_some]; rfl
    have ss : sBin .shl .no (.int .i64 1) (.int .i64 (zs.length : Int)) = some (.int .i64 ((2 ^ zs.length : Nat) : Int)) := sBin_shl1 (by omega)
    simp (disch := first|(simp only [Nat.reduceBEq,wE];done)|((repeat' (first|assumption|exact mAx _|refine mBx ?_ ?_|exact mCx (by assumption)|refine mDx ?_|refine mEx ?_ ?_ ?_|exact mFx|refine mGx ?_ ?_ ?_|exact mHx|exact mIx _|(simp only [wM,Nat.reduceAdd,Nat.reduceLT,Nat.reduceLeDiff];done)));done)|omega|decide) only [l1, l2, l3, l4, l5, l6, callT es, callT ec, ha.len, ss, ↓wA,wB,wL,resOf,Nat.reduceBEq,Int.reduceBEq,Int.reduceBNe,Int.reduceLT,Int.reduceLE,Int.reduceAdd,Int.reduceSub,Int.reduceMul,Int.reduceToNat]
    refine ⟨_, rfl, congrArg AV.bool ?_, t2, by rw [t4, s5, nE]; omega, fun _ => t3, by rw [t5, s6, lE]⟩
    rw [Bool.eq_iff_iff]
    simp only [beq_iff_eq, decide_eq_true_eq]
    omega
  · exact L2.v.elim
end Go.Proofs.YtelalpohbodolaaDoor
