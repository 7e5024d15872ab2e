/- The first weighing that is wanted: the function. -/
import Derived.Test.YtelalpohbodolaaDoorDL
set_option linter.unusedSimpArgs false
set_option linter.unusedVariables false
set_option maxHeartbeats 4000000
set_option maxRecDepth 20000
namespace Go.Proofs.YtelalpohbodolaaDoor
open Go Go.Abs Go.Wg

theorem f50 (n i ff : Nat) (hn : 0 < n) (hn9 : n ≤ 9) (cs : List AV) (P : Nat → Bool) (bi : Blk) (h : Hp) (hk : Hok h) (hi : lkB h.blks i = some bi) (hbi : bi.cells = [.int .i64 n]) (hcs : refsOK h.next cs = true)
    (want : ∀ (s : Nat) (h' : Hp), s < 3 ^ n → Hok h' → Sub h.blks h'.blks → Evals Tryd.prog tab false (.func ff) (.ag (ints .i64 (cw n s 0)) :: cs) h' (.bool (P s), h')) :
    Evals Tryd.prog tab false (.func 50) [.fn (.func 67) [] [.ptr i 0], .fn (.func ff) [] cs] h
      (.tu [.ag (ints .i64 (wres n P)), .bool (wfst n P).isSome], h) := by
  have hrr : refOK h.next (.tu [.ag (ints .i64 (wres n P)), .bool (wfst n P).isSome]) = true := by
    simp only [refOK, refsOK_cons, refsOK_nil, Bool.and_true, refsOK_ints]
  refine evals_pure c50 rfl hk ?_ hrr
  simp only [sf50, initS_cons, initS_nil]
  have hlt : ∀ x ∈ h.blks, x.1 < h.next := fun x hx => (hk.blk hx).1
  have hil := (hk.get hi).1
  have hne : ∀ x ∈ h.loops, x.1 ≠ h.next + 1 + 1 + 1 := fun x hx => by have := (hk.lps hx).1; omega
  have rw' : ∀ m, h.next ≤ m → refOK m (.fn (.func ff) [] cs) = true := fun m hm => by simp only [refOK, refsOK_nil, Bool.true_and]; exact refsOK_mono hm hcs
  have rc' : ∀ m, h.next ≤ m → refOK m (.fn (.func 67) [] [.ptr i 0]) = true := fun m hm => by
    simp only [refOK, refsOK_cons, refsOK_nil, Bool.and_true, Bool.true_and, Nat.blt_eq]; omega
  have k1 : Hok (h.en.pu [.fn (.func ff) [] cs]) := Hok.pu hk (by simp only [refsOK_cons, refsOK_nil, Bool.and_true]; exact rw' _ (Nat.le_succ _))
  have k2 : Hok ((h.en.pu [.fn (.func ff) [] cs]).pu (ints .i64 [0, 0, 0, 0, 0, 0, 0, 0, 0])) := Hok.pu k1 rfl
  have k3 : Hok (((h.en.pu [.fn (.func ff) [] cs]).pu (ints .i64 [0, 0, 0, 0, 0, 0, 0, 0, 0])).pu [.bool false]) := Hok.pu k2 rfl
  have n1 : h.next ≠ h.next + 1 := by omega
  have n2 : h.next ≠ h.next + 1 + 1 := by omega
  have n3 : h.next + 1 ≠ h.next + 1 + 1 := by omega
  have ov0 : Over h.next h.blks (((h.en.pu [.fn (.func ff) [] cs]).pu (ints .i64 [0, 0, 0, 0, 0, 0, 0, 0, 0])).pu [.bool false]).blks := ⟨[_, _, _], rfl, fun x hx => by
    simp only [List.mem_cons, List.not_mem_nil, or_false] at hx
    rcases hx with rfl | rfl | rfl <;> simp only [Hp.pu, Hp.en] <;> omega⟩
  have HL : HokR (h.next + 1 + 1 + 1 + 1) (((h.en.pu [.fn (.func ff) [] cs]).pu (ints .i64 [0, 0, 0, 0, 0, 0, 0, 0, 0])).pu [.bool false]).blks ((h.next + 1 + 1 + 1, pwE i (.fn (.func ff) [] cs) h.next) :: h.loops) := HokR.addLoop k3 (by
    simp only [List.map_cons, List.map_nil, refsOK_cons, refsOK_nil, Bool.and_true, rw' _ (show h.next ≤ h.next + 1 + 1 + 1 + 1 by omega), rc' _ (show h.next ≤ h.next + 1 + 1 + 1 + 1 by omega), Bool.true_and]
    simp only [refOK, Nat.blt_eq, Bool.and_eq_true, Bool.true_and, Bool.and_true]
    omega) rfl
  have L0 : LI h (h.next + 1 + 1 + 1) (pwE i (.fn (.func ff) [] cs) h.next) (pwV i h.next bi (.fn (.func ff) [] cs) P) 0 { next := h.next + 1 + 1 + 1 + 1, blks := (((h.en.pu [.fn (.func ff) [] cs]).pu (ints .i64 [0, 0, 0, 0, 0, 0, 0, 0, 0])).pu [.bool false]).blks, loops := (h.next + 1 + 1 + 1, pwE i (.fn (.func ff) [] cs) h.next) :: h.loops, base := h.next, esc := false } :=
    ⟨ov0, HL, Nat.le_refl _, rfl, by
      refine ⟨ov0.sub hlt _ _ hi, ?_, ?_, ?_, fun j hj => by omega⟩
      · show lkB (_ :: _ :: _ :: h.blks) h.next = _
        rw [lkB_push n2, lkB_push n1]; exact lkB_top
      · show lkB (_ :: _ :: _ :: h.blks) (h.next + 1) = _
        rw [lkB_push n3]; exact lkB_top
      · show lkB (_ :: _ :: _ :: h.blks) (h.next + 1 + 1) = _
        exact lkB_top⟩
  obtain ⟨v, h2, ev, x2, q⟩ := f67 n (h.next + 1 + 1 + 1) i hn hn9 h hk (by omega) (pwE i (.fn (.func ff) [] cs) h.next) rfl (pwV i h.next bi (.fn (.func ff) [] cs) P) (pwF n h.next P) (pwV_low hil) pwF_low
    (fun k bs hv => ⟨bi.ch, bi.wr, by rw [hv.1, ← hbi]⟩) (fun k m h' hk' hm' hb' L => by
      obtain ⟨b, h3, e1, e2, e3, e4⟩ := pw_round n i ff hn9 cs P bi h hk hi want k m h' hk' hm' hb' L
      exact ⟨b, h3, e1, e2, e3, e4⟩) _ L0
  have ca : AV.parts (.fn (.func ff) [] cs) = some [.fn (.func ff) [] cs] ∧ AV.isCell (.fn (.func ff) [] cs) = true := ⟨rfl, rfl⟩
  simp (disch := first|(simp only [Nat.reduceBEq,wE];done)|((repeat' (first|assumption|exact mAx _|refine mBx ?_ ?_|exact mCx (by assumption)|refine mDx ?_|refine mEx ?_ ?_ ?_|exact mFx|refine mGx ?_ ?_ ?_|exact mHx|exact mIx _|(simp only [wM,Nat.reduceAdd,Nat.reduceLT,Nat.reduceLeDiff];done)));done)|omega|decide) only [sBox_v ca, ↓wA,wB,wL,resOf,Nat.reduceBEq,Int.reduceBEq,Int.reduceBNe,Int.reduceLT,Int.reduceLE,Int.reduceAdd,Int.reduceSub,Int.reduceMul,Int.reduceToNat]
  refine wrange (g := 67) (fs := []) (cs := [.ptr i 0]) rfl ⟨v, h2, ev, ?_⟩
  rcases q with L2 | ⟨k, hk2, L2⟩
  · refine ⟨pwE i (.fn (.func ff) [] cs) h.next, by rw [L2.lps]; exact lkL_top, (by intro e; cases e), ?_⟩
    have nx2 := L2.nx
    have ok2 : HokR h2.next h2.blks h.loops := by
      have : HokR h2.next h2.blks ((h.next + 1 + 1 + 1, pwE i (.fn (.func ff) [] cs) h.next) :: h.loops) := by rw [← L2.lps]; exact L2.ok
      exact this.dropLoop
    simp only [L2.lps, delL_top hne]
    obtain ⟨v0, v1, v2, v3, v4⟩ := L2.v
    have en := wfst_none v4
    have er : wres n P = [0, 0, 0, 0, 0, 0, 0, 0, 0] := by unfold wres; rw [en]
    rw [er, en]
    generalize eE' : ({ next := h2.next, blks := h2.blks, loops := h.loops, base := h2.base, esc := h2.esc } : Hp) = hE
    have bE : hE.blks = h2.blks := by rw [← eE']
    have nE : hE.next = h2.next := by rw [← eE']
    have lE : hE.loops = h.loops := by rw [← eE']
    have kE : Hok hE := by rw [← eE']; exact ok2
    have oE : Over h.next h.blks hE.blks := by rw [bE]; exact L2.over
    clear eE'
    rw [← bE] at v2 v3
    have kP : Hok (hE.pu (ints .i64 [0, 0, 0, 0, 0, 0, 0, 0, 0])) := Hok.pu kE rfl
    have sP : Sub hE.blks (hE.pu (ints .i64 [0, 0, 0, 0, 0, 0, 0, 0, 0])).blks := Sub.pu kE
    have oP : Over h.next h.blks (hE.pu (ints .i64 [0, 0, 0, 0, 0, 0, 0, 0, 0])).blks := by
      obtain ⟨N, eN, fN⟩ := oE
      refine ⟨(hE.next, { cells := ints .i64 [0, 0, 0, 0, 0, 0, 0, 0, 0], ch := hE.next, wr := true }) :: N, by show _ :: hE.blks = _; rw [eN]; rfl, fun x hx => ?_⟩
      rcases List.mem_cons.1 hx with rfl | hx
      · simp only; omega
      · exact fN x hx
    obtain ⟨h3, w3, l3, o3, k3', n3', ls3, x3, r3⟩ := store_agg (n := 9) (id := h.next + 1) (vs := ints .i64 [0, 0, 0, 0, 0, 0, 0, 0, 0]) kP oP hlt (sP _ _ v2) (by omega) rfl rfl rfl rfl
    obtain ⟨h4, w4, l4, o4, k4, n4, ls4, x4, r4⟩ := store_old (id := h.next + 1 + 1) (v := .bool false) k3' o3 hlt (r3 _ _ (by omega) (sP _ _ v3) (by simp only; omega)) (by omega) ⟨rfl, rfl⟩ rfl
    have l3' := r4 _ _ (by omega) l3 (by simp only; omega)
    have s2 : sCellV (some 9) h4.blks (.ptr (h.next + 1) 0) = some (.ag (ints .i64 [0, 0, 0, 0, 0, 0, 0, 0, 0])) := by simp only [sCellV, aggB, l3', Option.bind_some]; rfl
    have s3 : sCellV none h4.blks (.ptr (h.next + 1 + 1) 0) = some (.bool false) := by simp only [sCellV, cellB, l4, Option.bind_some]; rfl
    have ag : aggB ((hE.next, { cells := [.int .i64 0, .int .i64 0, .int .i64 0, .int .i64 0, .int .i64 0, .int .i64 0, .int .i64 0, .int .i64 0, .int .i64 0], ch := hE.next, wr := true }) :: hE.blks) hE.next 0 9 = some (.ag [.int .i64 0, .int .i64 0, .int .i64 0, .int .i64 0, .int .i64 0, .int .i64 0, .int .i64 0, .int .i64 0, .int .i64 0]) := by rw [aggB_hit]; rfl
    replace w3 : sStore 9 { next := hE.next + 1, blks := (hE.next, { cells := [.int .i64 0, .int .i64 0, .int .i64 0, .int .i64 0, .int .i64 0, .int .i64 0, .int .i64 0, .int .i64 0, .int .i64 0], ch := hE.next, wr := true }) :: hE.blks, loops := hE.loops, base := hE.base, esc := hE.esc } (.ag [.int .i64 0, .int .i64 0, .int .i64 0, .int .i64 0, .int .i64 0, .int .i64 0, .int .i64 0, .int .i64 0, .int .i64 0]) (.ptr (h.next + 1) 0) = some (.any, h3) := w3
    simp (disch := first|(simp only [Nat.reduceBEq,wE];done)|((repeat' (first|assumption|exact mAx _|refine mBx ?_ ?_|exact mCx (by assumption)|refine mDx ?_|refine mEx ?_ ?_ ?_|exact mFx|refine mGx ?_ ?_ ?_|exact mHx|exact mIx _|(simp only [wM,Nat.reduceAdd,Nat.reduceLT,Nat.reduceLeDiff];done)));done)|omega|decide) only [ag, w3, w4, s2, s3, ↓wA,wB,wL,resOf,Nat.reduceBEq,Int.reduceBEq,Int.reduceBNe,Int.reduceLT,Int.reduceLE,Int.reduceAdd,Int.reduceSub,Int.reduceMul,Int.reduceToNat]
    refine ⟨_, rfl, rfl, o4, ?_, fun _ => k4, by rw [ls4, ls3]; exact lE⟩
    rw [n4, n3']
    show h.next ≤ hE.next + 1
    omega
  · refine ⟨{ pwE i (.fn (.func ff) [] cs) h.next with st := 2, jump := some none }, by rw [L2.lps]; exact lkL_top, (by intro e; cases e), ?_⟩
    have nx2 := L2.nx
    have ok2 : HokR h2.next h2.blks h.loops := by
      have : HokR h2.next h2.blks ((h.next + 1 + 1 + 1, { pwE i (.fn (.func ff) [] cs) h.next with st := 2, jump := some none }) :: h.loops) := by rw [← L2.lps]; exact L2.ok
      exact this.dropLoop
    simp only [L2.lps, delL_top hne]
    obtain ⟨s, v1, v2, v3⟩ := L2.v
    have er : wres n P = cw n s 0 := by unfold wres; rw [v3]
    rw [er, v3]
    have s2 : sCellV (some 9) h2.blks (.ptr (h.next + 1) 0) = some (.ag (ints .i64 (cw n s 0))) := by
      simp only [sCellV, aggB, v1, Option.bind_some]
      rw [slice9 (cw_len hn9 (Nat.zero_le _))]; rfl
    have s3 : sCellV none h2.blks (.ptr (h.next + 1 + 1) 0) = some (.bool true) := by simp only [sCellV, cellB, v2, Option.bind_some]; rfl
    simp (disch := first|(simp only [Nat.reduceBEq,wE];done)|((repeat' (first|assumption|exact mAx _|refine mBx ?_ ?_|exact mCx (by assumption)|refine mDx ?_|refine mEx ?_ ?_ ?_|exact mFx|refine mGx ?_ ?_ ?_|exact mHx|exact mIx _|(simp only [wM,Nat.reduceAdd,Nat.reduceLT,Nat.reduceLeDiff];done)));done)|omega|decide) only [s2, s3, ↓wA,wB,wL,resOf,Nat.reduceBEq,Int.reduceBEq,Int.reduceBNe,Int.reduceLT,Int.reduceLE,Int.reduceAdd,Int.reduceSub,Int.reduceMul,Int.reduceToNat]
    exact ⟨_, rfl, rfl, L2.over, by show h.next ≤ h2.next; omega, fun _ => ok2, rfl⟩
end Go.Proofs.YtelalpohbodolaaDoor
