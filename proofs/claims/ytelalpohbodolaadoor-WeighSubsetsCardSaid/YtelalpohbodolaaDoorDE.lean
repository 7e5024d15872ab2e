/- The first part that is wanted; Subset. -/
import Derived.Test.YtelalpohbodolaaDoorDC
import Derived.Test.YtelalpohbodolaaDoorDD
set_option linter.unusedSimpArgs false
set_option linter.unusedVariables false
set_option maxHeartbeats 4000000
set_option maxRecDepth 20000
namespace Go.Wg
theorem find_at {n k s : Nat} {P : Nat → Bool} (h : (LL n)[k]? = some s) (hp : P s = true) (hb : ∀ j, j < k → ∀ t, (LL n)[j]? = some t → P t = false) : (LL n).find? P = some s := by
  rw [List.getElem?_eq_some_iff] at h
  obtain ⟨hk, rfl⟩ := h
  rw [List.find?_eq_some_iff_getElem]
  refine ⟨hp, k, hk, rfl, fun j hj => ?_⟩
  have := hb j hj _ (List.getElem?_eq_getElem (by omega))
  simp [this]
theorem find_no {n : Nat} {P : Nat → Bool} (hb : ∀ j, j < 2 ^ n → ∀ t, (LL n)[j]? = some t → P t = false) : (LL n).find? P = none := by
  rw [List.find?_eq_none]
  intro t ht
  obtain ⟨j, hj, e⟩ := List.mem_iff_getElem.1 ht
  have := hb j (by rw [LL_len] at hj; exact hj) t (by rw [List.getElem?_eq_getElem hj, e])
  simp [this]
end Go.Wg
namespace Go.Proofs.YtelalpohbodolaaDoor
open Go Go.Abs Go.Wg

@[reducible] noncomputable def fsE (i : Nat) (w : AV) (c : Nat) : LoopA := { st := 0, jump := none, ps := (rfAt Tryd.prog 46 0).1, assign := (rfAt Tryd.prog 46 0).2.1, body := (rfAt Tryd.prog 46 0).2.2, keep := 5115, n := 15, fr := [(0, .fn (.func 66) [] [.ptr i 0]), (1, w), (3, .ptr c 0), (4, .ptr (c + 1) 0), (5, .ptr (c + 1 + 1) 0), (6, .any), (7, .any), (8, .fn (.func 66) [] [.ptr i 0]), (9, .any), (12, .any)] }
/-- Nothing that is wanted so far. -/
def fsV (n i c : Nat) (bi : Blk) (w : AV) (P : Nat → Bool) (k : Nat) (bs : List (Nat × Blk)) : Prop :=
  lkB bs i = some bi ∧ lkB bs c = some { cells := [w], ch := c, wr := true } ∧ lkB bs (c + 1) = some { cells := [.int .u64 0], ch := c + 1, wr := true } ∧ lkB bs (c + 1 + 1) = some { cells := [.bool false], ch := c + 1 + 1, wr := true } ∧
  ∀ j, j < k → ∀ t, (LL n)[j]? = some t → P t = false
def fsF (n c : Nat) (P : Nat → Bool) (k : Nat) (bs : List (Nat × Blk)) : Prop :=
  ∃ s : Nat, lkB bs (c + 1) = some { cells := [.int .u64 s], ch := c + 1, wr := true } ∧ lkB bs (c + 1 + 1) = some { cells := [.bool true], ch := c + 1 + 1, wr := true } ∧ (LL n).find? P = some s

theorem first_round (n i ff : Nat) (cs : List AV) (P : Nat → Bool) (bi : Blk) (h0 : Hp) (hk0 : Hok h0) (hi : lkB h0.blks i = some bi)
    (want : ∀ (s : Nat) (h' : Hp), s < 2 ^ n → Hok h' → Sub h0.blks h'.blks → Evals Tryd.prog tab false (.func ff) (.int .u64 s :: cs) h' (.bool (P s), h'))
    (k s : Nat) (h : Hp) (hk : k < 2 ^ n) (hs : (LL n)[k]? = some s) (L : LI h0 (h0.next + 1 + 1 + 1) (fsE i (.fn (.func ff) [] cs) h0.next) (fsV n i h0.next bi (.fn (.func ff) [] cs) P) k h) :
    ∃ b h', Evals Tryd.prog tab false (.yield (h0.next + 1 + 1 + 1)) [.int .u64 s] h (b, h') ∧ (Elder h h' ∧ ((b = .bool true ∧ LI h0 (h0.next + 1 + 1 + 1) (fsE i (.fn (.func ff) [] cs) h0.next) (fsV n i h0.next bi (.fn (.func ff) [] cs) P) (k + 1) h') ∨
      (b = .bool false ∧ LI h0 (h0.next + 1 + 1 + 1) { fsE i (.fn (.func ff) [] cs) h0.next with st := 2, jump := some none } (fsF n h0.next P) k h'))) := by
  have hl : lkL h.loops (h0.next + 1 + 1 + 1) = some (fsE i (.fn (.func ff) [] cs) h0.next) := by rw [L.lps]; exact lkL_top
  refine evals_yield (fr := [(0, .fn (.func 66) [] [.ptr i 0]), (1, .fn (.func ff) [] cs), (3, .ptr h0.next 0), (4, .ptr (h0.next + 1) 0), (5, .ptr (h0.next + 1 + 1) 0), (6, .any), (7, .any), (8, .fn (.func 66) [] [.ptr i 0]), (9, .int .u64 s), (12, .any)]) hl rfl (by rw [show (fsE i (.fn (.func ff) [] cs) h0.next).ps = #[9] from rp46_0]; show (#[9].toList.all fun t => Nat.testBit 5115 t && Nat.blt t 15) = true; decide) ra46_0 rb46_0 (by rw [show (fsE i (.fn (.func ff) [] cs) h0.next).ps = #[9] from rp46_0]; rfl) ?_
  have hlt0 : ∀ x ∈ h0.blks, x.1 < h0.next := fun x hx => (hk0.blk hx).1
  have hsm : s < 2 ^ n := by
    obtain ⟨s', e1, e2⟩ := LL_get hk
    rw [hs] at e1
    cases e1
    exact e2
  have hil := (hk0.get hi).1
  obtain ⟨v0, v1, v2, v3, v4⟩ := L.v
  have nx := L.nx
  simp (disch := first|(simp only [Nat.reduceBEq,wE];done)|((repeat' (first|assumption|exact mAx _|refine mBx ?_ ?_|exact mCx (by assumption)|refine mDx ?_|refine mEx ?_ ?_ ?_|exact mFx|refine mGx ?_ ?_ ?_|exact mHx|exact mIx _|(simp only [wM,Nat.reduceAdd,Nat.reduceLT,Nat.reduceLeDiff];done)));done)|omega|decide) only [↓wA,wB,wL,resOf,Nat.reduceBEq,Int.reduceBEq,Int.reduceBNe,Int.reduceLT,Int.reduceLE,Int.reduceAdd,Int.reduceSub,Int.reduceMul,Int.reduceToNat]
  refine ⟨_, hl, rfl, ?_⟩
  generalize hgen : setL h.loops _ _ = SL
  obtain ⟨eB, hSL, kA, f1, f2, f3, f4⟩ := L.busy rfl rfl hgen
  clear hgen
  subst hSL
  generalize eA' : ({ next := h.next, blks := h.blks, loops := (h0.next + 1 + 1 + 1, eB) :: h0.loops, base := h.base, esc := h.esc } : Hp) = hA
  have eA := eA'.symm
  clear eA'
  have bA : hA.blks = h.blks := by rw [eA]
  have nA : hA.next = h.next := by rw [eA]
  have lA : hA.loops = (h0.next + 1 + 1 + 1, eB) :: h0.loops := by rw [eA]
  have kA : Hok hA := by rw [eA]; exact kA
  have ovA : Over h0.next h0.blks hA.blks := by rw [bA]; exact L.over
  have su := want s hA hsm kA (ovA.sub hlt0)
  have l1 : cellB h.blks h0.next 0 = some (.fn (.func ff) [] cs) := by simp only [cellB, v1, Option.bind_some]; rfl
  have l1' : cellB hA.blks h0.next 0 = some (.fn (.func ff) [] cs) := by rw [bA]; exact l1
  have xA : Elder h hA := ⟨⟨[], h.blks, by rw [bA]; rfl, rfl, by simp⟩, by rw [nA]; exact Nat.le_refl _⟩
  cases eP : P s with
  | true =>
    rw [eP] at su
    rw [← bA] at v0 v1 v2 v3
    obtain ⟨h1, w1, l2, o1, k1, n1, ls1, x1, r1⟩ := store_old (id := h0.next + 1) (v := .int .u64 (s : Int)) kA ovA hlt0 v2 (by omega) ⟨rfl, rfl⟩ rfl
    obtain ⟨h2, w2, l3, o2, k2, n2, ls2, x2, r2⟩ := store_old (id := h0.next + 1 + 1) (v := .bool true) k1 o1 hlt0 (r1 _ _ (by omega) v3 (by simp only; omega)) (by omega) ⟨rfl, rfl⟩ rfl
    simp (disch := first|(simp only [Nat.reduceBEq,wE];done)|((repeat' (first|assumption|exact mAx _|refine mBx ?_ ?_|exact mCx (by assumption)|refine mDx ?_|refine mEx ?_ ?_ ?_|exact mFx|refine mGx ?_ ?_ ?_|exact mHx|exact mIx _|(simp only [wM,Nat.reduceAdd,Nat.reduceLT,Nat.reduceLeDiff];done)));done)|omega|decide) only [l1, l1', callC (args := [.int .u64 (s : Int)]) (cs := cs) su, w1, w2, ↓wA,wB,wL,resOf,Nat.reduceBEq,Int.reduceBEq,Int.reduceBNe,Int.reduceLT,Int.reduceLE,Int.reduceAdd,Int.reduceSub,Int.reduceMul,Int.reduceToNat]
    have e2 : h2.loops = (h0.next + 1 + 1 + 1, eB) :: h0.loops := by rw [ls2, ls1]; exact lA
    have x4' := xA.trans (x1.trans x2)
    refine ⟨eB, by rw [e2, lkL_top], ⟨x4'.blks, x4'.next⟩, .inr ⟨rfl, LI.gone o2 k2 (by rw [n2, n1, nA]; omega) e2 f1 f4 ⟨s, r2 _ _ (by omega) l2 (by simp only; omega), l3, find_at hs eP v4⟩⟩⟩
  | false =>
    rw [eP] at su
    simp (disch := first|(simp only [Nat.reduceBEq,wE];done)|((repeat' (first|assumption|exact mAx _|refine mBx ?_ ?_|exact mCx (by assumption)|refine mDx ?_|refine mEx ?_ ?_ ?_|exact mFx|refine mGx ?_ ?_ ?_|exact mHx|exact mIx _|(simp only [wM,Nat.reduceAdd,Nat.reduceLT,Nat.reduceLeDiff];done)));done)|omega|decide) only [l1, l1', callC (args := [.int .u64 (s : Int)]) (cs := cs) su, ↓wA,wB,wL,resOf,Nat.reduceBEq,Int.reduceBEq,Int.reduceBNe,Int.reduceLT,Int.reduceLE,Int.reduceAdd,Int.reduceSub,Int.reduceMul,Int.reduceToNat]
    refine ⟨eB, by rw [lA, lkL_top], ⟨xA.blks, xA.next⟩, .inl ⟨rfl, LI.done ovA kA (by rw [nA]; omega) lA f1 rfl f3 ?_⟩⟩
    rw [bA]
    refine ⟨v0, v1, v2, v3, fun j hj t ht => ?_⟩
    rcases Nat.lt_or_ge j k with h1 | h1
    · exact v4 j h1 t ht
    · have : j = k := by omega
      subst this
      rw [hs] at ht
      cases ht
      exact eP

theorem f46 (n i ff : Nat) (hn : 0 < n) (hn12 : n ≤ 16) (cs : List AV) (P : Nat → Bool) (bi : Blk) (h : Hp) (hk : Hok h) (hi : lkB h.blks i = some bi) (hbi : bi.cells = [.int .i64 n]) (hcs : refsOK h.next cs = true)
    (want : ∀ (s : Nat) (h' : Hp), s < 2 ^ n → Hok h' → Sub h.blks h'.blks → Evals Tryd.prog tab false (.func ff) (.int .u64 s :: cs) h' (.bool (P s), h')) :
    Evals Tryd.prog tab false (.func 46) [.fn (.func 66) [] [.ptr i 0], .fn (.func ff) [] cs] h
      (.tu [.int .u64 ((((LL n).find? P).getD 0 : Nat) : Int), .bool ((LL n).find? P).isSome], h) := by
  refine evals_pure c46 rfl hk ?_
  simp only [sf46, initS_cons, initS_nil]
  have hlt : ∀ x ∈ h.blks, x.1 < h.next := fun x hx => (hk.blk hx).1
  have hil := (hk.get hi).1
  have hne : ∀ x ∈ h.loops, x.1 ≠ h.next + 1 + 1 + 1 := fun x hx => by have := (hk.lps hx).1; omega
  have rw' : ∀ m, h.next ≤ m → refOK m (.fn (.func ff) [] cs) = true := fun m hm => by simp only [refOK, refsOK_nil, Bool.true_and]; exact refsOK_mono hm hcs
  have rc' : ∀ m, h.next ≤ m → refOK m (.fn (.func 66) [] [.ptr i 0]) = true := fun m hm => by
    simp only [refOK, refsOK_cons, refsOK_nil, Bool.and_true, Bool.true_and, Nat.blt_eq]; omega
  have k1 : Hok (h.en.pu [.fn (.func ff) [] cs]) := Hok.pu hk (by simp only [refsOK_cons, refsOK_nil, Bool.and_true]; exact rw' _ (Nat.le_succ _))
  have k2 : Hok ((h.en.pu [.fn (.func ff) [] cs]).pu [.int .u64 0]) := Hok.pu k1 rfl
  have k3 : Hok (((h.en.pu [.fn (.func ff) [] cs]).pu [.int .u64 0]).pu [.bool false]) := Hok.pu k2 rfl
  have n1 : h.next ≠ h.next + 1 := by omega
  have n2 : h.next ≠ h.next + 1 + 1 := by omega
  have n3 : h.next + 1 ≠ h.next + 1 + 1 := by omega
  have ov0 : Over h.next h.blks (((h.en.pu [.fn (.func ff) [] cs]).pu [.int .u64 0]).pu [.bool false]).blks := ⟨[_, _, _], rfl, fun x hx => by
    simp only [List.mem_cons, List.not_mem_nil, or_false] at hx
    rcases hx with rfl | rfl | rfl <;> simp only [Hp.pu, Hp.en] <;> omega⟩
  have HL : HokR (h.next + 1 + 1 + 1 + 1) (((h.en.pu [.fn (.func ff) [] cs]).pu [.int .u64 0]).pu [.bool false]).blks ((h.next + 1 + 1 + 1, fsE i (.fn (.func ff) [] cs) h.next) :: h.loops) := HokR.addLoop k3 (by
    simp only [List.map_cons, List.map_nil, refsOK_cons, refsOK_nil, Bool.and_true, rw' _ (show h.next ≤ h.next + 1 + 1 + 1 + 1 by omega), rc' _ (show h.next ≤ h.next + 1 + 1 + 1 + 1 by omega), Bool.true_and]
    simp only [refOK, Nat.blt_eq, Bool.and_eq_true, Bool.true_and, Bool.and_true]
    omega) rfl
  have L0 : LI h (h.next + 1 + 1 + 1) (fsE i (.fn (.func ff) [] cs) h.next) (fsV n i h.next bi (.fn (.func ff) [] cs) P) 0 { next := h.next + 1 + 1 + 1 + 1, blks := (((h.en.pu [.fn (.func ff) [] cs]).pu [.int .u64 0]).pu [.bool false]).blks, loops := (h.next + 1 + 1 + 1, fsE i (.fn (.func ff) [] cs) h.next) :: h.loops, base := h.next, esc := false } :=
    ⟨ov0, HL, Nat.le_refl _, rfl, by
      refine ⟨ov0.sub hlt _ _ hi, ?_, ?_, ?_, fun j hj => by omega⟩
      · show lkB (_ :: _ :: _ :: h.blks) h.next = _
        rw [lkB_push n2, lkB_push n1]; exact lkB_top
      · show lkB (_ :: _ :: _ :: h.blks) (h.next + 1) = _
        rw [lkB_push n3]; exact lkB_top
      · show lkB (_ :: _ :: _ :: h.blks) (h.next + 1 + 1) = _
        exact lkB_top⟩
  have KV : Keepy (h.next + 1 + 1 + 1 + 1) (fsV n i h.next bi (.fn (.func ff) [] cs) P) := fun k d bs bs' ls ⟨v0, v1, v2, v3, v4⟩ hd hk' lk =>
    ⟨by rw [lk _ (by omega)]; exact v0, by rw [lk _ (by omega)]; exact v1, by rw [lk _ (by omega)]; exact v2, by rw [lk _ (by omega)]; exact v3, v4⟩
  have KF : Keepy (h.next + 1 + 1 + 1 + 1) (fsF n h.next P) := fun k d bs bs' ls ⟨s, v1, v2, v3⟩ hd hk' lk => ⟨s, by rw [lk _ (by omega)]; exact v1, by rw [lk _ (by omega)]; exact v2, v3⟩
  obtain ⟨v, h2, ev, x2, q⟩ := f66 n (h.next + 1 + 1 + 1) i hn hn12 h (fsE i (.fn (.func ff) [] cs) h.next) rfl (fsV n i h.next bi (.fn (.func ff) [] cs) P) (fsF n h.next P) KV KF
    (fun k bs hv => ⟨bi.ch, bi.wr, by rw [hv.1, ← hbi]⟩) (fun k s h' hk' hs' L => by
      obtain ⟨b, h3, e1, e2, e3⟩ := first_round n i ff cs P bi h hk hi want k s h' hk' hs' L
      exact ⟨b, h3, e1, e2, e3⟩) _ L0
  have ca : AV.parts (.fn (.func ff) [] cs) = some [.fn (.func ff) [] cs] ∧ AV.isCell (.fn (.func ff) [] cs) = true := ⟨rfl, rfl⟩
  simp (disch := first|(simp only [Nat.reduceBEq,wE];done)|((repeat' (first|assumption|exact mAx _|refine mBx ?_ ?_|exact mCx (by assumption)|refine mDx ?_|refine mEx ?_ ?_ ?_|exact mFx|refine mGx ?_ ?_ ?_|exact mHx|exact mIx _|(simp only [wM,Nat.reduceAdd,Nat.reduceLT,Nat.reduceLeDiff];done)));done)|omega|decide) only [sBox_v ca, ↓wA,wB,wL,resOf,Nat.reduceBEq,Int.reduceBEq,Int.reduceBNe,Int.reduceLT,Int.reduceLE,Int.reduceAdd,Int.reduceSub,Int.reduceMul,Int.reduceToNat]
  refine wrange (g := 66) (fs := []) (cs := [.ptr i 0]) rfl ⟨v, h2, ev, ?_⟩
  rcases q with L2 | ⟨k, hk2, L2⟩
  · refine ⟨fsE i (.fn (.func ff) [] cs) h.next, by rw [L2.lps]; exact lkL_top, (by intro e; cases e), ?_⟩
    have nx2 := L2.nx
    have ok2 : HokR h2.next h2.blks h.loops := by
      have : HokR h2.next h2.blks ((h.next + 1 + 1 + 1, fsE i (.fn (.func ff) [] cs) h.next) :: h.loops) := by rw [← L2.lps]; exact L2.ok
      exact this.dropLoop
    simp only [L2.lps, delL_top hne]
    obtain ⟨v0, v1, v2, v3, v4⟩ := L2.v
    rw [find_no v4]
    generalize eE' : ({ next := h2.next, blks := h2.blks, loops := h.loops, base := h2.base, esc := h2.esc } : Hp) = hE
    have bE : hE.blks = h2.blks := by rw [← eE']
    have nE : hE.next = h2.next := by rw [← eE']
    have lE : hE.loops = h.loops := by rw [← eE']
    have kE : Hok hE := by rw [← eE']; exact ok2
    have oE : Over h.next h.blks hE.blks := by rw [bE]; exact L2.over
    clear eE'
    rw [← bE] at v2 v3
    obtain ⟨h3, w3, l3, o3, k3', n3', ls3, x3, r3⟩ := store_old (id := h.next + 1) (v := .int .u64 0) kE oE hlt v2 (by omega) ⟨rfl, rfl⟩ rfl
    obtain ⟨h4, w4, l4, o4, k4, n4, ls4, x4, r4⟩ := store_old (id := h.next + 1 + 1) (v := .bool false) k3' o3 hlt (r3 _ _ (by omega) v3 (by simp only; omega)) (by omega) ⟨rfl, rfl⟩ rfl
    have l3' := r4 _ _ (by omega) l3 (by simp only; omega)
    have s2 : sCellV none h4.blks (.ptr (h.next + 1) 0) = some (.int .u64 0) := by simp only [sCellV, cellB, l3', Option.bind_some]; rfl
    have s3 : sCellV none h4.blks (.ptr (h.next + 1 + 1) 0) = some (.bool false) := by simp only [sCellV, cellB, l4, Option.bind_some]; rfl
    simp (disch := first|(simp only [Nat.reduceBEq,wE];done)|((repeat' (first|assumption|exact mAx _|refine mBx ?_ ?_|exact mCx (by assumption)|refine mDx ?_|refine mEx ?_ ?_ ?_|exact mFx|refine mGx ?_ ?_ ?_|exact mHx|exact mIx _|(simp only [wM,Nat.reduceAdd,Nat.reduceLT,Nat.reduceLeDiff];done)));done)|omega|decide) only [w3, w4, s2, s3, ↓wA,wB,wL,resOf,Nat.reduceBEq,Int.reduceBEq,Int.reduceBNe,Int.reduceLT,Int.reduceLE,Int.reduceAdd,Int.reduceSub,Int.reduceMul,Int.reduceToNat]
    exact ⟨_, rfl, rfl, o4, by rw [n4, n3', nE]; omega, fun _ => k4, by rw [ls4, ls3, lE]⟩
  · refine ⟨{ fsE i (.fn (.func ff) [] cs) h.next with st := 2, jump := some none }, by rw [L2.lps]; exact lkL_top, (by intro e; cases e), ?_⟩
    have nx2 := L2.nx
    have ok2 : HokR h2.next h2.blks h.loops := by
      have : HokR h2.next h2.blks ((h.next + 1 + 1 + 1, { fsE i (.fn (.func ff) [] cs) h.next with st := 2, jump := some none }) :: h.loops) := by rw [← L2.lps]; exact L2.ok
      exact this.dropLoop
    simp only [L2.lps, delL_top hne]
    obtain ⟨s, v1, v2, v3⟩ := L2.v
    rw [v3]
    have s2 : sCellV none h2.blks (.ptr (h.next + 1) 0) = some (.int .u64 s) := by simp only [sCellV, cellB, v1, Option.bind_some]; rfl
    have s3 : sCellV none h2.blks (.ptr (h.next + 1 + 1) 0) = some (.bool true) := by simp only [sCellV, cellB, v2, Option.bind_some]; rfl
    simp (disch := first|(simp only [Nat.reduceBEq,wE];done)|((repeat' (first|assumption|exact mAx _|refine mBx ?_ ?_|exact mCx (by assumption)|refine mDx ?_|refine mEx ?_ ?_ ?_|exact mFx|refine mGx ?_ ?_ ?_|exact mHx|exact mIx _|(simp only [wM,Nat.reduceAdd,Nat.reduceLT,Nat.reduceLeDiff];done)));done)|omega|decide) only [s2, s3, ↓wA,wB,wL,resOf,Nat.reduceBEq,Int.reduceBEq,Int.reduceBNe,Int.reduceLT,Int.reduceLE,Int.reduceAdd,Int.reduceSub,Int.reduceMul,Int.reduceToNat]
    exact ⟨_, rfl, rfl, L2.over, by show h.next ≤ h2.next; omega, fun _ => ok2, rfl⟩
end Go.Proofs.YtelalpohbodolaaDoor
