/- Pans. -/
import Derived.Test.YtelalpohbodolaaDoorDM
import Derived.Test.YtelalpohbodolaaDoorD7
set_option linter.unusedSimpArgs false
set_option linter.unusedVariables false
set_option maxHeartbeats 4000000
set_option maxRecDepth 20000
namespace Go.Abs
theorem Ints.pre9 {bs : List (Nat × Blk)} {m n c : Nat} {w : Bool} {xs ys : List Int} (hx : xs.length = n) (hn : n ≤ 9) : Ints ((m, { cells := ints .i64 (xs ++ ys), ch := c, wr := w }) :: bs) .i64 (.sl m 0 n (some 9) 1) xs := by
  subst hx
  refine ⟨by simp [ints_len], .inr ⟨m, 0, some 9, rfl, hn, fun j hj => ?_⟩⟩
  rw [cellB_hit, Nat.zero_add, ← ints_append, List.getElem?_append_left (by rw [ints_len]; omega)]
end Go.Abs
namespace Go.Wg
def paE (zs : List Int) (total : Int) : Int := if errW zs 9 total = 0 then (if (wfst zs.length (wP zs total)).isSome = true then 0 else 5) else errW zs 9 total
def paL (zs : List Int) (total : Int) : List Int := if errW zs 9 total = 0 ∧ (wfst zs.length (wP zs total)).isSome = true then wg zs.length ((wfst zs.length (wP zs total)).getD 0) else []
theorem errW_good9 {zs : List Int} {m : Nat} {total : Int} (e0 : errW zs m total = 0) : zs.length ≤ m ∧ WF zs ∧ 0 ≤ total := by
  unfold errW at e0
  by_cases h1 : m < zs.length
  · rw [if_pos h1] at e0; cases e0
  · rw [if_neg h1] at e0
    by_cases h2 : total < 0
    · rw [if_pos h2] at e0; cases e0
    · rw [if_neg h2] at e0
      by_cases h3 : WF zs
      · exact ⟨by omega, h3, by omega⟩
      · rw [if_pos h3] at e0; cases e0
end Go.Wg
namespace Go.Proofs.YtelalpohbodolaaDoor
open Go Go.Abs Go.Wg

theorem f54 (a : AV) (zs : List Int) (h : Hp) (hk : Hok h) (ha : Ints h.blks .i64 a zs) (hz : zs.length ≤ 1000) (hne : sBin .eql .slice a .nilsl = some (.bool false)) :
    ∃ v h', Evals Tryd.prog tab false (.func 54) [a] h (v, h') ∧ Grown h h' ∧ Own h.next h'.blks .i64 v zs ∧ (0 < zs.length → v ≠ .nilsl) := by
  refine evals_q c54 (fun v h' => Own h.next h'.blks .i64 v zs ∧ (0 < zs.length → v ≠ .nilsl)) rfl hk ?_ (fun v h1 g q => ⟨fun hr => ⟨q.1.leave.1 hr, q.2⟩, fun hr => ⟨q.1.leave.2 hr, q.2⟩⟩)
  simp only [sf54, initS_cons, initS_nil]
  have ab : Ints (h.en.pu []).blks .i64 a zs := ha.sub (Sub.pu (h := h.en) hk)
  have O : Own h.next (h.en.pu []).blks .i64 (.sl h.next 0 0 (some 0) 1) [] := Own.fresh (Nat.le_refl _) rfl rfl rfl (Nat.le_refl _)
  obtain ⟨s', h', e, o, g, n⟩ := own_appI (h0 := h) (h := h.en.pu []) hk (Grown.pu Grown.en rfl) O ab (by simp; omega)
  simp (disch := first|(simp only [Nat.reduceBEq,wE];done)|((repeat' (first|assumption|exact mAx _|refine mBx ?_ ?_|exact mCx (by assumption)|refine mDx ?_|refine mEx ?_ ?_ ?_|exact mFx|refine mGx ?_ ?_ ?_|exact mHx|exact mIx _|(simp only [wM,Nat.reduceAdd,Nat.reduceLT,Nat.reduceLeDiff];done)));done)|omega|decide) only [hne, e, ↓wA,wB,wL,resOf,Nat.reduceBEq,Int.reduceBEq,Int.reduceBNe,Int.reduceLT,Int.reduceLE,Int.reduceAdd,Int.reduceSub,Int.reduceMul,Int.reduceToNat]
  exact ⟨_, rfl, g, by simpa using o, n⟩

theorem f23 (a : AV) (zs : List Int) (total : Int) (h : Hp) (hk : Hok h) (ha : Ints h.blks .i64 a zs) (hz : zs.length ≤ 1000) (ra : refOK h.next a = true) :
    ∃ v h', Evals Tryd.prog tab false (.func 23) [a, .int .i64 total] h (v, h') ∧ Grown h h' ∧ ∃ q, v = .tu [q, .int .i64 (paE zs total)] ∧ Own h.next h'.blks .i64 q (paL zs total) := by
  refine evals_q c23 (fun v h' => ∃ q, v = .tu [q, .int .i64 (paE zs total)] ∧ Own h.next h'.blks .i64 q (paL zs total)) rfl hk ?_ (fun v h1 g q => by
    obtain ⟨s, rfl, q⟩ := q
    have e : refOK h.next (.tu [s, .int .i64 (paE zs total)]) = refOK h.next s := by simp [refOK, refsOK]
    rw [e]
    exact ⟨fun hr => ⟨s, rfl, q.leave.1 hr⟩, fun hr => ⟨s, rfl, q.leave.2 hr⟩⟩)
  simp only [sf23, initS_cons, initS_nil]
  have ca := Arr.cell ha
  have k1 : Hok (h.en.pu [a]) := Hok.pu hk (by simp only [refsOK_cons, refsOK_nil, Bool.and_true]; exact refOK_mono (Nat.le_succ _) ra)
  have k2 : Hok ((h.en.pu [a]).pu [.int .i64 total]) := Hok.pu k1 rfl
  have g2 : Grown h ((h.en.pu [a]).pu [.int .i64 total]) := Grown.pu (Grown.pu Grown.en (by simp only [refsOK_cons, refsOK_nil, Bool.and_true]; exact refOK_mono (Nat.le_succ _) ra)) rfl
  have a2 : Ints ((h.en.pu [a]).pu [.int .i64 total]).blks .i64 a zs := (ha.sub (Sub.pu (h := h.en) hk)).sub (Sub.pu k1)
  have C := f45 a zs 9 total ((h.en.pu [a]).pu [.int .i64 total]) k2 a2 hz (by omega)
  replace C : Evals Tryd.prog tab false (.func 45) [a, .int .i64 9, .int .i64 total] ((h.en.pu [a]).pu [.int .i64 total]) (.int .i64 (errW zs 9 total), (h.en.pu [a]).pu [.int .i64 total]) := C
  have n1 : h.next ≠ h.next + 1 := by omega
  have n2 : h.next ≠ h.next + 1 + 1 := by omega
  have n3 : h.next + 1 ≠ h.next + 1 + 1 := by omega
  have c0 : cellB ((h.en.pu [a]).pu [.int .i64 total]).blks h.next 0 = some a := by
    show cellB (_ :: _ :: h.blks) h.next 0 = _
    rw [cellB_miss (Ne.symm n1)]; exact cellB_hit
  have c1 : cellB ((h.en.pu [a]).pu [.int .i64 total]).blks (h.next + 1) 0 = some (.int .i64 total) := cellB_hit
  by_cases e0 : errW zs 9 total = 0
  · obtain ⟨wl, wf, tp⟩ := errW_good9 e0
    have hz0 := wf.2
    have hb := wf.1.bd
    rw [e0] at C
    obtain ⟨h3, eh3⟩ : ∃ h3 : Hp, h3 = ((h.en.pu [a]).pu [.int .i64 total]).pu [.int .i64 zs.length] := ⟨_, rfl⟩
    have su := f51 zs.length ((h.en.pu [a]).pu [.int .i64 total])
    rw [← eh3] at su
    have k3 : Hok h3 := by rw [eh3]; exact Hok.pu k2 rfl
    have g3 : Grown h h3 := by rw [eh3]; exact Grown.pu g2 rfl
    have a3 : Ints h3.blks .i64 a zs := by rw [eh3]; exact a2.sub (Sub.pu k2)
    have b0 : Box h3.blks h.next [a] := ⟨h.next, true, by
      rw [eh3]; show lkB (_ :: _ :: _ :: h.blks) h.next = _
      rw [lkB_push n2, lkB_push n1]; exact lkB_top⟩
    have b1 : Box h3.blks (h.next + 1) [.int .i64 total] := ⟨h.next + 1, true, by
      rw [eh3]; show lkB (_ :: _ :: _ :: h.blks) (h.next + 1) = _
      rw [lkB_push n3]; exact lkB_top⟩
    have b2 : lkB h3.blks (h.next + 1 + 1) = some { cells := [.int .i64 zs.length], ch := h.next + 1 + 1, wr := true } := by
      rw [eh3]; show lkB (_ :: _ :: _ :: h.blks) (h.next + 1 + 1) = _
      exact lkB_top
    have n3' : h3.next = h.next + 1 + 1 + 1 := by rw [eh3]
    have F := f50 zs.length (h.next + 1 + 1) 52 hz0 (by omega) [.ptr h.next 0, .ptr (h.next + 1) 0] (wP zs total) _ h3 k3 b2 rfl
      (by simp only [refsOK_cons, refsOK_nil, refOK, Bool.and_true, Bool.and_eq_true, Nat.blt_eq]; omega)
      (fun s h' hs hk' sb => f52 s h.next (h.next + 1) a zs total h' hk' (b0.sub sb) (b1.sub sb) (a3.sub sb) (by omega) hb)
    have wl9 : (wres zs.length (wP zs total)).length = 9 := by
      unfold wres
      cases wfst zs.length (wP zs total) with
      | none => rfl
      | some s => exact cw_len wl (Nat.zero_le _)
    obtain ⟨W, hW⟩ : ∃ W, W = wres zs.length (wP zs total) := ⟨_, rfl⟩
    rw [← hW] at F wl9
    have st9 := fun (base : Nat) (esc : Bool) => sStore_ag (n := 9) (m := h3.next + 1) (base := base) (esc := esc) (cs := ints .i64 [0, 0, 0, 0, 0, 0, 0, 0, 0]) (vs := ints .i64 W) k3 (by rw [ints_len]; exact wl9) rfl all_cell_ints (by simp [ints, AV.hasRef])
    replace st9 : ∀ (base : Nat) (esc : Bool), sStore 9 { next := h3.next + 1, blks := (h3.next, { cells := [.int .i64 0, .int .i64 0, .int .i64 0, .int .i64 0, .int .i64 0, .int .i64 0, .int .i64 0, .int .i64 0, .int .i64 0], ch := h3.next, wr := true }) :: h3.blks, loops := h3.loops, base, esc } (.ag (ints .i64 W)) (.ptr h3.next 0) = some (.any, { next := h3.next + 1, blks := (h3.next, { cells := ints .i64 W, ch := h3.next, wr := true }) :: h3.blks, loops := h3.loops, base, esc }) := st9
    have k4 : Hok (h3.pu (ints .i64 W)) := Hok.pu k3 refsOK_ints
    have g4 : Grown h (h3.pu (ints .i64 W)) := Grown.pu g3 refsOK_ints
    cases ef : wfst zs.length (wP zs total) with
    | none =>
      rw [ef] at F
      have eE : paE zs total = 5 := by unfold paE; rw [if_pos e0, ef]; rfl
      have eL : paL zs total = [] := by unfold paL; rw [ef]; simp
      rw [eE, eL]
      replace F : Evals Tryd.prog tab false (.func 50) [.fn (.func 67) [] [.ptr (h.next + 1 + 1) 0], .fn (.func 52) [] [.ptr h.next 0, .ptr (h.next + 1) 0]] h3 (.tu [.ag (ints .i64 W), .bool false], h3) := F
      simp (disch := first|(simp only [Nat.reduceBEq,wE];done)|((repeat' (first|assumption|exact mAx _|refine mBx ?_ ?_|exact mCx (by assumption)|refine mDx ?_|refine mEx ?_ ?_ ?_|exact mFx|refine mGx ?_ ?_ ?_|exact mHx|exact mIx _|(simp only [wM,Nat.reduceAdd,Nat.reduceLT,Nat.reduceLeDiff];done)));done)|omega|decide) only [sBox_v ca, sBox_int, c0, c1, callT C, ha.len, callT su, callT F, st9, ↓wA,wB,wL,resOf,Nat.reduceBEq,Int.reduceBEq,Int.reduceBNe,Int.reduceLT,Int.reduceLE,Int.reduceAdd,Int.reduceSub,Int.reduceMul,Int.reduceToNat]
      exact ⟨_, rfl, g4, .nilsl, rfl, Own.nil⟩
    | some s =>
      rw [ef] at F
      have eW : W = wg zs.length s ++ List.replicate (9 - zs.length) 0 := by
        rw [hW]; unfold wres; rw [ef]; simp only [cw, Nat.sub_zero, List.replicate_zero, List.append_nil]
      have eE : paE zs total = 0 := by unfold paE; rw [if_pos e0, ef]; rfl
      have eL : paL zs total = wg zs.length s := by unfold paL; rw [ef, if_pos ⟨e0, rfl⟩]; rfl
      rw [eE, eL]
      replace F : Evals Tryd.prog tab false (.func 50) [.fn (.func 67) [] [.ptr (h.next + 1 + 1) 0], .fn (.func 52) [] [.ptr h.next 0, .ptr (h.next + 1) 0]] h3 (.tu [.ag (ints .i64 W), .bool true], h3) := F
      have i4 : Ints (h3.pu (ints .i64 W)).blks .i64 (.sl h3.next 0 zs.length (some 9) 1) (wg zs.length s) := by
        rw [eW]; exact Ints.pre9 (wg_len _ _) wl
      obtain ⟨q, h5, eC, g5, o5, _⟩ := f54 _ _ (h3.pu (ints .i64 W)) k4 i4 (by rw [wg_len]; omega) rfl
      replace eC : Evals Tryd.prog tab false (.func 54) [.sl h3.next 0 zs.length (some 9) 1] { next := h3.next + 1, blks := (h3.next, { cells := ints .i64 W, ch := h3.next, wr := true }) :: h3.blks, loops := h3.loops, base := h3.base, esc := h3.esc } (q, h5) := eC
      have x1 := b0.ld (Sub.refl _) (j := 0)
      have x1' : cellB ((h3.next, { cells := ints .i64 W, ch := h3.next, wr := true }) :: h3.blks) h.next 0 = some a := b0.ld (Sub.push (Sub.refl _) (HokR.fresh k3)) (j := 0)
      have ar : ∀ (hh : Hp), sArr 9 1 hh (bndV 0 none) (bndV 9 (some (some zs.length))) (.ptr h3.next 0) = some (.sl h3.next 0 zs.length (some 9) 1, hh) := fun hh => sArr_hi wl (by omega)
      have ix : idx? (.int .i64 (zs.length : Int)) = some zs.length := by simp [idx?]
      simp (disch := first|(simp only [Nat.reduceBEq,wE];done)|((repeat' (first|assumption|exact mAx _|refine mBx ?_ ?_|exact mCx (by assumption)|refine mDx ?_|refine mEx ?_ ?_ ?_|exact mFx|refine mGx ?_ ?_ ?_|exact mHx|exact mIx _|(simp only [wM,Nat.reduceAdd,Nat.reduceLT,Nat.reduceLeDiff];done)));done)|omega|decide) only [sBox_v ca, sBox_int, c0, c1, callT C, ha.len, callT su, callT F, st9, x1, x1', ix, ar, callT eC, ↓wA,wB,wL,resOf,Nat.reduceBEq,Int.reduceBEq,Int.reduceBNe,Int.reduceLT,Int.reduceLE,Int.reduceAdd,Int.reduceSub,Int.reduceMul,Int.reduceToNat]
      exact ⟨_, rfl, GrownR.trans g4 g5, q, rfl, o5.le (by show h.next ≤ h3.next + 1; omega)⟩
  · have d0 : (errW zs 9 total != 0) = true := bne_iff_ne.2 e0
    have eE : paE zs total = errW zs 9 total := by unfold paE; rw [if_neg e0]
    have eL : paL zs total = [] := by unfold paL; rw [if_neg (fun hh => e0 hh.1)]
    rw [eE, eL]
    simp (disch := first|(simp only [Nat.reduceBEq,wE];done)|((repeat' (first|assumption|exact mAx _|refine mBx ?_ ?_|exact mCx (by assumption)|refine mDx ?_|refine mEx ?_ ?_ ?_|exact mFx|refine mGx ?_ ?_ ?_|exact mHx|exact mIx _|(simp only [wM,Nat.reduceAdd,Nat.reduceLT,Nat.reduceLeDiff];done)));done)|omega|decide) only [sBox_v ca, sBox_int, c0, c1, callT C, d0, ↓wA,wB,wL,resOf,Nat.reduceBEq,Int.reduceBEq,Int.reduceBNe,Int.reduceLT,Int.reduceLE,Int.reduceAdd,Int.reduceSub,Int.reduceMul,Int.reduceToNat]
    exact ⟨_, rfl, g2, .nilsl, rfl, Own.nil⟩
end Go.Proofs.YtelalpohbodolaaDoor
