/- Ways. -/
import Derived.Test.YtelalpohbodolaaDoorD9
set_option linter.unusedSimpArgs false
set_option linter.unusedVariables false
set_option maxHeartbeats 4000000
set_option maxRecDepth 20000
namespace Go.Wg
def wC (zs : List Int) (total : Int) (k : Nat) : Nat := ((LL zs.length).take k).countP (fun s => decide (msum zs s = total))
theorem wC_suc {zs : List Int} {total : Int} {k s : Nat} (h : (LL zs.length)[k]? = some s) : wC zs total (k + 1) = wC zs total k + if msum zs s = total then 1 else 0 := by
  unfold wC
  rw [List.take_add_one, h, List.countP_append]
  simp [List.countP_cons]
theorem wC_le (zs : List Int) (total : Int) (k : Nat) : wC zs total k ≤ k := by
  unfold wC
  have h1 := List.countP_le_length (p := fun s => decide (msum zs s = total)) (l := (LL zs.length).take k)
  rw [List.length_take] at h1
  omega
def wN (zs : List Int) (total : Int) : Int := if errW zs 12 total = 0 then ((SS zs).count total : Nat) else 0
theorem wC_all (zs : List Int) (total : Int) : wC zs total (2 ^ zs.length) = (SS zs).count total := by
  unfold wC
  rw [List.take_of_length_le (by rw [LL_len]; exact Nat.le_refl _)]
  exact count_perm
theorem errW_neg {zs : List Int} {total : Int} (h : total < 0) : errW zs 12 total = 3 ∨ errW zs 12 total = 1 := by
  unfold errW
  by_cases e : 12 < zs.length
  · rw [if_pos e]; exact .inl rfl
  · rw [if_neg e, if_pos h]; exact .inr rfl
end Go.Wg
namespace Go.Proofs.YtelalpohbodolaaDoor
open Go Go.Abs Go.Wg

@[reducible] noncomputable def wyE (a : AV) (total : Int) (c : Nat) : LoopA := { st := 0, jump := none, ps := (rfAt Tryd.prog 21 0).1, assign := (rfAt Tryd.prog 21 0).2.1, body := (rfAt Tryd.prog 21 0).2.2, keep := 8790527, n := 27, fr := [(0, a), (1, .int .i64 total), (2, .ptr c 0), (3, .ptr (c + 1) 0), (4, .int .i64 0), (5, .int .i64 0), (6, .int .i64 0), (7, .ptr (c + 1 + 1) 0), (8, .any), (13, .bool false), (17, .fn (.func 66) [] [.ptr (c + 1 + 1 + 1) 0]), (18, .any), (23, .any)] }
/-- The count so far. -/
def wyV (c : Nat) (a : AV) (zs : List Int) (total : Int) (k : Nat) (bs : List (Nat × Blk)) : Prop :=
  lkB bs c = some { cells := [a], ch := c, wr := true } ∧ lkB bs (c + 1) = some { cells := [.int .i64 total], ch := c + 1, wr := true } ∧
  lkB bs (c + 1 + 1) = some { cells := [.int .i64 (wC zs total k : Nat)], ch := c + 1 + 1, wr := true } ∧ lkB bs (c + 1 + 1 + 1) = some { cells := [.int .i64 zs.length], ch := c + 1 + 1 + 1, wr := true }
theorem wyV_keep (c : Nat) (a : AV) (zs : List Int) (total : Int) : Keepy (c + 1 + 1 + 1 + 1 + 1) (wyV c a zs total) := fun k d bs bs' ls ⟨v1, v2, v3, v4⟩ hd hk lk =>
  ⟨by rw [lk _ (by omega)]; exact v1, by rw [lk _ (by omega)]; exact v2, by rw [lk _ (by omega)]; exact v3, by rw [lk _ (by omega)]; exact v4⟩

theorem ways_round (a : AV) (zs : List Int) (total : Int) (h0 : Hp) (hk0 : Hok h0) (ha : Ints h0.blks .i64 a zs) (hz : 0 < zs.length) (hz' : zs.length ≤ 12) (hb : ∀ z ∈ zs, 0 ≤ z ∧ z ≤ 100000)
    (k s : Nat) (h : Hp) (hk : k < 2 ^ zs.length) (hs : (LL zs.length)[k]? = some s) (L : LI h0 (h0.next + 1 + 1 + 1 + 1) (wyE a total h0.next) (wyV h0.next a zs total) k h) :
    ∃ b h', Evals Tryd.prog tab false (.yield (h0.next + 1 + 1 + 1 + 1)) [.int .u64 s] h (b, h') ∧ (Elder h h' ∧ b = .bool true ∧ LI h0 (h0.next + 1 + 1 + 1 + 1) (wyE a total h0.next) (wyV h0.next a zs total) (k + 1) h') := by
  have hl : lkL h.loops (h0.next + 1 + 1 + 1 + 1) = some (wyE a total h0.next) := by rw [L.lps]; exact lkL_top
  refine evals_yield (fr := [(0, a), (1, .int .i64 total), (2, .ptr h0.next 0), (3, .ptr (h0.next + 1) 0), (4, .int .i64 0), (5, .int .i64 0), (6, .int .i64 0), (7, .ptr (h0.next + 1 + 1) 0), (8, .any), (13, .bool false), (17, .fn (.func 66) [] [.ptr (h0.next + 1 + 1 + 1) 0]), (18, .int .u64 s), (23, .any)]) hl rfl (by rw [show (wyE a total h0.next).ps = #[18] from rp21_0]; show (#[18].toList.all fun t => Nat.testBit 8790527 t && Nat.blt t 27) = true; decide) ra21_0 rb21_0 (by rw [show (wyE a total h0.next).ps = #[18] from rp21_0]; rfl) ?_
  have hlt0 : ∀ x ∈ h0.blks, x.1 < h0.next := fun x hx => (hk0.blk hx).1
  have hsm : s < 2 ^ zs.length := by
    obtain ⟨s', e1, e2⟩ := LL_get hk
    rw [hs] at e1
    cases e1
    exact e2
  have p12 : 2 ^ zs.length ≤ 2 ^ 12 := Nat.pow_le_pow_right (by omega) hz'
  obtain ⟨v1, v2, v3, v4⟩ := L.v
  have nx := L.nx
  simp (disch := first|(simp only [Nat.reduceBEq,wE];done)|((repeat' (first|assumption|exact mAx _|refine mBx ?_ ?_|exact mCx (by assumption)|refine mDx ?_|refine mEx ?_ ?_ ?_|exact mFx|refine mGx ?_ ?_ ?_|exact mHx|exact mIx _|(simp only [wM,Nat.reduceAdd,Nat.reduceLT,Nat.reduceLeDiff];done)));done)|omega|decide) only [↓wA,wB,wL,resOf,Nat.reduceBEq,Int.reduceBEq,Int.reduceBNe,Int.reduceLT,Int.reduceLE,Int.reduceAdd,Int.reduceSub,Int.reduceMul,Int.reduceToNat]
  refine ⟨_, hl, rfl, ?_⟩
  generalize hgen : setL h.loops _ _ = SL
  obtain ⟨eB, hSL, kA, f1, f2, f3, f4⟩ := L.busy rfl rfl hgen
  clear hgen
  subst hSL
  generalize eA' : ({ next := h.next, blks := h.blks, loops := (h0.next + 1 + 1 + 1 + 1, eB) :: h0.loops, base := h.base, esc := h.esc } : Hp) = hA
  have eA := eA'.symm
  clear eA'
  have bA : hA.blks = h.blks := by rw [eA]
  have nA : hA.next = h.next := by rw [eA]
  have lA : hA.loops = (h0.next + 1 + 1 + 1 + 1, eB) :: h0.loops := by rw [eA]
  have kA : Hok hA := by rw [eA]; exact kA
  have aA : Ints hA.blks .i64 a zs := by rw [bA]; exact ha.sub (L.over.sub hlt0)
  have su := f49 s a zs hA kA aA (by omega) (by omega) hb
  have ovA : Over h0.next h0.blks hA.blks := by rw [bA]; exact L.over
  have l1 : cellB h.blks h0.next 0 = some a := by simp only [cellB, v1, Option.bind_some]; rfl
  have l2 : cellB h.blks (h0.next + 1) 0 = some (.int .i64 total) := by simp only [cellB, v2, Option.bind_some]; rfl
  have l3 : cellB h.blks (h0.next + 1 + 1) 0 = some (.int .i64 (wC zs total k : Nat)) := by simp only [cellB, v3, Option.bind_some]; rfl
  have l1' : cellB hA.blks h0.next 0 = some a := by rw [bA]; exact l1
  have l2' : cellB hA.blks (h0.next + 1) 0 = some (.int .i64 total) := by rw [bA]; exact l2
  have l3' : cellB hA.blks (h0.next + 1 + 1) 0 = some (.int .i64 (wC zs total k : Nat)) := by rw [bA]; exact l3
  have xA : Elder h hA := ⟨⟨[], h.blks, by rw [bA]; rfl, rfl, by simp⟩, by rw [nA]; exact Nat.le_refl _⟩
  have ws := wC_suc (zs := zs) (total := total) hs
  have wl := wC_le zs total k
  by_cases e : msum zs s = total
  · have d1 : (msum zs s == total) = true := by rw [beq_iff_eq]; exact e
    rw [if_pos e] at ws
    rw [← bA] at v1 v2 v3 v4
    obtain ⟨h4, w1, w2, w3, w4, w5, w6, w7, w8⟩ := store_old (id := h0.next + 1 + 1) (v := .int .i64 ((wC zs total k : Nat) + 1 : Int)) kA ovA hlt0 v3 (by omega) ⟨rfl, rfl⟩ rfl
    simp (disch := first|(simp only [Nat.reduceBEq,wE];done)|((repeat' (first|assumption|exact mAx _|refine mBx ?_ ?_|exact mCx (by assumption)|refine mDx ?_|refine mEx ?_ ?_ ?_|exact mFx|refine mGx ?_ ?_ ?_|exact mHx|exact mIx _|(simp only [wM,Nat.reduceAdd,Nat.reduceLT,Nat.reduceLeDiff];done)));done)|omega|decide) only [l1, l2, l3, l1', l2', l3', callT su, d1, w1, ↓wA,wB,wL,resOf,Nat.reduceBEq,Int.reduceBEq,Int.reduceBNe,Int.reduceLT,Int.reduceLE,Int.reduceAdd,Int.reduceSub,Int.reduceMul,Int.reduceToNat]
    have e2 : h4.loops = (h0.next + 1 + 1 + 1 + 1, eB) :: h0.loops := by rw [w6]; exact lA
    have x4' := xA.trans w7
    refine ⟨eB, by rw [e2, lkL_top], ⟨x4'.blks, x4'.next⟩, rfl, LI.done w3 w4 (by rw [w5, nA]; omega) e2 f1 rfl f3 ⟨w8 _ _ (by omega) v1 (by simp only; omega), w8 _ _ (by omega) v2 (by simp only; omega), ?_, w8 _ _ (by omega) v4 (by simp only; omega)⟩⟩
    rw [ws]
    exact w2
  · have d1 : (msum zs s == total) = false := by rw [beq_eq_false_iff_ne]; exact e
    rw [if_neg e, Nat.add_zero] at ws
    simp (disch := first|(simp only [Nat.reduceBEq,wE];done)|((repeat' (first|assumption|exact mAx _|refine mBx ?_ ?_|exact mCx (by assumption)|refine mDx ?_|refine mEx ?_ ?_ ?_|exact mFx|refine mGx ?_ ?_ ?_|exact mHx|exact mIx _|(simp only [wM,Nat.reduceAdd,Nat.reduceLT,Nat.reduceLeDiff];done)));done)|omega|decide) only [l1, l2, l3, l1', l2', l3', callT su, d1, ↓wA,wB,wL,resOf,Nat.reduceBEq,Int.reduceBEq,Int.reduceBNe,Int.reduceLT,Int.reduceLE,Int.reduceAdd,Int.reduceSub,Int.reduceMul,Int.reduceToNat]
    refine ⟨eB, by rw [lA, lkL_top], ⟨xA.blks, xA.next⟩, rfl, LI.done ovA kA (by rw [nA]; omega) lA f1 rfl f3 ?_⟩
    rw [bA]
    exact ⟨v1, v2, by rw [ws]; exact v3, v4⟩

theorem f21 (a : AV) (zs : List Int) (total : Int) (h : Hp) (hk : Hok h) (ha : Ints h.blks .i64 a zs) (hz : zs.length ≤ 1000) (ra : refOK h.next a = true) :
    Evals Tryd.prog tab false (.func 21) [a, .int .i64 total] h (.tu [.int .i64 (wN zs total), .int .i64 (errW zs 12 total)], h) := by
  refine evals_pure c21 rfl hk ?_
  simp only [sf21, initS_cons, initS_nil]
  have hlt : ∀ x ∈ h.blks, x.1 < h.next := fun x hx => (hk.blk hx).1
  have ca := Arr.cell ha
  have k1 : Hok (h.en.pu [a]) := Hok.pu hk (by simp only [refsOK_cons, refsOK_nil, Bool.and_true]; exact refOK_mono (Nat.le_succ _) ra)
  have k2 : Hok ((h.en.pu [a]).pu [.int .i64 total]) := Hok.pu k1 rfl
  have a2 : Ints ((h.en.pu [a]).pu [.int .i64 total]).blks .i64 a zs := (ha.sub (Sub.pu (h := h.en) hk)).sub (Sub.pu k1)
  have C := f45 a zs 12 total ((h.en.pu [a]).pu [.int .i64 total]) k2 a2 hz (by omega)
  replace C : Evals Tryd.prog tab false (.func 45) [a, .int .i64 12, .int .i64 total] ((h.en.pu [a]).pu [.int .i64 total]) (.int .i64 (errW zs 12 total), (h.en.pu [a]).pu [.int .i64 total]) := C
  have n1 : h.next ≠ h.next + 1 := by omega
  have n2 : h.next ≠ h.next + 1 + 1 := by omega
  have n3 : h.next + 1 ≠ h.next + 1 + 1 := by omega
  have n4 : h.next ≠ h.next + 1 + 1 + 1 := by omega
  have n5 : h.next + 1 ≠ h.next + 1 + 1 + 1 := by omega
  have n6 : h.next + 1 + 1 ≠ h.next + 1 + 1 + 1 := by omega
  have c0 : cellB ((h.en.pu [a]).pu [.int .i64 total]).blks h.next 0 = some a := by
    show cellB (_ :: _ :: h.blks) h.next 0 = _
    rw [cellB_miss (Ne.symm n1)]; exact cellB_hit
  have c1 : cellB ((h.en.pu [a]).pu [.int .i64 total]).blks (h.next + 1) 0 = some (.int .i64 total) := cellB_hit
  unfold wN
  by_cases e0 : errW zs 12 total = 0
  · rw [if_pos e0]
    rw [e0] at C ⊢
    have tp : 0 ≤ total := by
      rcases Int.lt_or_le total 0 with h1 | h1
      · rcases errW_neg (zs := zs) h1 with h2 | h2 <;> rw [h2] at e0 <;> cases e0
      · exact h1
    obtain ⟨wl, wf⟩ : zs.length ≤ 12 ∧ WF zs := by
      rcases errW_cases zs total tp with ⟨h1, _⟩ | ⟨h1, _⟩ | ⟨_, h2, h3⟩
      · rw [h1] at e0; cases e0
      · rw [h1] at e0; cases e0
      · exact ⟨h2, h3⟩
    have hz0 := wf.2
    have hb := wf.1.bd
    have p12 : 2 ^ zs.length ≤ 2 ^ 12 := Nat.pow_le_pow_right (by omega) wl
    have k3 : Hok (((h.en.pu [a]).pu [.int .i64 total]).pu [.int .i64 0]) := Hok.pu k2 rfl
    have k4 : Hok ((((h.en.pu [a]).pu [.int .i64 total]).pu [.int .i64 0]).pu [.int .i64 zs.length]) := Hok.pu k3 rfl
    have hne : ∀ x ∈ h.loops, x.1 ≠ h.next + 1 + 1 + 1 + 1 := fun x hx => by have := (hk.lps hx).1; omega
    have su := f47 zs.length (((h.en.pu [a]).pu [.int .i64 total]).pu [.int .i64 0])
    have c2 : cellB (((h.en.pu [a]).pu [.int .i64 total]).pu [.int .i64 0]).blks h.next 0 = some a := by
      show cellB (_ :: _ :: _ :: h.blks) h.next 0 = _
      rw [cellB_miss (Ne.symm n2), cellB_miss (Ne.symm n1)]; exact cellB_hit
    have sv := fun (base : Nat) (esc : Bool) => sStore_i (m := h.next + 1 + 1 + 1) (i := h.next + 1 + 1) (off := 0) (base := base) (esc := esc) (cs := [.int .i64 0]) (k := .i64) (x := 0) k2 (by simp)
    have k2' : HokR (h.next + 1 + 1) ((h.next + 1, { cells := [.int .i64 total], ch := h.next + 1, wr := true }) :: (h.next, { cells := [a], ch := h.next, wr := true }) :: h.blks) h.loops := k2
    simp (disch := first|(simp only [Nat.reduceBEq,wE];done)|((repeat' (first|assumption|exact mAx _|refine mBx ?_ ?_|exact mCx (by assumption)|refine mDx ?_|refine mEx ?_ ?_ ?_|exact mFx|refine mGx ?_ ?_ ?_|exact mHx|exact mIx _|(simp only [wM,Nat.reduceAdd,Nat.reduceLT,Nat.reduceLeDiff];done)));done)|omega|decide) only [sBox_v ca, sBox_int, c0, c1, callT C, sv, c2, ha.len, callT su, ↓wA,wB,wL,resOf,Nat.reduceBEq,Int.reduceBEq,Int.reduceBNe,Int.reduceLT,Int.reduceLE,Int.reduceAdd,Int.reduceSub,Int.reduceMul,Int.reduceToNat]
    have ro : ∀ m, h.next ≤ m → refOK m a = true := fun m hm => refOK_mono hm ra
    have HL : HokR (h.next + 1 + 1 + 1 + 1 + 1) ((((h.en.pu [a]).pu [.int .i64 total]).pu [.int .i64 0]).pu [.int .i64 zs.length]).blks ((h.next + 1 + 1 + 1 + 1, wyE a total h.next) :: h.loops) := HokR.addLoop k4 (by
      simp only [List.map_cons, List.map_nil, refsOK_cons, refsOK_nil, Bool.and_true, ro _ (show h.next ≤ h.next + 1 + 1 + 1 + 1 + 1 by omega), refOK, Bool.true_and, Bool.and_eq_true, Nat.blt_eq]
      omega) rfl
    have ov0 : Over h.next h.blks ((((h.en.pu [a]).pu [.int .i64 total]).pu [.int .i64 0]).pu [.int .i64 zs.length]).blks := ⟨[_, _, _, _], rfl, fun x hx => by
      simp only [List.mem_cons, List.not_mem_nil, or_false] at hx
      rcases hx with rfl | rfl | rfl | rfl <;> simp only [Hp.pu, Hp.en] <;> omega⟩
    have L0 : LI h (h.next + 1 + 1 + 1 + 1) (wyE a total h.next) (wyV h.next a zs total) 0 { next := h.next + 1 + 1 + 1 + 1 + 1, blks := ((((h.en.pu [a]).pu [.int .i64 total]).pu [.int .i64 0]).pu [.int .i64 zs.length]).blks, loops := (h.next + 1 + 1 + 1 + 1, wyE a total h.next) :: h.loops, base := h.next, esc := false } :=
      ⟨ov0, HL, Nat.le_refl _, rfl, by
        refine ⟨?_, ?_, ?_, ?_⟩
        · show lkB (_ :: _ :: _ :: _ :: h.blks) h.next = _
          rw [lkB_push n4, lkB_push n2, lkB_push n1]; exact lkB_top
        · show lkB (_ :: _ :: _ :: _ :: h.blks) (h.next + 1) = _
          rw [lkB_push n5, lkB_push n3]; exact lkB_top
        · show lkB (_ :: _ :: _ :: _ :: h.blks) (h.next + 1 + 1) = _
          rw [lkB_push n6]; exact lkB_top
        · show lkB (_ :: _ :: _ :: _ :: h.blks) (h.next + 1 + 1 + 1) = _
          exact lkB_top⟩
    obtain ⟨v, h2, ev, x2, q⟩ := f66 zs.length (h.next + 1 + 1 + 1 + 1) (h.next + 1 + 1 + 1) hz0 (by omega) h (wyE a total h.next) rfl (wyV h.next a zs total) (fun _ _ => False) (wyV_keep _ _ _ _) Keepy.no
      (fun k bs hv => ⟨_, _, hv.2.2.2⟩) (fun k s h' hk' hs' L => by
        obtain ⟨b, h3, e1, e2, e3, e4⟩ := ways_round a zs total h hk ha hz0 wl hb k s h' hk' hs' L
        exact ⟨b, h3, e1, e2, .inl ⟨e3, e4⟩⟩) _ L0
    refine wrange (g := 66) (fs := []) (cs := [.ptr (h.next + 1 + 1 + 1) 0]) rfl ⟨v, h2, ev, ?_⟩
    rcases q with L2 | ⟨k, hk2, L2⟩
    · refine ⟨wyE a total h.next, by rw [L2.lps]; exact lkL_top, (by intro e; cases e), ?_⟩
      have nx2 := L2.nx
      have ok2 : HokR h2.next h2.blks h.loops := by
        have : HokR h2.next h2.blks ((h.next + 1 + 1 + 1 + 1, wyE a total h.next) :: h.loops) := by rw [← L2.lps]; exact L2.ok
        exact this.dropLoop
      simp only [L2.lps, delL_top hne]
      obtain ⟨v1, v2, v3, v4⟩ := L2.v
      rw [wC_all] at v3
      have l3 : cellB h2.blks (h.next + 1 + 1) 0 = some (.int .i64 ((SS zs).count total : Nat)) := by simp only [cellB, v3, Option.bind_some]; rfl
      simp (disch := first|(simp only [Nat.reduceBEq,wE];done)|((repeat' (first|assumption|exact mAx _|refine mBx ?_ ?_|exact mCx (by assumption)|refine mDx ?_|refine mEx ?_ ?_ ?_|exact mFx|refine mGx ?_ ?_ ?_|exact mHx|exact mIx _|(simp only [wM,Nat.reduceAdd,Nat.reduceLT,Nat.reduceLeDiff];done)));done)|omega|decide) only [l3, ↓wA,wB,wL,resOf,Nat.reduceBEq,Int.reduceBEq,Int.reduceBNe,Int.reduceLT,Int.reduceLE,Int.reduceAdd,Int.reduceSub,Int.reduceMul,Int.reduceToNat]
      exact ⟨_, rfl, rfl, L2.over, by show h.next ≤ h2.next; omega, fun _ => ok2, rfl⟩
    · exact L2.v.elim
  · rw [if_neg e0]
    have d0 : (errW zs 12 total != 0) = true := bne_iff_ne.2 e0
    simp (disch := first|(simp only [Nat.reduceBEq,wE];done)|((repeat' (first|assumption|exact mAx _|refine mBx ?_ ?_|exact mCx (by assumption)|refine mDx ?_|refine mEx ?_ ?_ ?_|exact mFx|refine mGx ?_ ?_ ?_|exact mHx|exact mIx _|(simp only [wM,Nat.reduceAdd,Nat.reduceLT,Nat.reduceLeDiff];done)));done)|omega|decide) only [sBox_v ca, sBox_int, c0, c1, callT C, d0, ↓wA,wB,wL,resOf,Nat.reduceBEq,Int.reduceBEq,Int.reduceBNe,Int.reduceLT,Int.reduceLE,Int.reduceAdd,Int.reduceSub,Int.reduceMul,Int.reduceToNat]
    exact ⟨_, rfl, rfl, Grown.pu (Grown.pu Grown.en (by simp only [refsOK_cons, refsOK_nil, Bool.and_true]; exact refOK_mono (Nat.le_succ _) ra)) rfl⟩
end Go.Proofs.YtelalpohbodolaaDoor
