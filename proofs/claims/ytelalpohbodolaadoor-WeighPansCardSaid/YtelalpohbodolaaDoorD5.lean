/- areDistinct. -/
import Derived.Test.YtelalpohbodolaaDoorD4
import Derived.Test.YtelalpohbodolaaDoorSB
set_option linter.unusedSimpArgs false
set_option linter.unusedVariables false
set_option maxHeartbeats 4000000
set_option maxRecDepth 20000
namespace Go.Abs
theorem Over.sub {lim : Nat} {old bs : List (Nat × Blk)} (ov : Over lim old bs) (hlt : ∀ x ∈ old, x.1 < lim) : Sub old bs := fun id b hb => by
  obtain ⟨new, rfl, f⟩ := ov
  have hid := hlt _ (lkB_mem' hb)
  rw [lkB_app (fun x hx => by have := f x hx; simp only at hid; omega)]
  exact hb
/-- The record while a round is under way. -/
theorem LI.busy {h0 h : Hp} {l : Nat} {e : LoopA} {V : Nat → List (Nat × Blk) → Prop} {k : Nat} (H : LI h0 l e V k h) (h0' : e.st = 0) (hj : e.jump = none) {SL : List (Nat × LoopA)} (hg : setL h.loops l { e with st := 1 } = SL) :
    ∃ eB : LoopA, SL = (l, eB) :: h0.loops ∧ HokR h.next h.blks SL ∧ eB.fr = e.fr ∧ eB.st = 1 ∧ { eB with st := 0, jump := none } = e ∧ { eB with st := 2, jump := some none } = { e with st := 2, jump := some none } := by
  have hls := H.lps
  rw [hls, setL_top] at hg
  subst hg
  refine ⟨_, rfl, ?_, rfl, rfl, by rw [← h0', ← hj], rfl⟩
  have : HokR h.next h.blks ((l, e) :: h0.loops) := by rw [← hls]; exact H.ok
  exact Hok.loop this rfl
/-- A round is over. -/
theorem LI.done {h0 h4 : Hp} {l : Nat} {e eB : LoopA} {V : Nat → List (Nat × Blk) → Prop} {k : Nat} (over : Over h0.next h0.blks h4.blks) (ok : Hok h4) (nx : l + 1 ≤ h4.next) (lps : h4.loops = (l, eB) :: h0.loops)
    (f1 : eB.fr = e.fr) (f2 : e.st = 0) (f3 : { eB with st := 0, jump := none } = e) (v : V k h4.blks) : LI h0 l e V k { h4 with loops := setL h4.loops l { eB with st := 0, jump := none } } := by
  have e1 : setL h4.loops l { eB with st := 0, jump := none } = (l, e) :: h0.loops := by rw [lps, setL_top, f3]
  refine ⟨over, ?_, nx, e1, v⟩
  show HokR h4.next h4.blks (setL h4.loops l _)
  rw [e1]
  have : HokR h4.next h4.blks ((l, eB) :: h0.loops) := by rw [← lps]; exact ok
  exact Hok.loop this f1.symm (by omega)
/-- The body returned. -/
theorem LI.gone {h0 h4 : Hp} {l : Nat} {e eB : LoopA} {V : Nat → List (Nat × Blk) → Prop} {k : Nat} (over : Over h0.next h0.blks h4.blks) (ok : Hok h4) (nx : l + 1 ≤ h4.next) (lps : h4.loops = (l, eB) :: h0.loops)
    (f1 : eB.fr = e.fr) (f4 : { eB with st := 2, jump := some none } = { e with st := 2, jump := some none }) (v : V k h4.blks) : LI h0 l { e with st := 2, jump := some none } V k { h4 with loops := setL h4.loops l { eB with st := 2, jump := some none } } := by
  have e1 : setL h4.loops l { eB with st := 2, jump := some none } = (l, { e with st := 2, jump := some none }) :: h0.loops := by rw [lps, setL_top, f4]
  refine ⟨over, ?_, nx, e1, v⟩
  show HokR h4.next h4.blks (setL h4.loops l _)
  rw [e1]
  have : HokR h4.next h4.blks ((l, eB) :: h0.loops) := by rw [← lps]; exact ok
  exact Hok.loop this (e' := { e with st := 2, jump := some none }) f1.symm (by simp)
theorem OwnA.mv {sz c n : Nat} {bs bs' : List (Nat × Blk)} {s : AV} {cs : List AV} (O : OwnA sz c bs s n cs) (f : ∀ j d, c ≤ j → c ≤ d.ch → lkB bs j = some d → lkB bs' j = some d) : OwnA sz c bs' s n cs := by
  obtain ⟨hl, O | ⟨id, b, cap, rfl, h1, h2, h3, h4, h5⟩⟩ := O
  · exact ⟨hl, .inl O⟩
  · exact ⟨hl, .inr ⟨id, b, cap, rfl, f _ _ h3 h4 h1, h2, h3, h4, h5⟩⟩
end Go.Abs
namespace Go.Proofs.YtelalpohbodolaaDoor
open Go Go.Abs Go.Wg

@[reducible] noncomputable def adE (a : AV) (c : Nat) : LoopA := { st := 0, jump := none, ps := (rfAt Tryd.prog 37 0).1, assign := (rfAt Tryd.prog 37 0).2.1, body := (rfAt Tryd.prog 37 0).2.2, keep := 415, n := 24, fr := [(0, a), (1, .ptr c 0), (2, .bool false), (3, .ptr (c + 1) 0), (4, .any), (7, .fn (.func 66) [] [.ptr (c + 1 + 1) 0]), (8, .any)] }
/-- The sums so far. -/
def adV (c : Nat) (a : AV) (zs : List Int) (k : Nat) (bs : List (Nat × Blk)) : Prop :=
  lkB bs c = some { cells := [a], ch := c, wr := true } ∧ lkB bs (c + 1 + 1) = some { cells := [.int .i64 zs.length], ch := c + 1 + 1, wr := true } ∧
  ∃ q, lkB bs (c + 1) = some { cells := [q], ch := c + 1, wr := true } ∧ Own (c + 1 + 1 + 1 + 1) bs .i64 q (((LL zs.length).take k).map (msum zs))
theorem adV_keep (c : Nat) (a : AV) (zs : List Int) : Keepy (c + 1 + 1 + 1 + 1) (adV c a zs) := fun k d bs bs' ls ⟨v1, v2, q, v3, v4⟩ hd hk lk => by
  have w3 : lkB bs' (c + 1) = some { cells := [q], ch := c + 1, wr := true } := by rw [lk _ (by omega)]; exact v3
  exact ⟨by rw [lk _ (by omega)]; exact v1, by rw [lk _ (by omega)]; exact v2, q, w3, own_keep v4 w3 hk lk⟩

theorem ad_round (a : AV) (zs : List Int) (h0 : Hp) (hk0 : Hok h0) (ha : Ints h0.blks .i64 a zs) (hz : 0 < zs.length) (hz' : zs.length ≤ 12) (hb : ∀ z ∈ zs, 0 ≤ z ∧ z ≤ 100000)
    (k s : Nat) (h : Hp) (hk : k < 2 ^ zs.length) (hs : (LL zs.length)[k]? = some s) (L : LI h0 (h0.next + 1 + 1 + 1) (adE a h0.next) (adV h0.next a zs) k h) :
    ∃ b h', Evals Tryd.prog tab false (.yield (h0.next + 1 + 1 + 1)) [.int .u64 s] h (b, h') ∧ (Elder h h' ∧ b = .bool true ∧ LI h0 (h0.next + 1 + 1 + 1) (adE a h0.next) (adV h0.next a zs) (k + 1) h') := by
  have hl : lkL h.loops (h0.next + 1 + 1 + 1) = some (adE a h0.next) := by rw [L.lps]; exact lkL_top
  refine evals_yield (fr := [(0, a), (1, .ptr h0.next 0), (2, .bool false), (3, .ptr (h0.next + 1) 0), (4, .any), (7, .fn (.func 66) [] [.ptr (h0.next + 1 + 1) 0]), (8, .int .u64 s)]) hl rfl (by rw [show (adE a h0.next).ps = #[8] from rp37_0]; show (#[8].toList.all fun t => Nat.testBit 415 t && Nat.blt t 24) = true; decide) ra37_0 rb37_0 (by rw [show (adE a h0.next).ps = #[8] from rp37_0]; rfl) ?_
  have hlt0 : ∀ x ∈ h0.blks, x.1 < h0.next := fun x hx => (hk0.blk hx).1
  have hsm : s < 2 ^ zs.length := by
    obtain ⟨s', e1, e2⟩ := LL_get hk
    rw [hs] at e1
    cases e1
    exact e2
  have p12 : 2 ^ zs.length ≤ 2 ^ 12 := Nat.pow_le_pow_right (by omega) hz'
  obtain ⟨v1, v2, q, v3, v4⟩ := L.v
  have nx := L.nx
  simp (disch := first|(simp only [Nat.reduceBEq,wE];done)|((repeat' (first|assumption|exact mAx _|refine mBx ?_ ?_|exact mCx (by assumption)|refine mDx ?_|refine mEx ?_ ?_ ?_|exact mFx|refine mGx ?_ ?_ ?_|exact mHx|exact mIx _|(simp only [wM,Nat.reduceAdd,Nat.reduceLT,Nat.reduceLeDiff];done)));done)|omega|decide) only [↓wA,wB,wL,resOf,Nat.reduceBEq,Int.reduceBEq,Int.reduceBNe,Int.reduceLT,Int.reduceLE,Int.reduceAdd,Int.reduceSub,Int.reduceMul,Int.reduceToNat]
  refine ⟨_, hl, rfl, ?_⟩
  generalize hgen : setL h.loops _ _ = SL
  obtain ⟨eB, hSL, kA, f1, f2, f3, f4⟩ := L.busy rfl rfl hgen
  clear hgen
  subst hSL
  generalize eA' : ({ next := h.next, blks := h.blks, loops := (h0.next + 1 + 1 + 1, eB) :: h0.loops, base := h.base, esc := h.esc } : Hp) = hA
  have eA := eA'.symm
  clear eA'
  have bA : hA.blks = h.blks := by rw [eA]
  have nA : hA.next = h.next := by rw [eA]
  have lA : hA.loops = (h0.next + 1 + 1 + 1, eB) :: h0.loops := by rw [eA]
  have kA : Hok hA := by rw [eA]; exact kA
  have aA : Ints hA.blks .i64 a zs := by rw [bA]; exact ha.sub (L.over.sub hlt0)
  have su := f49 s a zs hA kA aA (by omega) (by omega) hb
  -- the new slice
  have kB : Hok (hA.pu [.int .i64 (msum zs s)]) := Hok.pu kA rfl
  have sAB : Sub hA.blks (hA.pu [.int .i64 (msum zs s)]).blks := Sub.pu kA
  have ovA : Over h0.next h0.blks hA.blks := by rw [bA]; exact L.over
  have ovB : Over h0.next h0.blks (hA.pu [.int .i64 (msum zs s)]).blks := by
    obtain ⟨new, en, fn⟩ := ovA
    refine ⟨(hA.next, { cells := [.int .i64 (msum zs s)], ch := hA.next, wr := true }) :: new, by show _ :: hA.blks = _; rw [en]; rfl, fun x hx => ?_⟩
    rcases List.mem_cons.1 hx with rfl | hx
    · simp only; omega
    · exact fn x hx
  have hlen : (((LL zs.length).take k).map (msum zs)).length = k := by rw [List.length_map, List.length_take, LL_len]; omega
  have v4 : OwnA 1 (h0.next + 1 + 1 + 1 + 1) hA.blks q k (ints .i64 (((LL zs.length).take k).map (msum zs))) := by
    have := v4
    unfold Own at this
    rw [hlen] at this
    rw [bA]
    exact this
  obtain ⟨q2, h3, x1, x2, x3, x4, x5, x6, x7, x8, x9⟩ := app_over (x := .sl hA.next 0 1 (some 1) 1) (m := 0) (xs := [.int .i64 (msum zs s)]) kB ovB hlt0 (show h0.next ≤ h0.next + 1 + 1 + 1 + 1 by omega) (show _ ≤ hA.next + 1 by omega) (OwnA.sub v4 sAB) (Ints.top (zs := [msum zs s]) rfl (Nat.le_refl 1)) (by omega) rfl (by omega)
  have c1 : lkB h3.blks (h0.next + 1) = some { cells := [q], ch := h0.next + 1, wr := true } := x9 _ _ (by simp only; omega) (sAB _ _ (by rw [bA]; exact v3))
  obtain ⟨h4, w1, w2, w3, w4, w5, w6, w7, w8⟩ := store_old (id := h0.next + 1) (v := q2) x4 x3 hlt0 c1 (by omega) (Arr.cell (OwnA.arr x2)) (OwnA.ref x2 x4)
  have l1 : cellB hA.blks (h0.next + 1) 0 = some q := by rw [bA]; simp only [cellB, v3, Option.bind_some]; rfl
  have l2 : cellB hA.blks h0.next 0 = some a := by rw [bA]; simp only [cellB, v1, Option.bind_some]; rfl
  have l3 : ∀ c w, cellB ((hA.next, { cells := [.int .i64 (msum zs s)], ch := c, wr := w }) :: hA.blks) (h0.next + 1) 0 = some q := fun c w => by rw [cellB_miss (by omega)]; exact l1
  have l4 : ∀ c w, cellB ((hA.next, { cells := [.int .i64 (msum zs s)], ch := c, wr := w }) :: hA.blks) h0.next 0 = some a := fun c w => by rw [cellB_miss (by omega)]; exact l2
  have l5 : cellB h3.blks (h0.next + 1) 0 = some q := by simp only [cellB, c1, Option.bind_some]; rfl
  have c2 : lkB h3.blks h0.next = some { cells := [a], ch := h0.next, wr := true } := x9 _ _ (by simp only; omega) (sAB _ _ (by rw [bA]; exact v1))
  have l6 : cellB h3.blks h0.next 0 = some a := by simp only [cellB, c2, Option.bind_some]; rfl
  have x1' : sApp true 1 { next := hA.next + 1, blks := (hA.next, { cells := Abs.ints .i64 [msum zs s], ch := hA.next, wr := true }) :: hA.blks, loops := hA.loops, base := hA.base, esc := hA.esc } q (.sl hA.next 0 1 (some 1) 1) = some (q2, h3) := x1
  have l1h : cellB h.blks (h0.next + 1) 0 = some q := by rw [← bA]; exact l1
  simp (disch := first|(simp only [Nat.reduceBEq,wE];done)|((repeat' (first|assumption|exact mAx _|refine mBx ?_ ?_|exact mCx (by assumption)|refine mDx ?_|refine mEx ?_ ?_ ?_|exact mFx|refine mGx ?_ ?_ ?_|exact mHx|exact mIx _|(simp only [wM,Nat.reduceAdd,Nat.reduceLT,Nat.reduceLeDiff];done)));done)|omega|decide) only [l1h, l1, l2, l3, l4, l5, l6, callT su, sBS_1, x1', w1, ↓wA,wB,wL,resOf,Nat.reduceBEq,Int.reduceBEq,Int.reduceBNe,Int.reduceLT,Int.reduceLE,Int.reduceAdd,Int.reduceSub,Int.reduceMul,Int.reduceToNat]
  have e2 : h4.loops = (h0.next + 1 + 1 + 1, eB) :: h0.loops := by rw [w6, x6]; exact lA
  have xA : Elder h hA := ⟨⟨[], h.blks, by rw [bA]; rfl, rfl, by simp⟩, by rw [nA]; exact Nat.le_refl _⟩
  have xB : Elder hA (hA.pu [.int .i64 (msum zs s)]) := ⟨⟨[_], hA.blks, rfl, rfl, by simp⟩, Nat.le_succ _⟩
  have x4' := xA.trans (xB.trans (x7.trans w7))
  refine ⟨eB, by rw [e2, lkL_top], ⟨x4'.blks, x4'.next⟩, rfl, LI.done w3 w4 ?_ e2 f1 rfl f3 ⟨?_, ?_, q2, w2, ?_⟩⟩
  · have a1 := x5
    have a2 : (hA.pu [.int .i64 (msum zs s)]).next = hA.next + 1 := rfl
    rw [w5]
    omega
  · exact w8 _ _ (by omega) c2 (by simp only; omega)
  · exact w8 _ _ (by omega) (x9 _ _ (by simp only; omega) (sAB _ _ (by rw [bA]; exact v2))) (by simp only; omega)
  · have et : ((LL zs.length).take (k + 1)).map (msum zs) = ((LL zs.length).take k).map (msum zs) ++ [msum zs s] := by
      rw [List.take_add_one, hs]
      simp
    unfold Own
    rw [et, List.length_append, hlen]
    have := OwnA.mv x2 (bs' := h4.blks) fun j d h1 h2 h3 => w8 j d (by omega) h3 (by omega)
    rw [← ints_append]
    exact this
end Go.Proofs.YtelalpohbodolaaDoor
