/- The first weighing that is wanted. -/
import Derived.Test.YtelalpohbodolaaDoorDK
import Derived.Test.YtelalpohbodolaaDoorSB
set_option linter.unusedSimpArgs false
set_option linter.unusedVariables false
set_option maxHeartbeats 4000000
set_option maxRecDepth 20000
namespace Go.Abs
/-- A store of a whole array to a variable. -/
theorem store_agg {h : Hp} {old : List (Nat × Blk)} {lim id n : Nat} {cs vs : List AV} (hk : Hok h) (ov : Over lim old h.blks) (hlt : ∀ x ∈ old, x.1 < lim) (hb : Abs.lkB h.blks id = some { cells := cs, ch := id, wr := true }) (hid : lim ≤ id) (h1 : vs.length = n) (h2 : cs.length = n) (hc : vs.all AV.isCell = true) (hr : refsOK h.next vs = true) :
    ∃ h', sStore n h (.ag vs) (.ptr id 0) = some (.any, h') ∧ Abs.lkB h'.blks id = some { cells := vs, ch := id, wr := true } ∧ Over lim old h'.blks ∧ Hok h' ∧ h'.next = h.next ∧ h'.loops = h.loops ∧ Elder h h' ∧ (∀ j d, j ≠ id → lkB h.blks j = some d → d.ch ≠ id → lkB h'.blks j = some d) := by
  obtain ⟨h', e, l1, o, k, n1, ls, r⟩ := write_old (off := 0) (vs := vs) hk ov hlt hb hid hid rfl (by simp only; omega) hc hr
  have hs : splice cs 0 vs = vs := by simp [splice, h1, ← h2]
  simp only [hs] at l1
  refine ⟨h', ?_, l1, o, k, n1, ls, write_elder e, r⟩
  simp only [sStore, AV.parts, h1, Nat.beq_refl, cond_true, e, Option.map_some]
end Go.Abs
namespace Go.Wg
def wfst (n : Nat) (P : Nat → Bool) : Option Nat := (List.range (3 ^ n)).find? P
theorem wfst_some {n k : Nat} {P : Nat → Bool} (hk : k < 3 ^ n) (hp : P k = true) (hb : ∀ j, j < k → P j = false) : wfst n P = some k := by
  unfold wfst
  rw [List.find?_eq_some_iff_getElem]
  exact ⟨hp, k, by simpa using hk, by simp, fun j hj => by simp [hb j hj]⟩
theorem wfst_none {n : Nat} {P : Nat → Bool} (hb : ∀ j, j < 3 ^ n → P j = false) : wfst n P = none := by
  unfold wfst
  rw [List.find?_eq_none]
  intro j hj
  simp [hb j (List.mem_range.1 hj)]
/- The cells of the result. -/
def wres (n : Nat) (P : Nat → Bool) : List Int := match wfst n P with
  | some s => cw n s 0
  | none => [0, 0, 0, 0, 0, 0, 0, 0, 0]
end Go.Wg
namespace Go.Proofs.YtelalpohbodolaaDoor
open Go Go.Abs Go.Wg

@[reducible] noncomputable def pwE (i : Nat) (w : AV) (c : Nat) : LoopA := { st := 0, jump := none, ps := (rfAt Tryd.prog 50 0).1, assign := (rfAt Tryd.prog 50 0).2.1, body := (rfAt Tryd.prog 50 0).2.2, keep := 5115, n := 15, fr := [(0, .fn (.func 67) [] [.ptr i 0]), (1, w), (3, .ptr c 0), (4, .ptr (c + 1) 0), (5, .ptr (c + 1 + 1) 0), (6, .any), (7, .any), (8, .fn (.func 67) [] [.ptr i 0]), (9, .any), (12, .any)] }
/-- Nothing that is wanted so far. -/
def pwV (i c : Nat) (bi : Blk) (w : AV) (P : Nat → Bool) (k : Nat) (bs : List (Nat × Blk)) : Prop :=
  lkB bs i = some bi ∧ lkB bs c = some { cells := [w], ch := c, wr := true } ∧ lkB bs (c + 1) = some { cells := ints .i64 [0, 0, 0, 0, 0, 0, 0, 0, 0], ch := c + 1, wr := true } ∧ lkB bs (c + 1 + 1) = some { cells := [.bool false], ch := c + 1 + 1, wr := true } ∧
  ∀ j, j < k → P j = false
def pwF (n c : Nat) (P : Nat → Bool) (k : Nat) (bs : List (Nat × Blk)) : Prop :=
  ∃ s : Nat, lkB bs (c + 1) = some { cells := ints .i64 (cw n s 0), ch := c + 1, wr := true } ∧ lkB bs (c + 1 + 1) = some { cells := [.bool true], ch := c + 1 + 1, wr := true } ∧ wfst n P = some s
theorem pwV_low {i c : Nat} {bi : Blk} {w : AV} {P : Nat → Bool} (hi : i < c) : Lowy (c + 1 + 1 + 1 + 1) (pwV i c bi w P) := fun k bs bs' ⟨v0, v1, v2, v3, v4⟩ lk =>
  ⟨lk _ _ (by omega) v0, lk _ _ (by omega) v1, lk _ _ (by omega) v2, lk _ _ (by omega) v3, v4⟩
theorem pwF_low {n c : Nat} {P : Nat → Bool} : Lowy (c + 1 + 1 + 1 + 1) (pwF n c P) := fun k bs bs' ⟨s, v1, v2, v3⟩ lk => ⟨s, lk _ _ (by omega) v1, lk _ _ (by omega) v2, v3⟩
theorem slice9 {zs : List Int} (h : zs.length = 9) : slice? (ints .i64 zs) 0 9 = some (ints .i64 zs) := by
  simp only [slice?, ints_len, h, List.drop_zero]
  rw [List.take_of_length_le (by rw [ints_len, h]; exact Nat.le_refl _)]
  rfl

theorem pw_round (n i ff : Nat) (hn9 : n ≤ 9) (cs : List AV) (P : Nat → Bool) (bi : Blk) (h0 : Hp) (hk0 : Hok h0) (hi : lkB h0.blks i = some bi)
    (want : ∀ (s : Nat) (h' : Hp), s < 3 ^ n → Hok h' → Sub h0.blks h'.blks → Evals Tryd.prog tab false (.func ff) (.ag (ints .i64 (cw n s 0)) :: cs) h' (.bool (P s), h'))
    (k m : Nat) (h : Hp) (hk : k < 3 ^ n) (hm : h0.next + 1 + 1 + 1 + 1 ≤ m) (hmb : lkB h.blks m = some { cells := ints .i64 (cw n k 0), ch := m, wr := true }) (L : LI h0 (h0.next + 1 + 1 + 1) (pwE i (.fn (.func ff) [] cs) h0.next) (pwV i h0.next bi (.fn (.func ff) [] cs) P) k h) :
    ∃ b h', Evals Tryd.prog tab false (.yield (h0.next + 1 + 1 + 1)) [.ag (ints .i64 (cw n k 0))] h (b, h') ∧ (Elder h h' ∧ lkB h'.blks m = some { cells := ints .i64 (cw n k 0), ch := m, wr := true } ∧ ((b = .bool true ∧ LI h0 (h0.next + 1 + 1 + 1) (pwE i (.fn (.func ff) [] cs) h0.next) (pwV i h0.next bi (.fn (.func ff) [] cs) P) (k + 1) h') ∨
      (b = .bool false ∧ LI h0 (h0.next + 1 + 1 + 1) { pwE i (.fn (.func ff) [] cs) h0.next with st := 2, jump := some none } (pwF n h0.next P) k h'))) := by
  have hl : lkL h.loops (h0.next + 1 + 1 + 1) = some (pwE i (.fn (.func ff) [] cs) h0.next) := by rw [L.lps]; exact lkL_top
  obtain ⟨z, hz⟩ : ∃ z, z = cw n k 0 := ⟨_, rfl⟩
  have zl : z.length = 9 := by rw [hz]; exact cw_len hn9 (Nat.zero_le _)
  rw [← hz] at hmb ⊢
  refine evals_yield (fr := [(0, .fn (.func 67) [] [.ptr i 0]), (1, .fn (.func ff) [] cs), (3, .ptr h0.next 0), (4, .ptr (h0.next + 1) 0), (5, .ptr (h0.next + 1 + 1) 0), (6, .any), (7, .any), (8, .fn (.func 67) [] [.ptr i 0]), (9, .ag (ints .i64 z)), (12, .any)]) hl rfl (by rw [show (pwE i (.fn (.func ff) [] cs) h0.next).ps = #[9] from rp50_0]; show (#[9].toList.all fun t => Nat.testBit 5115 t && Nat.blt t 15) = true; decide) ra50_0 rb50_0 (by rw [show (pwE i (.fn (.func ff) [] cs) h0.next).ps = #[9] from rp50_0]; rfl) ?_
  have hlt0 : ∀ x ∈ h0.blks, x.1 < h0.next := fun x hx => (hk0.blk hx).1
  have hil := (hk0.get hi).1
  have nx := L.nx
  have mlt := (L.ok.get hmb).1
  have Lp : LI h0 (h0.next + 1 + 1 + 1) (pwE i (.fn (.func ff) [] cs) h0.next) (pwV i h0.next bi (.fn (.func ff) [] cs) P) k (h.pu (ints .i64 z)) := LI.push (pwV_low hil) (by omega) L refsOK_ints
  have st9 := fun (base : Nat) (esc : Bool) => sStore_ag (n := 9) (m := h.next + 1) (base := base) (esc := esc) (cs := ints .i64 [0, 0, 0, 0, 0, 0, 0, 0, 0]) (vs := ints .i64 z) L.ok (by rw [ints_len]; exact zl) rfl all_cell_ints (by simp [ints, AV.hasRef])
  replace st9 : ∀ (base : Nat) (esc : Bool), sStore 9 { next := h.next + 1, blks := (h.next, { cells := [.int .i64 0, .int .i64 0, .int .i64 0, .int .i64 0, .int .i64 0, .int .i64 0, .int .i64 0, .int .i64 0, .int .i64 0], ch := h.next, wr := true }) :: h.blks, loops := h.loops, base, esc } (.ag (ints .i64 z)) (.ptr h.next 0) = some (.any, { next := h.next + 1, blks := (h.next, { cells := ints .i64 z, ch := h.next, wr := true }) :: h.blks, loops := h.loops, base, esc }) := st9
  simp (disch := first|(simp only [Nat.reduceBEq,wE];done)|((repeat' (first|assumption|exact mAx _|refine mBx ?_ ?_|exact mCx (by assumption)|refine mDx ?_|refine mEx ?_ ?_ ?_|exact mFx|refine mGx ?_ ?_ ?_|exact mHx|exact mIx _|(simp only [wM,Nat.reduceAdd,Nat.reduceLT,Nat.reduceLeDiff];done)));done)|omega|decide) only [st9, ↓wA,wB,wL,resOf,Nat.reduceBEq,Int.reduceBEq,Int.reduceBNe,Int.reduceLT,Int.reduceLE,Int.reduceAdd,Int.reduceSub,Int.reduceMul,Int.reduceToNat]
  refine ⟨_, hl, rfl, ?_⟩
  generalize hgen : setL h.loops _ _ = SL
  obtain ⟨eB, hSL, kA, f1, f2, f3, f4⟩ := Lp.busy rfl rfl hgen
  clear hgen
  subst hSL
  generalize eA' : ({ next := h.next + 1, blks := (h.next, { cells := ints .i64 z, ch := h.next, wr := true }) :: h.blks, loops := (h0.next + 1 + 1 + 1, eB) :: h0.loops, base := h.base, esc := h.esc } : Hp) = hA
  have eA := eA'.symm
  clear eA'
  have bA : hA.blks = (h.pu (ints .i64 z)).blks := by rw [eA]
  have nA : hA.next = h.next + 1 := by rw [eA]
  have lA : hA.loops = (h0.next + 1 + 1 + 1, eB) :: h0.loops := by rw [eA]
  have kA : Hok hA := by rw [eA]; exact kA
  have ovA : Over h0.next h0.blks hA.blks := by rw [bA]; exact Lp.over
  have vA := Lp.v
  rw [← bA] at vA
  obtain ⟨v0, v1, v2, v3, v4⟩ := vA
  have su := want k hA hk kA (ovA.sub hlt0)
  rw [← hz] at su
  have tA : lkB hA.blks h.next = some { cells := ints .i64 z, ch := h.next, wr := true } := by rw [bA]; exact lkB_top
  have mA : lkB hA.blks m = some { cells := ints .i64 z, ch := m, wr := true } := by
    rw [bA]; show lkB (_ :: h.blks) m = _
    rw [lkB_push (by omega)]; exact hmb
  have l1 : cellB h.blks h0.next 0 = some (.fn (.func ff) [] cs) := by simp only [cellB, L.v.2.1, Option.bind_some]; rfl
  have l1' : cellB hA.blks h0.next 0 = some (.fn (.func ff) [] cs) := by simp only [cellB, v1, Option.bind_some]; rfl
  have a1' : aggB hA.blks h.next 0 9 = some (.ag (ints .i64 z)) := by
    simp only [aggB, tA, Option.bind_some]
    rw [slice9 zl]; rfl
  have a1 : aggB ((h.next, { cells := ints .i64 z, ch := h.next, wr := true }) :: h.blks) h.next 0 9 = some (.ag (ints .i64 z)) := by
    rw [bA] at a1'; exact a1'
  have xA : Elder h hA := ⟨⟨[_], h.blks, by rw [bA]; rfl, rfl, by simp⟩, by rw [nA]; exact Nat.le_succ _⟩
  cases eP : P k with
  | true =>
    rw [eP] at su
    obtain ⟨h1, w1, l2, o1, k1, n1, ls1, x1, r1⟩ := store_agg (n := 9) (id := h0.next + 1) (vs := ints .i64 z) kA ovA hlt0 v2 (by omega) (by rw [ints_len]; exact zl) rfl all_cell_ints refsOK_ints
    obtain ⟨h2, w2, l3, o2, k2, n2, ls2, x2, r2⟩ := store_old (id := h0.next + 1 + 1) (v := .bool true) k1 o1 hlt0 (r1 _ _ (by omega) v3 (by simp only; omega)) (by omega) ⟨rfl, rfl⟩ rfl
    simp (disch := first|(simp only [Nat.reduceBEq,wE];done)|((repeat' (first|assumption|exact mAx _|refine mBx ?_ ?_|exact mCx (by assumption)|refine mDx ?_|refine mEx ?_ ?_ ?_|exact mFx|refine mGx ?_ ?_ ?_|exact mHx|exact mIx _|(simp only [wM,Nat.reduceAdd,Nat.reduceLT,Nat.reduceLeDiff];done)));done)|omega|decide) only [l1, l1', a1, a1', callC (args := [.ag (ints .i64 z)]) (cs := cs) su, w1, w2, ↓wA,wB,wL,resOf,Nat.reduceBEq,Int.reduceBEq,Int.reduceBNe,Int.reduceLT,Int.reduceLE,Int.reduceAdd,Int.reduceSub,Int.reduceMul,Int.reduceToNat]
    have e2 : h2.loops = (h0.next + 1 + 1 + 1, eB) :: h0.loops := by rw [ls2, ls1]; exact lA
    have x4' := xA.trans (x1.trans x2)
    refine ⟨eB, by rw [e2, lkL_top], ⟨x4'.blks, x4'.next⟩, r2 _ _ (by omega) (r1 _ _ (by omega) mA (by simp only; omega)) (by simp only; omega), .inr ⟨rfl, LI.gone o2 k2 (by rw [n2, n1, nA]; omega) e2 f1 f4 ⟨k, ?_, l3, wfst_some hk eP v4⟩⟩⟩
    rw [← hz]
    exact r2 _ _ (by omega) l2 (by simp only; omega)
  | false =>
    rw [eP] at su
    simp (disch := first|(simp only [Nat.reduceBEq,wE];done)|((repeat' (first|assumption|exact mAx _|refine mBx ?_ ?_|exact mCx (by assumption)|refine mDx ?_|refine mEx ?_ ?_ ?_|exact mFx|refine mGx ?_ ?_ ?_|exact mHx|exact mIx _|(simp only [wM,Nat.reduceAdd,Nat.reduceLT,Nat.reduceLeDiff];done)));done)|omega|decide) only [l1, l1', a1, a1', callC (args := [.ag (ints .i64 z)]) (cs := cs) su, ↓wA,wB,wL,resOf,Nat.reduceBEq,Int.reduceBEq,Int.reduceBNe,Int.reduceLT,Int.reduceLE,Int.reduceAdd,Int.reduceSub,Int.reduceMul,Int.reduceToNat]
    refine ⟨eB, by rw [lA, lkL_top], ⟨xA.blks, xA.next⟩, mA, .inl ⟨rfl, LI.done ovA kA (by rw [nA]; omega) lA f1 rfl f3 ?_⟩⟩
    refine ⟨v0, v1, v2, v3, fun j hj => ?_⟩
    rcases Nat.lt_or_ge j k with h1 | h1
    · exact v4 j h1
    · have : j = k := by omega
      subst this
      exact eP
end Go.Proofs.YtelalpohbodolaaDoor
