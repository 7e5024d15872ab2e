/- The iterator of weighings. -/
import Derived.Test.YtelalpohbodolaaDoorD6
import Derived.Test.YtelalpohbodolaaDoorMH
set_option linter.unusedSimpArgs false
set_option linter.unusedVariables false
set_option maxHeartbeats 4000000
set_option maxRecDepth 20000
namespace Go.Abs
open Go
/-- What is said of the blocks below a number only. -/
def Lowy (N0 : Nat) (V : Nat → List (Nat × Blk) → Prop) : Prop := ∀ k bs bs', V k bs → (∀ id b, id < N0 → lkB bs id = some b → lkB bs' id = some b) → V k bs'
theorem Lowy.keep {N0 : Nat} {V : Nat → List (Nat × Blk) → Prop} (K : Lowy N0 V) : Keepy N0 V := fun k d bs bs' ls hv hd _ lk => K k bs bs' hv fun id b hid hb => by rw [lk id (by omega)]; exact hb
theorem LI.push {h0 h : Hp} {l : Nat} {e : LoopA} {V : Nat → List (Nat × Blk) → Prop} {k : Nat} {cs : List AV} (K : Lowy (l + 1) V) (hl : h0.next ≤ l) (H : LI h0 l e V k h) (hr : refsOK (h.next + 1) cs = true) : LI h0 l e V k (h.pu cs) := by
  obtain ⟨N, eN, fN⟩ := H.over
  have nx := H.nx
  refine ⟨⟨(h.next, { cells := cs, ch := h.next, wr := true }) :: N, by show _ :: h.blks = _; rw [eN]; rfl, fun x hx => ?_⟩, Hok.pu H.ok hr, Nat.le_succ_of_le H.nx, H.lps, K k h.blks _ H.v fun id b hid hb => ?_⟩
  · rcases List.mem_cons.1 hx with rfl | hx
    · simp only; omega
    · exact fN x hx
  · show lkB (_ :: h.blks) id = _
    rw [lkB_push (by omega)]; exact hb
/-- A store to a cell of a block of one's own. -/
theorem LI.store {h0 h : Hp} {l m j : Nat} {e : LoopA} {V : Nat → List (Nat × Blk) → Prop} {k : Nat} {zs : List Int} {v : Int} (K : Lowy (l + 1) V) (hl : h0.next ≤ l) (hk0 : Hok h0) (H : LI h0 l e V k h) (hm : l + 1 ≤ m)
    (hb : lkB h.blks m = some { cells := ints .i64 zs, ch := m, wr := true }) (hj : j < zs.length) :
    ∃ h', sStore 1 h (.int .i64 v) (.ptr m j) = some (.any, h') ∧ lkB h'.blks m = some { cells := ints .i64 (zs.set j v), ch := m, wr := true } ∧ LI h0 l e V k h' ∧ Elder h h' ∧ h'.next = h.next := by
  obtain ⟨h', w, l1, o, k1, n1, ls, r⟩ := write_old (off := j) (vs := [.int .i64 v]) H.ok H.over (fun x hx => (hk0.blk hx).1) hb (by omega) (by simp only; omega) rfl (by simp [ints_len]; omega) rfl rfl
  have es : splice (ints .i64 zs) j [.int .i64 v] = ints .i64 (zs.set j v) := by
    simp only [splice, List.length_singleton, ints]
    rw [List.map_set, List.set_eq_take_append_cons_drop, if_pos (by simpa using hj)]
    simp
  simp only [es] at l1
  refine ⟨h', ?_, l1, ⟨o, k1, by rw [n1]; exact H.nx, by rw [ls]; exact H.lps, K k h.blks _ H.v fun id b hid hb' => r id b (by omega) hb' ?_⟩, write_elder w, n1⟩
  · simp only [sStore, AV.parts, List.length_singleton, Nat.beq_refl, cond_true, w, Option.map_some]
  · have := H.ok.get hb'
    simp only
    omega
end Go.Abs
namespace Go.Proofs.YtelalpohbodolaaDoor
open Go Go.Abs Go.Wg

theorem f51 (n : Int) (h : Hp) : Evals Tryd.prog tab false (.func 51) [.int .i64 n] h (.fn (.func 67) [] [.ptr h.next 0], h.pu [.int .i64 n]) := by
  have H : ∃ v h', Evals Tryd.prog tab false (.func 51) [.int .i64 n] h (v, h') ∧ (v = .fn (.func 67) [] [.ptr h.next 0] ∧ h' = h.pu [.int .i64 n]) := by
    refine evals_func c51 (Q := fun v h' => v = .fn (.func 67) [] [.ptr h.next 0] ∧ h' = h.pu [.int .i64 n]) rfl ?_
    simp only [sf51, initS_cons, initS_nil]
    simp (disch := first|(simp only [Nat.reduceBEq,wE];done)|((repeat' (first|assumption|exact mAx _|refine mBx ?_ ?_|exact mCx (by assumption)|refine mDx ?_|refine mEx ?_ ?_ ?_|exact mFx|refine mGx ?_ ?_ ?_|exact mHx|exact mIx _|(simp only [wM,Nat.reduceAdd,Nat.reduceLT,Nat.reduceLeDiff];done)));done)|omega|decide) only [sBox_int, ↓wA,wB,wL,resOf,Nat.reduceBEq,Int.reduceBEq,Int.reduceBNe,Int.reduceLT,Int.reduceLE,Int.reduceAdd,Int.reduceSub,Int.reduceMul,Int.reduceToNat]
    refine ⟨_, rfl, rfl, pu_leave ?_⟩
    simp [refOK, refsOK, blt_self]
  obtain ⟨v, h', e, rfl, rfl⟩ := H
  exact e

theorem f67 (n l i : Nat) (hn : 0 < n) (hn9 : n ≤ 9) (h0 : Hp) (hk0 : Hok h0) (hl : h0.next ≤ l) (e : LoopA) (he : e.st = 0) (V VF : Nat → List (Nat × Blk) → Prop) (K : Lowy (l + 1) V) (KF : Lowy (l + 1) VF)
    (box : ∀ k bs, V k bs → Box bs i [.int .i64 n])
    (yld : ∀ (k m : Nat) (h : Hp), k < 3 ^ n → l + 1 ≤ m → lkB h.blks m = some { cells := ints .i64 (cw n k 0), ch := m, wr := true } → LI h0 l e V k h → ∃ b h', Evals Tryd.prog tab false (.yield l) [.ag (ints .i64 (cw n k 0))] h (b, h') ∧ Elder h h' ∧ lkB h'.blks m = some { cells := ints .i64 (cw n k 0), ch := m, wr := true } ∧ ((b = .bool true ∧ LI h0 l e V (k + 1) h') ∨ (b = .bool false ∧ LI h0 l { e with st := 2, jump := some none } VF k h')))
    (h : Hp) (H : LI h0 l e V 0 h) :
    ∃ v h', Evals Tryd.prog tab false (.func 67) [.yld l, .ptr i 0] h (v, h') ∧ (Elder h h' ∧ (LI h0 l e V (3 ^ n) h' ∨ ∃ k, k < 3 ^ n ∧ LI h0 l { e with st := 2, jump := some none } VF k h')) := by
  refine evals_two c67 (fun v h' => Elder h h' ∧ (LI h0 l e V (3 ^ n) h' ∨ ∃ k, k < 3 ^ n ∧ LI h0 l { e with st := 2, jump := some none } VF k h')) rfl ?_
  simp only [sf67, initS_cons, initS_nil]
  have p0 : 0 < 3 ^ n := Nat.pow_pos (by omega)
  have L0 := LI.push (cs := ints .i64 (fillw 0)) K hl H.en rfl
  have nx0 := H.nx
  have t0 : lkB (h.en.pu (ints .i64 (fillw 0))).blks h.next = some { cells := ints .i64 (fillw 0), ch := h.next, wr := true } := lkB_top
  have X0 : Elder h (h.en.pu (ints .i64 (fillw 0))) := ⟨⟨[_], h.blks, rfl, rfl, by simp⟩, Nat.le_succ _⟩
  have bx0 := (box _ _ L0.v).ld (Sub.refl _) (j := 0)
  replace bx0 : cellB ((h.next, { cells := [.int .i64 0, .int .i64 0, .int .i64 0, .int .i64 0, .int .i64 0, .int .i64 0, .int .i64 0, .int .i64 0, .int .i64 0], ch := h.next, wr := true }) :: h.blks) i 0 = some (.int .i64 n) := bx0
  simp (disch := first|(simp only [Nat.reduceBEq,wE];done)|((repeat' (first|assumption|exact mAx _|refine mBx ?_ ?_|exact mCx (by assumption)|refine mDx ?_|refine mEx ?_ ?_ ?_|exact mFx|refine mGx ?_ ?_ ?_|exact mHx|exact mIx _|(simp only [wM,Nat.reduceAdd,Nat.reduceLT,Nat.reduceLeDiff];done)));done)|omega|decide) only [bx0, ↓wA,wB,wL,resOf,Nat.reduceBEq,Int.reduceBEq,Int.reduceBNe,Int.reduceLT,Int.reduceLE,Int.reduceAdd,Int.reduceSub,Int.reduceMul,Int.reduceToNat]
  refine wloop (fun mm ss => ∃ (j : Nat) (h3 : Hp) (u4 u5 u8 u15 u25 u31 : AV), (mm = n - j) ∧ (j ≤ n ∧ LI h0 l e V 0 h3 ∧ Elder h h3 ∧ lkB h3.blks h.next = some { cells := ints .i64 (fillw j), ch := h.next, wr := true }) ∧ ss = { fr := [(0, .yld l), (1, .ptr i 0), (3, .ptr h.next 0), (4, u4), (5, u5), (6, .int .i64 n), (7, .int .i64 j), (8, u8), (15, u15), (25, u25), (31, u31)], hp := h3 }) (n) ?_ ?_
  ·
    refine ⟨0, _, _, _, _, _, _, _, by omega, ⟨by omega, L0, X0, t0⟩, rfl⟩
  rintro nA sA ⟨j, h3, u4, u5, u8, u15, u25, u31, hnA, ⟨hj, L3, x3, t3⟩, rfl⟩
  by_cases e1 : j < n
  · have d1 : decide ((j : Int) < (n : Int)) = true := decide_eq_true (by omega)
    obtain ⟨h4, s4, t4, L4, x4, n4⟩ := LI.store (j := j) (v := 1) K hl hk0 L3 (by omega) t3 (by rw [fillw_len (by omega)]; omega)
    rw [fillw_set (by omega)] at t4
    have ix : ∀ h, sIxA 9 1 h (some j) (.ptr h.next 0) = some (.ptr h.next j, h) := fun h => by rw [sIxA_ptr (by omega)]; simp
    have ix' : ∀ (hh : Hp), sIxA 9 1 hh (some j) (.ptr h.next 0) = some (.ptr h.next j, hh) := fun hh => by rw [sIxA_ptr (by omega)]; simp
    simp (disch := first|(simp only [Nat.reduceBEq,wE];done)|((repeat' (first|assumption|exact mAx _|refine mBx ?_ ?_|exact mCx (by assumption)|refine mDx ?_|refine mEx ?_ ?_ ?_|exact mFx|refine mGx ?_ ?_ ?_|exact mHx|exact mIx _|(simp only [wM,Nat.reduceAdd,Nat.reduceLT,Nat.reduceLeDiff];done)));done)|omega|decide) only [d1, ix', s4, ↓wA,wB,wL,resOf,Nat.reduceBEq,Int.reduceBEq,Int.reduceBNe,Int.reduceLT,Int.reduceLE,Int.reduceAdd,Int.reduceSub,Int.reduceMul,Int.reduceToNat]
    refine ⟨_, ?_, j + 1, _, _, _, _, _, _, _, rfl, ?_, rfl⟩
    · omega
    exact ⟨by omega, L4, x3.trans x4, t4⟩
  · have d1 : decide ((j : Int) < (n : Int)) = false := decide_eq_false (by omega)
    have ej : j = n := by omega
    subst ej
    rw [show fillw j = cw j 0 0 from (cw_first hn9).symm] at t3
    simp (disch := first|(simp only [Nat.reduceBEq,wE];done)|((repeat' (first|assumption|exact mAx _|refine mBx ?_ ?_|exact mCx (by assumption)|refine mDx ?_|refine mEx ?_ ?_ ?_|exact mFx|refine mGx ?_ ?_ ?_|exact mHx|exact mIx _|(simp only [wM,Nat.reduceAdd,Nat.reduceLT,Nat.reduceLeDiff];done)));done)|omega|decide) only [d1, ↓wA,wB,wL,resOf,Nat.reduceBEq,Int.reduceBEq,Int.reduceBNe,Int.reduceLT,Int.reduceLE,Int.reduceAdd,Int.reduceSub,Int.reduceMul,Int.reduceToNat]
    refine wloop (fun mm ss => ∃ (k : Nat) (h4 : Hp) (u4 u5 u6 u7 u8 u15 u25 u31 : AV), (mm = 3 ^ j - k) ∧ (k < 3 ^ j ∧ LI h0 l e V k h4 ∧ Elder h h4 ∧ lkB h4.blks h.next = some { cells := ints .i64 (cw j k 0), ch := h.next, wr := true }) ∧ ss = { fr := [(0, .yld l), (1, .ptr i 0), (3, .ptr h.next 0), (4, u4), (5, u5), (6, u6), (7, u7), (8, u8), (15, u15), (25, u25), (31, u31)], hp := h4 }) (3 ^ j) ?_ ?_
    ·
      refine ⟨0, _, _, _, _, _, _, _, _, _, by omega, ⟨p0, L3, x3, t3⟩, rfl⟩
    rintro nB sB ⟨k, h4, u4, u5, u6, u7, u8, u15, u25, u31, hnB, ⟨hk, L4, x4, t4⟩, rfl⟩
    obtain ⟨b, h5, ey, x5, t5, q⟩ := yld k h.next h4 hk (by omega) t4 L4
    have la : aggB h4.blks h.next 0 9 = some (.ag (ints .i64 (cw j k 0))) := by
      simp only [aggB, t4, Option.bind_some]
      rw [show slice? (ints .i64 (cw j k 0)) 0 9 = some (ints .i64 (cw j k 0)) from by
        simp only [slice?, ints_len, cw_len hn9 (Nat.zero_le _), List.drop_zero]
        rw [List.take_of_length_le (by rw [ints_len, cw_len hn9 (Nat.zero_le _)]; exact Nat.le_refl _)]
        rfl]
      rfl
    have x05 := x4.trans x5
    rcases q with ⟨rfl, L5⟩ | ⟨rfl, L5⟩
    · have bx := (box _ _ L5.v).ld (Sub.refl _) (j := 0)
      simp (disch := first|(simp only [Nat.reduceBEq,wE];done)|((repeat' (first|assumption|exact mAx _|refine mBx ?_ ?_|exact mCx (by assumption)|refine mDx ?_|refine mEx ?_ ?_ ?_|exact mFx|refine mGx ?_ ?_ ?_|exact mHx|exact mIx _|(simp only [wM,Nat.reduceAdd,Nat.reduceLT,Nat.reduceLeDiff];done)));done)|omega|decide) only [la, callYT ey, bx, ↓wA,wB,wL,resOf,Nat.reduceBEq,Int.reduceBEq,Int.reduceBNe,Int.reduceLT,Int.reduceLE,Int.reduceAdd,Int.reduceSub,Int.reduceMul,Int.reduceToNat]
      refine wloop (fun mm ss => ∃ (c x : Nat) (i5 : Int) (h6 : Hp) (u4 u6 u7 u8 u15 u25 u31 : AV), (mm = j - c) ∧ ((c ≤ j ∧ i5 = (j : Int) - 1 - c ∧ k + 1 = (x + 1) * 3 ^ c ∧ x < 3 ^ (j - c)) ∧ LI h0 l e V (k + 1) h6 ∧ Elder h h6 ∧ lkB h6.blks h.next = some { cells := ints .i64 (cw j x c), ch := h.next, wr := true }) ∧ ss = { fr := [(0, .yld l), (1, .ptr i 0), (3, .ptr h.next 0), (4, u4), (5, .int .i64 i5), (6, u6), (7, u7), (8, u8), (15, u15), (25, u25), (31, u31)], hp := h6 }) (j) ?_ ?_
      ·
        refine ⟨0, k, _, _, _, _, _, _, _, _, _, by omega, ⟨⟨by omega, by omega, by omega, hk⟩, L5, x05, t5⟩, rfl⟩
      rintro nC sC ⟨c, x, i5, h6, u4, u6, u7, u8, u15, u25, u31, hnC, ⟨⟨hc, hi5, hkx, hx⟩, L6, x6, t6⟩, rfl⟩
      subst hi5
      by_cases e2 : c < j
      · have c1 : (j : Int) - 1 - c = ((j - c - 1 : Nat) : Int) := by omega
        have d2 : decide (((j - c - 1 : Nat) : Int) ≥ 0) = true := decide_eq_true (by omega)
        have ix' : ∀ (hh : Hp), sIxA 9 1 hh (some (j - c - 1)) (.ptr h.next 0) = some (.ptr h.next (j - c - 1), hh) := fun hh => by rw [sIxA_ptr (by omega)]; simp
        have l6 : cellB h6.blks h.next (j - c - 1) = some (.int .i64 (1 - ((x % 3 : Nat) : Int))) := by
          simp only [cellB, t6, Option.bind_some]
          rw [ints_get (by rw [cw_len hn9 (by omega)]; omega), cw_get e2]
        rw [c1]
        by_cases e3 : x % 3 = 2
        · have d3 : ((1 - ((x % 3 : Nat) : Int)) == -1) = true := by rw [beq_iff_eq]; omega
          obtain ⟨h7, s7, t7, L7, x7, n7⟩ := LI.store (j := j - c - 1) (v := 1) K hl hk0 L6 (by omega) t6 (by rw [cw_len hn9 (by omega)]; omega)
          rw [cw_carry e2] at t7
          have p1 : 3 ^ (j - c) = 3 ^ (j - (c + 1)) * 3 := by rw [show j - c = (j - (c + 1)) + 1 by omega, Nat.pow_succ]
          simp (disch := first|(simp only [Nat.reduceBEq,wE];done)|((repeat' (first|assumption|exact mAx _|refine mBx ?_ ?_|exact mCx (by assumption)|refine mDx ?_|refine mEx ?_ ?_ ?_|exact mFx|refine mGx ?_ ?_ ?_|exact mHx|exact mIx _|(simp only [wM,Nat.reduceAdd,Nat.reduceLT,Nat.reduceLeDiff];done)));done)|omega|decide) only [d2, ix', l6, d3, s7, ↓wA,wB,wL,resOf,Nat.reduceBEq,Int.reduceBEq,Int.reduceBNe,Int.reduceLT,Int.reduceLE,Int.reduceAdd,Int.reduceSub,Int.reduceMul,Int.reduceToNat]
          refine ⟨_, ?_, c + 1, x / 3, _, _, _, _, _, _, _, _, _, rfl, ?_, rfl⟩
          · omega
          refine ⟨⟨by omega, by omega, ?_, by omega⟩, L7, x6.trans x7, t7⟩
          rw [hkx, Nat.pow_succ, show x + 1 = (x / 3 + 1) * 3 by omega, Nat.mul_assoc, Nat.mul_comm 3]
        · have d3 : ((1 - ((x % 3 : Nat) : Int)) == -1) = false := by rw [beq_eq_false_iff_ne]; omega
          have d4 : decide (((j - c - 1 : Nat) : Int) < 0) = false := decide_eq_false (by omega)
          obtain ⟨h7, s7, t7, L7, x7, n7⟩ := LI.store (j := j - c - 1) (v := 1 - ((x % 3 : Nat) : Int) - 1) K hl hk0 L6 (by omega) t6 (by rw [cw_len hn9 (by omega)]; omega)
          rw [cw_down e2 e3, ← hkx] at t7
          have kb : k + 1 < 3 ^ j := by
            have p1 : 3 ^ (j - c) = 3 ^ (j - (c + 1)) * 3 := by rw [show j - c = (j - (c + 1)) + 1 by omega, Nat.pow_succ]
            have p2 : x + 1 < 3 ^ (j - c) := by omega
            have p3 : 3 ^ j = 3 ^ (j - c) * 3 ^ c := by rw [← Nat.pow_add]; congr 1; omega
            rw [hkx, p3]
            exact Nat.mul_lt_mul_of_pos_right p2 (Nat.pow_pos (by omega))
          simp (disch := first|(simp only [Nat.reduceBEq,wE];done)|((repeat' (first|assumption|exact mAx _|refine mBx ?_ ?_|exact mCx (by assumption)|refine mDx ?_|refine mEx ?_ ?_ ?_|exact mFx|refine mGx ?_ ?_ ?_|exact mHx|exact mIx _|(simp only [wM,Nat.reduceAdd,Nat.reduceLT,Nat.reduceLeDiff];done)));done)|omega|decide) only [d2, ix', l6, d3, d4, s7, ↓wA,wB,wL,resOf,Nat.reduceBEq,Int.reduceBEq,Int.reduceBNe,Int.reduceLT,Int.reduceLE,Int.reduceAdd,Int.reduceSub,Int.reduceMul,Int.reduceToNat]
          refine ⟨_, ?_, k + 1, _, _, _, _, _, _, _, _, _, rfl, ?_, rfl⟩
          · omega
          exact ⟨kb, L7, x6.trans x7, t7⟩
      · have ec : c = j := by omega
        subst ec
        have d2 : decide ((c : Int) - 1 - c ≥ 0) = false := decide_eq_false (by omega)
        have d4 : decide ((c : Int) - 1 - c < 0) = true := decide_eq_true (by omega)
        have x0 : x = 0 := by rw [Nat.sub_self] at hx; omega
        subst x0
        rw [Nat.zero_add, Nat.one_mul] at hkx
        simp (disch := first|(simp only [Nat.reduceBEq,wE];done)|((repeat' (first|assumption|exact mAx _|refine mBx ?_ ?_|exact mCx (by assumption)|refine mDx ?_|refine mEx ?_ ?_ ?_|exact mFx|refine mGx ?_ ?_ ?_|exact mHx|exact mIx _|(simp only [wM,Nat.reduceAdd,Nat.reduceLT,Nat.reduceLeDiff];done)));done)|omega|decide) only [d2, d4, ↓wA,wB,wL,resOf,Nat.reduceBEq,Int.reduceBEq,Int.reduceBNe,Int.reduceLT,Int.reduceLE,Int.reduceAdd,Int.reduceSub,Int.reduceMul,Int.reduceToNat]
        refine ⟨_, rfl, x6, elder_leave x6, .inl ?_⟩
        rw [← hkx]
        exact LI.leave K.keep H L6 rfl (by omega) x6
    · simp (disch := first|(simp only [Nat.reduceBEq,wE];done)|((repeat' (first|assumption|exact mAx _|refine mBx ?_ ?_|exact mCx (by assumption)|refine mDx ?_|refine mEx ?_ ?_ ?_|exact mFx|refine mGx ?_ ?_ ?_|exact mHx|exact mIx _|(simp only [wM,Nat.reduceAdd,Nat.reduceLT,Nat.reduceLeDiff];done)));done)|omega|decide) only [la, callYT ey, ↓wA,wB,wL,resOf,Nat.reduceBEq,Int.reduceBEq,Int.reduceBNe,Int.reduceLT,Int.reduceLE,Int.reduceAdd,Int.reduceSub,Int.reduceMul,Int.reduceToNat]
      refine ⟨_, rfl, x05, elder_leave x05, .inr ⟨k, hk, ?_⟩⟩
      exact LI.leave KF.keep H L5 rfl (by simp) x05
end Go.Proofs.YtelalpohbodolaaDoor
