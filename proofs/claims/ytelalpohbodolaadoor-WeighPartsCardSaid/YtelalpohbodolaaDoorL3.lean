/- WeighParts: a part of distinct weights is distinct, and so are their multiples. -/
import Derived.Test.YtelalpohbodolaaDoorDA
import Derived.Test.YtelalpohbodolaaDoorDB
import Derived.Test.YtelalpohbodolaaDoorFWeighParts
set_option linter.unusedSimpArgs false
set_option linter.unusedVariables false
set_option maxHeartbeats 8000000
set_option maxRecDepth 20000
namespace Go.Abs
theorem sBin16_shr {a j : Nat} (hj : j ≤ 16) : sBin .shr .no (.int .u16 (a : Int)) (.int .i64 (j : Int)) = some (.int .u16 ((a / 2 ^ j : Nat) : Int)) := by
  have hm : min ((j : Int).toNat) IntKind.u16.bits = j := by rw [Int.toNat_natCast]; show min j 16 = j; omega
  simp only [sBin, abShift, hm]
  rw [if_neg (by omega), Int.fdiv_eq_ediv_of_nonneg _ (by have := Int.pow_pos (n := 2) (m := j) (by omega); omega)]
  simp
theorem sBin16_and1 {a : Nat} (ha : a < 65536) : sBin .and .no (.int .u16 (a : Int)) (.int .u16 1) = some (.int .u16 ((a % 2 : Nat) : Int)) := by
  have e : sBin .and .no (.int .u16 (a : Int)) (.int .u16 1) = some (.int .u16 (IntKind.wrap .u16 ((BitVec.ofInt 16 (a : Int) &&& BitVec.ofInt 16 1).toNat : Int))) := rfl
  have e1 : (BitVec.ofInt 16 (a : Int)).toNat = a := by rw [BitVec.ofInt_natCast, BitVec.toNat_ofNat, Nat.mod_eq_of_lt (by omega)]
  have e2 : (BitVec.ofInt 16 1).toNat = 1 := rfl
  rw [e, BitVec.toNat_and, e1, e2, Nat.and_one_is_mod]
  congr 2
  simp [IntKind.wrap, IntKind.bits, IntKind.signed]
  omega
end Go.Abs
namespace Go.Wg
def smL (L : List Int) (p : Nat) : Nat → List Int
  | 0 => []
  | i + 1 => smL L p i ++ (if bt p i = true then [L.getD i 0] else [])
theorem smL_sub (L : List Int) (p : Nat) : ∀ i, i ≤ L.length → (smL L p i).Sublist (L.take i)
  | 0, _ => by simp [smL]
  | i + 1, h => by
    have ih := smL_sub L p i (by omega)
    rw [smL, List.take_succ_eq_append_getElem (by omega)]
    refine ih.append ?_
    split
    · rw [List.getD_eq_getElem?_getD, List.getElem?_eq_getElem (show i < L.length by omega), Option.getD_some]
      exact List.Sublist.refl _
    · exact List.nil_sublist _
theorem bdL (L : List Int) {l0 : List Int} (hL : (∃ g, L = dblR l0 g) ∨ ∃ k : Unit, L = mdL l0 8) (b : Int) {k : Int} (r1 : 0 ≤ k % 5) (r2 : k % 5 < 5) (hb : b = k % 5 + 1) (i : Nat) : -1000000000 ≤ L.getD i 0 ∧ L.getD i 0 ≤ 1000000000 ∧ -5000000000 ≤ L.getD i 0 * b ∧ L.getD i 0 * b ≤ 5000000000 := by
  have key : 0 ≤ L.getD i 0 ∧ L.getD i 0 ≤ 1000000000 := by
    rcases Nat.lt_or_ge i L.length with hi | hi
    · have hm : L.getD i 0 ∈ L := by rw [List.getD_eq_getElem?_getD, List.getElem?_eq_getElem hi, Option.getD_some]; exact List.getElem_mem hi
      rcases hL with ⟨g, rfl⟩ | ⟨_, rfl⟩
      · unfold dblR gyR dbR at *
        split at hm
        · obtain ⟨z, hz, e⟩ := List.mem_map.1 hm
          have h1 := cgS_bd _ (by omega) z hz
          have h2 := gyB_bd l0
          have h3 : 0 ≤ z * gyB l0 := Int.mul_nonneg (by omega) (by omega)
          have h4 : z * gyB l0 ≤ 2048 * 40 := Int.mul_le_mul h1.2 h2.2 (by omega) (by omega)
          rw [if_pos (by assumption)]
          omega
        · rename_i hg
          rw [if_neg hg]
          split at hm
          · rename_i h0
            rw [if_pos h0]
            simp only [List.mem_singleton] at hm
            omega
          · rename_i h0
            rw [if_neg h0]
            have hp := dbL_pos l0 _ _ hm
            obtain ⟨j, hj, e⟩ := List.mem_map.1 hm
            have hj := List.mem_range.1 hj
            have h1 := (dS_bd l0 j)
            have h2 := Int.emod_lt_of_pos (l0.getD j 0) (show (0 : Int) < 12 by omega)
            have h3 : 2 ^ j ≤ 2 ^ 12 := Nat.pow_le_pow_right (by omega) (by omega)
            omega
      · unfold mdL at *
        split at hm
        · rename_i h0
          rw [if_pos h0]
          simp only [List.mem_singleton] at hm
          omega
        · rename_i h0
          rw [if_neg h0]
          have := rsL_bd l0 (m := 8000) (by omega) _ _ hm
          omega
    · rw [List.getD_eq_getElem?_getD, List.getElem?_eq_none hi]
      simp
  have h1 : 0 ≤ L.getD i 0 * b := Int.mul_nonneg key.1 (by omega)
  have h2 : L.getD i 0 * b ≤ 1000000000 * 5 := Int.mul_le_mul key.2 (by omega) (by omega) (by omega)
  omega
theorem WFp.sub {l m : List Int} (h : WFp m) (s : l.Sublist m) : WFp l := ⟨h.1.sublist s, fun z hz => h.2 z (s.subset hz)⟩
theorem errW_zero {l : List Int} (h : WF l) (h2 : l.length ≤ 12) : errW l 12 0 = 0 := by
  unfold errW
  rw [if_neg (by omega), if_neg (by omega), if_neg (by simpa using h)]
theorem map_suc {L : List Int} {b : Int} {i : Nat} (h : i < L.length) : (L.take (i + 1)).map (· * b) = (L.take i).map (· * b) ++ [L.getD i 0 * b] := by
  rw [List.take_succ_eq_append_getElem h, List.map_append, List.getD_eq_getElem?_getD, List.getElem?_eq_getElem h]
  rfl
end Go.Wg
namespace Go.Proofs.YtelalpohbodolaaDoor
open Go Go.Abs Go.Wg

theorem f11 (x0 : AV) (l0 : List Int) (k1 k2a k2b : Int) (h : Hp) (hk : Hok h) (P0 : Ints h.blks .u16 x0 l0) (B0 : ∀ k ∈ l0, 0 ≤ k ∧ k ≤ 65535) (S0 : l0.length ≤ maxLen) (b1 : 0 ≤ k1 ∧ k1 ≤ 65535) (b2a : 0 ≤ k2a ∧ k2a ≤ 255) (b2b : 0 ≤ k2b ∧ k2b ≤ 255) :
    ∃ h', Evals Tryd.prog tab false (.func 11) [x0, .int .u16 k1, .ag [.int .u8 k2a, .int .u8 k2b]] h (.bool true, h') := by
  suffices H : ∃ v h', Evals Tryd.prog tab false (.func 11) [x0, .int .u16 k1, .ag [.int .u8 k2a, .int .u8 k2b]] h (v, h') ∧ v = .bool true by
    obtain ⟨v, h', e, rfl⟩ := H
    exact ⟨h', e⟩
  refine evals_func (Q := fun v _ => v = .bool true) c11 rfl ?_
  simp only [sf11, initS_cons, initS_nil]
  have k0 : Hok (h.en.pu [.int .u8 k2a, .int .u8 k2b]) := Hok.pu hk rfl
  have ix0 : ∀ h : Hp, ∀ id, sIxA 2 1 h (some 0) (.ptr id 0) = some (.ptr id (0 + 0 * 1), h) := fun h id => sIxA_ptr (by omega)
  have ix1 : ∀ h : Hp, ∀ id, sIxA 2 1 h (some 1) (.ptr id 0) = some (.ptr id (0 + 1 * 1), h) := fun h id => sIxA_ptr (by omega)
  have q0 : cellB (h.en.pu [.int .u8 k2a, .int .u8 k2b]).blks h.next 0 = some (.int .u8 k2a) := cellB_hit
  have q1 : cellB (h.en.pu [.int .u8 k2a, .int .u8 k2b]).blks h.next 1 = some (.int .u8 k2b) := cellB_hit
  obtain ⟨p, hp⟩ : ∃ p : Nat, k1 = p := ⟨k1.toNat, by omega⟩
  subst hp
  obtain ⟨g, hg⟩ : ∃ g : Bool, (k2b % 2 == 0) = g := ⟨_, rfl⟩
  have tm2 : sBin .rem .no (.int .u8 k2b) (.int .u8 2) = some (.int .u8 (k2b % 2)) := sBin_rem b2b.1 (by omega)
  have tm3 : sBin .rem .no (.int .u8 k2b) (.int .u8 3) = some (.int .u8 (k2b % 3)) := sBin_rem b2b.1 (by omega)
  have tm5 : sBin .rem .no (.int .i64 k2a) (.int .i64 5) = some (.int .i64 (k2a % 5)) := sBin_rem b2a.1 (by omega)
  have r1 := Int.emod_nonneg k2a (show (5 : Int) ≠ 0 by omega)
  have r2 := Int.emod_lt_of_pos k2a (show (0 : Int) < 5 by omega)
  obtain ⟨b, hb⟩ : ∃ b, b = k2a % 5 + 1 := ⟨_, rfl⟩
  obtain ⟨s1, h1, e1, g1, o1⟩ := f35 x0 l0 g (h.en.pu [.int .u8 k2a, .int .u8 k2b]) k0 (P0.sub (Sub.pu (h := h.en) hk)) B0 S0
  have k1' := g1.ok k0
  have ml := dblR_len l0 g
  obtain ⟨L1, hL1⟩ : ∃ L, L = dblR l0 g := ⟨_, rfl⟩
  rw [← hL1] at o1 ml
  by_cases r0 : k2b % 3 = 0
  · have t3 : (k2b % 3 == 0) = true := by rw [beq_iff_eq]; exact r0
    obtain ⟨s2, h2, e2, g2, o2⟩ := f30 x0 l0 8 h1 k1' ((P0.sub (Sub.pu (h := h.en) hk)).sub (g1.sub k0)) B0 S0 (by omega)
    replace e2 : Evals Tryd.prog tab false (.func 30) [x0, .int .i64 8] h1 (s2, h2) := e2
    have k2' := g2.ok k1'
    have ml2 := mdL_len l0 8 (by omega)
    obtain ⟨L2, hL2⟩ : ∃ L, L = mdL l0 8 := ⟨_, rfl⟩
    rw [← hL2] at o2 ml2

    have gA : Grown h2 (h2.pu []) := Grown.pu Grown.refl rfl
    have gB : Grown h2 ((h2.pu []).pu []) := Grown.pu gA rfl
    have kA := gA.ok k2'
    have OA : Own h2.next ((h2.pu []).pu []).blks .i64 (.sl h2.next 0 0 (some 0) 1) [] := (Own.fresh (Nat.le_refl _) rfl rfl rfl (Nat.le_refl _) : Own h2.next (h2.pu []).blks .i64 (.sl h2.next 0 0 (some 0) 1) []).sub (Sub.pu kA)
    have OB : Own h2.next ((h2.pu []).pu []).blks .i64 (.sl (h2.next + 1) 0 0 (some 0) 1) [] := Own.fresh (Nat.le_succ _) rfl rfl rfl (Nat.le_refl _)
    have AP : Apart ((h2.pu []).pu []).blks (.sl h2.next 0 0 (some 0) 1) (.sl (h2.next + 1) 0 0 (some 0) 1) := by
      have n1 : h2.next ≠ h2.next + 1 := by omega
      intro x hx hy
      have hx : (lkB ((_, _) :: (_, _) :: h2.blks) h2.next).map (·.ch) = some x := hx
      have hy : (lkB ((_, _) :: (_, _) :: h2.blks) (h2.next + 1)).map (·.ch) = some x := hy
      rw [lkB_push n1, lkB_top] at hx
      rw [lkB_top] at hy
      cases hx
      simp at hy
    have ol := o2.len
    simp (disch := first|(simp only [Nat.reduceBEq,wE];done)|((repeat' (first|assumption|exact mAx _|refine mBx ?_ ?_|exact mCx (by assumption)|refine mDx ?_|refine mEx ?_ ?_ ?_|exact mFx|refine mGx ?_ ?_ ?_|exact mHx|exact mIx _|(simp only [wM,Nat.reduceAdd,Nat.reduceLT,Nat.reduceLeDiff];done)));done)|omega|decide) only [sBox_ag, idx?_lit0, idx?_lit1, ix0, ix1, q0, q1, tm2, hg, callT e1, tm3, t3, callT e2, sBS_0, ↓wA,wB,wL,resOf,Nat.reduceBEq,Int.reduceBEq,Int.reduceBNe,Int.reduceLT,Int.reduceLE,Int.reduceAdd,Int.reduceSub,Int.reduceMul,Int.reduceToNat]
    refine wloop (fun mm ss => ∃ (i : Nat) (q1 q2 : AV) (h3 : Hp) (u2 u5 u6 u13 u14 u15 u16 u17 u18 u30 u38 u45 u77 : AV), (mm = (L2).length - i) ∧ (i ≤ (L2).length ∧ Grown h2 h3 ∧ Own h2.next h3.blks .i64 q1 (smL L2 p i) ∧ Own h2.next h3.blks .i64 q2 ((L2.take i).map (· * b)) ∧ Apart h3.blks q1 q2) ∧ ss = { fr := [(0, x0), (1, .int .u16 p), (2, u2), (5, u5), (6, u6), (7, .int .u8 k2a), (8, .int .u8 k2b), (9, s2), (10, q1), (11, q2), (12, .int .i64 i), (13, u13), (14, u14), (15, u15), (16, u16), (17, u17), (18, u18), (30, u30), (38, u38), (45, u45), (77, u77)], hp := h3 }) ((L2).length) ?_ ?_
    ·
      refine ⟨0, _, _, _, _, _, _, _, _, _, _, _, _, _, _, _, _, by omega, ⟨by omega, gB, OA, by rw [List.take_zero]; exact OB, AP⟩, rfl⟩
    rintro nA sA ⟨i, q1, q2, h3, u2, u5, u6, u13, u14, u15, u16, u17, u18, u30, u38, u45, u77, hnA, ⟨hi, g3, oA, oB, ap⟩, rfl⟩
    have k3 := g3.ok k2'
    have o3 := o2.ints.sub (g3.sub k2')
    have lA : (smL L2 p i).length ≤ i := by have := (smL_sub L2 p i hi).length_le; rw [List.length_take] at this; omega
    have lB : ((L2.take i).map (· * b)).length = i := by rw [List.length_map, List.length_take]; omega
    by_cases ei : i < (L2).length
    · have d1 : decide ((i : Int) < (((L2).length : Nat) : Int)) = true := decide_eq_true (by omega)
      have zb := bdL L2 (.inr ⟨(), hL2⟩) b r1 r2 hb i
      have x1 : sBin .shr .no (.int .u16 (p : Int)) (.int .i64 (i : Int)) = some (.int .u16 ((p / 2 ^ i : Nat) : Int)) := sBin16_shr (by omega)
      have hd : p / 2 ^ i ≤ p := Nat.div_le_self _ _
      have x2 : sBin .and .no (.int .u16 ((p / 2 ^ i : Nat) : Int)) (.int .u16 1) = some (.int .u16 ((p / 2 ^ i % 2 : Nat) : Int)) := sBin16_and1 (by omega)
      have ms := map_suc (b := b) ei
      have ss : smL L2 p (i + 1) = smL L2 p i ++ (if bt p i = true then [(L2).getD i 0] else []) := rfl
      have zz1 : -5000000000 ≤ (L2).getD i 0 * b := zb.2.2.1
      have zz2 : (L2).getD i 0 * b ≤ 5000000000 := zb.2.2.2
      by_cases eb : p / 2 ^ i % 2 = 1
      · have d2 : (((p / 2 ^ i % 2 : Nat) : Int) == 1) = true := by rw [beq_iff_eq]; omega
        have bb : bt p i = true := decide_eq_true eb
        rw [if_pos bb] at ss
        obtain ⟨qa, h4, y1, y2, y3, y4, y5⟩ := own_app1O (v := (L2).getD i 0) k2' g3 oA oB ap (by omega)
        have k4 := y3.ok k2'
        have o4 := o2.ints.sub (y3.sub k2')
        have y4' : Own h2.next h4.blks .i64 q2 ((L2.take i).map (· * b)) := y4
        obtain ⟨qb, h5, w1, w2, w3, w4, w5⟩ := own_app1O (v := (L2).getD i 0 * b) k2' y3 y4' y2 y5.symm (by omega)
        simp (disch := first|(simp only [Nat.reduceBEq,wE];done)|((repeat' (first|assumption|exact mAx _|refine mBx ?_ ?_|exact mCx (by assumption)|refine mDx ?_|refine mEx ?_ ?_ ?_|exact mFx|refine mGx ?_ ?_ ?_|exact mHx|exact mIx _|(simp only [wM,Nat.reduceAdd,Nat.reduceLT,Nat.reduceLeDiff];done)));done)|omega|decide) only [ol, d1, x1, x2, d2, o3.ix, o3.ld, sBS_1, y1, o4.ix, o4.ld, tm5, ← hb, w1, ↓wA,wB,wL,resOf,Nat.reduceBEq,Int.reduceBEq,Int.reduceBNe,Int.reduceLT,Int.reduceLE,Int.reduceAdd,Int.reduceSub,Int.reduceMul,Int.reduceToNat]
        refine ⟨_, ?_, i + 1, _, _, _, _, _, _, _, _, _, _, _, _, _, _, _, _, rfl, ?_, rfl⟩
        · omega
        exact ⟨by omega, w3, by rw [ss]; exact w4, by rw [ms]; exact w2, w5.symm⟩
      · have d2 : (((p / 2 ^ i % 2 : Nat) : Int) == 1) = false := by rw [beq_eq_false_iff_ne]; omega
        have bb : ¬ bt p i = true := fun hh => eb (of_decide_eq_true hh)
        rw [if_neg bb, List.append_nil] at ss
        obtain ⟨qb, h5, w1, w2, w3, w4, w5⟩ := own_app1O (v := (L2).getD i 0 * b) k2' g3 oB oA ap.symm (by omega)
        simp (disch := first|(simp only [Nat.reduceBEq,wE];done)|((repeat' (first|assumption|exact mAx _|refine mBx ?_ ?_|exact mCx (by assumption)|refine mDx ?_|refine mEx ?_ ?_ ?_|exact mFx|refine mGx ?_ ?_ ?_|exact mHx|exact mIx _|(simp only [wM,Nat.reduceAdd,Nat.reduceLT,Nat.reduceLeDiff];done)));done)|omega|decide) only [ol, d1, x1, x2, d2, o3.ix, o3.ld, sBS_1, tm5, ← hb, w1, ↓wA,wB,wL,resOf,Nat.reduceBEq,Int.reduceBEq,Int.reduceBNe,Int.reduceLT,Int.reduceLE,Int.reduceAdd,Int.reduceSub,Int.reduceMul,Int.reduceToNat]
        refine ⟨_, ?_, i + 1, _, _, _, _, _, _, _, _, _, _, _, _, _, _, _, _, rfl, ?_, rfl⟩
        · omega
        exact ⟨by omega, w3, by rw [ss]; exact w4, by rw [ms]; exact w2, w5.symm⟩
    · have d1 : decide ((i : Int) < (((L2).length : Nat) : Int)) = false := decide_eq_false (by omega)
      have en : i = (L2).length := by omega
      rw [en, List.take_of_length_le (Nat.le_refl _)] at oB
      rw [en] at oA lA
      have sb : (smL L2 p (L2).length).Sublist L2 := by have := smL_sub L2 p _ (Nat.le_refl _); rw [List.take_of_length_le (Nat.le_refl _)] at this; exact this
      obtain ⟨sm, hsm⟩ : ∃ sm, sm = smL L2 p (L2).length := ⟨_, rfl⟩
      rw [← hsm] at oA lA sb
      have la := oA.len
      by_cases e0 : sm.length = 0
      · have d2 : ((sm.length : Int) == 0) = true := by rw [beq_iff_eq]; omega
        simp (disch := first|(simp only [Nat.reduceBEq,wE];done)|((repeat' (first|assumption|exact mAx _|refine mBx ?_ ?_|exact mCx (by assumption)|refine mDx ?_|refine mEx ?_ ?_ ?_|exact mFx|refine mGx ?_ ?_ ?_|exact mHx|exact mIx _|(simp only [wM,Nat.reduceAdd,Nat.reduceLT,Nat.reduceLeDiff];done)));done)|omega|decide) only [ol, d1, la, d2, callT (lives_ev _), ↓wA,wB,wL,resOf,Nat.reduceBEq,Int.reduceBEq,Int.reduceBNe,Int.reduceLT,Int.reduceLE,Int.reduceAdd,Int.reduceSub,Int.reduceMul,Int.reduceToNat]
        exact ⟨_, rfl, rfl⟩
      · have d2 : ((sm.length : Int) == 0) = false := by rw [beq_eq_false_iff_ne]; omega
        have W1 := f16 s2 L2 h3 k3 o3 (by omega)
        have W2 := f16 q2 (L2.map (· * b)) h3 k3 oB.ints (by rw [List.length_map]; omega)
        rcases errW_cases L2 0 (Int.le_refl _) with ⟨ew, ew2⟩ | ⟨ew, ew2, ew3⟩ | ⟨ew, ew2, ew3⟩
        · omega
        · rw [ew] at W1
          simp (disch := first|(simp only [Nat.reduceBEq,wE];done)|((repeat' (first|assumption|exact mAx _|refine mBx ?_ ?_|exact mCx (by assumption)|refine mDx ?_|refine mEx ?_ ?_ ?_|exact mFx|refine mGx ?_ ?_ ?_|exact mHx|exact mIx _|(simp only [wM,Nat.reduceAdd,Nat.reduceLT,Nat.reduceLeDiff];done)));done)|omega|decide) only [ol, d1, la, d2, callT W1, callT (lives_ev _), ↓wA,wB,wL,resOf,Nat.reduceBEq,Int.reduceBEq,Int.reduceBNe,Int.reduceLT,Int.reduceLE,Int.reduceAdd,Int.reduceSub,Int.reduceMul,Int.reduceToNat]
          exact ⟨_, rfl, rfl⟩
        · rw [ew] at W1
          rcases errW_cases (L2.map (· * b)) 0 (Int.le_refl _) with ⟨ev, ev2⟩ | ⟨ev, ev2, ev3⟩ | ⟨ev, ev2, ev3⟩
          · rw [List.length_map] at ev2; omega
          · rw [ev] at W2
            simp (disch := first|(simp only [Nat.reduceBEq,wE];done)|((repeat' (first|assumption|exact mAx _|refine mBx ?_ ?_|exact mCx (by assumption)|refine mDx ?_|refine mEx ?_ ?_ ?_|exact mFx|refine mGx ?_ ?_ ?_|exact mHx|exact mIx _|(simp only [wM,Nat.reduceAdd,Nat.reduceLT,Nat.reduceLeDiff];done)));done)|omega|decide) only [ol, d1, la, d2, callT W1, callT W2, callT (lives_ev _), ↓wA,wB,wL,resOf,Nat.reduceBEq,Int.reduceBEq,Int.reduceBNe,Int.reduceLT,Int.reduceLE,Int.reduceAdd,Int.reduceSub,Int.reduceMul,Int.reduceToNat]
            exact ⟨_, rfl, rfl⟩
          · rw [ev] at W2
            have wfs : WF sm := ⟨ew3.1.sub sb, by omega⟩
            have es := errW_zero wfs (by omega)
            obtain ⟨d, hd, D1⟩ := f14 s2 L2 h3 k3 o3 (by omega)
            obtain ⟨f, hf, D2⟩ := f14 q1 sm h3 k3 oA.ints (by omega)
            obtain ⟨m, hm, D3⟩ := f14 q2 (L2.map (· * b)) h3 k3 oB.ints (by rw [List.length_map]; omega)
            rw [ew] at D1 hd
            rw [es] at D2 hf
            rw [ev] at D3 hm
            have hdm : d = m := by
              have := Dist.scale (c := b) (by omega) L2
              rw [Bool.eq_iff_iff, hd, hm, this]
            have hdf : d = true → f = true := fun h => hf.2 ⟨rfl, (hd.1 h).2.sub sb⟩
            subst hdm
            cases d with
            | true =>
              have hf1 := hdf rfl
              subst hf1
              simp (disch := first|(simp only [Nat.reduceBEq,wE];done)|((repeat' (first|assumption|exact mAx _|refine mBx ?_ ?_|exact mCx (by assumption)|refine mDx ?_|refine mEx ?_ ?_ ?_|exact mFx|refine mGx ?_ ?_ ?_|exact mHx|exact mIx _|(simp only [wM,Nat.reduceAdd,Nat.reduceLT,Nat.reduceLeDiff];done)));done)|omega|decide) only [ol, d1, la, d2, callT W1, callT W2, callT D1, callT D2, callT D3, callT (lives_ev _), ↓wA,wB,wL,resOf,Nat.reduceBEq,Int.reduceBEq,Int.reduceBNe,Int.reduceLT,Int.reduceLE,Int.reduceAdd,Int.reduceSub,Int.reduceMul,Int.reduceToNat]
              exact ⟨_, rfl, rfl⟩
            | false =>
              simp (disch := first|(simp only [Nat.reduceBEq,wE];done)|((repeat' (first|assumption|exact mAx _|refine mBx ?_ ?_|exact mCx (by assumption)|refine mDx ?_|refine mEx ?_ ?_ ?_|exact mFx|refine mGx ?_ ?_ ?_|exact mHx|exact mIx _|(simp only [wM,Nat.reduceAdd,Nat.reduceLT,Nat.reduceLeDiff];done)));done)|omega|decide) only [ol, d1, la, d2, callT W1, callT W2, callT D1, callT D2, callT D3, callT (lives_ev _), ↓wA,wB,wL,resOf,Nat.reduceBEq,Int.reduceBEq,Int.reduceBNe,Int.reduceLT,Int.reduceLE,Int.reduceAdd,Int.reduceSub,Int.reduceMul,Int.reduceToNat]
              exact ⟨_, rfl, rfl⟩
  · have t3 : (k2b % 3 == 0) = false := by rw [beq_eq_false_iff_ne]; exact r0

    have gA : Grown h1 (h1.pu []) := Grown.pu Grown.refl rfl
    have gB : Grown h1 ((h1.pu []).pu []) := Grown.pu gA rfl
    have kA := gA.ok k1'
    have OA : Own h1.next ((h1.pu []).pu []).blks .i64 (.sl h1.next 0 0 (some 0) 1) [] := (Own.fresh (Nat.le_refl _) rfl rfl rfl (Nat.le_refl _) : Own h1.next (h1.pu []).blks .i64 (.sl h1.next 0 0 (some 0) 1) []).sub (Sub.pu kA)
    have OB : Own h1.next ((h1.pu []).pu []).blks .i64 (.sl (h1.next + 1) 0 0 (some 0) 1) [] := Own.fresh (Nat.le_succ _) rfl rfl rfl (Nat.le_refl _)
    have AP : Apart ((h1.pu []).pu []).blks (.sl h1.next 0 0 (some 0) 1) (.sl (h1.next + 1) 0 0 (some 0) 1) := by
      have n1 : h1.next ≠ h1.next + 1 := by omega
      intro x hx hy
      have hx : (lkB ((_, _) :: (_, _) :: h1.blks) h1.next).map (·.ch) = some x := hx
      have hy : (lkB ((_, _) :: (_, _) :: h1.blks) (h1.next + 1)).map (·.ch) = some x := hy
      rw [lkB_push n1, lkB_top] at hx
      rw [lkB_top] at hy
      cases hx
      simp at hy
    have ol := o1.len
    simp (disch := first|(simp only [Nat.reduceBEq,wE];done)|((repeat' (first|assumption|exact mAx _|refine mBx ?_ ?_|exact mCx (by assumption)|refine mDx ?_|refine mEx ?_ ?_ ?_|exact mFx|refine mGx ?_ ?_ ?_|exact mHx|exact mIx _|(simp only [wM,Nat.reduceAdd,Nat.reduceLT,Nat.reduceLeDiff];done)));done)|omega|decide) only [sBox_ag, idx?_lit0, idx?_lit1, ix0, ix1, q0, q1, tm2, hg, callT e1, tm3, t3, sBS_0, ↓wA,wB,wL,resOf,Nat.reduceBEq,Int.reduceBEq,Int.reduceBNe,Int.reduceLT,Int.reduceLE,Int.reduceAdd,Int.reduceSub,Int.reduceMul,Int.reduceToNat]
    refine wloop (fun mm ss => ∃ (i : Nat) (q1 q2 : AV) (h3 : Hp) (u2 u5 u6 u13 u14 u15 u16 u17 u18 u30 u38 u45 u77 : AV), (mm = (L1).length - i) ∧ (i ≤ (L1).length ∧ Grown h1 h3 ∧ Own h1.next h3.blks .i64 q1 (smL L1 p i) ∧ Own h1.next h3.blks .i64 q2 ((L1.take i).map (· * b)) ∧ Apart h3.blks q1 q2) ∧ ss = { fr := [(0, x0), (1, .int .u16 p), (2, u2), (5, u5), (6, u6), (7, .int .u8 k2a), (8, .int .u8 k2b), (9, s1), (10, q1), (11, q2), (12, .int .i64 i), (13, u13), (14, u14), (15, u15), (16, u16), (17, u17), (18, u18), (30, u30), (38, u38), (45, u45), (77, u77)], hp := h3 }) ((L1).length) ?_ ?_
    ·
      refine ⟨0, _, _, _, _, _, _, _, _, _, _, _, _, _, _, _, _, by omega, ⟨by omega, gB, OA, by rw [List.take_zero]; exact OB, AP⟩, rfl⟩
    rintro nB sB ⟨i, q1, q2, h3, u2, u5, u6, u13, u14, u15, u16, u17, u18, u30, u38, u45, u77, hnB, ⟨hi, g3, oA, oB, ap⟩, rfl⟩
    have k3 := g3.ok k1'
    have o3 := o1.ints.sub (g3.sub k1')
    have lA : (smL L1 p i).length ≤ i := by have := (smL_sub L1 p i hi).length_le; rw [List.length_take] at this; omega
    have lB : ((L1.take i).map (· * b)).length = i := by rw [List.length_map, List.length_take]; omega
    by_cases ei : i < (L1).length
    · have d1 : decide ((i : Int) < (((L1).length : Nat) : Int)) = true := decide_eq_true (by omega)
      have zb := bdL L1 (.inl ⟨_, hL1⟩) b r1 r2 hb i
      have x1 : sBin .shr .no (.int .u16 (p : Int)) (.int .i64 (i : Int)) = some (.int .u16 ((p / 2 ^ i : Nat) : Int)) := sBin16_shr (by omega)
      have hd : p / 2 ^ i ≤ p := Nat.div_le_self _ _
      have x2 : sBin .and .no (.int .u16 ((p / 2 ^ i : Nat) : Int)) (.int .u16 1) = some (.int .u16 ((p / 2 ^ i % 2 : Nat) : Int)) := sBin16_and1 (by omega)
      have ms := map_suc (b := b) ei
      have ss : smL L1 p (i + 1) = smL L1 p i ++ (if bt p i = true then [(L1).getD i 0] else []) := rfl
      have zz1 : -5000000000 ≤ (L1).getD i 0 * b := zb.2.2.1
      have zz2 : (L1).getD i 0 * b ≤ 5000000000 := zb.2.2.2
      by_cases eb : p / 2 ^ i % 2 = 1
      · have d2 : (((p / 2 ^ i % 2 : Nat) : Int) == 1) = true := by rw [beq_iff_eq]; omega
        have bb : bt p i = true := decide_eq_true eb
        rw [if_pos bb] at ss
        obtain ⟨qa, h4, y1, y2, y3, y4, y5⟩ := own_app1O (v := (L1).getD i 0) k1' g3 oA oB ap (by omega)
        have k4 := y3.ok k1'
        have o4 := o1.ints.sub (y3.sub k1')
        have y4' : Own h1.next h4.blks .i64 q2 ((L1.take i).map (· * b)) := y4
        obtain ⟨qb, h5, w1, w2, w3, w4, w5⟩ := own_app1O (v := (L1).getD i 0 * b) k1' y3 y4' y2 y5.symm (by omega)
        simp (disch := first|(simp only [Nat.reduceBEq,wE];done)|((repeat' (first|assumption|exact mAx _|refine mBx ?_ ?_|exact mCx (by assumption)|refine mDx ?_|refine mEx ?_ ?_ ?_|exact mFx|refine mGx ?_ ?_ ?_|exact mHx|exact mIx _|(simp only [wM,Nat.reduceAdd,Nat.reduceLT,Nat.reduceLeDiff];done)));done)|omega|decide) only [ol, d1, x1, x2, d2, o3.ix, o3.ld, sBS_1, y1, o4.ix, o4.ld, tm5, ← hb, w1, ↓wA,wB,wL,resOf,Nat.reduceBEq,Int.reduceBEq,Int.reduceBNe,Int.reduceLT,Int.reduceLE,Int.reduceAdd,Int.reduceSub,Int.reduceMul,Int.reduceToNat]
        refine ⟨_, ?_, i + 1, _, _, _, _, _, _, _, _, _, _, _, _, _, _, _, _, rfl, ?_, rfl⟩
        · omega
        exact ⟨by omega, w3, by rw [ss]; exact w4, by rw [ms]; exact w2, w5.symm⟩
      · have d2 : (((p / 2 ^ i % 2 : Nat) : Int) == 1) = false := by rw [beq_eq_false_iff_ne]; omega
        have bb : ¬ bt p i = true := fun hh => eb (of_decide_eq_true hh)
        rw [if_neg bb, List.append_nil] at ss
        obtain ⟨qb, h5, w1, w2, w3, w4, w5⟩ := own_app1O (v := (L1).getD i 0 * b) k1' g3 oB oA ap.symm (by omega)
        simp (disch := first|(simp only [Nat.reduceBEq,wE];done)|((repeat' (first|assumption|exact mAx _|refine mBx ?_ ?_|exact mCx (by assumption)|refine mDx ?_|refine mEx ?_ ?_ ?_|exact mFx|refine mGx ?_ ?_ ?_|exact mHx|exact mIx _|(simp only [wM,Nat.reduceAdd,Nat.reduceLT,Nat.reduceLeDiff];done)));done)|omega|decide) only [ol, d1, x1, x2, d2, o3.ix, o3.ld, sBS_1, tm5, ← hb, w1, ↓wA,wB,wL,resOf,Nat.reduceBEq,Int.reduceBEq,Int.reduceBNe,Int.reduceLT,Int.reduceLE,Int.reduceAdd,Int.reduceSub,Int.reduceMul,Int.reduceToNat]
        refine ⟨_, ?_, i + 1, _, _, _, _, _, _, _, _, _, _, _, _, _, _, _, _, rfl, ?_, rfl⟩
        · omega
        exact ⟨by omega, w3, by rw [ss]; exact w4, by rw [ms]; exact w2, w5.symm⟩
    · have d1 : decide ((i : Int) < (((L1).length : Nat) : Int)) = false := decide_eq_false (by omega)
      have en : i = (L1).length := by omega
      rw [en, List.take_of_length_le (Nat.le_refl _)] at oB
      rw [en] at oA lA
      have sb : (smL L1 p (L1).length).Sublist L1 := by have := smL_sub L1 p _ (Nat.le_refl _); rw [List.take_of_length_le (Nat.le_refl _)] at this; exact this
      obtain ⟨sm, hsm⟩ : ∃ sm, sm = smL L1 p (L1).length := ⟨_, rfl⟩
      rw [← hsm] at oA lA sb
      have la := oA.len
      by_cases e0 : sm.length = 0
      · have d2 : ((sm.length : Int) == 0) = true := by rw [beq_iff_eq]; omega
        simp (disch := first|(simp only [Nat.reduceBEq,wE];done)|((repeat' (first|assumption|exact mAx _|refine mBx ?_ ?_|exact mCx (by assumption)|refine mDx ?_|refine mEx ?_ ?_ ?_|exact mFx|refine mGx ?_ ?_ ?_|exact mHx|exact mIx _|(simp only [wM,Nat.reduceAdd,Nat.reduceLT,Nat.reduceLeDiff];done)));done)|omega|decide) only [ol, d1, la, d2, callT (lives_ev _), ↓wA,wB,wL,resOf,Nat.reduceBEq,Int.reduceBEq,Int.reduceBNe,Int.reduceLT,Int.reduceLE,Int.reduceAdd,Int.reduceSub,Int.reduceMul,Int.reduceToNat]
        exact ⟨_, rfl, rfl⟩
      · have d2 : ((sm.length : Int) == 0) = false := by rw [beq_eq_false_iff_ne]; omega
        have W1 := f16 s1 L1 h3 k3 o3 (by omega)
        have W2 := f16 q2 (L1.map (· * b)) h3 k3 oB.ints (by rw [List.length_map]; omega)
        rcases errW_cases L1 0 (Int.le_refl _) with ⟨ew, ew2⟩ | ⟨ew, ew2, ew3⟩ | ⟨ew, ew2, ew3⟩
        · omega
        · rw [ew] at W1
          simp (disch := first|(simp only [Nat.reduceBEq,wE];done)|((repeat' (first|assumption|exact mAx _|refine mBx ?_ ?_|exact mCx (by assumption)|refine mDx ?_|refine mEx ?_ ?_ ?_|exact mFx|refine mGx ?_ ?_ ?_|exact mHx|exact mIx _|(simp only [wM,Nat.reduceAdd,Nat.reduceLT,Nat.reduceLeDiff];done)));done)|omega|decide) only [ol, d1, la, d2, callT W1, callT (lives_ev _), ↓wA,wB,wL,resOf,Nat.reduceBEq,Int.reduceBEq,Int.reduceBNe,Int.reduceLT,Int.reduceLE,Int.reduceAdd,Int.reduceSub,Int.reduceMul,Int.reduceToNat]
          exact ⟨_, rfl, rfl⟩
        · rw [ew] at W1
          rcases errW_cases (L1.map (· * b)) 0 (Int.le_refl _) with ⟨ev, ev2⟩ | ⟨ev, ev2, ev3⟩ | ⟨ev, ev2, ev3⟩
          · rw [List.length_map] at ev2; omega
          · rw [ev] at W2
            simp (disch := first|(simp only [Nat.reduceBEq,wE];done)|((repeat' (first|assumption|exact mAx _|refine mBx ?_ ?_|exact mCx (by assumption)|refine mDx ?_|refine mEx ?_ ?_ ?_|exact mFx|refine mGx ?_ ?_ ?_|exact mHx|exact mIx _|(simp only [wM,Nat.reduceAdd,Nat.reduceLT,Nat.reduceLeDiff];done)));done)|omega|decide) only [ol, d1, la, d2, callT W1, callT W2, callT (lives_ev _), ↓wA,wB,wL,resOf,Nat.reduceBEq,Int.reduceBEq,Int.reduceBNe,Int.reduceLT,Int.reduceLE,Int.reduceAdd,Int.reduceSub,Int.reduceMul,Int.reduceToNat]
            exact ⟨_, rfl, rfl⟩
          · rw [ev] at W2
            have wfs : WF sm := ⟨ew3.1.sub sb, by omega⟩
            have es := errW_zero wfs (by omega)
            obtain ⟨d, hd, D1⟩ := f14 s1 L1 h3 k3 o3 (by omega)
            obtain ⟨f, hf, D2⟩ := f14 q1 sm h3 k3 oA.ints (by omega)
            obtain ⟨m, hm, D3⟩ := f14 q2 (L1.map (· * b)) h3 k3 oB.ints (by rw [List.length_map]; omega)
            rw [ew] at D1 hd
            rw [es] at D2 hf
            rw [ev] at D3 hm
            have hdm : d = m := by
              have := Dist.scale (c := b) (by omega) L1
              rw [Bool.eq_iff_iff, hd, hm, this]
            have hdf : d = true → f = true := fun h => hf.2 ⟨rfl, (hd.1 h).2.sub sb⟩
            subst hdm
            cases d with
            | true =>
              have hf1 := hdf rfl
              subst hf1
              simp (disch := first|(simp only [Nat.reduceBEq,wE];done)|((repeat' (first|assumption|exact mAx _|refine mBx ?_ ?_|exact mCx (by assumption)|refine mDx ?_|refine mEx ?_ ?_ ?_|exact mFx|refine mGx ?_ ?_ ?_|exact mHx|exact mIx _|(simp only [wM,Nat.reduceAdd,Nat.reduceLT,Nat.reduceLeDiff];done)));done)|omega|decide) only [ol, d1, la, d2, callT W1, callT W2, callT D1, callT D2, callT D3, callT (lives_ev _), ↓wA,wB,wL,resOf,Nat.reduceBEq,Int.reduceBEq,Int.reduceBNe,Int.reduceLT,Int.reduceLE,Int.reduceAdd,Int.reduceSub,Int.reduceMul,Int.reduceToNat]
              exact ⟨_, rfl, rfl⟩
            | false =>
              simp (disch := first|(simp only [Nat.reduceBEq,wE];done)|((repeat' (first|assumption|exact mAx _|refine mBx ?_ ?_|exact mCx (by assumption)|refine mDx ?_|refine mEx ?_ ?_ ?_|exact mFx|refine mGx ?_ ?_ ?_|exact mHx|exact mIx _|(simp only [wM,Nat.reduceAdd,Nat.reduceLT,Nat.reduceLeDiff];done)));done)|omega|decide) only [ol, d1, la, d2, callT W1, callT W2, callT D1, callT D2, callT D3, callT (lives_ev _), ↓wA,wB,wL,resOf,Nat.reduceBEq,Int.reduceBEq,Int.reduceBNe,Int.reduceLT,Int.reduceLE,Int.reduceAdd,Int.reduceSub,Int.reduceMul,Int.reduceToNat]
              exact ⟨_, rfl, rfl⟩
end Go.Proofs.YtelalpohbodolaaDoor
