/- The reference's Pans. -/
import Derived.Test.YtelalpohbodolaaDoorMJ
set_option linter.unusedSimpArgs false
set_option linter.unusedVariables false
set_option maxHeartbeats 4000000
set_option maxRecDepth 20000
namespace Go.Abs
theorem Ints.leave {h h1 : Hp} {k : IntKind} {a : AV} {zs : List Int} (g : Grown h h1) (I : Ints h1.blks k a zs) : (refOK h.next a = true → Ints h.blks k a zs) ∧ (refOK h.next a = false → Ints h1.blks k a zs) := by
  refine ⟨fun r => ?_, fun _ => I⟩
  obtain ⟨hl, H | ⟨id, off, cap, rfl, hcap, hc⟩⟩ := I
  · exact ⟨hl, .inl H⟩
  · simp only [refOK, Nat.blt_eq] at r
    refine ⟨hl, .inr ⟨id, off, cap, rfl, hcap, fun j hj => ?_⟩⟩
    have := hc j hj
    simp only [cellB, GrownR.lkB g r] at this
    exact this
theorem ints_nn {bs : List (Nat × Blk)} {k : IntKind} {a : AV} {zs : List Int} (I : Ints bs k a zs) (n : a ≠ .nilsl) : sBin .neq .slice a .nilsl = some (.bool true) := by
  obtain ⟨hl, ⟨h1, rfl | rfl⟩ | ⟨id, off, cap, rfl, _⟩⟩ := I
  · exact absurd rfl n
  · rfl
  · rfl
end Go.Abs
namespace Go.Wg
def sgS (zs : List Int) (j : Nat) : Nat → Int
  | 0 => 0
  | c + 1 => sgS zs j c + zs.getD (j + c) 0
theorem getD_bd {zs : List Int} (hb : ∀ z ∈ zs, 0 ≤ z ∧ z ≤ 100000) (i : Nat) : 0 ≤ zs.getD i 0 ∧ zs.getD i 0 ≤ 100000 := by
  rw [List.getD_eq_getElem?_getD]
  rcases Nat.lt_or_ge i zs.length with hi | hi
  · rw [List.getElem?_eq_getElem hi, Option.getD_some]; exact hb _ (List.getElem_mem hi)
  · rw [List.getElem?_eq_none hi, Option.getD_none]; omega
theorem sgS_bd {zs : List Int} (hb : ∀ z ∈ zs, 0 ≤ z ∧ z ≤ 100000) (j : Nat) : ∀ c, 0 ≤ sgS zs j c ∧ sgS zs j c ≤ 100000 * c
  | 0 => by simp [sgS]
  | c + 1 => by
    have ih := sgS_bd hb j c
    have := getD_bd hb (j + c)
    rw [sgS]
    omega
theorem sgS_take {zs : List Int} {j : Nat} : ∀ c, j + c ≤ zs.length → sgS zs j c = ((zs.drop j).take c).sum
  | 0, _ => by simp [sgS]
  | c + 1, h => by
    rw [sgS, sgS_take c (by omega), List.take_succ_eq_append_getElem (by rw [List.length_drop]; omega), List.sum_append, List.getElem_drop, List.getD_eq_getElem?_getD, List.getElem?_eq_getElem (by omega)]
    simp
end Go.Wg
namespace Go.Proofs.YtelalpohbodolaaDoor
open Go Go.Abs Go.Wg

theorem f24 (a : AV) (zs : List Int) (hz : zs.length ≤ 9) (hb : ∀ z ∈ zs, 0 ≤ z ∧ z ≤ 100000) : ∀ (m : Nat) (t : Int) (p : AV) (ps : List Int) (h : Hp), ps.length + m = zs.length → Hok h → Ints h.blks .i64 a zs → Ints h.blks .i64 p ps → p ≠ .nilsl →
    ∃ v h', Evals Tryd.prog tab false (.func 24) [a, .int .i64 t, p] h (v, h') ∧ Grown h h' ∧ ((fP (zs.drop ps.length) t = none ∧ v = .nilsl) ∨ ∃ l, fP (zs.drop ps.length) t = some l ∧ Ints h'.blks .i64 v (ps ++ l) ∧ v ≠ .nilsl) := by
  intro m
  induction m using Nat.strongRecOn with
  | ind m IH =>
  intro t p ps h hm hk ha ip np
  refine evals_q c24 (fun v h' => (fP (zs.drop ps.length) t = none ∧ v = .nilsl) ∨ ∃ l, fP (zs.drop ps.length) t = some l ∧ Ints h'.blks .i64 v (ps ++ l) ∧ v ≠ .nilsl) rfl hk ?_ (fun v h1 g q => by
    rcases q with q | ⟨l, q1, q2, q3⟩
    · exact ⟨fun _ => .inl q, fun _ => .inl q⟩
    · exact ⟨fun hr => .inr ⟨l, q1, (Ints.leave g q2).1 hr, q3⟩, fun hr => .inr ⟨l, q1, (Ints.leave g q2).2 hr, q3⟩⟩)
  simp only [sf24, initS_cons, initS_nil]
  have pl := ip.len
  simp (disch := first|(simp only [Nat.reduceBEq,wE];done)|((repeat' (first|assumption|exact mAx _|refine mBx ?_ ?_|exact mCx (by assumption)|refine mDx ?_|refine mEx ?_ ?_ ?_|exact mFx|refine mGx ?_ ?_ ?_|exact mHx|exact mIx _|(simp only [wM,Nat.reduceAdd,Nat.reduceLT,Nat.reduceLeDiff];done)));done)|omega|decide) only [pl, ↓wA,wB,wL,resOf,Nat.reduceBEq,Int.reduceBEq,Int.reduceBNe,Int.reduceLT,Int.reduceLE,Int.reduceAdd,Int.reduceSub,Int.reduceMul,Int.reduceToNat]
  refine wloop (fun mm ss => ∃ (c : Nat) (u6 u9 u10 u16 u33 u38 u41 u62 : AV), (mm = m - c) ∧ (c ≤ m) ∧ ss = { fr := [(0, a), (1, .int .i64 t), (2, p), (6, u6), (7, .int .i64 (sgS zs ps.length c)), (8, .int .i64 (ps.length + c : Nat)), (9, u9), (10, u10), (16, u16), (33, u33), (38, u38), (41, u41), (62, u62)], hp := h.en }) (m) ?_ ?_
  ·
    refine ⟨0, _, _, _, _, _, _, _, _, by omega, (by omega : 0 ≤ m), rfl⟩
  rintro nA sA ⟨c, u6, u9, u10, u16, u33, u38, u41, u62, hnA, hc, rfl⟩
  have sb := sgS_bd hb ps.length c
  by_cases e1 : c < m
  · have d1 : decide (((ps.length + c : Nat) : Int) < (zs.length : Int)) = true := decide_eq_true (by omega)
    have sb' := sgS_bd hb ps.length (c + 1)
    have es : sgS zs ps.length c + zs.getD (ps.length + c) 0 = sgS zs ps.length (c + 1) := rfl
    have x1 := ha.ix (i := ps.length + c) h.en (by omega)
    have x2 := ha.ld (Sub.refl _) (i := ps.length + c) (by omega)
    simp (disch := first|(simp only [Nat.reduceBEq,wE];done)|((repeat' (first|assumption|exact mAx _|refine mBx ?_ ?_|exact mCx (by assumption)|refine mDx ?_|refine mEx ?_ ?_ ?_|exact mFx|refine mGx ?_ ?_ ?_|exact mHx|exact mIx _|(simp only [wM,Nat.reduceAdd,Nat.reduceLT,Nat.reduceLeDiff];done)));done)|omega|decide) only [ha.len, d1, x1, x2, es, ↓wA,wB,wL,resOf,Nat.reduceBEq,Int.reduceBEq,Int.reduceBNe,Int.reduceLT,Int.reduceLE,Int.reduceAdd,Int.reduceSub,Int.reduceMul,Int.reduceToNat]
    refine ⟨_, ?_, c + 1, _, _, _, _, _, _, _, _, rfl, ?_, rfl⟩
    · omega
    omega
  · have d1 : decide (((ps.length + c : Nat) : Int) < (zs.length : Int)) = false := decide_eq_false (by omega)
    have ec : c = m := by omega
    subst ec
    have st := sgS_take (zs := zs) (j := ps.length) c (by omega)
    rw [List.take_of_length_le (by rw [List.length_drop]; omega)] at st
    obtain ⟨S, hS⟩ : ∃ S, S = sgS zs ps.length c := ⟨_, rfl⟩
    rw [← hS] at sb st ⊢
    have hdb : ∀ z ∈ zs.drop ps.length, 0 ≤ z := fun z hz => (hb z (List.mem_of_mem_drop hz)).1
    by_cases o1 : S < t
    · have d2 : decide (t > S) = true := decide_eq_true (by omega)
      have fo := fP_out (t := t) hdb (.inl (by omega))
      simp (disch := first|(simp only [Nat.reduceBEq,wE];done)|((repeat' (first|assumption|exact mAx _|refine mBx ?_ ?_|exact mCx (by assumption)|refine mDx ?_|refine mEx ?_ ?_ ?_|exact mFx|refine mGx ?_ ?_ ?_|exact mHx|exact mIx _|(simp only [wM,Nat.reduceAdd,Nat.reduceLT,Nat.reduceLeDiff];done)));done)|omega|decide) only [ha.len, d1, d2, ↓wA,wB,wL,resOf,Nat.reduceBEq,Int.reduceBEq,Int.reduceBNe,Int.reduceLT,Int.reduceLE,Int.reduceAdd,Int.reduceSub,Int.reduceMul,Int.reduceToNat]
      exact ⟨_, rfl, Grown.en, .inl ⟨fo, rfl⟩⟩
    · have d2 : decide (t > S) = false := decide_eq_false (by omega)
      by_cases o2 : t < -S
      · have d3 : decide (t < 0 - S) = true := decide_eq_true (by omega)
        have fo := fP_out (t := t) hdb (.inr (by omega))
        simp (disch := first|(simp only [Nat.reduceBEq,wE];done)|((repeat' (first|assumption|exact mAx _|refine mBx ?_ ?_|exact mCx (by assumption)|refine mDx ?_|refine mEx ?_ ?_ ?_|exact mFx|refine mGx ?_ ?_ ?_|exact mHx|exact mIx _|(simp only [wM,Nat.reduceAdd,Nat.reduceLT,Nat.reduceLeDiff];done)));done)|omega|decide) only [ha.len, d1, d2, d3, ↓wA,wB,wL,resOf,Nat.reduceBEq,Int.reduceBEq,Int.reduceBNe,Int.reduceLT,Int.reduceLE,Int.reduceAdd,Int.reduceSub,Int.reduceMul,Int.reduceToNat]
        exact ⟨_, rfl, Grown.en, .inl ⟨fo, rfl⟩⟩
      · have d3 : decide (t < 0 - S) = false := decide_eq_false (by omega)
        by_cases e2 : c = 0
        · subst e2
          have d4 : ((ps.length : Int) == (zs.length : Int)) = true := by rw [beq_iff_eq]; omega
          have dn : zs.drop ps.length = [] := List.drop_eq_nil_of_le (by omega)
          have t0 : t = 0 := by rw [dn] at st; simp at st; omega
          simp (disch := first|(simp only [Nat.reduceBEq,wE];done)|((repeat' (first|assumption|exact mAx _|refine mBx ?_ ?_|exact mCx (by assumption)|refine mDx ?_|refine mEx ?_ ?_ ?_|exact mFx|refine mGx ?_ ?_ ?_|exact mHx|exact mIx _|(simp only [wM,Nat.reduceAdd,Nat.reduceLT,Nat.reduceLeDiff];done)));done)|omega|decide) only [ha.len, d1, d2, d3, pl, d4, ↓wA,wB,wL,resOf,Nat.reduceBEq,Int.reduceBEq,Int.reduceBNe,Int.reduceLT,Int.reduceLE,Int.reduceAdd,Int.reduceSub,Int.reduceMul,Int.reduceToNat]
          refine ⟨_, rfl, Grown.en, .inr ⟨[], by rw [dn, fP, if_pos t0], by rw [List.append_nil]; exact ip, np⟩⟩
        · have d4 : ((ps.length : Int) == (zs.length : Int)) = false := by rw [beq_eq_false_iff_ne]; omega
          have dc : zs.drop ps.length = zs.getD ps.length 0 :: zs.drop (ps.length + 1) := by
            rw [List.drop_eq_getElem_cons (by omega), List.getD_eq_getElem?_getD, List.getElem?_eq_getElem (by omega), Option.getD_some]
          have zb := getD_bd hb ps.length
          obtain ⟨z, hzz⟩ : ∃ z, z = zs.getD ps.length 0 := ⟨_, rfl⟩
          rw [← hzz] at dc zb
          simp (disch := first|(simp only [Nat.reduceBEq,wE];done)|((repeat' (first|assumption|exact mAx _|refine mBx ?_ ?_|exact mCx (by assumption)|refine mDx ?_|refine mEx ?_ ?_ ?_|exact mFx|refine mGx ?_ ?_ ?_|exact mHx|exact mIx _|(simp only [wM,Nat.reduceAdd,Nat.reduceLT,Nat.reduceLeDiff];done)));done)|omega|decide) only [ha.len, d1, d2, d3, pl, d4, ↓wA,wB,wL,resOf,Nat.reduceBEq,Int.reduceBEq,Int.reduceBNe,Int.reduceLT,Int.reduceLE,Int.reduceAdd,Int.reduceSub,Int.reduceMul,Int.reduceToNat]
          refine wloop (fun mm ss => ∃ (j : Nat) (h3 : Hp) (u6 u7 u8 u10 u16 u33 u38 u41 u62 : AV), (mm = 3 - j) ∧ (j ≤ 3 ∧ Grown h h3 ∧ ∀ i : Nat, i < j → fP (zs.drop (ps.length + 1)) (t - (1 - (i : Int)) * z) = none) ∧ ss = { fr := [(0, a), (1, .int .i64 t), (2, p), (6, u6), (7, u7), (8, u8), (9, .int .i64 (1 - (j : Int))), (10, u10), (16, u16), (33, u33), (38, u38), (41, u41), (62, u62)], hp := h3 }) (3) ?_ ?_
          ·
            refine ⟨0, _, _, _, _, _, _, _, _, _, _, by omega, ⟨by omega, Grown.en, fun i hi => by omega⟩, rfl⟩
          rintro nB sB ⟨j, h3, u6, u7, u8, u10, u16, u33, u38, u41, u62, hnB, ⟨hj, g3, hf⟩, rfl⟩
          have k3 := g3.ok hk
          have s3 := g3.sub hk
          by_cases e3 : j < 3
          · have d5 : decide ((1 : Int) - (j : Int) ≥ -1) = true := decide_eq_true (by omega)
            have j3 : j = 0 ∨ j = 1 ∨ j = 2 := by omega
            have mb : -100000 ≤ (1 - (j : Int)) * z ∧ (1 - (j : Int)) * z ≤ 100000 := mul3 (by omega) zb
            have gA : Grown h3 (h3.pu []) := Grown.pu Grown.refl rfl
            have OA : Own h3.next (h3.pu []).blks .i64 (.sl h3.next 0 0 (some 0) 1) [] := Own.fresh (Nat.le_refl _) rfl rfl rfl (Nat.le_refl _)
            have sA : Sub h3.blks (h3.pu []).blks := Sub.pu k3
            obtain ⟨qB, hB, eB, oB, gB, nB⟩ := own_appI (x := p) k3 gA OA ((ip.sub s3).sub sA) (by simp only [List.length_nil]; omega)
            rw [List.nil_append] at oB
            obtain ⟨qC, hC, eC, oC, gC, nC⟩ := own_app1 (v := (1 - (j : Int))) k3 gB oB (by omega)
            have kC := gC.ok k3
            have sB := s3.trans (gB.sub k3)
            have sB' : Sub h.blks ((hB.next, { cells := Abs.ints .i64 [(1 - (j : Int))], ch := hB.next, wr := true }) :: hB.blks) := sB.trans (Sub.push (Sub.refl _) (HokR.fresh (gB.ok k3)))
            have sC := s3.trans (gC.sub k3)
            obtain ⟨v, hD, eD, gD, q⟩ := IH (c - 1) (by omega) (t - (1 - (j : Int)) * z) qC (ps ++ [(1 - (j : Int))]) hC (by rw [List.length_append, List.length_singleton]; omega) kC (ha.sub sC) oC.ints nC
            have sD := sC.trans (gD.sub kC)
            have g3D := GrownR.trans g3 (GrownR.trans gC gD)
            rw [List.length_append, List.length_singleton] at q
            replace eB : sApp true 1 { next := h3.next + 1, blks := (h3.next, { cells := [], ch := h3.next, wr := true }) :: h3.blks, loops := h3.loops, base := h3.base, esc := h3.esc } (.sl h3.next 0 0 (some 0) 1) p = some (qB, hB) := eB
            have sA' : Sub h.blks ((h3.next, { cells := [], ch := h3.next, wr := true }) :: h3.blks) := s3.trans sA
            have hx : zs.getD ps.length 0 = z := hzz.symm
            rcases q with ⟨q1, rfl⟩ | ⟨l, q1, q2, q3⟩
            · have nn : sBin .neq .slice .nilsl .nilsl = some (.bool false) := rfl
              have ej1 : (1 : Int) - (j : Int) - 1 = 1 - ((j + 1 : Nat) : Int) := by omega
              simp (disch := first|(simp only [Nat.reduceBEq,wE];done)|((repeat' (first|assumption|exact mAx _|refine mBx ?_ ?_|exact mCx (by assumption)|refine mDx ?_|refine mEx ?_ ?_ ?_|exact mFx|refine mGx ?_ ?_ ?_|exact mHx|exact mIx _|(simp only [wM,Nat.reduceAdd,Nat.reduceLT,Nat.reduceLeDiff];done)));done)|omega|decide) only [d5, ha.len, pl, ha.ix, ha.ld, hx, sBS_0, eB, sBS_1, eC, callT eD, nn, ej1, ↓wA,wB,wL,resOf,Nat.reduceBEq,Int.reduceBEq,Int.reduceBNe,Int.reduceLT,Int.reduceLE,Int.reduceAdd,Int.reduceSub,Int.reduceMul,Int.reduceToNat]
              refine ⟨_, ?_, j + 1, _, _, _, _, _, _, _, _, _, _, rfl, ?_, rfl⟩
              · omega
              refine ⟨by omega, g3D, fun i hi => ?_⟩
              rcases Nat.lt_or_ge i j with h1 | h1
              · exact hf i h1
              · rw [show i = j by omega]; exact q1
            · have nn := ints_nn q2 q3
              simp (disch := first|(simp only [Nat.reduceBEq,wE];done)|((repeat' (first|assumption|exact mAx _|refine mBx ?_ ?_|exact mCx (by assumption)|refine mDx ?_|refine mEx ?_ ?_ ?_|exact mFx|refine mGx ?_ ?_ ?_|exact mHx|exact mIx _|(simp only [wM,Nat.reduceAdd,Nat.reduceLT,Nat.reduceLeDiff];done)));done)|omega|decide) only [d5, ha.len, pl, ha.ix, ha.ld, hx, sBS_0, eB, sBS_1, eC, callT eD, nn, ↓wA,wB,wL,resOf,Nat.reduceBEq,Int.reduceBEq,Int.reduceBNe,Int.reduceLT,Int.reduceLE,Int.reduceAdd,Int.reduceSub,Int.reduceMul,Int.reduceToNat]
              refine ⟨_, rfl, g3D, .inr ⟨(1 - (j : Int)) :: l, by rw [dc]; exact fP_hit e3 hf q1, ?_, q3⟩⟩
              rw [List.append_assoc] at q2
              exact q2
          · have d5 : decide ((1 : Int) - (j : Int) ≥ -1) = false := decide_eq_false (by omega)
            have ej : j = 3 := by omega
            subst ej
            simp (disch := first|(simp only [Nat.reduceBEq,wE];done)|((repeat' (first|assumption|exact mAx _|refine mBx ?_ ?_|exact mCx (by assumption)|refine mDx ?_|refine mEx ?_ ?_ ?_|exact mFx|refine mGx ?_ ?_ ?_|exact mHx|exact mIx _|(simp only [wM,Nat.reduceAdd,Nat.reduceLT,Nat.reduceLeDiff];done)));done)|omega|decide) only [d5, ↓wA,wB,wL,resOf,Nat.reduceBEq,Int.reduceBEq,Int.reduceBNe,Int.reduceLT,Int.reduceLE,Int.reduceAdd,Int.reduceSub,Int.reduceMul,Int.reduceToNat]
            exact ⟨_, rfl, g3, .inl ⟨by rw [dc]; exact fP_miss hf, rfl⟩⟩
end Go.Proofs.YtelalpohbodolaaDoor
