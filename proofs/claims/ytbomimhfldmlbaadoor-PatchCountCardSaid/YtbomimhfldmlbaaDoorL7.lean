/- PatchLawrie: how many permutations omega networks pass. -/
import Derived.Test.YtbomimhfldmlbaaDoorPM
import Derived.Test.YtbomimhfldmlbaaDoorKJ
import Derived.Test.YtbomimhfldmlbaaDoorFPatchLawrie
set_option linter.unusedSimpArgs false
set_option linter.unusedVariables false
set_option maxHeartbeats 4000000
set_option maxRecDepth 20000
namespace Go.Abs
theorem wrap_u8 {n : Int} (h1 : 0 ≤ n) (h2 : n ≤ 255) : IntKind.wrap .u8 n = n := by
  simp only [IntKind.wrap, IntKind.bits, IntKind.signed]
  simp
  omega
end Go.Abs
namespace Go.Pa
open Go Go.Abs
def fct : Nat → Nat
  | 0 => 1
  | n + 1 => (n + 1) * fct n
theorem fct_le : ∀ n, n < 9 → fct n ≤ 40320 := by decide
theorem omp_q {k : Nat} {l : List Nat} (hl : l.length = 2 ^ k) : OmP k (ofN l) ↔ omq k l = true := by
  rw [omq_iff, hl]
  have : ∀ j, lnz k j (ofN l) = fun s => lin k j s (l.getD s 0) := fun j => by
    funext s
    simp only [lnz, pnt, ofN_at, Int.toNat_natCast]
  unfold OmP
  simp only [this]
theorem cnt_le {k : Nat} : ∀ p, cnt k p ≤ p
  | 0 => Nat.le_refl _
  | p + 1 => by have := cnt_le (k := k) p; rw [cnt]; split <;> omega
theorem cnt_fin {k : Nat} (h : 1 ≤ k ∧ k ≤ 3) : cnt k (fct (2 ^ k)) = 2 ^ (k * 2 ^ (k - 1)) := by
  have : k = 1 ∨ k = 2 ∨ k = 3 := by omega
  rcases this with rfl | rfl | rfl
  · rw [show fct (2 ^ 1) = 2 by decide, omc1]
  · rw [show fct (2 ^ 2) = 24 by decide, omc2]
  · rw [show fct (2 ^ 3) = 40320 by decide, oma15]
theorem id_perm {n : Nat} : PermI n (ofN (List.range n)) := by
  refine ⟨by rw [ofN_len, List.length_range], fun z hz => ?_, ?_⟩
  · obtain ⟨x, hx, rfl⟩ := List.mem_map.1 hz
    have := List.mem_range.1 hx
    omega
  · unfold ofN
    rw [List.Nodup, List.pairwise_map]
    exact List.Pairwise.imp (fun h e => h (by omega)) List.nodup_range
theorem id_om {k : Nat} (h : 1 ≤ k ∧ k ≤ 3) : OmP k (ofN (List.range (2 ^ k))) := by
  rw [omp_q (by simp)]
  have : k = 1 ∨ k = 2 ∨ k = 3 := by omega
  rcases this with rfl | rfl | rfl <;> decide
theorem rst_le {p : Nat} : ∀ i, rst p i ≤ p
  | 0 => Nat.le_refl _
  | i + 1 => Nat.le_trans (Nat.div_le_self _ _) (rst_le i)
end Go.Pa
namespace Go.Proofs.YtbomimhfldmlbaaDoor
open Go Go.Abs Go.Pa

theorem f13 (x : Int) (h : Hp) (hk : Hok h) (bx : 0 ≤ x ∧ x ≤ 255) :
    ∃ h', Evals Tryd.prog tab false (.func 13) [.int .u8 x] h (.bool true, h') := by
  obtain ⟨x, rfl⟩ : ∃ t : Nat, x = t := ⟨x.toNat, by omega⟩
  suffices H : ∃ v h', Evals Tryd.prog tab false (.func 13) [.int .u8 x] h (v, h') ∧ v = .bool true by
    obtain ⟨v, h', e, rfl⟩ := H
    exact ⟨h', e⟩
  refine evals_func (Q := fun v _ => v = .bool true) c13 rfl ?_
  simp only [sf13, initS_cons, initS_nil]
  have w0 : IntKind.wrap .i64 (x : Int) = x := wrap_i64 (by omega) (by omega)
  obtain ⟨k, ek⟩ : ∃ k, k = x % 3 + 1 := ⟨_, rfl⟩
  have ek' : (x : Int) % 3 + 1 = (k : Int) := by omega
  have hk3 : 1 ≤ k ∧ k ≤ 3 := by omega
  have p8 := pow8 hk3.2
  have r0 : sBin .rem .no (.int .i64 (x : Int)) (.int .i64 3) = some (.int .i64 ((x : Int) % 3)) := sBin_rem (by omega) (by omega)
  have sw := sBin_shl1 (j := k) (by omega)
  obtain ⟨w, ew⟩ : ∃ w, w = 2 ^ k := ⟨_, rfl⟩
  rw [← ew] at sw p8
  have w2 : 2 ≤ w := by
    rw [ew]
    have : 2 ^ 1 ≤ 2 ^ k := Nat.pow_le_pow_right (by omega) hk3.1
    exact this
  simp (disch := first|(simp only [Nat.reduceBEq,wE];done)|((repeat' (first|assumption|exact mAx _|refine mBx ?_ ?_|exact mCx (by assumption)|refine mDx ?_|refine mEx ?_ ?_ ?_|exact mFx|refine mGx ?_ ?_ ?_|exact mHx|exact mIx _|(simp only [wM,Nat.reduceAdd,Nat.reduceLT,Nat.reduceLeDiff];done)));done)|omega|decide) only [w0, r0, ek', ↓wA,wB,wL,resOf,Nat.reduceBEq,Int.reduceBEq,Int.reduceBNe,Int.reduceLT,Int.reduceLE,Int.reduceAdd,Int.reduceSub,Int.reduceMul,Int.reduceToNat]
  refine wloop (fun mm ss => ∃ (i n : Nat) (u0 u2 u7 u8 u9 u10 u11 u12 u13 u14 u15 u16 u24 u32 u40 u65 u66 u73 : AV), (mm = w + 1 - i) ∧ (2 ≤ i ∧ i ≤ w + 1 ∧ n = fct (i - 1)) ∧ ss = { fr := [(0, u0), (2, u2), (3, .int .i64 k), (4, .int .i64 0), (5, .int .i64 n), (6, .int .i64 i), (7, u7), (8, u8), (9, u9), (10, u10), (11, u11), (12, u12), (13, u13), (14, u14), (15, u15), (16, u16), (24, u24), (32, u32), (40, u40), (65, u65), (66, u66), (73, u73)], hp := h.en }) (w - 1) ?_ ?_
  ·
    refine ⟨2, 1, _, _, _, _, _, _, _, _, _, _, _, _, _, _, _, _, _, _, by omega, ⟨by omega, by omega, by decide⟩, rfl⟩
  rintro nA sA ⟨i, n, u0, u2, u7, u8, u9, u10, u11, u12, u13, u14, u15, u16, u24, u32, u40, u65, u66, u73, hnA, ⟨hi2, hi, hn⟩, rfl⟩
  simp (disch := first|(simp only [Nat.reduceBEq,wE];done)|((repeat' (first|assumption|exact mAx _|refine mBx ?_ ?_|exact mCx (by assumption)|refine mDx ?_|refine mEx ?_ ?_ ?_|exact mFx|refine mGx ?_ ?_ ?_|exact mHx|exact mIx _|(simp only [wM,Nat.reduceAdd,Nat.reduceLT,Nat.reduceLeDiff];done)));done)|omega|decide) only [sw, ↓wA,wB,wL,resOf,Nat.reduceBEq,Int.reduceBEq,Int.reduceBNe,Int.reduceLT,Int.reduceLE,Int.reduceAdd,Int.reduceSub,Int.reduceMul,Int.reduceToNat]
  refine ifThen_intro (fun e => ?_) (fun e => ?_) <;> have eq := e <;> try simp [-List.getD_eq_getElem?_getD] at eq
  · have fi : fct i = i * fct (i - 1) := by
      obtain ⟨j, rfl⟩ : ∃ j, i = j + 1 := ⟨i - 1, by omega⟩
      rfl
    have fl := fct_le i (by omega)
    have m1 : sBin .mul .no (.int .i64 (n : Int)) (.int .i64 (i : Int)) = some (.int .i64 ((fct i : Nat) : Int)) := by
      have em : (n : Int) * (i : Int) = ((fct i : Nat) : Int) := by rw [fi, hn, Nat.mul_comm]; simp
      have : sBin .mul .no (.int .i64 (n : Int)) (.int .i64 (i : Int)) = some (.int .i64 (IntKind.wrap .i64 ((n : Int) * (i : Int)))) := (Eq.refl _).trans rfl
      rw [this, em, wrap_i64 (by omega) (by omega)]
    have em : (n : Int) * (i : Int) = ((fct i : Nat) : Int) := by rw [fi, hn, Nat.mul_comm]; simp
    simp (disch := first|(simp only [Nat.reduceBEq,wE];done)|((repeat' (first|assumption|exact mAx _|refine mBx ?_ ?_|exact mCx (by assumption)|refine mDx ?_|refine mEx ?_ ?_ ?_|exact mFx|refine mGx ?_ ?_ ?_|exact mHx|exact mIx _|(simp only [wM,Nat.reduceAdd,Nat.reduceLT,Nat.reduceLeDiff];done)));done)|omega|decide) only [e, m1, em, ↓wA,wB,wL,resOf,Nat.reduceBEq,Int.reduceBEq,Int.reduceBNe,Int.reduceLT,Int.reduceLE,Int.reduceAdd,Int.reduceSub,Int.reduceMul,Int.reduceToNat]
    refine ⟨_, ?_, i + 1, fct i, _, _, _, _, _, _, _, _, _, _, _, _, _, _, _, _, _, _, rfl, ?_, rfl⟩
    · omega
    exact ⟨by omega, by omega, rfl⟩
  · have ei : i = w + 1 := by omega
    rw [ei, Nat.add_sub_cancel] at hn
    have nl : n ≤ 40320 := by rw [hn]; exact fct_le w (by omega)
    simp (disch := first|(simp only [Nat.reduceBEq,wE];done)|((repeat' (first|assumption|exact mAx _|refine mBx ?_ ?_|exact mCx (by assumption)|refine mDx ?_|refine mEx ?_ ?_ ?_|exact mFx|refine mGx ?_ ?_ ?_|exact mHx|exact mIx _|(simp only [wM,Nat.reduceAdd,Nat.reduceLT,Nat.reduceLeDiff];done)));done)|omega|decide) only [e, ↓wA,wB,wL,resOf,Nat.reduceBEq,Int.reduceBEq,Int.reduceBNe,Int.reduceLT,Int.reduceLE,Int.reduceAdd,Int.reduceSub,Int.reduceMul,Int.reduceToNat]
    refine wloop (fun mm ss => ∃ (p c : Nat) (h1 : Hp) (u0 u2 u6 u8 u9 u10 u11 u12 u13 u14 u15 u16 u24 u32 u40 u65 u66 u73 : AV), (mm = n - p) ∧ (p ≤ n ∧ Grown h h1 ∧ c = cnt k p) ∧ ss = { fr := [(0, u0), (2, u2), (3, .int .i64 k), (4, .int .i64 c), (5, .int .i64 n), (6, u6), (7, .int .i64 p), (8, u8), (9, u9), (10, u10), (11, u11), (12, u12), (13, u13), (14, u14), (15, u15), (16, u16), (24, u24), (32, u32), (40, u40), (65, u65), (66, u66), (73, u73)], hp := h1 }) (n) ?_ ?_
    ·
      refine ⟨0, 0, h.en, _, _, _, _, _, _, _, _, _, _, _, _, _, _, _, _, _, _, by omega, ⟨by omega, Grown.en, rfl⟩, rfl⟩
    rintro nB sB ⟨p, c, h1, u0, u2, u6, u8, u9, u10, u11, u12, u13, u14, u15, u16, u24, u32, u40, u65, u66, u73, hnB, ⟨hp, g1, hc⟩, rfl⟩
    have k1 := g1.ok hk
    simp (disch := first|(simp only [Nat.reduceBEq,wE];done)|((repeat' (first|assumption|exact mAx _|refine mBx ?_ ?_|exact mCx (by assumption)|refine mDx ?_|refine mEx ?_ ?_ ?_|exact mFx|refine mGx ?_ ?_ ?_|exact mHx|exact mIx _|(simp only [wM,Nat.reduceAdd,Nat.reduceLT,Nat.reduceLeDiff];done)));done)|omega|decide) only [e, ↓wA,wB,wL,resOf,Nat.reduceBEq,Int.reduceBEq,Int.reduceBNe,Int.reduceLT,Int.reduceLE,Int.reduceAdd,Int.reduceSub,Int.reduceMul,Int.reduceToNat]
    refine ifThen_intro (fun e2 => ?_) (fun e2 => ?_) <;> have e2q := e2 <;> try simp [-List.getD_eq_getElem?_getD] at e2q
    · have cl := cnt_le (k := k) p
      have O : Own h1.next (h1.pu []).blks .u8 (.sl h1.next 0 0 (some 0) 1) (ofN (dgts p 0)) := Own.fresh (Nat.le_refl _) rfl rfl rfl (Nat.le_refl _)
      simp (disch := first|(simp only [Nat.reduceBEq,wE];done)|((repeat' (first|assumption|exact mAx _|refine mBx ?_ ?_|exact mCx (by assumption)|refine mDx ?_|refine mEx ?_ ?_ ?_|exact mFx|refine mGx ?_ ?_ ?_|exact mHx|exact mIx _|(simp only [wM,Nat.reduceAdd,Nat.reduceLT,Nat.reduceLeDiff];done)));done)|omega|decide) only [e, e2, ↓wA,wB,wL,resOf,Nat.reduceBEq,Int.reduceBEq,Int.reduceBNe,Int.reduceLT,Int.reduceLE,Int.reduceAdd,Int.reduceSub,Int.reduceMul,Int.reduceToNat]
      refine wloop (fun mm ss => ∃ (i r : Nat) (q : AV) (h2 : Hp) (u0 u2 u6 u11 u12 u13 u14 u15 u16 u24 u32 u40 u65 u66 u73 : AV), (mm = w - i) ∧ (i ≤ w ∧ Grown h1 h2 ∧ Own h1.next h2.blks .u8 q (ofN (dgts p i)) ∧ r = rst p i) ∧ ss = { fr := [(0, u0), (2, u2), (3, .int .i64 k), (4, .int .i64 c), (5, .int .i64 n), (6, u6), (7, .int .i64 p), (8, q), (9, .int .i64 r), (10, .int .i64 i), (11, u11), (12, u12), (13, u13), (14, u14), (15, u15), (16, u16), (24, u24), (32, u32), (40, u40), (65, u65), (66, u66), (73, u73)], hp := h2 }) (w) ?_ ?_
      ·
        refine ⟨0, p, _, _, _, _, _, _, _, _, _, _, _, _, _, _, _, _, _, by omega, ⟨by omega, Grown.pu Grown.refl rfl, O, rfl⟩, rfl⟩
      rintro nC sC ⟨i, r, q, h2, u0, u2, u6, u11, u12, u13, u14, u15, u16, u24, u32, u40, u65, u66, u73, hnC, ⟨hi3, g2, o2, hr⟩, rfl⟩
      have k2 := g2.ok k1
      have rl := rst_le (p := p) i
      simp (disch := first|(simp only [Nat.reduceBEq,wE];done)|((repeat' (first|assumption|exact mAx _|refine mBx ?_ ?_|exact mCx (by assumption)|refine mDx ?_|refine mEx ?_ ?_ ?_|exact mFx|refine mGx ?_ ?_ ?_|exact mHx|exact mIx _|(simp only [wM,Nat.reduceAdd,Nat.reduceLT,Nat.reduceLeDiff];done)));done)|omega|decide) only [e, e2, sw, ↓wA,wB,wL,resOf,Nat.reduceBEq,Int.reduceBEq,Int.reduceBNe,Int.reduceLT,Int.reduceLE,Int.reduceAdd,Int.reduceSub,Int.reduceMul,Int.reduceToNat]
      refine ifThen_intro (fun e3 => ?_) (fun e3 => ?_) <;> have e3q := e3 <;> try simp [-List.getD_eq_getElem?_getD] at e3q
      · have ad : (i : Int) + 1 = ((i + 1 : Nat) : Int) := by omega
        have rm : sBin .rem .no (.int .i64 (r : Int)) (.int .i64 ((i + 1 : Nat) : Int)) = some (.int .i64 ((r % (i + 1) : Nat) : Int)) := by
          rw [sBin_rem (by omega) (by omega)]; rfl
        have qu : sBin .quo .no (.int .i64 (r : Int)) (.int .i64 ((i + 1 : Nat) : Int)) = some (.int .i64 ((r / (i + 1) : Nat) : Int)) := by
          rw [sBin_quo (by omega) (by omega) (by omega)]; rfl
        have hm : r % (i + 1) < i + 1 := Nat.mod_lt r (Nat.succ_pos i)
        have wu : IntKind.wrap .u8 ((r % (i + 1) : Nat) : Int) = ((r % (i + 1) : Nat) : Int) := wrap_u8 (by omega) (by omega)
        obtain ⟨s5, h5, e5, o5, g5, n5⟩ := own_app1 (k := .u8) (v := ((r % (i + 1) : Nat) : Int)) k1 g2 o2 (by rw [ofN_len, dgts_len]; omega)
        have res : ofN (dgts p i) ++ [((r % (i + 1) : Nat) : Int)] = ofN (dgts p (i + 1)) := by
          rw [dgts, hr]
          simp [ofN]
        rw [res] at o5
        simp (disch := first|(simp only [Nat.reduceBEq,wE];done)|((repeat' (first|assumption|exact mAx _|refine mBx ?_ ?_|exact mCx (by assumption)|refine mDx ?_|refine mEx ?_ ?_ ?_|exact mFx|refine mGx ?_ ?_ ?_|exact mHx|exact mIx _|(simp only [wM,Nat.reduceAdd,Nat.reduceLT,Nat.reduceLeDiff];done)));done)|omega|decide) only [e, e2, e3, ad, rm, wu, qu, e5, ↓wA,wB,wL,resOf,Nat.reduceBEq,Int.reduceBEq,Int.reduceBNe,Int.reduceLT,Int.reduceLE,Int.reduceAdd,Int.reduceSub,Int.reduceMul,Int.reduceToNat]
        refine ⟨_, ?_, i + 1, r / (i + 1), s5, h5, _, _, _, _, _, _, _, _, _, _, _, _, _, _, _, rfl, ?_, rfl⟩
        · omega
        exact ⟨by omega, g5, o5, by rw [hr]; rfl⟩
      · have ei3 : i = w := by omega
        rw [ei3] at o2
        have bc : ∀ x ∈ dgts p w, x ≤ 255 := fun x hx => by
          obtain ⟨j, hj, rfl⟩ := List.getElem_of_mem hx
          rw [dgts_len] at hj
          have := dgts_at (p := p) hj
          have e4 : (dgts p w).getD j 0 = (dgts p w)[j]'(by rw [dgts_len]; exact hj) := by simp [List.getD_eq_getElem?_getD, List.getElem?_eq_getElem (show j < (dgts p w).length by rw [dgts_len]; exact hj)]
          have hm : rst p j % (j + 1) < j + 1 := Nat.mod_lt (rst p j) (Nat.succ_pos j)
          omega
        obtain ⟨v, h3, ev, g3, o3⟩ := f45 w q (dgts p w) h2 k2 o2.ints (by omega) (by rw [dgts_len]; omega) bc
        have k3 := g3.ok k2
        have hpm : PermI (2 ^ k : Nat) (ofN (nthC (dgts p w) w)) := by rw [← ew]; exact nth_perm
        have hq : OmP k (ofN (nthC (dgts p w) w)) ↔ omq k (nq p (2 ^ k)) = true := by
          rw [omp_q (by rw [nthC_len, ew]), nq_eq w (Nat.le_refl _), ew]
        have OM := Omega_ok k v _ h3 k3 hk3 o3.ints (by rw [ofN_len, nthC_len]; omega) hpm
        have g4 : Grown h h3 := GrownR.trans g1 (GrownR.trans g2 g3)
        cases hb : omq k (nq p (2 ^ k)) with
        | true =>
          rw [decide_eq_true (hq.2 hb)] at OM
          simp (disch := first|(simp only [Nat.reduceBEq,wE];done)|((repeat' (first|assumption|exact mAx _|refine mBx ?_ ?_|exact mCx (by assumption)|refine mDx ?_|refine mEx ?_ ?_ ?_|exact mFx|refine mGx ?_ ?_ ?_|exact mHx|exact mIx _|(simp only [wM,Nat.reduceAdd,Nat.reduceLT,Nat.reduceLeDiff];done)));done)|omega|decide) only [e, e2, e3, sw, callT ev, callT OM, ↓wA,wB,wL,resOf,Nat.reduceBEq,Int.reduceBEq,Int.reduceBNe,Int.reduceLT,Int.reduceLE,Int.reduceAdd,Int.reduceSub,Int.reduceMul,Int.reduceToNat]
          refine ⟨_, ?_, p + 1, c + 1, h3, _, _, _, _, _, _, _, _, _, _, _, _, _, _, _, _, _, _, rfl, ?_, rfl⟩
          · omega
          exact ⟨by omega, g4, by rw [cnt, if_pos hb, hc]⟩
        | false =>
          have : ¬ OmP k (ofN (nthC (dgts p w) w)) := fun H => by have := hq.1 H; rw [hb] at this; cases this
          rw [decide_eq_false this] at OM
          simp (disch := first|(simp only [Nat.reduceBEq,wE];done)|((repeat' (first|assumption|exact mAx _|refine mBx ?_ ?_|exact mCx (by assumption)|refine mDx ?_|refine mEx ?_ ?_ ?_|exact mFx|refine mGx ?_ ?_ ?_|exact mHx|exact mIx _|(simp only [wM,Nat.reduceAdd,Nat.reduceLT,Nat.reduceLeDiff];done)));done)|omega|decide) only [e, e2, e3, sw, callT ev, callT OM, ↓wA,wB,wL,resOf,Nat.reduceBEq,Int.reduceBEq,Int.reduceBNe,Int.reduceLT,Int.reduceLE,Int.reduceAdd,Int.reduceSub,Int.reduceMul,Int.reduceToNat]
          refine ⟨_, ?_, p + 1, c, h3, _, _, _, _, _, _, _, _, _, _, _, _, _, _, _, _, _, _, rfl, ?_, rfl⟩
          · omega
          exact ⟨by omega, g4, by rw [cnt, if_neg (by simp [hb]), hc]; rfl⟩
    · have ep : p = n := by omega
      have O : Own h1.next (h1.pu []).blks .i64 (.sl h1.next 0 0 (some 0) 1) (ofN (List.range 0)) := Own.fresh (Nat.le_refl _) rfl rfl rfl (Nat.le_refl _)
      simp (disch := first|(simp only [Nat.reduceBEq,wE];done)|((repeat' (first|assumption|exact mAx _|refine mBx ?_ ?_|exact mCx (by assumption)|refine mDx ?_|refine mEx ?_ ?_ ?_|exact mFx|refine mGx ?_ ?_ ?_|exact mHx|exact mIx _|(simp only [wM,Nat.reduceAdd,Nat.reduceLT,Nat.reduceLeDiff];done)));done)|omega|decide) only [e, e2, ↓wA,wB,wL,resOf,Nat.reduceBEq,Int.reduceBEq,Int.reduceBNe,Int.reduceLT,Int.reduceLE,Int.reduceAdd,Int.reduceSub,Int.reduceMul,Int.reduceToNat]
      refine wloop (fun mm ss => ∃ (i : Nat) (q : AV) (h2 : Hp) (u0 u2 u5 u6 u7 u8 u9 u10 u11 u12 u15 u16 u24 u32 u40 u65 u66 u73 : AV), (mm = w - i) ∧ (i ≤ w ∧ Grown h1 h2 ∧ Own h1.next h2.blks .i64 q (ofN (List.range i))) ∧ ss = { fr := [(0, u0), (2, u2), (3, .int .i64 k), (4, .int .i64 c), (5, u5), (6, u6), (7, u7), (8, u8), (9, u9), (10, u10), (11, u11), (12, u12), (13, q), (14, .int .i64 i), (15, u15), (16, u16), (24, u24), (32, u32), (40, u40), (65, u65), (66, u66), (73, u73)], hp := h2 }) (w) ?_ ?_
      ·
        refine ⟨0, _, _, _, _, _, _, _, _, _, _, _, _, _, _, _, _, _, _, _, _, by omega, ⟨by omega, Grown.pu Grown.refl rfl, O⟩, rfl⟩
      rintro nD sD ⟨i, q, h2, u0, u2, u5, u6, u7, u8, u9, u10, u11, u12, u15, u16, u24, u32, u40, u65, u66, u73, hnD, ⟨hi4, g2, o2⟩, rfl⟩
      have k2 := g2.ok k1
      simp (disch := first|(simp only [Nat.reduceBEq,wE];done)|((repeat' (first|assumption|exact mAx _|refine mBx ?_ ?_|exact mCx (by assumption)|refine mDx ?_|refine mEx ?_ ?_ ?_|exact mFx|refine mGx ?_ ?_ ?_|exact mHx|exact mIx _|(simp only [wM,Nat.reduceAdd,Nat.reduceLT,Nat.reduceLeDiff];done)));done)|omega|decide) only [e, e2, sw, ↓wA,wB,wL,resOf,Nat.reduceBEq,Int.reduceBEq,Int.reduceBNe,Int.reduceLT,Int.reduceLE,Int.reduceAdd,Int.reduceSub,Int.reduceMul,Int.reduceToNat]
      refine ifThen_intro (fun e5 => ?_) (fun e5 => ?_) <;> have e5q := e5 <;> try simp [-List.getD_eq_getElem?_getD] at e5q
      · obtain ⟨s5, h5, e6, o5, g5, n5⟩ := own_app1 (v := (i : Int)) k1 g2 o2 (by rw [ofN_len, List.length_range]; omega)
        have res : ofN (List.range i) ++ [(i : Int)] = ofN (List.range (i + 1)) := by
          rw [List.range_succ]
          simp [ofN]
        rw [res] at o5
        simp (disch := first|(simp only [Nat.reduceBEq,wE];done)|((repeat' (first|assumption|exact mAx _|refine mBx ?_ ?_|exact mCx (by assumption)|refine mDx ?_|refine mEx ?_ ?_ ?_|exact mFx|refine mGx ?_ ?_ ?_|exact mHx|exact mIx _|(simp only [wM,Nat.reduceAdd,Nat.reduceLT,Nat.reduceLeDiff];done)));done)|omega|decide) only [e, e2, e5, e6, ↓wA,wB,wL,resOf,Nat.reduceBEq,Int.reduceBEq,Int.reduceBNe,Int.reduceLT,Int.reduceLE,Int.reduceAdd,Int.reduceSub,Int.reduceMul,Int.reduceToNat]
        refine ⟨_, ?_, i + 1, s5, h5, _, _, _, _, _, _, _, _, _, _, _, _, _, _, _, _, _, _, rfl, ?_, rfl⟩
        · omega
        exact ⟨by omega, g5, o5⟩
      · have ei4 : i = w := by omega
        rw [ei4] at o2
        have OM := Omega_ok k q _ h2 k2 hk3 o2.ints (by rw [ofN_len, List.length_range]; omega) (by rw [← ew]; exact id_perm)
        rw [decide_eq_true (by rw [ew]; exact id_om hk3)] at OM
        have sb : (k : Int) - 1 = ((k - 1 : Nat) : Int) := by omega
        have pk : 2 ^ (k - 1) ≤ 4 := by
          have : 2 ^ (k - 1) ≤ 2 ^ 2 := Nat.pow_le_pow_right (by omega) (by omega)
          exact this
        have km : k * 2 ^ (k - 1) ≤ 3 * 4 := Nat.mul_le_mul hk3.2 pk
        have s1 := sBin_shlN (a := k) (j := k - 1) (by omega) (by omega)
        have s2 := sBin_shl1 (j := k * 2 ^ (k - 1)) (by omega)
        have fin : ((c : Int) == ((2 ^ (k * 2 ^ (k - 1)) : Nat) : Int)) = true := by
          have := cnt_fin hk3
          rw [← ew, ← hn, ← ep, ← hc] at this
          rw [this]
          simp
        simp (disch := first|(simp only [Nat.reduceBEq,wE];done)|((repeat' (first|assumption|exact mAx _|refine mBx ?_ ?_|exact mCx (by assumption)|refine mDx ?_|refine mEx ?_ ?_ ?_|exact mFx|refine mGx ?_ ?_ ?_|exact mHx|exact mIx _|(simp only [wM,Nat.reduceAdd,Nat.reduceLT,Nat.reduceLeDiff];done)));done)|omega|decide) only [e, e2, e5, callT OM, sb, s1, s2, fin, callT (lives_ev _), ↓wA,wB,wL,resOf,Nat.reduceBEq,Int.reduceBEq,Int.reduceBNe,Int.reduceLT,Int.reduceLE,Int.reduceAdd,Int.reduceSub,Int.reduceMul,Int.reduceToNat]
        exact ⟨_, rfl, rfl⟩
end Go.Proofs.YtbomimhfldmlbaaDoor
