/- PatchApplies: Apply and Set answer as the reference asks. -/
import Derived.Test.YtbomimhfldmlbaaDoorPV
import Derived.Test.YtbomimhfldmlbaaDoorFPatchApplies
set_option linter.unusedSimpArgs false
set_option linter.unusedVariables false
set_option maxHeartbeats 8000000
set_option maxRecDepth 20000
namespace Go.Proofs.YtbomimhfldmlbaaDoor
open Go Go.Abs Go.Pa

theorem f32 (k : Nat) (s : List UInt8) (h : Hp) (hk : Hok h) (h3 : 1 ≤ k ∧ k ≤ 3) (hl : s.length ≤ 1000) : Evals Tryd.prog tab false (.func 32) [.int .i64 k, .str s] h (.bool (decide (SetP k s)), h) := by
  refine evals_pure c32 rfl hk ?_
  simp only [sf32, initS_cons, initS_nil]
  have SW := f47 k h.en h3.1 h3.2 hk
  simp (disch := first|(simp only [Nat.reduceBEq,wE];done)|((repeat' (first|assumption|exact mAx _|refine mBx ?_ ?_|exact mCx (by assumption)|refine mDx ?_|refine mEx ?_ ?_ ?_|exact mFx|refine mGx ?_ ?_ ?_|exact mHx|exact mIx _|(simp only [wM,Nat.reduceAdd,Nat.reduceLT,Nat.reduceLeDiff];done)));done)|omega|decide) only [↓wA,wB,wL,resOf,Nat.reduceBEq,Int.reduceBEq,Int.reduceBNe,Int.reduceLT,Int.reduceLE,Int.reduceAdd,Int.reduceSub,Int.reduceMul,Int.reduceToNat]
  refine wloop (fun mm ss => ∃ (i : Nat) (u4 u9 u21 : AV), (mm = s.length - i) ∧ (i ≤ s.length ∧ ∀ j, j < i → in01 (s.getD j 0) = true) ∧ ss = { fr := [(0, .int .i64 k), (1, .str s), (4, u4), (5, .int .i64 i), (9, u9), (21, u21)], hp := h.en }) (s.length) ?_ ?_
  ·
    refine ⟨0, _, _, _, by omega, ⟨by omega, fun j hj => absurd hj (by omega)⟩, rfl⟩
  rintro nA sA ⟨i, u4, u9, u21, hnA, ⟨hi, hj⟩, rfl⟩
  simp (disch := first|(simp only [Nat.reduceBEq,wE];done)|((repeat' (first|assumption|exact mAx _|refine mBx ?_ ?_|exact mCx (by assumption)|refine mDx ?_|refine mEx ?_ ?_ ?_|exact mFx|refine mGx ?_ ?_ ?_|exact mHx|exact mIx _|(simp only [wM,Nat.reduceAdd,Nat.reduceLT,Nat.reduceLeDiff];done)));done)|omega|decide) only [↓wA,wB,wL,resOf,Nat.reduceBEq,Int.reduceBEq,Int.reduceBNe,Int.reduceLT,Int.reduceLE,Int.reduceAdd,Int.reduceSub,Int.reduceMul,Int.reduceToNat]
  refine ifThen_intro (fun e => ?_) (fun e => ?_) <;> have eq := e <;> try simp [-List.getD_eq_getElem?_getD] at eq
  · have ei : i < s.length := by omega
    obtain ⟨b, eb⟩ : ∃ b, b = s.getD i 0 := ⟨_, rfl⟩
    have e2 : ∀ h' : Hp, sIxT h' (some i) (.str s) = some (.int .u8 ((b.toNat : Nat) : Int), h') := fun h' => by rw [sIxT_ok ei, eb]
    have nx : in01 b = true → ∀ j, j < i + 1 → in01 (s.getD j 0) = true := fun hb j h1 => by
      by_cases ej : j = i
      · rw [ej, ← eb]; exact hb
      · exact hj j (by omega)
    by_cases b48 : b = 48
    · have t1 : (((b.toNat : Nat) : Int) != 48) = false := by rw [b48]; rfl
      simp (disch := first|(simp only [Nat.reduceBEq,wE];done)|((repeat' (first|assumption|exact mAx _|refine mBx ?_ ?_|exact mCx (by assumption)|refine mDx ?_|refine mEx ?_ ?_ ?_|exact mFx|refine mGx ?_ ?_ ?_|exact mHx|exact mIx _|(simp only [wM,Nat.reduceAdd,Nat.reduceLT,Nat.reduceLeDiff];done)));done)|omega|decide) only [e, e2, t1, ↓wA,wB,wL,resOf,Nat.reduceBEq,Int.reduceBEq,Int.reduceBNe,Int.reduceLT,Int.reduceLE,Int.reduceAdd,Int.reduceSub,Int.reduceMul,Int.reduceToNat]
      refine ⟨_, ?_, i + 1, _, _, _, rfl, ?_, rfl⟩
      · omega
      exact ⟨by omega, nx (by rw [b48]; rfl)⟩
    · have t1 : (((b.toNat : Nat) : Int) != 48) = true := by
        simp only [bne_iff_ne, ne_eq]
        intro h
        exact b48 (UInt8.toNat_inj.1 (by show b.toNat = 48; omega))
      by_cases b49 : b = 49
      · have t2 : (((b.toNat : Nat) : Int) != 49) = false := by rw [b49]; rfl
        simp (disch := first|(simp only [Nat.reduceBEq,wE];done)|((repeat' (first|assumption|exact mAx _|refine mBx ?_ ?_|exact mCx (by assumption)|refine mDx ?_|refine mEx ?_ ?_ ?_|exact mFx|refine mGx ?_ ?_ ?_|exact mHx|exact mIx _|(simp only [wM,Nat.reduceAdd,Nat.reduceLT,Nat.reduceLeDiff];done)));done)|omega|decide) only [e, e2, t1, t2, ↓wA,wB,wL,resOf,Nat.reduceBEq,Int.reduceBEq,Int.reduceBNe,Int.reduceLT,Int.reduceLE,Int.reduceAdd,Int.reduceSub,Int.reduceMul,Int.reduceToNat]
        refine ⟨_, ?_, i + 1, _, _, _, rfl, ?_, rfl⟩
        · omega
        exact ⟨by omega, nx (by rw [b49]; rfl)⟩
      · have t2 : (((b.toNat : Nat) : Int) != 49) = true := by
          simp only [bne_iff_ne, ne_eq]
          intro h
          exact b49 (UInt8.toNat_inj.1 (by show b.toNat = 49; omega))
        simp (disch := first|(simp only [Nat.reduceBEq,wE];done)|((repeat' (first|assumption|exact mAx _|refine mBx ?_ ?_|exact mCx (by assumption)|refine mDx ?_|refine mEx ?_ ?_ ?_|exact mFx|refine mGx ?_ ?_ ?_|exact mHx|exact mIx _|(simp only [wM,Nat.reduceAdd,Nat.reduceLT,Nat.reduceLeDiff];done)));done)|omega|decide) only [e, e2, t1, t2, ↓wA,wB,wL,resOf,Nat.reduceBEq,Int.reduceBEq,Int.reduceBNe,Int.reduceLT,Int.reduceLE,Int.reduceAdd,Int.reduceSub,Int.reduceMul,Int.reduceToNat]
        refine ⟨_, rfl, ?_, by (repeat' (first|assumption|exact mAx _|refine mBx ?_ ?_|exact mCx (by assumption)|refine mDx ?_|refine mEx ?_ ?_ ?_|exact mFx|refine mGx ?_ ?_ ?_|exact mHx|exact mIx _|(simp only [wM,Nat.reduceAdd,Nat.reduceLT,Nat.reduceLeDiff];done)))⟩
        have hb : b ∈ s := by
          rw [eb, List.getD_eq_getElem?_getD, List.getElem?_eq_getElem ei]; exact List.getElem_mem ei
        rw [decide_eq_false fun H => by
          have := H.2 b hb
          simp only [in01, Bool.or_eq_true, beq_iff_eq] at this
          exact this.elim b48 b49]
  · have ei : i = s.length := by omega
    have all : ∀ b ∈ s, in01 b = true := fun b hb => by
      obtain ⟨j, h1, rfl⟩ := List.getElem_of_mem hb
      have := hj j (by omega)
      rw [List.getD_eq_getElem?_getD, List.getElem?_eq_getElem h1] at this
      exact this
    simp (disch := first|(simp only [Nat.reduceBEq,wE];done)|((repeat' (first|assumption|exact mAx _|refine mBx ?_ ?_|exact mCx (by assumption)|refine mDx ?_|refine mEx ?_ ?_ ?_|exact mFx|refine mGx ?_ ?_ ?_|exact mHx|exact mIx _|(simp only [wM,Nat.reduceAdd,Nat.reduceLT,Nat.reduceLeDiff];done)));done)|omega|decide) only [e, callT SW, ↓wA,wB,wL,resOf,Nat.reduceBEq,Int.reduceBEq,Int.reduceBNe,Int.reduceLT,Int.reduceLE,Int.reduceAdd,Int.reduceSub,Int.reduceMul,Int.reduceToNat]
    refine ⟨_, rfl, ?_, by (repeat' (first|assumption|exact mAx _|refine mBx ?_ ?_|exact mCx (by assumption)|refine mDx ?_|refine mEx ?_ ?_ ?_|exact mFx|refine mGx ?_ ?_ ?_|exact mHx|exact mIx _|(simp only [wM,Nat.reduceAdd,Nat.reduceLT,Nat.reduceLeDiff];done)))⟩
    simp only [resOf]
    congr 1
    rw [Bool.eq_iff_iff, decide_eq_true_iff, SetP]
    simp only [beq_iff_eq]
    constructor
    · exact fun h => ⟨by omega, all⟩
    · exact fun h => by have := h.1; omega

theorem f5 (k : Int) (c : List UInt8) (a : AV) (xs : List Int) (h : Hp) (hk : Hok h) (bk : -9223372036854775808 ≤ k ∧ k ≤ 9223372036854775807) (Sc : c.length ≤ maxLen)
    (ha : Ints h.blks .i64 a xs) (Ba : ∀ k ∈ xs, -9223372036854775808 ≤ k ∧ k ≤ 9223372036854775807) (Sa : xs.length ≤ maxLen) :
    ∃ h', Evals Tryd.prog tab false (.func 5) [.int .i64 k, .str c, a] h (.bool true, h') := by
  have Sa' : xs.length < 2 ^ 63 := by have : maxLen = 2 ^ 63 - 1 := rfl; omega
  suffices H : ∃ v h', Evals Tryd.prog tab false (.func 5) [.int .i64 k, .str c, a] h (v, h') ∧ v = .bool true by
    obtain ⟨v, h', e, rfl⟩ := H
    exact ⟨h', e⟩
  refine evals_func (Q := fun v _ => v = .bool true) c5 rfl ?_
  simp only [sf5, initS_cons, initS_nil]
  have em : min (c.length : Int) 21 = ((min c.length 21 : Nat) : Int) := by omega
  obtain ⟨s, es⟩ : ∃ s, s = c.take (min c.length 21) := ⟨_, rfl⟩
  have ls : s.length ≤ 21 := by rw [es]; simp; omega
  have e0 : ∀ h' : Hp, sSlTV h' none (some (some (min c.length 21))) (.str c) = some (.str s, h') := fun h' => by
    rw [sSlTV_ok (a := 0) (b := min c.length 21) rfl rfl (by omega) (by omega), es]
    simp
  obtain ⟨p, h1, ep, g1, o1⟩ := f17 a xs h.en hk ha Sa'
  have k1 := g1.ok hk
  obtain ⟨ps, eps⟩ : ∃ ps, ps = xs.take 13 := ⟨_, rfl⟩
  have lps : ps.length ≤ 13 := by rw [eps]; simp; omega
  rw [← eps] at o1
  have ee : (([] : List UInt8) == []) = true := rfl
  have IN := f28 k 1 3
  by_cases hc : 1 ≤ k ∧ k ≤ 3
  · obtain ⟨k, rfl⟩ : ∃ n : Nat, k = n := ⟨k.toNat, by omega⟩
    have hk3 : 1 ≤ k ∧ k ≤ 3 := by omega
    have p8 := pow8 hk3.2
    have sw := sBin_shl1 (j := k) (by omega)
    obtain ⟨w, ew⟩ : ∃ w, w = 2 ^ k := ⟨_, rfl⟩
    have PE := fun (h' : Hp) (k' : Hok h') (i' : Ints h'.blks .i64 p ps) => f22 p ps w h' k' i' (by omega) (by omega)
    by_cases hs : SetP k s
    · obtain ⟨S, eS, bS, lS⟩ := hs.bits
      obtain ⟨t, h2, et, g2, o2⟩ := Apply_ok k S h1 k1 hk3 lS bS
      rw [← eS] at et
      have k2 := g2.ok k1
      have o12 := o1.sub (g2.sub k1)
      obtain ⟨v, h3, ev, g3, o3⟩ := f33 k S h2 hk3.1 hk3.2 lS bS k2
      rw [← eS] at ev
      have k3 := g3.ok k2
      have o13 := o12.sub (g3.sub k2)
      have lo : (ofN (outs k S)).length ≤ 8 := by rw [ofN_len, outs_len hk3.1]; omega
      have SA := f26 t v (ofN (outs k S)) (ofN (outs k S)) h3 k3 (o2.sub (g3.sub k2)).ints o3.ints (by omega) (by omega)
      rw [decide_eq_true rfl] at SA
      have SE := f32 k s h2 k2 hk3 (by omega)
      rw [decide_eq_true hs] at SE
      by_cases hp : PermI (2 ^ k : Nat) ps
      · obtain ⟨P, eP, hP⟩ := hp.toP
        rw [eP] at hp o1 o12 o13 PE lps
        have PE3 := PE h3 k3 o13.ints
        rw [← ew] at hp hP
        rw [decide_eq_true hp] at PE3
        rw [ew] at hp hP
        obtain ⟨T, hT, evT⟩ := Set_ok k p P h2 k2 hk3 o12.ints (by omega) hp hP
        have SE2 := f32 k (strB T) h3 k3 hk3 (by rw [strB_len, hT.len]; have := swc_val hk3; omega)
        rw [decide_eq_true (SetP.of hT.bit hT.len)] at SE2
        obtain ⟨v4, h4, ev4, g4, o4⟩ := f33 k T h3 hk3.1 hk3.2 hT.len hT.bit k3
        rw [hT.out] at o4
        have SA2 := f26 v4 p (ofN P) (ofN P) h4 (g4.ok k3) o4.ints (o13.sub (g4.sub k3)).ints (by omega) (by omega)
        rw [decide_eq_true rfl] at SA2
        rw [← ew] at sw
        simp (disch := first|(simp only [Nat.reduceBEq,wE];done)|((repeat' (first|assumption|exact mAx _|refine mBx ?_ ?_|exact mCx (by assumption)|refine mDx ?_|refine mEx ?_ ?_ ?_|exact mFx|refine mGx ?_ ?_ ?_|exact mHx|exact mIx _|(simp only [wM,Nat.reduceAdd,Nat.reduceLT,Nat.reduceLeDiff];done)));done)|omega|decide) only [em, e0, callT ep, callT et, callT evT, callT (IN _ _), decide_eq_true hc, callT SE, callT ev, callT SA, sw, callT PE3, callT SE2, callT ev4, callT SA2, callT (lives_ev _), ↓wA,wB,wL,resOf,Nat.reduceBEq,Int.reduceBEq,Int.reduceBNe,Int.reduceLT,Int.reduceLE,Int.reduceAdd,Int.reduceSub,Int.reduceMul,Int.reduceToNat]
        exact ⟨_, rfl, rfl⟩
      · have PE3 := PE h3 k3 o13.ints
        rw [← ew] at hp
        rw [decide_eq_false hp] at PE3
        rw [ew] at hp
        have ST := Set_form k p ps h2 k2 hk3 o12.ints (by omega) hp
        rw [← ew] at sw
        simp (disch := first|(simp only [Nat.reduceBEq,wE];done)|((repeat' (first|assumption|exact mAx _|refine mBx ?_ ?_|exact mCx (by assumption)|refine mDx ?_|refine mEx ?_ ?_ ?_|exact mFx|refine mGx ?_ ?_ ?_|exact mHx|exact mIx _|(simp only [wM,Nat.reduceAdd,Nat.reduceLT,Nat.reduceLeDiff];done)));done)|omega|decide) only [em, e0, callT ep, callT et, callT ST, callT (IN _ _), decide_eq_true hc, callT SE, callT ev, callT SA, sw, callT PE3, ee, callT (lives_ev _), ↓wA,wB,wL,resOf,Nat.reduceBEq,Int.reduceBEq,Int.reduceBNe,Int.reduceLT,Int.reduceLE,Int.reduceAdd,Int.reduceSub,Int.reduceMul,Int.reduceToNat]
        exact ⟨_, rfl, rfl⟩
    · have AP := Apply_form k s h1 k1 hk3 (by omega) hs
      have SE := f32 k s h1 k1 hk3 (by omega)
      rw [decide_eq_false hs] at SE
      by_cases hp : PermI (2 ^ k : Nat) ps
      · obtain ⟨P, eP, hP⟩ := hp.toP
        rw [eP] at hp o1 PE lps
        have PE3 := PE h1 k1 o1.ints
        rw [← ew] at hp hP
        rw [decide_eq_true hp] at PE3
        rw [ew] at hp hP
        obtain ⟨T, hT, evT⟩ := Set_ok k p P h1 k1 hk3 o1.ints (by omega) hp hP
        have SE2 := f32 k (strB T) h1 k1 hk3 (by rw [strB_len, hT.len]; have := swc_val hk3; omega)
        rw [decide_eq_true (SetP.of hT.bit hT.len)] at SE2
        obtain ⟨v4, h4, ev4, g4, o4⟩ := f33 k T h1 hk3.1 hk3.2 hT.len hT.bit k1
        rw [hT.out] at o4
        have SA2 := f26 v4 p (ofN P) (ofN P) h4 (g4.ok k1) o4.ints (o1.sub (g4.sub k1)).ints (by omega) (by omega)
        rw [decide_eq_true rfl] at SA2
        rw [← ew] at sw
        simp (disch := first|(simp only [Nat.reduceBEq,wE];done)|((repeat' (first|assumption|exact mAx _|refine mBx ?_ ?_|exact mCx (by assumption)|refine mDx ?_|refine mEx ?_ ?_ ?_|exact mFx|refine mGx ?_ ?_ ?_|exact mHx|exact mIx _|(simp only [wM,Nat.reduceAdd,Nat.reduceLT,Nat.reduceLeDiff];done)));done)|omega|decide) only [em, e0, callT ep, callT AP, callT evT, callT (IN _ _), decide_eq_true hc, callT SE, sw, callT PE3, callT SE2, callT ev4, callT SA2, callT (lives_ev _), ↓wA,wB,wL,resOf,Nat.reduceBEq,Int.reduceBEq,Int.reduceBNe,Int.reduceLT,Int.reduceLE,Int.reduceAdd,Int.reduceSub,Int.reduceMul,Int.reduceToNat]
        exact ⟨_, rfl, rfl⟩
      · have PE3 := PE h1 k1 o1.ints
        rw [← ew] at hp
        rw [decide_eq_false hp] at PE3
        rw [ew] at hp
        have ST := Set_form k p ps h1 k1 hk3 o1.ints (by omega) hp
        rw [← ew] at sw
        simp (disch := first|(simp only [Nat.reduceBEq,wE];done)|((repeat' (first|assumption|exact mAx _|refine mBx ?_ ?_|exact mCx (by assumption)|refine mDx ?_|refine mEx ?_ ?_ ?_|exact mFx|refine mGx ?_ ?_ ?_|exact mHx|exact mIx _|(simp only [wM,Nat.reduceAdd,Nat.reduceLT,Nat.reduceLeDiff];done)));done)|omega|decide) only [em, e0, callT ep, callT AP, callT ST, callT (IN _ _), decide_eq_true hc, callT SE, sw, callT PE3, ee, callT (lives_ev _), ↓wA,wB,wL,resOf,Nat.reduceBEq,Int.reduceBEq,Int.reduceBNe,Int.reduceLT,Int.reduceLE,Int.reduceAdd,Int.reduceSub,Int.reduceMul,Int.reduceToNat]
        exact ⟨_, rfl, rfl⟩
  · simp (disch := first|(simp only [Nat.reduceBEq,wE];done)|((repeat' (first|assumption|exact mAx _|refine mBx ?_ ?_|exact mCx (by assumption)|refine mDx ?_|refine mEx ?_ ?_ ?_|exact mFx|refine mGx ?_ ?_ ?_|exact mHx|exact mIx _|(simp only [wM,Nat.reduceAdd,Nat.reduceLT,Nat.reduceLeDiff];done)));done)|omega|decide) only [em, e0, callT ep, callT (Apply_arg k s h1 k1 hc), callT (Set_arg k p h1 k1 hc), callT (IN _ _), decide_eq_false hc, ee, callT (lives_ev _), ↓wA,wB,wL,resOf,Nat.reduceBEq,Int.reduceBEq,Int.reduceBNe,Int.reduceLT,Int.reduceLE,Int.reduceAdd,Int.reduceSub,Int.reduceMul,Int.reduceToNat]
    exact ⟨_, rfl, rfl⟩
end Go.Proofs.YtbomimhfldmlbaaDoor
