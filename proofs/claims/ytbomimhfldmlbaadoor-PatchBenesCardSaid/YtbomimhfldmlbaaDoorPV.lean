/- Apply and Set. -/
import Derived.Test.YtbomimhfldmlbaaDoorPU
import Derived.Test.YtbomimhfldmlbaaDoorPR
set_option linter.unusedSimpArgs false
set_option linter.unusedVariables false
set_option maxHeartbeats 8000000
set_option maxRecDepth 20000
namespace Go.Pa
open Go Go.Abs
theorem toN_ {zs : List Int} (h : ∀ z ∈ zs, 0 ≤ z) : zs = ofN (zs.map Int.toNat) := by
  unfold ofN
  rw [List.map_map]
  have : ∀ z ∈ zs, ((fun x : Nat => (x : Int)) ∘ Int.toNat) z = z := fun z hz => by have := h z hz; simp; omega
  rw [List.map_congr_left this, List.map_id']
theorem PermI.toP {k : Nat} {zs : List Int} (p : PermI (2 ^ k : Nat) zs) : ∃ P, zs = ofN P ∧ IsPerm (2 ^ k) P := by
  obtain ⟨h1, h2, h3⟩ := p
  have hz : zs = ofN (zs.map Int.toNat) := toN_ fun z hz => (h2 z hz).1
  have hl : zs.length = 2 ^ k := by exact_mod_cast h1
  refine ⟨_, hz, by rw [List.length_map, hl], fun i hi => ?_, fun i j hi hj e => ?_⟩
  · have hi' : i < zs.length := by omega
    rw [nt_eq (by rw [List.length_map]; exact hi'), List.getElem_map]
    have := h2 _ (List.getElem_mem hi')
    omega
  · have hi' : i < zs.length := by omega
    have hj' : j < zs.length := by omega
    rw [nt_eq (by rw [List.length_map]; exact hi'), nt_eq (by rw [List.length_map]; exact hj'), List.getElem_map, List.getElem_map] at e
    have a := h2 _ (List.getElem_mem hi')
    have b := h2 _ (List.getElem_mem hj')
    exact (List.getElem_inj h3).1 (show zs[i] = zs[j] by omega)
end Go.Pa
namespace Go.Proofs.YtbomimhfldmlbaaDoor
open Go Go.Abs Go.Pa

theorem Apply_arg (k : Int) (s : List UInt8) (h : Hp) (hk : Hok h) (hc : ¬ (1 ≤ k ∧ k ≤ 3)) : Evals Tryd.prog tab false (.func 30) [.int .i64 k, .str s] h (.tu [.nilsl, .int .i64 1], h) := by
  refine evals_pure c30 rfl hk ?_
  simp only [sf30, initS_cons, initS_nil]
  simp (disch := first|(simp only [Nat.reduceBEq,wE];done)|((repeat' (first|assumption|exact mAx _|refine mBx ?_ ?_|exact mCx (by assumption)|refine mDx ?_|refine mEx ?_ ?_ ?_|exact mFx|refine mGx ?_ ?_ ?_|exact mHx|exact mIx _|(simp only [wM,Nat.reduceAdd,Nat.reduceLT,Nat.reduceLeDiff];done)));done)|omega|decide) only [callT (f62 _ _ _ _ _), decide_eq_false hc, ↓wA,wB,wL,resOf,Nat.reduceBEq,Int.reduceBEq,Int.reduceBNe,Int.reduceLT,Int.reduceLE,Int.reduceAdd,Int.reduceSub,Int.reduceMul,Int.reduceToNat]
  exact ⟨_, rfl, rfl, by (repeat' (first|assumption|exact mAx _|refine mBx ?_ ?_|exact mCx (by assumption)|refine mDx ?_|refine mEx ?_ ?_ ?_|exact mFx|refine mGx ?_ ?_ ?_|exact mHx|exact mIx _|(simp only [wM,Nat.reduceAdd,Nat.reduceLT,Nat.reduceLeDiff];done)))⟩
theorem Apply_form (k : Nat) (s : List UInt8) (h : Hp) (hk : Hok h) (hc : 1 ≤ k ∧ k ≤ 3) (hl : s.length ≤ 1000) (hs : ¬ SetP k s) : Evals Tryd.prog tab false (.func 30) [.int .i64 k, .str s] h (.tu [.nilsl, .int .i64 2], h) := by
  refine evals_pure c30 rfl hk ?_
  simp only [sf30, initS_cons, initS_nil]
  have ci : 1 ≤ (k : Int) ∧ (k : Int) ≤ 3 := by omega
  simp (disch := first|(simp only [Nat.reduceBEq,wE];done)|((repeat' (first|assumption|exact mAx _|refine mBx ?_ ?_|exact mCx (by assumption)|refine mDx ?_|refine mEx ?_ ?_ ?_|exact mFx|refine mGx ?_ ?_ ?_|exact mHx|exact mIx _|(simp only [wM,Nat.reduceAdd,Nat.reduceLT,Nat.reduceLeDiff];done)));done)|omega|decide) only [callT (f62 _ _ _ _ _), decide_eq_true ci, callT (f63 k s h.en hk hc hl), decide_eq_false hs, ↓wA,wB,wL,resOf,Nat.reduceBEq,Int.reduceBEq,Int.reduceBNe,Int.reduceLT,Int.reduceLE,Int.reduceAdd,Int.reduceSub,Int.reduceMul,Int.reduceToNat]
  exact ⟨_, rfl, rfl, by (repeat' (first|assumption|exact mAx _|refine mBx ?_ ?_|exact mCx (by assumption)|refine mDx ?_|refine mEx ?_ ?_ ?_|exact mFx|refine mGx ?_ ?_ ?_|exact mHx|exact mIx _|(simp only [wM,Nat.reduceAdd,Nat.reduceLT,Nat.reduceLeDiff];done)))⟩
theorem Apply_ok (k : Nat) (S : List Nat) (h : Hp) (hk : Hok h) (hc : 1 ≤ k ∧ k ≤ 3) (hl : S.length = swc k) (hb : Bits S) :
    ∃ t h', Evals Tryd.prog tab false (.func 30) [.int .i64 k, .str (strB S)] h (.tu [t, .int .i64 0], h') ∧ Grown h h' ∧ Own h.next h'.blks .i64 t (ofN (outs k S)) := by
  suffices H : ∃ v h', Evals Tryd.prog tab false (.func 30) [.int .i64 k, .str (strB S)] h (v, h') ∧ Grown h h' ∧ ∃ t, v = .tu [t, .int .i64 0] ∧ Own h.next h'.blks .i64 t (ofN (outs k S)) by
    obtain ⟨v, h', e, g, t, rfl, o⟩ := H
    exact ⟨t, h', e, g, o⟩
  refine evals_q c30 (fun v h' => ∃ t, v = .tu [t, .int .i64 0] ∧ Own h.next h'.blks .i64 t (ofN (outs k S))) rfl hk ?_ (fun v h1 g q => by
    obtain ⟨t, rfl, o⟩ := q
    refine ⟨fun r => ⟨t, rfl, o.leave.1 ?_⟩, fun r => ⟨t, rfl, o⟩⟩
    simp only [refOK, refsOK_cons, Bool.and_eq_true] at r
    exact r.1)
  simp only [sf30, initS_cons, initS_nil]
  have ci : 1 ≤ (k : Int) ∧ (k : Int) ≤ 3 := by omega
  have sv := swc_val hc
  obtain ⟨t, h1, et, g1, o1⟩ := f64 k S h.en hc.1 hc.2 hl hb hk
  simp (disch := first|(simp only [Nat.reduceBEq,wE];done)|((repeat' (first|assumption|exact mAx _|refine mBx ?_ ?_|exact mCx (by assumption)|refine mDx ?_|refine mEx ?_ ?_ ?_|exact mFx|refine mGx ?_ ?_ ?_|exact mHx|exact mIx _|(simp only [wM,Nat.reduceAdd,Nat.reduceLT,Nat.reduceLeDiff];done)));done)|omega|decide) only [callT (f62 _ _ _ _ _), decide_eq_true ci, callT (f63 k (strB S) h.en hk hc (by rw [strB_len]; omega)), decide_eq_true (SetP.of hb hl), callT et, ↓wA,wB,wL,resOf,Nat.reduceBEq,Int.reduceBEq,Int.reduceBNe,Int.reduceLT,Int.reduceLE,Int.reduceAdd,Int.reduceSub,Int.reduceMul,Int.reduceToNat]
  exact ⟨_, rfl, GrownR.of_en g1, t, rfl, o1⟩

theorem Set_arg (k : Int) (a : AV) (h : Hp) (hk : Hok h) (hc : ¬ (1 ≤ k ∧ k ≤ 3)) : Evals Tryd.prog tab false (.func 31) [.int .i64 k, a] h (.tu [.str [], .int .i64 1], h) := by
  refine evals_pure c31 rfl hk ?_
  simp only [sf31, initS_cons, initS_nil]
  simp (disch := first|(simp only [Nat.reduceBEq,wE];done)|((repeat' (first|assumption|exact mAx _|refine mBx ?_ ?_|exact mCx (by assumption)|refine mDx ?_|refine mEx ?_ ?_ ?_|exact mFx|refine mGx ?_ ?_ ?_|exact mHx|exact mIx _|(simp only [wM,Nat.reduceAdd,Nat.reduceLT,Nat.reduceLeDiff];done)));done)|omega|decide) only [callT (Checked_arg k 3 a h.en hk hc), ↓wA,wB,wL,resOf,Nat.reduceBEq,Int.reduceBEq,Int.reduceBNe,Int.reduceLT,Int.reduceLE,Int.reduceAdd,Int.reduceSub,Int.reduceMul,Int.reduceToNat]
  exact ⟨_, rfl, rfl, by (repeat' (first|assumption|exact mAx _|refine mBx ?_ ?_|exact mCx (by assumption)|refine mDx ?_|refine mEx ?_ ?_ ?_|exact mFx|refine mGx ?_ ?_ ?_|exact mHx|exact mIx _|(simp only [wM,Nat.reduceAdd,Nat.reduceLT,Nat.reduceLeDiff];done)))⟩
theorem Set_form (k : Nat) (a : AV) (zs : List Int) (h : Hp) (hk : Hok h) (hc : 1 ≤ k ∧ k ≤ 3) (ha : Ints h.blks .i64 a zs) (hz : zs.length ≤ 1000) (hp : ¬ PermI (2 ^ k : Nat) zs) : Evals Tryd.prog tab false (.func 31) [.int .i64 k, a] h (.tu [.str [], .int .i64 2], h) := by
  refine evals_pure c31 rfl hk ?_
  simp only [sf31, initS_cons, initS_nil]
  simp (disch := first|(simp only [Nat.reduceBEq,wE];done)|((repeat' (first|assumption|exact mAx _|refine mBx ?_ ?_|exact mCx (by assumption)|refine mDx ?_|refine mEx ?_ ?_ ?_|exact mFx|refine mGx ?_ ?_ ?_|exact mHx|exact mIx _|(simp only [wM,Nat.reduceAdd,Nat.reduceLT,Nat.reduceLeDiff];done)));done)|omega|decide) only [callT (Checked_form k 3 a zs h.en hk (by omega) hc.2 ha hz hp), ↓wA,wB,wL,resOf,Nat.reduceBEq,Int.reduceBEq,Int.reduceBNe,Int.reduceLT,Int.reduceLE,Int.reduceAdd,Int.reduceSub,Int.reduceMul,Int.reduceToNat]
  exact ⟨_, rfl, rfl, by (repeat' (first|assumption|exact mAx _|refine mBx ?_ ?_|exact mCx (by assumption)|refine mDx ?_|refine mEx ?_ ?_ ?_|exact mFx|refine mGx ?_ ?_ ?_|exact mHx|exact mIx _|(simp only [wM,Nat.reduceAdd,Nat.reduceLT,Nat.reduceLeDiff];done)))⟩
theorem Set_ok (k : Nat) (a : AV) (P : List Nat) (h : Hp) (hk : Hok h) (hc : 1 ≤ k ∧ k ≤ 3) (ha : Ints h.blks .i64 a (ofN P)) (hz : (ofN P).length ≤ 1000) (hp : PermI (2 ^ k : Nat) (ofN P)) (hP : IsPerm (2 ^ k) P) :
    ∃ S, IsSet k P S ∧ Evals Tryd.prog tab false (.func 31) [.int .i64 k, a] h (.tu [.str (strB S), .int .i64 0], h) := by
  obtain ⟨v, h1, ev, g1, S, hS, o1⟩ := f66 k P a h.en hc.1 hc.2 hP ha hk
  refine ⟨S, hS, evals_pure c31 rfl hk ?_⟩
  simp only [sf31, initS_cons, initS_nil]
  have e2 := o1.b2s
  rw [sB_str hS.bit] at e2
  simp (disch := first|(simp only [Nat.reduceBEq,wE];done)|((repeat' (first|assumption|exact mAx _|refine mBx ?_ ?_|exact mCx (by assumption)|refine mDx ?_|refine mEx ?_ ?_ ?_|exact mFx|refine mGx ?_ ?_ ?_|exact mHx|exact mIx _|(simp only [wM,Nat.reduceAdd,Nat.reduceLT,Nat.reduceLeDiff];done)));done)|omega|decide) only [callT (Checked_ok k 3 a (ofN P) h.en hk (by omega) hc.2 ha hz hp), callT ev, e2, ↓wA,wB,wL,resOf,Nat.reduceBEq,Int.reduceBEq,Int.reduceBNe,Int.reduceLT,Int.reduceLE,Int.reduceAdd,Int.reduceSub,Int.reduceMul,Int.reduceToNat]
  exact ⟨_, rfl, rfl, GrownR.of_en g1⟩
end Go.Proofs.YtbomimhfldmlbaaDoor
