/- Trim, and what settings are. -/
import Derived.Test.YtpfkmdbdafpadaaDoorPO
set_option linter.unusedSimpArgs false
set_option linter.unusedVariables false
set_option maxHeartbeats 8000000
set_option maxRecDepth 40000
namespace Go.Abs
section
variable {C : Spec} {f : Nat → AV} {h : Hp} {K : AV → Hp → Prop}
def sNilC (h : Hp) : AV → Option (AV × Hp)
  | .ptr i o => some (.ptr i o, h)
  | _ => none
theorem wpOp_nil {x : SX} : wpOp C f h (.nilCheck x) K = andT (sNilC h (sev f x)) K .mk := by
  simp only [wpOp, sexec]
  cases sev f x <;> rfl
theorem sNilC_ptr {i o : Nat} : sNilC h (.ptr i o) = some (.ptr i o, h) := rfl
end
end Go.Abs
namespace Go.Pa
open Go Go.Abs
def c0 : List AV := repl [.bool false] 256
def asc : Nat → List AV
  | 0 => c0
  | 1 => splice c0 48 [.bool true]
  | _ => splice (splice c0 48 [.bool true]) 49 [.bool true]
def in01 (b : UInt8) : Bool := b == 48 || b == 49
theorem asc_len : ∀ i, (asc i).length = 256
  | 0 => by decide +kernel
  | 1 => by decide +kernel
  | _ + 2 => by show (splice (splice c0 48 [.bool true]) 49 [.bool true]).length = 256; decide +kernel
def isB : Option AV → Bool → Bool
  | some (.bool a), b => a == b
  | _, _ => false
theorem isB_eq : ∀ {o : Option AV} {b : Bool}, isB o b = true → o = some (.bool b) := by
  intro o b h
  unfold isB at h
  split at h
  · rw [eq_of_beq h]
  · cases h
theorem asc_all : ((List.range 256).all fun x => isB (splice (splice c0 48 [.bool true]) 49 [.bool true])[x]? (in01 (UInt8.ofNat x))) = true := by decide +kernel
theorem asc_at (b : UInt8) : (asc 2)[b.toNat]? = some (.bool (in01 b)) := by
  have := isB_eq (List.all_eq_true.1 asc_all b.toNat (List.mem_range.2 b.toNat_lt))
  rw [UInt8.ofNat_toNat] at this
  exact this
theorem asc_cell : ∀ i, (asc i).all AV.isCell = true
  | 0 => by decide +kernel
  | 1 => by decide +kernel
  | _ + 2 => by show (splice (splice c0 48 [.bool true]) 49 [.bool true]).all AV.isCell = true; decide +kernel
theorem asc_refs : ∀ i m, refsOK m (asc i) = true
  | 0, m => rfl
  | 1, m => rfl
  | _ + 2, m => rfl
end Go.Pa
namespace Go.Proofs.YtpfkmdbdafpadaaDoor
open Go Go.Abs Go.Pa

theorem f61 (id : Nat) (b : UInt8) (h : Hp) (hk : Hok h) (hb : Box h.blks id (asc 2)) : Evals Tryd.prog tab false (.func 61) [.ptr id 0, .int .u8 (b.toNat : Nat)] h (.bool (in01 b), h) := by
  refine evals_pure c61 rfl hk ?_
  simp only [sf61, initS_cons, initS_nil]
  have hl : b.toNat < 256 := b.toNat_lt
  have ix : ∀ h' : Hp, sIxA 256 1 h' (some b.toNat) (.ptr id 0) = some (.ptr id b.toNat, h') := fun h' => by rw [sIxA_ptr hl]; simp
  have ld : cellB h.blks id b.toNat = some (.bool (in01 b)) := by rw [hb.ld (Sub.refl _), asc_at]
  simp (disch := first|(simp only [Nat.reduceBEq,wE];done)|((repeat' (first|assumption|exact mAx _|refine mBx ?_ ?_|exact mCx (by assumption)|refine mDx ?_|refine mEx ?_ ?_ ?_|exact mFx|refine mGx ?_ ?_ ?_|exact mHx|exact mIx _|(simp only [wM,Nat.reduceAdd,Nat.reduceLT,Nat.reduceLeDiff];done)));done)|omega|decide) only [wpOp_nil, sNilC_ptr, ix, ld, ↓wA,wB,wL,resOf,Nat.reduceBEq,Int.reduceBEq,Int.reduceBNe,Int.reduceLT,Int.reduceLE,Int.reduceAdd,Int.reduceSub,Int.reduceMul,Int.reduceToNat]
  exact ⟨_, rfl, rfl, by (repeat' (first|assumption|exact mAx _|refine mBx ?_ ?_|exact mCx (by assumption)|refine mDx ?_|refine mEx ?_ ?_ ?_|exact mFx|refine mGx ?_ ?_ ?_|exact mHx|exact mIx _|(simp only [wM,Nat.reduceAdd,Nat.reduceLT,Nat.reduceLeDiff];done)))⟩

theorem trimL (id : Nat) (s : List UInt8) (h : Hp) (hk : Hok h) (hl : s.length ≤ 1000) (hb : Box h.blks id (asc 2)) : ∃ r h', Evals Tryd.prog tab false (.func 57) [.str s, .ptr id 0] h (.str r, h') ∧ Grown h h' ∧ (r = [] ↔ ∀ b ∈ s, in01 b = true) := by
  suffices H : ∃ v h', Evals Tryd.prog tab false (.func 57) [.str s, .ptr id 0] h (v, h') ∧ Grown h h' ∧ ∃ r, v = .str r ∧ (r = [] ↔ ∀ b ∈ s, in01 b = true) by
    obtain ⟨v, h', e, g, r, rfl, hr⟩ := H
    exact ⟨r, h', e, g, hr⟩
  refine evals_q c57 (fun v h' => ∃ r, v = .str r ∧ (r = [] ↔ ∀ b ∈ s, in01 b = true)) rfl hk ?_ (fun v h1 g q => ⟨fun _ => q, fun _ => q⟩)
  simp only [sf57, initS_cons, initS_nil]
  simp (disch := first|(simp only [Nat.reduceBEq,wE];done)|((repeat' (first|assumption|exact mAx _|refine mBx ?_ ?_|exact mCx (by assumption)|refine mDx ?_|refine mEx ?_ ?_ ?_|exact mFx|refine mGx ?_ ?_ ?_|exact mHx|exact mIx _|(simp only [wM,Nat.reduceAdd,Nat.reduceLT,Nat.reduceLeDiff];done)));done)|omega|decide) only [↓wA,wB,wL,resOf,Nat.reduceBEq,Int.reduceBEq,Int.reduceBNe,Int.reduceLT,Int.reduceLE,Int.reduceAdd,Int.reduceSub,Int.reduceMul,Int.reduceToNat]
  refine wloop (fun mm ss => ∃ (r : List UInt8) (u4 u7 u12 : AV), (mm = r.length) ∧ (r.length ≤ 1000 ∧ ((∀ b ∈ r, in01 b = true) ↔ ∀ b ∈ s, in01 b = true)) ∧ ss = { fr := [(0, .str r), (1, .ptr id 0), (4, u4), (7, u7), (12, u12)], hp := h.en }) (s.length) ?_ ?_
  ·
    refine ⟨s, _, _, _, by omega, ⟨hl, Iff.rfl⟩, rfl⟩
  rintro nA sA ⟨r, u4, u7, u12, hnA, ⟨rl, hr⟩, rfl⟩
  cases r with
  | nil =>
    simp (disch := first|(simp only [Nat.reduceBEq,wE];done)|((repeat' (first|assumption|exact mAx _|refine mBx ?_ ?_|exact mCx (by assumption)|refine mDx ?_|refine mEx ?_ ?_ ?_|exact mFx|refine mGx ?_ ?_ ?_|exact mHx|exact mIx _|(simp only [wM,Nat.reduceAdd,Nat.reduceLT,Nat.reduceLeDiff];done)));done)|omega|decide) only [↓wA,wB,wL,resOf,Nat.reduceBEq,Int.reduceBEq,Int.reduceBNe,Int.reduceLT,Int.reduceLE,Int.reduceAdd,Int.reduceSub,Int.reduceMul,Int.reduceToNat]
    exact ⟨_, rfl, Grown.en, _, rfl, ⟨fun _ => hr.1 (by simp), fun _ => rfl⟩⟩
  | cons x r =>
    have e1 : decide (0 < ((r.length + 1 : Nat) : Int)) = true := decide_eq_true (by omega)
    have e2 : ∀ h' : Hp, sIxT h' (some 0) (.str (x :: r)) = some (.int .u8 (x.toNat : Nat), h') := fun h' => by rw [sIxT_ok (by simp)]; rfl
    have ct := f61 id x h.en hk hb
    have e3 : ∀ h' : Hp, sSlTV h' (some (some 1)) none (.str (x :: r)) = some (.str r, h') := fun h' => by
      rw [sSlTV_ok (a := 1) (b := (x :: r).length) rfl rfl (by simp) (by omega)]
      simp
    by_cases hx : in01 x = true
    · rw [hx] at ct
      simp (disch := first|(simp only [Nat.reduceBEq,wE];done)|((repeat' (first|assumption|exact mAx _|refine mBx ?_ ?_|exact mCx (by assumption)|refine mDx ?_|refine mEx ?_ ?_ ?_|exact mFx|refine mGx ?_ ?_ ?_|exact mHx|exact mIx _|(simp only [wM,Nat.reduceAdd,Nat.reduceLT,Nat.reduceLeDiff];done)));done)|omega|decide) only [e1, e2, idx?_lit0, callT ct, e3, ↓wA,wB,wL,resOf,Nat.reduceBEq,Int.reduceBEq,Int.reduceBNe,Int.reduceLT,Int.reduceLE,Int.reduceAdd,Int.reduceSub,Int.reduceMul,Int.reduceToNat]
      refine ⟨_, ?_, r, _, _, _, rfl, ?_, rfl⟩
      · simp at hnA; omega
      exact ⟨by simp at rl; omega, by rw [← hr]; simp [hx]⟩
    · rw [Bool.eq_false_iff.2 hx] at ct
      simp (disch := first|(simp only [Nat.reduceBEq,wE];done)|((repeat' (first|assumption|exact mAx _|refine mBx ?_ ?_|exact mCx (by assumption)|refine mDx ?_|refine mEx ?_ ?_ ?_|exact mFx|refine mGx ?_ ?_ ?_|exact mHx|exact mIx _|(simp only [wM,Nat.reduceAdd,Nat.reduceLT,Nat.reduceLeDiff];done)));done)|omega|decide) only [e1, e2, idx?_lit0, callT ct, ↓wA,wB,wL,resOf,Nat.reduceBEq,Int.reduceBEq,Int.reduceBNe,Int.reduceLT,Int.reduceLE,Int.reduceAdd,Int.reduceSub,Int.reduceMul,Int.reduceToNat]
      exact ⟨_, rfl, Grown.en, _, rfl, ⟨fun h => by simp at h, fun h => absurd (hr.2 h x (by simp)) hx⟩⟩

theorem trimR (id : Nat) (s : List UInt8) (h : Hp) (hk : Hok h) (hl : s.length ≤ 1000) (hb : Box h.blks id (asc 2)) : ∃ r h', Evals Tryd.prog tab false (.func 58) [.str s, .ptr id 0] h (.str r, h') ∧ Grown h h' ∧ r.length ≤ 1000 ∧ ((∀ b ∈ r, in01 b = true) ↔ ∀ b ∈ s, in01 b = true) := by
  suffices H : ∃ v h', Evals Tryd.prog tab false (.func 58) [.str s, .ptr id 0] h (v, h') ∧ Grown h h' ∧ ∃ r : List UInt8, v = .str r ∧ r.length ≤ 1000 ∧ ((∀ b ∈ r, in01 b = true) ↔ ∀ b ∈ s, in01 b = true) by
    obtain ⟨v, h', e, g, r, rfl, hr⟩ := H
    exact ⟨r, h', e, g, hr⟩
  refine evals_q c58 (fun v h' => ∃ r : List UInt8, v = .str r ∧ r.length ≤ 1000 ∧ ((∀ b ∈ r, in01 b = true) ↔ ∀ b ∈ s, in01 b = true)) rfl hk ?_ (fun v h1 g q => ⟨fun _ => q, fun _ => q⟩)
  simp only [sf58, initS_cons, initS_nil]
  simp (disch := first|(simp only [Nat.reduceBEq,wE];done)|((repeat' (first|assumption|exact mAx _|refine mBx ?_ ?_|exact mCx (by assumption)|refine mDx ?_|refine mEx ?_ ?_ ?_|exact mFx|refine mGx ?_ ?_ ?_|exact mHx|exact mIx _|(simp only [wM,Nat.reduceAdd,Nat.reduceLT,Nat.reduceLeDiff];done)));done)|omega|decide) only [↓wA,wB,wL,resOf,Nat.reduceBEq,Int.reduceBEq,Int.reduceBNe,Int.reduceLT,Int.reduceLE,Int.reduceAdd,Int.reduceSub,Int.reduceMul,Int.reduceToNat]
  refine wloop (fun mm ss => ∃ (r : List UInt8) (u4 u7 u15 : AV), (mm = r.length) ∧ (r.length ≤ 1000 ∧ ((∀ b ∈ r, in01 b = true) ↔ ∀ b ∈ s, in01 b = true)) ∧ ss = { fr := [(0, .str r), (1, .ptr id 0), (4, u4), (7, u7), (15, u15)], hp := h.en }) (s.length) ?_ ?_
  ·
    refine ⟨s, _, _, _, by omega, ⟨hl, Iff.rfl⟩, rfl⟩
  rintro nA sA ⟨r, u4, u7, u15, hnA, ⟨rl, hr⟩, rfl⟩
  by_cases hn : r = []
  · subst hn
    simp (disch := first|(simp only [Nat.reduceBEq,wE];done)|((repeat' (first|assumption|exact mAx _|refine mBx ?_ ?_|exact mCx (by assumption)|refine mDx ?_|refine mEx ?_ ?_ ?_|exact mFx|refine mGx ?_ ?_ ?_|exact mHx|exact mIx _|(simp only [wM,Nat.reduceAdd,Nat.reduceLT,Nat.reduceLeDiff];done)));done)|omega|decide) only [↓wA,wB,wL,resOf,Nat.reduceBEq,Int.reduceBEq,Int.reduceBNe,Int.reduceLT,Int.reduceLE,Int.reduceAdd,Int.reduceSub,Int.reduceMul,Int.reduceToNat]
    exact ⟨_, rfl, Grown.en, _, rfl, by simp, hr⟩
  · obtain ⟨r, x, rfl⟩ : ∃ q x, r = q ++ [x] := ⟨r.dropLast, r.getLast hn, (List.dropLast_concat_getLast hn).symm⟩
    have el : (r ++ [x]).length = r.length + 1 := by simp
    have e1 : decide (0 < (((r ++ [x]).length : Nat) : Int)) = true := decide_eq_true (by rw [el]; omega)
    have e0 : (((r ++ [x]).length : Nat) : Int) - 1 = ((r.length : Nat) : Int) := by rw [el]; omega
    have e2 : ∀ h' : Hp, sIxT h' (some r.length) (.str (r ++ [x])) = some (.int .u8 (x.toNat : Nat), h') := fun h' => by rw [sIxT_ok (by simp)]; simp [List.getD_eq_getElem?_getD]
    have ct := f61 id x h.en hk hb
    have e3 : ∀ h' : Hp, sSlTV h' none (some (some r.length)) (.str (r ++ [x])) = some (.str r, h') := fun h' => by
      rw [sSlTV_ok (a := 0) (b := r.length) rfl rfl (by simp) (by simp)]
      simp
    by_cases hx : in01 x = true
    · rw [hx] at ct
      simp (disch := first|(simp only [Nat.reduceBEq,wE];done)|((repeat' (first|assumption|exact mAx _|refine mBx ?_ ?_|exact mCx (by assumption)|refine mDx ?_|refine mEx ?_ ?_ ?_|exact mFx|refine mGx ?_ ?_ ?_|exact mHx|exact mIx _|(simp only [wM,Nat.reduceAdd,Nat.reduceLT,Nat.reduceLeDiff];done)));done)|omega|decide) only [e1, e0, e2, callT ct, e3, ↓wA,wB,wL,resOf,Nat.reduceBEq,Int.reduceBEq,Int.reduceBNe,Int.reduceLT,Int.reduceLE,Int.reduceAdd,Int.reduceSub,Int.reduceMul,Int.reduceToNat]
      refine ⟨_, ?_, r, _, _, _, rfl, ?_, rfl⟩
      · rw [el] at hnA; omega
      exact ⟨by omega, by rw [← hr]; simp [hx, or_imp, forall_and]⟩
    · rw [Bool.eq_false_iff.2 hx] at ct
      simp (disch := first|(simp only [Nat.reduceBEq,wE];done)|((repeat' (first|assumption|exact mAx _|refine mBx ?_ ?_|exact mCx (by assumption)|refine mDx ?_|refine mEx ?_ ?_ ?_|exact mFx|refine mGx ?_ ?_ ?_|exact mHx|exact mIx _|(simp only [wM,Nat.reduceAdd,Nat.reduceLT,Nat.reduceLeDiff];done)));done)|omega|decide) only [e1, e0, e2, callT ct, ↓wA,wB,wL,resOf,Nat.reduceBEq,Int.reduceBEq,Int.reduceBNe,Int.reduceLT,Int.reduceLE,Int.reduceAdd,Int.reduceSub,Int.reduceMul,Int.reduceToNat]
      exact ⟨_, rfl, Grown.en, _, rfl, rl, hr⟩
end Go.Proofs.YtpfkmdbdafpadaaDoor
