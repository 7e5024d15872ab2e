/- Benes networks: the reference's; numbers of settings. -/
import Derived.Test.YtpfkmdbdafpadaaDoorPN
set_option linter.unusedSimpArgs false
set_option linter.unusedVariables false
set_option maxHeartbeats 4000000
set_option maxRecDepth 20000
namespace Go.Abs
theorem bytesC_ints : ∀ zs : List Int, bytesC (ints .u8 zs) = some (zs.map fun z => UInt8.ofNat z.toNat)
  | [] => rfl
  | z :: r => by
    have ih := bytesC_ints r
    simp only [ints, List.map_cons] at ih ⊢
    simp only [bytesC, ih, Option.map_some]
theorem Ints.b2s {h : Hp} {a : AV} {zs : List Int} (H : Ints h.blks .u8 a zs) (hne : a ≠ .esl) : aB2S h a = some (.str (zs.map fun z => UInt8.ofNat z.toNat), h) := by
  have hs := Arr.src H (by omega) h rfl
  obtain ⟨hl, ⟨h0, rfl | rfl⟩ | ⟨id, off, cap, rfl, hcap, hc⟩⟩ := H
  · have : zs = [] := List.length_eq_zero_iff.1 h0
    subst this
    rfl
  · exact absurd rfl hne
  · simp only [aB2S, hs, Nat.beq_refl, cond_true, bytesC_ints, Option.map_some]
theorem Own.b2s {c : Nat} {h : Hp} {a : AV} {zs : List Int} (O : Own c h.blks .u8 a zs) : aB2S h a = some (.str (zs.map fun z => UInt8.ofNat z.toNat), h) := by
  refine O.ints.b2s fun e => ?_
  subst e
  obtain ⟨_, ⟨_, h⟩ | ⟨_, _, _, h, _⟩⟩ := O <;> cases h
theorem sBS_2v {h : Hp} {u v : AV} (hu : u.parts = some [u]) (hv : v.parts = some [v]) : sBS [.nilsl] 2 1 h [(0, u), (1, v)] = some (.sl h.next 0 2 (some 2) 1, { next := h.next + 1, blks := (h.next, { cells := [u, v], ch := h.next, wr := true }) :: h.blks, loops := h.loops, base := h.base, esc := h.esc }) := by
  have e : repl [AV.nilsl] 2 = [.nilsl, .nilsl] := rfl
  simp [sBS, fillA, hu, hv, splice, e, Hp.new]
  rfl
end Go.Abs
namespace Go.Pa
open Go Go.Abs
/- The binary digits of a number. -/
def dig (x many : Nat) : List Nat := (List.range many).map fun i => x / 2 ^ i % 2
theorem dig_len {x many : Nat} : (dig x many).length = many := by simp [dig]
theorem dig_bits {x many : Nat} : Bits (dig x many) := fun b hb => by
  obtain ⟨i, _, rfl⟩ := List.mem_map.1 hb
  exact Nat.mod_lt _ (by omega)
theorem dig_succ {x many : Nat} : dig x (many + 1) = dig x many ++ [x / 2 ^ many % 2] := by simp [dig, List.range_succ]
def sB (S : List Nat) : List Int := S.map fun b : Nat => ((48 + b : Nat) : Int)
theorem sB_str {S : List Nat} (h : Bits S) : (sB S).map (fun z => UInt8.ofNat z.toNat) = strB S := by
  unfold sB strB
  rw [List.map_map]
  refine List.map_congr_left fun b _ => ?_
  simp only [Function.comp, Int.toNat_natCast]
def waysN (k : Nat) (zs : List Int) : Nat → Nat
  | 0 => 0
  | x + 1 => waysN k zs x + if ofN (outs k (dig x (swc k))) = zs then 1 else 0
theorem waysN_le {k : Nat} {zs : List Int} : ∀ x, waysN k zs x ≤ x
  | 0 => Nat.le_refl _
  | x + 1 => by have := waysN_le (k := k) (zs := zs) x; rw [waysN]; split <;> omega
end Go.Pa
namespace Go.Proofs.YtpfkmdbdafpadaaDoor
open Go Go.Abs Go.Pa

theorem f38 (k x : Nat) (h : Hp) (hk : Hok h) (h3 : 1 ≤ k ∧ k ≤ 3) (hx : x ≤ 1000000000) :
    Evals Tryd.prog tab false (.func 38) [.int .i64 k, .int .i64 x] h (.str (strB (dig x (swc k))), h) := by
  refine evals_pure c38 rfl hk ?_ rfl
  simp only [sf38, initS_cons, initS_nil]
  have n20 := (swc_val h3).2.1
  have SW := f36 k h.en hk h3
  obtain ⟨n, en⟩ : ∃ n, n = swc k := ⟨_, rfl⟩
  rw [← en] at SW n20
  have mk := sMks_ok (h := h.en) (z := [.int .u8 0]) (n := 1) (l := n) (c := n) (Nat.le_refl _) (by omega)
  have gA : Grown h (h.en.pu (repl [.int .u8 0] n)) := Grown.pu Grown.en (by rw [repl_ints]; exact refsOK_ints)
  have rep : Own h.next (h.en.pu (repl [.int .u8 0] n)).blks .u8 (.sl h.next 0 n (some n) 1) (List.replicate n 0) :=
    Own.fresh (Nat.le_refl _) (by simp) (by rw [repl_ints]; exact List.take_of_length_le (by simp [ints_len])) (by rw [repl_ints]; simp [ints_len]) (Nat.le_refl _)
  have la : ∀ h' : Hp, sLen h' (.sl h.next 0 n (some n) 1) = some (.int .i64 (n : Int), h') := fun _ => rfl
  simp (disch := first|(simp only [Nat.reduceBEq,wE];done)|((repeat' (first|assumption|exact mAx _|refine mBx ?_ ?_|exact mCx (by assumption)|refine mDx ?_|refine mEx ?_ ?_ ?_|exact mFx|refine mGx ?_ ?_ ?_|exact mHx|exact mIx _|(simp only [wM,Nat.reduceAdd,Nat.reduceLT,Nat.reduceLeDiff];done)));done)|omega|decide) only [callT SW, mk, ↓wA,wB,wL,resOf,Nat.reduceBEq,Int.reduceBEq,Int.reduceBNe,Int.reduceLT,Int.reduceLE,Int.reduceAdd,Int.reduceSub,Int.reduceMul,Int.reduceToNat]
  refine wloop (fun mm ss => ∃ (i : Nat) (L : List Int) (h1 : Hp) (u4 u6 u13 : AV), (mm = n - i) ∧ (i ≤ n ∧ Grown h h1 ∧ Own h.next h1.blks .u8 (.sl h.next 0 n (some n) 1) L ∧ L.length = n ∧ L.take i = sB (dig x i)) ∧ ss = { fr := [(0, .int .i64 k), (1, .int .i64 x), (4, u4), (5, .sl h.next 0 n (some n) 1), (6, u6), (11, .int .i64 n), (12, .int .i64 i), (13, u13)], hp := h1 }) (n) ?_ ?_
  ·
    refine ⟨0, List.replicate n 0, _, _, _, _, by omega, ⟨by omega, gA, rep, by simp, by simp [sB, dig]⟩, rfl⟩
  rintro nA sA ⟨i, L, h1, u4, u6, u13, hnA, ⟨hi, g1, o1, lL, hL⟩, rfl⟩
  have k1 := g1.ok hk
  simp (disch := first|(simp only [Nat.reduceBEq,wE];done)|((repeat' (first|assumption|exact mAx _|refine mBx ?_ ?_|exact mCx (by assumption)|refine mDx ?_|refine mEx ?_ ?_ ?_|exact mFx|refine mGx ?_ ?_ ?_|exact mHx|exact mIx _|(simp only [wM,Nat.reduceAdd,Nat.reduceLT,Nat.reduceLeDiff];done)));done)|omega|decide) only [↓wA,wB,wL,resOf,Nat.reduceBEq,Int.reduceBEq,Int.reduceBNe,Int.reduceLT,Int.reduceLE,Int.reduceAdd,Int.reduceSub,Int.reduceMul,Int.reduceToNat]
  refine ifThen_intro (fun e => ?_) (fun e => ?_) <;> have eq := e <;> try simp [-List.getD_eq_getElem?_getD] at eq
  · have s1 := sBin_shrN (a := x) (j := i) (by omega)
    have s2 : sBin .and .no (.int .i64 ((x / 2 ^ i : Nat) : Int)) (.int .i64 1) = some (.int .i64 ((x / 2 ^ i % 2 : Nat) : Int)) := by rw [sBin_and1]; rfl
    obtain ⟨b, eb⟩ : ∃ b, b = x / 2 ^ i % 2 := ⟨_, rfl⟩
    rw [← eb] at s2
    have b2 : b < 2 := by omega
    have w1 : IntKind.wrap .u8 (b : Int) = (b : Int) := wrap_u8' (by omega) (by omega)
    have w2 : ∀ c, sBin .add c (.int .u8 48) (.int .u8 (b : Int)) = some (.int .u8 ((48 + b : Nat) : Int)) := fun c => by
      rw [sBin_add, wrap_u8' (by omega) (by omega)]; congr 2
    have w3 : IntKind.wrap .u8 (48 + (b : Int)) = ((48 + b : Nat) : Int) := by rw [wrap_u8' (by omega) (by omega)]; omega
    obtain ⟨h2, e2, o2, g2⟩ := own_setI (v := ((48 + b : Nat) : Int)) (i := i) hk g1 o1 (by omega)
    simp (disch := first|(simp only [Nat.reduceBEq,wE];done)|((repeat' (first|assumption|exact mAx _|refine mBx ?_ ?_|exact mCx (by assumption)|refine mDx ?_|refine mEx ?_ ?_ ?_|exact mFx|refine mGx ?_ ?_ ?_|exact mHx|exact mIx _|(simp only [wM,Nat.reduceAdd,Nat.reduceLT,Nat.reduceLeDiff];done)));done)|omega|decide) only [e, s1, s2, w1, w2, w3, o1.ints.ix, e2, ↓wA,wB,wL,resOf,Nat.reduceBEq,Int.reduceBEq,Int.reduceBNe,Int.reduceLT,Int.reduceLE,Int.reduceAdd,Int.reduceSub,Int.reduceMul,Int.reduceToNat]
    refine ⟨_, ?_, i + 1, L.set i ((48 + b : Nat) : Int), h2, _, _, _, rfl, ?_, rfl⟩
    · omega
    refine ⟨by omega, g2, o2, by simpa using lL, ?_⟩
    rw [List.take_succ_eq_append_getElem (by simp; omega), List.take_set_of_le (by omega), hL, dig_succ, ← eb]
    simp [sB]
  · rw [List.take_of_length_le (by omega)] at hL
    have e1 := o1.b2s
    rw [hL, sB_str dig_bits] at e1
    simp (disch := first|(simp only [Nat.reduceBEq,wE];done)|((repeat' (first|assumption|exact mAx _|refine mBx ?_ ?_|exact mCx (by assumption)|refine mDx ?_|refine mEx ?_ ?_ ?_|exact mFx|refine mGx ?_ ?_ ?_|exact mHx|exact mIx _|(simp only [wM,Nat.reduceAdd,Nat.reduceLT,Nat.reduceLeDiff];done)));done)|omega|decide) only [e, e1, ↓wA,wB,wL,resOf,Nat.reduceBEq,Int.reduceBEq,Int.reduceBNe,Int.reduceLT,Int.reduceLE,Int.reduceAdd,Int.reduceSub,Int.reduceMul,Int.reduceToNat]
    refine ⟨_, rfl, ?_, g1⟩
    rw [← en, show n = i by omega]

theorem f37 (a b : AV) (xs ys : List Int) (h : Hp) (hk : Hok h) (ha : Ints h.blks .i64 a xs) (hb : Ints h.blks .i64 b ys) (hx : xs.length ≤ 1000) (hy : ys.length ≤ 1000) :
    Evals Tryd.prog tab false (.func 37) [a, b] h (.bool (decide (xs = ys)), h) := by
  refine evals_pure c37 rfl hk ?_
  simp only [sf37, initS_cons, initS_nil]
  by_cases e0 : xs.length = ys.length
  · have e0t : ((xs.length : Int) != (ys.length : Int)) = false := by simp; omega
    simp (disch := first|(simp only [Nat.reduceBEq,wE];done)|((repeat' (first|assumption|exact mAx _|refine mBx ?_ ?_|exact mCx (by assumption)|refine mDx ?_|refine mEx ?_ ?_ ?_|exact mFx|refine mGx ?_ ?_ ?_|exact mHx|exact mIx _|(simp only [wM,Nat.reduceAdd,Nat.reduceLT,Nat.reduceLeDiff];done)));done)|omega|decide) only [ha.len, hb.len, e0t, ↓wA,wB,wL,resOf,Nat.reduceBEq,Int.reduceBEq,Int.reduceBNe,Int.reduceLT,Int.reduceLE,Int.reduceAdd,Int.reduceSub,Int.reduceMul,Int.reduceToNat]
    refine wloop (fun mm ss => ∃ (i : Nat) (u4 u5 u10 u14 u24 : AV), (mm = xs.length - i) ∧ (i ≤ xs.length ∧ xs.take i = ys.take i) ∧ ss = { fr := [(0, a), (1, b), (4, u4), (5, u5), (10, u10), (12, .int .i64 xs.length), (13, .int .i64 i), (14, u14), (24, u24)], hp := h.en }) (xs.length) ?_ ?_
    ·
      refine ⟨0, _, _, _, _, _, by omega, ⟨by omega, by simp⟩, rfl⟩
    rintro nA sA ⟨i, u4, u5, u10, u14, u24, hnA, ⟨hi, hp⟩, rfl⟩
    simp (disch := first|(simp only [Nat.reduceBEq,wE];done)|((repeat' (first|assumption|exact mAx _|refine mBx ?_ ?_|exact mCx (by assumption)|refine mDx ?_|refine mEx ?_ ?_ ?_|exact mFx|refine mGx ?_ ?_ ?_|exact mHx|exact mIx _|(simp only [wM,Nat.reduceAdd,Nat.reduceLT,Nat.reduceLeDiff];done)));done)|omega|decide) only [↓wA,wB,wL,resOf,Nat.reduceBEq,Int.reduceBEq,Int.reduceBNe,Int.reduceLT,Int.reduceLE,Int.reduceAdd,Int.reduceSub,Int.reduceMul,Int.reduceToNat]
    refine ifThen_intro (fun e => ?_) (fun e => ?_) <;> have eq := e <;> try simp [-List.getD_eq_getElem?_getD] at eq
    · have hy2 : i < ys.length := by omega
      by_cases c : xs.getD i 0 = ys.getD i 0
      · have ct : (xs.getD i 0 != ys.getD i 0) = false := by simpa using c
        simp (disch := first|(simp only [Nat.reduceBEq,wE];done)|((repeat' (first|assumption|exact mAx _|refine mBx ?_ ?_|exact mCx (by assumption)|refine mDx ?_|refine mEx ?_ ?_ ?_|exact mFx|refine mGx ?_ ?_ ?_|exact mHx|exact mIx _|(simp only [wM,Nat.reduceAdd,Nat.reduceLT,Nat.reduceLeDiff];done)));done)|omega|decide) only [e, ha.ix, ha.ld, hb.ix, hb.ld, ct, ↓wA,wB,wL,resOf,Nat.reduceBEq,Int.reduceBEq,Int.reduceBNe,Int.reduceLT,Int.reduceLE,Int.reduceAdd,Int.reduceSub,Int.reduceMul,Int.reduceToNat]
        refine ⟨_, ?_, i + 1, _, _, _, _, _, rfl, ?_, rfl⟩
        · omega
        exact ⟨by omega, take_step eq hy2 hp c⟩
      · have ct : (xs.getD i 0 != ys.getD i 0) = true := by simpa using c
        simp (disch := first|(simp only [Nat.reduceBEq,wE];done)|((repeat' (first|assumption|exact mAx _|refine mBx ?_ ?_|exact mCx (by assumption)|refine mDx ?_|refine mEx ?_ ?_ ?_|exact mFx|refine mGx ?_ ?_ ?_|exact mHx|exact mIx _|(simp only [wM,Nat.reduceAdd,Nat.reduceLT,Nat.reduceLeDiff];done)));done)|omega|decide) only [e, ha.ix, ha.ld, hb.ix, hb.ld, ct, ↓wA,wB,wL,resOf,Nat.reduceBEq,Int.reduceBEq,Int.reduceBNe,Int.reduceLT,Int.reduceLE,Int.reduceAdd,Int.reduceSub,Int.reduceMul,Int.reduceToNat]
        refine ⟨_, rfl, ?_, by (repeat' (first|assumption|exact mAx _|refine mBx ?_ ?_|exact mCx (by assumption)|refine mDx ?_|refine mEx ?_ ?_ ?_|exact mFx|refine mGx ?_ ?_ ?_|exact mHx|exact mIx _|(simp only [wM,Nat.reduceAdd,Nat.reduceLT,Nat.reduceLeDiff];done)))⟩
        rw [decide_eq_false fun h => c (by rw [h])]
    · simp (disch := first|(simp only [Nat.reduceBEq,wE];done)|((repeat' (first|assumption|exact mAx _|refine mBx ?_ ?_|exact mCx (by assumption)|refine mDx ?_|refine mEx ?_ ?_ ?_|exact mFx|refine mGx ?_ ?_ ?_|exact mHx|exact mIx _|(simp only [wM,Nat.reduceAdd,Nat.reduceLT,Nat.reduceLeDiff];done)));done)|omega|decide) only [e, ↓wA,wB,wL,resOf,Nat.reduceBEq,Int.reduceBEq,Int.reduceBNe,Int.reduceLT,Int.reduceLE,Int.reduceAdd,Int.reduceSub,Int.reduceMul,Int.reduceToNat]
      refine ⟨_, rfl, ?_, by (repeat' (first|assumption|exact mAx _|refine mBx ?_ ?_|exact mCx (by assumption)|refine mDx ?_|refine mEx ?_ ?_ ?_|exact mFx|refine mGx ?_ ?_ ?_|exact mHx|exact mIx _|(simp only [wM,Nat.reduceAdd,Nat.reduceLT,Nat.reduceLeDiff];done)))⟩
      rw [List.take_of_length_le (by omega), List.take_of_length_le (by omega)] at hp
      rw [decide_eq_true hp]
  · have e0t : ((xs.length : Int) != (ys.length : Int)) = true := by simp; omega
    simp (disch := first|(simp only [Nat.reduceBEq,wE];done)|((repeat' (first|assumption|exact mAx _|refine mBx ?_ ?_|exact mCx (by assumption)|refine mDx ?_|refine mEx ?_ ?_ ?_|exact mFx|refine mGx ?_ ?_ ?_|exact mHx|exact mIx _|(simp only [wM,Nat.reduceAdd,Nat.reduceLT,Nat.reduceLeDiff];done)));done)|omega|decide) only [ha.len, hb.len, e0t, ↓wA,wB,wL,resOf,Nat.reduceBEq,Int.reduceBEq,Int.reduceBNe,Int.reduceLT,Int.reduceLE,Int.reduceAdd,Int.reduceSub,Int.reduceMul,Int.reduceToNat]
    refine ⟨_, rfl, ?_, by (repeat' (first|assumption|exact mAx _|refine mBx ?_ ?_|exact mCx (by assumption)|refine mDx ?_|refine mEx ?_ ?_ ?_|exact mFx|refine mGx ?_ ?_ ?_|exact mHx|exact mIx _|(simp only [wM,Nat.reduceAdd,Nat.reduceLT,Nat.reduceLeDiff];done)))⟩
    rw [decide_eq_false fun h => e0 (by rw [h])]
end Go.Proofs.YtpfkmdbdafpadaaDoor
