/- Benes networks: what settings do. -/
import Derived.Test.YtpfkmdbdafpadaaDoorPM
import Derived.Test.YtpfkmdbdafpadaaDoorPH
import Derived.Test.YtpfkmdbdafpadaaDoorKC
set_option linter.unusedSimpArgs false
set_option linter.unusedVariables false
set_option maxHeartbeats 4000000
set_option maxRecDepth 20000
namespace Go.Abs
theorem wrap_u8' {n : Int} (h1 : 0 ≤ n) (h2 : n ≤ 255) : IntKind.wrap .u8 n = n := by
  simp only [IntKind.wrap, IntKind.bits, IntKind.signed]
  simp
  omega
def xorI (a b : Int) : Int := IntKind.wrap .i64 ((BitVec.ofInt 64 a ^^^ BitVec.ofInt 64 b).toNat : Int)
theorem sBin_xor {a b : Int} : sBin .xor .no (.int .i64 a) (.int .i64 b) = some (.int .i64 (xorI a b)) := (Eq.refl _).trans rfl
theorem xorC : ((List.range 2).all fun x => (List.range 2).all fun y => decide (xorI ((x : Nat) : Int) ((y : Nat) : Int) = (((x + y) % 2 : Nat) : Int))) = true := by decide +kernel
theorem xor01 {x y : Nat} (hx : x < 2) (hy : y < 2) : xorI (x : Int) (y : Int) = (((x + y) % 2 : Nat) : Int) := by
  have := List.all_eq_true.1 (List.all_eq_true.1 xorC x (List.mem_range.2 hx)) y (List.mem_range.2 hy)
  exact of_decide_eq_true this
theorem sBuildA_2v {u l x y : AV} (hu : u.parts = some [u]) (hl : l.parts = some [l]) : sBuildA [x, y] 1 [(0, u), (1, l)] = some (.ag [u, l]) := by
  simp [sBuildA, fillA, hu, hl, splice]
  rfl
theorem sStore_agV {n m i base : Nat} {esc : Bool} {cs vs : List AV} {bs : List (Nat × Blk)} {ls : List (Nat × LoopA)} (hk : HokR i bs ls) (h1 : vs.length = n) (h2 : cs.length = n) (hc : vs.all AV.isCell = true) :
    sStore n { next := m, blks := (i, { cells := cs, ch := i, wr := true }) :: bs, loops := ls, base, esc } (.ag vs) (.ptr i 0) = some (.any, { next := m, blks := (i, { cells := vs, ch := i, wr := true }) :: bs, loops := ls, base, esc := esc || (Nat.blt i base && vs.any AV.hasRef) }) := by
  subst h1
  have e1 : lkB ((i, { cells := cs, ch := i, wr := true }) :: bs) i = some { cells := cs, ch := i, wr := true } := lkB_top
  have e3 : Nat.ble (0 + vs.length) cs.length = true := Nat.ble_eq_true_of_le (by omega)
  have e4 : trunc ((i, { cells := cs, ch := i, wr := true }) :: bs) i i 0 = (i, { cells := cs, ch := i, wr := true }) :: bs := by
    have : Nat.blt i i = false := by
      cases hb : Nat.blt i i
      · rfl
      · exact absurd (Nat.le_of_ble_eq_true hb) (by omega)
    simp [trunc, this, trunc_old (fun x hx => (hk.blk hx).1)]
  have hs : splice cs 0 vs = vs := by simp [splice, ← h2]
  simp only [sStore, AV.parts, Nat.beq_refl, cond_true, Hp.write, e1, e3, hc, Bool.and_self, e4, setB, hs, Option.map_some]
/-- What a write to an array leaves alone: blocks that were made later. -/
def Kept' (d : Nat) (bs bs' : List (Nat × Blk)) : Prop := ∀ i b, d ≤ i → d ≤ b.ch → lkB bs i = some b → lkB bs' i = some b
theorem OwnA.keep' {sz c d n : Nat} {bs bs' : List (Nat × Blk)} {s : AV} {cs : List AV} (O : OwnA sz c bs s n cs) (h : Kept' d bs bs') (hd : d ≤ c) : OwnA sz c bs' s n cs := by
  obtain ⟨hl, O | ⟨id, b, cap, h1, h2, h3, h4, h5, h6⟩⟩ := O
  · exact ⟨hl, .inl O⟩
  · exact ⟨hl, .inr ⟨id, b, cap, h1, h _ _ (by omega) (by omega) h2, h3, h4, h5, h6⟩⟩
theorem ArrB.own {lim : Nat} {bs : List (Nat × Blk)} {id n : Nat} {zs : List Int} (A : ArrB lim bs id zs) (hn : zs.length = n) : Own lim bs .i64 (.sl id 0 n (some n) 1) zs := by
  subst hn
  exact ⟨by simp [ints_len], .inr ⟨id, _, some zs.length, rfl, A.1, List.take_of_length_le (by simp [ints_len]), A.2, A.2, rfl, by simp [ints_len], Nat.le_refl _⟩⟩
end Go.Abs
namespace Go.Pa
open Go Go.Abs
def strB (S : List Nat) : List UInt8 := S.map fun b => UInt8.ofNat (48 + b)
def Bits (S : List Nat) : Prop := ∀ b ∈ S, b < 2
theorem strB_len {S : List Nat} : (strB S).length = S.length := by simp [strB]
theorem Bits.nt {S : List Nat} (h : Bits S) (i : Nat) : nt S i < 2 := by
  by_cases hi : i < S.length
  · rw [nt_eq hi]; exact h _ (List.getElem_mem hi)
  · have : Go.Pa.nt S i = 0 := by simp [Go.Pa.nt, List.getD_eq_getElem?_getD, List.getElem?_eq_none (show S.length ≤ i by omega)]
    omega
theorem Bits.take {S : List Nat} (h : Bits S) (n : Nat) : Bits (S.take n) := fun b hb => h b (List.mem_of_mem_take hb)
theorem Bits.drop {S : List Nat} (h : Bits S) (n : Nat) : Bits (S.drop n) := fun b hb => h b (List.mem_of_mem_drop hb)
theorem ixB {S : List Nat} (hb : Bits S) {i : Nat} (hi : i < S.length) (h : Hp) : sIxT h (some i) (.str (strB S)) = some (.int .u8 ((48 + nt S i : Nat) : Int), h) := by
  rw [sIxT_ok (by rw [strB_len]; exact hi)]
  have hb' := hb.nt i
  have e : (strB S).getD i 0 = UInt8.ofNat (48 + nt S i) := by
    simp [strB, List.getD_eq_getElem?_getD, List.getElem?_eq_getElem hi, Go.Pa.nt]
  have e2 : (UInt8.ofNat (48 + nt S i)).toNat = 48 + nt S i := by
    have : nt S i = 0 ∨ nt S i = 1 := by omega
    rcases this with h | h <;> rw [h] <;> rfl
  rw [e, e2]
theorem slB {S : List Nat} {lo hi : Option (Option Nat)} {a b : Nat} (ea : bndV 0 lo = some a) (eb : bndV S.length hi = some b) (h1 : a ≤ b) (h2 : b ≤ S.length) (h : Hp) : sSlTV h lo hi (.str (strB S)) = some (.str (strB ((S.drop a).take (b - a))), h) := by
  rw [sSlTV_ok ea (by rw [strB_len]; exact eb) h1 (by rw [strB_len]; exact h2)]
  simp [strB]
theorem nt_take {S : List Nat} {n i : Nat} (h : i < n) : nt (S.take n) i = nt S i := by
  simp only [nt, List.getD_eq_getElem?_getD]
  rw [List.getElem?_take_of_lt h]
theorem nt_drop {S : List Nat} {n i : Nat} : nt (S.drop n) i = nt S (n + i) := by
  simp only [nt, List.getD_eq_getElem?_getD, List.getElem?_drop]
theorem outs_len : ∀ {k : Nat} {S : List Nat}, 1 ≤ k → (outs k S).length = 2 ^ k
  | 0, _, h => absurd h (by omega)
  | 1, _, _ => rfl
  | k + 2, S, _ => by simp [outs]
theorem outs_at {k : Nat} {S : List Nat} {i : Nat} (h : i < 2 ^ (k + 2)) : nt (outs (k + 2) S) i =
    2 * nt (if (i % 2 + nt S (i / 2)) % 2 = 0 then outs (k + 1) ((S.drop (2 ^ (k + 1))).take (swc (k + 1))) else outs (k + 1) ((S.drop (2 ^ (k + 1) + swc (k + 1))).take (swc (k + 1)))) (i / 2) +
      ((i % 2 + nt S (i / 2)) % 2 + nt S (2 ^ (k + 1) + 2 * swc (k + 1) + nt (if (i % 2 + nt S (i / 2)) % 2 = 0 then outs (k + 1) ((S.drop (2 ^ (k + 1))).take (swc (k + 1))) else outs (k + 1) ((S.drop (2 ^ (k + 1) + swc (k + 1))).take (swc (k + 1)))) (i / 2))) % 2 := by
  rw [nt_eq (by rw [outs_len (by omega)]; exact h)]
  simp [outs]
theorem outs_lt : ∀ (k : Nat) (S : List Nat) (i : Nat), nt (outs k S) i < 2 ^ k
  | 0, S, i => by simp [outs, nt]
  | 1, S, 0 => by simp [outs, nt]; omega
  | 1, S, 1 => by simp [outs, nt]; omega
  | 1, S, i + 2 => by simp [outs, nt]
  | k + 2, S, i => by
    have p : 0 < 2 ^ (k + 2) := Nat.pow_pos (by omega)
    by_cases h : i < 2 ^ (k + 2)
    · rw [outs_at h]
      have e : 2 ^ (k + 2) = 2 * 2 ^ (k + 1) := by rw [Nat.pow_succ 2 (k + 1)]; omega
      have h1 := outs_lt (k + 1) ((S.drop (2 ^ (k + 1))).take (swc (k + 1))) (i / 2)
      have h2 := outs_lt (k + 1) ((S.drop (2 ^ (k + 1) + swc (k + 1))).take (swc (k + 1))) (i / 2)
      split <;> omega
    · have : nt (outs (k + 2) S) i = 0 := by simp [nt, List.getD_eq_getElem?_getD, List.getElem?_eq_none (show (outs (k + 2) S).length ≤ i by rw [outs_len (by omega)]; omega)]
      omega
theorem swc_val {k : Nat} (h : 1 ≤ k ∧ k ≤ 3) : (2 * k - 1) * 2 ^ (k - 1) = swc k ∧ swc k ≤ 20 ∧ 1 ≤ swc k := by
  have : k = 1 ∨ k = 2 ∨ k = 3 := by omega
  rcases this with rfl | rfl | rfl <;> decide
end Go.Pa
namespace Go.Proofs.YtpfkmdbdafpadaaDoor
open Go Go.Abs Go.Pa

theorem f50 (b x : Nat) (h : Hp) (hk : Hok h) (hb : b < 2) (hx : x < 2) : Evals Tryd.prog tab false (.func 50) [.int .u8 ((48 + b : Nat) : Int), .int .i64 x] h (.int .i64 (((x + b) % 2 : Nat) : Int), h) := by
  refine evals_pure c50 rfl hk ?_
  simp only [sf50, initS_cons, initS_nil]
  have w1 : IntKind.wrap .u8 (((48 + b : Nat) : Int) - 48) = (b : Int) := by rw [wrap_u8' (by omega) (by omega)]; omega
  have w2 : IntKind.wrap .i64 (b : Int) = b := wrap_i64 (by omega) (by omega)
  have s1 : ∀ c, sBin .sub c (.int .u8 ((48 + b : Nat) : Int)) (.int .u8 48) = some (.int .u8 (b : Int)) := fun c => by rw [sBin_sub, w1]
  simp (disch := first|(simp only [Nat.reduceBEq,wE];done)|((repeat' (first|assumption|exact mAx _|refine mBx ?_ ?_|exact mCx (by assumption)|refine mDx ?_|refine mEx ?_ ?_ ?_|exact mFx|refine mGx ?_ ?_ ?_|exact mHx|exact mIx _|(simp only [wM,Nat.reduceAdd,Nat.reduceLT,Nat.reduceLeDiff];done)));done)|omega|decide) only [s1, w1, w2, sBin_xor, xor01 hx hb, ↓wA,wB,wL,resOf,Nat.reduceBEq,Int.reduceBEq,Int.reduceBNe,Int.reduceLT,Int.reduceLE,Int.reduceAdd,Int.reduceSub,Int.reduceMul,Int.reduceToNat]
  exact ⟨_, rfl, rfl, by (repeat' (first|assumption|exact mAx _|refine mBx ?_ ?_|exact mCx (by assumption)|refine mDx ?_|refine mEx ?_ ?_ ?_|exact mFx|refine mGx ?_ ?_ ?_|exact mHx|exact mIx _|(simp only [wM,Nat.reduceAdd,Nat.reduceLT,Nat.reduceLeDiff];done)))⟩

theorem f36 (k : Nat) (h : Hp) (hk : Hok h) (h3 : 1 ≤ k ∧ k ≤ 3) : Evals Tryd.prog tab false (.func 36) [.int .i64 k] h (.int .i64 (swc k), h) := by
  refine evals_pure c36 rfl hk ?_
  simp only [sf36, initS_cons, initS_nil]
  have e1 : 2 * (k : Int) - 1 = ((2 * k - 1 : Nat) : Int) := by omega
  have e2 : (k : Int) - 1 = ((k - 1 : Nat) : Int) := by omega
  obtain ⟨v1, v2, _⟩ := swc_val h3
  have s1 := sBin_shlN (a := 2 * k - 1) (j := k - 1) (by omega) (by omega)
  rw [v1] at s1
  simp (disch := first|(simp only [Nat.reduceBEq,wE];done)|((repeat' (first|assumption|exact mAx _|refine mBx ?_ ?_|exact mCx (by assumption)|refine mDx ?_|refine mEx ?_ ?_ ?_|exact mFx|refine mGx ?_ ?_ ?_|exact mHx|exact mIx _|(simp only [wM,Nat.reduceAdd,Nat.reduceLT,Nat.reduceLeDiff];done)));done)|omega|decide) only [e1, e2, s1, ↓wA,wB,wL,resOf,Nat.reduceBEq,Int.reduceBEq,Int.reduceBNe,Int.reduceLT,Int.reduceLE,Int.reduceAdd,Int.reduceSub,Int.reduceMul,Int.reduceToNat]
  exact ⟨_, rfl, rfl, by (repeat' (first|assumption|exact mAx _|refine mBx ?_ ?_|exact mCx (by assumption)|refine mDx ?_|refine mEx ?_ ?_ ?_|exact mFx|refine mGx ?_ ?_ ?_|exact mHx|exact mIx _|(simp only [wM,Nat.reduceAdd,Nat.reduceLT,Nat.reduceLeDiff];done)))⟩

theorem f34 : ∀ (k : Nat) (S : List Nat) (h : Hp), 1 ≤ k → k ≤ 3 → S.length = swc k → Bits S → Hok h →
    ∃ v h', Evals Tryd.prog tab false (.func 34) [.int .i64 k, .str (strB S)] h (v, h') ∧ Grown h h' ∧ Own h.next h'.blks .i64 v (ofN (outs k S)) := by
  intro k
  induction k with
  | zero => intro S h h1; omega
  | succ k IH =>
    intro S h _ h3 hS hB hk
    refine evals_q c34 (fun v h' => Own h.next h'.blks .i64 v (ofN (outs (k + 1) S))) rfl hk ?_ (fun v h1 g q => q.leave)
    simp only [sf34, initS_cons, initS_nil]
    obtain ⟨K, eK⟩ : ∃ K, K = k + 1 := ⟨_, rfl⟩
    have p8 := pow8 (show K ≤ 3 by omega)
    have s1 := sBin_shl1 (j := K) (by omega)
    obtain ⟨w, ew⟩ : ∃ w, w = 2 ^ K := ⟨_, rfl⟩
    rw [← ew] at s1 p8
    have mk := sMks_ok (h := h.en) (z := [.int .i64 0]) (n := 1) (l := w) (c := w) (Nat.le_refl _) (by omega)
    have gA : Grown h (h.en.pu (repl [.int .i64 0] w)) := Grown.pu Grown.en (by rw [repl_ints]; exact refsOK_ints)
    have A0 : ArrB h.next (h.en.pu (repl [.int .i64 0] w)).blks h.next (List.replicate w 0) := ⟨by rw [lkB_top, repl_ints], Nat.le_refl _⟩
    have kA := gA.ok hk
    obtain ⟨T, eT⟩ : ∃ T, T = outs K S := ⟨_, rfl⟩
    have lT : T.length = w := by rw [eT, outs_len (by omega), ew]
    have fin : ∀ L : List Int, L.length = w → (∀ x, x < w → L.getD x 0 = ((nt T x : Nat) : Int)) → L = ofN T := fun L hL hx => by
      refine List.ext_getElem (by rw [hL, ofN_len, lT]) fun i i1 i2 => ?_
      have := hx i (by omega)
      rw [List.getD_eq_getElem?_getD, List.getElem?_eq_getElem i1] at this
      simp only [Option.getD_some] at this
      rw [this]
      simp [ofN, nt, List.getD_eq_getElem?_getD, List.getElem?_eq_getElem (show i < T.length by rw [ofN_len] at i2; exact i2)]
    rw [← eK, ← eT]
    by_cases k0 : k = 0
    · have eK1 : ((K : Int) == 1) = true := by simp; omega
      have w2 : w = 2 := by rw [ew, eK, k0]
      have S1 : 0 < S.length := by rw [hS, k0]; decide
      have nb0 := hB.nt 0
      have la : ∀ h' : Hp, sLen h' (.sl h.next 0 w (some w) 1) = some (.int .i64 (w : Int), h') := fun _ => rfl
      simp (disch := first|(simp only [Nat.reduceBEq,wE];done)|((repeat' (first|assumption|exact mAx _|refine mBx ?_ ?_|exact mCx (by assumption)|refine mDx ?_|refine mEx ?_ ?_ ?_|exact mFx|refine mGx ?_ ?_ ?_|exact mHx|exact mIx _|(simp only [wM,Nat.reduceAdd,Nat.reduceLT,Nat.reduceLeDiff];done)));done)|omega|decide) only [s1, mk, eK1, ↓wA,wB,wL,resOf,Nat.reduceBEq,Int.reduceBEq,Int.reduceBNe,Int.reduceLT,Int.reduceLE,Int.reduceAdd,Int.reduceSub,Int.reduceMul,Int.reduceToNat]
      refine wloop (fun mm ss => ∃ (i : Nat) (L : List Int) (h3 : Hp) (u4 u6 u7 u8 u9 u10 u11 u12 u13 u14 u15 u16 u17 u22 u26 u71 u72 u73 : AV), (mm = w - i) ∧ (i ≤ w ∧ Grown h h3 ∧ ArrB h.next h3.blks h.next L ∧ L.length = w ∧ ∀ x, x < i → L.getD x 0 = ((nt T x : Nat) : Int)) ∧ ss = { fr := [(0, .int .i64 K), (1, .str (strB S)), (4, u4), (5, .sl h.next 0 w (some w) 1), (6, u6), (7, u7), (8, u8), (9, u9), (10, u10), (11, u11), (12, u12), (13, u13), (14, u14), (15, u15), (16, u16), (17, u17), (22, u22), (24, .int .i64 w), (25, .int .i64 i), (26, u26), (71, u71), (72, u72), (73, u73)], hp := h3 }) (w) ?_ ?_
      ·
        refine ⟨0, List.replicate w 0, _, _, _, _, _, _, _, _, _, _, _, _, _, _, _, _, _, _, _, by omega, ⟨by omega, gA, A0, by simp, fun x hx => absurd hx (by omega)⟩, rfl⟩
      rintro nA sA ⟨i, L, h3, u4, u6, u7, u8, u9, u10, u11, u12, u13, u14, u15, u16, u17, u22, u26, u71, u72, u73, hnA, ⟨hi, g3, A3, lL, hx⟩, rfl⟩
      have k3 := g3.ok hk
      simp (disch := first|(simp only [Nat.reduceBEq,wE];done)|((repeat' (first|assumption|exact mAx _|refine mBx ?_ ?_|exact mCx (by assumption)|refine mDx ?_|refine mEx ?_ ?_ ?_|exact mFx|refine mGx ?_ ?_ ?_|exact mHx|exact mIx _|(simp only [wM,Nat.reduceAdd,Nat.reduceLT,Nat.reduceLeDiff];done)));done)|omega|decide) only [↓wA,wB,wL,resOf,Nat.reduceBEq,Int.reduceBEq,Int.reduceBNe,Int.reduceLT,Int.reduceLE,Int.reduceAdd,Int.reduceSub,Int.reduceMul,Int.reduceToNat]
      refine ifThen_intro (fun e => ?_) (fun e => ?_) <;> have eq := e <;> try simp [-List.getD_eq_getElem?_getD] at eq
      · have tu := f50 (nt S 0) i h3 k3 nb0 (by omega)
        obtain ⟨h4, e4, A4, g4, _, _⟩ := arr_set (v := (((i + nt S 0) % 2 : Nat) : Int)) (i := i) hk g3 A3 (by omega)
        have ixs : sIxS 1 h3 (some i) (.sl h.next 0 w (some w) 1) = some (.ptr h.next i, h3) := by
          have := (A3.ints lL).ix h3 (show i < L.length by omega)
          simpa [cellAt] using this
        simp (disch := first|(simp only [Nat.reduceBEq,wE];done)|((repeat' (first|assumption|exact mAx _|refine mBx ?_ ?_|exact mCx (by assumption)|refine mDx ?_|refine mEx ?_ ?_ ?_|exact mFx|refine mGx ?_ ?_ ?_|exact mHx|exact mIx _|(simp only [wM,Nat.reduceAdd,Nat.reduceLT,Nat.reduceLeDiff];done)));done)|omega|decide) only [e, ixB hB S1, idx?_lit0, callT tu, ixs, e4, ↓wA,wB,wL,resOf,Nat.reduceBEq,Int.reduceBEq,Int.reduceBNe,Int.reduceLT,Int.reduceLE,Int.reduceAdd,Int.reduceSub,Int.reduceMul,Int.reduceToNat]
        refine ⟨_, ?_, i + 1, L.set i (((i + nt S 0) % 2 : Nat) : Int), h4, _, _, _, _, _, _, _, _, _, _, _, _, _, _, _, _, _, _, rfl, ?_, rfl⟩
        · omega
        refine ⟨by omega, g4, A4, by simpa using lL, fun x hx' => ?_⟩
        have hs : (L.set i (((i + nt S 0) % 2 : Nat) : Int)).getD x 0 = if i = x then (((i + nt S 0) % 2 : Nat) : Int) else L.getD x 0 := by
          simp only [List.getD_eq_getElem?_getD, List.getElem?_set]
          by_cases exy : i = x
          · subst exy; simp [show i < L.length by omega]
          · simp [exy]
        rw [hs]
        by_cases exy : i = x
        · rw [if_pos exy, ← exy, eT, eK, k0]
          have : i = 0 ∨ i = 1 := by omega
          rcases this with h | h <;> rw [h] <;> simp [outs, nt]
        · rw [if_neg exy]; exact hx x (by omega)
      · simp (disch := first|(simp only [Nat.reduceBEq,wE];done)|((repeat' (first|assumption|exact mAx _|refine mBx ?_ ?_|exact mCx (by assumption)|refine mDx ?_|refine mEx ?_ ?_ ?_|exact mFx|refine mGx ?_ ?_ ?_|exact mHx|exact mIx _|(simp only [wM,Nat.reduceAdd,Nat.reduceLT,Nat.reduceLeDiff];done)));done)|omega|decide) only [e, ↓wA,wB,wL,resOf,Nat.reduceBEq,Int.reduceBEq,Int.reduceBNe,Int.reduceLT,Int.reduceLE,Int.reduceAdd,Int.reduceSub,Int.reduceMul,Int.reduceToNat]
        refine ⟨_, rfl, g3, ?_⟩
        rw [← fin L lL fun x h => hx x (by omega)]
        exact A3.own lL
    · obtain ⟨j, rfl⟩ : ∃ j, k = j + 1 := ⟨k - 1, by omega⟩
      have eK1 : ((K : Int) == 1) = false := by simp; omega
      have kb : (K : Int) - 1 = ((j + 1 : Nat) : Int) := by omega
      obtain ⟨col, ecol⟩ : ∃ c, c = 2 ^ (j + 1) := ⟨_, rfl⟩
      obtain ⟨n, en⟩ : ∃ n, n = swc (j + 1) := ⟨_, rfl⟩
      have wc : w = 2 * col := by rw [ew, eK, ecol, Nat.pow_succ 2 (j + 1)]; omega
      have SL : S.length = 2 * col + 2 * n := by rw [hS, swc, ← en, ecol, Nat.pow_succ 2 (j + 1)]; omega
      have n20 : n ≤ 20 := by rw [en]; exact (swc_val (by omega)).2.1
      have q0 : sBin .quo .no (.int .i64 (w : Int)) (.int .i64 2) = some (.int .i64 (col : Int)) := by
        rw [sBin_quo (by omega) (by omega) (by omega)]
        congr 2; omega
      have SW := f36 (j + 1) (h.en.pu (repl [.int .i64 0] w)) kA (by omega)
      rw [← en] at SW
      -- the parts
      obtain ⟨F, eF⟩ : ∃ F, F = S.take col := ⟨_, rfl⟩
      obtain ⟨R, eR⟩ : ∃ R, R = S.drop col := ⟨_, rfl⟩
      obtain ⟨U, eU⟩ : ∃ U, U = R.take n := ⟨_, rfl⟩
      obtain ⟨V, eV⟩ : ∃ V, V = (R.drop n).take n := ⟨_, rfl⟩
      obtain ⟨La, eL⟩ : ∃ L, L = R.drop (2 * n) := ⟨_, rfl⟩
      have lF : F.length = col := by rw [eF]; simp; omega
      have lR : R.length = col + 2 * n := by rw [eR]; simp; omega
      have lU : U.length = n := by rw [eU]; simp; omega
      have lV : V.length = n := by rw [eV]; simp; omega
      have lL : La.length = col := by rw [eL]; simp; omega
      have bF : Bits F := by rw [eF]; exact hB.take _
      have bR : Bits R := by rw [eR]; exact hB.drop _
      have bU : Bits U := by rw [eU]; exact bR.take _
      have bV : Bits V := by rw [eV]; exact (bR.drop _).take _
      have bL : Bits La := by rw [eL]; exact bR.drop _
      have t1 : ∀ h' : Hp, sSlTV h' none (some (some col)) (.str (strB S)) = some (.str (strB F), h') := fun h' => by
        rw [slB (a := 0) (b := col) rfl rfl (by omega) (by omega), eF]; rfl
      have t2 : ∀ h' : Hp, sSlTV h' (some (some col)) none (.str (strB S)) = some (.str (strB R), h') := fun h' => by
        rw [slB (a := col) (b := S.length) rfl rfl (by omega) (by omega), List.take_of_length_le (by simp), eR]
      have t3 : ∀ h' : Hp, sSlTV h' none (some (some n)) (.str (strB R)) = some (.str (strB U), h') := fun h' => by
        rw [slB (a := 0) (b := n) rfl rfl (by omega) (by omega), eU]; rfl
      have t4 : ∀ h' : Hp, sSlTV h' (some (some n)) (some (some (2 * n))) (.str (strB R)) = some (.str (strB V), h') := fun h' => by
        rw [slB (a := n) (b := 2 * n) rfl rfl (by omega) (by omega), show 2 * n - n = n by omega, eV]
      have t5 : ∀ h' : Hp, sSlTV h' (some (some (2 * n))) none (.str (strB R)) = some (.str (strB La), h') := fun h' => by
        rw [slB (a := 2 * n) (b := R.length) rfl rfl (by omega) (by omega), List.take_of_length_le (by simp), eL]
      have dn : 2 * (n : Int) = ((2 * n : Nat) : Int) := by omega
      obtain ⟨u, h1, eu, g1, o1⟩ := IH U (h.en.pu (repl [.int .i64 0] w)) (by omega) (by omega) (by rw [lU, en]) bU kA
      have k1 := g1.ok kA
      obtain ⟨v, h2, ev, g2, o2⟩ := IH V h1 (by omega) (by omega) (by rw [lV, en]) bV k1
      have k2 := g2.ok k1
      have gh2 : Grown h h2 := GrownR.trans gA (GrownR.trans g1 g2)
      have o1' := o1.sub (g2.sub k1)
      have A2 := (A0.sub (g1.sub kA)).sub (g2.sub k1)
      have hn1 : h.next + 1 ≤ h1.next := g1.next
      have hn2 : h1.next ≤ h2.next := g2.next
      have bA := sBuildA_2v (x := .nilsl) (y := .nilsl) (OwnA.arr o1').cell.1 (OwnA.arr o2).cell.1
      have cA : [u, v].all AV.isCell = true := by simp [(OwnA.arr o1').cell.2, (OwnA.arr o2).cell.2]
      have sg := fun (m base : Nat) (esc : Bool) => sStore_agV (n := 2) (m := m) (i := h2.next) (base := base) (esc := esc) (cs := [.nilsl, .nilsl]) (vs := [u, v]) k2 rfl rfl cA
      have rA : refsOK (h2.next + 1) [u, v] = true := by
        simp only [refsOK_cons, refsOK_nil, Bool.and_true, Bool.and_eq_true]
        exact ⟨refOK_mono (Nat.le_succ _) (o1'.ref k2), refOK_mono (Nat.le_succ _) (o2.ref k2)⟩
      have g3 : GrownR h (h2.next + 1) ((h2.next, { cells := [u, v], ch := h2.next, wr := true }) :: h2.blks) h2.loops := GrownR.push gh2 rA (Nat.le_refl _)
      have s3 : Sub h2.blks ((h2.next, { cells := [u, v], ch := h2.next, wr := true }) :: h2.blks) := Sub.push (Sub.refl _) (HokR.fresh k2)
      have la : ∀ h' : Hp, sLen h' (.sl h.next 0 w (some w) 1) = some (.int .i64 (w : Int), h') := fun _ => rfl
      simp (disch := first|(simp only [Nat.reduceBEq,wE];done)|((repeat' (first|assumption|exact mAx _|refine mBx ?_ ?_|exact mCx (by assumption)|refine mDx ?_|refine mEx ?_ ?_ ?_|exact mFx|refine mGx ?_ ?_ ?_|exact mHx|exact mIx _|(simp only [wM,Nat.reduceAdd,Nat.reduceLT,Nat.reduceLeDiff];done)));done)|omega|decide) only [s1, mk, eK1, q0, kb, callT SW, t1, t2, t3, t4, t5, dn, callT eu, callT ev, bA, sg, ↓wA,wB,wL,resOf,Nat.reduceBEq,Int.reduceBEq,Int.reduceBNe,Int.reduceLT,Int.reduceLE,Int.reduceAdd,Int.reduceSub,Int.reduceMul,Int.reduceToNat]
      refine wloop (fun mm ss => ∃ (i : Nat) (L : List Int) (h3 : Hp) (u0 u1 u4 u6 u7 u8 u10 u11 u12 u15 u16 u17 u22 u24 u25 u26 u73 : AV), (mm = w - i) ∧ (i ≤ w ∧ Grown h h3 ∧ ArrB h.next h3.blks h.next L ∧ L.length = w ∧ Own (h.next + 1) h3.blks .i64 u (ofN (outs (j + 1) U)) ∧ Own (h.next + 1) h3.blks .i64 v (ofN (outs (j + 1) V)) ∧ lkB h3.blks h2.next = some { cells := [u, v], ch := h2.next, wr := true } ∧ ∀ x, x < i → L.getD x 0 = ((nt T x : Nat) : Int)) ∧ ss = { fr := [(0, u0), (1, u1), (4, u4), (5, .sl h.next 0 w (some w) 1), (6, u6), (7, u7), (8, u8), (9, .str (strB F)), (10, u10), (11, u11), (12, u12), (13, .str (strB La)), (14, .ptr h2.next 0), (15, u15), (16, u16), (17, u17), (22, u22), (24, u24), (25, u25), (26, u26), (71, .int .i64 w), (72, .int .i64 i), (73, u73)], hp := h3 }) (w) ?_ ?_
      ·
        refine ⟨0, List.replicate w 0, _, _, _, _, _, _, _, _, _, _, _, _, _, _, _, _, _, _, by omega, ⟨by omega, g3, A2.sub s3, by simp, (o1'.sub s3), (o2.sub s3).le (by omega), lkB_top, fun x hx => absurd hx (by omega)⟩, rfl⟩
      rintro nB sB ⟨i, L, h3, u0, u1, u4, u6, u7, u8, u10, u11, u12, u15, u16, u17, u22, u24, u25, u26, u73, hnB, ⟨hi, g3, A3, lL', oU, oV, bX, hx⟩, rfl⟩
      have k3 := g3.ok hk
      simp (disch := first|(simp only [Nat.reduceBEq,wE];done)|((repeat' (first|assumption|exact mAx _|refine mBx ?_ ?_|exact mCx (by assumption)|refine mDx ?_|refine mEx ?_ ?_ ?_|exact mFx|refine mGx ?_ ?_ ?_|exact mHx|exact mIx _|(simp only [wM,Nat.reduceAdd,Nat.reduceLT,Nat.reduceLeDiff];done)));done)|omega|decide) only [↓wA,wB,wL,resOf,Nat.reduceBEq,Int.reduceBEq,Int.reduceBNe,Int.reduceLT,Int.reduceLE,Int.reduceAdd,Int.reduceSub,Int.reduceMul,Int.reduceToNat]
      refine ifThen_intro (fun e => ?_) (fun e => ?_) <;> have eq := e <;> try simp [-List.getD_eq_getElem?_getD] at eq
      · have i2 : i / 2 < F.length := by omega
        have qi : sBin .quo .no (.int .i64 (i : Int)) (.int .i64 2) = some (.int .i64 ((i / 2 : Nat) : Int)) := by rw [sBin_quo (by omega) (by omega) (by omega)]; rfl
        have ri : sBin .rem .no (.int .i64 (i : Int)) (.int .i64 2) = some (.int .i64 ((i % 2 : Nat) : Int)) := by rw [sBin_rem (by omega) (by omega)]; rfl
        have tu := f50 (nt F (i / 2)) (i % 2) h3 k3 (bF.nt _) (by omega)
        obtain ⟨net, enet⟩ : ∃ m, m = (i % 2 + nt F (i / 2)) % 2 := ⟨_, rfl⟩
        rw [← enet] at tu
        have net2 : net < 2 := by omega
        obtain ⟨X, sx, ex1, ox, lx⟩ : ∃ (X : List Nat) (sx : AV), X = (if net = 0 then outs (j + 1) U else outs (j + 1) V) ∧ Own (h.next + 1) h3.blks .i64 sx (ofN X) ∧ cellB h3.blks h2.next net = some sx := by
          have : net = 0 ∨ net = 1 := by omega
          rcases this with h | h
          · exact ⟨_, u, rfl, by rw [if_pos h]; exact oU, by simp [cellB, bX, h]⟩
          · exact ⟨_, v, rfl, by rw [if_neg (by omega)]; exact oV, by simp [cellB, bX, h]⟩
        have lX : X.length = col := by rw [ex1, ecol]; split <;> exact outs_len (by omega)
        obtain ⟨t, et⟩ : ∃ t, t = nt X (i / 2) := ⟨_, rfl⟩
        have tl : t < col := by
          rw [et, ex1, ecol]
          split <;> exact outs_lt _ _ _
        have ldX : (ofN X).getD (i / 2) 0 = (t : Int) := by rw [ofN_at, et]; rfl
        have tu2 := f50 (nt La t) net h3 k3 (bL.nt _) net2
        obtain ⟨z, ez⟩ : ∃ z, z = (net + nt La t) % 2 := ⟨_, rfl⟩
        rw [← ez] at tu2
        have sm : 2 * (t : Int) + (z : Int) = ((2 * t + z : Nat) : Int) := by omega
        have d2 : 2 * (t : Int) = ((2 * t : Nat) : Int) := by omega
        have sm2 : ((2 * t : Nat) : Int) + (z : Int) = ((2 * t + z : Nat) : Int) := by omega
        obtain ⟨h4, e4, A4, g4, n4, r4⟩ := arr_set (v := ((2 * t + z : Nat) : Int)) (i := i) hk g3 A3 (by omega)
        have kp : Kept' (h.next + 1) h3.blks h4.blks := fun i b h1 h2 hb => r4 i b (by omega) (by omega) hb
        have ixs : sIxS 1 h3 (some i) (.sl h.next 0 w (some w) 1) = some (.ptr h.next i, h3) := by
          have := (A3.ints lL').ix h3 (show i < L.length by omega)
          simpa [cellAt] using this
        have lxl : (i / 2) < (ofN X).length := by rw [ofN_len, lX]; omega
        simp (disch := first|(simp only [Nat.reduceBEq,wE];done)|((repeat' (first|assumption|exact mAx _|refine mBx ?_ ?_|exact mCx (by assumption)|refine mDx ?_|refine mEx ?_ ?_ ?_|exact mFx|refine mGx ?_ ?_ ?_|exact mHx|exact mIx _|(simp only [wM,Nat.reduceAdd,Nat.reduceLT,Nat.reduceLeDiff];done)));done)|omega|decide) only [e, qi, ri, ixB bF i2, callT tu, lx, ox.ints.ix, ox.ints.ld, ldX, d2, sm2, ixB bL (show t < La.length by omega), callT tu2, sm, ixs, e4, ↓wA,wB,wL,resOf,Nat.reduceBEq,Int.reduceBEq,Int.reduceBNe,Int.reduceLT,Int.reduceLE,Int.reduceAdd,Int.reduceSub,Int.reduceMul,Int.reduceToNat]
        refine ⟨_, ?_, i + 1, L.set i ((2 * t + z : Nat) : Int), h4, _, _, _, _, _, _, _, _, _, _, _, _, _, _, _, _, _, rfl, ?_, rfl⟩
        · omega
        refine ⟨by omega, g4, A4, by simpa using lL', oU.keep' kp (Nat.le_refl _), oV.keep' kp (Nat.le_refl _), r4 _ _ (by omega) (by simp; omega) bX, fun x hx' => ?_⟩
        have hs : (L.set i ((2 * t + z : Nat) : Int)).getD x 0 = if i = x then ((2 * t + z : Nat) : Int) else L.getD x 0 := by
          simp only [List.getD_eq_getElem?_getD, List.getElem?_set]
          by_cases exy : i = x
          · subst exy; simp [show i < L.length by omega]
          · simp [exy]
        rw [hs]
        by_cases exy : i = x
        · rw [if_pos exy, ← exy, eT, eK, outs_at (by rw [← eK, ← ew]; exact eq)]
          have f1 : nt S (i / 2) = nt F (i / 2) := by rw [eF, nt_take (by omega)]
          have f2 : (S.drop (2 ^ (j + 1))).take (swc (j + 1)) = U := by rw [← ecol, ← en, eU, eR]
          have f3 : (S.drop (2 ^ (j + 1) + swc (j + 1))).take (swc (j + 1)) = V := by rw [← ecol, ← en, eV, eR, List.drop_drop]
          rw [f1, f2, f3, ← enet, ← ex1, ← et, ← ecol, ← en]
          have f4 : nt S (col + 2 * n + t) = nt La t := by rw [eL, eR, nt_drop, nt_drop, Nat.add_assoc]
          rw [f4, ez]
        · rw [if_neg exy]; exact hx x (by omega)
      · simp (disch := first|(simp only [Nat.reduceBEq,wE];done)|((repeat' (first|assumption|exact mAx _|refine mBx ?_ ?_|exact mCx (by assumption)|refine mDx ?_|refine mEx ?_ ?_ ?_|exact mFx|refine mGx ?_ ?_ ?_|exact mHx|exact mIx _|(simp only [wM,Nat.reduceAdd,Nat.reduceLT,Nat.reduceLeDiff];done)));done)|omega|decide) only [e, ↓wA,wB,wL,resOf,Nat.reduceBEq,Int.reduceBEq,Int.reduceBNe,Int.reduceLT,Int.reduceLE,Int.reduceAdd,Int.reduceSub,Int.reduceMul,Int.reduceToNat]
        refine ⟨_, rfl, g3, ?_⟩
        rw [← fin L lL' fun x h => hx x (by omega)]
        exact A3.own lL'
end Go.Proofs.YtpfkmdbdafpadaaDoor
