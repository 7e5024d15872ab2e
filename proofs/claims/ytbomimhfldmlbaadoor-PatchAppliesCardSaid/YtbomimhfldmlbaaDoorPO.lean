/- Benes networks: the reference's; numbers of settings. -/
import Derived.Test.YtbomimhfldmlbaaDoorPN
set_option linter.unusedSimpArgs false
set_option linter.unusedVariables false
set_option maxHeartbeats 4000000
set_option maxRecDepth 20000
namespace Go.Abs
theorem bytesC_ints : ∀ zs : List Int, bytesC (ints .u8 zs) = some (zs.map fun z => UInt8.ofNat z.toNat)
  | [] => rfl
  | z :: r => by
    have ih := bytesC_ints r
    simp only [ints, List.map_cons] at ih ⊢
    simp only [bytesC, ih, Option.map_some]
theorem Ints.b2s {h : Hp} {a : AV} {zs : List Int} (H : Ints h.blks .u8 a zs) (hne : a ≠ .esl) : aB2S h a = some (.str (zs.map fun z => UInt8.ofNat z.toNat), h) := by
  have hs := Arr.src H (by omega) h rfl
  obtain ⟨hl, ⟨h0, rfl | rfl⟩ | ⟨id, off, cap, rfl, hcap, hc⟩⟩ := H
  · have : zs = [] := List.length_eq_zero_iff.1 h0
    subst this
    rfl
  · exact absurd rfl hne
  · simp only [aB2S, hs, Nat.beq_refl, cond_true, bytesC_ints, Option.map_some]
theorem Own.b2s {c : Nat} {h : Hp} {a : AV} {zs : List Int} (O : Own c h.blks .u8 a zs) : aB2S h a = some (.str (zs.map fun z => UInt8.ofNat z.toNat), h) := by
  refine O.ints.b2s fun e => ?_
  subst e
  obtain ⟨_, ⟨_, h⟩ | ⟨_, _, _, h, _⟩⟩ := O <;> cases h
theorem sBS_2v {h : Hp} {u v : AV} (hu : u.parts = some [u]) (hv : v.parts = some [v]) : sBS [.nilsl] 2 1 h [(0, u), (1, v)] = some (.sl h.next 0 2 (some 2) 1, { next := h.next + 1, blks := (h.next, { cells := [u, v], ch := h.next, wr := true }) :: h.blks, loops := h.loops, base := h.base, esc := h.esc }) := by
  have e : repl [AV.nilsl] 2 = [.nilsl, .nilsl] := rfl
  simp [sBS, fillA, hu, hv, splice, e, Hp.new]
  rfl
end Go.Abs
namespace Go.Pa
open Go Go.Abs
/- The binary digits of a number. -/
def dig (x many : Nat) : List Nat := (List.range many).map fun i => x / 2 ^ i % 2
theorem dig_len {x many : Nat} : (dig x many).length = many := by simp [dig]
theorem dig_bits {x many : Nat} : Bits (dig x many) := fun b hb => by
  obtain ⟨i, _, rfl⟩ := List.mem_map.1 hb
  exact Nat.mod_lt _ (by omega)
theorem dig_succ {x many : Nat} : dig x (many + 1) = dig x many ++ [x / 2 ^ many % 2] := by simp [dig, List.range_succ]
def sB (S : List Nat) : List Int := S.map fun b : Nat => ((48 + b : Nat) : Int)
theorem sB_str {S : List Nat} (h : Bits S) : (sB S).map (fun z => UInt8.ofNat z.toNat) = strB S := by
  unfold sB strB
  rw [List.map_map]
  refine List.map_congr_left fun b _ => ?_
  simp only [Function.comp, Int.toNat_natCast]
def waysN (k : Nat) (zs : List Int) : Nat → Nat
  | 0 => 0
  | x + 1 => waysN k zs x + if ofN (outs k (dig x (swc k))) = zs then 1 else 0
theorem waysN_le {k : Nat} {zs : List Int} : ∀ x, waysN k zs x ≤ x
  | 0 => Nat.le_refl _
  | x + 1 => by have := waysN_le (k := k) (zs := zs) x; rw [waysN]; split <;> omega
end Go.Pa
namespace Go.Proofs.YtbomimhfldmlbaaDoor
open Go Go.Abs Go.Pa

theorem f47 : ∀ (k : Nat) (h : Hp), 1 ≤ k → k ≤ 3 → Hok h → Evals Tryd.prog tab false (.func 47) [.int .i64 k] h (.int .i64 (swc k), h) := by
  intro k
  induction k with
  | zero => intro h h1; omega
  | succ k IH =>
    intro h _ h3 hk
    refine evals_pure c47 rfl hk ?_
    simp only [sf47, initS_cons, initS_nil]
    by_cases k0 : k = 0
    · subst k0
      simp (disch := first|(simp only [Nat.reduceBEq,wE];done)|((repeat' (first|assumption|exact mAx _|refine mBx ?_ ?_|exact mCx (by assumption)|refine mDx ?_|refine mEx ?_ ?_ ?_|exact mFx|refine mGx ?_ ?_ ?_|exact mHx|exact mIx _|(simp only [wM,Nat.reduceAdd,Nat.reduceLT,Nat.reduceLeDiff];done)));done)|omega|decide) only [show (((0 + 1 : Nat) : Int) == 1) = true from rfl, ↓wA,wB,wL,resOf,Nat.reduceBEq,Int.reduceBEq,Int.reduceBNe,Int.reduceLT,Int.reduceLE,Int.reduceAdd,Int.reduceSub,Int.reduceMul,Int.reduceToNat]
      exact ⟨_, rfl, rfl, by (repeat' (first|assumption|exact mAx _|refine mBx ?_ ?_|exact mCx (by assumption)|refine mDx ?_|refine mEx ?_ ?_ ?_|exact mFx|refine mGx ?_ ?_ ?_|exact mHx|exact mIx _|(simp only [wM,Nat.reduceAdd,Nat.reduceLT,Nat.reduceLeDiff];done)))⟩
    · obtain ⟨j, rfl⟩ : ∃ j, k = j + 1 := ⟨k - 1, by omega⟩
      have e1 : (((j + 1 + 1 : Nat) : Int) == 1) = false := by simp; omega
      have e2 : ((j + 1 + 1 : Nat) : Int) - 1 = ((j + 1 : Nat) : Int) := by omega
      have s1 := sBin_shl1 (j := j + 1 + 1) (by omega)
      have p8 := pow8 (show j + 1 + 1 ≤ 3 by omega)
      have n20 := (swc_val (k := j + 1) (by omega)).2.1
      have e3 : ((2 ^ (j + 1 + 1) : Nat) : Int) + 2 * ((swc (j + 1) : Nat) : Int) = ((swc (j + 1 + 1) : Nat) : Int) := by
        have : swc (j + 1 + 1) = 2 ^ (j + 1 + 1) + 2 * swc (j + 1) := rfl
        rw [this]
        omega
      have ih := IH h.en (by omega) (by omega) hk
      obtain ⟨K, eK⟩ : ∃ K : Nat, K = j + 1 + 1 := ⟨_, rfl⟩
      rw [← eK] at e1 e2 s1 e3 p8 ⊢
      obtain ⟨m, em⟩ : ∃ m : Nat, m = 2 ^ K := ⟨_, rfl⟩
      rw [← em] at s1 e3 p8
      simp (disch := first|(simp only [Nat.reduceBEq,wE];done)|((repeat' (first|assumption|exact mAx _|refine mBx ?_ ?_|exact mCx (by assumption)|refine mDx ?_|refine mEx ?_ ?_ ?_|exact mFx|refine mGx ?_ ?_ ?_|exact mHx|exact mIx _|(simp only [wM,Nat.reduceAdd,Nat.reduceLT,Nat.reduceLeDiff];done)));done)|omega|decide) only [e1, s1, e2, callT ih, e3, ↓wA,wB,wL,resOf,Nat.reduceBEq,Int.reduceBEq,Int.reduceBNe,Int.reduceLT,Int.reduceLE,Int.reduceAdd,Int.reduceSub,Int.reduceMul,Int.reduceToNat]
      exact ⟨_, rfl, rfl, by (repeat' (first|assumption|exact mAx _|refine mBx ?_ ?_|exact mCx (by assumption)|refine mDx ?_|refine mEx ?_ ?_ ?_|exact mFx|refine mGx ?_ ?_ ?_|exact mHx|exact mIx _|(simp only [wM,Nat.reduceAdd,Nat.reduceLT,Nat.reduceLeDiff];done)))⟩

theorem f33 : ∀ (k : Nat) (S : List Nat) (h : Hp), 1 ≤ k → k ≤ 3 → S.length = swc k → Bits S → Hok h →
    ∃ v h', Evals Tryd.prog tab false (.func 33) [.int .i64 k, .str (strB S)] h (v, h') ∧ Grown h h' ∧ Own h.next h'.blks .i64 v (ofN (outs k S)) := by
  intro k
  induction k with
  | zero => intro S h h1; omega
  | succ k IH =>
    intro S h _ h3 hS hB hk
    refine evals_q c33 (fun v h' => Own h.next h'.blks .i64 v (ofN (outs (k + 1) S))) rfl hk ?_ (fun v h1 g q => q.leave)
    simp only [sf33, initS_cons, initS_nil]
    obtain ⟨K, eK⟩ : ∃ K : Nat, K = k + 1 := ⟨_, rfl⟩
    rw [← eK]
    by_cases k0 : k = 0
    · have eK1 : ((K : Int) == 1) = true := by simp; omega
      have K1 : K = 1 := by omega
      rw [k0] at hS
      match S, hS with
      | [b], _ =>
        have hb := hB b (by simp)
        have : b = 0 ∨ b = 1 := by omega
        rcases this with rfl | rfl
        · have ee : (strB [0] == [49]) = false := rfl
          simp (disch := first|(simp only [Nat.reduceBEq,wE];done)|((repeat' (first|assumption|exact mAx _|refine mBx ?_ ?_|exact mCx (by assumption)|refine mDx ?_|refine mEx ?_ ?_ ?_|exact mFx|refine mGx ?_ ?_ ?_|exact mHx|exact mIx _|(simp only [wM,Nat.reduceAdd,Nat.reduceLT,Nat.reduceLeDiff];done)));done)|omega|decide) only [eK1, ee, ↓wA,wB,wL,resOf,Nat.reduceBEq,Int.reduceBEq,Int.reduceBNe,Int.reduceLT,Int.reduceLE,Int.reduceAdd,Int.reduceSub,Int.reduceMul,Int.reduceToNat]
          refine ⟨_, rfl, Grown.pu Grown.en rfl, ?_⟩
          rw [K1]
          exact Own.fresh (Nat.le_refl _) rfl rfl rfl (Nat.le_refl _)
        · have ee : (strB [1] == [49]) = true := rfl
          simp (disch := first|(simp only [Nat.reduceBEq,wE];done)|((repeat' (first|assumption|exact mAx _|refine mBx ?_ ?_|exact mCx (by assumption)|refine mDx ?_|refine mEx ?_ ?_ ?_|exact mFx|refine mGx ?_ ?_ ?_|exact mHx|exact mIx _|(simp only [wM,Nat.reduceAdd,Nat.reduceLT,Nat.reduceLeDiff];done)));done)|omega|decide) only [eK1, ee, ↓wA,wB,wL,resOf,Nat.reduceBEq,Int.reduceBEq,Int.reduceBNe,Int.reduceLT,Int.reduceLE,Int.reduceAdd,Int.reduceSub,Int.reduceMul,Int.reduceToNat]
          refine ⟨_, rfl, Grown.pu Grown.en rfl, ?_⟩
          rw [K1]
          exact Own.fresh (Nat.le_refl _) rfl rfl rfl (Nat.le_refl _)
    · obtain ⟨j, rfl⟩ : ∃ j, k = j + 1 := ⟨k - 1, by omega⟩
      have eK1 : ((K : Int) == 1) = false := by simp; omega
      have kb : (K : Int) - 1 = ((j + 1 : Nat) : Int) := by omega
      have p8 := pow8 (show j + 1 ≤ 3 by omega)
      have s1 := sBin_shl1 (j := j + 1) (by omega)
      obtain ⟨col, ecol⟩ : ∃ c, c = 2 ^ (j + 1) := ⟨_, rfl⟩
      rw [← ecol] at s1 p8
      obtain ⟨n, en⟩ : ∃ n, n = swc (j + 1) := ⟨_, rfl⟩
      have SL : S.length = 2 * col + 2 * n := by rw [hS, swc, ← en, ecol, Nat.pow_succ 2 (j + 1)]; omega
      have n20 : n ≤ 20 := by rw [en]; exact (swc_val (by omega)).2.1
      have SW := f47 (j + 1) h.en (by omega) (by omega) hk
      rw [← en] at SW
      obtain ⟨F, eF⟩ : ∃ F, F = S.take col := ⟨_, rfl⟩
      obtain ⟨U, eU⟩ : ∃ U, U = (S.drop col).take n := ⟨_, rfl⟩
      obtain ⟨V, eV⟩ : ∃ V, V = (S.drop (col + n)).take n := ⟨_, rfl⟩
      obtain ⟨La, eL⟩ : ∃ L, L = S.drop (col + 2 * n) := ⟨_, rfl⟩
      have lF : F.length = col := by rw [eF]; simp; omega
      have lU : U.length = n := by rw [eU]; simp; omega
      have lV : V.length = n := by rw [eV]; simp; omega
      have lL : La.length = col := by rw [eL]; simp; omega
      have bF : Bits F := by rw [eF]; exact hB.take _
      have bU : Bits U := by rw [eU]; exact (hB.drop _).take _
      have bV : Bits V := by rw [eV]; exact (hB.drop _).take _
      have bL : Bits La := by rw [eL]; exact hB.drop _
      have t1 : ∀ h' : Hp, sSlTV h' none (some (some col)) (.str (strB S)) = some (.str (strB F), h') := fun h' => by
        rw [slB (a := 0) (b := col) rfl rfl (by omega) (by omega), eF]; rfl
      have t2 : ∀ h' : Hp, sSlTV h' (some (some (col + 2 * n))) none (.str (strB S)) = some (.str (strB La), h') := fun h' => by
        rw [slB (a := col + 2 * n) (b := S.length) rfl rfl (by omega) (by omega), List.take_of_length_le (by simp), eL]
      have t3 : ∀ h' : Hp, sSlTV h' (some (some col)) (some (some (col + n))) (.str (strB S)) = some (.str (strB U), h') := fun h' => by
        rw [slB (a := col) (b := col + n) rfl rfl (by omega) (by omega), show col + n - col = n by omega, eU]
      have t4 : ∀ h' : Hp, sSlTV h' (some (some (col + n))) (some (some (col + 2 * n))) (.str (strB S)) = some (.str (strB V), h') := fun h' => by
        rw [slB (a := col + n) (b := col + 2 * n) rfl rfl (by omega) (by omega), show col + 2 * n - (col + n) = n by omega, eV]
      have lS : (strB S).length = 2 * col + 2 * n := by rw [strB_len, SL]
      have a1 : ((2 * col + 2 * n : Nat) : Int) - (col : Int) = ((col + 2 * n : Nat) : Int) := by omega
      have a2 : (col : Int) + (n : Int) = ((col + n : Nat) : Int) := by omega
      have a3 : 2 * (n : Int) = ((2 * n : Nat) : Int) := by omega
      have a4 : (col : Int) + ((2 * n : Nat) : Int) = ((col + 2 * n : Nat) : Int) := by omega
      have a5 : 2 * (col : Int) = ((2 * col : Nat) : Int) := by omega
      obtain ⟨u, h1, eu, g1, o1⟩ := IH U h.en (by omega) (by omega) (by rw [lU, en]) bU hk
      have k1 := g1.ok hk
      obtain ⟨v, h2, ev, g2, o2⟩ := IH V h1 (by omega) (by omega) (by rw [lV, en]) bV k1
      have k2 := g2.ok k1
      have gh2 : Grown h h2 := GrownR.of_en (GrownR.trans g1 g2)
      have o1' := o1.sub (g2.sub k1)
      have bS := sBS_2v (h := h2) (OwnA.arr o1').cell.1 (OwnA.arr o2).cell.1
      have rA : refsOK (h2.next + 1) [u, v] = true := by
        simp only [refsOK_cons, refsOK_nil, Bool.and_true, Bool.and_eq_true]
        exact ⟨refOK_mono (Nat.le_succ _) (o1'.ref k2), refOK_mono (Nat.le_succ _) (o2.ref k2)⟩
      have g3 : Grown h (h2.pu [u, v]) := Grown.pu gh2 rA
      have k3 := g3.ok hk
      have s3 : Sub h2.blks (h2.pu [u, v]).blks := Sub.pu k2
      have O : Own (h2.pu [u, v]).next ((h2.pu [u, v]).pu []).blks .i64 (.sl (h2.next + 1) 0 0 (some 0) 1) (ofN ((outs (j + 2) S).take 0)) := Own.fresh (Nat.le_refl _) rfl rfl rfl (Nat.le_refl _)
      have lT : (outs (j + 2) S).length = 2 * col := by rw [outs_len (by omega), ecol, Nat.pow_succ 2 (j + 1)]; omega
      have oU := o1'.sub s3
      have oV := o2.sub s3
      have bX : lkB (h2.pu [u, v]).blks h2.next = some { cells := [u, v], ch := h2.next, wr := true } := lkB_top
      simp (disch := first|(simp only [Nat.reduceBEq,wE];done)|((repeat' (first|assumption|exact mAx _|refine mBx ?_ ?_|exact mCx (by assumption)|refine mDx ?_|refine mEx ?_ ?_ ?_|exact mFx|refine mGx ?_ ?_ ?_|exact mHx|exact mIx _|(simp only [wM,Nat.reduceAdd,Nat.reduceLT,Nat.reduceLeDiff];done)));done)|omega|decide) only [eK1, kb, s1, callT SW, t1, lS, a1, t2, a2, t3, a3, a4, t4, callT eu, callT ev, bS, ↓wA,wB,wL,resOf,Nat.reduceBEq,Int.reduceBEq,Int.reduceBNe,Int.reduceLT,Int.reduceLE,Int.reduceAdd,Int.reduceSub,Int.reduceMul,Int.reduceToNat]
      refine wloop (fun mm ss => ∃ (i : Nat) (q : AV) (h4 : Hp) (u0 u1 u4 u6 u12 u13 u15 u17 u61 : AV), (mm = 2 * col - i) ∧ (i ≤ 2 * col ∧ Grown (h2.pu [u, v]) h4 ∧ Own (h2.pu [u, v]).next h4.blks .i64 q (ofN ((outs (j + 2) S).take i))) ∧ ss = { fr := [(0, u0), (1, u1), (4, u4), (5, .int .i64 col), (6, u6), (7, .str (strB F)), (8, .str (strB La)), (9, .sl h2.next 0 2 (some 2) 1), (10, q), (11, .int .i64 i), (12, u12), (13, u13), (15, u15), (17, u17), (61, u61)], hp := h4 }) (2 * col) ?_ ?_
      ·
        refine ⟨0, _, _, _, _, _, _, _, _, _, _, _, by omega, ⟨by omega, Grown.pu Grown.refl rfl, O⟩, rfl⟩
      rintro nB sB ⟨i, q, h4, u0, u1, u4, u6, u12, u13, u15, u17, u61, hnB, ⟨hi, g4, o4⟩, rfl⟩
      have k4 := g4.ok k3
      simp (disch := first|(simp only [Nat.reduceBEq,wE];done)|((repeat' (first|assumption|exact mAx _|refine mBx ?_ ?_|exact mCx (by assumption)|refine mDx ?_|refine mEx ?_ ?_ ?_|exact mFx|refine mGx ?_ ?_ ?_|exact mHx|exact mIx _|(simp only [wM,Nat.reduceAdd,Nat.reduceLT,Nat.reduceLeDiff];done)));done)|omega|decide) only [a5, ↓wA,wB,wL,resOf,Nat.reduceBEq,Int.reduceBEq,Int.reduceBNe,Int.reduceLT,Int.reduceLE,Int.reduceAdd,Int.reduceSub,Int.reduceMul,Int.reduceToNat]
      refine ifThen_intro (fun e => ?_) (fun e => ?_) <;> have eq := e <;> try simp [-List.getD_eq_getElem?_getD] at eq
      · have i2 : i / 2 < F.length := by omega
        have qi : sBin .quo .no (.int .i64 (i : Int)) (.int .i64 2) = some (.int .i64 ((i / 2 : Nat) : Int)) := by rw [sBin_quo (by omega) (by omega) (by omega)]; rfl
        have ri : sBin .and .no (.int .i64 (i : Int)) (.int .i64 1) = some (.int .i64 ((i % 2 : Nat) : Int)) := by rw [sBin_and1]; rfl
        have nb := bF.nt (i / 2)
        have w1 : ∀ c, sBin .sub c (.int .u8 ((48 + nt F (i / 2) : Nat) : Int)) (.int .u8 48) = some (.int .u8 ((nt F (i / 2) : Nat) : Int)) := fun c => by
          rw [sBin_sub, wrap_u8' (by omega) (by omega)]; congr 2; omega
        have w2 : IntKind.wrap .i64 ((nt F (i / 2) : Nat) : Int) = ((nt F (i / 2) : Nat) : Int) := wrap_i64 (by omega) (by omega)
        have x1 := xor01 (x := i % 2) (y := nt F (i / 2)) (by omega) nb
        obtain ⟨net, enet⟩ : ∃ m, m = (i % 2 + nt F (i / 2)) % 2 := ⟨_, rfl⟩
        rw [← enet] at x1
        have net2 : net < 2 := by omega
        have bX4 : lkB h4.blks h2.next = some { cells := [u, v], ch := h2.next, wr := true } := g4.sub k3 _ _ bX
        obtain ⟨X, sx, ex1, ox, lx⟩ : ∃ (X : List Nat) (sx : AV), X = (if net = 0 then outs (j + 1) U else outs (j + 1) V) ∧ Ints h4.blks .i64 sx (ofN X) ∧ cellB h4.blks h2.next net = some sx := by
          have : net = 0 ∨ net = 1 := by omega
          rcases this with h | h
          · exact ⟨_, u, rfl, by rw [if_pos h]; exact (oU.sub (g4.sub k3)).ints, by simp [cellB, bX4, h]⟩
          · exact ⟨_, v, rfl, by rw [if_neg (by omega)]; exact (oV.sub (g4.sub k3)).ints, by simp [cellB, bX4, h]⟩
        have lX : X.length = col := by rw [ex1, ecol]; split <;> exact outs_len (by omega)
        obtain ⟨t, et⟩ : ∃ t, t = nt X (i / 2) := ⟨_, rfl⟩
        have tl : t < col := by
          rw [et, ex1, ecol]
          split <;> exact outs_lt _ _ _
        have ldX : (ofN X).getD (i / 2) 0 = (t : Int) := by rw [ofN_at, et]; rfl
        have nl := bL.nt t
        have w3 : ∀ c, sBin .sub c (.int .u8 ((48 + nt La t : Nat) : Int)) (.int .u8 48) = some (.int .u8 ((nt La t : Nat) : Int)) := fun c => by
          rw [sBin_sub, wrap_u8' (by omega) (by omega)]; congr 2; omega
        have w4 : IntKind.wrap .i64 ((nt La t : Nat) : Int) = ((nt La t : Nat) : Int) := wrap_i64 (by omega) (by omega)
        have x2 := xor01 (x := net) (y := nt La t) net2 nl
        obtain ⟨z, ez⟩ : ∃ z, z = (net + nt La t) % 2 := ⟨_, rfl⟩
        rw [← ez] at x2
        have d2 : 2 * (t : Int) = ((2 * t : Nat) : Int) := by omega
        have sm2 : ((2 * t : Nat) : Int) + (z : Int) = ((2 * t + z : Nat) : Int) := by omega
        have lxl : (i / 2) < (ofN X).length := by rw [ofN_len, lX]; omega
        have ixn : sIxS 1 h4 (some net) (.sl h2.next 0 2 (some 2) 1) = some (.ptr h2.next net, h4) := by
          have := sIxS_sl (n := 1) (h := h4) (id := h2.next) (off := 0) (len := 2) (cap := some 2) (sz := 1) net2
          simpa [cellAt] using this
        obtain ⟨s5, h5, e5, o5, g5, n5⟩ := own_app1 (v := ((2 * t + z : Nat) : Int)) k3 g4 o4 (by rw [ofN_len, List.length_take]; omega)
        have res : ofN ((outs (j + 2) S).take i) ++ [((2 * t + z : Nat) : Int)] = ofN ((outs (j + 2) S).take (i + 1)) := by
          rw [List.take_succ_eq_append_getElem (by rw [lT]; omega)]
          have hv : (outs (j + 2) S)[i]'(by rw [lT]; omega) = 2 * t + z := by
            rw [← nt_eq (by rw [lT]; omega), outs_at (by rw [Nat.pow_succ 2 (j + 1), ← ecol]; omega)]
            have f1 : nt S (i / 2) = nt F (i / 2) := by rw [eF, nt_take (by omega)]
            have f2 : (S.drop (2 ^ (j + 1))).take (swc (j + 1)) = U := by rw [← ecol, ← en, eU]
            have f3 : (S.drop (2 ^ (j + 1) + swc (j + 1))).take (swc (j + 1)) = V := by rw [← ecol, ← en, eV]
            rw [f1, f2, f3, ← enet, ← ex1, ← et, ← ecol, ← en]
            have f4 : nt S (col + 2 * n + t) = nt La t := by rw [eL, nt_drop]
            rw [f4, ez]
          rw [hv]
          simp [ofN]
        rw [res] at o5
        simp (disch := first|(simp only [Nat.reduceBEq,wE];done)|((repeat' (first|assumption|exact mAx _|refine mBx ?_ ?_|exact mCx (by assumption)|refine mDx ?_|refine mEx ?_ ?_ ?_|exact mFx|refine mGx ?_ ?_ ?_|exact mHx|exact mIx _|(simp only [wM,Nat.reduceAdd,Nat.reduceLT,Nat.reduceLeDiff];done)));done)|omega|decide) only [e, ri, qi, ixB bF i2, w1, w2, sBin_xor, x1, ixn, lx, ox.ix, ox.ld, ldX, d2, ixB bL (show t < La.length by omega), w3, w4, x2, sm2, e5, ↓wA,wB,wL,resOf,Nat.reduceBEq,Int.reduceBEq,Int.reduceBNe,Int.reduceLT,Int.reduceLE,Int.reduceAdd,Int.reduceSub,Int.reduceMul,Int.reduceToNat]
        refine ⟨_, ?_, i + 1, s5, h5, _, _, _, _, _, _, _, _, _, rfl, ?_, rfl⟩
        · omega
        exact ⟨by omega, g5, o5⟩
      · simp (disch := first|(simp only [Nat.reduceBEq,wE];done)|((repeat' (first|assumption|exact mAx _|refine mBx ?_ ?_|exact mCx (by assumption)|refine mDx ?_|refine mEx ?_ ?_ ?_|exact mFx|refine mGx ?_ ?_ ?_|exact mHx|exact mIx _|(simp only [wM,Nat.reduceAdd,Nat.reduceLT,Nat.reduceLeDiff];done)));done)|omega|decide) only [e, ↓wA,wB,wL,resOf,Nat.reduceBEq,Int.reduceBEq,Int.reduceBNe,Int.reduceLT,Int.reduceLE,Int.reduceAdd,Int.reduceSub,Int.reduceMul,Int.reduceToNat]
        refine ⟨_, rfl, GrownR.trans g3 g4, ?_⟩
        rw [List.take_of_length_le (by rw [lT]; omega)] at o4
        rw [eK]
        exact o4.le g3.next

theorem f70 (x many : Nat) (h : Hp) (hk : Hok h) (hm : many ≤ 20) (hx : x ≤ 1000000000) :
    Evals Tryd.prog tab false (.func 70) [.int .i64 x, .int .i64 many] h (.str (strB (dig x many)), h) := by
  refine evals_pure c70 rfl hk ?_ rfl
  simp only [sf70, initS_cons, initS_nil]
  simp (disch := first|(simp only [Nat.reduceBEq,wE];done)|((repeat' (first|assumption|exact mAx _|refine mBx ?_ ?_|exact mCx (by assumption)|refine mDx ?_|refine mEx ?_ ?_ ?_|exact mFx|refine mGx ?_ ?_ ?_|exact mHx|exact mIx _|(simp only [wM,Nat.reduceAdd,Nat.reduceLT,Nat.reduceLeDiff];done)));done)|omega|decide) only [↓wA,wB,wL,resOf,Nat.reduceBEq,Int.reduceBEq,Int.reduceBNe,Int.reduceLT,Int.reduceLE,Int.reduceAdd,Int.reduceSub,Int.reduceMul,Int.reduceToNat]
  refine wloop (fun mm ss => ∃ (i : Nat) (h1 : Hp) (u4 u9 : AV), (mm = many - i) ∧ (i ≤ many ∧ Grown h h1) ∧ ss = { fr := [(0, .int .i64 x), (1, .int .i64 many), (4, u4), (5, .str (strB (dig x i))), (6, .int .i64 i), (9, u9)], hp := h1 }) (many) ?_ ?_
  ·
    refine ⟨0, h.en, _, _, by omega, ⟨by omega, Grown.en⟩, rfl⟩
  rintro nA sA ⟨i, h1, u4, u9, hnA, ⟨hi, g1⟩, rfl⟩
  have k1 := g1.ok hk
  simp (disch := first|(simp only [Nat.reduceBEq,wE];done)|((repeat' (first|assumption|exact mAx _|refine mBx ?_ ?_|exact mCx (by assumption)|refine mDx ?_|refine mEx ?_ ?_ ?_|exact mFx|refine mGx ?_ ?_ ?_|exact mHx|exact mIx _|(simp only [wM,Nat.reduceAdd,Nat.reduceLT,Nat.reduceLeDiff];done)));done)|omega|decide) only [↓wA,wB,wL,resOf,Nat.reduceBEq,Int.reduceBEq,Int.reduceBNe,Int.reduceLT,Int.reduceLE,Int.reduceAdd,Int.reduceSub,Int.reduceMul,Int.reduceToNat]
  refine ifThen_intro (fun e => ?_) (fun e => ?_) <;> have eq := e <;> try simp [-List.getD_eq_getElem?_getD] at eq
  · have s1 := sBin_shrN (a := x) (j := i) (by omega)
    have s2 : sBin .and .no (.int .i64 ((x / 2 ^ i : Nat) : Int)) (.int .i64 1) = some (.int .i64 ((x / 2 ^ i % 2 : Nat) : Int)) := by rw [sBin_and1]; rfl
    obtain ⟨b, eb⟩ : ∃ b, b = x / 2 ^ i % 2 := ⟨_, rfl⟩
    rw [← eb] at s2
    have b2 : b < 2 := by omega
    have s3 : (48 : Int) + (b : Int) = ((48 + b : Nat) : Int) := by omega
    have w1 : IntKind.wrap .u8 ((48 + b : Nat) : Int) = ((48 + b : Nat) : Int) := wrap_u8' (by omega) (by omega)
    have I : Ints (h1.pu (Abs.ints .u8 [((48 + b : Nat) : Int)])).blks .u8 (.sl h1.next 0 1 (some 1) 1) [((48 + b : Nat) : Int)] := Ints.top rfl (Nat.le_refl 1)
    have e1 := Ints.b2s (h := h1.pu (Abs.ints .u8 [((48 + b : Nat) : Int)])) I (by intro e; cases e)
    rw [List.map_cons, List.map_nil, Int.toNat_natCast] at e1
    have e2 : sBin .add .str (.str (strB (dig x i))) (.str [UInt8.ofNat (48 + b)]) = some (.str (strB (dig x (i + 1)))) := by
      rw [sBin_strA (by rw [strB_len, dig_len]; simp; omega), dig_succ, ← eb]
      simp only [strB, List.map_append, List.map_cons, List.map_nil]
    simp (disch := first|(simp only [Nat.reduceBEq,wE];done)|((repeat' (first|assumption|exact mAx _|refine mBx ?_ ?_|exact mCx (by assumption)|refine mDx ?_|refine mEx ?_ ?_ ?_|exact mFx|refine mGx ?_ ?_ ?_|exact mHx|exact mIx _|(simp only [wM,Nat.reduceAdd,Nat.reduceLT,Nat.reduceLeDiff];done)));done)|omega|decide) only [e, s1, s2, s3, w1, e1, e2, ↓wA,wB,wL,resOf,Nat.reduceBEq,Int.reduceBEq,Int.reduceBNe,Int.reduceLT,Int.reduceLE,Int.reduceAdd,Int.reduceSub,Int.reduceMul,Int.reduceToNat]
    refine ⟨_, ?_, i + 1, _, _, _, rfl, ?_, rfl⟩
    · omega
    exact ⟨by omega, Grown.pu g1 refsOK_ints⟩
  · simp (disch := first|(simp only [Nat.reduceBEq,wE];done)|((repeat' (first|assumption|exact mAx _|refine mBx ?_ ?_|exact mCx (by assumption)|refine mDx ?_|refine mEx ?_ ?_ ?_|exact mFx|refine mGx ?_ ?_ ?_|exact mHx|exact mIx _|(simp only [wM,Nat.reduceAdd,Nat.reduceLT,Nat.reduceLeDiff];done)));done)|omega|decide) only [e, ↓wA,wB,wL,resOf,Nat.reduceBEq,Int.reduceBEq,Int.reduceBNe,Int.reduceLT,Int.reduceLE,Int.reduceAdd,Int.reduceSub,Int.reduceMul,Int.reduceToNat]
    refine ⟨_, rfl, ?_, g1⟩
    rw [show many = i by omega]

theorem f69 (k x : Nat) (h : Hp) (hk : Hok h) (h3 : 1 ≤ k ∧ k ≤ 3) (hx : x ≤ 1000000000) :
    Evals Tryd.prog tab false (.func 69) [.int .i64 k, .int .i64 x] h (.str (strB (dig x (swc k))), h) := by
  refine evals_pure c69 rfl hk ?_ rfl
  simp only [sf69, initS_cons, initS_nil]
  have n20 := (swc_val h3).2.1
  have SW := f67 k h.en hk h3
  obtain ⟨n, en⟩ : ∃ n, n = swc k := ⟨_, rfl⟩
  rw [← en] at SW n20
  have mk := sMks_ok (h := h.en) (z := [.int .u8 0]) (n := 1) (l := n) (c := n) (Nat.le_refl _) (by omega)
  have gA : Grown h (h.en.pu (repl [.int .u8 0] n)) := Grown.pu Grown.en (by rw [repl_ints]; exact refsOK_ints)
  have rep : Own h.next (h.en.pu (repl [.int .u8 0] n)).blks .u8 (.sl h.next 0 n (some n) 1) (List.replicate n 0) :=
    Own.fresh (Nat.le_refl _) (by simp) (by rw [repl_ints]; exact List.take_of_length_le (by simp [ints_len])) (by rw [repl_ints]; simp [ints_len]) (Nat.le_refl _)
  have la : ∀ h' : Hp, sLen h' (.sl h.next 0 n (some n) 1) = some (.int .i64 (n : Int), h') := fun _ => rfl
  simp (disch := first|(simp only [Nat.reduceBEq,wE];done)|((repeat' (first|assumption|exact mAx _|refine mBx ?_ ?_|exact mCx (by assumption)|refine mDx ?_|refine mEx ?_ ?_ ?_|exact mFx|refine mGx ?_ ?_ ?_|exact mHx|exact mIx _|(simp only [wM,Nat.reduceAdd,Nat.reduceLT,Nat.reduceLeDiff];done)));done)|omega|decide) only [callT SW, mk, ↓wA,wB,wL,resOf,Nat.reduceBEq,Int.reduceBEq,Int.reduceBNe,Int.reduceLT,Int.reduceLE,Int.reduceAdd,Int.reduceSub,Int.reduceMul,Int.reduceToNat]
  refine wloop (fun mm ss => ∃ (i : Nat) (L : List Int) (h1 : Hp) (u4 u6 u13 : AV), (mm = n - i) ∧ (i ≤ n ∧ Grown h h1 ∧ Own h.next h1.blks .u8 (.sl h.next 0 n (some n) 1) L ∧ L.length = n ∧ L.take i = sB (dig x i)) ∧ ss = { fr := [(0, .int .i64 k), (1, .int .i64 x), (4, u4), (5, .sl h.next 0 n (some n) 1), (6, u6), (11, .int .i64 n), (12, .int .i64 i), (13, u13)], hp := h1 }) (n) ?_ ?_
  ·
    refine ⟨0, List.replicate n 0, _, _, _, _, by omega, ⟨by omega, gA, rep, by simp, by simp [sB, dig]⟩, rfl⟩
  rintro nA sA ⟨i, L, h1, u4, u6, u13, hnA, ⟨hi, g1, o1, lL, hL⟩, rfl⟩
  have k1 := g1.ok hk
  simp (disch := first|(simp only [Nat.reduceBEq,wE];done)|((repeat' (first|assumption|exact mAx _|refine mBx ?_ ?_|exact mCx (by assumption)|refine mDx ?_|refine mEx ?_ ?_ ?_|exact mFx|refine mGx ?_ ?_ ?_|exact mHx|exact mIx _|(simp only [wM,Nat.reduceAdd,Nat.reduceLT,Nat.reduceLeDiff];done)));done)|omega|decide) only [↓wA,wB,wL,resOf,Nat.reduceBEq,Int.reduceBEq,Int.reduceBNe,Int.reduceLT,Int.reduceLE,Int.reduceAdd,Int.reduceSub,Int.reduceMul,Int.reduceToNat]
  refine ifThen_intro (fun e => ?_) (fun e => ?_) <;> have eq := e <;> try simp [-List.getD_eq_getElem?_getD] at eq
  · have s1 := sBin_shrN (a := x) (j := i) (by omega)
    have s2 : sBin .and .no (.int .i64 ((x / 2 ^ i : Nat) : Int)) (.int .i64 1) = some (.int .i64 ((x / 2 ^ i % 2 : Nat) : Int)) := by rw [sBin_and1]; rfl
    obtain ⟨b, eb⟩ : ∃ b, b = x / 2 ^ i % 2 := ⟨_, rfl⟩
    rw [← eb] at s2
    have b2 : b < 2 := by omega
    have w1 : IntKind.wrap .u8 (b : Int) = (b : Int) := wrap_u8' (by omega) (by omega)
    have w2 : ∀ c, sBin .add c (.int .u8 48) (.int .u8 (b : Int)) = some (.int .u8 ((48 + b : Nat) : Int)) := fun c => by
      rw [sBin_add, wrap_u8' (by omega) (by omega)]; congr 2
    have w3 : IntKind.wrap .u8 (48 + (b : Int)) = ((48 + b : Nat) : Int) := by rw [wrap_u8' (by omega) (by omega)]; omega
    obtain ⟨h2, e2, o2, g2⟩ := own_setI (v := ((48 + b : Nat) : Int)) (i := i) hk g1 o1 (by omega)
    simp (disch := first|(simp only [Nat.reduceBEq,wE];done)|((repeat' (first|assumption|exact mAx _|refine mBx ?_ ?_|exact mCx (by assumption)|refine mDx ?_|refine mEx ?_ ?_ ?_|exact mFx|refine mGx ?_ ?_ ?_|exact mHx|exact mIx _|(simp only [wM,Nat.reduceAdd,Nat.reduceLT,Nat.reduceLeDiff];done)));done)|omega|decide) only [e, s1, s2, w1, w2, w3, o1.ints.ix, e2, ↓wA,wB,wL,resOf,Nat.reduceBEq,Int.reduceBEq,Int.reduceBNe,Int.reduceLT,Int.reduceLE,Int.reduceAdd,Int.reduceSub,Int.reduceMul,Int.reduceToNat]
    refine ⟨_, ?_, i + 1, L.set i ((48 + b : Nat) : Int), h2, _, _, _, rfl, ?_, rfl⟩
    · omega
    refine ⟨by omega, g2, o2, by simpa using lL, ?_⟩
    rw [List.take_succ_eq_append_getElem (by simp; omega), List.take_set_of_le (by omega), hL, dig_succ, ← eb]
    simp [sB]
  · rw [List.take_of_length_le (by omega)] at hL
    have e1 := o1.b2s
    rw [hL, sB_str dig_bits] at e1
    simp (disch := first|(simp only [Nat.reduceBEq,wE];done)|((repeat' (first|assumption|exact mAx _|refine mBx ?_ ?_|exact mCx (by assumption)|refine mDx ?_|refine mEx ?_ ?_ ?_|exact mFx|refine mGx ?_ ?_ ?_|exact mHx|exact mIx _|(simp only [wM,Nat.reduceAdd,Nat.reduceLT,Nat.reduceLeDiff];done)));done)|omega|decide) only [e, e1, ↓wA,wB,wL,resOf,Nat.reduceBEq,Int.reduceBEq,Int.reduceBNe,Int.reduceLT,Int.reduceLE,Int.reduceAdd,Int.reduceSub,Int.reduceMul,Int.reduceToNat]
    refine ⟨_, rfl, ?_, g1⟩
    rw [← en, show n = i by omega]

theorem f68 (a b : AV) (xs ys : List Int) (h : Hp) (hk : Hok h) (ha : Ints h.blks .i64 a xs) (hb : Ints h.blks .i64 b ys) (hx : xs.length ≤ 1000) (hy : ys.length ≤ 1000) :
    Evals Tryd.prog tab false (.func 68) [a, b] h (.bool (decide (xs = ys)), h) := by
  refine evals_pure c68 rfl hk ?_
  simp only [sf68, initS_cons, initS_nil]
  by_cases e0 : xs.length = ys.length
  · have e0t : ((xs.length : Int) != (ys.length : Int)) = false := by simp; omega
    simp (disch := first|(simp only [Nat.reduceBEq,wE];done)|((repeat' (first|assumption|exact mAx _|refine mBx ?_ ?_|exact mCx (by assumption)|refine mDx ?_|refine mEx ?_ ?_ ?_|exact mFx|refine mGx ?_ ?_ ?_|exact mHx|exact mIx _|(simp only [wM,Nat.reduceAdd,Nat.reduceLT,Nat.reduceLeDiff];done)));done)|omega|decide) only [ha.len, hb.len, e0t, ↓wA,wB,wL,resOf,Nat.reduceBEq,Int.reduceBEq,Int.reduceBNe,Int.reduceLT,Int.reduceLE,Int.reduceAdd,Int.reduceSub,Int.reduceMul,Int.reduceToNat]
    refine wloop (fun mm ss => ∃ (i : Nat) (u4 u5 u10 u14 u24 : AV), (mm = xs.length - i) ∧ (i ≤ xs.length ∧ xs.take i = ys.take i) ∧ ss = { fr := [(0, a), (1, b), (4, u4), (5, u5), (10, u10), (12, .int .i64 xs.length), (13, .int .i64 i), (14, u14), (24, u24)], hp := h.en }) (xs.length) ?_ ?_
    ·
      refine ⟨0, _, _, _, _, _, by omega, ⟨by omega, by simp⟩, rfl⟩
    rintro nA sA ⟨i, u4, u5, u10, u14, u24, hnA, ⟨hi, hp⟩, rfl⟩
    simp (disch := first|(simp only [Nat.reduceBEq,wE];done)|((repeat' (first|assumption|exact mAx _|refine mBx ?_ ?_|exact mCx (by assumption)|refine mDx ?_|refine mEx ?_ ?_ ?_|exact mFx|refine mGx ?_ ?_ ?_|exact mHx|exact mIx _|(simp only [wM,Nat.reduceAdd,Nat.reduceLT,Nat.reduceLeDiff];done)));done)|omega|decide) only [↓wA,wB,wL,resOf,Nat.reduceBEq,Int.reduceBEq,Int.reduceBNe,Int.reduceLT,Int.reduceLE,Int.reduceAdd,Int.reduceSub,Int.reduceMul,Int.reduceToNat]
    refine ifThen_intro (fun e => ?_) (fun e => ?_) <;> have eq := e <;> try simp [-List.getD_eq_getElem?_getD] at eq
    · have hy2 : i < ys.length := by omega
      by_cases c : xs.getD i 0 = ys.getD i 0
      · have ct : (xs.getD i 0 != ys.getD i 0) = false := by simpa using c
        simp (disch := first|(simp only [Nat.reduceBEq,wE];done)|((repeat' (first|assumption|exact mAx _|refine mBx ?_ ?_|exact mCx (by assumption)|refine mDx ?_|refine mEx ?_ ?_ ?_|exact mFx|refine mGx ?_ ?_ ?_|exact mHx|exact mIx _|(simp only [wM,Nat.reduceAdd,Nat.reduceLT,Nat.reduceLeDiff];done)));done)|omega|decide) only [e, ha.ix, ha.ld, hb.ix, hb.ld, ct, ↓wA,wB,wL,resOf,Nat.reduceBEq,Int.reduceBEq,Int.reduceBNe,Int.reduceLT,Int.reduceLE,Int.reduceAdd,Int.reduceSub,Int.reduceMul,Int.reduceToNat]
        refine ⟨_, ?_, i + 1, _, _, _, _, _, rfl, ?_, rfl⟩
        · omega
        exact ⟨by omega, take_step eq hy2 hp c⟩
      · have ct : (xs.getD i 0 != ys.getD i 0) = true := by simpa using c
        simp (disch := first|(simp only [Nat.reduceBEq,wE];done)|((repeat' (first|assumption|exact mAx _|refine mBx ?_ ?_|exact mCx (by assumption)|refine mDx ?_|refine mEx ?_ ?_ ?_|exact mFx|refine mGx ?_ ?_ ?_|exact mHx|exact mIx _|(simp only [wM,Nat.reduceAdd,Nat.reduceLT,Nat.reduceLeDiff];done)));done)|omega|decide) only [e, ha.ix, ha.ld, hb.ix, hb.ld, ct, ↓wA,wB,wL,resOf,Nat.reduceBEq,Int.reduceBEq,Int.reduceBNe,Int.reduceLT,Int.reduceLE,Int.reduceAdd,Int.reduceSub,Int.reduceMul,Int.reduceToNat]
        refine ⟨_, rfl, ?_, by (repeat' (first|assumption|exact mAx _|refine mBx ?_ ?_|exact mCx (by assumption)|refine mDx ?_|refine mEx ?_ ?_ ?_|exact mFx|refine mGx ?_ ?_ ?_|exact mHx|exact mIx _|(simp only [wM,Nat.reduceAdd,Nat.reduceLT,Nat.reduceLeDiff];done)))⟩
        rw [decide_eq_false fun h => c (by rw [h])]
    · simp (disch := first|(simp only [Nat.reduceBEq,wE];done)|((repeat' (first|assumption|exact mAx _|refine mBx ?_ ?_|exact mCx (by assumption)|refine mDx ?_|refine mEx ?_ ?_ ?_|exact mFx|refine mGx ?_ ?_ ?_|exact mHx|exact mIx _|(simp only [wM,Nat.reduceAdd,Nat.reduceLT,Nat.reduceLeDiff];done)));done)|omega|decide) only [e, ↓wA,wB,wL,resOf,Nat.reduceBEq,Int.reduceBEq,Int.reduceBNe,Int.reduceLT,Int.reduceLE,Int.reduceAdd,Int.reduceSub,Int.reduceMul,Int.reduceToNat]
      refine ⟨_, rfl, ?_, by (repeat' (first|assumption|exact mAx _|refine mBx ?_ ?_|exact mCx (by assumption)|refine mDx ?_|refine mEx ?_ ?_ ?_|exact mFx|refine mGx ?_ ?_ ?_|exact mHx|exact mIx _|(simp only [wM,Nat.reduceAdd,Nat.reduceLT,Nat.reduceLeDiff];done)))⟩
      rw [List.take_of_length_le (by omega), List.take_of_length_le (by omega)] at hp
      rw [decide_eq_true hp]
  · have e0t : ((xs.length : Int) != (ys.length : Int)) = true := by simp; omega
    simp (disch := first|(simp only [Nat.reduceBEq,wE];done)|((repeat' (first|assumption|exact mAx _|refine mBx ?_ ?_|exact mCx (by assumption)|refine mDx ?_|refine mEx ?_ ?_ ?_|exact mFx|refine mGx ?_ ?_ ?_|exact mHx|exact mIx _|(simp only [wM,Nat.reduceAdd,Nat.reduceLT,Nat.reduceLeDiff];done)));done)|omega|decide) only [ha.len, hb.len, e0t, ↓wA,wB,wL,resOf,Nat.reduceBEq,Int.reduceBEq,Int.reduceBNe,Int.reduceLT,Int.reduceLE,Int.reduceAdd,Int.reduceSub,Int.reduceMul,Int.reduceToNat]
    refine ⟨_, rfl, ?_, by (repeat' (first|assumption|exact mAx _|refine mBx ?_ ?_|exact mCx (by assumption)|refine mDx ?_|refine mEx ?_ ?_ ?_|exact mFx|refine mGx ?_ ?_ ?_|exact mHx|exact mIx _|(simp only [wM,Nat.reduceAdd,Nat.reduceLT,Nat.reduceLeDiff];done)))⟩
    rw [decide_eq_false fun h => e0 (by rw [h])]
end Go.Proofs.YtbomimhfldmlbaaDoor
