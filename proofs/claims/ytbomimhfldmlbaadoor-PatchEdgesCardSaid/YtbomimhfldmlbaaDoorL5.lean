/- PatchEdges: a routing of a permutation is an edge colouring. -/
import Derived.Test.YtbomimhfldmlbaaDoorL4
import Derived.Test.YtbomimhfldmlbaaDoorFPatchEdges
set_option linter.unusedSimpArgs false
set_option linter.unusedVariables false
set_option maxHeartbeats 4000000
set_option maxRecDepth 20000
namespace Go.Pa
theorem edgs_ok {n r : Nat} {ps : List Int} (hn : 0 < n) (hr : 0 < r ∧ r ≤ 6) (hp : PermI (n * r : Nat) ps) : GraphOK r r (edgs n ps) := by
  refine ⟨by omega, by omega, fun e he => ?_⟩
  have hd : ∀ x : Int, 0 ≤ x → x < (n * r : Nat) → 0 ≤ x / (n : Int) ∧ x / (n : Int) ≤ (r : Int) - 1 := fun x h1 h2 => by
    have h3 : 0 ≤ x / (n : Int) := Int.ediv_nonneg h1 (by omega)
    have h4 : x / (n : Int) < r := by
      refine Int.ediv_lt_of_lt_mul (by omega) ?_
      rw [Int.mul_comm]
      simpa using h2
    omega
  obtain ⟨i, hi, rfl⟩ := List.getElem_of_mem he
  rw [edgs_len] at hi
  have e1 : (edgs n ps)[i] = eg (edgs n ps) i := by simp [eg, List.getD_eq_getElem?_getD, List.getElem?_eq_getElem (show i < (edgs n ps).length by rw [edgs_len]; exact hi)]
  rw [e1, edgs_at hi]
  have hl := hp.1
  have hz := hp.2.1 _ (List.getElem_mem hi)
  rw [← getD_at hi] at hz
  exact ⟨hd i (by omega) (by omega), hd _ hz.1 hz.2⟩
theorem dgU_lim {E : List (Int × Int)} {n : Nat} (h1 : ∀ x, degA E x ≤ n) (h2 : ∀ x, degB E x ≤ n) : ∀ k, dgU E k ≤ n
  | 0 => Nat.zero_le _
  | k + 1 => by
    have := dgU_lim h1 h2 k
    have := h1 k
    have := h2 k
    simp only [dgU]
    omega
theorem edgs_dg {n r : Nat} {ps : List Int} (hn : 0 < n) (hr : 0 < r) (hp : PermI (n * r : Nat) ps) : dg (edgs n ps) = n := by
  refine Nat.le_antisymm (dgU_lim (fun x => edgs_degA (w := 0) hn x) (fun x => edgs_degB hn hp.2.2 x) 6) ?_
  have h1 : n ≤ degA (edgs n ps) ((0 : Nat) : Int) := by
    have hl := hp.1
    have hnr : n ≤ n * r := Nat.le_mul_of_pos_right n hr
    refine pigeon n _ fun i hi => List.mem_filter.2 ⟨List.mem_range.2 (by rw [edgs_len]; omega), ?_⟩
    have e : (eg (edgs n ps) i).1 = ((0 : Nat) : Int) := by
      rw [edgs_at (by omega)]
      exact Int.ediv_eq_zero_of_lt (by omega) (by omega)
    exact decide_eq_true e
  have h2 := (dgU_ge (E := edgs n ps) (n := 6) (v := 0) (by omega)).1
  exact Nat.le_trans h1 h2
end Go.Pa
namespace Go.Proofs.YtbomimhfldmlbaaDoor
open Go Go.Abs Go.Pa

theorem f15 (x y z : Int) (a : AV) (zs : List Int) (h : Hp) (hk : Hok h) (bx : 0 ≤ x ∧ x ≤ 255) (by' : 0 ≤ y ∧ y ≤ 255) (bz : 0 ≤ z ∧ z ≤ 255)
    (ha : Ints h.blks .u8 a zs) (Ba : ∀ k ∈ zs, 0 ≤ k ∧ k ≤ 255) (Sa : zs.length ≤ maxLen) :
    ∃ h', Evals Tryd.prog tab false (.func 15) [.ag [.int .u8 x, .int .u8 y, .int .u8 z], a] h (.bool true, h') := by
  have Sa' : zs.length < 2 ^ 63 := by have : maxLen = 2 ^ 63 - 1 := rfl; omega
  obtain ⟨x, rfl⟩ : ∃ t : Nat, x = t := ⟨x.toNat, by omega⟩
  obtain ⟨y, rfl⟩ : ∃ t : Nat, y = t := ⟨y.toNat, by omega⟩
  obtain ⟨z, rfl⟩ : ∃ t : Nat, z = t := ⟨z.toNat, by omega⟩
  obtain ⟨code, rfl⟩ : ∃ c, zs = ofN c := ⟨_, toN fun z hz => (Ba z hz).1⟩
  have Bc : ∀ x ∈ code, x ≤ 255 := fun x hx => by have := Ba (x : Int) (List.mem_map.2 ⟨x, hx, rfl⟩); omega
  rw [ofN_len] at Sa'
  suffices H : ∃ v h', Evals Tryd.prog tab false (.func 15) [.ag [.int .u8 x, .int .u8 y, .int .u8 z], a] h (v, h') ∧ v = .bool true by
    obtain ⟨v, h', e, rfl⟩ := H
    exact ⟨h', e⟩
  refine evals_func (Q := fun v _ => v = .bool true) c15 rfl ?_
  simp only [sf15, initS_cons, initS_nil]
  have k0 : Hok (h.en.pu [.int .u8 x, .int .u8 y, .int .u8 z]) := Hok.pu hk rfl
  have s0 : Sub h.blks (h.en.pu [.int .u8 x, .int .u8 y, .int .u8 z]).blks := Sub.pu (h := h.en) hk
  have N := f44 x y z (h.en.pu [.int .u8 x, .int .u8 y, .int .u8 z]) k0 (by omega) (by omega) (by omega)
  obtain ⟨n0, n1, r0, r1, hw⟩ := net_ok x y
  generalize netN x = n at *
  generalize netR x y = r at *
  generalize netN z = m at *
  have e : (n : Int) * (r : Int) = ((n * r : Nat) : Int) := by simp
  by_cases r6 : r ≤ 6
  · have er : decide ((r : Int) > 6) = false := decide_eq_false (by omega)
    have hc : Clos n r n := clos_of n0 n1 r0 r1 hw n0 n1
    obtain ⟨p, h1, e1, g1, o1⟩ := f45 (n * r) a code (h.en.pu [.int .u8 x, .int .u8 y, .int .u8 z]) k0 (ha.sub s0) (by omega) Sa' Bc
    have k1 := g1.ok k0
    have hp : PermI (n * r : Nat) (ofN (nthC code (n * r))) := nth_perm
    have lp : (ofN (nthC code (n * r))).length = n * r := by rw [ofN_len, nthC_len]
    obtain ⟨ps, eps⟩ : ∃ ps, ps = ofN (nthC code (n * r)) := ⟨_, rfl⟩
    rw [← eps] at o1 hp lp
    obtain ⟨w, ew⟩ : ∃ w, w = n * r := ⟨_, rfl⟩
    rw [← ew] at lp hp hw
    have ew' : (n : Int) * (r : Int) = (w : Int) := by rw [e, ew]
    have O : OwnP h1.next (h1.pu []).blks (.sl h1.next 0 0 (some 0) 2) [] := OwnP.fresh (Nat.le_refl _) rfl rfl rfl (Nat.le_refl _)
    have qo := @sBin_quo
    rw [← ew] at e1
    simp (disch := first|(simp only [Nat.reduceBEq,wE];done)|((repeat' (first|assumption|exact mAx _|refine mBx ?_ ?_|exact mCx (by assumption)|refine mDx ?_|refine mEx ?_ ?_ ?_|exact mFx|refine mGx ?_ ?_ ?_|exact mHx|exact mIx _|(simp only [wM,Nat.reduceAdd,Nat.reduceLT,Nat.reduceLeDiff];done)));done)|omega|decide) only [callT N, er, ew', callT e1, ↓wA,wB,wL,resOf,Nat.reduceBEq,Int.reduceBEq,Int.reduceBNe,Int.reduceLT,Int.reduceLE,Int.reduceAdd,Int.reduceSub,Int.reduceMul,Int.reduceToNat]
    refine wloop (fun mm ss => ∃ (i : Nat) (q : AV) (h2 : Hp) (u0 u1 u2 u4 u11 u12 u13 u14 u22 u34 : AV), (mm = w - i) ∧ (i ≤ w ∧ Grown h1 h2 ∧ OwnP h1.next h2.blks q ((edgs n ps).take i)) ∧ ss = { fr := [(0, u0), (1, u1), (2, u2), (4, u4), (5, .int .i64 n), (6, .int .i64 r), (8, p), (9, q), (10, .int .i64 i), (11, u11), (12, u12), (13, u13), (14, u14), (22, u22), (34, u34)], hp := h2 }) (w) ?_ ?_
    ·
      refine ⟨0, _, _, _, _, _, _, _, _, _, _, _, _, by omega, ⟨by omega, Grown.pu Grown.refl rfl, O⟩, rfl⟩
    rintro nA sA ⟨i, q, h2, u0, u1, u2, u4, u11, u12, u13, u14, u22, u34, hnA, ⟨hi, g2, o2⟩, rfl⟩
    have k2 := g2.ok k1
    have p2 := o1.sub (g2.sub k1)
    have le : (edgs n ps).length = w := by rw [edgs_len]; exact lp
    simp (disch := first|(simp only [Nat.reduceBEq,wE];done)|((repeat' (first|assumption|exact mAx _|refine mBx ?_ ?_|exact mCx (by assumption)|refine mDx ?_|refine mEx ?_ ?_ ?_|exact mFx|refine mGx ?_ ?_ ?_|exact mHx|exact mIx _|(simp only [wM,Nat.reduceAdd,Nat.reduceLT,Nat.reduceLeDiff];done)));done)|omega|decide) only [ew', ↓wA,wB,wL,resOf,Nat.reduceBEq,Int.reduceBEq,Int.reduceBNe,Int.reduceLT,Int.reduceLE,Int.reduceAdd,Int.reduceSub,Int.reduceMul,Int.reduceToNat]
    refine ifThen_intro (fun ec => ?_) (fun ec => ?_) <;> have ecq := ec <;> try simp [-List.getD_eq_getElem?_getD] at ecq
    · have hi2 : i < ps.length := by omega
      have hz := hp.2.1 _ (List.getElem_mem hi2)
      rw [← getD_at hi2] at hz
      have hq1 : 0 ≤ (i : Int) / n := Int.ediv_nonneg (by omega) (by omega)
      have hq2 : 0 ≤ ps.getD i 0 / (n : Int) := Int.ediv_nonneg hz.1 (by omega)
      obtain ⟨s2, h3, y1, y2, y3, y4⟩ := own_appP1 (a := (i : Int) / n) (b := ps.getD i 0 / n) k1 g2 o2 (by simp; omega)
      simp (disch := first|(simp only [Nat.reduceBEq,wE];done)|((repeat' (first|assumption|exact mAx _|refine mBx ?_ ?_|exact mCx (by assumption)|refine mDx ?_|refine mEx ?_ ?_ ?_|exact mFx|refine mGx ?_ ?_ ?_|exact mHx|exact mIx _|(simp only [wM,Nat.reduceAdd,Nat.reduceLT,Nat.reduceLeDiff];done)));done)|omega|decide) only [ec, p2.ints.ix, p2.ints.ld, qo, y1, ↓wA,wB,wL,resOf,Nat.reduceBEq,Int.reduceBEq,Int.reduceBNe,Int.reduceLT,Int.reduceLE,Int.reduceAdd,Int.reduceSub,Int.reduceMul,Int.reduceToNat]
      refine ⟨_, ?_, i + 1, s2, h3, _, _, _, _, _, _, _, _, _, _, rfl, ?_, rfl⟩
      · omega
      refine ⟨by omega, y3, ?_⟩
      have eat : (edgs n ps)[i]'(by rw [le]; exact ecq) = ((i : Int) / n, ps.getD i 0 / n) := by
        have := edgs_at (n := n) hi2
        rw [← this]
        simp [eg, List.getD_eq_getElem?_getD, List.getElem?_eq_getElem (show i < (edgs n ps).length by rw [le]; exact ecq)]
      rw [List.take_succ_eq_append_getElem (by rw [le]; exact ecq), eat]
      exact y2
    · rw [List.take_of_length_le (by rw [le]; omega)] at o2
      have hp' : PermI (n * r : Nat) ps := by rw [← ew]; exact hp
      obtain ⟨v, h3, ev, g3, t, ts, rfl, t1, t2, t3, t4, t5, t6⟩ := Route_ok n r n p ps h2 k2 hc ⟨n0, n1⟩ (by omega) n1 p2.ints (by omega) hp' (Nat.le_refl _)
      have k3 := g3.ok k2
      have o3 := o2.sub (g3.sub k2)
      obtain ⟨v, h4, ev4, g4, c, cs, rfl, c1, c2, c3, c4, c5, c6⟩ := Colors_ok r r q (edgs n ps) h3 k3 o3.pairs (by omega) (edgs_ok n0 ⟨r0, r6⟩ hp')
      have k4 := g4.ok k3
      rw [edgs_dg n0 r0 hp', t1] at c1
      cases c1
      have t4' := t5.sub (g4.sub k3)
      have S := f26 t c ts ts h4 k4 t4'.ints c5.ints (by omega) (by omega)
      rw [decide_eq_true rfl] at S
      have P := f49 q t (edgs n ps) ts h4 k4 (o3.sub (g4.sub k3)).pairs t4'.ints (by omega) (by omega)
      rw [decide_eq_true t2] at P
      simp (disch := first|(simp only [Nat.reduceBEq,wE];done)|((repeat' (first|assumption|exact mAx _|refine mBx ?_ ?_|exact mCx (by assumption)|refine mDx ?_|refine mEx ?_ ?_ ?_|exact mFx|refine mGx ?_ ?_ ?_|exact mHx|exact mIx _|(simp only [wM,Nat.reduceAdd,Nat.reduceLT,Nat.reduceLeDiff];done)));done)|omega|decide) only [ec, callT ev, callT ev4, callT S, callT P, callT (lives_ev _), ↓wA,wB,wL,resOf,Nat.reduceBEq,Int.reduceBEq,Int.reduceBNe,Int.reduceLT,Int.reduceLE,Int.reduceAdd,Int.reduceSub,Int.reduceMul,Int.reduceToNat]
      exact ⟨_, rfl, rfl⟩
  · have er : decide ((r : Int) > 6) = true := decide_eq_true (by omega)
    simp (disch := first|(simp only [Nat.reduceBEq,wE];done)|((repeat' (first|assumption|exact mAx _|refine mBx ?_ ?_|exact mCx (by assumption)|refine mDx ?_|refine mEx ?_ ?_ ?_|exact mFx|refine mGx ?_ ?_ ?_|exact mHx|exact mIx _|(simp only [wM,Nat.reduceAdd,Nat.reduceLT,Nat.reduceLeDiff];done)));done)|omega|decide) only [callT N, er, callT (lives_ev _), ↓wA,wB,wL,resOf,Nat.reduceBEq,Int.reduceBEq,Int.reduceBNe,Int.reduceLT,Int.reduceLE,Int.reduceAdd,Int.reduceSub,Int.reduceMul,Int.reduceToNat]
    exact ⟨_, rfl, rfl⟩
end Go.Proofs.YtbomimhfldmlbaaDoor
