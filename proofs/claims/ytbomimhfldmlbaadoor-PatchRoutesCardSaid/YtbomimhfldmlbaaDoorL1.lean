/- PatchRoutes: Valid and Route answer as the reference. -/
import Derived.Test.YtbomimhfldmlbaaDoorPF
import Derived.Test.YtbomimhfldmlbaaDoorFPatchRoutes
set_option linter.unusedSimpArgs false
set_option linter.unusedVariables false
set_option maxHeartbeats 4000000
set_option maxRecDepth 20000
namespace Go.Proofs.YtbomimhfldmlbaaDoor
open Go Go.Abs Go.Pa

theorem f3 (n r m : Int) (a : AV) (xs : List Int) (b : AV) (ys : List Int) (h : Hp) (hk : Hok h)
    (bn : -9223372036854775808 ≤ n ∧ n ≤ 9223372036854775807) (br : -9223372036854775808 ≤ r ∧ r ≤ 9223372036854775807) (bm : -9223372036854775808 ≤ m ∧ m ≤ 9223372036854775807)
    (ha : Ints h.blks .i64 a xs) (Ba : ∀ k ∈ xs, -9223372036854775808 ≤ k ∧ k ≤ 9223372036854775807) (Sa : xs.length ≤ maxLen)
    (hb : Ints h.blks .i64 b ys) (Bb : ∀ k ∈ ys, -9223372036854775808 ≤ k ∧ k ≤ 9223372036854775807) (Sb : ys.length ≤ maxLen) :
    ∃ h', Evals Tryd.prog tab false (.func 3) [.ag [.int .i64 n, .int .i64 r, .int .i64 m], a, b] h (.bool true, h') := by
  have Sa' : xs.length < 2 ^ 63 := by have : maxLen = 2 ^ 63 - 1 := rfl; omega
  have Sb' : ys.length < 2 ^ 63 := by have : maxLen = 2 ^ 63 - 1 := rfl; omega
  suffices H : ∃ v h', Evals Tryd.prog tab false (.func 3) [.ag [.int .i64 n, .int .i64 r, .int .i64 m], a, b] h (v, h') ∧ v = .bool true by
    obtain ⟨v, h', e, rfl⟩ := H
    exact ⟨h', e⟩
  refine evals_func (Q := fun v _ => v = .bool true) c3 rfl ?_
  simp only [sf3, initS_cons, initS_nil]
  have k0 : Hok (h.en.pu [.int .i64 n, .int .i64 r, .int .i64 m]) := Hok.pu hk rfl
  have s0 : Sub h.blks (h.en.pu [.int .i64 n, .int .i64 r, .int .i64 m]).blks := Sub.pu (h := h.en) hk
  obtain ⟨a1, h1, ev1, g1, o1⟩ := f17 a xs (h.en.pu [.int .i64 n, .int .i64 r, .int .i64 m]) k0 (ha.sub s0) Sa'
  have k1 := g1.ok k0
  obtain ⟨b1, h2, ev2, g2, p1⟩ := f17 b ys h1 k1 ((hb.sub s0).sub (g1.sub k0)) Sb'
  have k2 := g2.ok k1
  have o2 := o1.sub (g2.sub k1)
  obtain ⟨ps, eps⟩ : ∃ ps, ps = xs.take 13 := ⟨_, rfl⟩
  obtain ⟨zs, ezs⟩ : ∃ zs, zs = ys.take 13 := ⟨_, rfl⟩
  have lps : ps.length ≤ 13 := by rw [eps]; simp; omega
  have lzs : zs.length ≤ 13 := by rw [ezs]; simp; omega
  rw [← eps] at o1 o2
  rw [← ezs] at p1
  by_cases hc : Clos n r m
  · obtain ⟨n, r, m, rfl, rfl, rfl, n0, n1, r0, r1, hw, m0, m1⟩ := hc.nat
    have e : (n : Int) * (r : Int) = ((n * r : Nat) : Int) := by simp
    by_cases hp : PermI (n * r : Nat) ps
    · have P := f22 a1 ps (n * r)
      by_cases hm : n ≤ m
      · obtain ⟨v, h3, ev3, g3, t, ts, rfl, t1, t2, t3, t4, t5, t6⟩ := Route_ok n r m a1 ps h2 k2 hc ⟨n0, n1⟩ hw m1 o2.ints (by omega) hp hm
        have k3 := g3.ok k2
        have o3 := o2.sub (g3.sub k2)
        have p3 := p1.sub (g3.sub k2)
        have O : Own h3.next (h3.pu []).blks .i64 (.sl h3.next 0 0 (some 0) 1) [] := Own.fresh (Nat.le_refl _) rfl rfl rfl (Nat.le_refl _)
        obtain ⟨w, h4, ev4, g4, q4⟩ := f25 n m a1 ps h3 k3 ⟨n0, by omega⟩ (by omega) hm o3.ints (by omega) (hp.bd (by omega)) ps.length [] (.sl h3.next 0 0 (some 0) 1) (h3.pu []) h3.next (by simp) (Grown.pu Grown.refl rfl) O (by intro e; cases e) (Nat.le_succ _)
        rw [rfE_ext, if_pos prp_nil, ← edgs_len (n := n) (zs := ps), t1] at q4
        have g5 : Grown h3 h4 := GrownR.trans (Grown.pu Grown.refl rfl) g4
        have k4 := g5.ok k3
        have t5' := t5.sub (g5.sub k3)
        have S := f26 t w ts ts h4 k4 t5'.ints q4.1.ints (by omega) (by omega)
        rw [decide_eq_true rfl] at S
        by_cases hcol : ColI m (n * r : Nat) zs
        · have hl : zs.length ≤ ps.length := by have h1 := hp.1; have h2 := hcol.1; omega
          have V := Valid_ok n r m a1 b1 ps zs h2 k2 hc ⟨n0, n1⟩ hw m1 o2.ints (by omega) hp p1.ints (by omega) hcol
          have RV := f24 n a1 b1 ps zs h3 k3 ⟨n0, by omega⟩ o3.ints p3.ints hl (by omega) (hp.bd (by omega))
          have bb : sBin .neq .bool (.bool (decide (Prp (edgs n ps) zs))) (.bool (decide (Prp (edgs n ps) zs))) = some (.bool false) := by rw [sBin_boolN]; simp
          simp (disch := first|(simp only [Nat.reduceBEq,wE];done)|((repeat' (first|assumption|exact mAx _|refine mBx ?_ ?_|exact mCx (by assumption)|refine mDx ?_|refine mEx ?_ ?_ ?_|exact mFx|refine mGx ?_ ?_ ?_|exact mHx|exact mIx _|(simp only [wM,Nat.reduceAdd,Nat.reduceLT,Nat.reduceLeDiff];done)));done)|omega|decide) only [callT ev1, callT ev2, callT V, callT ev3, callT (f20 n r m h3 k3), decide_eq_true hc, e, callT (f22 a1 ps (n * r) h3 k3 o3.ints (by omega) (by omega)), decide_eq_true hp, callT (f23 b1 zs (n * r) m h3 k3 p3.ints (by omega) (by omega)), decide_eq_true hcol, callT RV, bb,
            callT ev4, (q4.1.eql q4.2).2, callT S, callT (lives_ev _), ↓wA,wB,wL,resOf,Nat.reduceBEq,Int.reduceBEq,Int.reduceBNe,Int.reduceLT,Int.reduceLE,Int.reduceAdd,Int.reduceSub,Int.reduceMul,Int.reduceToNat]
          exact ⟨_, rfl, rfl⟩
        · have V := Valid_form n r m a1 b1 ps zs h2 k2 hc hw m1 o2.ints (by omega) hp p1.ints (by omega) hcol
          simp (disch := first|(simp only [Nat.reduceBEq,wE];done)|((repeat' (first|assumption|exact mAx _|refine mBx ?_ ?_|exact mCx (by assumption)|refine mDx ?_|refine mEx ?_ ?_ ?_|exact mFx|refine mGx ?_ ?_ ?_|exact mHx|exact mIx _|(simp only [wM,Nat.reduceAdd,Nat.reduceLT,Nat.reduceLeDiff];done)));done)|omega|decide) only [callT ev1, callT ev2, callT V, callT ev3, callT (f20 n r m h3 k3), decide_eq_true hc, e, callT (f22 a1 ps (n * r) h3 k3 o3.ints (by omega) (by omega)), decide_eq_true hp, callT (f23 b1 zs (n * r) m h3 k3 p3.ints (by omega) (by omega)), decide_eq_false hcol,
            callT ev4, (q4.1.eql q4.2).2, callT S, callT (lives_ev _), ↓wA,wB,wL,resOf,Nat.reduceBEq,Int.reduceBEq,Int.reduceBNe,Int.reduceLT,Int.reduceLE,Int.reduceAdd,Int.reduceSub,Int.reduceMul,Int.reduceToNat]
          exact ⟨_, rfl, rfl⟩
      · have R := Route_none n r m a1 ps h2 k2 hc hw o2.ints (by omega) hp (by omega)
        have em : decide ((m : Int) < n) = true := decide_eq_true (by omega)
        have RR : ∃ h5, Evals Tryd.prog tab false (.func 25) [.int .i64 n, .int .i64 m, a1, .sl h2.next 0 0 (some 0) 1] (h2.pu []) (.nilsl, h5) := by
          have k5 : Hok (h2.pu []) := Hok.pu k2 rfl
          refine ⟨_, evals_pure c25 rfl k5 ?_⟩
          simp only [sf25, initS_cons, initS_nil]
          simp (disch := first|(simp only [Nat.reduceBEq,wE];done)|((repeat' (first|assumption|exact mAx _|refine mBx ?_ ?_|exact mCx (by assumption)|refine mDx ?_|refine mEx ?_ ?_ ?_|exact mFx|refine mGx ?_ ?_ ?_|exact mHx|exact mIx _|(simp only [wM,Nat.reduceAdd,Nat.reduceLT,Nat.reduceLeDiff];done)));done)|omega|decide) only [em, ↓wA,wB,wL,resOf,Nat.reduceBEq,Int.reduceBEq,Int.reduceBNe,Int.reduceLT,Int.reduceLE,Int.reduceAdd,Int.reduceSub,Int.reduceMul,Int.reduceToNat]
          exact ⟨_, rfl, rfl, Grown.en⟩
        obtain ⟨h5, RR⟩ := RR
        by_cases hcol : ColI m (n * r : Nat) zs
        · have hl : zs.length ≤ ps.length := by have h1 := hp.1; have h2 := hcol.1; omega
          have V := Valid_ok n r m a1 b1 ps zs h2 k2 hc ⟨n0, n1⟩ hw m1 o2.ints (by omega) hp p1.ints (by omega) hcol
          have RV := f24 n a1 b1 ps zs h2 k2 ⟨n0, by omega⟩ o2.ints p1.ints hl (by omega) (hp.bd (by omega))
          have bb : sBin .neq .bool (.bool (decide (Prp (edgs n ps) zs))) (.bool (decide (Prp (edgs n ps) zs))) = some (.bool false) := by rw [sBin_boolN]; simp
          simp (disch := first|(simp only [Nat.reduceBEq,wE];done)|((repeat' (first|assumption|exact mAx _|refine mBx ?_ ?_|exact mCx (by assumption)|refine mDx ?_|refine mEx ?_ ?_ ?_|exact mFx|refine mGx ?_ ?_ ?_|exact mHx|exact mIx _|(simp only [wM,Nat.reduceAdd,Nat.reduceLT,Nat.reduceLeDiff];done)));done)|omega|decide) only [callT ev1, callT ev2, callT V, callT R, callT (f20 n r m h2 k2), decide_eq_true hc, e, callT (f22 a1 ps (n * r) h2 k2 o2.ints (by omega) (by omega)), decide_eq_true hp, callT (f23 b1 zs (n * r) m h2 k2 p1.ints (by omega) (by omega)), decide_eq_true hcol, callT RV, bb,
            callT RR, sBin_nilN, callT (lives_ev _), ↓wA,wB,wL,resOf,Nat.reduceBEq,Int.reduceBEq,Int.reduceBNe,Int.reduceLT,Int.reduceLE,Int.reduceAdd,Int.reduceSub,Int.reduceMul,Int.reduceToNat]
          exact ⟨_, rfl, rfl⟩
        · have V := Valid_form n r m a1 b1 ps zs h2 k2 hc hw m1 o2.ints (by omega) hp p1.ints (by omega) hcol
          simp (disch := first|(simp only [Nat.reduceBEq,wE];done)|((repeat' (first|assumption|exact mAx _|refine mBx ?_ ?_|exact mCx (by assumption)|refine mDx ?_|refine mEx ?_ ?_ ?_|exact mFx|refine mGx ?_ ?_ ?_|exact mHx|exact mIx _|(simp only [wM,Nat.reduceAdd,Nat.reduceLT,Nat.reduceLeDiff];done)));done)|omega|decide) only [callT ev1, callT ev2, callT V, callT R, callT (f20 n r m h2 k2), decide_eq_true hc, e, callT (f22 a1 ps (n * r) h2 k2 o2.ints (by omega) (by omega)), decide_eq_true hp, callT (f23 b1 zs (n * r) m h2 k2 p1.ints (by omega) (by omega)), decide_eq_false hcol,
            callT RR, sBin_nilN, callT (lives_ev _), ↓wA,wB,wL,resOf,Nat.reduceBEq,Int.reduceBEq,Int.reduceBNe,Int.reduceLT,Int.reduceLE,Int.reduceAdd,Int.reduceSub,Int.reduceMul,Int.reduceToNat]
          exact ⟨_, rfl, rfl⟩
    · simp (disch := first|(simp only [Nat.reduceBEq,wE];done)|((repeat' (first|assumption|exact mAx _|refine mBx ?_ ?_|exact mCx (by assumption)|refine mDx ?_|refine mEx ?_ ?_ ?_|exact mFx|refine mGx ?_ ?_ ?_|exact mHx|exact mIx _|(simp only [wM,Nat.reduceAdd,Nat.reduceLT,Nat.reduceLeDiff];done)));done)|omega|decide) only [callT ev1, callT ev2, callT (Valid_perm n r m a1 b1 ps h2 k2 hc hw o2.ints (by omega) hp), callT (Route_perm n r m a1 ps h2 k2 hc hw o2.ints (by omega) hp), callT (f20 n r m h2 k2), decide_eq_true hc, e, callT (f22 a1 ps (n * r) h2 k2 o2.ints (by omega) (by omega)), decide_eq_false hp, callT (lives_ev _), ↓wA,wB,wL,resOf,Nat.reduceBEq,Int.reduceBEq,Int.reduceBNe,Int.reduceLT,Int.reduceLE,Int.reduceAdd,Int.reduceSub,Int.reduceMul,Int.reduceToNat]
      exact ⟨_, rfl, rfl⟩
  · simp (disch := first|(simp only [Nat.reduceBEq,wE];done)|((repeat' (first|assumption|exact mAx _|refine mBx ?_ ?_|exact mCx (by assumption)|refine mDx ?_|refine mEx ?_ ?_ ?_|exact mFx|refine mGx ?_ ?_ ?_|exact mHx|exact mIx _|(simp only [wM,Nat.reduceAdd,Nat.reduceLT,Nat.reduceLeDiff];done)));done)|omega|decide) only [callT ev1, callT ev2, callT (Valid_arg n r m a1 b1 h2 k2 hc), callT (Route_arg n r m a1 h2 k2 hc), callT (f20 n r m h2 k2), decide_eq_false hc, callT (lives_ev _), ↓wA,wB,wL,resOf,Nat.reduceBEq,Int.reduceBEq,Int.reduceBNe,Int.reduceLT,Int.reduceLE,Int.reduceAdd,Int.reduceSub,Int.reduceMul,Int.reduceToNat]
    exact ⟨_, rfl, rfl⟩
end Go.Proofs.YtbomimhfldmlbaaDoor
