/- The search for the first least order: its code. -/
import Derived.Test.YtihadgkgogfhcaaQ8
set_option linter.unusedSimpArgs false
set_option linter.unusedVariables false
set_option maxHeartbeats 4000000
set_option maxRecDepth 20000
namespace Go.Proofs.Ytihadgkgogfhcaa
open Go Go.Abs Go.Pa Go.Ro

theorem f59 (n : Nat) (a : AV) (E : List (Int × Int)) (gf : Nat) (c : List Int → Int) (h : Hp) (hk : Hok h) (ha : Pairs h.blks a E) (hr : refOK h.next a = true) (h0 : 0 < n) (h8 : n ≤ 8)
    (cm : Mono c) (cb : ∀ zs, zs.length ≤ 8 → 0 ≤ c zs ∧ c zs ≤ 100000)
    (Hc : ∀ (zs : List Int) (h : Hp), Hok h → Pairs h.blks a E → zs.length ≤ 8 → Evals Try.prog tab false (.func gf) [a, .ag (ints .i64 (pArr (pos zs)))] h (.int .i64 (c zs), h)) :
    ∃ v h', Evals Try.prog tab false (.func 59) [.ag [.int .i64 n, a, .fn (.func gf) [] []]] h (v, h') ∧ Grown h h' ∧ ∃ val t zs, v = .tu [.int .i64 val, t] ∧ Least n c val zs ∧ Own h.next h'.blks .i64 t zs := by
  refine evals_q c59 (fun v h' => ∃ val t zs, v = .tu [.int .i64 val, t] ∧ Least n c val zs ∧ Own h.next h'.blks .i64 t zs) rfl hk ?_ (fun v h1 g q => by
    obtain ⟨val, t, zs, rfl, q1, q2⟩ := q
    refine ⟨fun r => ⟨val, t, zs, rfl, q1, q2.leave.1 ?_⟩, fun r => ⟨val, t, zs, rfl, q1, q2⟩⟩
    simp only [refOK, refsOK_cons, Bool.and_eq_true] at r
    exact r.2.1)
  simp only [sf59, initS_cons, initS_nil]
  have hrr : refsOK (h.next + 1) [.int .i64 n, a, .fn (.func gf) [] []] = true := by simp only [refsOK_cons, refsOK_nil, Bool.and_true, Bool.and_eq_true]; exact ⟨rfl, refOK_mono (Nat.le_succ _) hr, rfl⟩
  have g1 : Grown h (h.en.pu [.int .i64 n, a, .fn (.func gf) [] []]) := Grown.pu Grown.en hrr
  have g2 : Grown h ((h.en.pu [.int .i64 n, a, .fn (.func gf) [] []]).pu (ints .i64 (List.replicate n 0))) := Grown.pu g1 refsOK_ints
  have bx : Box ((h.en.pu [.int .i64 n, a, .fn (.func gf) [] []]).pu (ints .i64 (List.replicate n 0))).blks h.next [.int .i64 n, a, .fn (.func gf) [] []] := Box.top.sub (Sub.pu (h := h.en.pu [.int .i64 n, a, .fn (.func gf) [] []]) (g1.ok hk))
  have A0 : ArrB h.next ((h.en.pu [.int .i64 n, a, .fn (.func gf) [] []]).pu (ints .i64 (List.replicate n 0))).blks (h.next + 1) (ofN [] ++ List.replicate n 0) := ⟨lkB_top, by omega⟩
  have mk := sMks_0 (h := h.en.pu [.int .i64 n, a, .fn (.func gf) [] []]) (z := [.int .i64 0]) (n := 1) (c := n) (by omega)
  rw [repl_ints] at mk
  have lk0 : lkB ((h.en.pu [.int .i64 n, a, .fn (.func gf) [] []]).pu (ints .i64 (List.replicate n 0))).blks h.next = some { cells := [.int .i64 n, a, .fn (.func gf) [] []], ch := h.next, wr := true } := by rw [lkB_push (by simp), lkB_top]
  have b0 : cellB (h.en.pu [.int .i64 n, a, .fn (.func gf) [] []]).blks h.next 0 = some (.int .i64 n) := Box.top.ld (Sub.refl _)
  simp (disch := first|(simp only [Nat.reduceBEq,wE];done)|((repeat' (first|assumption|exact mAx _|refine mBx ?_ ?_|exact mCx (by assumption)|refine mDx ?_|refine mEx ?_ ?_ ?_|exact mFx|refine mGx ?_ ?_ ?_|exact mHx|exact mIx _|(simp only [wM,Nat.reduceAdd,Nat.reduceLT,Nat.reduceLeDiff];done)));done)|omega|decide) only [b0, mk, ↓wA,wB,wL,resOf,Nat.reduceBEq,Int.reduceBEq,Int.reduceBNe,Int.reduceLT,Int.reduceLE,Int.reduceAdd,Int.reduceSub,Int.reduceMul,Int.reduceToNat]
  refine wloop (fun mm ss => ∃ (b : List Nat) (u : Nat) (o : Option (Int × List Int)) (lv : Int) (fv : AV) (rest : List Int) (h1 : Hp) (u0 u2 u3 u8 u9 u10 u11 u19 u24 u38 u43 u50 : AV), (mm = (n + 2) ^ (n + 1) - key (n + 2) n b u) ∧ (b.length < n ∧ u ≤ n ∧ (∀ x ∈ b, x < n) ∧ b.Nodup ∧ (ofN b ++ rest).length = n ∧ Ro.Inv n c (at_ (ofN b) u) o ∧ FndOK (h.next + 1) h1.blks lv fv o ∧ Grown h h1 ∧ lkB h1.blks h.next = some { cells := [.int .i64 n, a, .fn (.func gf) [] []], ch := h.next, wr := true } ∧ ArrB h.next h1.blks (h.next + 1) (ofN b ++ rest)) ∧ ss = { fr := [(0, u0), (1, .ptr h.next 0), (2, u2), (3, u3), (4, .int .i64 lv), (5, fv), (6, .sl (h.next + 1) 0 b.length (some n) 1), (7, .int .i64 u), (8, u8), (9, u9), (10, u10), (11, u11), (19, u19), (24, u24), (38, u38), (43, u43), (50, u50)], hp := h1 }) ((n + 2) ^ (n + 1) - key (n + 2) n [] 0) ?_ ?_
  ·
    refine ⟨[], 0, none, _, _, List.replicate n 0, _, _, _, _, _, _, _, _, _, _, _, _, _, rfl, ⟨by simpa using h0, by omega, by simp, List.nodup_nil, by simp [ofN], Inv.start, ⟨rfl, rfl⟩, g2, lk0, A0⟩, rfl⟩
  rintro nA sA ⟨b, u, o, lv, fv, rest, h1, u0, u2, u3, u8, u9, u10, u11, u19, u24, u38, u43, u50, hnA, ⟨hb1, hu, hb2, hb3, hlen, hinv, hfnd, g3, lk3, A3⟩, rfl⟩
  simp (disch := first|(simp only [Nat.reduceBEq,wE];done)|((repeat' (first|assumption|exact mAx _|refine mBx ?_ ?_|exact mCx (by assumption)|refine mDx ?_|refine mEx ?_ ?_ ?_|exact mFx|refine mGx ?_ ?_ ?_|exact mHx|exact mIx _|(simp only [wM,Nat.reduceAdd,Nat.reduceLT,Nat.reduceLeDiff];done)));done)|omega|decide) only [↓wA,wB,wL,resOf,Nat.reduceBEq,Int.reduceBEq,Int.reduceBNe,Int.reduceLT,Int.reduceLE,Int.reduceAdd,Int.reduceSub,Int.reduceMul,Int.reduceToNat]
  refine wloop (fun mm ss => ∃ (v : Nat) (o : Option (Int × List Int)) (lv : Int) (fv : AV) (rest : List Int) (h1 : Hp) (u0 u2 u3 u7 u9 u10 u11 u19 u24 u38 u43 u50 : AV), (mm = n - v) ∧ (u ≤ v ∧ v ≤ n ∧ (ofN b ++ rest).length = n ∧ Ro.Inv n c (at_ (ofN b) v) o ∧ FndOK (h.next + 1) h1.blks lv fv o ∧ Grown h h1 ∧ lkB h1.blks h.next = some { cells := [.int .i64 n, a, .fn (.func gf) [] []], ch := h.next, wr := true } ∧ ArrB h.next h1.blks (h.next + 1) (ofN b ++ rest)) ∧ ss = { fr := [(0, u0), (1, .ptr h.next 0), (2, u2), (3, u3), (4, .int .i64 lv), (5, fv), (6, .sl (h.next + 1) 0 b.length (some n) 1), (7, u7), (8, .int .i64 v), (9, u9), (10, u10), (11, u11), (19, u19), (24, u24), (38, u38), (43, u43), (50, u50)], hp := h1 }) (n - u) ?_ ?_
  ·
    refine ⟨u, o, lv, fv, rest, h1, _, _, _, _, _, _, _, _, _, _, _, _, rfl, ⟨Nat.le_refl _, hu, hlen, hinv, hfnd, g3, lk3, A3⟩, rfl⟩
  clear hinv hfnd hlen g3 lk3 A3 o lv fv rest h1
  rintro nB sB ⟨v, o, lv, fv, rest, h1, u0, u2, u3, u7, u9, u10, u11, u19, u24, u38, u43, u50, hnB, ⟨hv1, hv2, hlen, hinv, hfnd, g3, lk3, A3⟩, rfl⟩
  have k3 := g3.ok hk
  have a3 := ha.sub (g3.sub hk)
  have B3 : Box h1.blks h.next [.int .i64 n, a, .fn (.func gf) [] []] := ⟨_, _, lk3⟩
  have lb : (ofN b).length = b.length := ofN_len
  have i3 := A3.ints (n := b.length) (m := n) (by omega) (by omega)
  rw [← lb, List.take_left' rfl] at i3
  rw [lb] at i3
  have hB : 0 < n + 2 := by omega
  simp (disch := first|(simp only [Nat.reduceBEq,wE];done)|((repeat' (first|assumption|exact mAx _|refine mBx ?_ ?_|exact mCx (by assumption)|refine mDx ?_|refine mEx ?_ ?_ ?_|exact mFx|refine mGx ?_ ?_ ?_|exact mHx|exact mIx _|(simp only [wM,Nat.reduceAdd,Nat.reduceLT,Nat.reduceLeDiff];done)));done)|omega|decide) only [B3.ld, ↓wA,wB,wL,resOf,Nat.reduceBEq,Int.reduceBEq,Int.reduceBNe,Int.reduceLT,Int.reduceLE,Int.reduceAdd,Int.reduceSub,Int.reduceMul,Int.reduceToNat]
  refine ifThen_intro (fun e => ?_) (fun e => ?_) <;> have eq := e <;> try simp [-List.getD_eq_getElem?_getD] at eq
  · have ct := f62 _ _ (v : Int) h1 k3 i3 (by omega)
    by_cases e1 : v ∈ b
    · rw [decide_eq_true (ofN_mem.2 e1)] at ct
      simp (disch := first|(simp only [Nat.reduceBEq,wE];done)|((repeat' (first|assumption|exact mAx _|refine mBx ?_ ?_|exact mCx (by assumption)|refine mDx ?_|refine mEx ?_ ?_ ?_|exact mFx|refine mGx ?_ ?_ ?_|exact mHx|exact mIx _|(simp only [wM,Nat.reduceAdd,Nat.reduceLT,Nat.reduceLeDiff];done)));done)|omega|decide) only [e, callT ct, ↓wA,wB,wL,resOf,Nat.reduceBEq,Int.reduceBEq,Int.reduceBNe,Int.reduceLT,Int.reduceLE,Int.reduceAdd,Int.reduceSub,Int.reduceMul,Int.reduceToNat]
      refine ⟨_, ?_, v + 1, o, lv, fv, rest, h1, _, _, _, _, _, _, _, _, _, _, _, _, rfl, ?_, rfl⟩
      · omega
      exact ⟨by omega, by omega, hlen, hinv.skip (ofN_mem.2 e1), hfnd, g3, lk3, A3⟩
    · rw [decide_eq_false fun h => e1 (ofN_mem.1 h)] at ct
      obtain ⟨h2, e2, A4, g4, n4, r4⟩ := app_arr (b := ofN b) (v := (v : Int)) hk g3 A3 hlen (by omega) (by omega)
      rw [lb] at e2
      have hlen4 : ((ofN b ++ [(v : Int)]) ++ rest.drop 1).length = n := by
        simp only [List.length_append, List.length_drop, List.length_singleton] at hlen ⊢
        omega
      have of4 : ofN b ++ [(v : Int)] = ofN (b ++ [v]) := by rw [ofN_app]; rfl
      have split4 : ofN b ++ [(v : Int)] ++ rest.drop 1 = ofN b ++ ((v : Int) :: rest.drop 1) := by simp
      have k4 := g4.ok hk
      have a4 := ha.sub (g4.sub hk)
      have lk4 := r4 _ _ (by omega) (by simp) lk3
      have B4 : Box h2.blks h.next [.int .i64 n, a, .fn (.func gf) [] []] := ⟨_, _, lk4⟩
      have f4 := hfnd.kept r4
      have i4 := A4.ints (n := b.length + 1) (m := n) (by omega) (by omega)
      rw [← lb, show (ofN b).length + 1 = (ofN b ++ [(v : Int)]).length by simp, List.take_left' rfl] at i4
      rw [show (ofN b ++ [(v : Int)]).length = b.length + 1 by simp [lb], of4] at i4
      have hb4 : ∀ x ∈ b ++ [v], x < n := fun x hx => by
        rcases List.mem_append.1 hx with hx | hx
        · exact hb2 x hx
        · rw [List.mem_singleton.1 hx]; omega
      have nd4 : (b ++ [v]).Nodup := List.nodup_append.2 ⟨hb3, by simp, fun x hx y hy e => by rw [List.mem_singleton.1 hy] at e; subst e; exact e1 hx⟩
      have l4 : (ofN (b ++ [v])).length = b.length + 1 := by rw [ofN_len]; simp
      have pl := f37 _ _ h2 k4 i4 (by omega) (fun z hz => by have := ofN_lt hb4 z hz; omega) (ofN_nodup nd4)
      have cc := Hc (ofN (b ++ [v])) h2 k4 a4 (by omega)
      have cbd := cb (ofN (b ++ [v])) (by omega)
      by_cases e5 : lv ≤ c (ofN (b ++ [v]))
      · have e5t : decide (lv ≤ c (ofN (b ++ [v]))) = true := decide_eq_true e5
        simp (disch := first|(simp only [Nat.reduceBEq,wE];done)|((repeat' (first|assumption|exact mAx _|refine mBx ?_ ?_|exact mCx (by assumption)|refine mDx ?_|refine mEx ?_ ?_ ?_|exact mFx|refine mGx ?_ ?_ ?_|exact mHx|exact mIx _|(simp only [wM,Nat.reduceAdd,Nat.reduceLT,Nat.reduceLeDiff];done)));done)|omega|decide) only [e, callT ct, e2, B4.ld, callT pl, callT cc, e5t, ↓wA,wB,wL,resOf,Nat.reduceBEq,Int.reduceBEq,Int.reduceBNe,Int.reduceLT,Int.reduceLE,Int.reduceAdd,Int.reduceSub,Int.reduceMul,Int.reduceToNat]
        refine ⟨_, ?_, v + 1, o, lv, fv, (v : Int) :: rest.drop 1, h2, _, _, _, _, _, _, _, _, _, _, _, _, rfl, ?_, rfl⟩
        · omega
        refine ⟨by omega, by omega, by rw [← split4]; exact hlen4, ?_, f4, g4, lk4, by rw [← split4]; exact A4⟩
        cases o with
        | none => exact absurd hfnd.1 (by omega)
        | some p =>
          have hl : lv = p.1 := hfnd.1
          exact Inv.prune hinv fun ys hy hp => by
            have := cm _ _ hp
            rw [of4] at this
            omega
      · have e5t : decide (lv ≤ c (ofN (b ++ [v]))) = false := decide_eq_false e5
        by_cases e6 : b.length + 1 < n
        · have e6t : decide (((b.length + 1 : Nat) : Int) < (n : Int)) = true := decide_eq_true (by omega)
          simp (disch := first|(simp only [Nat.reduceBEq,wE];done)|((repeat' (first|assumption|exact mAx _|refine mBx ?_ ?_|exact mCx (by assumption)|refine mDx ?_|refine mEx ?_ ?_ ?_|exact mFx|refine mGx ?_ ?_ ?_|exact mHx|exact mIx _|(simp only [wM,Nat.reduceAdd,Nat.reduceLT,Nat.reduceLeDiff];done)));done)|omega|decide) only [e, callT ct, e2, B4.ld, callT pl, callT cc, e5t, e6t, ↓wA,wB,wL,resOf,Nat.reduceBEq,Int.reduceBEq,Int.reduceBNe,Int.reduceLT,Int.reduceLE,Int.reduceAdd,Int.reduceSub,Int.reduceMul,Int.reduceToNat]
          have kl := key_push hB (m := n) (b := b) (u := v) hb1
          have km := key_mono hB (m := n) (b := b) (by omega) hv1
          have kt := key_lt (n := n) (m := n) (b := b ++ [v]) (u := 0) (by simp; omega) hb4 (by omega)
          have hp := hinv.push
          rw [of4] at hp A4 hlen4
          have lw : (b ++ [v]).length = b.length + 1 := by simp
          rw [← lw]
          refine ⟨_, ?_, b ++ [v], 0, o, lv, fv, rest.drop 1, h2, _, _, _, _, _, _, _, _, _, _, _, _, rfl, ?_, rfl⟩
          · omega
          exact ⟨by omega, by omega, hb4, nd4, hlen4, hp, f4, g4, lk4, A4⟩
        · have e6t : decide (((b.length + 1 : Nat) : Int) < (n : Int)) = false := decide_eq_false (by omega)
          obtain ⟨t, h5, et, g5, o5, _⟩ := f42 _ _ h2 k4 i4 (by omega) rfl
          have g6 := GrownR.trans g4 g5
          have lt5 : h.next + 1 < h2.next := (k4.get A4.1).1
          simp (disch := first|(simp only [Nat.reduceBEq,wE];done)|((repeat' (first|assumption|exact mAx _|refine mBx ?_ ?_|exact mCx (by assumption)|refine mDx ?_|refine mEx ?_ ?_ ?_|exact mFx|refine mGx ?_ ?_ ?_|exact mHx|exact mIx _|(simp only [wM,Nat.reduceAdd,Nat.reduceLT,Nat.reduceLeDiff];done)));done)|omega|decide) only [e, callT ct, e2, B4.ld, callT pl, callT cc, e5t, e6t, callT et, ↓wA,wB,wL,resOf,Nat.reduceBEq,Int.reduceBEq,Int.reduceBNe,Int.reduceLT,Int.reduceLE,Int.reduceAdd,Int.reduceSub,Int.reduceMul,Int.reduceToNat]
          have pm : PermI n (ofN b ++ [(v : Int)]) := by
            rw [of4]
            exact ⟨by omega, ofN_lt hb4, ofN_nodup nd4⟩
          have hbet := Inv.better hinv pm (fun w zs e => by
            subst e
            have hl : lv = w := hfnd.1
            rw [of4]
            omega)
          rw [of4] at hbet
          refine ⟨_, ?_, v + 1, some (c (ofN (b ++ [v])), ofN (b ++ [v])), _, t, (v : Int) :: rest.drop 1, h5, _, _, _, _, _, _, _, _, _, _, _, _, rfl, ?_, rfl⟩
          · omega
          exact ⟨by omega, by omega, by rw [← split4]; exact hlen4, hbet, ⟨rfl, o5.le (by omega)⟩, g6, g5.sub k4 _ _ lk4, by rw [← split4]; exact A4.sub (g5.sub k4)⟩
  · have ev : v = n := by omega
    subst ev
    by_cases e1 : b = []
    · subst e1
      have z0 : ((([] : List Nat).length : Int) == 0) = true := rfl
      simp (disch := first|(simp only [Nat.reduceBEq,wE];done)|((repeat' (first|assumption|exact mAx _|refine mBx ?_ ?_|exact mCx (by assumption)|refine mDx ?_|refine mEx ?_ ?_ ?_|exact mFx|refine mGx ?_ ?_ ?_|exact mHx|exact mIx _|(simp only [wM,Nat.reduceAdd,Nat.reduceLT,Nat.reduceLeDiff];done)));done)|omega|decide) only [e, z0, ↓wA,wB,wL,resOf,Nat.reduceBEq,Int.reduceBEq,Int.reduceBNe,Int.reduceLT,Int.reduceLE,Int.reduceAdd,Int.reduceSub,Int.reduceMul,Int.reduceToNat]
      cases o with
      | none => exact absurd trivial ((Inv.done h0 hinv) _ (perm_id v))
      | some p =>
        obtain ⟨w, zs⟩ := p
        have hl : lv = w := hfnd.1
        subst hl
        exact ⟨_, rfl, g3, lv, fv, zs, rfl, Inv.done h0 hinv, hfnd.2.le (by omega)⟩
    · obtain ⟨b', l, rfl⟩ : ∃ b' l, b = b' ++ [l] := ⟨b.dropLast, b.getLast e1, (List.dropLast_concat_getLast e1).symm⟩
      have ll : (b' ++ [l]).length = b'.length + 1 := by simp
      rw [ll] at hb1 lb i3
      have z0 : (((b'.length + 1 : Nat) : Int) == 0) = false := by simp; omega
      have z1 : ((b'.length + 1 : Nat) : Int) - 1 = (b'.length : Int) := by omega
      have hl : l < v := hb2 l (by simp)
      have gl : (ofN (b' ++ [l])).getD b'.length 0 = (l : Int) := by
        rw [ofN_at]
        simp [List.getD_eq_getElem?_getD]
      have hsl : ∀ h' : Hp, sSl 1 h' none (some (some b'.length)) (.sl (h.next + 1) 0 (b'.length + 1) (some v) 1) = some (.sl (h.next + 1) 0 b'.length (some v) 1, h') := fun h' => by
        have hne : Nat.beq v 0 = false := nb (by omega)
        have hle : Nat.ble b'.length v = true := Nat.ble_eq_true_of_le (by omega)
        simp only [sSl, bndV, Nat.ble_eq_true_of_le (Nat.zero_le _), Nat.beq_refl, Bool.and_self, cond_true, hle, hne, cond_false, Nat.zero_mul, Nat.add_zero, Nat.sub_zero]
      have ix : ∀ h' : Hp, sIxS 1 h' (some b'.length) (.sl (h.next + 1) 0 (b'.length + 1) (some v) 1) = some (cellAt (.sl (h.next + 1) 0 (b'.length + 1) (some v) 1) b'.length, h') := fun h' => i3.ix h' (by omega)
      have ld : cellV h1.blks (.sl (h.next + 1) 0 (b'.length + 1) (some v) 1) b'.length 0 = some (.int .i64 (l : Int)) := by rw [i3.ld (Sub.refl _) (by omega), gl]
      rw [ll]
      simp (disch := first|(simp only [Nat.reduceBEq,wE];done)|((repeat' (first|assumption|exact mAx _|refine mBx ?_ ?_|exact mCx (by assumption)|refine mDx ?_|refine mEx ?_ ?_ ?_|exact mFx|refine mGx ?_ ?_ ?_|exact mHx|exact mIx _|(simp only [wM,Nat.reduceAdd,Nat.reduceLT,Nat.reduceLeDiff];done)));done)|omega|decide) only [e, z0, z1, ix, ld, hsl, ↓wA,wB,wL,resOf,Nat.reduceBEq,Int.reduceBEq,Int.reduceBNe,Int.reduceLT,Int.reduceLE,Int.reduceAdd,Int.reduceSub,Int.reduceMul,Int.reduceToNat]
      have hp := Inv.pop (b := ofN b') (l := l) (by rw [ofN_len]; exact hb1) (by rw [show ofN b' ++ [(l : Int)] = ofN (b' ++ [l]) from by rw [ofN_app]; rfl]; exact hinv)
      have kp := key_pop (n := v) (m := v) (b := b') (l := l) (by omega)
      have km := key_mono hB (m := v) (b := b' ++ [l]) (by rw [ll]; omega) hv1
      have kt := key_lt (n := v) (m := v) (b := b') (u := l + 1) (by omega) (fun x hx => hb2 x (by simp [hx])) (by omega)
      have sp : ofN (b' ++ [l]) ++ rest = ofN b' ++ ((l : Int) :: rest) := by rw [ofN_app]; simp [ofN]
      rw [sp] at A3 hlen
      refine ⟨_, ?_, b', l + 1, o, lv, fv, (l : Int) :: rest, h1, _, _, _, _, _, _, _, _, _, _, _, _, rfl, ?_, rfl⟩
      · omega
      exact ⟨by omega, by omega, fun x hx => hb2 x (by simp [hx]), (List.nodup_append.1 hb3).1, hlen, hp, hfnd, g3, lk3, A3⟩
end Go.Proofs.Ytihadgkgogfhcaa
