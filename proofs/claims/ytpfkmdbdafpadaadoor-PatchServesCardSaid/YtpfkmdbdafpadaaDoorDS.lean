/- The reference's Serve. -/
import Derived.Test.YtpfkmdbdafpadaaDoorDQ
import Derived.Test.YtpfkmdbdafpadaaDoorPM
set_option linter.unusedSimpArgs false
set_option linter.unusedVariables false
set_option maxHeartbeats 8000000
set_option maxRecDepth 20000
namespace Go.Abs
theorem sBS_t1 {h : Hp} {a b c : Int} : sBS [.int .i64 0, .int .i64 0, .int .i64 0] 1 3 h [(0, .ag [.int .i64 a, .int .i64 b, .int .i64 c])] =
    some (.sl h.next 0 1 (some 1) 3, h.pu (tri [(a, b, c)])) := (Eq.refl _).trans rfl
theorem Tri.top {bs : List (Nat × Blk)} {l : List (Int × Int × Int)} {n len c : Nat} {cap : Option Nat} {w : Bool} (hl : l.length = len) (hcap : capOK len cap) : Tri ((n, { cells := tri l, ch := c, wr := w }) :: bs) (.sl n 0 len cap 3) l := by
  subst hl
  exact ⟨by simp [tri_len], .inr ⟨n, 0, cap, rfl, hcap, fun j hj => by rw [cellB_hit, Nat.zero_add]⟩⟩
end Go.Abs
namespace Go.Proofs.YtpfkmdbdafpadaaDoor
open Go Go.Abs Go.Pa

theorem f11 (n m w : Nat) (a : AV) (l : List (Int × Int)) (h : Hp) (hk : Hok h) (ha : Pairs h.blks a l) (hl : l.length ≤ 100) (hn : 0 < n ∧ n ≤ 12) (hm : m ≤ 12) (hw : w ≤ 12) (hr : ReqIn w l) :
    ∃ v h', Evals Tryd.prog tab false (.func 11) [.int .i64 n, .int .i64 m, a] h (v, h') ∧ Grown h h' ∧ Own h.next h'.blks .i64 v (serveC n m ([], []) l) := by
  refine evals_q c11 (fun v h' => Own h.next h'.blks .i64 v (serveC n m ([], []) l)) rfl hk ?_ (fun v h1 g q => q.leave)
  simp only [sf11, initS_cons, initS_nil]
  have la := ha.len
  have g00 : Grown h (h.en.pu []) := Grown.pu Grown.en rfl
  have g01 : Grown h ((h.en.pu []).pu []) := Grown.pu g00 rfl
  have oL : OwnL h.next ((h.en.pu []).pu []).blks (.sl h.next 0 0 (some 0) 3) [] := OwnA.sub (OwnA.fresh (Nat.le_refl _) rfl rfl rfl (Nat.le_refl _)) (Sub.pu (g00.ok hk))
  have oO : Own h.next ((h.en.pu []).pu []).blks .i64 (.sl (h.next + 1) 0 0 (some 0) 1) [] := OwnA.fresh (Nat.le_succ _) rfl rfl rfl (Nat.le_refl _)
  have ch0 : ∀ x, chOf ((h.en.pu []).pu []).blks (.sl h.next 0 0 (some 0) 3) = some x → chOf ((h.en.pu []).pu []).blks (.sl (h.next + 1) 0 0 (some 0) 1) ≠ some x := fun x hx => by
    rw [show chOf ((h.en.pu []).pu []).blks (.sl (h.next + 1) 0 0 (some 0) 1) = some (h.next + 1) from by simp only [chOf, lkB_top, Option.map_some]]
    have : chOf ((h.en.pu []).pu []).blks (.sl h.next 0 0 (some 0) 3) = some h.next := by
      simp only [chOf]
      rw [Sub.pu (g00.ok hk) _ _ (lkB_top : lkB (h.en.pu []).blks h.next = _)]
      rfl
    rw [this] at hx
    cases hx
    intro hh
    have := Option.some.inj hh
    omega
  simp (disch := first|(simp only [Nat.reduceBEq,wE];done)|((repeat' (first|assumption|exact mAx _|refine mBx ?_ ?_|exact mCx (by assumption)|refine mDx ?_|refine mEx ?_ ?_ ?_|exact mFx|refine mGx ?_ ?_ ?_|exact mHx|exact mIx _|(simp only [wM,Nat.reduceAdd,Nat.reduceLT,Nat.reduceLeDiff];done)));done)|omega|decide) only [↓wA,wB,wL,resOf,Nat.reduceBEq,Int.reduceBEq,Int.reduceBNe,Int.reduceLT,Int.reduceLE,Int.reduceAdd,Int.reduceSub,Int.reduceMul,Int.reduceToNat]
  refine wloop (fun mm ss => ∃ (i : Nat) (s : AV) (o : AV) (h1 : Hp) (u6 u10 u11 u12 u13 u14 u15 u16 u17 u23 u35 u46 u87 u95 u102 u109 u121 u140 : AV), (mm = l.length - i) ∧ (i ≤ l.length ∧ Grown h h1 ∧ OwnL h.next h1.blks s (trip (runB n m ([], []) (l.take i))) ∧ Own h.next h1.blks .i64 o (serveC n m ([], []) (l.take i)) ∧ ∀ x, chOf h1.blks s = some x → chOf h1.blks o ≠ some x) ∧ ss = { fr := [(0, .int .i64 n), (1, .int .i64 m), (2, a), (6, u6), (7, s), (8, o), (9, .int .i64 i), (10, u10), (11, u11), (12, u12), (13, u13), (14, u14), (15, u15), (16, u16), (17, u17), (23, u23), (35, u35), (46, u46), (87, u87), (95, u95), (102, u102), (109, u109), (121, u121), (140, u140)], hp := h1 }) (l.length) ?_ ?_
  ·
    refine ⟨0, _, _, _, _, _, _, _, _, _, _, _, _, _, _, _, _, _, _, _, _, _, by omega, ⟨by omega, g01, oL, oO, ch0⟩, rfl⟩
  rintro nA sA ⟨i, s, o, h1, u6, u10, u11, u12, u13, u14, u15, u16, u17, u23, u35, u46, u87, u95, u102, u109, u121, u140, hnA, ⟨hi, g1, os, oo, hch⟩, rfl⟩
  have k1 := g1.ok hk
  have a1 := ha.sub (g1.sub hk)
  simp (disch := first|(simp only [Nat.reduceBEq,wE];done)|((repeat' (first|assumption|exact mAx _|refine mBx ?_ ?_|exact mCx (by assumption)|refine mDx ?_|refine mEx ?_ ?_ ?_|exact mFx|refine mGx ?_ ?_ ?_|exact mHx|exact mIx _|(simp only [wM,Nat.reduceAdd,Nat.reduceLT,Nat.reduceLeDiff];done)));done)|omega|decide) only [a1.len, ↓wA,wB,wL,resOf,Nat.reduceBEq,Int.reduceBEq,Int.reduceBNe,Int.reduceLT,Int.reduceLE,Int.reduceAdd,Int.reduceSub,Int.reduceMul,Int.reduceToNat]
  refine ifThen_intro (fun e => ?_) (fun e => ?_) <;> have eq := e <;> try simp [-List.getD_eq_getElem?_getD] at eq
  · have hi' : i < l.length := by omega
    have hm' : l.getD i (0, 0) ∈ l := by simp [List.getD_eq_getElem?_getD, List.getElem?_eq_getElem hi']
    have hp := hr _ hm'
    obtain ⟨p, ep⟩ : ∃ p, p = l.getD i (0, 0) := ⟨_, rfl⟩
    have tk := take_snocP hi'
    rw [← ep] at hp tk
    have I : Inv n w m (runB n m ([], []) (l.take i)) := Inv.run Inv.nil fun q hq => hr q (List.mem_of_mem_take hq)
    have rl := runB_le (n := n) (m := m) (l := l.take i) (b := ([], []))
    have lt := List.length_take_le i l
    simp only [List.length_nil] at rl
    obtain ⟨b, eb⟩ : ∃ b, b = runB n m ([], []) (l.take i) := ⟨_, rfl⟩
    have sc : serveC n m ([], []) (l.take (i + 1)) = serveC n m ([], []) (l.take i) ++ [(stepC n m b p).1] := by rw [tk, serveC_app, ← eb]; rfl
    have rn : runB n m ([], []) (l.take (i + 1)) = (stepC n m b p).2 := by rw [tk, runB_app, ← eb]; rfl
    rw [← eb] at os I rl
    have lt3 : (trip b).length = b.1.length := trip_len I.len
    have sl : (serveC n m ([], []) (l.take i)).length ≤ 100 := by rw [serveC_len]; omega
    -- the request's variable
    obtain ⟨hb, ehb⟩ : ∃ hb : Hp, hb = h1.pu [.int .i64 p.1, .int .i64 p.2] := ⟨_, rfl⟩
    have s1b : Sub h1.blks hb.blks := by rw [ehb]; exact Sub.pu k1
    have gb : Grown h hb := by rw [ehb]; exact Grown.pu g1 rfl
    have kb := gb.ok hk
    have bxl : lkB hb.blks h1.next = some { cells := [.int .i64 p.1, .int .i64 p.2], ch := h1.next, wr := true } := by rw [ehb]; exact lkB_top
    have bx : Box hb.blks h1.next [.int .i64 p.1, .int .i64 p.2] := ⟨_, _, bxl⟩
    have lda : aggV h1.blks a i 2 = some (.ag [.int .i64 p.1, .int .i64 p.2]) := by rw [ep]; exact a1.lda (Sub.refl _) hi'
    have st : sStore 2 { next := h1.next + 1, blks := (h1.next, { cells := [.int .i64 0, .int .i64 0], ch := h1.next, wr := true }) :: h1.blks, loops := h1.loops, base := h1.base, esc := h1.esc } (.ag [.int .i64 p.1, .int .i64 p.2]) (.ptr h1.next 0) = some (.any, hb) := by
      rw [ehb]
      exact sStore_ag k1 rfl rfl rfl rfl
    have mk := sMks_ok (h := hb) (z := [.bool false]) (n := 1) (l := m) (c := m) (Nat.le_refl _) (by omega)
    rw [repl_bls] at mk
    have gt0 : Grown hb (hb.pu (bls (List.replicate m false))) := Grown.pu Grown.refl refsOK_bls
    have ot0 : OwnT hb.next (hb.pu (bls (List.replicate m false))).blks (.sl hb.next 0 m (some m) 1) (tkL n m b p 0) := by
      rw [tkL_zero]
      unfold OwnT
      rw [List.length_replicate]
      exact OwnA.fresh (Nat.le_refl _) (by simp [bls_len]) (List.take_of_length_le (by simp [bls_len])) (by simp [bls_len]) (Nat.le_refl _)
    have osb := OwnA.sub os s1b
    have oob := OwnA.sub oo s1b
    have hchb : ∀ x, chOf hb.blks s = some x → chOf hb.blks o ≠ some x := by rw [OwnA.chSub os s1b, OwnA.chSub oo s1b]; exact hch
    have ls : ∀ h', sLen h' s = some (.int .i64 b.1.length, h') := by have := (OwnA.arr os).len; rw [lt3] at this; exact this
    clear ehb
    simp (disch := first|(simp only [Nat.reduceBEq,wE];done)|((repeat' (first|assumption|exact mAx _|refine mBx ?_ ?_|exact mCx (by assumption)|refine mDx ?_|refine mEx ?_ ?_ ?_|exact mFx|refine mGx ?_ ?_ ?_|exact mHx|exact mIx _|(simp only [wM,Nat.reduceAdd,Nat.reduceLT,Nat.reduceLeDiff];done)));done)|omega|decide) only [e, a1.ix, lda, st, mk, ↓wA,wB,wL,resOf,Nat.reduceBEq,Int.reduceBEq,Int.reduceBNe,Int.reduceLT,Int.reduceLE,Int.reduceAdd,Int.reduceSub,Int.reduceMul,Int.reduceToNat]
    refine wloop (fun mm ss => ∃ (k : Nat) (q : Int) (z : Bool) (h3 : Hp) (u6 u15 u16 u17 u23 u35 u46 u87 u95 u102 u109 u121 u140 : AV), (mm = b.1.length - k) ∧ (k ≤ b.1.length ∧ Grown hb h3 ∧ q = atR b.1 p.1 k ∧ z = busyR b.1 p k ∧ OwnT hb.next h3.blks (.sl hb.next 0 m (some m) 1) (tkL n m b p k)) ∧ ss = { fr := [(0, .int .i64 n), (1, .int .i64 m), (2, a), (6, u6), (7, s), (8, o), (9, .int .i64 i), (10, .ptr h1.next 0), (11, .int .i64 q), (12, .sl hb.next 0 m (some m) 1), (13, .bool z), (14, .int .i64 k), (15, u15), (16, u16), (17, u17), (23, u23), (35, u35), (46, u46), (87, u87), (95, u95), (102, u102), (109, u109), (121, u121), (140, u140)], hp := h3 }) (b.1.length) ?_ ?_
    ·
      refine ⟨0, _, _, _, _, _, _, _, _, _, _, _, _, _, _, _, _, by omega, ⟨by omega, gt0, atR_zero.symm, by simp [busyR], ot0⟩, rfl⟩
    rintro nB sB ⟨k, q, z, h3, u6, u15, u16, u17, u23, u35, u46, u87, u95, u102, u109, u121, u140, hnB, ⟨hkl, g3, eq1, ez, ot⟩, rfl⟩
    have k3 := g3.ok kb
    have s3 := g3.sub kb
    have g03 := GrownR.trans gb g3
    have bx3 := bx.sub s3
    have os3 := OwnA.sub osb s3
    have oo3 := OwnA.sub oob s3
    simp (disch := first|(simp only [Nat.reduceBEq,wE];done)|((repeat' (first|assumption|exact mAx _|refine mBx ?_ ?_|exact mCx (by assumption)|refine mDx ?_|refine mEx ?_ ?_ ?_|exact mFx|refine mGx ?_ ?_ ?_|exact mHx|exact mIx _|(simp only [wM,Nat.reduceAdd,Nat.reduceLT,Nat.reduceLeDiff];done)));done)|omega|decide) only [e, ls, ↓wA,wB,wL,resOf,Nat.reduceBEq,Int.reduceBEq,Int.reduceBNe,Int.reduceLT,Int.reduceLE,Int.reduceAdd,Int.reduceSub,Int.reduceMul,Int.reduceToNat]
    refine ifThen_intro (fun e2 => ?_) (fun e2 => ?_) <;> have e2q := e2 <;> try simp [-List.getD_eq_getElem?_getD] at e2q
    · have hkk : k < b.1.length := by omega
      have hk3 : k < (trip b).length := by omega
      have hc := trip_at I.len hkk
      have rg := I.rng (eg b.1 k) (by simp [eg, List.getD_eq_getElem?_getD, List.getElem?_eq_getElem hkk])
      have md := I.mid (cl b.2 k) (by simp [cl, List.getD_eq_getElem?_getD, List.getElem?_eq_getElem (show k < b.2.length by rw [I.len]; exact hkk)])
      have at1 := atR_step (x := p.1) I.inA hkk
      have bz1 := busyR_step (p := p) hkk
      have tk1 := tkL_step (n := n) (m := m) (b := b) (p := p) (k := k) md.1
      have ld3 := Tri.lda (OwnA.arr os3) (Sub.refl _) hk3
      have ix3 := (OwnA.arr os3).ix h3 hk3
      rw [hc] at ld3
      rw [← eq1] at at1
      rw [← ez] at bz1
      obtain ⟨c, ec⟩ : ∃ c, c = eg b.1 k := ⟨_, rfl⟩
      obtain ⟨t, et⟩ : ∃ t : Nat, cl b.2 k = t := ⟨(cl b.2 k).toNat, by omega⟩
      have tq : tkQ n b.1 p k ↔ (c.1 / (n : Int) = p.1 / n ∨ (0 ≤ p.2 ∧ c.2 / (n : Int) = p.2 / n)) := by rw [ec]; exact Iff.rfl
      rw [← ec] at ld3 rg at1 bz1
      rw [et] at ld3 md tk1
      rw [Int.toNat_natCast] at tk1
      simp only at ld3
      obtain ⟨h4, eh4⟩ : ∃ h4 : Hp, h4 = h3.pu [.int .i64 c.1, .int .i64 c.2, .int .i64 t] := ⟨_, rfl⟩
      have g4 : Grown hb h4 := by rw [eh4]; exact Grown.pu g3 rfl
      have s34 : Sub h3.blks h4.blks := by rw [eh4]; exact Sub.pu k3
      have bc : Box h4.blks h3.next [.int .i64 c.1, .int .i64 c.2, .int .i64 t] := by rw [eh4]; exact Box.top
      have st3 : sStore 3 { next := h3.next + 1, blks := (h3.next, { cells := [.int .i64 0, .int .i64 0, .int .i64 0], ch := h3.next, wr := true }) :: h3.blks, loops := h3.loops, base := h3.base, esc := h3.esc } (.ag [.int .i64 c.1, .int .i64 c.2, .int .i64 t]) (.ptr h3.next 0) = some (.any, h4) := by
        rw [eh4]
        exact sStore_ag k3 rfl rfl rfl rfl
      have x0 : cellB h4.blks h3.next 0 = some (.int .i64 c.1) := bc.ld (Sub.refl _)
      have x1 : cellB h4.blks h3.next 1 = some (.int .i64 c.2) := bc.ld (Sub.refl _)
      have x2 : cellB h4.blks h3.next 2 = some (.int .i64 t) := bc.ld (Sub.refl _)
      have y0 : cellB h4.blks h1.next 0 = some (.int .i64 p.1) := bx3.ld s34
      have y1 : cellB h4.blks h1.next 1 = some (.int .i64 p.2) := bx3.ld s34
      have q1 : sBin .quo .no (.int .i64 c.1) (.int .i64 n) = some (.int .i64 (c.1 / n)) := sBin_quo (by omega) (by omega) (by omega)
      have q2 : sBin .quo .no (.int .i64 p.1) (.int .i64 n) = some (.int .i64 (p.1 / n)) := sBin_quo (by omega) (by omega) (by omega)
      have q3 : sBin .quo .no (.int .i64 c.2) (.int .i64 n) = some (.int .i64 (c.2 / n)) := sBin_quo (by omega) (by omega) (by omega)
      have q4 : 0 ≤ p.2 → sBin .quo .no (.int .i64 p.2) (.int .i64 n) = some (.int .i64 (p.2 / n)) := fun _ => sBin_quo (by omega) (by omega) (by omega)
      have ot4 : OwnT hb.next h4.blks (.sl hb.next 0 m (some m) 1) (tkL n m b p k) := OwnA.sub ot s34
      have tm : t < (tkL n m b p k).length := by rw [tkL_len]; omega
      have ixt := OwnT.ix ot4 h4 tm
      obtain ⟨h5, e5, ot5, g5⟩ := own_setT (b := true) kb g4 ot4 tm
      clear eh4 ec et

      cases z
      · by_cases w1 : c.1 = p.1
        · skip
          have w3 : c.1 / (n : Int) = p.1 / n := by rw [w1]
          have b1 : (c.1 == p.1) = true := by simpa using w1
          have b3 : (c.1 / (n : Int) == p.1 / (n : Int)) = true := by simpa using w3
          simp (disch := first|(simp only [Nat.reduceBEq,wE];done)|((repeat' (first|assumption|exact mAx _|refine mBx ?_ ?_|exact mCx (by assumption)|refine mDx ?_|refine mEx ?_ ?_ ?_|exact mFx|refine mGx ?_ ?_ ?_|exact mHx|exact mIx _|(simp only [wM,Nat.reduceAdd,Nat.reduceLT,Nat.reduceLeDiff];done)));done)|omega|decide) only [e, e2, ix3, ld3, st3, x0, x1, x2, y0, y1, b1, q1, q2, b3, ixt, e5, ↓wA,wB,wL,resOf,Nat.reduceBEq,Int.reduceBEq,Int.reduceBNe,Int.reduceLT,Int.reduceLE,Int.reduceAdd,Int.reduceSub,Int.reduceMul,Int.reduceToNat]
          refine ⟨_, ?_, k + 1, (k : Int), true, h5, _, _, _, _, _, _, _, _, _, _, _, _, _, rfl, ?_, rfl⟩
          · omega
          refine ⟨by omega, g5, ?_, ?_, ?_⟩
          · rw [at1, if_pos w1]
          · rw [bz1]; simp [w1]
          · rw [tk1, if_pos (tq.2 (.inl w3))]; exact ot5
        · by_cases w2 : c.2 = p.2
          · skip
            by_cases w3 : c.1 / (n : Int) = p.1 / n
            · skip
              have b1 : (c.1 == p.1) = false := by simpa using w1
              have b2 : (c.2 == p.2) = true := by simpa using w2
              have b3 : (c.1 / (n : Int) == p.1 / (n : Int)) = true := by simpa using w3
              simp (disch := first|(simp only [Nat.reduceBEq,wE];done)|((repeat' (first|assumption|exact mAx _|refine mBx ?_ ?_|exact mCx (by assumption)|refine mDx ?_|refine mEx ?_ ?_ ?_|exact mFx|refine mGx ?_ ?_ ?_|exact mHx|exact mIx _|(simp only [wM,Nat.reduceAdd,Nat.reduceLT,Nat.reduceLeDiff];done)));done)|omega|decide) only [e, e2, ix3, ld3, st3, x0, x1, x2, y0, y1, b1, b2, q1, q2, b3, ixt, e5, ↓wA,wB,wL,resOf,Nat.reduceBEq,Int.reduceBEq,Int.reduceBNe,Int.reduceLT,Int.reduceLE,Int.reduceAdd,Int.reduceSub,Int.reduceMul,Int.reduceToNat]
              refine ⟨_, ?_, k + 1, q, true, h5, _, _, _, _, _, _, _, _, _, _, _, _, _, rfl, ?_, rfl⟩
              · omega
              refine ⟨by omega, g5, ?_, ?_, ?_⟩
              · rw [at1, if_neg w1]
              · rw [bz1]; simp [w1, w2]
              · rw [tk1, if_pos (tq.2 (.inl w3))]; exact ot5
            · have w4 : 0 ≤ p.2 := by omega
              have w5 : c.2 / (n : Int) = p.2 / n := by rw [w2]
              have b1 : (c.1 == p.1) = false := by simpa using w1
              have b2 : (c.2 == p.2) = true := by simpa using w2
              have b3 : (c.1 / (n : Int) == p.1 / (n : Int)) = false := by simpa using w3
              have b4 : (decide (0 ≤ p.2)) = true := by simpa using w4
              have b5 : (c.2 / (n : Int) == p.2 / (n : Int)) = true := by simpa using w5
              simp (disch := first|(simp only [Nat.reduceBEq,wE];done)|((repeat' (first|assumption|exact mAx _|refine mBx ?_ ?_|exact mCx (by assumption)|refine mDx ?_|refine mEx ?_ ?_ ?_|exact mFx|refine mGx ?_ ?_ ?_|exact mHx|exact mIx _|(simp only [wM,Nat.reduceAdd,Nat.reduceLT,Nat.reduceLeDiff];done)));done)|omega|decide) only [e, e2, ix3, ld3, st3, x0, x1, x2, y0, y1, b1, b2, q1, q2, b3, b4, q3, q4 w4, b5, ixt, e5, ↓wA,wB,wL,resOf,Nat.reduceBEq,Int.reduceBEq,Int.reduceBNe,Int.reduceLT,Int.reduceLE,Int.reduceAdd,Int.reduceSub,Int.reduceMul,Int.reduceToNat]
              refine ⟨_, ?_, k + 1, q, true, h5, _, _, _, _, _, _, _, _, _, _, _, _, _, rfl, ?_, rfl⟩
              · omega
              refine ⟨by omega, g5, ?_, ?_, ?_⟩
              · rw [at1, if_neg w1]
              · rw [bz1]; simp [w1, w2]
              · rw [tk1, if_pos (tq.2 (.inr ⟨w4, w5⟩))]; exact ot5
          · skip
            by_cases w3 : c.1 / (n : Int) = p.1 / n
            · skip
              have b1 : (c.1 == p.1) = false := by simpa using w1
              have b2 : (c.2 == p.2) = false := by simpa using w2
              have b3 : (c.1 / (n : Int) == p.1 / (n : Int)) = true := by simpa using w3
              simp (disch := first|(simp only [Nat.reduceBEq,wE];done)|((repeat' (first|assumption|exact mAx _|refine mBx ?_ ?_|exact mCx (by assumption)|refine mDx ?_|refine mEx ?_ ?_ ?_|exact mFx|refine mGx ?_ ?_ ?_|exact mHx|exact mIx _|(simp only [wM,Nat.reduceAdd,Nat.reduceLT,Nat.reduceLeDiff];done)));done)|omega|decide) only [e, e2, ix3, ld3, st3, x0, x1, x2, y0, y1, b1, b2, q1, q2, b3, ixt, e5, ↓wA,wB,wL,resOf,Nat.reduceBEq,Int.reduceBEq,Int.reduceBNe,Int.reduceLT,Int.reduceLE,Int.reduceAdd,Int.reduceSub,Int.reduceMul,Int.reduceToNat]
              refine ⟨_, ?_, k + 1, q, false, h5, _, _, _, _, _, _, _, _, _, _, _, _, _, rfl, ?_, rfl⟩
              · omega
              refine ⟨by omega, g5, ?_, ?_, ?_⟩
              · rw [at1, if_neg w1]
              · rw [bz1]; simp [w1, w2]
              · rw [tk1, if_pos (tq.2 (.inl w3))]; exact ot5
            · by_cases w4 : 0 ≤ p.2
              · by_cases w5 : c.2 / (n : Int) = p.2 / n
                · skip
                  have b1 : (c.1 == p.1) = false := by simpa using w1
                  have b2 : (c.2 == p.2) = false := by simpa using w2
                  have b3 : (c.1 / (n : Int) == p.1 / (n : Int)) = false := by simpa using w3
                  have b4 : (decide (0 ≤ p.2)) = true := by simpa using w4
                  have b5 : (c.2 / (n : Int) == p.2 / (n : Int)) = true := by simpa using w5
                  simp (disch := first|(simp only [Nat.reduceBEq,wE];done)|((repeat' (first|assumption|exact mAx _|refine mBx ?_ ?_|exact mCx (by assumption)|refine mDx ?_|refine mEx ?_ ?_ ?_|exact mFx|refine mGx ?_ ?_ ?_|exact mHx|exact mIx _|(simp only [wM,Nat.reduceAdd,Nat.reduceLT,Nat.reduceLeDiff];done)));done)|omega|decide) only [e, e2, ix3, ld3, st3, x0, x1, x2, y0, y1, b1, b2, q1, q2, b3, b4, q3, q4 w4, b5, ixt, e5, ↓wA,wB,wL,resOf,Nat.reduceBEq,Int.reduceBEq,Int.reduceBNe,Int.reduceLT,Int.reduceLE,Int.reduceAdd,Int.reduceSub,Int.reduceMul,Int.reduceToNat]
                  refine ⟨_, ?_, k + 1, q, false, h5, _, _, _, _, _, _, _, _, _, _, _, _, _, rfl, ?_, rfl⟩
                  · omega
                  refine ⟨by omega, g5, ?_, ?_, ?_⟩
                  · rw [at1, if_neg w1]
                  · rw [bz1]; simp [w1, w2]
                  · rw [tk1, if_pos (tq.2 (.inr ⟨w4, w5⟩))]; exact ot5
                · skip
                  have b1 : (c.1 == p.1) = false := by simpa using w1
                  have b2 : (c.2 == p.2) = false := by simpa using w2
                  have b3 : (c.1 / (n : Int) == p.1 / (n : Int)) = false := by simpa using w3
                  have b4 : (decide (0 ≤ p.2)) = true := by simpa using w4
                  have b5 : (c.2 / (n : Int) == p.2 / (n : Int)) = false := by simpa using w5
                  simp (disch := first|(simp only [Nat.reduceBEq,wE];done)|((repeat' (first|assumption|exact mAx _|refine mBx ?_ ?_|exact mCx (by assumption)|refine mDx ?_|refine mEx ?_ ?_ ?_|exact mFx|refine mGx ?_ ?_ ?_|exact mHx|exact mIx _|(simp only [wM,Nat.reduceAdd,Nat.reduceLT,Nat.reduceLeDiff];done)));done)|omega|decide) only [e, e2, ix3, ld3, st3, x0, x1, x2, y0, y1, b1, b2, q1, q2, b3, b4, q3, q4 w4, b5, ↓wA,wB,wL,resOf,Nat.reduceBEq,Int.reduceBEq,Int.reduceBNe,Int.reduceLT,Int.reduceLE,Int.reduceAdd,Int.reduceSub,Int.reduceMul,Int.reduceToNat]
                  refine ⟨_, ?_, k + 1, q, false, h4, _, _, _, _, _, _, _, _, _, _, _, _, _, rfl, ?_, rfl⟩
                  · omega
                  refine ⟨by omega, g4, ?_, ?_, ?_⟩
                  · rw [at1, if_neg w1]
                  · rw [bz1]; simp [w1, w2]
                  · rw [tk1, if_neg fun hh => (tq.1 hh).elim (fun hh => w3 hh) fun hh => w5 hh.2]; exact ot4
              · skip
                have b1 : (c.1 == p.1) = false := by simpa using w1
                have b2 : (c.2 == p.2) = false := by simpa using w2
                have b3 : (c.1 / (n : Int) == p.1 / (n : Int)) = false := by simpa using w3
                have b4 : (decide (0 ≤ p.2)) = false := by simpa using w4
                simp (disch := first|(simp only [Nat.reduceBEq,wE];done)|((repeat' (first|assumption|exact mAx _|refine mBx ?_ ?_|exact mCx (by assumption)|refine mDx ?_|refine mEx ?_ ?_ ?_|exact mFx|refine mGx ?_ ?_ ?_|exact mHx|exact mIx _|(simp only [wM,Nat.reduceAdd,Nat.reduceLT,Nat.reduceLeDiff];done)));done)|omega|decide) only [e, e2, ix3, ld3, st3, x0, x1, x2, y0, y1, b1, b2, q1, q2, b3, b4, ↓wA,wB,wL,resOf,Nat.reduceBEq,Int.reduceBEq,Int.reduceBNe,Int.reduceLT,Int.reduceLE,Int.reduceAdd,Int.reduceSub,Int.reduceMul,Int.reduceToNat]
                refine ⟨_, ?_, k + 1, q, false, h4, _, _, _, _, _, _, _, _, _, _, _, _, _, rfl, ?_, rfl⟩
                · omega
                refine ⟨by omega, g4, ?_, ?_, ?_⟩
                · rw [at1, if_neg w1]
                · rw [bz1]; simp [w1, w2]
                · rw [tk1, if_neg fun hh => (tq.1 hh).elim (fun hh => w3 hh) fun hh => w4 hh.1]; exact ot4
      · by_cases w1 : c.1 = p.1
        · skip
          have w3 : c.1 / (n : Int) = p.1 / n := by rw [w1]
          have b1 : (c.1 == p.1) = true := by simpa using w1
          have b3 : (c.1 / (n : Int) == p.1 / (n : Int)) = true := by simpa using w3
          simp (disch := first|(simp only [Nat.reduceBEq,wE];done)|((repeat' (first|assumption|exact mAx _|refine mBx ?_ ?_|exact mCx (by assumption)|refine mDx ?_|refine mEx ?_ ?_ ?_|exact mFx|refine mGx ?_ ?_ ?_|exact mHx|exact mIx _|(simp only [wM,Nat.reduceAdd,Nat.reduceLT,Nat.reduceLeDiff];done)));done)|omega|decide) only [e, e2, ix3, ld3, st3, x0, x1, x2, y0, y1, b1, q1, q2, b3, ixt, e5, ↓wA,wB,wL,resOf,Nat.reduceBEq,Int.reduceBEq,Int.reduceBNe,Int.reduceLT,Int.reduceLE,Int.reduceAdd,Int.reduceSub,Int.reduceMul,Int.reduceToNat]
          refine ⟨_, ?_, k + 1, (k : Int), true, h5, _, _, _, _, _, _, _, _, _, _, _, _, _, rfl, ?_, rfl⟩
          · omega
          refine ⟨by omega, g5, ?_, ?_, ?_⟩
          · rw [at1, if_pos w1]
          · rw [bz1]; simp [w1]
          · rw [tk1, if_pos (tq.2 (.inl w3))]; exact ot5
        · skip
          by_cases w3 : c.1 / (n : Int) = p.1 / n
          · skip
            have b1 : (c.1 == p.1) = false := by simpa using w1
            have b3 : (c.1 / (n : Int) == p.1 / (n : Int)) = true := by simpa using w3
            simp (disch := first|(simp only [Nat.reduceBEq,wE];done)|((repeat' (first|assumption|exact mAx _|refine mBx ?_ ?_|exact mCx (by assumption)|refine mDx ?_|refine mEx ?_ ?_ ?_|exact mFx|refine mGx ?_ ?_ ?_|exact mHx|exact mIx _|(simp only [wM,Nat.reduceAdd,Nat.reduceLT,Nat.reduceLeDiff];done)));done)|omega|decide) only [e, e2, ix3, ld3, st3, x0, x1, x2, y0, y1, b1, q1, q2, b3, ixt, e5, ↓wA,wB,wL,resOf,Nat.reduceBEq,Int.reduceBEq,Int.reduceBNe,Int.reduceLT,Int.reduceLE,Int.reduceAdd,Int.reduceSub,Int.reduceMul,Int.reduceToNat]
            refine ⟨_, ?_, k + 1, q, true, h5, _, _, _, _, _, _, _, _, _, _, _, _, _, rfl, ?_, rfl⟩
            · omega
            refine ⟨by omega, g5, ?_, ?_, ?_⟩
            · rw [at1, if_neg w1]
            · rw [bz1]; simp [w1]
            · rw [tk1, if_pos (tq.2 (.inl w3))]; exact ot5
          · by_cases w4 : 0 ≤ p.2
            · by_cases w5 : c.2 / (n : Int) = p.2 / n
              · skip
                have b1 : (c.1 == p.1) = false := by simpa using w1
                have b3 : (c.1 / (n : Int) == p.1 / (n : Int)) = false := by simpa using w3
                have b4 : (decide (0 ≤ p.2)) = true := by simpa using w4
                have b5 : (c.2 / (n : Int) == p.2 / (n : Int)) = true := by simpa using w5
                simp (disch := first|(simp only [Nat.reduceBEq,wE];done)|((repeat' (first|assumption|exact mAx _|refine mBx ?_ ?_|exact mCx (by assumption)|refine mDx ?_|refine mEx ?_ ?_ ?_|exact mFx|refine mGx ?_ ?_ ?_|exact mHx|exact mIx _|(simp only [wM,Nat.reduceAdd,Nat.reduceLT,Nat.reduceLeDiff];done)));done)|omega|decide) only [e, e2, ix3, ld3, st3, x0, x1, x2, y0, y1, b1, q1, q2, b3, b4, q3, q4 w4, b5, ixt, e5, ↓wA,wB,wL,resOf,Nat.reduceBEq,Int.reduceBEq,Int.reduceBNe,Int.reduceLT,Int.reduceLE,Int.reduceAdd,Int.reduceSub,Int.reduceMul,Int.reduceToNat]
                refine ⟨_, ?_, k + 1, q, true, h5, _, _, _, _, _, _, _, _, _, _, _, _, _, rfl, ?_, rfl⟩
                · omega
                refine ⟨by omega, g5, ?_, ?_, ?_⟩
                · rw [at1, if_neg w1]
                · rw [bz1]; simp [w1]
                · rw [tk1, if_pos (tq.2 (.inr ⟨w4, w5⟩))]; exact ot5
              · skip
                have b1 : (c.1 == p.1) = false := by simpa using w1
                have b3 : (c.1 / (n : Int) == p.1 / (n : Int)) = false := by simpa using w3
                have b4 : (decide (0 ≤ p.2)) = true := by simpa using w4
                have b5 : (c.2 / (n : Int) == p.2 / (n : Int)) = false := by simpa using w5
                simp (disch := first|(simp only [Nat.reduceBEq,wE];done)|((repeat' (first|assumption|exact mAx _|refine mBx ?_ ?_|exact mCx (by assumption)|refine mDx ?_|refine mEx ?_ ?_ ?_|exact mFx|refine mGx ?_ ?_ ?_|exact mHx|exact mIx _|(simp only [wM,Nat.reduceAdd,Nat.reduceLT,Nat.reduceLeDiff];done)));done)|omega|decide) only [e, e2, ix3, ld3, st3, x0, x1, x2, y0, y1, b1, q1, q2, b3, b4, q3, q4 w4, b5, ↓wA,wB,wL,resOf,Nat.reduceBEq,Int.reduceBEq,Int.reduceBNe,Int.reduceLT,Int.reduceLE,Int.reduceAdd,Int.reduceSub,Int.reduceMul,Int.reduceToNat]
                refine ⟨_, ?_, k + 1, q, true, h4, _, _, _, _, _, _, _, _, _, _, _, _, _, rfl, ?_, rfl⟩
                · omega
                refine ⟨by omega, g4, ?_, ?_, ?_⟩
                · rw [at1, if_neg w1]
                · rw [bz1]; simp [w1]
                · rw [tk1, if_neg fun hh => (tq.1 hh).elim (fun hh => w3 hh) fun hh => w5 hh.2]; exact ot4
            · skip
              have b1 : (c.1 == p.1) = false := by simpa using w1
              have b3 : (c.1 / (n : Int) == p.1 / (n : Int)) = false := by simpa using w3
              have b4 : (decide (0 ≤ p.2)) = false := by simpa using w4
              simp (disch := first|(simp only [Nat.reduceBEq,wE];done)|((repeat' (first|assumption|exact mAx _|refine mBx ?_ ?_|exact mCx (by assumption)|refine mDx ?_|refine mEx ?_ ?_ ?_|exact mFx|refine mGx ?_ ?_ ?_|exact mHx|exact mIx _|(simp only [wM,Nat.reduceAdd,Nat.reduceLT,Nat.reduceLeDiff];done)));done)|omega|decide) only [e, e2, ix3, ld3, st3, x0, x1, x2, y0, y1, b1, q1, q2, b3, b4, ↓wA,wB,wL,resOf,Nat.reduceBEq,Int.reduceBEq,Int.reduceBNe,Int.reduceLT,Int.reduceLE,Int.reduceAdd,Int.reduceSub,Int.reduceMul,Int.reduceToNat]
              refine ⟨_, ?_, k + 1, q, true, h4, _, _, _, _, _, _, _, _, _, _, _, _, _, rfl, ?_, rfl⟩
              · omega
              refine ⟨by omega, g4, ?_, ?_, ?_⟩
              · rw [at1, if_neg w1]
              · rw [bz1]; simp [w1]
              · rw [tk1, if_neg fun hh => (tq.1 hh).elim (fun hh => w3 hh) fun hh => w4 hh.1]; exact ot4
    · have ek : k = b.1.length := by omega
      subst ek
      have y0 : cellB h3.blks h1.next 0 = some (.int .i64 p.1) := bx3.ld (Sub.refl _)
      have y1 : cellB h3.blks h1.next 1 = some (.int .i64 p.2) := bx3.ld (Sub.refl _)
      have hch3 : ∀ x, chOf h3.blks s = some x → chOf h3.blks o ≠ some x := by rw [OwnA.chSub osb s3, OwnA.chSub oob s3]; exact hchb
      have step1 := step_off (n := n) (m := m) (b := b) (p := p)
      have step2 := step_on (n := n) (m := m) (b := b) (p := p) I.len
      rw [← eq1] at step1
      rw [← ez] at step2
      -- a number more
      have push : ∀ v : Int, ∃ o' h4, sApp true 1 (h3.pu (ints .i64 [v])) o (.sl h3.next 0 1 (some 1) 1) = some (o', h4) ∧ Own h.next h4.blks .i64 o' (serveC n m ([], []) (l.take i) ++ [v]) ∧ Grown h h4 ∧ OwnL h.next h4.blks s (trip b) ∧ (∀ x, chOf h4.blks s = some x → chOf h4.blks o' ≠ some x) ∧ Box h4.blks h1.next [.int .i64 p.1, .int .i64 p.2] := fun v => by
        have gp : Grown h (h3.pu (ints .i64 [v])) := Grown.pu g03 refsOK_ints
        have sp : Sub h3.blks (h3.pu (ints .i64 [v])).blks := Sub.pu k3
        have oop := OwnA.sub oo3 sp
        have osp := OwnA.sub os3 sp
        have top : Arr (h3.pu (ints .i64 [v])).blks 1 (.sl h3.next 0 1 (some 1) 1) (0 + 1) (ints .i64 [v]) := Ints.top rfl (Nat.le_refl 1)
        obtain ⟨o', h4, e4, o4, g4, c4, f4⟩ := own_appO hk gp oop top (by omega) all_cell_ints (by omega)
        have cs3 := OwnA.chSub os3 sp
        have co3 := OwnA.chSub oo3 sp
        obtain ⟨k4, kc⟩ := OwnA.keep osp f4 fun x hx hh => by
          rw [cs3] at hx
          rw [co3] at hh
          exact hch3 x hx hh.symm
        refine ⟨o', h4, e4, ?_, g4, k4, fun x hx hh => ?_, ?_⟩
        · unfold Own
          rw [List.length_append, ← ints_append]
          exact o4
        · rw [kc, cs3] at hx
          rcases c4 with c4 | ⟨y, c4, hy⟩
          · rw [hh, co3] at c4
            exact hch3 x hx c4.symm
          · rw [hh] at c4
            have := Option.some.inj c4
            have := OwnA.chLt k3 os3 x hx
            have : h3.next < (h3.pu (ints .i64 [v])).next := Nat.lt_succ_self _
            omega
        · refine ⟨_, _, f4 _ _ (sp _ _ (s3 _ _ bxl)) fun hh => ?_⟩
          rw [co3, OwnA.chSub oob s3, OwnA.chSub oo s1b] at hh
          have := OwnA.chLt k1 oo _ hh.symm
          simp only at this
          omega
      by_cases w4 : 0 ≤ p.2
      · have d1 : decide (p.2 < 0) = false := decide_eq_false (by omega)
        have d2 : decide (0 ≤ p.2) = true := decide_eq_true w4
        obtain ⟨sa, sb⟩ := step2 w4
        cases z
        · obtain ⟨sb1, sb2⟩ := sb rfl
          simp (disch := first|(simp only [Nat.reduceBEq,wE];done)|((repeat' (first|assumption|exact mAx _|refine mBx ?_ ?_|exact mCx (by assumption)|refine mDx ?_|refine mEx ?_ ?_ ?_|exact mFx|refine mGx ?_ ?_ ?_|exact mHx|exact mIx _|(simp only [wM,Nat.reduceAdd,Nat.reduceLT,Nat.reduceLeDiff];done)));done)|omega|decide) only [e, e2, y1, d1, d2, ↓wA,wB,wL,resOf,Nat.reduceBEq,Int.reduceBEq,Int.reduceBNe,Int.reduceLT,Int.reduceLE,Int.reduceAdd,Int.reduceSub,Int.reduceMul,Int.reduceToNat]
          refine wloop (fun mm ss => ∃ (t : Nat) (j : Int) (f : Int) (u6 u11 u13 u14 u15 u23 u35 u46 u87 u95 u102 u109 u121 u140 : AV), (mm = t) ∧ (t ≤ m ∧ j = (t : Int) - 1 ∧ f = freeR n m b p t) ∧ ss = { fr := [(0, .int .i64 n), (1, .int .i64 m), (2, a), (6, u6), (7, s), (8, o), (9, .int .i64 i), (10, .ptr h1.next 0), (11, u11), (12, .sl hb.next 0 m (some m) 1), (13, u13), (14, u14), (15, u15), (16, .int .i64 f), (17, .int .i64 j), (23, u23), (35, u35), (46, u46), (87, u87), (95, u95), (102, u102), (109, u109), (121, u121), (140, u140)], hp := h3 }) (m) ?_ ?_
          ·
            refine ⟨m, _, _, _, _, _, _, _, _, _, _, _, _, _, _, _, _, by omega, ⟨by omega, rfl, freeR_top.symm⟩, rfl⟩
          rintro nC sC ⟨t, j, f, u6, u11, u13, u14, u15, u23, u35, u46, u87, u95, u102, u109, u121, u140, hnC, ⟨htm, ej, ef⟩, rfl⟩
          simp (disch := first|(simp only [Nat.reduceBEq,wE];done)|((repeat' (first|assumption|exact mAx _|refine mBx ?_ ?_|exact mCx (by assumption)|refine mDx ?_|refine mEx ?_ ?_ ?_|exact mFx|refine mGx ?_ ?_ ?_|exact mHx|exact mIx _|(simp only [wM,Nat.reduceAdd,Nat.reduceLT,Nat.reduceLeDiff];done)));done)|omega|decide) only [e, e2, ↓wA,wB,wL,resOf,Nat.reduceBEq,Int.reduceBEq,Int.reduceBNe,Int.reduceLT,Int.reduceLE,Int.reduceAdd,Int.reduceSub,Int.reduceMul,Int.reduceToNat]
          refine ifThen_intro (fun e3 => ?_) (fun e3 => ?_) <;> have e3q := e3 <;> try simp [-List.getD_eq_getElem?_getD] at e3q
          · obtain ⟨t, rfl⟩ : ∃ t', t = t' + 1 := ⟨t - 1, by omega⟩
            have ej' : j = (t : Int) := by omega
            clear ej
            subst ej'
            have tl : t < (tkL n m b p b.1.length).length := by rw [tkL_len]; omega
            have ixt := OwnT.ix ot h3 tl
            have ldt := OwnT.ld ot (Sub.refl _) tl
            rw [tkL_at (by omega)] at ldt
            have fs := freeR_step (n := n) (b := b) (p := p) (show t < m by omega)
            cases c5 : tkP n b p b.1.length t
            · rw [c5] at ldt fs
              simp (disch := first|(simp only [Nat.reduceBEq,wE];done)|((repeat' (first|assumption|exact mAx _|refine mBx ?_ ?_|exact mCx (by assumption)|refine mDx ?_|refine mEx ?_ ?_ ?_|exact mFx|refine mGx ?_ ?_ ?_|exact mHx|exact mIx _|(simp only [wM,Nat.reduceAdd,Nat.reduceLT,Nat.reduceLeDiff];done)));done)|omega|decide) only [e, e2, e3, ixt, ldt, ↓wA,wB,wL,resOf,Nat.reduceBEq,Int.reduceBEq,Int.reduceBNe,Int.reduceLT,Int.reduceLE,Int.reduceAdd,Int.reduceSub,Int.reduceMul,Int.reduceToNat]
              refine ⟨_, ?_, t, _, (t : Int), _, _, _, _, _, _, _, _, _, _, _, _, _, _, rfl, ?_, rfl⟩
              · omega
              refine ⟨by omega, rfl, ?_⟩
              rw [fs]; simp
            · rw [c5] at ldt fs
              simp (disch := first|(simp only [Nat.reduceBEq,wE];done)|((repeat' (first|assumption|exact mAx _|refine mBx ?_ ?_|exact mCx (by assumption)|refine mDx ?_|refine mEx ?_ ?_ ?_|exact mFx|refine mGx ?_ ?_ ?_|exact mHx|exact mIx _|(simp only [wM,Nat.reduceAdd,Nat.reduceLT,Nat.reduceLeDiff];done)));done)|omega|decide) only [e, e2, e3, ixt, ldt, ↓wA,wB,wL,resOf,Nat.reduceBEq,Int.reduceBEq,Int.reduceBNe,Int.reduceLT,Int.reduceLE,Int.reduceAdd,Int.reduceSub,Int.reduceMul,Int.reduceToNat]
              refine ⟨_, ?_, t, _, f, _, _, _, _, _, _, _, _, _, _, _, _, _, _, rfl, ?_, rfl⟩
              · omega
              refine ⟨by omega, rfl, ?_⟩
              rw [fs, ef]; simp
          · have t0 : t = 0 := by omega
            subst t0
            rw [← ef] at sb1 sb2
            obtain ⟨o', h4, e4, oo4, g4, os4, ch4, bx4⟩ := push f
            have k4 := g4.ok hk
            by_cases w6 : 0 ≤ f
            · have d6 : decide (0 ≤ f) = true := decide_eq_true w6
              obtain ⟨F, rfl⟩ : ∃ F : Nat, f = F := ⟨f.toNat, by omega⟩
              have se := sb2 F rfl
              have gA : Grown h4 (h4.pu []) := Grown.pu Grown.refl rfl
              have oF : OwnL h4.next (h4.pu []).blks (.sl h4.next 0 0 (some 0) 3) [] := OwnA.fresh (Nat.le_refl _) rfl rfl rfl (Nat.le_refl _)
              obtain ⟨x1, h5, e5, o5, g5⟩ := own_appL k4 gA oF (Arr.sub (OwnA.arr os4) (Sub.pu k4) : Tri (h4.pu []).blks s (trip b)) (by simp only [List.length_nil]; omega)
              rw [List.nil_append] at o5
              have k5 := g5.ok k4
              have gB : Grown h4 (h5.pu (tri [(p.1, p.2, (F : Int))])) := Grown.pu g5 refsOK_tri
              have tp : Tri (h5.pu (tri [(p.1, p.2, (F : Int))])).blks (.sl h5.next 0 1 (some 1) 3) [(p.1, p.2, (F : Int))] := Tri.top rfl (Nat.le_refl 1)
              obtain ⟨x2, h6, e6, o6, g6⟩ := own_appL k4 gB (OwnA.sub o5 (Sub.pu k5)) tp (by simp only [List.length_cons, List.length_nil]; omega)
              have za : ∀ {bs : List (Nat × Blk)}, Sub h4.blks bs → cellB bs h1.next 0 = some (.int .i64 p.1) := fun s => bx4.ld s
              have zb : ∀ {bs : List (Nat × Blk)}, Sub h4.blks bs → cellB bs h1.next 1 = some (.int .i64 p.2) := fun s => bx4.ld s
              have a0 := za (Sub.refl _)
              have a1' := za (gA.sub k4)
              have a2' := za (g5.sub k4)
              have a3' := za (gB.sub k4)
              have a4' := za (g6.sub k4)
              have c0 := zb (Sub.refl _)
              have c1' := zb (gA.sub k4)
              have c2' := zb (g5.sub k4)
              have c3' := zb (gB.sub k4)
              have c4' := zb (g6.sub k4)
              have bt := sBS_t1 (h := h5) (a := p.1) (b := p.2) (c := (F : Int))
              have bld : sBuild [AV.int .i64 0, .int .i64 0, .int .i64 0] [(0, 1), (1, 1), (2, 1)] [(0, .int .i64 p.1), (1, .int .i64 p.2), (2, .int .i64 F)] = some (.ag [.int .i64 p.1, .int .i64 p.2, .int .i64 F]) := rfl
              simp (disch := first|(simp only [Nat.reduceBEq,wE];done)|((repeat' (first|assumption|exact mAx _|refine mBx ?_ ?_|exact mCx (by assumption)|refine mDx ?_|refine mEx ?_ ?_ ?_|exact mFx|refine mGx ?_ ?_ ?_|exact mHx|exact mIx _|(simp only [wM,Nat.reduceAdd,Nat.reduceLT,Nat.reduceLeDiff];done)));done)|omega|decide) only [e, e2, e3, bld, e4, d6, e5, a0, a1', a2', a3', a4', c0, c1', c2', c3', c4', bt, e6, ↓wA,wB,wL,resOf,Nat.reduceBEq,Int.reduceBEq,Int.reduceBNe,Int.reduceLT,Int.reduceLE,Int.reduceAdd,Int.reduceSub,Int.reduceMul,Int.reduceToNat]
              refine ⟨_, ?_, i + 1, x2, o', h6, _, _, _, _, _, _, _, _, _, _, _, _, _, _, _, _, _, _, rfl, ?_, rfl⟩
              · omega
              refine ⟨by omega, GrownR.trans g4 g6, ?_, ?_, fun x hx hh => ?_⟩
              · rw [rn, se]
                simp only
                rw [trip_add I.len]
                exact OwnA.le o6 g4.next
              · rw [sc, se]
                exact OwnA.sub oo4 (g6.sub k4)
              · have := OwnA.chGe o6 x hx
                rw [OwnA.chSub oo4 (g6.sub k4)] at hh
                have := OwnA.chLt k4 oo4 x hh
                omega
            · have d6 : decide (0 ≤ f) = false := decide_eq_false w6
              have se := sb1 (by omega)
              have fm : f = -1 := by
                rw [ef]
                unfold freeR at ef ⊢
                revert ef
                split
                · intro _; rfl
                · intro ef; omega
              subst fm
              simp (disch := first|(simp only [Nat.reduceBEq,wE];done)|((repeat' (first|assumption|exact mAx _|refine mBx ?_ ?_|exact mCx (by assumption)|refine mDx ?_|refine mEx ?_ ?_ ?_|exact mFx|refine mGx ?_ ?_ ?_|exact mHx|exact mIx _|(simp only [wM,Nat.reduceAdd,Nat.reduceLT,Nat.reduceLeDiff];done)));done)|omega|decide) only [e, e2, e3, e4, d6, ↓wA,wB,wL,resOf,Nat.reduceBEq,Int.reduceBEq,Int.reduceBNe,Int.reduceLT,Int.reduceLE,Int.reduceAdd,Int.reduceSub,Int.reduceMul,Int.reduceToNat]
              refine ⟨_, ?_, i + 1, s, o', h4, _, _, _, _, _, _, _, _, _, _, _, _, _, _, _, _, _, _, rfl, ?_, rfl⟩
              · omega
              refine ⟨by omega, g4, ?_, ?_, ch4⟩
              · rw [rn, se]; exact os4
              · rw [sc, se]; exact oo4
        · have se := sa rfl
          obtain ⟨o', h4, e4, oo4, g4, os4, ch4, bx4⟩ := push (-2)
          simp (disch := first|(simp only [Nat.reduceBEq,wE];done)|((repeat' (first|assumption|exact mAx _|refine mBx ?_ ?_|exact mCx (by assumption)|refine mDx ?_|refine mEx ?_ ?_ ?_|exact mFx|refine mGx ?_ ?_ ?_|exact mHx|exact mIx _|(simp only [wM,Nat.reduceAdd,Nat.reduceLT,Nat.reduceLeDiff];done)));done)|omega|decide) only [e, e2, y1, d1, d2, e4, ↓wA,wB,wL,resOf,Nat.reduceBEq,Int.reduceBEq,Int.reduceBNe,Int.reduceLT,Int.reduceLE,Int.reduceAdd,Int.reduceSub,Int.reduceMul,Int.reduceToNat]
          refine ⟨_, ?_, i + 1, s, o', h4, _, _, _, _, _, _, _, _, _, _, _, _, _, _, _, _, _, _, rfl, ?_, rfl⟩
          · omega
          refine ⟨by omega, g4, ?_, ?_, ch4⟩
          · rw [rn, se]; exact os4
          · rw [sc, se]; exact oo4
      · have d1 : decide (p.2 < 0) = true := decide_eq_true (by omega)
        have d2 : decide (0 ≤ p.2) = false := decide_eq_false w4
        obtain ⟨sa, sb⟩ := step1 (by omega)
        by_cases w6 : q < 0
        · have d6 : decide (q < 0) = true := decide_eq_true w6
          have se := sa w6
          obtain ⟨o', h4, e4, oo4, g4, os4, ch4, bx4⟩ := push (-2)
          simp (disch := first|(simp only [Nat.reduceBEq,wE];done)|((repeat' (first|assumption|exact mAx _|refine mBx ?_ ?_|exact mCx (by assumption)|refine mDx ?_|refine mEx ?_ ?_ ?_|exact mFx|refine mGx ?_ ?_ ?_|exact mHx|exact mIx _|(simp only [wM,Nat.reduceAdd,Nat.reduceLT,Nat.reduceLeDiff];done)));done)|omega|decide) only [e, e2, y1, d1, d2, d6, e4, ↓wA,wB,wL,resOf,Nat.reduceBEq,Int.reduceBEq,Int.reduceBNe,Int.reduceLT,Int.reduceLE,Int.reduceAdd,Int.reduceSub,Int.reduceMul,Int.reduceToNat]
          refine ⟨_, ?_, i + 1, s, o', h4, _, _, _, _, _, _, _, _, _, _, _, _, _, _, _, _, _, _, rfl, ?_, rfl⟩
          · omega
          refine ⟨by omega, g4, ?_, ?_, ch4⟩
          · rw [rn, se]; exact os4
          · rw [sc, se]; exact oo4
        · have d6 : decide (q < 0) = false := decide_eq_false w6
          obtain ⟨J, rfl⟩ : ∃ J : Nat, q = J := ⟨q.toNat, by omega⟩
          obtain ⟨jl, se⟩ := sb J rfl
          have jl3 : J < (trip b).length := by omega
          have ixj := (OwnA.arr os3).ix h3 jl3
          have faj := (OwnA.arr os3).fa (j := 2) jl3
          have ldj := Tri.ld2 (OwnA.arr os3) (Sub.refl _) jl3
          rw [trip_at I.len jl] at ldj
          obtain ⟨v, ev⟩ : ∃ v, v = cl b.2 J := ⟨_, rfl⟩
          simp only at ldj
          rw [← ev] at ldj se
          obtain ⟨o', h4, e4, oo4, g4, os4, ch4, bx4⟩ := push v
          have k4 := g4.ok hk
          have gA : Grown h4 (h4.pu []) := Grown.pu Grown.refl rfl
          have oF : OwnL h4.next (h4.pu []).blks (.sl h4.next 0 0 (some 0) 3) [] := OwnA.fresh (Nat.le_refl _) rfl rfl rfl (Nat.le_refl _)
          have t4 : Arr h4.blks 3 s (trip b).length (tri (trip b)) := OwnA.arr os4
          obtain ⟨u1, eu1, hu1⟩ := Arr.upto (Arr.sub t4 (Sub.pu k4)) (m := J) (by omega) (h4.pu [])
          rw [tri_take] at hu1
          have hu1' : Tri (h4.pu []).blks u1 ((trip b).take J) := by unfold Tri; rw [List.length_take, Nat.min_eq_left (by omega)]; exact hu1
          obtain ⟨x1, h5, e5, o5, g5⟩ := own_appL k4 gA oF hu1' (by simp only [List.length_nil, List.length_take]; omega)
          rw [List.nil_append] at o5
          have k5 := g5.ok k4
          obtain ⟨u2, eu2, hu2⟩ := Arr.sl (Arr.sub t4 (g5.sub k4)) (lo := some (some (J + 1))) (hi := none) (l := J + 1) (u := (trip b).length) rfl rfl (by omega) (Nat.le_refl _) h5
          rw [tri_drop, List.take_of_length_le (by rw [tri_len, List.length_drop]; omega)] at hu2
          have hu2' : Tri h5.blks u2 ((trip b).drop (J + 1)) := by unfold Tri; rw [List.length_drop]; exact hu2
          obtain ⟨x2, h6, e6, o6, g6⟩ := own_appL k4 g5 o5 hu2' (by simp only [List.length_take, List.length_drop]; omega)
          have ej1 : (J : Int) + 1 = ((J + 1 : Nat) : Int) := by omega
          simp (disch := first|(simp only [Nat.reduceBEq,wE];done)|((repeat' (first|assumption|exact mAx _|refine mBx ?_ ?_|exact mCx (by assumption)|refine mDx ?_|refine mEx ?_ ?_ ?_|exact mFx|refine mGx ?_ ?_ ?_|exact mHx|exact mIx _|(simp only [wM,Nat.reduceAdd,Nat.reduceLT,Nat.reduceLeDiff];done)));done)|omega|decide) only [e, e2, y1, d1, d2, d6, ixj, faj, ldj, e4, eu1, e5, ej1, eu2, e6, ↓wA,wB,wL,resOf,Nat.reduceBEq,Int.reduceBEq,Int.reduceBNe,Int.reduceLT,Int.reduceLE,Int.reduceAdd,Int.reduceSub,Int.reduceMul,Int.reduceToNat]
          refine ⟨_, ?_, i + 1, x2, o', h6, _, _, _, _, _, _, _, _, _, _, _, _, _, _, _, _, _, _, rfl, ?_, rfl⟩
          · omega
          refine ⟨by omega, GrownR.trans g4 g6, ?_, ?_, fun x hx hh => ?_⟩
          · rw [rn, se]
            simp only
            rw [trip_erase, List.eraseIdx_eq_take_drop_succ]
            exact OwnA.le o6 g4.next
          · rw [sc, se]
            exact OwnA.sub oo4 (g6.sub k4)
          · have := OwnA.chGe o6 x hx
            rw [OwnA.chSub oo4 (g6.sub k4)] at hh
            have := OwnA.chLt k4 oo4 x hh
            omega
  · have ei : i = l.length := by omega
    subst ei
    rw [List.take_length] at oo
    simp (disch := first|(simp only [Nat.reduceBEq,wE];done)|((repeat' (first|assumption|exact mAx _|refine mBx ?_ ?_|exact mCx (by assumption)|refine mDx ?_|refine mEx ?_ ?_ ?_|exact mFx|refine mGx ?_ ?_ ?_|exact mHx|exact mIx _|(simp only [wM,Nat.reduceAdd,Nat.reduceLT,Nat.reduceLeDiff];done)));done)|omega|decide) only [e, ↓wA,wB,wL,resOf,Nat.reduceBEq,Int.reduceBEq,Int.reduceBNe,Int.reduceLT,Int.reduceLE,Int.reduceAdd,Int.reduceSub,Int.reduceMul,Int.reduceToNat]
    exact ⟨_, rfl, g1, oo⟩
end Go.Proofs.YtpfkmdbdafpadaaDoor
