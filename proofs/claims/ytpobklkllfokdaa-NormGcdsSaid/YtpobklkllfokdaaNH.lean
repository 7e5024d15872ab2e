/- The laws' helpers: integral quaternions made of numbers, comparisons. -/
import Derived.Test.YtpobklkllfokdaaNG
set_option linter.unusedSimpArgs false
set_option linter.unusedVariables false
set_option maxHeartbeats 1000000
namespace Go.Nm
theorem tmod_bd {a b : Int} (hb : 0 < b) : -(b - 1) ≤ a.tmod b ∧ a.tmod b ≤ b - 1 := by
  rcases Int.le_total 0 a with ha | ha
  · rw [Int.tmod_eq_emod_of_nonneg ha]
    have := Int.emod_nonneg a (by omega : b ≠ 0)
    have := Int.emod_lt_of_pos a hb
    omega
  · have e : a.tmod b = -((-a).tmod b) := by rw [Int.neg_tmod]; omega
    rw [e, Int.tmod_eq_emod_of_nonneg (by omega : 0 ≤ -a)]
    have := Int.emod_nonneg (-a) (by omega : b ≠ 0)
    have := Int.emod_lt_of_pos (-a) hb
    omega
theorem cmpL_neg : ∀ {xs ys : List Int}, cmpL xs ys < 0 ↔ xs < ys
  | [], [] => by simp [cmpL]
  | [], y :: ys => by simp [cmpL]
  | x :: xs, [] => by simp [cmpL]
  | x :: xs, y :: ys => by
    rw [List.cons_lt_cons_iff, cmpL]
    split
    · rename_i h; simp [h]
    · rename_i h
      split
      · rename_i h2
        constructor
        · intro h3; omega
        · rintro (h3 | ⟨h3, _⟩) <;> omega
      · rename_i h2
        have e : x = y := by omega
        subst e
        rw [cmpL_neg]
        simp
theorem cmpL_pos : ∀ {xs ys : List Int}, 0 < cmpL xs ys ↔ ys < xs
  | [], [] => by simp [cmpL]
  | [], y :: ys => by simp [cmpL]
  | x :: xs, [] => by simp [cmpL]
  | x :: xs, y :: ys => by
    rw [List.cons_lt_cons_iff, cmpL]
    split
    · rename_i h
      constructor
      · intro h3; omega
      · rintro (h3 | ⟨h3, _⟩) <;> omega
    · rename_i h
      split
      · rename_i h2; simp [h2]
      · rename_i h2
        have e : x = y := by omega
        subst e
        rw [cmpL_pos]
        simp
end Go.Nm
namespace Go.Proofs.Ytpobklkllfokdaa
open Go Go.Abs Go.Nm

theorem f43 (x y : Qt) (h : Hp) (hk : Hok h) : Evals Try.prog tab false (.func 43) [(AV.ag [.int .i64 x.a, .int .i64 x.b, .int .i64 x.c, .int .i64 x.d]), (AV.ag [.int .i64 y.a, .int .i64 y.b, .int .i64 y.c, .int .i64 y.d])] h (.bool (decide (x.lst < y.lst)), h) := by
  refine evals_pure c43 rfl hk ?_
  simp only [sf43, initS_cons, initS_nil]
  simp (disch := first|(simp only [Nat.reduceBEq,wE];done)|((repeat' (first|assumption|exact mAx _|refine mBx ?_ ?_|exact mCx (by assumption)|refine mDx ?_|refine mEx ?_ ?_ ?_|exact mFx|refine mGx ?_ ?_ ?_|exact mHx|exact mIx _|(simp only [wM,Nat.reduceAdd,Nat.reduceLT,Nat.reduceLeDiff];done)));done)|omega|decide) only [↓wA,wB,wL,resOf,Nat.reduceBEq,Int.reduceBEq,Int.reduceBNe,Int.reduceLT,Int.reduceLE,Int.reduceAdd,Int.reduceSub,Int.reduceMul,Int.reduceToNat]
  refine callE (f46 x _ (by (repeat' (first|assumption|exact mAx _|refine mBx ?_ ?_|exact mCx (by assumption)|refine mDx ?_|refine mEx ?_ ?_ ?_|exact mFx|refine mGx ?_ ?_ ?_|exact mHx|exact mIx _|(simp only [wM,Nat.reduceAdd,Nat.reduceLT,Nat.reduceLeDiff];done))))) ?_
  rintro p h1 ⟨g1, o1⟩
  have gg1 : Grown h h1 := GrownR.trans (by (repeat' (first|assumption|exact mAx _|refine mBx ?_ ?_|exact mCx (by assumption)|refine mDx ?_|refine mEx ?_ ?_ ?_|exact mFx|refine mGx ?_ ?_ ?_|exact mHx|exact mIx _|(simp only [wM,Nat.reduceAdd,Nat.reduceLT,Nat.reduceLeDiff];done)))) g1
  have k1 := gg1.ok hk
  have s1 := g1.sub (by (repeat' (first|assumption|exact mAx _|refine mBx ?_ ?_|exact mCx (by assumption)|refine mDx ?_|refine mEx ?_ ?_ ?_|exact mFx|refine mGx ?_ ?_ ?_|exact mHx|exact mIx _|(simp only [wM,Nat.reduceAdd,Nat.reduceLT,Nat.reduceLeDiff];done))))
  have V1 := Var.sub (Var.push (Var.top (bs := h.blks) (id := h.next) (cs := [.int .i64 x.a, .int .i64 x.b, .int .i64 x.c, .int .i64 x.d])) (n := h.next + 1) (b := { cells := [.int .i64 y.a, .int .i64 y.b, .int .i64 y.c, .int .i64 y.d], ch := h.next + 1, wr := true }) (by omega)) s1
  have V2 := Var.sub (Var.top (bs := (h.next, { cells := [.int .i64 x.a, .int .i64 x.b, .int .i64 x.c, .int .i64 x.d], ch := h.next, wr := true }) :: h.blks) (id := h.next + 1) (cs := [.int .i64 y.a, .int .i64 y.b, .int .i64 y.c, .int .i64 y.d])) s1
  simp (disch := first|(simp only [Nat.reduceBEq,wE];done)|((repeat' (first|assumption|exact mAx _|refine mBx ?_ ?_|exact mCx (by assumption)|refine mDx ?_|refine mEx ?_ ?_ ?_|exact mFx|refine mGx ?_ ?_ ?_|exact mHx|exact mIx _|(simp only [wM,Nat.reduceAdd,Nat.reduceLT,Nat.reduceLeDiff];done)));done)|omega|decide) only [V2.ld, ↓wA,wB,wL,resOf,Nat.reduceBEq,Int.reduceBEq,Int.reduceBNe,Int.reduceLT,Int.reduceLE,Int.reduceAdd,Int.reduceSub,Int.reduceMul,Int.reduceToNat]
  refine callE (f46 y _ k1) ?_
  rintro p2 h2 ⟨g2, o2⟩
  have gg2 : Grown h h2 := GrownR.trans gg1 g2
  have k2 := gg2.ok hk
  have s2 := g2.sub k1
  have W1 := V1.sub s2
  have W2 := V2.sub s2
  simp (disch := first|(simp only [Nat.reduceBEq,wE];done)|((repeat' (first|assumption|exact mAx _|refine mBx ?_ ?_|exact mCx (by assumption)|refine mDx ?_|refine mEx ?_ ?_ ?_|exact mFx|refine mGx ?_ ?_ ?_|exact mHx|exact mIx _|(simp only [wM,Nat.reduceAdd,Nat.reduceLT,Nat.reduceLeDiff];done)));done)|omega|decide) only [↓wA,wB,wL,resOf,Nat.reduceBEq,Int.reduceBEq,Int.reduceBNe,Int.reduceLT,Int.reduceLE,Int.reduceAdd,Int.reduceSub,Int.reduceMul,Int.reduceToNat]
  refine callP (f63 _ _ x.lst y.lst _ k2 (o1.ints.sub s2) o2.ints (by simp) (by simp)) ?_
  simp (disch := first|(simp only [Nat.reduceBEq,wE];done)|((repeat' (first|assumption|exact mAx _|refine mBx ?_ ?_|exact mCx (by assumption)|refine mDx ?_|refine mEx ?_ ?_ ?_|exact mFx|refine mGx ?_ ?_ ?_|exact mHx|exact mIx _|(simp only [wM,Nat.reduceAdd,Nat.reduceLT,Nat.reduceLeDiff];done)));done)|omega|decide) only [V1.ld, V2.ld, W1.ld, W2.ld, ↓wA,wB,wL,resOf,Nat.reduceBEq,Int.reduceBEq,Int.reduceBNe,Int.reduceLT,Int.reduceLE,Int.reduceAdd,Int.reduceSub,Int.reduceMul,Int.reduceToNat]
  exact ⟨_, rfl, rfl, gg2⟩

set_option maxRecDepth 100000 in
set_option maxHeartbeats 4000000 in
theorem f41 (a b c d most : Int) (h : Hp) (hk : Hok h) (ba : -32768 ≤ a ∧ a ≤ 32767) (bb : -32768 ≤ b ∧ b ≤ 32767) (bc : -32768 ≤ c ∧ c ≤ 32767) (bd : -32768 ≤ d ∧ d ≤ 32767) (hm : 1 ≤ most ∧ most ≤ 1000) :
    ∃ q : Qt, Evals Try.prog tab false (.func 41) [.ag [.int .i16 a, .int .i16 b, .int .i16 c, .int .i16 d], .int .i64 most] h ((AV.ag [.int .i64 q.a, .int .i64 q.b, .int .i64 q.c, .int .i64 q.d]), h) ∧ q.int ∧ q.bd most := by
  have key : ∃ v h', Evals Try.prog tab false (.func 41) [.ag [.int .i16 a, .int .i16 b, .int .i16 c, .int .i16 d], .int .i64 most] h (v, h') ∧ (h' = h ∧ ∃ q : Qt, v = (AV.ag [.int .i64 q.a, .int .i64 q.b, .int .i64 q.c, .int .i64 q.d]) ∧ q.int ∧ q.bd most) := by
    refine evals_func (Q := fun v h' => h' = h ∧ ∃ q : Qt, v = (AV.ag [.int .i64 q.a, .int .i64 q.b, .int .i64 q.c, .int .i64 q.d]) ∧ q.int ∧ q.bd most) c41 rfl (Go.Abs.wp_mono (Q := fun e s => (match e with | .exit _ => False | _ => True) ∧ ∃ vs, sresVs s.fr s.hp sf41.res = some vs ∧ Grown h s.hp ∧ ∃ q : Qt, resOf vs = (AV.ag [.int .i64 q.a, .int .i64 q.b, .int .i64 q.c, .int .i64 q.d]) ∧ q.int ∧ q.bd most) (fun e s Hs => by
      obtain ⟨h1, vs, h2, g, q, h3, h4⟩ := Hs
      refine ⟨h1, vs, h2, ?_, q, h3, h4⟩
      exact leave_eq hk g (by rw [h3]; rfl)) ?_)
    simp only [sf41, initS_cons, initS_nil]
    obtain ⟨xs, hxs⟩ : ∃ xs : List Int, xs = [a, b, c, d] := ⟨_, rfl⟩
    have hxl : xs.length = 4 := by rw [hxs]; rfl
    have hx0 : xs.getD 0 0 = a := by rw [hxs]; rfl
    have bx : ∀ i, i < 4 → -32768 ≤ xs.getD i 0 ∧ xs.getD i 0 ≤ 32767 := fun i hi => by
      rcases (by omega : i = 0 ∨ i = 1 ∨ i = 2 ∨ i = 3) with rfl | rfl | rfl | rfl <;> rw [hxs]
      · exact ba
      · exact bb
      · exact bc
      · exact bd
    have ecs : [AV.int .i16 a, .int .i16 b, .int .i16 c, .int .i16 d] = ints .i16 xs := by rw [hxs]; rfl
    simp (disch := first|(simp only [Nat.reduceBEq,wE];done)|((repeat' (first|assumption|exact mAx _|refine mBx ?_ ?_|exact mCx (by assumption)|refine mDx ?_|refine mEx ?_ ?_ ?_|exact mFx|refine mGx ?_ ?_ ?_|exact mHx|exact mIx _|(simp only [wM,Nat.reduceAdd,Nat.reduceLT,Nat.reduceLeDiff];done)));done)|omega|decide) only [↓wA,wB,wL,resOf,Nat.reduceBEq,Int.reduceBEq,Int.reduceBNe,Int.reduceLT,Int.reduceLE,Int.reduceAdd,Int.reduceSub,Int.reduceMul,Int.reduceToNat]
    have es0 : sBS [.int .i64 0] 0 1 { next := h.next + 1 + 1, blks := (h.next + 1, { cells := [.int .i64 0, .int .i64 0, .int .i64 0, .int .i64 0], ch := h.next + 1, wr := true }) :: (h.next, { cells := [.int .i16 a, .int .i16 b, .int .i16 c, .int .i16 d], ch := h.next, wr := true }) :: h.blks, loops := h.loops, base := h.next, esc := false } [] = some (.sl (h.next + 1 + 1) 0 0 (some 0) 1, { next := h.next + 1 + 1 + 1, blks := (h.next + 1 + 1, { cells := [], ch := h.next + 1 + 1, wr := true }) :: (h.next + 1, { cells := [.int .i64 0, .int .i64 0, .int .i64 0, .int .i64 0], ch := h.next + 1, wr := true }) :: (h.next, { cells := [.int .i16 a, .int .i16 b, .int .i16 c, .int .i16 d], ch := h.next, wr := true }) :: h.blks, loops := h.loops, base := h.next, esc := false }) := rfl
    obtain ⟨h0, eh0⟩ : ∃ h0 : Hp, h0 = { next := h.next + 1 + 1, blks := (h.next + 1, { cells := [.int .i64 0, .int .i64 0, .int .i64 0, .int .i64 0], ch := h.next + 1, wr := true }) :: (h.next, { cells := [.int .i16 a, .int .i16 b, .int .i16 c, .int .i16 d], ch := h.next, wr := true }) :: h.blks, loops := h.loops, base := h.next, esc := false } := ⟨_, rfl⟩
    have g0 : Grown h h0 := by rw [eh0]; (repeat' (first|assumption|exact mAx _|refine mBx ?_ ?_|exact mCx (by assumption)|refine mDx ?_|refine mEx ?_ ?_ ?_|exact mFx|refine mGx ?_ ?_ ?_|exact mHx|exact mIx _|(simp only [wM,Nat.reduceAdd,Nat.reduceLT,Nat.reduceLeDiff];done)))
    have k0 := g0.ok hk
    have V0 : Var h0.blks h.next (ints .i16 xs) := by rw [eh0, ← ecs]; exact Var.push Var.top (by omega)
    have V1 : Var h0.blks (h.next + 1) [.int .i64 0, .int .i64 0, .int .i64 0, .int .i64 0] := by rw [eh0]; exact Var.top
    have n0 : h0.next = h.next + 1 + 1 := by rw [eh0]
    refine wloop (fun mm ss => ∃ (i : Nat) (s : AV) (zs : List Int) (h1 : Hp) (u7 u8 u11 u27 u33 u45 : AV), (mm = 4 - i) ∧ (i ≤ 4 ∧ Grown h0 h1 ∧ Own h0.next h1.blks .i64 s zs ∧ zs.length = i ∧ (∀ z ∈ zs, z % 2 = a % 2 ∧ -most ≤ z ∧ z ≤ most)) ∧ ss = { fr := [(0, .ag [.int .i16 a, .int .i16 b, .int .i16 c, .int .i16 d]), (1, .int .i64 most), (2, .ptr h.next 0), (4, .ptr (h.next + 1) 0), (5, s), (6, .int .i64 i), (7, u7), (8, u8), (11, u11), (27, u27), (33, u33), (45, u45)], hp := h1 }) (4) ?_ ?_
    ·
      refine ⟨0, _, [], _, _, _, _, _, _, _, by omega, ⟨by omega, by rw [eh0]; exact GrownR.push Grown.refl rfl (Nat.le_refl _), by rw [n0]; exact Own.fresh (zs := []) (Nat.le_refl _) rfl rfl rfl (Nat.le_refl 0), rfl, by simp⟩, rfl⟩
    rintro nA sA ⟨i, s, zs, h1, u7, u8, u11, u27, u33, u45, hnA, ⟨hi, g1, o1, hl, hz⟩, rfl⟩
    have k1 := g1.ok k0
    have W0 := V0.sub (g1.sub k0)
    have W1 := V1.sub (g1.sub k0)
    simp (disch := first|(simp only [Nat.reduceBEq,wE];done)|((repeat' (first|assumption|exact mAx _|refine mBx ?_ ?_|exact mCx (by assumption)|refine mDx ?_|refine mEx ?_ ?_ ?_|exact mFx|refine mGx ?_ ?_ ?_|exact mHx|exact mIx _|(simp only [wM,Nat.reduceAdd,Nat.reduceLT,Nat.reduceLeDiff];done)));done)|omega|decide) only [↓wA,wB,wL,resOf,Nat.reduceBEq,Int.reduceBEq,Int.reduceBNe,Int.reduceLT,Int.reduceLE,Int.reduceAdd,Int.reduceSub,Int.reduceMul,Int.reduceToNat]
    refine ifThen_intro (fun e => ?_) (fun e => ?_) <;> have eq := e <;> try simp [-List.getD_eq_getElem?_getD] at eq
    · have hb := bx i (by omega)
      have hg := ints_get (k := .i16) (zs := xs) (i := i) (by omega)
      have hg0 := ints_get (k := .i16) (zs := xs) (i := 0) (by omega)
      rw [hx0] at hg0
      obtain ⟨r, hr⟩ : ∃ r, r = (xs.getD i 0).tmod (most + 1) := ⟨_, rfl⟩
      have hrb := tmod_bd (a := xs.getD i 0) (b := most + 1) (by omega)
      rw [← hr] at hrb
      simp (disch := first|(simp only [Nat.reduceBEq,wE];done)|((repeat' (first|assumption|exact mAx _|refine mBx ?_ ?_|exact mCx (by assumption)|refine mDx ?_|refine mEx ?_ ?_ ?_|exact mFx|refine mGx ?_ ?_ ?_|exact mHx|exact mIx _|(simp only [wM,Nat.reduceAdd,Nat.reduceLT,Nat.reduceLeDiff];done)));done)|omega|decide) only [e, e, W0.ld1, hg, hg0, sBin_remL, ← hr, ↓wA,wB,wL,resOf,Nat.reduceBEq,Int.reduceBEq,Int.reduceBNe,Int.reduceLT,Int.reduceLE,Int.reduceAdd,Int.reduceSub,Int.reduceMul,Int.reduceToNat]
      have fin : ∀ w : Int, w % 2 = a % 2 → -most ≤ w → w ≤ most → ∃ s2 h2, sApp true 1 { next := h1.next + 1, blks := (h1.next, { cells := ints .i64 [w], ch := h1.next, wr := true }) :: h1.blks, loops := h1.loops, base := h1.base, esc := h1.esc } s (.sl h1.next 0 1 (some 1) 1) = some (s2, h2) ∧ (i + 1 ≤ 4 ∧ Grown h0 h2 ∧ Own h0.next h2.blks .i64 s2 (zs ++ [w]) ∧ (zs ++ [w]).length = i + 1 ∧ (∀ z ∈ zs ++ [w], z % 2 = a % 2 ∧ -most ≤ z ∧ z ≤ most)) := fun w h1' h2' h3' => by
        obtain ⟨s2, h2, y1, y2, y3, y4⟩ := own_app1 (v := w) k0 g1 o1 (by omega)
        refine ⟨s2, h2, y1, by omega, y3, y2, by simp [hl], fun z hz' => ?_⟩
        rcases List.mem_append.1 hz' with hz' | hz'
        · exact hz z hz'
        · simp at hz'; subst hz'; exact ⟨h1', h2', h3'⟩
      by_cases hp : r % 2 = a % 2
      · have hp' : (r % 2 != a % 2) = false := by simp [hp]
        obtain ⟨s2, h2, y1, y2⟩ := fin r hp (by omega) (by omega)
        simp (disch := first|(simp only [Nat.reduceBEq,wE];done)|((repeat' (first|assumption|exact mAx _|refine mBx ?_ ?_|exact mCx (by assumption)|refine mDx ?_|refine mEx ?_ ?_ ?_|exact mFx|refine mGx ?_ ?_ ?_|exact mHx|exact mIx _|(simp only [wM,Nat.reduceAdd,Nat.reduceLT,Nat.reduceLeDiff];done)));done)|omega|decide) only [e, hp', y1, ↓wA,wB,wL,resOf,Nat.reduceBEq,Int.reduceBEq,Int.reduceBNe,Int.reduceLT,Int.reduceLE,Int.reduceAdd,Int.reduceSub,Int.reduceMul,Int.reduceToNat]
        refine ⟨_, ?_, i + 1, _, zs ++ [r], _, _, _, _, _, _, _, rfl, ?_, rfl⟩
        · omega
        exact y2
      · have hp' : (r % 2 != a % 2) = true := by simp [hp]
        simp (disch := first|(simp only [Nat.reduceBEq,wE];done)|((repeat' (first|assumption|exact mAx _|refine mBx ?_ ?_|exact mCx (by assumption)|refine mDx ?_|refine mEx ?_ ?_ ?_|exact mFx|refine mGx ?_ ?_ ?_|exact mHx|exact mIx _|(simp only [wM,Nat.reduceAdd,Nat.reduceLT,Nat.reduceLeDiff];done)));done)|omega|decide) only [e, hp', ↓wA,wB,wL,resOf,Nat.reduceBEq,Int.reduceBEq,Int.reduceBNe,Int.reduceLT,Int.reduceLE,Int.reduceAdd,Int.reduceSub,Int.reduceMul,Int.reduceToNat]
        by_cases hq : r - 1 < 0 - most
        · obtain ⟨s2, h2, y1, y2⟩ := fin (r - 1 + 2) (by omega) (by omega) (by omega)
          simp (disch := first|(simp only [Nat.reduceBEq,wE];done)|((repeat' (first|assumption|exact mAx _|refine mBx ?_ ?_|exact mCx (by assumption)|refine mDx ?_|refine mEx ?_ ?_ ?_|exact mFx|refine mGx ?_ ?_ ?_|exact mHx|exact mIx _|(simp only [wM,Nat.reduceAdd,Nat.reduceLT,Nat.reduceLeDiff];done)));done)|omega|decide) only [e, decide_eq_true hq, y1, ↓wA,wB,wL,resOf,Nat.reduceBEq,Int.reduceBEq,Int.reduceBNe,Int.reduceLT,Int.reduceLE,Int.reduceAdd,Int.reduceSub,Int.reduceMul,Int.reduceToNat]
          refine ⟨_, ?_, i + 1, _, zs ++ [r - 1 + 2], _, _, _, _, _, _, _, rfl, ?_, rfl⟩
          · omega
          exact y2
        · obtain ⟨s2, h2, y1, y2⟩ := fin (r - 1) (by omega) (by omega) (by omega)
          simp (disch := first|(simp only [Nat.reduceBEq,wE];done)|((repeat' (first|assumption|exact mAx _|refine mBx ?_ ?_|exact mCx (by assumption)|refine mDx ?_|refine mEx ?_ ?_ ?_|exact mFx|refine mGx ?_ ?_ ?_|exact mHx|exact mIx _|(simp only [wM,Nat.reduceAdd,Nat.reduceLT,Nat.reduceLeDiff];done)));done)|omega|decide) only [e, decide_eq_false hq, y1, ↓wA,wB,wL,resOf,Nat.reduceBEq,Int.reduceBEq,Int.reduceBNe,Int.reduceLT,Int.reduceLE,Int.reduceAdd,Int.reduceSub,Int.reduceMul,Int.reduceToNat]
          refine ⟨_, ?_, i + 1, _, zs ++ [r - 1], _, _, _, _, _, _, _, rfl, ?_, rfl⟩
          · omega
          exact y2
    · have hl4 : zs.length = 4 := by omega
      match zs, hl4, hz, o1 with
      | [z0, z1, z2, z3], _, hz, o1 =>
      obtain ⟨q, hq⟩ : ∃ q : Qt, q = ⟨z0, z1, z2, z3⟩ := ⟨_, rfl⟩
      have c0 := hz z0 (by simp)
      have c1 := hz z1 (by simp)
      have c2 := hz z2 (by simp)
      have c3 := hz z3 (by simp)
      have iq : q.int := by rw [hq]; simp only [Qt.int]; omega
      have bq : q.bd most := by rw [hq]; simp only [Qt.bd]; omega
      have e0 : errOf [q] = 0 := errOf_0.2 ⟨fun x hx => by simp at hx; subst hx; exact iq, fun x hx => by simp at hx; subst hx; exact Qt.bd_mono bq (by omega)⟩
      have oq : Ints h1.blks .i64 s q.lst := by rw [hq]; exact o1.ints
      have gh : Grown h h1 := GrownR.trans g0 g1
      simp (disch := first|(simp only [Nat.reduceBEq,wE];done)|((repeat' (first|assumption|exact mAx _|refine mBx ?_ ?_|exact mCx (by assumption)|refine mDx ?_|refine mEx ?_ ?_ ?_|exact mFx|refine mGx ?_ ?_ ?_|exact mHx|exact mIx _|(simp only [wM,Nat.reduceAdd,Nat.reduceLT,Nat.reduceLeDiff];done)));done)|omega|decide) only [e, e, ↓wA,wB,wL,resOf,Nat.reduceBEq,Int.reduceBEq,Int.reduceBNe,Int.reduceLT,Int.reduceLE,Int.reduceAdd,Int.reduceSub,Int.reduceMul,Int.reduceToNat]
      refine callP (f55 _ q _ k1 oq) ?_
      simp (disch := first|(simp only [Nat.reduceBEq,wE];done)|((repeat' (first|assumption|exact mAx _|refine mBx ?_ ?_|exact mCx (by assumption)|refine mDx ?_|refine mEx ?_ ?_ ?_|exact mFx|refine mGx ?_ ?_ ?_|exact mHx|exact mIx _|(simp only [wM,Nat.reduceAdd,Nat.reduceLT,Nat.reduceLeDiff];done)));done)|omega|decide) only [e, ↓wA,wB,wL,resOf,Nat.reduceBEq,Int.reduceBEq,Int.reduceBNe,Int.reduceLT,Int.reduceLE,Int.reduceAdd,Int.reduceSub,Int.reduceMul,Int.reduceToNat]
      refine callP (f20 _ [q] _ (by (repeat' (first|assumption|exact mAx _|refine mBx ?_ ?_|exact mCx (by assumption)|refine mDx ?_|refine mEx ?_ ?_ ?_|exact mFx|refine mGx ?_ ?_ ?_|exact mHx|exact mIx _|(simp only [wM,Nat.reduceAdd,Nat.reduceLT,Nat.reduceLeDiff];done)))) oneQ (by simp)) ?_
      rw [e0]
      have hnn : h.next + 1 < h1.next := by have := g1.next; omega
      simp (disch := first|(simp only [Nat.reduceBEq,wE];done)|((repeat' (first|assumption|exact mAx _|refine mBx ?_ ?_|exact mCx (by assumption)|refine mDx ?_|refine mEx ?_ ?_ ?_|exact mFx|refine mGx ?_ ?_ ?_|exact mHx|exact mIx _|(simp only [wM,Nat.reduceAdd,Nat.reduceLT,Nat.reduceLeDiff];done)));done)|omega|decide) only [e, ↓wA,wB,wL,resOf,Nat.reduceBEq,Int.reduceBEq,Int.reduceBNe,Int.reduceLT,Int.reduceLE,Int.reduceAdd,Int.reduceSub,Int.reduceMul,Int.reduceToNat]
      rw [andT_pushB, andT_pushB]
      refine stA hk gh W1 (by omega) rfl rfl rfl rfl rfl ?_
      intro bs1 X1 g3 K1 S1
      have k3 := g3.ok hk
      simp (disch := first|(simp only [Nat.reduceBEq,wE];done)|((repeat' (first|assumption|exact mAx _|refine mBx ?_ ?_|exact mCx (by assumption)|refine mDx ?_|refine mEx ?_ ?_ ?_|exact mFx|refine mGx ?_ ?_ ?_|exact mHx|exact mIx _|(simp only [wM,Nat.reduceAdd,Nat.reduceLT,Nat.reduceLeDiff];done)));done)|omega|decide) only [e, X1.ld, ↓wA,wB,wL,resOf,Nat.reduceBEq,Int.reduceBEq,Int.reduceBNe,Int.reduceLT,Int.reduceLE,Int.reduceAdd,Int.reduceSub,Int.reduceMul,Int.reduceToNat]
      exact ⟨_, rfl, by (repeat' (first|assumption|exact mAx _|refine mBx ?_ ?_|exact mCx (by assumption)|refine mDx ?_|refine mEx ?_ ?_ ?_|exact mFx|refine mGx ?_ ?_ ?_|exact mHx|exact mIx _|(simp only [wM,Nat.reduceAdd,Nat.reduceLT,Nat.reduceLeDiff];done))), q, rfl, iq, bq⟩
  obtain ⟨v, h', ev, rfl, q, rfl, h1, h2⟩ := key
  exact ⟨q, ev, h1, h2⟩

theorem madeE (a b c d most : Int) (h : Hp) (hk : Hok h) (ba : -32768 ≤ a ∧ a ≤ 32767) (bb : -32768 ≤ b ∧ b ≤ 32767) (bc : -32768 ≤ c ∧ c ≤ 32767) (bd : -32768 ≤ d ∧ d ≤ 32767) (hm : 1 ≤ most ∧ most ≤ 1000) :
    ∃ v h', Evals Try.prog tab false (.func 41) [.ag [.int .i16 a, .int .i16 b, .int .i16 c, .int .i16 d], .int .i64 most] h (v, h') ∧ (h' = h ∧ ∃ q : Qt, v = (AV.ag [.int .i64 q.a, .int .i64 q.b, .int .i64 q.c, .int .i64 q.d]) ∧ q.int ∧ q.bd most) := by
  obtain ⟨q, e, i, b⟩ := f41 a b c d most h hk ba bb bc bd hm
  exact ⟨_, _, e, rfl, q, rfl, i, b⟩
theorem err1 {x : Qt} (i : x.int) (b : x.bd 1000) : errOf [x] = 0 := errOf_0.2 ⟨fun q hq => by simp at hq; subst hq; exact i, fun q hq => by simp at hq; subst hq; exact b⟩
theorem err2 {x y : Qt} (i : x.int) (b : x.bd 1000) (i' : y.int) (b' : y.bd 1000) : errOf [x, y] = 0 :=
  errOf_0.2 ⟨fun q hq => by simp at hq; rcases hq with rfl | rfl <;> assumption, fun q hq => by simp at hq; rcases hq with rfl | rfl <;> assumption⟩
theorem okQ_ok {l : List Qt} {r : Qt} (h : errOf l = 0) : okQ l r = r := if_pos h
end Go.Proofs.Ytpobklkllfokdaa
