/- RouteComplete: if any two vertices are joined once, the three least measures are what the document says. -/
import Derived.Test.YtihadgkgogfhcaaU1
import Derived.Test.YtihadgkgogfhcaaFRouteComplete
set_option linter.unusedSimpArgs false
set_option linter.unusedVariables false
set_option maxHeartbeats 4000000
set_option maxRecDepth 20000
namespace Go.Abs
/-- A slice of pairs of one's own, or an empty one that no append can write to. -/
def OwnEP (c : Nat) (bs : List (Nat × Blk)) (s : AV) (l : List (Int × Int)) : Prop := OwnP c bs s l ∨ (l = [] ∧ ∃ id b, s = .sl id 0 0 (some 0) 2 ∧ lkB bs id = some b)
theorem OwnEP.pairs {c : Nat} {bs : List (Nat × Blk)} {s : AV} {l : List (Int × Int)} (O : OwnEP c bs s l) : Pairs bs s l := by
  obtain O | ⟨rfl, id, b, rfl, h⟩ := O
  · exact OwnP.pairs O
  · exact ⟨rfl, .inr ⟨id, 0, some 0, rfl, Nat.le_refl 0, fun j hj => by simp at hj⟩⟩
theorem OwnEP.ref {c m : Nat} {bs : List (Nat × Blk)} {ls : List (Nat × LoopA)} {s : AV} {l : List (Int × Int)} (O : OwnEP c bs s l) (hk : HokR m bs ls) : refOK m s = true := by
  obtain O | ⟨rfl, id, b, rfl, h⟩ := O
  · exact OwnP.ref O hk
  · simp only [refOK, Nat.blt_eq]
    exact (hk.get h).1
theorem ownE_appP1 {h0 h : Hp} {s : AV} {l : List (Int × Int)} {a b : Int} (ho : Hok h0) (g : Grown h0 h) (O : OwnEP h0.next h.blks s l) (hl : l.length + 1 ≤ 1073741824) :
    ∃ s' h', sApp true 2 { next := h.next + 1, blks := (h.next, { cells := [.int .i64 a, .int .i64 b], ch := h.next, wr := true }) :: h.blks, loops := h.loops, base := h.base, esc := h.esc } s (.sl h.next 0 1 (some 1) 2) = some (s', h') ∧
      OwnEP h0.next h'.blks s' (l ++ [(a, b)]) ∧ Grown h0 h' := by
  obtain O | ⟨rfl, id, bk, rfl, hb⟩ := O
  · obtain ⟨s', h', e, o, g', _⟩ := own_appP1 (a := a) (b := b) ho g O hl
    exact ⟨s', h', e, .inl o, g'⟩
  · have hk := g.ok ho
    have g1 : Grown h0 (h.pu (Abs.pairs [(a, b)])) := Grown.pu g refsOK_pairs
    have a1 : Arr (h.pu (Abs.pairs [(a, b)])).blks 2 (.sl h.next 0 1 (some 1) 2) 1 (Abs.pairs [(a, b)]) := Pairs.top (w := true) rfl (Nat.le_refl 1)
    have hsrc := a1.src (by omega) (h.pu (Abs.pairs [(a, b)])) rfl
    have hid := (hk.get hb).1
    have hb' : lkB (h.pu (Abs.pairs [(a, b)])).blks id = some bk := by rw [lkB_push (show id ≠ h.next by omega)]; exact hb
    have nz : Nat.beq 1 0 = false := rfl
    have hc : (Abs.pairs [(a, b)]).all AV.isCell = true := all_cell_pairs
    have e2 : Nat.ble (0 + 1) 1073741824 = true := rfl
    have e3 : Nat.ble (0 + 1) 0 = false := rfl
    have e5 : Nat.ble (0 + 0 * 2) bk.cells.length = true := Nat.ble_eq_true_of_le (by omega)
    have e4 : slice? bk.cells 0 (0 * 2) = some [] := by simp only [slice?, e5, cond_true]; rfl
    refine ⟨.sl (h.next + 1) 0 1 none 2, (h.pu (Abs.pairs [(a, b)])).pu (Abs.pairs [(a, b)]), ?_, .inl ⟨rfl, .inr ⟨h.next + 1, _, none, rfl, lkB_top, rfl, ?_, ?_, rfl, by simp, rfl⟩⟩, Grown.pu g1 refsOK_pairs⟩
    · have e6 : ({ next := h.next + 1, blks := (h.next, { cells := [AV.int .i64 a, .int .i64 b], ch := h.next, wr := true }) :: h.blks, loops := h.loops, base := h.base, esc := h.esc } : Hp) = h.pu (Abs.pairs [(a, b)]) := rfl
      rw [e6]
      simp only [sApp, hsrc, sAppend, Nat.beq_refl, Bool.not_true, cond_false, nz, e2, hc, Bool.and_self, hb', e3, e4, Hp.new, List.nil_append, Nat.zero_add]
    · have := g.next; omega
    · have := g.next; simp only; omega
end Go.Abs
namespace Go.Proofs.Ytihadgkgogfhcaa
open Go Go.Abs Go.Pa Go.Ro

theorem f10 (k0 : Int) (x2 : AV) (l2 : List Int) (h : Hp) (hk : Hok h) (b0 : 0 ≤ k0 ∧ k0 ≤ 255)
    (P2 : Ints h.blks .u8 x2 l2) (B2 : ∀ k ∈ l2, 0 ≤ k ∧ k ≤ 255) (S2 : l2.length ≤ maxLen) :
    ∃ h', Evals Try.prog tab false (.func 10) [.int .u8 k0, x2] h (.bool true, h') := by
  suffices H : ∃ v h', Evals Try.prog tab false (.func 10) [.int .u8 k0, x2] h (v, h') ∧ v = .bool true by
    obtain ⟨v, h', e, rfl⟩ := H
    exact ⟨h', e⟩
  refine evals_func (Q := fun v _ => v = .bool true) c10 rfl ?_
  simp only [sf10, initS_cons, initS_nil]
  obtain ⟨x, rfl⟩ : ∃ x : Nat, k0 = x := ⟨k0.toNat, by omega⟩
  have w : IntKind.wrap .i64 (x : Int) = x := wrap_i64 (by omega) (by omega)
  have rm : sBin .rem .no (.int .i64 (x : Int)) (.int .i64 8) = some (.int .i64 ((x % 8 : Nat) : Int)) := by
    rw [sBin_rem (by omega) (by omega)]; rfl
  obtain ⟨n, en⟩ : ∃ n, n = x % 8 + 1 := ⟨_, rfl⟩
  have n0 : 0 < n := by omega
  have n8 : n ≤ 8 := by omega
  have ad : ((x % 8 : Nat) : Int) + 1 = (n : Int) := by omega
  have g0 : Grown h (h.en.pu []) := Grown.pu Grown.en rfl
  have k0' := g0.ok hk
  obtain ⟨o, s2, h1, hp, e2, g1, o2⟩ := start2 n x2 l2 (h.en.pu []) k0' n8 (P2.sub (g0.sub hk)) B2 S2
  have hl := PermI.len hp
  have k1 := g1.ok k0'
  have lb : lkB (h.en.pu []).blks h.next = some { cells := [], ch := h.next, wr := true } := lkB_top
  have O : OwnEP h1.next h1.blks (.sl h.next 0 0 (some 0) 2) [] := .inr ⟨rfl, h.next, _, rfl, g1.sub k0' _ _ lb⟩
  have alen := allC_len (o := o)
  have lenr : ∀ i j, (rowC o i j).length = j := fun i j => by simp [rowC]
  have alle : ∀ i, i ≤ 8 → (allC o i).length ≤ 28 := fun i hi => by
    have := alen i
    rcases Nat.eq_zero_or_pos i with rfl | h
    · simp [allC]
    · rcases small h hi with rfl | rfl | rfl | rfl | rfl | rfl | rfl | rfl <;> omega
  simp (disch := first|(simp only [Nat.reduceBEq,wE];done)|((repeat' (first|assumption|exact mAx _|refine mBx ?_ ?_|exact mCx (by assumption)|refine mDx ?_|refine mEx ?_ ?_ ?_|exact mFx|refine mGx ?_ ?_ ?_|exact mHx|exact mIx _|(simp only [wM,Nat.reduceAdd,Nat.reduceLT,Nat.reduceLeDiff];done)));done)|omega|decide) only [w, rm, ad, callT e2, ↓wA,wB,wL,resOf,Nat.reduceBEq,Int.reduceBEq,Int.reduceBNe,Int.reduceLT,Int.reduceLE,Int.reduceAdd,Int.reduceSub,Int.reduceMul,Int.reduceToNat]
  refine wloop (fun mm ss => ∃ (i : Nat) (s : AV) (h2 : Hp) (u0 u1 u4 u9 u10 u11 u22 u27 : AV), (mm = n - i) ∧ (i ≤ n ∧ Grown h1 h2 ∧ OwnEP h1.next h2.blks s (allC o i)) ∧ ss = { fr := [(0, u0), (1, u1), (4, u4), (5, .int .i64 n), (6, s), (7, s2), (8, .int .i64 i), (9, u9), (10, u10), (11, u11), (22, u22), (27, u27)], hp := h2 }) (n) ?_ ?_
  ·
    refine ⟨0, _, _, _, _, _, _, _, _, _, _, by omega, ⟨by omega, Grown.refl, O⟩, rfl⟩
  rintro nA sA ⟨i, s, h2, u0, u1, u4, u9, u10, u11, u22, u27, hnA, ⟨hi, g2, q2⟩, rfl⟩
  simp (disch := first|(simp only [Nat.reduceBEq,wE];done)|((repeat' (first|assumption|exact mAx _|refine mBx ?_ ?_|exact mCx (by assumption)|refine mDx ?_|refine mEx ?_ ?_ ?_|exact mFx|refine mGx ?_ ?_ ?_|exact mHx|exact mIx _|(simp only [wM,Nat.reduceAdd,Nat.reduceLT,Nat.reduceLeDiff];done)));done)|omega|decide) only [↓wA,wB,wL,resOf,Nat.reduceBEq,Int.reduceBEq,Int.reduceBNe,Int.reduceLT,Int.reduceLE,Int.reduceAdd,Int.reduceSub,Int.reduceMul,Int.reduceToNat]
  refine ifThen_intro (fun e => ?_) (fun e => ?_) <;> have eq := e <;> try simp [-List.getD_eq_getElem?_getD] at eq
  · simp (disch := first|(simp only [Nat.reduceBEq,wE];done)|((repeat' (first|assumption|exact mAx _|refine mBx ?_ ?_|exact mCx (by assumption)|refine mDx ?_|refine mEx ?_ ?_ ?_|exact mFx|refine mGx ?_ ?_ ?_|exact mHx|exact mIx _|(simp only [wM,Nat.reduceAdd,Nat.reduceLT,Nat.reduceLeDiff];done)));done)|omega|decide) only [e, ↓wA,wB,wL,resOf,Nat.reduceBEq,Int.reduceBEq,Int.reduceBNe,Int.reduceLT,Int.reduceLE,Int.reduceAdd,Int.reduceSub,Int.reduceMul,Int.reduceToNat]
    refine wloop (fun mm ss => ∃ (j : Nat) (s : AV) (h2 : Hp) (u0 u1 u4 u10 u11 u22 u27 : AV), (mm = i - j) ∧ (j ≤ i ∧ Grown h1 h2 ∧ OwnEP h1.next h2.blks s (allC o i ++ rowC o i j)) ∧ ss = { fr := [(0, u0), (1, u1), (4, u4), (5, .int .i64 n), (6, s), (7, s2), (8, .int .i64 i), (9, .int .i64 j), (10, u10), (11, u11), (22, u22), (27, u27)], hp := h2 }) (i) ?_ ?_
    ·
      refine ⟨0, _, _, _, _, _, _, _, _, _, by omega, ⟨by omega, g2, by simpa [rowC] using q2⟩, rfl⟩
    clear g2 q2 s h2
    rintro nB sB ⟨j, s, h2, u0, u1, u4, u10, u11, u22, u27, hnB, ⟨hj, g2, q2⟩, rfl⟩
    have k2 := g2.ok k1
    have i2 := o2.ints.sub (g2.sub k1)
    simp (disch := first|(simp only [Nat.reduceBEq,wE];done)|((repeat' (first|assumption|exact mAx _|refine mBx ?_ ?_|exact mCx (by assumption)|refine mDx ?_|refine mEx ?_ ?_ ?_|exact mFx|refine mGx ?_ ?_ ?_|exact mHx|exact mIx _|(simp only [wM,Nat.reduceAdd,Nat.reduceLT,Nat.reduceLeDiff];done)));done)|omega|decide) only [e, ↓wA,wB,wL,resOf,Nat.reduceBEq,Int.reduceBEq,Int.reduceBNe,Int.reduceLT,Int.reduceLE,Int.reduceAdd,Int.reduceSub,Int.reduceMul,Int.reduceToNat]
    refine ifThen_intro (fun e3 => ?_) (fun e3 => ?_) <;> have e3q := e3 <;> try simp [-List.getD_eq_getElem?_getD] at e3q
    · have al := alle i (by omega)
      have lr := lenr i j
      have ixi := fun h' : Hp => i2.ix h' (i := i) (by omega)
      have ixj := fun h' : Hp => i2.ix h' (i := j) (by omega)
      have ldi := i2.ld (Sub.refl _) (i := i) (by omega)
      have ldj := i2.ld (Sub.refl _) (i := j) (by omega)
      obtain ⟨s3, h3, e4, q3, g3⟩ := ownE_appP1 (a := o.getD i 0) (b := o.getD j 0) k1 g2 q2 (by rw [List.length_append]; omega)
      rw [List.append_assoc, ← rowC_succ] at q3
      simp (disch := first|(simp only [Nat.reduceBEq,wE];done)|((repeat' (first|assumption|exact mAx _|refine mBx ?_ ?_|exact mCx (by assumption)|refine mDx ?_|refine mEx ?_ ?_ ?_|exact mFx|refine mGx ?_ ?_ ?_|exact mHx|exact mIx _|(simp only [wM,Nat.reduceAdd,Nat.reduceLT,Nat.reduceLeDiff];done)));done)|omega|decide) only [e, e3, ixi, ixj, ldi, ldj, e4, ↓wA,wB,wL,resOf,Nat.reduceBEq,Int.reduceBEq,Int.reduceBNe,Int.reduceLT,Int.reduceLE,Int.reduceAdd,Int.reduceSub,Int.reduceMul,Int.reduceToNat]
      refine ⟨_, ?_, j + 1, s3, h3, _, _, _, _, _, _, _, rfl, ?_, rfl⟩
      · omega
      exact ⟨by omega, g3, q3⟩
    · rw [show j = i by omega] at q2
      simp (disch := first|(simp only [Nat.reduceBEq,wE];done)|((repeat' (first|assumption|exact mAx _|refine mBx ?_ ?_|exact mCx (by assumption)|refine mDx ?_|refine mEx ?_ ?_ ?_|exact mFx|refine mGx ?_ ?_ ?_|exact mHx|exact mIx _|(simp only [wM,Nat.reduceAdd,Nat.reduceLT,Nat.reduceLeDiff];done)));done)|omega|decide) only [e, e3, ↓wA,wB,wL,resOf,Nat.reduceBEq,Int.reduceBEq,Int.reduceBNe,Int.reduceLT,Int.reduceLE,Int.reduceAdd,Int.reduceSub,Int.reduceMul,Int.reduceToNat]
      refine ⟨_, ?_, i + 1, _, _, _, _, _, _, _, _, _, _, rfl, ?_, rfl⟩
      · omega
      exact ⟨by omega, g2, q2⟩
  · rw [show i = n by omega] at q2
    have k2 := g2.ok k1
    have hO := allC_ok hp
    have al := alle n n8
    obtain ⟨v, h3, e3, g3, t, p, q, r, xs, ys, zs, rfl, w1, w2, w3, o3⟩ := f35 n s (allC o n) h2 k2 q2.pairs (q2.ref k2) n0 n8 (by omega) hO
    have k3 := g3.ok k2
    have it := o3.ints
    have ix : ∀ (i : Nat) (h' : Hp), i < 3 → sIxS 1 h' (some i) t = some (cellAt t i, h') := fun i h' hi => it.ix h' (by simpa using hi)
    have ld0 : cellV h3.blks t 0 0 = some (.int .i64 p) := it.ld (Sub.refl _) (i := 0) (by simp)
    have ld1 : cellV h3.blks t 1 0 = some (.int .i64 q) := it.ld (Sub.refl _) (i := 1) (by simp)
    have ld2 : cellV h3.blks t 2 0 = some (.int .i64 r) := it.ld (Sub.refl _) (i := 2) (by simp)
    have j2 : idx? (.int .i64 2) = some 2 := rfl
    have v1 : p = (n : Int) - 1 := by rw [← w1.cost]; exact all_band hp w1.perm n0
    have v2 : q = ((n * n / 4 : Nat) : Int) := by rw [← w2.cost]; exact all_width hp w2.perm n0 n8
    have v3 : r = (((n + 1) * n * (n - 1) / 6 : Nat) : Int) := by rw [← w3.cost]; exact all_total hp w3.perm n0 n8
    rw [v1] at ld0
    rw [v2] at ld1
    rw [v3] at ld2
    have m1 : (n : Int) * n = ((n * n : Nat) : Int) := by simp
    have m2 : ((n : Int) + 1) * n = (((n + 1) * n : Nat) : Int) := by simp
    have m3 : (((n + 1) * n : Nat) : Int) * ((n : Int) - 1) = (((n + 1) * n * (n - 1) : Nat) : Int) := by rw [show (n : Int) - 1 = ((n - 1 : Nat) : Int) by omega]; exact (Int.natCast_mul _ _).symm
    have y1 : n * n ≤ 8 * 8 := Nat.mul_le_mul n8 n8
    have y2 : (n + 1) * n ≤ 9 * 8 := Nat.mul_le_mul (by omega) n8
    have y3 : (n + 1) * n * (n - 1) ≤ 9 * 8 * 7 := Nat.mul_le_mul y2 (by omega)
    have d1 : ∀ c, sBin .quo c (.int .i64 ((n * n : Nat) : Int)) (.int .i64 4) = some (.int .i64 ((n * n / 4 : Nat) : Int)) := fun c => by rw [sBin_quo (by omega) (by omega) (by omega)]; rfl
    have d2 : ∀ c, sBin .quo c (.int .i64 (((n + 1) * n * (n - 1) : Nat) : Int)) (.int .i64 6) = some (.int .i64 (((n + 1) * n * (n - 1) / 6 : Nat) : Int)) := fun c => by rw [sBin_quo (by omega) (by omega) (by omega)]; rfl
    generalize hA : (((n * n : Nat)) : Int) = A at m1 d1
    generalize hB : (((n + 1) * n : Nat) : Int) = B at m2 m3
    generalize hC : (((n + 1) * n * (n - 1) : Nat) : Int) = C at m3 d2
    have bA : 0 ≤ A ∧ A ≤ 64 := by omega
    have bB : 0 ≤ B ∧ B ≤ 72 := by omega
    have bC : 0 ≤ C ∧ C ≤ 504 := by omega
    have z1 : IntKind.wrap .i64 A = A := wrap_i64 (by omega) (by omega)
    have z2 : IntKind.wrap .i64 B = B := wrap_i64 (by omega) (by omega)
    have z3 : IntKind.wrap .i64 C = C := wrap_i64 (by omega) (by omega)
    simp (disch := first|(simp only [Nat.reduceBEq,wE];done)|((repeat' (first|assumption|exact mAx _|refine mBx ?_ ?_|exact mCx (by assumption)|refine mDx ?_|refine mEx ?_ ?_ ?_|exact mFx|refine mGx ?_ ?_ ?_|exact mHx|exact mIx _|(simp only [wM,Nat.reduceAdd,Nat.reduceLT,Nat.reduceLeDiff];done)));done)|omega|decide) only [e, callT e3, ix, idx?_lit0, idx?_lit1, j2, ld0, ld1, ld2, m1, m2, m3, z1, z2, z3, d1, d2, callT (f20 h3 k3), ↓wA,wB,wL,resOf,Nat.reduceBEq,Int.reduceBEq,Int.reduceBNe,Int.reduceLT,Int.reduceLE,Int.reduceAdd,Int.reduceSub,Int.reduceMul,Int.reduceToNat]
    exact ⟨_, rfl, rfl⟩
end Go.Proofs.Ytihadgkgogfhcaa
