/- PatchBack: a disconnection gives the same middle switch back, and the connection can be made again with it. -/
import Derived.Test.YtpfkmdbdafpadaaDoorDZ
import Derived.Test.YtpfkmdbdafpadaaDoorPK
import Derived.Test.YtpfkmdbdafpadaaDoorFPatchBack
set_option linter.unusedSimpArgs false
set_option linter.unusedVariables false
set_option maxHeartbeats 4000000
set_option maxRecDepth 20000
namespace Go.Abs
theorem sBS_p3 {h : Hp} {a b c d e f : Int} : sBS [.int .i64 0, .int .i64 0] 3 2 h [(0, .ag [.int .i64 a, .int .i64 b]), (1, .ag [.int .i64 c, .int .i64 d]), (2, .ag [.int .i64 e, .int .i64 f])] =
    some (.sl h.next 0 3 (some 3) 2, h.pu (pairs [(a, b), (c, d), (e, f)])) := (Eq.refl _).trans rfl
end Go.Abs
namespace Go.Pa
open Go Go.Abs
theorem serve_back {n m : Nat} {b : Bd} {p : Int × Int} (hl : b.2.length = b.1.length) (hp : p.2 ≠ -1) :
    (stepC n m b p).1 < 0 ∨ ((stepC n m (stepC n m b p).2 (p.1, -1)).1 = (stepC n m b p).1 ∧ (stepC n m (stepC n m (stepC n m b p).2 (p.1, -1)).2 p).1 = (stepC n m b p).1) := by
  by_cases ea : b.1.any (fun c => decide (c.1 = p.1) || decide (c.2 = p.2)) = true
  · left
    simp only [stepC, if_neg hp, if_pos ea]
    omega
  · cases hle : least (b.1.map (eOf n)) b.2 (eOf n p) m with
    | none =>
      left
      simp only [stepC, if_neg hp, if_neg ea, hle]
      omega
    | some k =>
      right
      have s1 : stepC n m b p = ((k : Int), (b.1 ++ [p], b.2 ++ [(k : Int)])) := by simp only [stepC, if_neg hp, if_neg ea, hle]
      have hn : ∀ c ∈ b.1, ¬ c.1 = p.1 := fun c hc e => ea (List.any_eq_true.2 ⟨c, hc, by simp [e]⟩)
      have fi : (b.1 ++ [p]).findIdx? (fun c => decide (c.1 = p.1)) = some b.1.length := by
        rw [List.findIdx?_eq_some_iff_getElem]
        refine ⟨by simp, by simp, fun j hj => ?_⟩
        have := hn _ (List.getElem_mem hj)
        rw [List.getElem_append_left hj]
        simp [this]
      have s2 : stepC n m (b.1 ++ [p], b.2 ++ [(k : Int)]) (p.1, -1) = ((k : Int), b) := by
        simp only [stepC, if_true, fi]
        refine Prod.ext ?_ (Prod.ext ?_ ?_)
        · simp only [cl, List.getD_eq_getElem?_getD, ← hl]
          simp
        · simp only
          rw [List.eraseIdx_append_of_length_le (Nat.le_refl _)]
          simp
        · simp only
          rw [← hl, List.eraseIdx_append_of_length_le (Nat.le_refl _)]
          simp
      rw [s1]
      simp only
      rw [s2]
      exact ⟨rfl, by simp only [s1]⟩
/- Requests out of pairs of bytes. -/
def mkR (w : Nat) (p : Int × Int) : Int × Int := (p.1 % (w : Int), p.2 % ((w : Int) + 1) - 1)
theorem mkR_in {w : Nat} (hw : 0 < w) {l : List (Int × Int)} : ReqIn w (l.map (mkR w)) := fun p hp => by
  obtain ⟨q, _, rfl⟩ := List.mem_map.1 hp
  have h1 := Int.emod_nonneg q.1 (show (w : Int) ≠ 0 by omega)
  have h2 := Int.emod_lt_of_pos q.1 (show (0 : Int) < w by omega)
  have h3 := Int.emod_nonneg q.2 (show (w : Int) + 1 ≠ 0 by omega)
  have h4 := Int.emod_lt_of_pos q.2 (show (0 : Int) < (w : Int) + 1 by omega)
  simp only [mkR]
  omega
end Go.Pa
namespace Go.Proofs.YtpfkmdbdafpadaaDoor
open Go Go.Abs Go.Pa

theorem f5 (x y z : Int) (a : AV) (l : List (Int × Int)) (y0 y1 : Int) (h : Hp) (hk : Hok h) (bx : 0 ≤ x ∧ x ≤ 255) (by' : 0 ≤ y ∧ y ≤ 255) (bz : 0 ≤ z ∧ z ≤ 255)
    (ha : Pairs8 h.blks a l) (Ba : ∀ p ∈ l, 0 ≤ p.1 ∧ p.1 ≤ 255 ∧ 0 ≤ p.2 ∧ p.2 ≤ 255) (Sa : l.length ≤ maxLen) (b0 : 0 ≤ y0 ∧ y0 ≤ 255) (b1 : 0 ≤ y1 ∧ y1 ≤ 255) :
    ∃ h', Evals Tryd.prog tab false (.func 5) [.ag [.int .u8 x, .int .u8 y, .int .u8 z], a, .ag [.int .u8 y0, .int .u8 y1]] h (.bool true, h') := by
  have Sa' : l.length < 2 ^ 63 := by have : maxLen = 2 ^ 63 - 1 := rfl; omega
  obtain ⟨x, rfl⟩ : ∃ t : Nat, x = t := ⟨x.toNat, by omega⟩
  obtain ⟨y, rfl⟩ : ∃ t : Nat, y = t := ⟨y.toNat, by omega⟩
  obtain ⟨z, rfl⟩ : ∃ t : Nat, z = t := ⟨z.toNat, by omega⟩
  suffices H : ∃ v h', Evals Tryd.prog tab false (.func 5) [.ag [.int .u8 x, .int .u8 y, .int .u8 z], a, .ag [.int .u8 y0, .int .u8 y1]] h (v, h') ∧ v = .bool true by
    obtain ⟨v, h', e, rfl⟩ := H
    exact ⟨h', e⟩
  refine evals_func (Q := fun v _ => v = .bool true) c5 rfl ?_
  simp only [sf5, initS_cons, initS_nil]
  obtain ⟨h1, eh1⟩ : ∃ h1 : Hp, h1 = (h.en.pu [.int .u8 x, .int .u8 y, .int .u8 z]).pu [.int .u8 y0, .int .u8 y1] := ⟨_, rfl⟩
  have g1 : Grown h h1 := by rw [eh1]; exact Grown.pu (Grown.pu Grown.en rfl) rfl
  have k1 := g1.ok hk
  have a1 : aggB h1.blks h.next 0 3 = some (.ag [.int .u8 x, .int .u8 y, .int .u8 z]) := by rw [eh1]; rw [aggB_miss (by simp)]; exact aggB_hit
  have bxz : Box h1.blks (h.next + 1) [.int .u8 y0, .int .u8 y1] := by rw [eh1]; exact Box.top
  have x1 : sBox (h.en.pu [.int .u8 x, .int .u8 y, .int .u8 z]) (.ag [.int .u8 y0, .int .u8 y1]) = some (.ptr (h.next + 1) 0, h1) := by rw [eh1]; rfl
  clear eh1
  have N := f12 x y z h1 k1 (by omega) (by omega) (by omega)
  obtain ⟨n0, n1, r0, r1, hw⟩ := net_ok x y
  obtain ⟨m0, m1, _⟩ := net_ok z 0
  generalize netN x = n at *
  generalize netR x y = r at *
  generalize netN z = m at *
  have hc : Clos n r m := clos_of n0 n1 r0 r1 hw m0 m1
  have w0 : 0 < n * r := Nat.mul_pos n0 r0
  have e : (n : Int) * (r : Int) = ((n * r : Nat) : Int) := by simp
  obtain ⟨w, ew⟩ : ∃ w, w = n * r := ⟨_, rfl⟩
  rw [← ew] at e w0 hw
  have O : OwnP h1.next (h1.pu []).blks (.sl h1.next 0 0 (some 0) 2) [] := OwnP.fresh (Nat.le_refl _) rfl rfl rfl (Nat.le_refl _)
  rw [wseq, wseq, wseq]
  refine wcut (fun ss => ∃ (q : AV) (L : List (Int × Int)) (h2 : Hp) (u0 u1 u2 u3 u6 u11 u12 u13 u14 u15 u30 u105 : AV), (Grown h1 h2 ∧ OwnP h1.next h2.blks q L ∧ ReqIn w L ∧ L.length ≤ 90) ∧ ss = { fr := [(0, u0), (1, u1), (2, u2), (3, u3), (5, .ptr (h.next + 1) 0), (6, u6), (7, .int .i64 n), (8, .int .i64 r), (9, .int .i64 m), (10, q), (11, u11), (12, u12), (13, u13), (14, u14), (15, u15), (30, u30), (105, u105)], hp := h2 }) ?_ ?_
  · simp (disch := first|(simp only [Nat.reduceBEq,wE];done)|((repeat' (first|assumption|exact mAx _|refine mBx ?_ ?_|exact mCx (by assumption)|refine mDx ?_|refine mEx ?_ ?_ ?_|exact mFx|refine mGx ?_ ?_ ?_|exact mHx|exact mIx _|(simp only [wM,Nat.reduceAdd,Nat.reduceLT,Nat.reduceLeDiff];done)));done)|omega|decide) only [x1, a1, callT N, ↓wA,wB,wL,resOf,Nat.reduceBEq,Int.reduceBEq,Int.reduceBNe,Int.reduceLT,Int.reduceLE,Int.reduceAdd,Int.reduceSub,Int.reduceMul,Int.reduceToNat]
    refine wloop (fun mm ss => ∃ (i : Nat) (q : AV) (h2 : Hp) (u0 u2 u3 u6 u12 u13 u14 u15 u30 u105 : AV), (mm = 90 - i) ∧ (i ≤ 90 ∧ i ≤ l.length ∧ Grown h1 h2 ∧ OwnP h1.next h2.blks q ((l.take i).map (mkR w))) ∧ ss = { fr := [(0, u0), (1, a), (2, u2), (3, u3), (5, .ptr (h.next + 1) 0), (6, u6), (7, .int .i64 n), (8, .int .i64 r), (9, .int .i64 m), (10, q), (11, .int .i64 i), (12, u12), (13, u13), (14, u14), (15, u15), (30, u30), (105, u105)], hp := h2 }) (90) ?_ ?_
    ·
      refine ⟨0, _, _, _, _, _, _, _, _, _, _, _, _, by omega, ⟨by omega, by omega, Grown.pu Grown.refl rfl, by simpa using O⟩, rfl⟩
    rintro nA sA ⟨i, q, h2, u0, u2, u3, u6, u12, u13, u14, u15, u30, u105, hnA, ⟨hi, hi2, g2, o2⟩, rfl⟩
    have k2 := g2.ok k1
    have g02 := GrownR.trans g1 g2
    have a2 := ha.sub (g02.sub hk)
    by_cases c : i < l.length
    · have c1 : decide ((i : Int) < (l.length : Int)) = true := decide_eq_true (by omega)
      by_cases c2 : i < 90
      · have c2t : decide ((i : Int) < 90) = true := decide_eq_true (by omega)
        have ge : l.getD i (0, 0) = l[i] := by simp [List.getD_eq_getElem?_getD, List.getElem?_eq_getElem c]
        have bd := Ba _ (List.getElem_mem c)
        rw [← ge] at bd
        have wa : IntKind.wrap .i64 (l.getD i (0, 0)).1 = (l.getD i (0, 0)).1 := wrap_i64 (by omega) (by omega)
        have wb : IntKind.wrap .i64 (l.getD i (0, 0)).2 = (l.getD i (0, 0)).2 := wrap_i64 (by omega) (by omega)
        have ra : ∀ c, sBin .rem c (.int .i64 (l.getD i (0, 0)).1) (.int .i64 (w : Int)) = some (.int .i64 ((l.getD i (0, 0)).1 % (w : Int))) := fun c => sBin_rem bd.1 (by omega)
        have rb : ∀ c, sBin .rem c (.int .i64 (l.getD i (0, 0)).2) (.int .i64 ((w : Int) + 1)) = some (.int .i64 ((l.getD i (0, 0)).2 % ((w : Int) + 1))) := fun c => sBin_rem bd.2.2.1 (by omega)
        have m4 := Int.emod_nonneg (l.getD i (0, 0)).2 (show (w : Int) + 1 ≠ 0 by omega)
        have m5 := Int.emod_lt_of_pos (l.getD i (0, 0)).2 (show (0 : Int) < (w : Int) + 1 by omega)
        have jx0 : ∀ h', sIxA 2 1 h' (some 0) (cellAt a i) = some (cellF a i 0, h') := fun h' => a2.ixA h' c (by omega)
        have jx1 : ∀ h', sIxA 2 1 h' (some 1) (cellAt a i) = some (cellF a i 1, h') := fun h' => a2.ixA h' c (by omega)
        obtain ⟨s5, h5, v1, v2, v3, v4⟩ := own_appP1 (a := (mkR w (l.getD i (0, 0))).1) (b := (mkR w (l.getD i (0, 0))).2) k1 g2 o2 (by simp; omega)
        simp only [mkR] at v1
        simp (disch := first|(simp only [Nat.reduceBEq,wE];done)|((repeat' (first|assumption|exact mAx _|refine mBx ?_ ?_|exact mCx (by assumption)|refine mDx ?_|refine mEx ?_ ?_ ?_|exact mFx|refine mGx ?_ ?_ ?_|exact mHx|exact mIx _|(simp only [wM,Nat.reduceAdd,Nat.reduceLT,Nat.reduceLeDiff];done)));done)|omega|decide) only [a2.len, c1, c2t, a2.ix, jx0, jx1, idx?_lit0, idx?_lit1, a2.ld0, a2.ld1, wa, wb, e, ra, rb, v1, ↓wA,wB,wL,resOf,Nat.reduceBEq,Int.reduceBEq,Int.reduceBNe,Int.reduceLT,Int.reduceLE,Int.reduceAdd,Int.reduceSub,Int.reduceMul,Int.reduceToNat]
        refine ⟨_, ?_, i + 1, s5, h5, _, _, _, _, _, _, _, _, _, _, rfl, ?_, rfl⟩
        · omega
        refine ⟨by omega, by omega, v3, ?_⟩
        rw [List.take_succ_eq_append_getElem c, List.map_append, ← ge]
        exact v2
      · have c2t : decide ((i : Int) < 90) = false := decide_eq_false (by omega)
        simp (disch := first|(simp only [Nat.reduceBEq,wE];done)|((repeat' (first|assumption|exact mAx _|refine mBx ?_ ?_|exact mCx (by assumption)|refine mDx ?_|refine mEx ?_ ?_ ?_|exact mFx|refine mGx ?_ ?_ ?_|exact mHx|exact mIx _|(simp only [wM,Nat.reduceAdd,Nat.reduceLT,Nat.reduceLeDiff];done)));done)|omega|decide) only [a2.len, c1, c2t, cutEx_n, ↓wA,wB,wL,resOf,Nat.reduceBEq,Int.reduceBEq,Int.reduceBNe,Int.reduceLT,Int.reduceLE,Int.reduceAdd,Int.reduceSub,Int.reduceMul,Int.reduceToNat]
        exact ⟨q, _, h2, _, _, _, _, _, _, _, _, _, _, _, _, ⟨g2, o2, mkR_in w0, by simp; omega⟩, rfl⟩
    · have c1 : decide ((i : Int) < (l.length : Int)) = false := decide_eq_false (by omega)
      simp (disch := first|(simp only [Nat.reduceBEq,wE];done)|((repeat' (first|assumption|exact mAx _|refine mBx ?_ ?_|exact mCx (by assumption)|refine mDx ?_|refine mEx ?_ ?_ ?_|exact mFx|refine mGx ?_ ?_ ?_|exact mHx|exact mIx _|(simp only [wM,Nat.reduceAdd,Nat.reduceLT,Nat.reduceLeDiff];done)));done)|omega|decide) only [a2.len, c1, cutEx_n, ↓wA,wB,wL,resOf,Nat.reduceBEq,Int.reduceBEq,Int.reduceBNe,Int.reduceLT,Int.reduceLE,Int.reduceAdd,Int.reduceSub,Int.reduceMul,Int.reduceToNat]
      exact ⟨q, _, h2, _, _, _, _, _, _, _, _, _, _, _, _, ⟨g2, o2, mkR_in w0, by simp; omega⟩, rfl⟩
  rintro sK0 ⟨q, L, h2, u0, u1, u2, u3, u6, u11, u12, u13, u14, u15, u30, u105, ⟨g2, o2, hL, ll⟩, rfl⟩
  have k2 := g2.ok k1
  -- behind the loop
  have rest : ∀ (L : List (Int × Int)), ReqIn w L → L.length ≤ 90 → OwnP h1.next h2.blks q L → ∃ (s4 t : AV) (h3 h4 h5 : Hp) (zz : Int × Int),
      zz = (y0 % (w : Int), y1 % (w : Int)) ∧ h3 = h2.pu [.int .i64 zz.1, .int .i64 zz.2] ∧ sApp true 2 (h3.pu (pairs [(zz.1, zz.2), (zz.1, -1), (zz.1, zz.2)])) q (.sl h3.next 0 3 (some 3) 2) = some (s4, h4) ∧ (∀ h', sLen h' s4 = some (.int .i64 ((L.length + 3 : Nat) : Int), h')) ∧
        Evals Tryd.prog tab false (.func 6) [.int .i64 n, .int .i64 r, .int .i64 m, s4] h4 (.tu [t, .int .i64 0], h5) ∧ Hok h5 ∧ (∀ h', sLen h' t = some (.int .i64 ((L.length + 3 : Nat) : Int), h')) ∧
        ∃ z1 z2 z3 : Int, (∀ h', sIxS 1 h' (some L.length) t = some (cellAt t L.length, h')) ∧ (∀ h', sIxS 1 h' (some (L.length + 1)) t = some (cellAt t (L.length + 1), h')) ∧ (∀ h', sIxS 1 h' (some (L.length + 2)) t = some (cellAt t (L.length + 2), h')) ∧
          cellV h5.blks t L.length 0 = some (.int .i64 z1) ∧ cellV h5.blks t (L.length + 1) 0 = some (.int .i64 z2) ∧ cellV h5.blks t (L.length + 2) 0 = some (.int .i64 z3) ∧ (z1 < 0 ∨ (z2 = z1 ∧ z3 = z1)) := fun L hL ll oL => by
    obtain ⟨zz, ez⟩ : ∃ zz : Int × Int, zz = (y0 % (w : Int), y1 % (w : Int)) := ⟨_, rfl⟩
    have hz : 0 ≤ zz.1 ∧ zz.1 < w ∧ 0 ≤ zz.2 ∧ zz.2 < w := by
      rw [ez]
      exact ⟨Int.emod_nonneg _ (by omega), Int.emod_lt_of_pos _ (by omega), Int.emod_nonneg _ (by omega), Int.emod_lt_of_pos _ (by omega)⟩
    obtain ⟨h3, eh3⟩ : ∃ h3 : Hp, h3 = h2.pu [.int .i64 zz.1, .int .i64 zz.2] := ⟨_, rfl⟩
    have g3 : Grown h1 h3 := by rw [eh3]; exact Grown.pu g2 rfl
    have s23 : Sub h2.blks h3.blks := by rw [eh3]; exact Sub.pu k2
    have k3 := g3.ok k1
    have gp : Grown h1 (h3.pu (pairs [(zz.1, zz.2), (zz.1, -1), (zz.1, zz.2)])) := Grown.pu g3 refsOK_pairs
    have hx : Pairs (h3.pu (pairs [(zz.1, zz.2), (zz.1, -1), (zz.1, zz.2)])).blks (.sl h3.next 0 3 (some 3) 2) [(zz.1, zz.2), (zz.1, -1), (zz.1, zz.2)] := Pairs.top (w := true) rfl (Nat.le_refl 3)
    obtain ⟨s4, h4, e4, o4, g4, _⟩ := own_appP (h0 := h1) (h := h3.pu (pairs [(zz.1, zz.2), (zz.1, -1), (zz.1, zz.2)])) k1 gp ((oL.sub s23).sub (Sub.pu k3)) hx (by simp; omega)
    have k4 := g4.ok k1
    have hin : ReqIn w (L ++ [(zz.1, zz.2), (zz.1, -1), (zz.1, zz.2)]) := fun p hp => by
      rcases List.mem_append.1 hp with hp | hp
      · exact hL p hp
      · simp only [List.mem_cons, List.not_mem_nil, or_false] at hp
        rcases hp with rfl | rfl | rfl <;> (simp only; omega)
    have lL : (L ++ [(zz.1, zz.2), (zz.1, -1), (zz.1, zz.2)]).length = L.length + 3 := by simp
    rw [ew] at hin hw
    obtain ⟨v, h5, e5, g5, t, rfl, o5⟩ := Serve_ok n r m s4 _ h4 k4 o4.pairs (by rw [lL]; omega) hc ⟨n0, n1⟩ hw m1 r1 hin
    have I : Inv n (n * r) m (runB n m ([], []) L) := Inv.run Inv.nil fun q hq => by
      have := hL q hq
      rw [ew] at this
      exact this
    have bk := serve_back (n := n) (m := m) (b := runB n m ([], []) L) (p := (zz.1, zz.2)) I.len (by simp only; omega)
    have sv : serveC n m ([], []) (L ++ [(zz.1, zz.2), (zz.1, -1), (zz.1, zz.2)]) = serveC n m ([], []) L ++ [(stepC n m (runB n m ([], []) L) (zz.1, zz.2)).1, (stepC n m (stepC n m (runB n m ([], []) L) (zz.1, zz.2)).2 (zz.1, -1)).1, (stepC n m (stepC n m (stepC n m (runB n m ([], []) L) (zz.1, zz.2)).2 (zz.1, -1)).2 (zz.1, zz.2)).1] := by
      rw [serveC_app]; rfl
    have sl : (serveC n m ([], []) L).length = L.length := serveC_len
    have svl : (serveC n m ([], []) (L ++ [(zz.1, zz.2), (zz.1, -1), (zz.1, zz.2)])).length = L.length + 3 := by rw [serveC_len, lL]
    have it := o5.ints
    have lt := it.len
    rw [svl] at lt
    have l4 := o4.pairs.len
    rw [lL] at l4
    refine ⟨s4, t, h3, h4, h5, zz, ez, eh3, e4, l4, e5, g5.ok k4, lt, _, _, _, fun h' => it.ix h' (by omega), fun h' => it.ix h' (by omega), fun h' => it.ix h' (by omega), ?_, ?_, ?_, bk⟩
    · rw [it.ld (Sub.refl _) (by omega), sv, ← sl]
      simp [List.getD_eq_getElem?_getD]
    · rw [it.ld (Sub.refl _) (by omega), sv, ← sl]
      simp [List.getD_eq_getElem?_getD]
    · rw [it.ld (Sub.refl _) (by omega), sv, ← sl]
      simp [List.getD_eq_getElem?_getD]
  have b2 := bxz.sub (g2.sub k1)
  have lt2 : h.next + 1 < h2.next := by
    obtain ⟨c, ww, hb⟩ := b2
    exact (k2.get hb).1
  have w0' : IntKind.wrap .i64 y0 = y0 := wrap_i64 (by omega) (by omega)
  have w1' : IntKind.wrap .i64 y1 = y1 := wrap_i64 (by omega) (by omega)
  have q0 : ∀ c, sBin .rem c (.int .i64 y0) (.int .i64 (w : Int)) = some (.int .i64 (y0 % (w : Int))) := fun c => sBin_rem b0.1 (by omega)
  have q1 : ∀ c, sBin .rem c (.int .i64 y1) (.int .i64 (w : Int)) = some (.int .i64 (y1 % (w : Int))) := fun c => sBin_rem b1.1 (by omega)
  have ix0 : ∀ h' : Hp, sIxA 2 1 h' (some 0) (.ptr (h.next + 1) 0) = some (.ptr (h.next + 1) 0, h') := fun h' => sIxA_ptr (by omega)
  have ix1 : ∀ h' : Hp, sIxA 2 1 h' (some 1) (.ptr (h.next + 1) 0) = some (.ptr (h.next + 1) 1, h') := fun h' => sIxA_ptr (by omega)
  have y0l : ∀ {bs : List (Nat × Blk)}, Sub h2.blks bs → cellB bs (h.next + 1) 0 = some (.int .u8 y0) := fun s => b2.ld s
  have y1l : ∀ {bs : List (Nat × Blk)}, Sub h2.blks bs → cellB bs (h.next + 1) 1 = some (.int .u8 y1) := fun s => b2.ld s
  have fin : ∀ (L : List (Int × Int)), ReqIn w L → L.length ≤ 90 → OwnP h1.next h2.blks q L → ∃ (k : Nat) (s4 t : AV) (h3 h4 h5 : Hp) (u1 u2 : Int) (z1 z2 z3 : Int), y0 % (w : Int) = u1 ∧ y1 % (w : Int) = u2 ∧
      sStore 2 { next := h2.next + 1, blks := (h2.next, { cells := [.int .i64 0, .int .i64 0], ch := h2.next, wr := true }) :: h2.blks, loops := h2.loops, base := h2.base, esc := h2.esc } (.ag [.int .i64 u1, .int .i64 u2]) (.ptr h2.next 0) = some (.any, h3) ∧ Sub h2.blks h3.blks ∧
      aggB h3.blks h2.next 0 2 = some (.ag [.int .i64 u1, .int .i64 u2]) ∧ cellB h3.blks h2.next 0 = some (.int .i64 u1) ∧
      sBS [.int .i64 0, .int .i64 0] 3 2 h3 [(0, .ag [.int .i64 u1, .int .i64 u2]), (1, .ag [.int .i64 u1, .int .i64 (-1)]), (2, .ag [.int .i64 u1, .int .i64 u2])] = some (.sl h3.next 0 3 (some 3) 2, h3.pu (pairs [(u1, u2), (u1, -1), (u1, u2)])) ∧
      sApp true 2 (h3.pu (pairs [(u1, u2), (u1, -1), (u1, u2)])) q (.sl h3.next 0 3 (some 3) 2) = some (s4, h4) ∧ (∀ h', sLen h' s4 = some (.int .i64 ((k + 3 : Nat) : Int), h')) ∧
      Evals Tryd.prog tab false (.func 6) [.int .i64 n, .int .i64 r, .int .i64 m, s4] h4 (.tu [t, .int .i64 0], h5) ∧ Hok h5 ∧ (∀ h', sLen h' t = some (.int .i64 ((k + 3 : Nat) : Int), h')) ∧
      (∀ h', sIxS 1 h' (some k) t = some (cellAt t k, h')) ∧ (∀ h', sIxS 1 h' (some (k + 1)) t = some (cellAt t (k + 1), h')) ∧ (∀ h', sIxS 1 h' (some (k + 2)) t = some (cellAt t (k + 2), h')) ∧
      cellV h5.blks t k 0 = some (.int .i64 z1) ∧ cellV h5.blks t (k + 1) 0 = some (.int .i64 z2) ∧ cellV h5.blks t (k + 2) 0 = some (.int .i64 z3) ∧ (z1 < 0 ∨ (z2 = z1 ∧ z3 = z1)) ∧ k ≤ 90 := fun L hL ll oL => by
    obtain ⟨s4, t, h3, h4, h5, zz, ez, eh3, e4, l4, e5, k5, lt, z1, z2, z3, i1, i2, i3, d1, d2, d3, bk⟩ := rest L hL ll oL
    refine ⟨L.length, s4, t, h3, h4, h5, zz.1, zz.2, z1, z2, z3, by rw [ez], by rw [ez], ?_, ?_, ?_, ?_, sBS_p3, e4, l4, e5, k5, lt, i1, i2, i3, d1, d2, d3, bk, ll⟩
    · rw [eh3]; exact sStore_ag k2 rfl rfl rfl rfl
    · rw [eh3]; exact Sub.pu k2
    · rw [eh3]; exact aggB_hit
    · rw [eh3]; exact cellB_hit
  obtain ⟨k, s4, t, h3, h4, h5, u1, u2, z1, z2, z3, eu1, eu2, st, s23, la3, lc3, bs3, e4, l4, e5, k5, lt, i1, i2, i3, d1, d2, d3, bk, k90⟩ := fin L hL ll o2
  have ek : ((k + 3 : Nat) : Int) - 3 = (k : Int) := by omega
  have ek1 : (k : Int) + 1 = ((k + 1 : Nat) : Int) := by omega
  have ek2 : (k : Int) + 2 = ((k + 2 : Nat) : Int) := by omega
  have y0a := y0l (Sub.refl _)
  have y1a := y1l (Sub.refl _)
  have y0b := y0l s23
  have y1b := y1l s23
  clear rest fin
  by_cases bz1 : z1 < 0
  · have bt := decide_eq_true bz1
    simp (disch := first|(simp only [Nat.reduceBEq,wE];done)|((repeat' (first|assumption|exact mAx _|refine mBx ?_ ?_|exact mCx (by assumption)|refine mDx ?_|refine mEx ?_ ?_ ?_|exact mFx|refine mGx ?_ ?_ ?_|exact mHx|exact mIx _|(simp only [wM,Nat.reduceAdd,Nat.reduceLT,Nat.reduceLeDiff];done)));done)|omega|decide) only [ix0, ix1, idx?_lit0, idx?_lit1, y0a, y1a, y0b, y1b, w0', w1', e, q0, q1, eu1, eu2, st, la3, lc3, bs3, e4, callT e5, l4, lt, ek, callT (lives_ev _), i1, d1, bt, ↓wA,wB,wL,resOf,Nat.reduceBEq,Int.reduceBEq,Int.reduceBNe,Int.reduceLT,Int.reduceLE,Int.reduceAdd,Int.reduceSub,Int.reduceMul,Int.reduceToNat]
    exact ⟨_, rfl, rfl⟩
  · have bt := decide_eq_false bz1
    obtain ⟨e2, e3⟩ : z2 = z1 ∧ z3 = z1 := by
      rcases bk with bk | bk
      · exact absurd bk bz1
      · exact bk
    rw [e2] at d2
    rw [e3] at d3
    simp (disch := first|(simp only [Nat.reduceBEq,wE];done)|((repeat' (first|assumption|exact mAx _|refine mBx ?_ ?_|exact mCx (by assumption)|refine mDx ?_|refine mEx ?_ ?_ ?_|exact mFx|refine mGx ?_ ?_ ?_|exact mHx|exact mIx _|(simp only [wM,Nat.reduceAdd,Nat.reduceLT,Nat.reduceLeDiff];done)));done)|omega|decide) only [ix0, ix1, idx?_lit0, idx?_lit1, y0a, y1a, y0b, y1b, w0', w1', e, q0, q1, eu1, eu2, st, la3, lc3, bs3, e4, callT e5, l4, lt, ek, callT (lives_ev _), i1, d1, bt, ek1, i2, d2, ek2, i3, d3, ↓wA,wB,wL,resOf,Nat.reduceBEq,Int.reduceBEq,Int.reduceBNe,Int.reduceLT,Int.reduceLE,Int.reduceAdd,Int.reduceSub,Int.reduceMul,Int.reduceToNat]
    exact ⟨_, rfl, rfl⟩
end Go.Proofs.YtpfkmdbdafpadaaDoor
