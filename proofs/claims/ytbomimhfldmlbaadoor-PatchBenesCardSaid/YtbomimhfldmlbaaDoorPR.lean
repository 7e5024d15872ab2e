/- Benes networks: settings for a permutation. -/
import Derived.Test.YtbomimhfldmlbaaDoorPQ
set_option linter.unusedSimpArgs false
set_option linter.unusedVariables false
set_option maxHeartbeats 8000000
set_option maxRecDepth 20000
namespace Go.Abs
section
variable {C : Spec} {f : Nat → AV} {h : Hp} {K : AV → Hp → Prop}
theorem wpOp_cpy {n : Nat} {s x : SX} : wpOp C f h (.cpy n s x) K = andT (sCopy n h (sev f x) (sev f s)) K .mk := (Eq.refl _).trans rfl
end
/-- An array of numbers of a kind. -/
def ArrK (k : IntKind) (lim : Nat) (bs : List (Nat × Blk)) (id : Nat) (zs : List Int) : Prop := lkB bs id = some { cells := ints k zs, ch := id, wr := true } ∧ lim ≤ id
theorem ArrK.sub {k : IntKind} {lim : Nat} {bs bs' : List (Nat × Blk)} {id : Nat} {zs : List Int} (A : ArrK k lim bs id zs) (s : Sub bs bs') : ArrK k lim bs' id zs := ⟨s _ _ A.1, A.2⟩
theorem ArrK.own {k : IntKind} {lim : Nat} {bs : List (Nat × Blk)} {id n : Nat} {zs : List Int} (A : ArrK k lim bs id zs) (hn : zs.length = n) : Own lim bs k (.sl id 0 n (some n) 1) zs := by
  subst hn
  exact ⟨by simp [ints_len], .inr ⟨id, _, some zs.length, rfl, A.1, List.take_of_length_le (by simp [ints_len]), A.2, A.2, rfl, by simp [ints_len], Nat.le_refl _⟩⟩
theorem arrK_set {k : IntKind} {h0 h : Hp} {id i : Nat} {zs : List Int} {v : Int} (ho : Hok h0) (g : Grown h0 h) (A : ArrK k h0.next h.blks id zs) (hi : i < zs.length) :
    ∃ h', sStore 1 h (.int k v) (.ptr id i) = some (.any, h') ∧ ArrK k h0.next h'.blks id (zs.set i v) ∧ Grown h0 h' ∧ h'.next = h.next ∧ (∀ j d, j ≠ id → d.ch ≠ id → Abs.lkB h.blks j = some d → Abs.lkB h'.blks j = some d) := by
  obtain ⟨h', e, l1, o, k, n, ls, r⟩ := write_old (off := i) (vs := [.int k v]) (g.ok ho) g.blks (fun x hx => (ho.blk hx).1) A.1 A.2 A.2 rfl (by simp [ints_len]; omega) rfl rfl
  refine ⟨h', ?_, ⟨?_, A.2⟩, ⟨o, by rw [n]; exact g.next, fun _ => k, by rw [ls]; exact g.loops⟩, n, fun j d hj hd hl => r j d hj hl hd⟩
  · simp only [sStore, AV.parts, List.length_singleton, Nat.beq_refl, cond_true, e, Option.map_some]
  · rw [l1]
    congr 2
    simp only [splice, Abs.ints, List.length_singleton, ← List.map_take, ← List.map_drop]
    rw [List.set_eq_take_append_cons_drop, if_pos hi]
    simp
theorem arrK_cpy {k : IntKind} {h0 h : Hp} {id p len : Nat} {c : Option Nat} {Z W : List Int} {x : AV} (ho : Hok h0) (g : Grown h0 h) (A : ArrK k h0.next h.blks id Z) (hx : Ints h.blks k x W) (hl : W.length ≤ len) (hp : p + W.length ≤ Z.length) :
    ∃ h', sCopy 1 h x (.sl id p len c 1) = some (.int .i64 (W.length : Nat), h') ∧ ArrK k h0.next h'.blks id (Z.take p ++ W ++ Z.drop (p + W.length)) ∧ Grown h0 h' ∧ h'.next = h.next ∧ (∀ j d, j ≠ id → d.ch ≠ id → Abs.lkB h.blks j = some d → Abs.lkB h'.blks j = some d) := by
  obtain ⟨h', e, l1, o, kk, n, ls, r⟩ := write_old (off := p) (vs := Abs.ints k W) (g.ok ho) g.blks (fun x hx => (ho.blk hx).1) A.1 A.2 A.2 rfl (by simp [ints_len]; omega) all_cell_ints refsOK_ints
  have hsrc := Arr.src hx (by omega) h rfl
  have em : Nat.min W.length len = W.length := Nat.min_eq_left hl
  refine ⟨h', ?_, ⟨?_, A.2⟩, ⟨o, by rw [n]; exact g.next, fun _ => kk, by rw [ls]; exact g.loops⟩, n, fun j d hj hd hl => r j d hj hl hd⟩
  · simp only [sCopy, hsrc, em, Nat.mul_one, Nat.beq_refl, cond_true, List.take_of_length_le (show (Abs.ints k W).length ≤ W.length by rw [ints_len]; omega), e, Option.map_some]
  · rw [l1]
    simp only [splice, ints_len, ints_take]
    congr 2
    simp [Abs.ints, List.map_append, List.map_drop]
theorem sSlK {h : Hp} {id off len c l u off' len' c' : Nat} {lo hi : Option (Option Nat)} (el : bndV 0 lo = some l) (eu : bndV len hi = some u) (h1 : l ≤ u) (h2 : u ≤ c) (h3 : l < c) (e1 : off + l = off') (e2 : u - l = len') (e3 : c - l = c') :
    sSl 1 h lo hi (.sl id off len (some c) 1) = some (.sl id off' len' (some c') 1, h) := by
  subst e1 e2 e3
  have hb : (Nat.ble l u && Nat.beq 1 1) = true := by rw [Nat.ble_eq_true_of_le h1]; rfl
  have hc : Nat.beq c l = false := nb (by omega)
  simp only [sSl, el, eu, hb, cond_true, Nat.ble_eq_true_of_le h2, hc, cond_false, Nat.mul_one]
theorem lk4 {m : Nat} {a b c d : Blk} {bs : List (Nat × Blk)} : lkB ((m + 3, a) :: (m + 2, b) :: (m + 1, c) :: (m, d) :: bs) m = some d ∧ lkB ((m + 3, a) :: (m + 2, b) :: (m + 1, c) :: (m, d) :: bs) (m + 1) = some c ∧ lkB ((m + 3, a) :: (m + 2, b) :: (m + 1, c) :: (m, d) :: bs) (m + 2) = some b ∧ lkB ((m + 3, a) :: (m + 2, b) :: (m + 1, c) :: (m, d) :: bs) (m + 3) = some a := by
  refine ⟨?_, ?_, ?_, lkB_top⟩
  · simp only [lkB, nb (show m + 3 ≠ m by omega), nb (show m + 2 ≠ m by omega), nb (show m + 1 ≠ m by omega), cond_false, Nat.beq_refl, cond_true]
  · simp only [lkB, nb (show m + 3 ≠ m + 1 by omega), nb (show m + 2 ≠ m + 1 by omega), cond_false, Nat.beq_refl, cond_true]
  · simp only [lkB, nb (show m + 3 ≠ m + 2 by omega), cond_false, Nat.beq_refl, cond_true]
/-- The blocks of settings that are being made. -/
structure SB (m col : Nat) (bs : List (Nat × Blk)) (Z L0 L1 : List Int) : Prop where
  z : ArrK .u8 m bs m Z
  a : ArrK .i64 m bs (m + 1) L0
  b : ArrK .i64 m bs (m + 2) L1
  n : lkB bs (m + 3) = some { cells := [.sl (m + 1) 0 col (some col) 1, .sl (m + 2) 0 col (some col) 1], ch := m + 3, wr := true }
end Go.Abs
namespace Go.Proofs.YtbomimhfldmlbaaDoor
open Go Go.Abs Go.Pa

theorem f66 : ∀ (k : Nat) (P : List Nat) (a : AV) (h : Hp), 1 ≤ k → k ≤ 3 → IsPerm (2 ^ k) P → Ints h.blks .i64 a (ofN P) → Hok h →
    ∃ v h', Evals Tryd.prog tab false (.func 66) [.int .i64 k, a] h (v, h') ∧ Grown h h' ∧ ∃ S, IsSet k P S ∧ Own h.next h'.blks .u8 v (sB S) := by
  intro k
  induction k with
  | zero => intro P a h h1; omega
  | succ k IH =>
    intro P a h _ h3 hP ha hk
    refine evals_q c66 (fun v h' => ∃ S, IsSet (k + 1) P S ∧ Own h.next h'.blks .u8 v (sB S)) rfl hk ?_ (fun v h1 g q => by
      obtain ⟨S, s1, s2⟩ := q
      exact ⟨fun r => ⟨S, s1, s2.leave.1 r⟩, fun r => ⟨S, s1, s2⟩⟩)
    simp only [sf66, initS_cons, initS_nil]
    have lP := hP.len
    by_cases k0 : k = 0
    · subst k0
      have hP2 : IsPerm 2 P := hP
      have p0 := hP2.lt 0 (by omega)
      have lO : (ofN P).length = 2 := by rw [ofN_len]; exact lP
      have ld0 : (ofN P).getD 0 0 = ((nt P 0 : Nat) : Int) := ofN_nt
      have st : Evals Tryd.prog tab false (.func 85) [.int .i64 0, .int .i64 (nt P 0 : Nat)] h.en (.int .u8 ((48 + nt P 0 : Nat) : Int), h.en) := by
        have := f85 0 (nt P 0) h.en hk (by omega) p0
        rw [show (0 + nt P 0) % 2 = nt P 0 by omega] at this
        exact this
      simp (disch := first|(simp only [Nat.reduceBEq,wE];done)|((repeat' (first|assumption|exact mAx _|refine mBx ?_ ?_|exact mCx (by assumption)|refine mDx ?_|refine mEx ?_ ?_ ?_|exact mFx|refine mGx ?_ ?_ ?_|exact mHx|exact mIx _|(simp only [wM,Nat.reduceAdd,Nat.reduceLT,Nat.reduceLeDiff];done)));done)|omega|decide) only [show (((0 + 1 : Nat) : Int) == 1) = true from rfl, idx?_lit0, ha.ix, ha.ld, ld0, callT st, ↓wA,wB,wL,resOf,Nat.reduceBEq,Int.reduceBEq,Int.reduceBNe,Int.reduceLT,Int.reduceLE,Int.reduceAdd,Int.reduceSub,Int.reduceMul,Int.reduceToNat]
      refine ⟨_, rfl, Grown.pu Grown.en rfl, [nt P 0], base hP2, ?_⟩
      exact Own.fresh (Nat.le_refl _) rfl rfl rfl (Nat.le_refl _)
    · obtain ⟨j, rfl⟩ : ∃ j, k = j + 1 := ⟨k - 1, by omega⟩
      obtain ⟨K, eK⟩ : ∃ K, K = j + 1 + 1 := ⟨_, rfl⟩
      have eK1 : ((K : Int) == 1) = false := by simp; omega
      have kb : (K : Int) - 1 = ((j + 1 : Nat) : Int) := by omega
      have p8 := pow8 (show j + 1 ≤ 3 by omega)
      obtain ⟨col, ecol⟩ : ∃ c, c = 2 ^ (j + 1) := ⟨_, rfl⟩
      obtain ⟨n, en⟩ : ∃ n, n = swc (j + 1) := ⟨_, rfl⟩
      have wc : 2 ^ (j + 1 + 1) = 2 * col := by rw [ecol, Nat.pow_succ 2 (j + 1)]; omega
      have ST : swc (j + 1 + 1) = 2 * col + 2 * n := by rw [swc, ← en, ecol, Nat.pow_succ 2 (j + 1)]; omega
      have n20 : n ≤ 20 := by rw [en]; exact (swc_val (by omega)).2.1
      have n1 : 1 ≤ n := by rw [en]; exact (swc_val (by omega)).2.2
      have c1 : 1 ≤ col := by rw [ecol]; exact Nat.pow_pos (by omega)
      rw [← ecol] at p8
      have lO : (ofN P).length = 2 * col := by rw [ofN_len, lP, wc]
      have la : ∀ h' : Hp, sLen h' a = some (.int .i64 ((2 * col : Nat) : Int), h') := fun h' => by rw [ha.len, lO]
      have q0 : sBin .quo .no (.int .i64 ((2 * col : Nat) : Int)) (.int .i64 2) = some (.int .i64 (col : Int)) := by
        rw [sBin_quo (by omega) (by omega) (by omega)]
        congr 2; omega
      have SW1 := f67 (j + 1) h.en hk (by omega)
      rw [← en] at SW1
      have SW2 := f67 K h.en hk (by omega)
      rw [eK, ST, ← eK] at SW2
      obtain ⟨tot, etot⟩ : ∃ t, t = 2 * col + 2 * n := ⟨_, rfl⟩
      rw [← etot] at SW2
      obtain ⟨C0, eC0⟩ : ∃ C, C = repl [AV.int .u8 0] tot := ⟨_, rfl⟩
      obtain ⟨C1, eC1⟩ : ∃ C, C = repl [AV.int .i64 0] col := ⟨_, rfl⟩
      have mk0 := sMks_ok (h := h.en) (z := [.int .u8 0]) (n := 1) (l := tot) (c := tot) (Nat.le_refl _) (by omega)
      have mk1 := sMks_ok (h := h.en.pu C0) (z := [.int .i64 0]) (n := 1) (l := col) (c := col) (Nat.le_refl _) (by omega)
      have mk2 := sMks_ok (h := (h.en.pu C0).pu C1) (z := [.int .i64 0]) (n := 1) (l := col) (c := col) (Nat.le_refl _) (by omega)
      rw [← eC0] at mk0
      rw [← eC1] at mk1 mk2
      have r0 : C0 = Abs.ints .u8 (List.replicate tot 0) := by rw [eC0, repl_ints]
      have r1 : C1 = Abs.ints .i64 (List.replicate col 0) := by rw [eC1, repl_ints]
      have s1 : ∀ h' : Hp, sSl 1 h' none (some (some col)) (.sl h.next 0 tot (some tot) 1) = some (.sl h.next 0 col (some tot) 1, h') := fun h' => sSlK (l := 0) (u := col) rfl rfl (by omega) (by omega) (by omega) rfl rfl rfl
      have s2 : ∀ h' : Hp, sSl 1 h' (some (some col)) none (.sl h.next 0 tot (some tot) 1) = some (.sl h.next col (col + 2 * n) (some (col + 2 * n)) 1, h') := fun h' => sSlK (l := col) (u := tot) rfl rfl (by omega) (by omega) (by omega) (by omega) (by omega) (by omega)
      have d2 : 2 * (n : Int) = ((2 * n : Nat) : Int) := by omega
      have s3 : ∀ h' : Hp, sSl 1 h' (some (some (2 * n))) none (.sl h.next col (col + 2 * n) (some (col + 2 * n)) 1) = some (.sl h.next (col + 2 * n) col (some col) 1, h') := fun h' => sSlK (l := 2 * n) (u := col + 2 * n) rfl rfl (by omega) (by omega) (by omega) (by omega) (by omega) (by omega)
      have bA : sBuildA [.nilsl, .nilsl] 1 [(0, .sl (h.next + 1) 0 col (some col) 1), (1, .sl (h.next + 2) 0 col (some col) 1)] = some (.ag [.sl (h.next + 1) 0 col (some col) 1, .sl (h.next + 2) 0 col (some col) 1]) := sBuildA_2v rfl rfl
      have g0 : Grown h (((h.en.pu C0).pu C1).pu C1) := Grown.pu (Grown.pu (Grown.pu Grown.en (by rw [r0]; exact refsOK_ints)) (by rw [r1]; exact refsOK_ints)) (by rw [r1]; exact refsOK_ints)
      have k0' := g0.ok hk
      have sg := fun (m base : Nat) (esc : Bool) => sStore_agV (n := 2) (m := m) (i := h.next + 3) (base := base) (esc := esc) (cs := [.nilsl, .nilsl]) (vs := [.sl (h.next + 1) 0 col (some col) 1, .sl (h.next + 2) 0 col (some col) 1]) (bs := (((h.en.pu C0).pu C1).pu C1).blks) (ls := h.loops) k0' rfl rfl rfl
      rw [← eK]
      rw [wseq, wseq, wseq, wseq, wseq, wseq]
      refine wcut (fun ss => ∃ (h1 : Hp) (u4 u5 u12 u13 u14 u15 u16 u18 u50 u51 u52 u53 u86 u87 u88 : AV), (Grown h h1 ∧ SB h.next col h1.blks (List.replicate tot 0) (List.replicate col 0) (List.replicate col 0)) ∧ ss = { fr := [(0, .int .i64 K), (1, a), (4, u4), (5, u5), (6, .int .i64 n), (7, .sl h.next 0 tot (some tot) 1), (8, .sl h.next 0 col (some tot) 1), (9, .sl h.next col (col + 2 * n) (some (col + 2 * n)) 1), (10, .sl h.next (col + 2 * n) col (some col) 1), (11, .ptr (h.next + 3) 0), (12, u12), (13, u13), (14, u14), (15, u15), (16, u16), (18, u18), (50, u50), (51, u51), (52, u52), (53, u53), (86, u86), (87, u87), (88, u88)], hp := h1 }) ?_ ?_
      · simp (disch := first|(simp only [Nat.reduceBEq,wE];done)|((repeat' (first|assumption|exact mAx _|refine mBx ?_ ?_|exact mCx (by assumption)|refine mDx ?_|refine mEx ?_ ?_ ?_|exact mFx|refine mGx ?_ ?_ ?_|exact mHx|exact mIx _|(simp only [wM,Nat.reduceAdd,Nat.reduceLT,Nat.reduceLeDiff];done)));done)|omega|decide) only [eK1, la, q0, kb, callT SW1, callT SW2, mk0, s1, s2, d2, s3, mk1, mk2, bA, sg, cutEx_n, ↓wA,wB,wL,resOf,Nat.reduceBEq,Int.reduceBEq,Int.reduceBNe,Int.reduceLT,Int.reduceLE,Int.reduceAdd,Int.reduceSub,Int.reduceMul,Int.reduceToNat]
        refine ⟨_, _, _, _, _, _, _, _, _, _, _, _, _, _, _, _, ⟨?_, ?_⟩, rfl⟩
        · exact GrownR.push g0 (by simp only [refsOK_cons, refsOK_nil, refOK, Nat.blt_eq, Bool.and_true, Bool.and_eq_true]; omega) (by simp)
        · rw [r0, r1]
          exact ⟨⟨lk4.1, by omega⟩, ⟨lk4.2.1, by omega⟩, ⟨lk4.2.2.1, by omega⟩, lk4.2.2.2⟩
      rintro sA ⟨h1, u4, u5, u12, u13, u14, u15, u16, u18, u50, u51, u52, u53, u86, u87, u88, ⟨g1, B1⟩, rfl⟩
      have k1 := g1.ok hk
      have hn1 : h.next + 4 ≤ h1.next := by have := (k1.get B1.n).1; omega
      have a1 := ha.sub (g1.sub hk)
      obtain ⟨ys, y1, y2, y3, y4⟩ := route_ex (n := 2) (m := 2) (zs := ofN P) (by omega) hP.nodup (Nat.le_refl _)
      rw [lO] at y3
      have S := split_of (k := j + 1) hP y2 (by rw [y3, wc]) y4
      obtain ⟨z, ez⟩ : ∃ z : Nat → Nat, z = fun i => (ys.getD i 0).toNat := ⟨_, rfl⟩
      rw [← ez] at S
      have yz : ∀ i, i < 2 * col → ys.getD i 0 = ((z i : Nat) : Int) := fun i hi => by
        have := y4 (ys.getD i 0) (by rw [getD_at (by omega)]; exact List.getElem_mem _)
        rw [ez]
        simp only
        omega
      have bP : ∀ v ∈ ofN P, 0 ≤ v ∧ v ≤ 100000 := fun v hv => by
        obtain ⟨x, hx, rfl⟩ := List.mem_map.1 hv
        obtain ⟨i, hi, rfl⟩ := List.getElem_of_mem hx
        have := hP.lt i (by omega)
        rw [nt_eq hi] at this
        omega
      obtain ⟨v, h2, ev, g2, o2⟩ := f55 2 a (ofN P) h1 k1 (by omega) a1 (by omega) bP
      have k2 := g2.ok k1
      obtain ⟨t, h3', et, g3, o3⟩ := f56 v (edgs 2 (ofN P)) 2 h2 k2 o2.pairs (by rw [edgs_len]; omega) (by omega)
      have k3 := g3.ok k2
      have o3 := o3.hd
      rw [y1] at o3
      have ot := (o3.1).le (Nat.le_trans hn1 g2.next)
      have ev' : Evals Tryd.prog tab false (.func 55) [.int .i64 2, a] h1 (v, h2) := ev
      have et' : Evals Tryd.prog tab false (.func 56) [v, .int .i64 2] h2 (t, h3') := et
      have s13 : Sub h1.blks h3'.blks := (g2.sub k1).trans (g3.sub k2)
      have gx3 : Grown h h3' := GrownR.trans g1 (GrownR.trans g2 g3)
      have B3 : SB h.next col h3'.blks (List.replicate tot 0) (List.replicate col 0) (List.replicate col 0) := ⟨B1.z.sub s13, B1.a.sub s13, B1.b.sub s13, s13 _ _ B1.n⟩
      refine wcut (fun ss => ∃ (h4 : Hp) (Z : List Int) (L0 : List Int) (L1 : List Int) (u1 u4 u5 u8 u10 u12 u13 u14 u15 u16 u18 u50 u51 u52 u53 u86 u87 u88 : AV), (Grown h h4 ∧ SB h.next col h4.blks Z L0 L1 ∧ BI col n P z (2 * col) Z L0 L1) ∧ ss = { fr := [(0, .int .i64 K), (1, u1), (4, u4), (5, u5), (6, .int .i64 n), (7, .sl h.next 0 tot (some tot) 1), (8, u8), (9, .sl h.next col (col + 2 * n) (some (col + 2 * n)) 1), (10, u10), (11, .ptr (h.next + 3) 0), (12, u12), (13, u13), (14, u14), (15, u15), (16, u16), (18, u18), (50, u50), (51, u51), (52, u52), (53, u53), (86, u86), (87, u87), (88, u88)], hp := h4 }) ?_ ?_
      · simp (disch := first|(simp only [Nat.reduceBEq,wE];done)|((repeat' (first|assumption|exact mAx _|refine mBx ?_ ?_|exact mCx (by assumption)|refine mDx ?_|refine mEx ?_ ?_ ?_|exact mFx|refine mGx ?_ ?_ ?_|exact mHx|exact mIx _|(simp only [wM,Nat.reduceAdd,Nat.reduceLT,Nat.reduceLeDiff];done)));done)|omega|decide) only [callT ev', callT et', ot.len, y3, ↓wA,wB,wL,resOf,Nat.reduceBEq,Int.reduceBEq,Int.reduceBNe,Int.reduceLT,Int.reduceLE,Int.reduceAdd,Int.reduceSub,Int.reduceMul,Int.reduceToNat]
        refine wloop (fun mm ss => ∃ (i : Nat) (h4 : Hp) (Z : List Int) (L0 : List Int) (L1 : List Int) (u4 u5 u12 u13 u14 u15 u16 u18 u53 u86 u87 u88 : AV), (mm = 2 * col - i) ∧ (i ≤ 2 * col ∧ Grown h h4 ∧ SB h.next col h4.blks Z L0 L1 ∧ BI col n P z i Z L0 L1 ∧ Own (h.next + 4) h4.blks .i64 t ys) ∧ ss = { fr := [(0, .int .i64 K), (1, a), (4, u4), (5, u5), (6, .int .i64 n), (7, .sl h.next 0 tot (some tot) 1), (8, .sl h.next 0 col (some tot) 1), (9, .sl h.next col (col + 2 * n) (some (col + 2 * n)) 1), (10, .sl h.next (col + 2 * n) col (some col) 1), (11, .ptr (h.next + 3) 0), (12, u12), (13, u13), (14, u14), (15, u15), (16, u16), (18, u18), (50, t), (51, .int .i64 ((2 * col : Nat) : Int)), (52, .int .i64 i), (53, u53), (86, u86), (87, u87), (88, u88)], hp := h4 }) (2 * col) ?_ ?_
        ·
          refine ⟨0, h3', _, _, _, _, _, _, _, _, _, _, _, _, _, _, _, by omega, ⟨by omega, gx3, B3, BI.zero (by simp; omega) (by simp) (by simp), ot⟩, rfl⟩
        rintro nC sC ⟨i, h4, Z, L0, L1, u4, u5, u12, u13, u14, u15, u16, u18, u53, u86, u87, u88, hnC, ⟨hi, g4, B4, I4, o4⟩, rfl⟩
        have k4 := g4.ok hk
        have a4 := ha.sub (g4.sub hk)
        simp (disch := first|(simp only [Nat.reduceBEq,wE];done)|((repeat' (first|assumption|exact mAx _|refine mBx ?_ ?_|exact mCx (by assumption)|refine mDx ?_|refine mEx ?_ ?_ ?_|exact mFx|refine mGx ?_ ?_ ?_|exact mHx|exact mIx _|(simp only [wM,Nat.reduceAdd,Nat.reduceLT,Nat.reduceLeDiff];done)));done)|omega|decide) only [↓wA,wB,wL,resOf,Nat.reduceBEq,Int.reduceBEq,Int.reduceBNe,Int.reduceLT,Int.reduceLE,Int.reduceAdd,Int.reduceSub,Int.reduceMul,Int.reduceToNat]
        refine ifThen_intro (fun e => ?_) (fun e => ?_) <;> have eq := e <;> try simp [-List.getD_eq_getElem?_getD] at eq
        · have iw : i < 2 * col := by omega
          have p1 := hP.lt i (by rw [wc]; exact iw)
          rw [wc] at p1
          have z2 := S.bit i (by rw [wc]; exact iw)
          have ldz := yz i iw
          have ldp : (ofN P).getD i 0 = ((nt P i : Nat) : Int) := ofN_nt
          have st := I4.step (k := j + 1) hP S (by rw [wc]; exact iw) wc
          obtain ⟨p, ep⟩ : ∃ p, p = nt P i := ⟨_, rfl⟩
          obtain ⟨c, ec⟩ : ∃ c, c = z i := ⟨_, rfl⟩
          rw [← ep] at p1 ldp st
          rw [← ec] at z2 ldz st
          have lz := I4.lz
          have l0 := I4.l0
          have l1 := I4.l1
          have qi : sBin .quo .no (.int .i64 (i : Int)) (.int .i64 2) = some (.int .i64 ((i / 2 : Nat) : Int)) := by rw [sBin_quo (by omega) (by omega) (by omega)]; rfl
          have ri : sBin .rem .no (.int .i64 (i : Int)) (.int .i64 2) = some (.int .i64 ((i % 2 : Nat) : Int)) := by rw [sBin_rem (by omega) (by omega)]; rfl
          have qp : sBin .quo .no (.int .i64 (p : Int)) (.int .i64 2) = some (.int .i64 ((p / 2 : Nat) : Int)) := by rw [sBin_quo (by omega) (by omega) (by omega)]; rfl
          have rp : sBin .rem .no (.int .i64 (p : Int)) (.int .i64 2) = some (.int .i64 ((p % 2 : Nat) : Int)) := by rw [sBin_rem (by omega) (by omega)]; rfl
          obtain ⟨h5, e5, A5, g5, n5, r5⟩ := arrK_set (v := ((48 + (i % 2 + c) % 2 : Nat) : Int)) (i := i / 2) hk g4 B4.z (by omega)
          have k5 := g5.ok hk
          obtain ⟨h6, e6, A6, g6, n6, r6⟩ := arrK_set (v := ((48 + (c + p % 2) % 2 : Nat) : Int)) (i := col + 2 * n + p / 2) hk g5 A5 (by rw [List.length_set]; omega)
          have so1 := f85 (i % 2) c h4 k4 (by omega) z2
          have so2 := f85 c (p % 2) h5 k5 z2 (by omega)
          have m6 : ∀ j d, h.next + 1 ≤ j → h.next + 1 ≤ d.ch → Abs.lkB h4.blks j = some d → Abs.lkB h6.blks j = some d := fun j d h1 h2 hd => r6 j d (by omega) (by omega) (r5 j d (by omega) (by omega) hd)
          have L06 : ArrK .i64 h.next h6.blks (h.next + 1) L0 := ⟨m6 _ _ (by omega) (by simp) B4.a.1, B4.a.2⟩
          have L16 : ArrK .i64 h.next h6.blks (h.next + 2) L1 := ⟨m6 _ _ (by omega) (by simp) B4.b.1, B4.b.2⟩
          have N6 := m6 _ _ (by omega) (by simp) B4.n
          have o6 : Own (h.next + 4) h6.blks .i64 t ys := o4.keep' (fun i b h1 h2 hb => m6 i b (by omega) (by omega) hb) (Nat.le_refl _)
          have ix1 : sIxS 1 h4 (some (i / 2)) (.sl h.next 0 col (some tot) 1) = some (.ptr h.next (i / 2), h4) := by
            have := sIxS_sl (n := 1) (h := h4) (id := h.next) (off := 0) (len := col) (cap := some tot) (sz := 1) (show i / 2 < col by omega)
            simpa using this
          have ix2 : sIxS 1 h5 (some (p / 2)) (.sl h.next (col + 2 * n) col (some col) 1) = some (.ptr h.next (col + 2 * n + p / 2), h5) := by
            have := sIxS_sl (n := 1) (h := h5) (id := h.next) (off := col + 2 * n) (len := col) (cap := some col) (sz := 1) (show p / 2 < col by omega)
            simpa using this
          have ix3 : sIxA 2 1 h6 (some c) (.ptr (h.next + 3) 0) = some (.ptr (h.next + 3) c, h6) := by
            rw [sIxA_ptr z2]; simp
          have c01 : c = 0 ∨ c = 1 := by omega
          rcases c01 with hc | hc
          · obtain ⟨h7, e7, A7, g7, n7, r7⟩ := arrK_set (v := ((p / 2 : Nat) : Int)) (i := i / 2) hk g6 L06 (by omega)
            have ld4 : cellB h6.blks (h.next + 3) c = some (.sl (h.next + 1) 0 col (some col) 1) := by rw [hc]; simp [cellB, N6]
            have ix4 : sIxS 1 h6 (some (i / 2)) (.sl (h.next + 1) 0 col (some col) 1) = some (.ptr (h.next + 1) (i / 2), h6) := by
              have := sIxS_sl (n := 1) (h := h6) (id := h.next + 1) (off := 0) (len := col) (cap := some col) (sz := 1) (show i / 2 < col by omega)
              simpa using this
            rw [if_pos hc, if_pos hc] at st
            simp (disch := first|(simp only [Nat.reduceBEq,wE];done)|((repeat' (first|assumption|exact mAx _|refine mBx ?_ ?_|exact mCx (by assumption)|refine mDx ?_|refine mEx ?_ ?_ ?_|exact mFx|refine mGx ?_ ?_ ?_|exact mHx|exact mIx _|(simp only [wM,Nat.reduceAdd,Nat.reduceLT,Nat.reduceLeDiff];done)));done)|omega|decide) only [e, o4.ints.ix, o4.ints.ld, ldz, a4.ix, a4.ld, ldp, qi, ri, callT so1, ix1, e5, qp, rp, callT so2, ix2, e6, ix3, ld4, ix4, e7, ↓wA,wB,wL,resOf,Nat.reduceBEq,Int.reduceBEq,Int.reduceBNe,Int.reduceLT,Int.reduceLE,Int.reduceAdd,Int.reduceSub,Int.reduceMul,Int.reduceToNat]
            refine ⟨_, ?_, i + 1, h7, (Z.set (i / 2) ((48 + (i % 2 + c) % 2 : Nat) : Int)).set (col + 2 * n + p / 2) ((48 + (c + p % 2) % 2 : Nat) : Int), L0.set (i / 2) ((p / 2 : Nat) : Int), L1, _, _, _, _, _, _, _, _, _, _, _, _, rfl, ?_, rfl⟩
            · omega
            refine ⟨by omega, g7, ⟨?_, A7, ?_, r7 _ _ (by omega) (by simp) N6⟩, st, o6.keep' (fun i b h1 h2 hb => r7 i b (by omega) (by omega) hb) (Nat.le_refl _)⟩
            · exact ⟨r7 _ _ (by omega) (by simp) A6.1, A6.2⟩
            · exact ⟨r7 _ _ (by omega) (by simp) L16.1, L16.2⟩
          · obtain ⟨h7, e7, A7, g7, n7, r7⟩ := arrK_set (v := ((p / 2 : Nat) : Int)) (i := i / 2) hk g6 L16 (by omega)
            have ld4 : cellB h6.blks (h.next + 3) c = some (.sl (h.next + 2) 0 col (some col) 1) := by rw [hc]; simp [cellB, N6]
            have ix4 : sIxS 1 h6 (some (i / 2)) (.sl (h.next + 2) 0 col (some col) 1) = some (.ptr (h.next + 2) (i / 2), h6) := by
              have := sIxS_sl (n := 1) (h := h6) (id := h.next + 2) (off := 0) (len := col) (cap := some col) (sz := 1) (show i / 2 < col by omega)
              simpa using this
            rw [if_neg (show ¬ c = 0 by omega), if_neg (show ¬ c = 0 by omega)] at st
            simp (disch := first|(simp only [Nat.reduceBEq,wE];done)|((repeat' (first|assumption|exact mAx _|refine mBx ?_ ?_|exact mCx (by assumption)|refine mDx ?_|refine mEx ?_ ?_ ?_|exact mFx|refine mGx ?_ ?_ ?_|exact mHx|exact mIx _|(simp only [wM,Nat.reduceAdd,Nat.reduceLT,Nat.reduceLeDiff];done)));done)|omega|decide) only [e, o4.ints.ix, o4.ints.ld, ldz, a4.ix, a4.ld, ldp, qi, ri, callT so1, ix1, e5, qp, rp, callT so2, ix2, e6, ix3, ld4, ix4, e7, ↓wA,wB,wL,resOf,Nat.reduceBEq,Int.reduceBEq,Int.reduceBNe,Int.reduceLT,Int.reduceLE,Int.reduceAdd,Int.reduceSub,Int.reduceMul,Int.reduceToNat]
            refine ⟨_, ?_, i + 1, h7, (Z.set (i / 2) ((48 + (i % 2 + c) % 2 : Nat) : Int)).set (col + 2 * n + p / 2) ((48 + (c + p % 2) % 2 : Nat) : Int), L0, L1.set (i / 2) ((p / 2 : Nat) : Int), _, _, _, _, _, _, _, _, _, _, _, _, rfl, ?_, rfl⟩
            · omega
            refine ⟨by omega, g7, ⟨?_, ?_, A7, r7 _ _ (by omega) (by simp) N6⟩, st, o6.keep' (fun i b h1 h2 hb => r7 i b (by omega) (by omega) hb) (Nat.le_refl _)⟩
            · exact ⟨r7 _ _ (by omega) (by simp) A6.1, A6.2⟩
            · exact ⟨r7 _ _ (by omega) (by simp) L06.1, L06.2⟩
        · simp (disch := first|(simp only [Nat.reduceBEq,wE];done)|((repeat' (first|assumption|exact mAx _|refine mBx ?_ ?_|exact mCx (by assumption)|refine mDx ?_|refine mEx ?_ ?_ ?_|exact mFx|refine mGx ?_ ?_ ?_|exact mHx|exact mIx _|(simp only [wM,Nat.reduceAdd,Nat.reduceLT,Nat.reduceLeDiff];done)));done)|omega|decide) only [e, cutEx_n, ↓wA,wB,wL,resOf,Nat.reduceBEq,Int.reduceBEq,Int.reduceBNe,Int.reduceLT,Int.reduceLE,Int.reduceAdd,Int.reduceSub,Int.reduceMul,Int.reduceToNat]
          rw [show i = 2 * col by omega] at I4
          exact ⟨h4, Z, L0, L1, _, _, _, _, _, _, _, _, _, _, _, _, _, _, _, _, _, _, ⟨g4, B4, I4⟩, rfl⟩
      rintro sB ⟨h4, Z, L0, L1, u1, u4, u5, u8, u10, u12, u13, u14, u15, u16, u18, u50, u51, u52, u53, u86, u87, u88, ⟨g4, B4, I4⟩, rfl⟩
      have k4 := g4.ok hk
      rw [← wc] at I4
      obtain ⟨F, La, N0, N1, H, bF, bL, rfl, rfl, hF, hL⟩ := I4.done hP S ecol
      have lz := I4.lz
      have lN0 := H.l0
      have lN1 := H.l1
      have ld86 : aggB h4.blks (h.next + 3) 0 2 = some (.ag [.sl (h.next + 1) 0 col (some col) 1, .sl (h.next + 2) 0 col (some col) 1]) := by
        rw [Box.lda (show Box h4.blks (h.next + 3) _ from ⟨_, _, B4.n⟩) (Sub.refl _)]; rfl
      have D0 : CI col n (j + 1) F La N0 N1 0 Z := ⟨lz, hF, hL, fun h => absurd h (by omega), fun h => absurd h (by omega)⟩
      simp (disch := first|(simp only [Nat.reduceBEq,wE];done)|((repeat' (first|assumption|exact mAx _|refine mBx ?_ ?_|exact mCx (by assumption)|refine mDx ?_|refine mEx ?_ ?_ ?_|exact mFx|refine mGx ?_ ?_ ?_|exact mHx|exact mIx _|(simp only [wM,Nat.reduceAdd,Nat.reduceLT,Nat.reduceLeDiff];done)));done)|omega|decide) only [ld86, ↓wA,wB,wL,resOf,Nat.reduceBEq,Int.reduceBEq,Int.reduceBNe,Int.reduceLT,Int.reduceLE,Int.reduceAdd,Int.reduceSub,Int.reduceMul,Int.reduceToNat]
      refine wloop (fun mm ss => ∃ (i : Nat) (h5 : Hp) (Z : List Int) (u1 u4 u5 u8 u10 u11 u12 u13 u14 u15 u16 u18 u50 u51 u52 u53 u88 : AV), (mm = 2 - i) ∧ (i ≤ 2 ∧ Grown h h5 ∧ ArrK .u8 h.next h5.blks h.next Z ∧ ArrK .i64 h.next h5.blks (h.next + 1) (ofN N0) ∧ ArrK .i64 h.next h5.blks (h.next + 2) (ofN N1) ∧ CI col n (j + 1) F La N0 N1 i Z) ∧ ss = { fr := [(0, .int .i64 K), (1, u1), (4, u4), (5, u5), (6, .int .i64 n), (7, .sl h.next 0 tot (some tot) 1), (8, u8), (9, .sl h.next col (col + 2 * n) (some (col + 2 * n)) 1), (10, u10), (11, u11), (12, u12), (13, u13), (14, u14), (15, u15), (16, u16), (18, u18), (50, u50), (51, u51), (52, u52), (53, u53), (86, .ag [.sl (h.next + 1) 0 col (some col) 1, .sl (h.next + 2) 0 col (some col) 1]), (87, .int .i64 i), (88, u88)], hp := h5 }) (2) ?_ ?_
      ·
        refine ⟨0, h4, Z, _, _, _, _, _, _, _, _, _, _, _, _, _, _, _, _, _, by omega, ⟨by omega, g4, B4.z, B4.a, B4.b, D0⟩, rfl⟩
      rintro nE sE ⟨i, h5, Z, u1, u4, u5, u8, u10, u11, u12, u13, u14, u15, u16, u18, u50, u51, u52, u53, u88, hnE, ⟨hi, g5, Z5, A5, B5, D5⟩, rfl⟩
      have k5 := g5.ok hk
      simp (disch := first|(simp only [Nat.reduceBEq,wE];done)|((repeat' (first|assumption|exact mAx _|refine mBx ?_ ?_|exact mCx (by assumption)|refine mDx ?_|refine mEx ?_ ?_ ?_|exact mFx|refine mGx ?_ ?_ ?_|exact mHx|exact mIx _|(simp only [wM,Nat.reduceAdd,Nat.reduceLT,Nat.reduceLeDiff];done)));done)|omega|decide) only [↓wA,wB,wL,resOf,Nat.reduceBEq,Int.reduceBEq,Int.reduceBNe,Int.reduceLT,Int.reduceLE,Int.reduceAdd,Int.reduceSub,Int.reduceMul,Int.reduceToNat]
      refine ifThen_intro (fun e => ?_) (fun e => ?_) <;> have eq := e <;> try simp [-List.getD_eq_getElem?_getD] at eq
      · have i2 : i < 2 := by omega
        have lz5 := D5.lz
        have in1 : i * n ≤ 1 * n := Nat.mul_le_mul_right _ (by omega)
        obtain ⟨sx, esx, isx⟩ : ∃ sx, ([.sl (h.next + 1) 0 col (some col) 1, .sl (h.next + 2) 0 col (some col) 1] : List AV)[i * 1]? = some sx ∧ Ints h5.blks .i64 sx (ofN (if i = 0 then N0 else N1)) := by
          have : i = 0 ∨ i = 1 := by omega
          rcases this with rfl | rfl
          · exact ⟨_, rfl, by rw [if_pos rfl]; exact (A5.own (by rw [ofN_len, lN0, ecol])).ints⟩
          · exact ⟨_, rfl, by rw [if_neg (by omega)]; exact (B5.own (by rw [ofN_len, lN1, ecol])).ints⟩
        have ix5 : sIx 2 1 none h5 (some i) (.ag [.sl (h.next + 1) 0 col (some col) 1, .sl (h.next + 2) 0 col (some col) 1]) = some (sx, h5) := by
          rw [sIx_ag i2, esx]; rfl
        obtain ⟨v2, h6, ev2, g6, T, hT, oT⟩ := IH _ sx h5 (by omega) (by omega) (H.perm0 hP S i i2) isx k5
        have k6 := g6.ok k5
        have s56 := g6.sub k5
        have lT : (sB T).length = n := by rw [sB_len, hT.len, en]
        have mu : (i : Int) * (n : Int) = ((i * n : Nat) : Int) := by simp
        have sl5 : ∀ h' : Hp, sSl 1 h' (some (some (i * n))) none (.sl h.next col (col + 2 * n) (some (col + 2 * n)) 1) = some (.sl h.next (col + i * n) (col + 2 * n - i * n) (some (col + 2 * n - i * n)) 1, h') := fun h' => sSlK (l := i * n) (u := col + 2 * n) rfl rfl (by omega) (by omega) (by omega) rfl rfl rfl
        obtain ⟨h7, e7, A7, g7, n7, r7⟩ := arrK_cpy (p := col + i * n) (len := col + 2 * n - i * n) (c := some (col + 2 * n - i * n)) hk (GrownR.trans g5 g6) (Z5.sub s56) oT.ints (by omega) (by omega)
        rw [lT] at e7 A7
        obtain ⟨q, eq'⟩ : ∃ q, q = i * n := ⟨_, rfl⟩
        have st := D5.step i2 en.symm hT
        rw [← eq'] at mu sl5 e7 A7 st
        simp (disch := first|(simp only [Nat.reduceBEq,wE];done)|((repeat' (first|assumption|exact mAx _|refine mBx ?_ ?_|exact mCx (by assumption)|refine mDx ?_|refine mEx ?_ ?_ ?_|exact mFx|refine mGx ?_ ?_ ?_|exact mHx|exact mIx _|(simp only [wM,Nat.reduceAdd,Nat.reduceLT,Nat.reduceLeDiff];done)));done)|omega|decide) only [e, ix5, mu, sl5, kb, callT ev2, wpOp_cpy, e7, ↓wA,wB,wL,resOf,Nat.reduceBEq,Int.reduceBEq,Int.reduceBNe,Int.reduceLT,Int.reduceLE,Int.reduceAdd,Int.reduceSub,Int.reduceMul,Int.reduceToNat]
        refine ⟨_, ?_, i + 1, h7, Z.take (col + q) ++ sB T ++ Z.drop (col + q + n), _, _, _, _, _, _, _, _, _, _, _, _, _, _, _, _, _, rfl, ?_, rfl⟩
        · omega
        exact ⟨by omega, g7, A7, ⟨r7 _ _ (by omega) (by simp) (s56 _ _ A5.1), A5.2⟩, ⟨r7 _ _ (by omega) (by simp) (s56 _ _ B5.1), B5.2⟩, st⟩
      · simp (disch := first|(simp only [Nat.reduceBEq,wE];done)|((repeat' (first|assumption|exact mAx _|refine mBx ?_ ?_|exact mCx (by assumption)|refine mDx ?_|refine mEx ?_ ?_ ?_|exact mFx|refine mGx ?_ ?_ ?_|exact mHx|exact mIx _|(simp only [wM,Nat.reduceAdd,Nat.reduceLT,Nat.reduceLeDiff];done)));done)|omega|decide) only [e, ↓wA,wB,wL,resOf,Nat.reduceBEq,Int.reduceBEq,Int.reduceBNe,Int.reduceLT,Int.reduceLE,Int.reduceAdd,Int.reduceSub,Int.reduceMul,Int.reduceToNat]
        rw [show i = 2 by omega] at D5
        obtain ⟨T, hT, eT⟩ := D5.done en.symm ecol hP S H bF bL
        refine ⟨_, rfl, g5, T, by rw [eK]; exact hT, ?_⟩
        rw [← eT]
        exact Z5.own (by rw [D5.lz, etot])
end Go.Proofs.YtbomimhfldmlbaaDoor
