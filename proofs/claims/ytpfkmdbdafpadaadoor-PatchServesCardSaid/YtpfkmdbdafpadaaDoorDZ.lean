/- serve and Serve: requests, one after the other. -/
import Derived.Test.YtpfkmdbdafpadaaDoorDY
set_option linter.unusedSimpArgs false
set_option linter.unusedVariables false
set_option maxHeartbeats 8000000
set_option maxRecDepth 20000
namespace Go.Abs
section
variable {P : Program} {T : Tab}
/-- A call of a method that is bound. -/
theorem callB {g : Bool} {f : Nat} {fs args : List AV} {h h' : Hp} {v : AV} {K : AV → Hp → Prop} (e : Evals P T g (.func f) (fs ++ args) h (v, h')) {tk : Tag K} :
    callT' (Evals P T g) (.fn (.func f) fs []) args h K tk = K v h' := by
  unfold callT'
  rw [callThen_eq (by simpa using e)]
end
/-- append of a number in place. -/
theorem app_arr {h0 h : Hp} {id n : Nat} {b rest : List Int} {v : Int} (ho : Hok h0) (g : Grown h0 h) (hb : lkB h.blks id = some { cells := Abs.ints .i64 (b ++ rest), ch := id, wr := true }) (hid : h0.next ≤ id) (hn : (b ++ rest).length = n) (hl : b.length + 1 ≤ n) (hcap : n ≤ 1000) :
    ∃ h', sApp true 1 { next := h.next + 1, blks := (h.next, { cells := Abs.ints .i64 [v], ch := h.next, wr := true }) :: h.blks, loops := h.loops, base := h.base, esc := h.esc } (.sl id 0 b.length (some n) 1) (.sl h.next 0 1 (some 1) 1) = some (.sl id 0 (b.length + 1) (some n) 1, h') ∧
      lkB h'.blks id = some { cells := Abs.ints .i64 ((b ++ [v]) ++ rest.drop 1), ch := id, wr := true } ∧ Grown h0 h' ∧ Elder h h' ∧ Off (some id) h.blks h'.blks := by
  have hk := g.ok ho
  obtain ⟨h1, eh1⟩ : ∃ h1 : Hp, h1 = h.pu (Abs.ints .i64 [v]) := ⟨_, rfl⟩
  have g1 : Grown h0 h1 := by rw [eh1]; exact Grown.pu g refsOK_ints
  have x1 : Elder h h1 := by rw [eh1]; exact GrownR.elder (Grown.pu Grown.refl refsOK_ints)
  have s1 : Sub h.blks h1.blks := by rw [eh1]; exact Sub.pu hk
  have a1 : Arr h1.blks 1 (.sl h.next 0 1 (some 1) 1) 1 (Abs.ints .i64 [v]) := by rw [eh1]; exact Ints.top rfl (Nat.le_refl 1)
  have e1 : ({ next := h.next + 1, blks := (h.next, { cells := Abs.ints .i64 [v], ch := h.next, wr := true }) :: h.blks, loops := h.loops, base := h.base, esc := h.esc } : Hp) = h1 := eh1.symm
  rw [e1]
  clear e1 eh1
  have hsrc := a1.src (by omega) h1 rfl
  have hb1 := s1 _ _ hb
  have nz : Nat.beq 1 0 = false := rfl
  have hc : (Abs.ints .i64 [v]).all AV.isCell = true := all_cell_ints
  have e2 : Nat.ble (b.length + 1) 1073741824 = true := Nat.ble_eq_true_of_le (by omega)
  have hf : Nat.ble (b.length + 1) n = true := Nat.ble_eq_true_of_le hl
  obtain ⟨h', e, l1, o, k, n', ls, r⟩ := write_old (off := 0 + b.length * 1) (vs := Abs.ints .i64 [v]) (g1.ok ho) g1.blks (fun x hx => (ho.blk hx).1) hb1 hid hid rfl (by rw [ints_len, ints_len, hn, List.length_singleton]; omega) all_cell_ints refsOK_ints
  refine ⟨h', ?_, ?_, ⟨o, by rw [n']; exact g1.next, fun _ => k, by rw [ls]; exact g1.loops⟩, x1.trans (write_elder e), fun j d hd hne => ?_⟩
  · simp only [sApp, hsrc, sAppend, Nat.beq_refl, Bool.not_true, cond_false, nz, e2, hc, Bool.and_self, hb1, hf, cond_true, e, Option.map_some]
  · rw [l1]
    congr 2
    have : 0 + b.length * 1 = b.length := by omega
    rw [this]
    simp only [splice, ← ints_append, ints_len, List.length_singleton]
    rw [List.take_append_of_le_length (by rw [ints_len]; omega), List.take_of_length_le (by rw [ints_len]; omega)]
    congr 1
    rw [List.drop_append, List.drop_of_length_le (by rw [ints_len]; omega), List.nil_append, ints_len]
    rw [show b.length + 1 - b.length = 1 by omega]
    simp [ints, List.map_drop]
  · have hne' : d.ch ≠ id := fun hh => hne (by rw [hh])
    by_cases hj : j = id
    · subst hj
      rw [hb] at hd
      cases hd
      exact absurd rfl hne'
    · exact r j d hj (s1 _ _ hd) hne'
theorem Brd.off {c bid n m k : Nat} {bs bs' : List (Nat × Blk)} {E : List (Int × Int)} {zs : List Int} {sE sZ : AV} (B : Brd c bs bid n m E zs sE sZ) (f : Off (some k) bs bs') (hb : bid ≠ k) (he : chOf bs sE ≠ some k) (hz : chOf bs sZ ≠ some k) : Brd c bs' bid n m E zs sE sZ ∧ chOf bs' sE = chOf bs sE ∧ chOf bs' sZ = chOf bs sZ := by
  obtain ⟨e1, e2⟩ := B.e.off f fun x hx hh => he (by rw [hx]; exact hh)
  obtain ⟨z1, z2⟩ := B.z.off f fun x hx hh => hz (by rw [hx]; exact hh)
  exact ⟨⟨f _ _ B.blk (fun hh => hb (Option.some.inj hh)), B.lim, e1, z1, by rw [e2]; exact B.ae, by rw [z2]; exact B.az, by rw [e2, z2]; exact B.ez⟩, e2, z2⟩
end Go.Abs
namespace Go.Pa
theorem stepC_le {n m : Nat} {b : Bd} {p : Int × Int} : (stepC n m b p).2.1.length ≤ b.1.length + 1 := by
  unfold stepC
  split
  · split
    · simp only; omega
    · simp only [List.length_eraseIdx]; split <;> omega
  · split
    · simp only; omega
    · split
      · simp only [List.length_append, List.length_singleton]; omega
      · simp only; omega
theorem runB_le {n m : Nat} : ∀ {l : List (Int × Int)} {b : Bd}, (runB n m b l).1.length ≤ b.1.length + l.length
  | [], b => by simp [runB]
  | p :: l, b => by
    have h1 := runB_le (n := n) (m := m) (l := l) (b := (stepC n m b p).2)
    have h2 := stepC_le (n := n) (m := m) (b := b) (p := p)
    simp only [runB, List.length_cons]
    omega
def ReqIn (w : Nat) (l : List (Int × Int)) : Prop := ∀ p ∈ l, 0 ≤ p.1 ∧ p.1 < w ∧ -1 ≤ p.2 ∧ p.2 < w
theorem ReqIn.ok {w : Nat} {l : List (Int × Int)} (h : ReqIn w l) : ∀ p ∈ l, ReqOK w p := fun p hp => by
  have := h p hp
  exact ⟨by omega, by omega⟩
theorem take_snocP {l : List (Int × Int)} {i : Nat} (hi : i < l.length) : l.take (i + 1) = l.take i ++ [l.getD i (0, 0)] := by
  rw [List.take_succ_eq_append_getElem hi]
  simp [List.getD_eq_getElem?_getD, List.getElem?_eq_getElem hi]
end Go.Pa
namespace Go.Proofs.YtpfkmdbdafpadaaDoor
open Go Go.Abs Go.Pa

theorem f19 (n m w bid : Nat) (a : AV) (l : List (Int × Int)) (h0 h : Hp) (ho : Hok h0) (g : Grown h0 h) (ha : Pairs h0.blks a l) (hl : l.length ≤ 100) (hn : 0 < n ∧ n ≤ 1000) (hm : m ≤ 1000) (hw : w ≤ 1000) (hr : ReqIn w l) (B : Brd h0.next h.blks bid n m [] [] .nilsl .nilsl) :
    ∃ v h', Evals Tryd.prog tab false (.func 19) [.ptr bid 0, a] h (v, h') ∧ (∃ rid, v = .sl rid 0 l.length (some l.length) 1 ∧ h.next ≤ rid ∧ Grown h0 h' ∧ lkB h'.blks rid = some { cells := ints .i64 (serveC n m ([], []) l), ch := rid, wr := true }) := by
  have hk := g.ok ho
  have hbid : bid < h.next := (hk.get B.blk).1
  refine evals_two c19 (fun v h' => ∃ rid, v = .sl rid 0 l.length (some l.length) 1 ∧ h.next ≤ rid ∧ Grown h0 h' ∧ lkB h'.blks rid = some { cells := ints .i64 (serveC n m ([], []) l), ch := rid, wr := true }) rfl ?_
  simp only [sf19, initS_cons, initS_nil]
  have mk := sMks_0 (h := h.en) (z := [.int .i64 0]) (n := 1) (c := l.length) (by omega)
  rw [repl_ints] at mk
  have g1 : Grown h0 (h.en.pu (ints .i64 (List.replicate l.length 0))) := Grown.pu (show Grown h0 h.en from g) refsOK_ints
  have x1 : Elder h (h.en.pu (ints .i64 (List.replicate l.length 0))) := Elder.of_en (GrownR.elder (Grown.pu (h := h.en) Grown.refl refsOK_ints))
  have B1 := B.sub (Sub.pu (h := h.en) (cs := ints .i64 (List.replicate l.length 0)) hk)
  have la := (ha.sub (g.sub ho)).len
  have lr : lkB (h.en.pu (ints .i64 (List.replicate l.length 0))).blks h.next = some { cells := ints .i64 (serveC n m ([], []) (l.take 0) ++ List.replicate l.length 0), ch := h.next, wr := true } := by
    rw [List.take_zero]; exact lkB_top
  simp (disch := first|(simp only [Nat.reduceBEq,wE];done)|((repeat' (first|assumption|exact mAx _|refine mBx ?_ ?_|exact mCx (by assumption)|refine mDx ?_|refine mEx ?_ ?_ ?_|exact mFx|refine mGx ?_ ?_ ?_|exact mHx|exact mIx _|(simp only [wM,Nat.reduceAdd,Nat.reduceLT,Nat.reduceLeDiff];done)));done)|omega|decide) only [la, mk, ↓wA,wB,wL,resOf,Nat.reduceBEq,Int.reduceBEq,Int.reduceBNe,Int.reduceLT,Int.reduceLE,Int.reduceAdd,Int.reduceSub,Int.reduceMul,Int.reduceToNat]
  refine wloop (fun mm ss => ∃ (i : Nat) (sE sZ : AV) (rest : List Int) (h1 : Hp) (u4 u7 u8 u9 u16 u23 : AV), (mm = l.length - i) ∧ (i ≤ l.length ∧ Grown h0 h1 ∧ Elder h h1 ∧ Brd h0.next h1.blks bid n m (runB n m ([], []) (l.take i)).1 (runB n m ([], []) (l.take i)).2 sE sZ ∧ lkB h1.blks h.next = some { cells := ints .i64 (serveC n m ([], []) (l.take i) ++ rest), ch := h.next, wr := true } ∧ (serveC n m ([], []) (l.take i) ++ rest).length = l.length ∧ chOf h1.blks sE ≠ some h.next ∧ chOf h1.blks sZ ≠ some h.next) ∧ ss = { fr := [(0, .ptr bid 0), (1, a), (4, u4), (5, .sl h.next 0 i (some l.length) 1), (7, u7), (8, u8), (9, u9), (13, a), (14, .int .i64 l.length), (15, .int .i64 i), (16, u16), (23, u23)], hp := h1 }) (l.length) ?_ ?_
  ·
    refine ⟨0, .nilsl, .nilsl, List.replicate l.length 0, _, _, _, _, _, _, _, by omega, ⟨by omega, g1, x1, by rw [List.take_zero]; exact B1, lr, by simp [serveC], by simp [chOf], by simp [chOf]⟩, rfl⟩
  rintro nA sA ⟨i, sE, sZ, rest, h1, u4, u7, u8, u9, u16, u23, hnA, ⟨hi, g2, x2, B2, lr2, hlen, ce, cz⟩, rfl⟩
  have k2 := g2.ok ho
  have a2 := ha.sub (g2.sub ho)
  simp (disch := first|(simp only [Nat.reduceBEq,wE];done)|((repeat' (first|assumption|exact mAx _|refine mBx ?_ ?_|exact mCx (by assumption)|refine mDx ?_|refine mEx ?_ ?_ ?_|exact mFx|refine mGx ?_ ?_ ?_|exact mHx|exact mIx _|(simp only [wM,Nat.reduceAdd,Nat.reduceLT,Nat.reduceLeDiff];done)));done)|omega|decide) only [↓wA,wB,wL,resOf,Nat.reduceBEq,Int.reduceBEq,Int.reduceBNe,Int.reduceLT,Int.reduceLE,Int.reduceAdd,Int.reduceSub,Int.reduceMul,Int.reduceToNat]
  refine ifThen_intro (fun e => ?_) (fun e => ?_) <;> have eq := e <;> try simp [-List.getD_eq_getElem?_getD] at eq
  · have hm' : l.getD i (0, 0) ∈ l := by simp [List.getD_eq_getElem?_getD, List.getElem?_eq_getElem eq]
    have hp := hr _ hm'
    obtain ⟨p, ep⟩ : ∃ p, p = l.getD i (0, 0) := ⟨_, rfl⟩
    have tk := take_snocP eq
    rw [← ep] at hp tk
    have I : Inv n w m (runB n m ([], []) (l.take i)) := Inv.run Inv.nil fun q hq => hr q (List.mem_of_mem_take hq)
    have rl := runB_le (n := n) (m := m) (l := l.take i) (b := ([], []))
    have lt := List.length_take_le i l
    simp only [List.length_nil] at rl
    obtain ⟨bb, eb⟩ : ∃ bb, bb = runB n m ([], []) (l.take i) := ⟨_, rfl⟩
    have sc : serveC n m ([], []) (l.take (i + 1)) = serveC n m ([], []) (l.take i) ++ [(stepC n m bb p).1] := by rw [tk, serveC_app, ← eb]; rfl
    have rn : runB n m ([], []) (l.take (i + 1)) = (stepC n m bb p).2 := by rw [tk, runB_app, ← eb]; rfl
    rw [← eb] at B2 I rl
    have sl : (serveC n m ([], []) (l.take i)).length = i := by rw [serveC_len, List.length_take]; omega
    -- the request's variable
    obtain ⟨h2, eh2⟩ : ∃ h2 : Hp, h2 = h1.pu [.int .i64 p.1, .int .i64 p.2] := ⟨_, rfl⟩
    have s12 : Sub h1.blks h2.blks := by rw [eh2]; exact Sub.pu k2
    have g3 : Grown h0 h2 := by rw [eh2]; exact Grown.pu g2 rfl
    have x12 : Elder h1 h2 := by rw [eh2]; exact GrownR.elder (Grown.pu Grown.refl rfl)
    have n2 : h2.next = h1.next + 1 := by rw [eh2]
    have c0 : cellB h2.blks h1.next 1 = some (.int .i64 p.2) := by rw [eh2]; exact cellB_hit
    have l0 : aggB h2.blks h1.next 0 2 = some (.ag [.int .i64 p.1, .int .i64 p.2]) := by rw [eh2]; exact aggB_hit
    have B3 := B2.sub s12
    have chE : chOf h2.blks sE = chOf h1.blks sE := B2.e.chSub s12
    have chZ : chOf h2.blks sZ = chOf h1.blks sZ := B2.z.chSub s12
    have lda : aggV h1.blks a i 2 = some (.ag [.int .i64 p.1, .int .i64 p.2]) := by rw [ep]; exact a2.lda (Sub.refl _) eq
    have st : sStore 2 { next := h1.next + 1, blks := (h1.next, { cells := [.int .i64 0, .int .i64 0], ch := h1.next, wr := true }) :: h1.blks, loops := h1.loops, base := h1.base, esc := h1.esc } (.ag [.int .i64 p.1, .int .i64 p.2]) (.ptr h1.next 0) = some (.any, h2) := by
      rw [eh2]
      exact sStore_ag k2 rfl rfl rfl rfl
    -- what a step leaves
    have fin : ∀ (v : AV) (h3 : Hp), v = .int .i64 (stepC n m bb p).1 → Grown h0 h3 → Elder h2 h3 → (∃ sE' sZ', Brd h0.next h3.blks bid n m (stepC n m bb p).2.1 (stepC n m bb p).2.2 sE' sZ' ∧ (chOf h3.blks sE' = chOf h2.blks sE ∨ ∃ k, chOf h3.blks sE' = some k ∧ h2.next ≤ k) ∧ (chOf h3.blks sZ' = chOf h2.blks sZ ∨ ∃ k, chOf h3.blks sZ' = some k ∧ h2.next ≤ k)) →
        (∀ j d, lkB h2.blks j = some d → d.ch ≠ bid → some d.ch ≠ chOf h2.blks sE → some d.ch ≠ chOf h2.blks sZ → lkB h3.blks j = some d) →
        ∃ sE' sZ' h4, sApp true 1 (h3.pu (ints .i64 [(stepC n m bb p).1])) (.sl h.next 0 i (some l.length) 1) (.sl h3.next 0 1 (some 1) 1) = some (.sl h.next 0 (i + 1) (some l.length) 1, h4) ∧ Grown h0 h4 ∧ Elder h h4 ∧ Brd h0.next h4.blks bid n m (runB n m ([], []) (l.take (i + 1))).1 (runB n m ([], []) (l.take (i + 1))).2 sE' sZ' ∧ lkB h4.blks h.next = some { cells := ints .i64 (serveC n m ([], []) (l.take (i + 1)) ++ rest.drop 1), ch := h.next, wr := true } ∧ (serveC n m ([], []) (l.take (i + 1)) ++ rest.drop 1).length = l.length ∧ chOf h4.blks sE' ≠ some h.next ∧ chOf h4.blks sZ' ≠ some h.next := fun v h3 _ g4 x3 hB pres => by
      obtain ⟨sE', sZ', B4, cE, cZ⟩ := hB
      have hlt : h.next < h1.next := (k2.get lr2).1
      have lr3 := pres _ _ (s12 _ _ lr2) (by simp; omega) (by rw [chE]; exact fun hh => ce hh.symm) (by rw [chZ]; exact fun hh => cz hh.symm)
      have ne1 : chOf h3.blks sE' ≠ some h.next := fun hh => by
        rcases cE with h5 | ⟨k, h5, h6⟩
        · rw [hh, chE] at h5; exact ce h5.symm
        · rw [hh] at h5; have := Option.some.inj h5; omega
      have ne2 : chOf h3.blks sZ' ≠ some h.next := fun hh => by
        rcases cZ with h5 | ⟨k, h5, h6⟩
        · rw [hh, chZ] at h5; exact cz h5.symm
        · rw [hh] at h5; have := Option.some.inj h5; omega
      have hle : h0.next ≤ h.next := g.next
      obtain ⟨h4, e4, l4, g5, x4, f4⟩ := app_arr (v := (stepC n m bb p).1) ho g4 lr3 hle hlen (by omega) (by omega)
      rw [sl] at e4
      obtain ⟨B5, c5, c6⟩ := B4.off f4 (by omega) ne1 ne2
      refine ⟨sE', sZ', h4, e4, g5, x2.trans (x12.trans (x3.trans x4)), by rw [rn]; exact B5, by rw [sc]; exact l4, ?_, by rw [c5]; exact ne1, by rw [c6]; exact ne2⟩
      rw [sc]
      simp only [List.length_append, List.length_drop, List.length_singleton] at hlen ⊢
      omega
    by_cases c : p.2 = -1
    · have ct : (p.2 == -1) = true := by simpa using c
      obtain ⟨v, h3, e3, rfl, g4, x3, hB, pres⟩ := f29 p bid n m bb.1 bb.2 sE sZ h0 h2 ho g3 B3 I.len (by omega) c
      obtain ⟨sE1, sZ1, B4, cE, cZ⟩ := hB
      obtain ⟨sE', sZ', h4, e4, g5, x5, B5, l5, hl5, n5, n6⟩ := fin _ h3 rfl g4 x3 ⟨sE1, sZ1, B4, .inl cE, .inl cZ⟩ pres
      simp (disch := first|(simp only [Nat.reduceBEq,wE];done)|((repeat' (first|assumption|exact mAx _|refine mBx ?_ ?_|exact mCx (by assumption)|refine mDx ?_|refine mEx ?_ ?_ ?_|exact mFx|refine mGx ?_ ?_ ?_|exact mHx|exact mIx _|(simp only [wM,Nat.reduceAdd,Nat.reduceLT,Nat.reduceLeDiff];done)));done)|omega|decide) only [e, a2.ix, lda, st, c0, ct, l0, callB (fs := [.ptr bid 0]) (args := [.ag [.int .i64 p.1, .int .i64 p.2]]) e3, e4, ↓wA,wB,wL,resOf,Nat.reduceBEq,Int.reduceBEq,Int.reduceBNe,Int.reduceLT,Int.reduceLE,Int.reduceAdd,Int.reduceSub,Int.reduceMul,Int.reduceToNat]
      refine ⟨_, ?_, i + 1, sE', sZ', rest.drop 1, h4, _, _, _, _, _, _, rfl, ?_, rfl⟩
      · omega
      exact ⟨by omega, g5, x5, B5, l5, hl5, n5, n6⟩
    · have ct : (p.2 == -1) = false := by simpa using c
      have bE : ∀ c ∈ bb.1, (0 ≤ c.1 ∧ c.1 ≤ 100000) ∧ (0 ≤ c.2 ∧ c.2 ≤ 100000) := fun c hc => by have := I.rng c hc; omega
      obtain ⟨v, h3, e3, rfl, g4, x3, hB, pres⟩ := f28 p bid n m bb.1 bb.2 sE sZ h0 h2 ho g3 B3 I.len (by omega) c hn hm bE (by omega)
      obtain ⟨sE', sZ', h4, e4, g5, x5, B5, l5, hl5, n5, n6⟩ := fin _ h3 rfl g4 x3 hB pres
      simp (disch := first|(simp only [Nat.reduceBEq,wE];done)|((repeat' (first|assumption|exact mAx _|refine mBx ?_ ?_|exact mCx (by assumption)|refine mDx ?_|refine mEx ?_ ?_ ?_|exact mFx|refine mGx ?_ ?_ ?_|exact mHx|exact mIx _|(simp only [wM,Nat.reduceAdd,Nat.reduceLT,Nat.reduceLeDiff];done)));done)|omega|decide) only [e, a2.ix, lda, st, c0, ct, l0, callB (fs := [.ptr bid 0]) (args := [.ag [.int .i64 p.1, .int .i64 p.2]]) e3, e4, ↓wA,wB,wL,resOf,Nat.reduceBEq,Int.reduceBEq,Int.reduceBNe,Int.reduceLT,Int.reduceLE,Int.reduceAdd,Int.reduceSub,Int.reduceMul,Int.reduceToNat]
      refine ⟨_, ?_, i + 1, sE', sZ', rest.drop 1, h4, _, _, _, _, _, _, rfl, ?_, rfl⟩
      · omega
      exact ⟨by omega, g5, x5, B5, l5, hl5, n5, n6⟩
  · have ei : i = l.length := by omega
    subst ei
    rw [List.take_length] at lr2 hlen
    have r0 : rest = [] := List.length_eq_zero_iff.1 (by rw [List.length_append, serveC_len] at hlen; omega)
    rw [r0, List.append_nil] at lr2
    simp (disch := first|(simp only [Nat.reduceBEq,wE];done)|((repeat' (first|assumption|exact mAx _|refine mBx ?_ ?_|exact mCx (by assumption)|refine mDx ?_|refine mEx ?_ ?_ ?_|exact mFx|refine mGx ?_ ?_ ?_|exact mHx|exact mIx _|(simp only [wM,Nat.reduceAdd,Nat.reduceLT,Nat.reduceLeDiff];done)));done)|omega|decide) only [e, ↓wA,wB,wL,resOf,Nat.reduceBEq,Int.reduceBEq,Int.reduceBNe,Int.reduceLT,Int.reduceLE,Int.reduceAdd,Int.reduceSub,Int.reduceMul,Int.reduceToNat]
    refine ⟨_, rfl, x2, h.next, rfl, Nat.le_refl _, ?_⟩
    rcases leave_two (v := .sl h.next 0 l.length (some l.length) 1) x2 with e' | ⟨hr', _⟩
    · simp only [resOf]
      rw [e']
      exact ⟨g2, lr2⟩
    · simp [refOK, Nat.blt_eq] at hr'

theorem Serve_ok (n r m : Nat) (a : AV) (l : List (Int × Int)) (h : Hp) (hk : Hok h) (ha : Pairs h.blks a l) (hl : l.length ≤ 100) (hc : Clos n r m) (hn : 0 < n ∧ n ≤ 12) (hw : n * r ≤ 12) (hm : m ≤ 12) (hr : r ≤ 12) (hq : ReqIn (n * r) l) :
    ∃ v h', Evals Tryd.prog tab false (.func 6) [.int .i64 n, .int .i64 r, .int .i64 m, a] h (v, h') ∧ Grown h h' ∧ ∃ t, v = .tu [t, .int .i64 0] ∧ Own h.next h'.blks .i64 t (serveC n m ([], []) l) := by
  refine evals_q c6 (fun v h' => ∃ t, v = .tu [t, .int .i64 0] ∧ Own h.next h'.blks .i64 t (serveC n m ([], []) l)) rfl hk ?_ (fun v h1 g q => by
    obtain ⟨t, rfl, q⟩ := q
    refine ⟨fun r => ⟨t, rfl, q.leave.1 ?_⟩, fun r => ⟨t, rfl, q⟩⟩
    simp only [refOK, refsOK_cons, Bool.and_eq_true] at r
    exact r.1)
  simp only [sf6, initS_cons, initS_nil]
  obtain ⟨h1, eh1⟩ : ∃ h1 : Hp, h1 = (h.en.pu [.int .i64 n]).pu [.int .i64 r] := ⟨_, rfl⟩
  have g1 : Grown h h1 := by rw [eh1]; exact Grown.pu (Grown.pu Grown.en rfl) rfl
  have k1 := g1.ok hk
  have a1 := ha.sub (g1.sub hk)
  have b0 : Box h1.blks h.next [.int .i64 n] := by rw [eh1]; exact Box.top.sub (Sub.pu (h := h.en.pu [.int .i64 n]) (Hok.pu hk rfl))
  have b1 : Box h1.blks (h.next + 1) [.int .i64 r] := by rw [eh1]; exact Box.top
  have n1 : h1.next = h.next + 2 := by rw [eh1]
  have x1 : sBox (h.en.pu [.int .i64 n]) (.int .i64 r) = some (.ptr (h.next + 1) 0, h1) := by rw [eh1]; rfl
  have d1 : decide ((100 : Int) < l.length) = false := decide_eq_false (by omega)
  have cf := f16 a l 17 [.ptr h.next 0, .ptr (h.next + 1) 0] (fun p => !decide (ReqOK (n * r : Nat) p)) h1 k1 a1 (by omega) (fun z _ => f17 z n r h.next (h.next + 1) h1.en k1 (by omega) (by omega) (by omega) b0 b1)
  have any0 : (l.any fun p => !decide (ReqOK (n * r : Nat) p)) = false := by
    rw [List.any_eq_false]
    intro p hp
    simp only [hq.ok p hp, decide_true, Bool.not_true, Bool.false_eq_true, not_false_eq_true]
  rw [any0] at cf
  have cl := f15 n r m h1 k1
  rw [decide_eq_true hc] at cl
  obtain ⟨h2, eh2⟩ : ∃ h2 : Hp, h2 = h1.pu [.int .i64 n, .int .i64 m, .nilsl, .nilsl] := ⟨_, rfl⟩
  have g2 : Grown h h2 := by rw [eh2]; exact Grown.pu g1 rfl
  have bd : sBuild [AV.int .i64 0, .int .i64 0, .nilsl, .nilsl] [(0, 1), (1, 1), (2, 1), (3, 1)] [(0, .int .i64 n), (1, .int .i64 m)] = some (.ag [.int .i64 n, .int .i64 m, .nilsl, .nilsl]) := rfl
  have st : sStore 4 { next := h1.next + 1, blks := (h1.next, { cells := [.int .i64 0, .int .i64 0, .nilsl, .nilsl], ch := h1.next, wr := true }) :: h1.blks, loops := h1.loops, base := h1.base, esc := h1.esc } (.ag [.int .i64 n, .int .i64 m, .nilsl, .nilsl]) (.ptr h1.next 0) = some (.any, h2) := by
    rw [eh2]
    exact sStore_ag k1 rfl rfl rfl rfl
  have B2 : Brd h.next h2.blks h1.next n m [] [] .nilsl .nilsl := by
    rw [eh2]
    exact ⟨lkB_top, by omega, OwnD.nil, OwnD.nil, by simp [chOf], by simp [chOf], by simp [chOf]⟩
  obtain ⟨v, h3, e3, rid, rfl, hrid, g3, l3⟩ := f19 n m (n * r) h1.next a l h h2 hk g2 ha hl (by omega) (by omega) (by omega) hq B2
  have lr0 : cellB h1.blks h.next 0 = some (.int .i64 n) := b0.ld (Sub.refl _)
  have lr1 : cellB h1.blks (h.next + 1) 0 = some (.int .i64 r) := b1.ld (Sub.refl _)
  clear eh1 eh2
  simp (disch := first|(simp only [Nat.reduceBEq,wE];done)|((repeat' (first|assumption|exact mAx _|refine mBx ?_ ?_|exact mCx (by assumption)|refine mDx ?_|refine mEx ?_ ?_ ?_|exact mFx|refine mGx ?_ ?_ ?_|exact mHx|exact mIx _|(simp only [wM,Nat.reduceAdd,Nat.reduceLT,Nat.reduceLeDiff];done)));done)|omega|decide) only [x1, a1.len, d1, lr0, lr1, callT cl, callT cf, bd, st, callT e3, ↓wA,wB,wL,resOf,Nat.reduceBEq,Int.reduceBEq,Int.reduceBNe,Int.reduceLT,Int.reduceLE,Int.reduceAdd,Int.reduceSub,Int.reduceMul,Int.reduceToNat]
  refine ⟨_, rfl, g3, _, rfl, ?_⟩
  have hlen : (serveC n m ([], []) l).length = l.length := serveC_len
  have hle : h.next ≤ rid := Nat.le_trans g2.next hrid
  exact ⟨by simp [ints_len], .inr ⟨rid, _, some l.length, by rw [hlen], l3, by rw [List.take_of_length_le (by simp [ints_len])], hle, hle, rfl, by simp [ints_len, hlen], by rw [hlen]; exact Nat.le_refl _⟩⟩
end Go.Proofs.YtpfkmdbdafpadaaDoor
