/- The reference's search through all orders. -/
import Derived.Test.YtihadgkgogfhcaaU1
set_option linter.unusedSimpArgs false
set_option linter.unusedVariables false
set_option maxHeartbeats 8000000
set_option maxRecDepth 20000
namespace Go.Abs
section
variable {C : Spec} {f : Nat → AV} {h : Hp} {K : AV → Hp → Prop}
def sNilC (h : Hp) : AV → Option (AV × Hp)
  | .ptr i o => some (.ptr i o, h)
  | _ => none
theorem wpOp_nil {x : SX} : wpOp C f h (.nilCheck x) K = andT (sNilC h (sev f x)) K .mk := by
  simp only [wpOp, sexec]
  cases sev f x <;> rfl
theorem sNilC_ptr {i o : Nat} : sNilC h (.ptr i o) = some (.ptr i o, h) := rfl
end
/-- Younger blocks, of younger chains, stay. -/
def K2 (lim m : Nat) (bs bs' : List (Nat × Blk)) : Prop := ∀ j d, j < m → lim ≤ j → lim ≤ d.ch → lkB bs j = some d → lkB bs' j = some d
theorem K2.refl {lim m : Nat} {bs : List (Nat × Blk)} : K2 lim m bs bs := fun _ _ _ _ _ h => h
theorem K2.sub {lim m : Nat} {bs bs' : List (Nat × Blk)} (s : Sub bs bs') : K2 lim m bs bs' := fun j d _ _ _ h => s j d h
theorem K2.trans {lim m m' : Nat} {a b c : List (Nat × Blk)} (h : K2 lim m a b) (h' : K2 lim m' b c) (hm : m ≤ m') : K2 lim m a c := fun j d h1 h2 h3 h4 => h' j d (by omega) h2 h3 (h j d h1 h2 h3 h4)
theorem K2.of {lim m i : Nat} {bs bs' : List (Nat × Blk)} (hi : i < lim) (r : ∀ j d, j ≠ i → d.ch ≠ i → lkB bs j = some d → lkB bs' j = some d) : K2 lim m bs bs' := fun j d _ h2 h3 h4 => r j d (by omega) (by omega) h4
theorem Own.k2 {lim m : Nat} {bs bs' : List (Nat × Blk)} {ls : List (Nat × LoopA)} {k : IntKind} {s : AV} {zs : List Int} (O : Own lim bs k s zs) (hk : HokR m bs ls) (h : K2 lim m bs bs') : Own lim bs' k s zs := by
  obtain ⟨hl, O | ⟨i, b, cap, h1, h2, h3, h4, h5, h6⟩⟩ := O
  · exact ⟨hl, .inl O⟩
  · exact ⟨hl, .inr ⟨i, b, cap, h1, h i b (hk.get h2).1 h4 h5 h2, h3, h4, h5, h6⟩⟩
theorem Own.lkid {lim d : Nat} {bs bs' : List (Nat × Blk)} {k : IntKind} {s : AV} {zs : List Int} (O : Own lim bs k s zs) (hr : refOK d s = true) (h : ∀ i, i < d → lkB bs' i = lkB bs i) : Own lim bs' k s zs := by
  obtain ⟨hl, O | ⟨i, b, cap, rfl, h2, h3, h4, h5, h6⟩⟩ := O
  · exact ⟨hl, .inl O⟩
  · have hi : i < d := by simpa [refOK, Nat.blt_eq] using hr
    exact ⟨hl, .inr ⟨i, b, cap, rfl, by rw [h i hi]; exact h2, h3, h4, h5, h6⟩⟩
/-- A write of any value to a variable's block. -/
theorem av_set {h0 h : Hp} {id i : Nat} {cs : List AV} {v : AV} (ho : Hok h0) (g : Grown h0 h) (hb : Abs.lkB h.blks id = some { cells := cs, ch := id, wr := true }) (hid : h0.next ≤ id) (hi : i < cs.length) (hp : v.parts = some [v]) (hc : v.isCell = true) (hr : refOK h.next v = true) :
    ∃ h', sStore 1 h v (.ptr id i) = some (.any, h') ∧ Abs.lkB h'.blks id = some { cells := cs.set i v, ch := id, wr := true } ∧ Grown h0 h' ∧ Elder h h' ∧ h'.next = h.next ∧ (∀ j d, j ≠ id → d.ch ≠ id → Abs.lkB h.blks j = some d → Abs.lkB h'.blks j = some d) := by
  obtain ⟨h', e, l1, o, k, n, ls, r⟩ := write_old (off := i) (vs := [v]) (g.ok ho) g.blks (fun x hx => (ho.blk hx).1) hb hid hid rfl (by simp; omega) (by simp [hc]) (by simp only [refsOK_cons, refsOK_nil, hr, Bool.and_self])
  refine ⟨h', ?_, ?_, ⟨o, by rw [n]; exact g.next, fun _ => k, by rw [ls]; exact g.loops⟩, write_elder e, n, fun j d hj hd hl => r j d hj hl hd⟩
  · simp only [sStore, hp, List.length_singleton, Nat.beq_refl, cond_true, e, Option.map_some]
  · rw [l1]
    congr 2
    simp only [splice, List.length_singleton]
    rw [List.set_eq_take_append_cons_drop, if_pos hi]
    simp
end Go.Abs
namespace Go.Ro
open Go.Abs Go.Pa
/- The best so far, in memory. -/
def SOr (lim : Nat) (bs : List (Nat × Blk)) (v : Int) (s : AV) : Option (Int × List Int) → Prop
  | none => s = .nilsl
  | some (w, zs) => v = w ∧ sBin .eql .slice s .nilsl = some (.bool false) ∧ Own lim bs .i64 s zs
structure BestOK (id : Nat) (bs : List (Nat × Blk)) (vs : List Int) (ss : List AV) (os : Nat → Option (Int × List Int)) : Prop where
  lv : vs.length = 3
  ls : ss.length = 3
  val : lkB bs id = some { cells := ints .i64 vs, ch := id, wr := true }
  ord : lkB bs (id + 1) = some { cells := ss, ch := id + 1, wr := true }
  ptr : lkB bs (id + 2) = some { cells := [.sl id 0 3 (some 3) 1, .sl (id + 1) 0 3 (some 3) 1], ch := id + 2, wr := true }
  each : ∀ k, k < 3 → SOr (id + 3) bs (vs.getD k 0) (ss.getD k .nilsl) (os k)
theorem SOr.imp {lim : Nat} {bs bs' : List (Nat × Blk)} {v : Int} {s : AV} (h : ∀ zs, Own lim bs .i64 s zs → Own lim bs' .i64 s zs) : ∀ {o}, SOr lim bs v s o → SOr lim bs' v s o
  | none, H => H
  | some (w, zs), H => ⟨H.1, H.2.1, h _ H.2.2⟩
section
variable {id : Nat} {bs bs' : List (Nat × Blk)} {vs : List Int} {ss : List AV} {os : Nat → Option (Int × List Int)}
theorem BestOK.sub (B : BestOK id bs vs ss os) (s : Sub bs bs') : BestOK id bs' vs ss os :=
  ⟨B.lv, B.ls, s _ _ B.val, s _ _ B.ord, s _ _ B.ptr, fun k hk => (B.each k hk).imp fun zs O => O.sub s⟩
theorem BestOK.leave {h h1 : Hp} {v : AV} (B : BestOK id h1.blks vs ss os) (hk : Hok h) (x : Elder h h1) (hid : id + 2 < h.next) : BestOK id (Abs.leave false h v h1).blks vs ss os := by
  have lk := leave_lk (v := v) hk x
  refine ⟨B.lv, B.ls, by rw [lk _ (by omega)]; exact B.val, by rw [lk _ (by omega)]; exact B.ord, by rw [lk _ (by omega)]; exact B.ptr, fun k hk3 => ?_⟩
  rcases leave_two (v := v) x with e | ⟨_, new, old, hb, hm, hn, hko, e⟩
  · rw [e]; exact B.each k hk3
  · have ho : lkB (Abs.leave false h v h1).blks (id + 1) = some { cells := ss, ch := id + 1, wr := true } := by rw [lk _ (by omega)]; exact B.ord
    rw [e] at ho lk ⊢
    have refs := (hko.get ho).2.2
    have hr : refOK h.next (ss.getD k .nilsl) = true := refsOK_iff.1 refs _ (by
      have : k < ss.length := by rw [B.ls]; exact hk3
      simp [List.getD_eq_getElem?_getD, List.getElem?_eq_getElem this])
    exact (B.each k hk3).imp fun zs O => O.lkid hr lk
end
theorem best_set {h0 h : Hp} {id k : Nat} {vs : List Int} {ss : List AV} {os : Nat → Option (Int × List Int)} {v : Int} {s : AV} {zs : List Int} (ho : Hok h0) (g : Grown h0 h) (hid : h0.next ≤ id) (B : BestOK id h.blks vs ss os) (hk : k < 3)
    (O : Own (id + 3) h.blks .i64 s zs) (hne : sBin .eql .slice s .nilsl = some (.bool false)) (hp : s.parts = some [s]) (hc : s.isCell = true) (hr : refOK h.next s = true) :
    ∃ h3 h4, sStore 1 h (.int .i64 v) (cellAt (.sl id 0 3 (some 3) 1) k) = some (.any, h3) ∧ sStore 1 h3 s (cellAt (.sl (id + 1) 0 3 (some 3) 1) k) = some (.any, h4) ∧
      lkB h3.blks (id + 2) = some { cells := [.sl id 0 3 (some 3) 1, .sl (id + 1) 0 3 (some 3) 1], ch := id + 2, wr := true } ∧
      Grown h0 h4 ∧ Elder h h4 ∧ K2 (id + 3) h.next h.blks h4.blks ∧ BestOK id h4.blks (vs.set k v) (ss.set k s) (fun j => if j = k then some (v, zs) else os j) := by
  obtain ⟨h3, e3, l3, g3, x3, n3, r3⟩ := av_set (v := .int .i64 v) (i := k) ho g B.val hid (by rw [ints_len, B.lv]; exact hk) rfl rfl rfl
  have o3 := r3 _ _ (by omega) (by simp) B.ord
  obtain ⟨h4, e4, l4, g4, x4, n4, r4⟩ := av_set (v := s) (i := k) ho g3 o3 (by omega) (by rw [B.ls]; exact hk) hp hc (by rw [n3]; exact hr)
  have kk : K2 (id + 3) h.next h.blks h4.blks := (K2.of (m := h.next) (show id < id + 3 by omega) r3).trans (K2.of (m := h3.next) (show id + 1 < id + 3 by omega) r4) (by omega)
  have hkk := g.ok ho
  refine ⟨h3, h4, ?_, ?_, r3 _ _ (by omega) (by simp) B.ptr, g4, x3.trans x4, kk, ⟨by simp [B.lv], by simp [B.ls], ?_, l4, r4 _ _ (by omega) (by simp) (r3 _ _ (by omega) (by simp) B.ptr), fun j hj => ?_⟩⟩
  · simpa [cellAt] using e3
  · simpa [cellAt] using e4
  · rw [r4 _ _ (by omega) (by simp) l3]
    congr 2
    simp [ints, List.map_set]
  · have lj := B.lv
    have lj2 := B.ls
    by_cases ej : j = k
    · subst ej
      rw [if_pos rfl]
      have e1 : (vs.set j v).getD j 0 = v := by simp [List.getD_eq_getElem?_getD, show j < vs.length by omega]
      have e2 : (ss.set j s).getD j .nilsl = s := by simp [List.getD_eq_getElem?_getD, show j < ss.length by omega]
      rw [e1, e2]
      exact ⟨rfl, hne, O.k2 hkk kk⟩
    · rw [if_neg ej]
      have e1 : (vs.set k v).getD j 0 = vs.getD j 0 := by simp [List.getD_eq_getElem?_getD, List.getElem?_set, Ne.symm ej]
      have e2 : (ss.set k s).getD j .nilsl = ss.getD j .nilsl := by simp [List.getD_eq_getElem?_getD, List.getElem?_set, Ne.symm ej]
      rw [e1, e2]
      exact (B.each j hj).imp fun zs O => O.k2 hkk kk
/- The costs, by their numbers. -/
def cK (E : List (Int × Int)) : Nat → List Int → Int
  | 0 => cBand E
  | 1 => cCut E
  | _ => cSum E
section
variable {n : Nat} {c : List Int → Int} {zs : List Int}
theorem Inv.keep {v : Int} {ws : List Int} (H : Ro.Inv n c (fun ys => bef ys zs) (some (v, ws))) (hp : PermI n zs) (h : v ≤ c zs) : Ro.Inv n c (fun ys => bef ys zs ∨ zs <+: ys) (some (v, ws)) := by
  have H : Hit n c (fun ys => bef ys zs) v ws := H
  have same : ∀ ys, PermI n ys → zs <+: ys → ys = zs := fun ys hy h => (h.eq_of_length (by rw [PermI.len hy, PermI.len hp])).symm
  refine (⟨H.perm, .inl H.pass, H.cost, fun ys hy hq => ?_, fun ys hy hq hc => ?_⟩ : Hit n c (fun ys => bef ys zs ∨ zs <+: ys) v ws)
  · rcases hq with hq | hq
    · exact H.low ys hy hq
    · rw [same ys hy hq]; exact h
  · rcases hq with hq | hq
    · exact H.first ys hy hq hc
    · rw [same ys hy hq]
      exact bef_asymm H.pass
theorem Inv.take {o : Option (Int × List Int)} (H : Ro.Inv n c (fun ys => bef ys zs) o) (hp : PermI n zs) (h : ∀ v ws, o = some (v, ws) → c zs < v) : Ro.Inv n c (fun ys => bef ys zs ∨ zs <+: ys) (some (c zs, zs)) := by
  have same : ∀ ys, PermI n ys → zs <+: ys → ys = zs := fun ys hy h => (h.eq_of_length (by rw [PermI.len hy, PermI.len hp])).symm
  refine (⟨hp, .inr (List.prefix_refl _), rfl, fun ys hy hq => ?_, fun ys hy hq hc hb => ?_⟩ : Hit n c (fun ys => bef ys zs ∨ zs <+: ys) (c zs) zs)
  · rcases hq with hq | hq
    · cases o with
      | none => exact absurd hq (H ys hy)
      | some p => exact Int.le_of_lt (Int.lt_of_lt_of_le (h p.1 p.2 rfl) (Hit.low H ys hy hq))
    · rw [same ys hy hq]; omega
  · rcases hq with hq | hq
    · cases o with
      | none => exact absurd hq (H ys hy)
      | some p => have := h p.1 p.2 rfl; have := Hit.low H ys hy hq; omega
    · rw [same ys hy hq] at hb; exact bef_irrefl _ hb
end
end Go.Ro
namespace Go.Proofs.Ytihadgkgogfhcaa
open Go Go.Abs Go.Pa Go.Ro

/- What a call leaves. -/
def LQ (n id : Nat) (E : List (Int × Int)) (h0 h : Hp) (b : List Nat) (v : AV) (h' : Hp) : Prop := v = .tu [] ∧ Grown h0 h' ∧ Elder h h' ∧ K2 (id + 3) h.next h.blks h'.blks ∧ ∃ vs sv os, BestOK id h'.blks vs sv os ∧ ∀ k, k < 3 → Ro.Inv n (cK E k) (fun ys => bef ys (ofN b) ∨ ofN b <+: ys) (os k)
theorem LQ.leave {n id : Nat} {E : List (Int × Int)} {h0 h h1 : Hp} {b : List Nat} {v : AV} (q : LQ n id E h0 h b v h1) (ho : Hok h0) (g : Grown h0 h) (hid : id + 2 < h.next) : LQ n id E h0 h b v (Abs.leave false h v h1) := by
  obtain ⟨rfl, g1, x, k, vs, sv, os, B, hi⟩ := q
  have hk := g.ok ho
  have gl := grown_leave (v := .tu []) rfl rfl g g1 ho x
  exact ⟨rfl, gl.1, gl.2, fun j d h1 h2 h3 h4 => by rw [leave_lk hk x _ h1]; exact k j d h1 h2 h3 h4, vs, sv, os, B.leave hk x hid, hi⟩

theorem f48 (n : Nat) (a : AV) (E : List (Int × Int)) (id : Nat) (h0 : Hp) (ho : Hok h0) (ha : Pairs h0.blks a E) (hE : E.length ≤ 100) (n0 : 0 < n) (n8 : n ≤ 8) (hO : EdgeOK n E) (hid : h0.next ≤ id) :
    ∀ (f : Nat) (b : List Nat) (s : AV) (h : Hp) (vs : List Int) (sv : List AV) (os : Nat → Option (Int × List Int)), b.length + f = n → (∀ x ∈ b, x < n) → b.Nodup → Grown h0 h → Own (id + 3) h.blks .i64 s (ofN b) → BestOK id h.blks vs sv os →
      (∀ k, k < 3 → Ro.Inv n (cK E k) (fun ys => bef ys (ofN b)) (os k)) →
      ∃ v h', Evals Try.prog tab false (.func 48) [.int .i64 n, a, s, .ptr (id + 2) 0] h (v, h') ∧ LQ n id E h0 h b v h' := by
  intro f
  induction f with
  | zero =>
    intro b s h vs sv os hlen hb2 hb3 g O B hinv
    have hk := g.ok ho
    have hidn : id + 2 < h.next := (hk.get B.ptr).1
    refine evals_two c48 (fun v h' => LQ n id E h0 h b v h') rfl ?_
    simp only [sf48, initS_cons, initS_nil]
    have lb : (ofN b).length = b.length := ofN_len
    have pm : PermI n (ofN b) := ⟨by omega, ofN_lt hb2, ofN_nodup hb3⟩
    have e0 : ((b.length : Int) == (n : Int)) = true := by simp; omega
    have ln := O.len
    rw [lb] at ln
    have ms := f21 a s n E (ofN b) h.en hk (ha.sub (g.sub ho)) O.ints n8 n0 hE hO pm
    simp (disch := first|(simp only [Nat.reduceBEq,wE];done)|((repeat' (first|assumption|exact mAx _|refine mBx ?_ ?_|exact mCx (by assumption)|refine mDx ?_|refine mEx ?_ ?_ ?_|exact mFx|refine mGx ?_ ?_ ?_|exact mHx|exact mIx _|(simp only [wM,Nat.reduceAdd,Nat.reduceLT,Nat.reduceLeDiff];done)));done)|omega|decide) only [ln, e0, callT ms, ↓wA,wB,wL,resOf,Nat.reduceBEq,Int.reduceBEq,Int.reduceBNe,Int.reduceLT,Int.reduceLE,Int.reduceAdd,Int.reduceSub,Int.reduceMul,Int.reduceToNat]
    refine wloop (fun mm ss => ∃ (k : Nat) (vs : List Int) (sv : List AV) (os : Nat → Option (Int × List Int)) (h1 : Hp) (u12 u13 u17 u26 u54 u73 u79 : AV), (mm = 3 - k) ∧ (k ≤ 3 ∧ Grown h0 h1 ∧ Elder h h1 ∧ K2 (id + 3) h.next h.blks h1.blks ∧ BestOK id h1.blks vs sv os ∧ (∀ j, j < 3 → j < k → Ro.Inv n (cK E j) (fun ys => bef ys (ofN b) ∨ ofN b <+: ys) (os j)) ∧ (∀ j, j < 3 → k ≤ j → Ro.Inv n (cK E j) (fun ys => bef ys (ofN b)) (os j))) ∧ ss = { fr := [(0, .int .i64 n), (1, a), (2, s), (3, .ptr (id + 2) 0), (8, .int .i64 (cBand E (ofN b))), (9, .int .i64 (cCut E (ofN b))), (10, .int .i64 (cSum E (ofN b))), (11, .int .i64 k), (12, u12), (13, u13), (17, u17), (26, u26), (54, u54), (73, u73), (79, u79)], hp := h1 }) (3) ?_ ?_
    ·
      refine ⟨0, vs, sv, os, h.en, _, _, _, _, _, _, _, by omega, ⟨by omega, g, Elder.en, K2.refl, B, fun j _ hj => absurd hj (by omega), fun j hj _ => hinv j hj⟩, rfl⟩
    clear hinv B vs sv os
    rintro nA sA ⟨k, vs, sv, os, h1, u12, u13, u17, u26, u54, u73, u79, hnA, ⟨hk3, g1, x1, kk1, B, hdone, htodo⟩, rfl⟩
    have k1 := g1.ok ho
    simp (disch := first|(simp only [Nat.reduceBEq,wE];done)|((repeat' (first|assumption|exact mAx _|refine mBx ?_ ?_|exact mCx (by assumption)|refine mDx ?_|refine mEx ?_ ?_ ?_|exact mFx|refine mGx ?_ ?_ ?_|exact mHx|exact mIx _|(simp only [wM,Nat.reduceAdd,Nat.reduceLT,Nat.reduceLeDiff];done)));done)|omega|decide) only [↓wA,wB,wL,resOf,Nat.reduceBEq,Int.reduceBEq,Int.reduceBNe,Int.reduceLT,Int.reduceLE,Int.reduceAdd,Int.reduceSub,Int.reduceMul,Int.reduceToNat]
    refine ifThen_intro (fun e => ?_) (fun e => ?_) <;> have eq := e <;> try simp [-List.getD_eq_getElem?_getD] at eq
    · obtain ⟨h2, eh2⟩ : ∃ h2, h2 = h1.pu (ints .i64 [cBand E (ofN b), cCut E (ofN b), cSum E (ofN b)]) := ⟨_, rfl⟩
      have g12 : Grown h1 h2 := by rw [eh2]; exact Grown.pu Grown.refl refsOK_ints
      have k2 := g12.ok k1
      have it : Ints h2.blks .i64 (.sl h1.next 0 3 (some 3) 1) [cBand E (ofN b), cCut E (ofN b), cSum E (ofN b)] := by rw [eh2]; exact Ints.top rfl (Nat.le_refl 3)
      have bsl : sBS [.int .i64 0] 3 1 h1 [(0, .int .i64 (cBand E (ofN b))), (1, .int .i64 (cCut E (ofN b))), (2, .int .i64 (cSum E (ofN b)))] = some (.sl h1.next 0 3 (some 3) 1, h2) := by rw [eh2]; exact sBS_i3
      clear eh2
      have kl : k < 3 := by omega
      have ck : [cBand E (ofN b), cCut E (ofN b), cSum E (ofN b)].getD k 0 = cK E k (ofN b) := by
        match k, kl with
        | 0, _ => rfl
        | 1, _ => rfl
        | 2, _ => rfl
      have ix0 : ∀ h' : Hp, sIxS 1 h' (some k) (.sl h1.next 0 3 (some 3) 1) = some (cellAt (.sl h1.next 0 3 (some 3) 1) k, h') := fun h' => it.ix h' (by simpa using kl)
      have ld0 : cellV h2.blks (.sl h1.next 0 3 (some 3) 1) k 0 = some (.int .i64 (cK E k (ofN b))) := by rw [it.ld (Sub.refl _) (by simpa using kl), ck]
      have B2 := B.sub (g12.sub k1)
      have ixv : ∀ h' : Hp, sIxS 1 h' (some k) (.sl id 0 3 (some 3) 1) = some (cellAt (.sl id 0 3 (some 3) 1) k, h') := fun h' => sIxS_sl kl
      have ixo : ∀ h' : Hp, sIxS 1 h' (some k) (.sl (id + 1) 0 3 (some 3) 1) = some (cellAt (.sl (id + 1) 0 3 (some 3) 1) k, h') := fun h' => sIxS_sl kl
      have ptr0 : ∀ {bs : List (Nat × Blk)}, lkB bs (id + 2) = some { cells := [.sl id 0 3 (some 3) 1, .sl (id + 1) 0 3 (some 3) 1], ch := id + 2, wr := true } → cellB bs (id + 2) 0 = some (.sl id 0 3 (some 3) 1) ∧ cellB bs (id + 2) 1 = some (.sl (id + 1) 0 3 (some 3) 1) := fun hl => by simp only [cellB, hl, Option.bind_some]; exact ⟨rfl, rfl⟩
      have p2 := ptr0 B2.ptr
      have ldo : cellV h2.blks (.sl (id + 1) 0 3 (some 3) 1) k 0 = some (sv.getD k .nilsl) := by
        simp only [cellV, cellB, B2.ord, Option.bind_some, Nat.zero_add, Nat.mul_one, Nat.add_zero]
        have := B2.ls
        simp [List.getD_eq_getElem?_getD, List.getElem?_eq_getElem (show k < sv.length by omega)]
      have ldv : cellV h2.blks (.sl id 0 3 (some 3) 1) k 0 = some (.int .i64 (vs.getD k 0)) := by
        simp only [cellV, cellB, B2.val, Option.bind_some, Nat.zero_add, Nat.mul_one, Nat.add_zero]
        exact ints_get (by rw [B2.lv]; exact kl)
      have old : ∀ {os' : Nat → Option (Int × List Int)}, (∀ j, j ≠ k → os' j = os j) → Ro.Inv n (cK E k) (fun ys => bef ys (ofN b) ∨ ofN b <+: ys) (os' k) → (∀ j, j < 3 → j < k + 1 → Ro.Inv n (cK E j) (fun ys => bef ys (ofN b) ∨ ofN b <+: ys) (os' j)) ∧ (∀ j, j < 3 → k + 1 ≤ j → Ro.Inv n (cK E j) (fun ys => bef ys (ofN b)) (os' j)) := fun hos hn => by
        refine ⟨fun j hj hjk => ?_, fun j hj hjk => ?_⟩
        · by_cases ej : j = k
          · subst ej; exact hn
          · rw [hos j ej]; exact hdone j hj (by omega)
        · rw [hos j (by omega)]; exact htodo j hj (by omega)
      -- a new one
      have hset : (∀ v ws, os k = some (v, ws) → cK E k (ofN b) < v) → ∃ s' h4 h5 h6, sApp true 1 (h2.pu []) (.sl h2.next 0 0 (some 0) 1) s = some (s', h4) ∧ sStore 1 h4 (.int .i64 (cK E k (ofN b))) (cellAt (.sl id 0 3 (some 3) 1) k) = some (.any, h5) ∧ sStore 1 h5 s' (cellAt (.sl (id + 1) 0 3 (some 3) 1) k) = some (.any, h6) ∧
          (cellB (h2.pu []).blks (id + 2) 0 = some (.sl id 0 3 (some 3) 1) ∧ cellB (h2.pu []).blks (id + 2) 1 = some (.sl (id + 1) 0 3 (some 3) 1)) ∧ (cellB h4.blks (id + 2) 0 = some (.sl id 0 3 (some 3) 1) ∧ cellB h4.blks (id + 2) 1 = some (.sl (id + 1) 0 3 (some 3) 1)) ∧ (cellB h5.blks (id + 2) 0 = some (.sl id 0 3 (some 3) 1) ∧ cellB h5.blks (id + 2) 1 = some (.sl (id + 1) 0 3 (some 3) 1)) ∧
          Grown h0 h6 ∧ Elder h h6 ∧ K2 (id + 3) h.next h.blks h6.blks ∧ BestOK id h6.blks (vs.set k (cK E k (ofN b))) (sv.set k s') (fun j => if j = k then some (cK E k (ofN b), ofN b) else os j) ∧ (∀ j, j < 3 → j < k + 1 → Ro.Inv n (cK E j) (fun ys => bef ys (ofN b) ∨ ofN b <+: ys) ((fun j => if j = k then some (cK E k (ofN b), ofN b) else os j) j)) ∧ (∀ j, j < 3 → k + 1 ≤ j → Ro.Inv n (cK E j) (fun ys => bef ys (ofN b)) ((fun j => if j = k then some (cK E k (ofN b), ofN b) else os j) j)) := fun hlt => by
        have g3 : Grown h1 (h2.pu []) := Grown.pu g12 rfl
        have O3 : Own h1.next (h2.pu []).blks .i64 (.sl h2.next 0 0 (some 0) 1) [] := Own.fresh g12.next rfl rfl rfl (Nat.le_refl _)
        have Os := (O.k2 hk kk1).sub (g3.sub k1)
        obtain ⟨s', h4, e4, o4, g4, _⟩ := own_appI (h0 := h1) (h := h2.pu []) k1 g3 O3 Os.ints (by rw [List.length_nil]; omega)
        rw [List.nil_append] at o4
        have k4 := g4.ok k1
        have g04 := GrownR.trans g1 g4
        have hid1 : id + 3 ≤ h1.next := (k1.get B.ptr).1
        have ne4 := ints_ne o4.ints (by omega)
        have cl := Arr.cell o4.ints
        obtain ⟨h5, h6, e5, e6, l5, g6, x6, kk6, B6⟩ := best_set (v := cK E k (ofN b)) ho g04 hid (B.sub (g4.sub k1)) kl (o4.le hid1) ne4 cl.1 cl.2 (o4.ref k4)
        have nw := old (os' := fun j => if j = k then some (cK E k (ofN b), ofN b) else os j) (fun j hj => if_neg hj) (by
          show Ro.Inv n (cK E k) _ (if k = k then some (cK E k (ofN b), ofN b) else os k)
          rw [if_pos rfl]
          exact (htodo k kl (Nat.le_refl _)).take pm hlt)
        exact ⟨s', h4, h5, h6, e4, e5, e6, ptr0 (g3.sub k1 _ _ B.ptr), ptr0 (g4.sub k1 _ _ B.ptr), ptr0 l5, g6, x1.trans ((GrownR.elder g4).trans x6), kk1.trans ((K2.sub (m := h1.next) (g4.sub k1)).trans kk6 g4.next) x1.next, B6, nw.1, nw.2⟩
      have each := B.each k kl
      cases eo : os k with
      | none =>
        obtain ⟨s', h4, h5, h6, e4, e5, e6, pa, pb, pc, g6, x6, kk6, B6, nd, nt⟩ := hset (fun v ws h => by rw [eo] at h; cases h)
        rw [eo] at each
        have nl : sv.getD k .nilsl = .nilsl := each
        rw [nl] at ldo
        simp (disch := first|(simp only [Nat.reduceBEq,wE];done)|((repeat' (first|assumption|exact mAx _|refine mBx ?_ ?_|exact mCx (by assumption)|refine mDx ?_|refine mEx ?_ ?_ ?_|exact mFx|refine mGx ?_ ?_ ?_|exact mHx|exact mIx _|(simp only [wM,Nat.reduceAdd,Nat.reduceLT,Nat.reduceLeDiff];done)));done)|omega|decide) only [e, bsl, ix0, ld0, wpOp_nil, sNilC_ptr, p2.1, p2.2, ixo, ldo, sBin_nil, e4, ixv, e5, e6, pa.1, pa.2, pb.1, pb.2, pc.1, pc.2, ↓wA,wB,wL,resOf,Nat.reduceBEq,Int.reduceBEq,Int.reduceBNe,Int.reduceLT,Int.reduceLE,Int.reduceAdd,Int.reduceSub,Int.reduceMul,Int.reduceToNat]
        refine ⟨_, ?_, k + 1, vs.set k (cK E k (ofN b)), sv.set k s', (fun j => if j = k then some (cK E k (ofN b), ofN b) else os j), h6, _, _, _, _, _, _, _, rfl, ?_, rfl⟩
        · omega
        exact ⟨by omega, g6, x6, kk6, B6, nd, nt⟩
      | some p =>
        obtain ⟨w, ws⟩ := p
        rw [eo] at each
        obtain ⟨hv, hne, _⟩ := each
        by_cases c : cK E k (ofN b) < w
        · obtain ⟨s', h4, h5, h6, e4, e5, e6, pa, pb, pc, g6, x6, kk6, B6, nd, nt⟩ := hset (fun v ws h => by rw [eo] at h; cases h; exact c)
          have ct : decide (cK E k (ofN b) < vs.getD k 0) = true := decide_eq_true (by rw [hv]; exact c)
          simp (disch := first|(simp only [Nat.reduceBEq,wE];done)|((repeat' (first|assumption|exact mAx _|refine mBx ?_ ?_|exact mCx (by assumption)|refine mDx ?_|refine mEx ?_ ?_ ?_|exact mFx|refine mGx ?_ ?_ ?_|exact mHx|exact mIx _|(simp only [wM,Nat.reduceAdd,Nat.reduceLT,Nat.reduceLeDiff];done)));done)|omega|decide) only [e, bsl, ix0, ld0, wpOp_nil, sNilC_ptr, p2.1, p2.2, ixo, ldo, hne, ixv, ldv, ct, e4, e5, e6, pa.1, pa.2, pb.1, pb.2, pc.1, pc.2, ↓wA,wB,wL,resOf,Nat.reduceBEq,Int.reduceBEq,Int.reduceBNe,Int.reduceLT,Int.reduceLE,Int.reduceAdd,Int.reduceSub,Int.reduceMul,Int.reduceToNat]
          refine ⟨_, ?_, k + 1, vs.set k (cK E k (ofN b)), sv.set k s', (fun j => if j = k then some (cK E k (ofN b), ofN b) else os j), h6, _, _, _, _, _, _, _, rfl, ?_, rfl⟩
          · omega
          exact ⟨by omega, g6, x6, kk6, B6, nd, nt⟩
        · have ct : decide (cK E k (ofN b) < vs.getD k 0) = false := decide_eq_false (by rw [hv]; exact c)
          have nw := old (os' := os) (fun _ _ => rfl) (by
            have := htodo k kl (Nat.le_refl _)
            rw [eo] at this ⊢
            exact this.keep pm (by omega))
          simp (disch := first|(simp only [Nat.reduceBEq,wE];done)|((repeat' (first|assumption|exact mAx _|refine mBx ?_ ?_|exact mCx (by assumption)|refine mDx ?_|refine mEx ?_ ?_ ?_|exact mFx|refine mGx ?_ ?_ ?_|exact mHx|exact mIx _|(simp only [wM,Nat.reduceAdd,Nat.reduceLT,Nat.reduceLeDiff];done)));done)|omega|decide) only [e, bsl, ix0, ld0, wpOp_nil, sNilC_ptr, p2.1, p2.2, ixo, ldo, hne, ixv, ldv, ct, ↓wA,wB,wL,resOf,Nat.reduceBEq,Int.reduceBEq,Int.reduceBNe,Int.reduceLT,Int.reduceLE,Int.reduceAdd,Int.reduceSub,Int.reduceMul,Int.reduceToNat]
          refine ⟨_, ?_, k + 1, vs, sv, os, h2, _, _, _, _, _, _, _, rfl, ?_, rfl⟩
          · omega
          exact ⟨by omega, GrownR.trans g1 g12, x1.trans (GrownR.elder g12), kk1.trans (K2.sub (m := h1.next) (g12.sub k1)) x1.next, B2, nw.1, nw.2⟩
    · simp (disch := first|(simp only [Nat.reduceBEq,wE];done)|((repeat' (first|assumption|exact mAx _|refine mBx ?_ ?_|exact mCx (by assumption)|refine mDx ?_|refine mEx ?_ ?_ ?_|exact mFx|refine mGx ?_ ?_ ?_|exact mHx|exact mIx _|(simp only [wM,Nat.reduceAdd,Nat.reduceLT,Nat.reduceLeDiff];done)));done)|omega|decide) only [e, ↓wA,wB,wL,resOf,Nat.reduceBEq,Int.reduceBEq,Int.reduceBNe,Int.reduceLT,Int.reduceLE,Int.reduceAdd,Int.reduceSub,Int.reduceMul,Int.reduceToNat]
      refine ⟨_, rfl, x1, ?_⟩
      exact LQ.leave ⟨rfl, g1, x1, kk1, vs, sv, os, B, fun j hj => hdone j hj (by omega)⟩ ho g hidn
  | succ f IH =>
    intro b s h vs sv os hlen hb2 hb3 g O B hinv
    have hk := g.ok ho
    have hidn : id + 2 < h.next := (hk.get B.ptr).1
    refine evals_two c48 (fun v h' => LQ n id E h0 h b v h') rfl ?_
    simp only [sf48, initS_cons, initS_nil]
    have lb : (ofN b).length = b.length := ofN_len
    have e0 : ((b.length : Int) == (n : Int)) = false := by simp; omega
    have ln := O.len
    rw [lb] at ln
    simp (disch := first|(simp only [Nat.reduceBEq,wE];done)|((repeat' (first|assumption|exact mAx _|refine mBx ?_ ?_|exact mCx (by assumption)|refine mDx ?_|refine mEx ?_ ?_ ?_|exact mFx|refine mGx ?_ ?_ ?_|exact mHx|exact mIx _|(simp only [wM,Nat.reduceAdd,Nat.reduceLT,Nat.reduceLeDiff];done)));done)|omega|decide) only [ln, e0, ↓wA,wB,wL,resOf,Nat.reduceBEq,Int.reduceBEq,Int.reduceBNe,Int.reduceLT,Int.reduceLE,Int.reduceAdd,Int.reduceSub,Int.reduceMul,Int.reduceToNat]
    refine wloop (fun mm ss => ∃ (x : Nat) (vs : List Int) (sv : List AV) (os : Nat → Option (Int × List Int)) (h1 : Hp) (u8 u9 u10 u11 u12 u17 u26 u54 u73 u79 : AV), (mm = n - x) ∧ (x ≤ n ∧ Grown h0 h1 ∧ Elder h h1 ∧ K2 (id + 3) h.next h.blks h1.blks ∧ BestOK id h1.blks vs sv os ∧ ∀ j, j < 3 → Ro.Inv n (cK E j) (at_ (ofN b) x) (os j)) ∧ ss = { fr := [(0, .int .i64 n), (1, a), (2, s), (3, .ptr (id + 2) 0), (8, u8), (9, u9), (10, u10), (11, u11), (12, u12), (13, .int .i64 x), (17, u17), (26, u26), (54, u54), (73, u73), (79, u79)], hp := h1 }) (n) ?_ ?_
    ·
      refine ⟨0, vs, sv, os, h.en, _, _, _, _, _, _, _, _, _, _, by omega, ⟨by omega, g, Elder.en, K2.refl, B, fun j hj => (hinv j hj).iff fun ys hy => (bef_zero (PermI.nonneg hy)).symm⟩, rfl⟩
    clear hinv B vs sv os
    rintro nA sA ⟨x, vs, sv, os, h1, u8, u9, u10, u11, u12, u17, u26, u54, u73, u79, hnA, ⟨hx, g1, x1, kk1, B, hinv⟩, rfl⟩
    have k1 := g1.ok ho
    have Os := O.k2 hk kk1
    simp (disch := first|(simp only [Nat.reduceBEq,wE];done)|((repeat' (first|assumption|exact mAx _|refine mBx ?_ ?_|exact mCx (by assumption)|refine mDx ?_|refine mEx ?_ ?_ ?_|exact mFx|refine mGx ?_ ?_ ?_|exact mHx|exact mIx _|(simp only [wM,Nat.reduceAdd,Nat.reduceLT,Nat.reduceLeDiff];done)));done)|omega|decide) only [↓wA,wB,wL,resOf,Nat.reduceBEq,Int.reduceBEq,Int.reduceBNe,Int.reduceLT,Int.reduceLE,Int.reduceAdd,Int.reduceSub,Int.reduceMul,Int.reduceToNat]
    refine ifThen_intro (fun e => ?_) (fun e => ?_) <;> have eq := e <;> try simp [-List.getD_eq_getElem?_getD] at eq
    · have ct := f44 s (ofN b) (x : Int) h1 k1 Os.ints (by omega)
      by_cases e1 : x ∈ b
      · rw [decide_eq_true (ofN_mem.2 e1)] at ct
        simp (disch := first|(simp only [Nat.reduceBEq,wE];done)|((repeat' (first|assumption|exact mAx _|refine mBx ?_ ?_|exact mCx (by assumption)|refine mDx ?_|refine mEx ?_ ?_ ?_|exact mFx|refine mGx ?_ ?_ ?_|exact mHx|exact mIx _|(simp only [wM,Nat.reduceAdd,Nat.reduceLT,Nat.reduceLeDiff];done)));done)|omega|decide) only [e, callT ct, ↓wA,wB,wL,resOf,Nat.reduceBEq,Int.reduceBEq,Int.reduceBNe,Int.reduceLT,Int.reduceLE,Int.reduceAdd,Int.reduceSub,Int.reduceMul,Int.reduceToNat]
        refine ⟨_, ?_, x + 1, vs, sv, os, h1, _, _, _, _, _, _, _, _, _, _, rfl, ?_, rfl⟩
        · omega
        exact ⟨by omega, g1, x1, kk1, B, fun j hj => (hinv j hj).skip (ofN_mem.2 e1)⟩
      · rw [decide_eq_false fun h => e1 (ofN_mem.1 h)] at ct
        have g3 : Grown h1 (h1.pu []) := Grown.pu Grown.refl rfl
        have O3 : Own h1.next (h1.pu []).blks .i64 (.sl h1.next 0 0 (some 0) 1) [] := Own.fresh (Nat.le_refl _) rfl rfl rfl (Nat.le_refl _)
        obtain ⟨s', h4, e4, o4, g4, _⟩ := own_appI (h0 := h1) (h := h1.pu []) k1 g3 O3 (Os.sub (g3.sub k1)).ints (by rw [List.length_nil]; omega)
        rw [List.nil_append] at o4
        obtain ⟨s5, h5, e5, o5, g5, _⟩ := own_app1 (v := (x : Int)) k1 g4 o4 (by omega)
        have hid1 : id + 3 ≤ h1.next := (k1.get B.ptr).1
        have of5 : ofN b ++ [(x : Int)] = ofN (b ++ [x]) := by rw [ofN_app]; rfl
        rw [of5] at o5
        have hb5 : ∀ y ∈ b ++ [x], y < n := fun y hy => by
          rcases List.mem_append.1 hy with hy | hy
          · exact hb2 y hy
          · rw [List.mem_singleton.1 hy]; omega
        have nd5 : (b ++ [x]).Nodup := List.nodup_append.2 ⟨hb3, by simp, fun p hp q hq e => by rw [List.mem_singleton.1 hq] at e; subst e; exact e1 hp⟩
        obtain ⟨v, h6, e6, rfl, g6, x6, kk6, vs', sv', os', B6, hi6⟩ := IH (b ++ [x]) s5 h5 vs sv os (by simp; omega) hb5 nd5 (GrownR.trans g1 g5) (o5.le hid1) (B.sub (g5.sub k1)) (fun j hj => by
          have := hinv j hj
          unfold at_ at this
          rw [of5] at this
          exact this)
        have nx : ∀ j, j < 3 → Ro.Inv n (cK E j) (at_ (ofN b) (x + 1)) (os' j) := fun j hj => (hi6 j hj).iff fun ys hy => by
          rw [at_next]
          unfold at_
          rw [of5]
        simp (disch := first|(simp only [Nat.reduceBEq,wE];done)|((repeat' (first|assumption|exact mAx _|refine mBx ?_ ?_|exact mCx (by assumption)|refine mDx ?_|refine mEx ?_ ?_ ?_|exact mFx|refine mGx ?_ ?_ ?_|exact mHx|exact mIx _|(simp only [wM,Nat.reduceAdd,Nat.reduceLT,Nat.reduceLeDiff];done)));done)|omega|decide) only [e, callT ct, e4, e5, callT e6, ↓wA,wB,wL,resOf,Nat.reduceBEq,Int.reduceBEq,Int.reduceBNe,Int.reduceLT,Int.reduceLE,Int.reduceAdd,Int.reduceSub,Int.reduceMul,Int.reduceToNat]
        refine ⟨_, ?_, x + 1, vs', sv', os', h6, _, _, _, _, _, _, _, _, _, _, rfl, ?_, rfl⟩
        · omega
        exact ⟨by omega, g6, x1.trans ((GrownR.elder g5).trans x6), kk1.trans ((K2.sub (m := h1.next) (g5.sub k1)).trans kk6 g5.next) x1.next, B6, nx⟩
    · simp (disch := first|(simp only [Nat.reduceBEq,wE];done)|((repeat' (first|assumption|exact mAx _|refine mBx ?_ ?_|exact mCx (by assumption)|refine mDx ?_|refine mEx ?_ ?_ ?_|exact mFx|refine mGx ?_ ?_ ?_|exact mHx|exact mIx _|(simp only [wM,Nat.reduceAdd,Nat.reduceLT,Nat.reduceLeDiff];done)));done)|omega|decide) only [e, ↓wA,wB,wL,resOf,Nat.reduceBEq,Int.reduceBEq,Int.reduceBNe,Int.reduceLT,Int.reduceLE,Int.reduceAdd,Int.reduceSub,Int.reduceMul,Int.reduceToNat]
      refine ⟨_, rfl, x1, ?_⟩
      refine LQ.leave ⟨rfl, g1, x1, kk1, vs, sv, os, B, fun j hj => (hinv j hj).iff fun ys hy => ?_⟩ ho g hidn
      unfold at_
      rw [show x = n by omega]
      exact bef_full (PermI.lt hy) (by rw [PermI.len hy, lb]; omega)

/- All the orders were looked at. -/
def AllQ (h : Hp) (n : Nat) (E : List (Int × Int)) (v : AV) (h' : Hp) : Prop := ∃ id vs sv os, h.next ≤ id ∧ v = .ptr (id + 2) 0 ∧ BestOK id h'.blks vs sv os ∧ ∀ k, k < 3 → ∃ val zs, os k = some (val, zs) ∧ Least n (cK E k) val zs
theorem f27 (n : Nat) (a : AV) (E : List (Int × Int)) (h : Hp) (hk : Hok h) (ha : Pairs h.blks a E) (hE : E.length ≤ 100) (n0 : 0 < n) (n8 : n ≤ 8) (hO : EdgeOK n E) :
    ∃ v h', Evals Try.prog tab false (.func 27) [.int .i64 n, a] h (v, h') ∧ Grown h h' ∧ AllQ h n E v h' := by
  refine evals_q c27 (fun v h' => AllQ h n E v h') rfl hk ?_ (fun v h1 g q => by
    obtain ⟨id, vs, sv, os, hid, rfl, B, hl⟩ := q
    refine ⟨fun r => ?_, fun r => ⟨id, vs, sv, os, hid, rfl, B, hl⟩⟩
    have : id + 2 < h.next := by simpa [refOK, Nat.blt_eq] using r
    omega)
  simp only [sf27, initS_cons, initS_nil]
  have mk1 := sMks_ok (h := h.en) (z := [.int .i64 0]) (n := 1) (l := 3) (c := 3) (Nat.le_refl _) (by omega)
  have mk2 := sMks_ok (h := h.en.pu (repl [.int .i64 0] 3)) (z := [.nilsl]) (n := 1) (l := 3) (c := 3) (Nat.le_refl _) (by omega)
  obtain ⟨h1, eh1⟩ : ∃ h1, h1 = ((h.en.pu (ints .i64 [0, 0, 0])).pu [.nilsl, .nilsl, .nilsl]).pu [.sl h.next 0 3 (some 3) 1, .sl (h.next + 1) 0 3 (some 3) 1] := ⟨_, rfl⟩
  have g1 : Grown h h1 := by
    rw [eh1]
    exact Grown.pu (Grown.pu (Grown.pu Grown.en refsOK_ints) rfl) (by simp only [refsOK_cons, refsOK_nil, refOK, Nat.blt_eq, Bool.and_true, Bool.and_eq_true]; omega)
  have k1 := g1.ok hk
  have n1 : h1.next = h.next + 3 := by rw [eh1]
  have bd : sBuild [AV.nilsl, .nilsl] [(0, 1), (1, 1)] [(0, .sl h.next 0 3 (some 3) 1), (1, .sl (h.next + 1) 0 3 (some 3) 1)] = some (.ag [.sl h.next 0 3 (some 3) 1, .sl (h.next + 1) 0 3 (some 3) 1]) := rfl
  have bx : sBox ((h.en.pu (ints .i64 [0, 0, 0])).pu [.nilsl, .nilsl, .nilsl]) (.ag [.sl h.next 0 3 (some 3) 1, .sl (h.next + 1) 0 3 (some 3) 1]) = some (.ptr (h.next + 2) 0, h1) := by rw [eh1]; rfl
  have B1 : BestOK h.next h1.blks [0, 0, 0] [.nilsl, .nilsl, .nilsl] (fun _ => none) := by
    rw [eh1]
    refine ⟨rfl, rfl, by rw [lkB_push (by simp; omega), lkB_push (by simp), lkB_top], by rw [lkB_push (by simp), lkB_top], lkB_top, fun k hk3 => ?_⟩
    match k, hk3 with
    | 0, _ => rfl
    | 1, _ => rfl
    | 2, _ => rfl
  have g2 : Grown h (h1.pu []) := Grown.pu g1 rfl
  have O : Own (h.next + 3) (h1.pu []).blks .i64 (.sl h1.next 0 0 (some 0) 1) (ofN []) := Own.fresh (by omega) rfl rfl rfl (Nat.le_refl _)
  clear eh1
  obtain ⟨v, h3, e3, rfl, g3, x3, _, vs, sv, os, B3, hi3⟩ := f48 n a E h.next h hk ha hE n0 n8 hO (Nat.le_refl _) n [] (.sl h1.next 0 0 (some 0) 1) (h1.pu []) [0, 0, 0] [.nilsl, .nilsl, .nilsl] (fun _ => none) (by simp) (by simp) List.nodup_nil g2 O (B1.sub (Sub.pu k1)) (fun k _ ys hy hb => bef_nil hb)
  have i3 : int? (.int .i64 3) = some ((3 : Nat) : Int) := rfl
  have mk1' : sMks [.int .i64 0] 1 h.en (some 3) (some 3) = some (.sl h.next 0 3 (some 3) 1, h.en.pu (ints .i64 [0, 0, 0])) := mk1
  have mk2' : sMks [.nilsl] 1 (h.en.pu (ints .i64 [0, 0, 0])) (some 3) (some 3) = some (.sl (h.next + 1) 0 3 (some 3) 1, (h.en.pu (ints .i64 [0, 0, 0])).pu [.nilsl, .nilsl, .nilsl]) := mk2
  simp (disch := first|(simp only [Nat.reduceBEq,wE];done)|((repeat' (first|assumption|exact mAx _|refine mBx ?_ ?_|exact mCx (by assumption)|refine mDx ?_|refine mEx ?_ ?_ ?_|exact mFx|refine mGx ?_ ?_ ?_|exact mHx|exact mIx _|(simp only [wM,Nat.reduceAdd,Nat.reduceLT,Nat.reduceLeDiff];done)));done)|omega|decide) only [mk1', mk2', bd, bx, callT e3, ↓wA,wB,wL,resOf,Nat.reduceBEq,Int.reduceBEq,Int.reduceBNe,Int.reduceLT,Int.reduceLE,Int.reduceAdd,Int.reduceSub,Int.reduceMul,Int.reduceToNat]
  refine ⟨_, rfl, g3, h.next, vs, sv, os, Nat.le_refl _, rfl, B3, fun k hk3 => ?_⟩
  have hd := (hi3 k hk3).iff (Q := fun _ => True) fun ys _ => by simp [ofN]
  cases eo : os k with
  | none => rw [eo] at hd; exact absurd trivial (hd _ (perm_id n))
  | some p => rw [eo] at hd; exact ⟨p.1, p.2, rfl, hd⟩
end Go.Proofs.Ytihadgkgogfhcaa
