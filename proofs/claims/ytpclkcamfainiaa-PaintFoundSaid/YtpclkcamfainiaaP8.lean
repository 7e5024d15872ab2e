/- Colourings, one place at a time. -/
import Derived.Test.YtpclkcamfainiaaP4
import Derived.Test.YtpclkcamfainiaaSY
set_option linter.unusedSimpArgs false
set_option linter.unusedVariables false
set_option maxHeartbeats 4000000
set_option maxRecDepth 20000
namespace Go.Abs
/-- What holds of blocks that are made at d or later, in chains of their own. -/
def Kept (d : Nat) (bs bs' : List (Nat × Blk)) : Prop := ∀ i b, d ≤ i → d ≤ b.ch → lkB bs i = some b → lkB bs' i = some b
theorem OwnK.keep {c id cap : Nat} {bs bs' : List (Nat × Blk)} {zs : List Int} (O : OwnK c bs id cap zs) (h : Kept c bs bs') : OwnK c bs' id cap zs := by
  obtain ⟨b, h1, h2, h3, h4, h5, h6⟩ := O
  exact ⟨b, h _ _ h4 h5 h1, h2, h3, h4, h5, h6⟩
theorem OwnA.keep {sz c n : Nat} {bs bs' : List (Nat × Blk)} {s : AV} {cs : List AV} (O : OwnA sz c bs s n cs) (h : Kept c bs bs') : OwnA sz c bs' s n cs := by
  obtain ⟨hl, O | ⟨id, b, cap, h1, h2, h3, h4, h5, h6⟩⟩ := O
  · exact ⟨hl, .inl O⟩
  · exact ⟨hl, .inr ⟨id, b, cap, h1, h _ _ h4 h5 h2, h3, h4, h5, h6⟩⟩
/-- A variable's block, made at d or later. -/
def BoxD (d : Nat) (bs : List (Nat × Blk)) (id : Nat) (cs : List AV) : Prop := ∃ c w, lkB bs id = some { cells := cs, ch := c, wr := w } ∧ d ≤ id ∧ d ≤ c
theorem BoxD.box {d id : Nat} {bs : List (Nat × Blk)} {cs : List AV} (B : BoxD d bs id cs) : Box bs id cs := by
  obtain ⟨c, w, e, _⟩ := B
  exact ⟨c, w, e⟩
theorem BoxD.sub {d id : Nat} {bs bs' : List (Nat × Blk)} {cs : List AV} (B : BoxD d bs id cs) (s : Sub bs bs') : BoxD d bs' id cs := by
  obtain ⟨c, w, e, h⟩ := B
  exact ⟨c, w, s _ _ e, h⟩
theorem BoxD.le {d d' id : Nat} {bs : List (Nat × Blk)} {cs : List AV} (B : BoxD d bs id cs) (h : d' ≤ d) : BoxD d' bs id cs := by
  obtain ⟨c, w, e, h1, h2⟩ := B
  exact ⟨c, w, e, by omega, by omega⟩
theorem BoxD.keep {d id : Nat} {bs bs' : List (Nat × Blk)} {cs : List AV} (B : BoxD d bs id cs) (h : Kept d bs bs') : BoxD d bs' id cs := by
  obtain ⟨c, w, e, h1, h2⟩ := B
  exact ⟨c, w, h _ _ h1 h2 e, h1, h2⟩
end Go.Abs
namespace Go.Pt
open Go Go.Abs
/-- The colourings that begin with one. -/
def colsL (F : List Int → Bool) (A : List Int → List (List Int)) (zs : List Int) : Nat → Nat → List (List Int)
  | 0, _ => []
  | k + 1, i => (if F (zs ++ [(i : Int)]) = true then A (zs ++ [(i : Int)]) else []) ++ colsL F A zs k (i + 1)
def allC (F : List Int → Bool) (r : Nat) : Nat → List Int → List (List Int)
  | 0, zs => [zs]
  | f + 1, zs => colsL F (allC F r f) zs r 0
/-- They are given to a loop's body until it ends. -/
def runC' {σ : Type} (step : σ → List Int → Option σ) : σ → List (List Int) → σ ⊕ (σ × List Int)
  | s, [] => .inl s
  | s, zs :: l => match step s zs with
    | some s' => runC' step s' l
    | none => .inr (s, zs)
theorem runC_app {σ : Type} {step : σ → List Int → Option σ} : ∀ {l m : List (List Int)} {s : σ}, runC' step s (l ++ m) = match runC' step s l with
    | .inl s' => runC' step s' m
    | .inr x => .inr x
  | [], m, s => rfl
  | zs :: l, m, s => by
    simp only [List.cons_append, runC']
    cases step s zs with
    | none => rfl
    | some s' => exact runC_app
/-- What is asked of a loop's body, and of what is called. -/
structure ColY (P : Program) (T : Tab) (σ : Type) (c1 ff l N0 i1 i2 i3 i4 size r : Nat) (cs : List AV) (F : List Int → Bool) (B : σ → Hp) (step : σ → List Int → Option σ) (Fin : σ → List Int → Hp → Prop) : Prop where
  ok : ∀ s, Hok (B s)
  nx : ∀ s, (B s).next = N0
  len : ∀ s s', (B s).blks.length = (B s').blks.length
  b1 : ∀ s, Box (B s).blks i1 [.int .i64 size]
  b2 : ∀ s, Box (B s).blks i2 [.int .i64 r]
  b3 : ∀ s, Box (B s).blks i3 [.fn (.func ff) [] cs]
  b4 : ∀ s, Box (B s).blks i4 [.fn (.func c1) [] [.ptr i1 0, .ptr i2 0, .ptr i3 0, .ptr i4 0]]
  free : ∀ s zs h id, Grown (B s) h → OwnK N0 h.blks id size zs → 0 < zs.length → (∀ z ∈ zs, 0 ≤ z ∧ z < r) → Evals P T false (.func ff) (.sl id 0 zs.length (some size) 1 :: cs) h (.bool (F zs), h)
  yld : ∀ s zs h a, Grown (B s) h → Own N0 h.blks .i64 a zs → a ≠ .nilsl → zs.length = size → ∃ b h', Evals P T false (.yield l) [a] h (b, h') ∧ Elder h h' ∧
    (match step s zs with | some s' => b = .bool true ∧ Grown (B s') h' ∧ (∀ i d, N0 ≤ i → N0 ≤ d.ch → lkB h.blks i = some d → lkB h'.blks i = some d) | none => b = .bool false ∧ Fin s zs h')
  fin : ∀ s s' zs h h1 v, Grown (B s) h → Elder h h1 → Fin s' zs h1 → Fin s' zs (leave false h v h1)
end Go.Pt
namespace Go.Proofs.Ytpclkcamfainiaa
open Go Go.Abs Go.Pt

theorem clone_any (a : AV) (zs : List Int) (h : Hp) (hk : Hok h) (ha : Ints h.blks .i64 a zs) (hz : zs.length ≤ 1000) (h0 : a ≠ .nilsl) :
    ∃ v h', Evals Try.prog tab false (.func 61) [a] h (v, h') ∧ Grown h h' ∧ (Own h.next h'.blks .i64 v zs ∧ v ≠ .nilsl) := by
  by_cases hp : 0 < zs.length
  · exact f61 a zs h hk ha hz hp
  · have hz0 : zs = [] := List.length_eq_zero_iff.1 (by omega)
    subst hz0
    refine evals_q c61 (fun v h' => Own h.next h'.blks .i64 v [] ∧ v ≠ .nilsl) rfl hk ?_ (fun v h1 g q => ⟨fun hr => ⟨q.1.leave.1 hr, q.2⟩, fun hr => ⟨q.1.leave.2 hr, q.2⟩⟩)
    simp only [sf61, initS_cons, initS_nil]
    have hne : sBin .eql .slice a .nilsl = some (.bool false) := by
      obtain ⟨hl, ⟨_, rfl | rfl⟩ | ⟨id, off, cap, rfl, _⟩⟩ := ha
      · exact absurd rfl h0
      · rfl
      · rfl
    have ab : Ints (h.en.pu []).blks .i64 a [] := ha.sub (Sub.pu (h := h.en) hk)
    have O : Own h.next (h.en.pu []).blks .i64 (.sl h.next 0 0 (some 0) 1) [] := Own.fresh (Nat.le_refl _) rfl rfl rfl (Nat.le_refl _)
    have e : sApp true 1 (h.en.pu []) (.sl h.next 0 0 (some 0) 1) a = some (.sl h.next 0 0 (some 0) 1, h.en.pu []) := by
      have hsrc := Arr.src ab (by omega) (h.en.pu []) rfl
      simp only [sApp, hsrc]
      rfl
    simp (disch := first | (simp only [Nat.reduceBEq, elem_hit, elem_miss, elem_nil]; done) | ((repeat' (first | assumption | exact Sub.refl _ | refine Sub.push ?_ ?_ | exact HokR.fresh (by assumption) | refine Fresh.push ?_ | refine HokR.push ?_ ?_ ?_ | exact Grown.refl | refine GrownR.push ?_ ?_ ?_ | exact refsOK_ints | exact refsOK_pairs | exact Nat.le_refl _ | (simp only [wM, Nat.reduceAdd, Nat.reduceLT, Nat.reduceLeDiff]; done))); done) | omega | decide) only [hne, e, wrap_i64, idx?_pos, Int.toNat_natCast, ↓wA, wB, resOf, Option.map_some, Option.map_none, List.map_cons, List.map_nil, List.nil_append, List.append_nil, List.cons_append, Nat.reduceBEq, List.getElem?_cons_zero, List.getElem?_cons_succ, List.getElem?_nil, Option.getD_some, Option.getD_none, cond_false, cond_true, and_true, true_and, Nat.zero_add, Nat.mul_one, Int.reduceBEq, Int.reduceBNe, Int.reduceLT, Int.reduceLE, Int.reduceAdd, Int.reduceSub, Int.reduceMul, decide_true, decide_false, Bool.not_true, Bool.not_false, beq_self_eq_true, bne_self_eq_false, and_self, List.isEmpty_nil, List.isEmpty_cons, Bool.true_or, Bool.false_or, List.set_cons_zero, List.set_cons_succ, List.length_cons, List.length_nil, Option.bind_some, List.all_cons, List.all_nil, Bool.or_true, Bool.true_and, Bool.and_true, Int.reduceToNat]
    exact ⟨_, rfl, Grown.pu Grown.en rfl, O, fun e => by cases e⟩

theorem f60 {σ : Type} (ff l N0 i1 i2 i3 i4 size r : Nat) (cs : List AV) (F : List Int → Bool) (B : σ → Hp) (step : σ → List Int → Option σ) (Fin : σ → List Int → Hp → Prop)
    (Y : ColY Try.prog tab σ 60 ff l N0 i1 i2 i3 i4 size r cs F B step Fin) (hs : size ≤ 1000) (hr : r ≤ 1000) :
    ∀ (f : Nat) (zs : List Int) (s : σ) (h : Hp) (id : Nat), zs.length + f = size → Grown (B s) h → OwnK N0 h.blks id size zs → (∀ z ∈ zs, 0 ≤ z ∧ z < r) →
    ∃ b h', Evals Try.prog tab false (.func 60) [.sl id 0 zs.length (some size) 1, .yld l, .ptr i1 0, .ptr i2 0, .ptr i3 0, .ptr i4 0] h (b, h') ∧ (Elder h h' ∧
      (match runC' step s (allC F r f zs) with
        | .inl s' => b = .bool true ∧ Grown (B s') h' ∧ OwnK N0 h'.blks id size zs
        | .inr (s', ys) => b = .bool false ∧ Fin s' ys h')) := by
  intro f
  induction f with
  | zero =>
    intro zs s h id hlen g O hzr
    have hk := g.ok (Y.ok s)
    have hN := Y.nx s
    have sB := g.sub (Y.ok s)
    have x1 := ((Y.b1 s).sub sB).ld (Sub.refl _) (j := 0)
    obtain ⟨a, h1, ev, g1, o1, n1⟩ := clone_any (.sl id 0 zs.length (some size) 1) zs h.en hk O.own.ints (by omega) (by intro e; cases e)
    have gh1 : Grown h h1 := GrownR.of_en g1
    have gB1 : Grown (B s) h1 := GrownR.trans g gh1
    obtain ⟨b, h2, ey, el, q⟩ := Y.yld s zs h1 a gB1 (o1.le (by have := g.next; rw [hN] at this; exact this)) n1 (by omega)
    have e0 : ((zs.length : Int) == (size : Int)) = true := by simp; omega
    have elh : Elder h h2 := (GrownR.elder gh1).trans el
    have hid : id < h.next := by
      obtain ⟨b, hb, _⟩ := O
      exact (hk.get hb).1
    refine evals_two c60 (fun b h' => Elder h h' ∧ (match runC' step s (allC F r 0 zs) with
        | .inl s' => b = .bool true ∧ Grown (B s') h' ∧ OwnK N0 h'.blks id size zs
        | .inr (s', ys) => b = .bool false ∧ Fin s' ys h')) rfl ?_
    simp only [sf60, initS_cons, initS_nil]
    simp (disch := first | (simp only [Nat.reduceBEq, elem_hit, elem_miss, elem_nil]; done) | ((repeat' (first | assumption | exact Sub.refl _ | refine Sub.push ?_ ?_ | exact HokR.fresh (by assumption) | refine Fresh.push ?_ | refine HokR.push ?_ ?_ ?_ | exact Grown.refl | refine GrownR.push ?_ ?_ ?_ | exact refsOK_ints | exact refsOK_pairs | exact Nat.le_refl _ | (simp only [wM, Nat.reduceAdd, Nat.reduceLT, Nat.reduceLeDiff]; done))); done) | omega | decide) only [O.own.len, x1, e0, callT ev, callYT ey, wrap_i64, idx?_pos, Int.toNat_natCast, ↓wA, wB, resOf, Option.map_some, Option.map_none, List.map_cons, List.map_nil, List.nil_append, List.append_nil, List.cons_append, Nat.reduceBEq, List.getElem?_cons_zero, List.getElem?_cons_succ, List.getElem?_nil, Option.getD_some, Option.getD_none, cond_false, cond_true, and_true, true_and, Nat.zero_add, Nat.mul_one, Int.reduceBEq, Int.reduceBNe, Int.reduceLT, Int.reduceLE, Int.reduceAdd, Int.reduceSub, Int.reduceMul, decide_true, decide_false, Bool.not_true, Bool.not_false, beq_self_eq_true, bne_self_eq_false, and_self, List.isEmpty_nil, List.isEmpty_cons, Bool.true_or, Bool.false_or, List.set_cons_zero, List.set_cons_succ, List.length_cons, List.length_nil, Option.bind_some, List.all_cons, List.all_nil, Bool.or_true, Bool.true_and, Bool.and_true, Int.reduceToNat]
    refine ⟨_, rfl, elh, ?_⟩
    simp only [allC, runC']
    cases hst : step s zs with
    | some s' =>
      rw [hst] at q
      obtain ⟨rfl, g2, same⟩ := q
      have gl := grown_leave (v := .bool true) (by rw [Y.nx, Y.nx]) (Y.len s' s) g g2 (Y.ok s') elh
      refine ⟨gl.2, rfl, gl.1, ?_⟩
      refine O.keep fun i d hi1 hi2 hd => ?_
      show lkB (leave false h (.bool true) h2).blks i = _
      have hi := (hk.get hd).1
      rw [leave_lk hk elh i hi]
      exact same i d hi1 hi2 (by rw [gh1.lkB hi]; exact hd)
    | none =>
      rw [hst] at q
      obtain ⟨rfl, q2⟩ := q
      exact ⟨(elder_leave elh), rfl, Y.fin s s zs h h2 _ g elh q2⟩
  | succ f IH =>
    intro zs s h id hlen g O hzr
    have hk := g.ok (Y.ok s)
    have hN := Y.nx s
    have sB := g.sub (Y.ok s)
    have x1 := ((Y.b1 s).sub sB).ld (Sub.refl _) (j := 0)
    have x2 := ((Y.b2 s).sub sB).ld (Sub.refl _) (j := 0)
    have e0 : ((zs.length : Int) == (size : Int)) = false := by simp; omega
    have hid : id < h.next := by
      obtain ⟨b, hb, _⟩ := O
      exact (hk.get hb).1
    refine evals_two c60 (fun b h' => Elder h h' ∧ (match runC' step s (allC F r (f + 1) zs) with
        | .inl s' => b = .bool true ∧ Grown (B s') h' ∧ OwnK N0 h'.blks id size zs
        | .inr (s', ys) => b = .bool false ∧ Fin s' ys h')) rfl ?_
    simp only [sf60, initS_cons, initS_nil]
    simp (disch := first | (simp only [Nat.reduceBEq, elem_hit, elem_miss, elem_nil]; done) | ((repeat' (first | assumption | exact Sub.refl _ | refine Sub.push ?_ ?_ | exact HokR.fresh (by assumption) | refine Fresh.push ?_ | refine HokR.push ?_ ?_ ?_ | exact Grown.refl | refine GrownR.push ?_ ?_ ?_ | exact refsOK_ints | exact refsOK_pairs | exact Nat.le_refl _ | (simp only [wM, Nat.reduceAdd, Nat.reduceLT, Nat.reduceLeDiff]; done))); done) | omega | decide) only [O.own.len, x1, x2, e0, wrap_i64, idx?_pos, Int.toNat_natCast, ↓wA, wB, resOf, Option.map_some, Option.map_none, List.map_cons, List.map_nil, List.nil_append, List.append_nil, List.cons_append, Nat.reduceBEq, List.getElem?_cons_zero, List.getElem?_cons_succ, List.getElem?_nil, Option.getD_some, Option.getD_none, cond_false, cond_true, and_true, true_and, Nat.zero_add, Nat.mul_one, Int.reduceBEq, Int.reduceBNe, Int.reduceLT, Int.reduceLE, Int.reduceAdd, Int.reduceSub, Int.reduceMul, decide_true, decide_false, Bool.not_true, Bool.not_false, beq_self_eq_true, bne_self_eq_false, and_self, List.isEmpty_nil, List.isEmpty_cons, Bool.true_or, Bool.false_or, List.set_cons_zero, List.set_cons_succ, List.length_cons, List.length_nil, Option.bind_some, List.all_cons, List.all_nil, Bool.or_true, Bool.true_and, Bool.and_true, Int.reduceToNat]
    refine wloop (fun mm ss => ∃ (i : Nat) (s3 : σ) (h3 : Hp) (u8 u9 u10 u14 u21 u36 : AV), (mm = r - i) ∧ (i ≤ r ∧ Grown (B s3) h3 ∧ Elder h h3 ∧ OwnK N0 h3.blks id size zs ∧ runC' step s (allC F r (f + 1) zs) = runC' step s3 (colsL F (allC F r f) zs (r - i) i)) ∧ ss = { fr := [(0, .sl id 0 zs.length (some size) 1), (1, .yld l), (2, .ptr i1 0), (3, .ptr i2 0), (4, .ptr i3 0), (5, .ptr i4 0), (8, u8), (9, u9), (10, u10), (14, u14), (19, .int .i64 r), (20, .int .i64 i), (21, u21), (36, u36)], hp := h3 }) (r) ?_ ?_
    ·
      refine ⟨0, s, h.en, _, _, _, _, _, _, by omega, ⟨by omega, g, Elder.en, O, rfl⟩, rfl⟩
    rintro nA sA ⟨i, s3, h3, u8, u9, u10, u14, u21, u36, hnA, ⟨hi, g3, x3, O3, hrun⟩, rfl⟩
    have k3 := g3.ok (Y.ok s3)
    simp (disch := first | (simp only [Nat.reduceBEq, elem_hit, elem_miss, elem_nil]; done) | ((repeat' (first | assumption | exact Sub.refl _ | refine Sub.push ?_ ?_ | exact HokR.fresh (by assumption) | refine Fresh.push ?_ | refine HokR.push ?_ ?_ ?_ | exact Grown.refl | refine GrownR.push ?_ ?_ ?_ | exact refsOK_ints | exact refsOK_pairs | exact Nat.le_refl _ | (simp only [wM, Nat.reduceAdd, Nat.reduceLT, Nat.reduceLeDiff]; done))); done) | omega | decide) only [wrap_i64, idx?_pos, Int.toNat_natCast, ↓wA, wB, resOf, Option.map_some, Option.map_none, List.map_cons, List.map_nil, List.nil_append, List.append_nil, List.cons_append, Nat.reduceBEq, List.getElem?_cons_zero, List.getElem?_cons_succ, List.getElem?_nil, Option.getD_some, Option.getD_none, cond_false, cond_true, and_true, true_and, Nat.zero_add, Nat.mul_one, Int.reduceBEq, Int.reduceBNe, Int.reduceLT, Int.reduceLE, Int.reduceAdd, Int.reduceSub, Int.reduceMul, decide_true, decide_false, Bool.not_true, Bool.not_false, beq_self_eq_true, bne_self_eq_false, and_self, List.isEmpty_nil, List.isEmpty_cons, Bool.true_or, Bool.false_or, List.set_cons_zero, List.set_cons_succ, List.length_cons, List.length_nil, Option.bind_some, List.all_cons, List.all_nil, Bool.or_true, Bool.true_and, Bool.and_true, Int.reduceToNat]
    refine ifThen_intro (fun e => ?_) (fun e => ?_) <;> have eq := e <;> try simp [-List.getD_eq_getElem?_getD] at eq
    · have ec : colsL F (allC F r f) zs (r - i) i = (if F (zs ++ [(i : Int)]) = true then allC F r f (zs ++ [(i : Int)]) else []) ++ colsL F (allC F r f) zs (r - (i + 1)) (i + 1) := by
        rw [show r - i = (r - (i + 1)) + 1 by omega, colsL]
      obtain ⟨h4, e4, o4, g4, x4⟩ := appK (v := (i : Int)) (Y.ok s3) g3 (by rw [Y.nx]; exact O3) (by omega) hs
      rw [Y.nx] at o4
      have hzr' : ∀ z ∈ zs ++ [(i : Int)], 0 ≤ z ∧ z < r := fun z hz => by
        rw [List.mem_append, List.mem_singleton] at hz
        rcases hz with hz | rfl
        · exact hzr z hz
        · omega
      have fr := Y.free s3 (zs ++ [(i : Int)]) h4 id g4 o4 (by simp) hzr'
      have s4 := g4.sub (Y.ok s3)
      have b3 := ((Y.b3 s3).sub s4).ld (Sub.refl _) (j := 0)
      have b4 := ((Y.b4 s3).sub s4).ld (Sub.refl _) (j := 0)
      rw [List.length_append, List.length_singleton] at fr
      by_cases eF : F (zs ++ [(i : Int)]) = true
      · rw [if_pos eF] at ec
        obtain ⟨b, h5, ev, x5, q5⟩ := IH (zs ++ [(i : Int)]) s3 h4 id (by rw [List.length_append, List.length_singleton]; omega) g4 o4 hzr'
        rw [List.length_append, List.length_singleton] at ev
        rw [ec, runC_app] at hrun
        cases hrc : runC' step s3 (allC F r f (zs ++ [(i : Int)])) with
        | inl s5 =>
          rw [hrc] at q5 hrun
          obtain ⟨rfl, g5, o5⟩ := q5
          simp (disch := first | (simp only [Nat.reduceBEq, elem_hit, elem_miss, elem_nil]; done) | ((repeat' (first | assumption | exact Sub.refl _ | refine Sub.push ?_ ?_ | exact HokR.fresh (by assumption) | refine Fresh.push ?_ | refine HokR.push ?_ ?_ ?_ | exact Grown.refl | refine GrownR.push ?_ ?_ ?_ | exact refsOK_ints | exact refsOK_pairs | exact Nat.le_refl _ | (simp only [wM, Nat.reduceAdd, Nat.reduceLT, Nat.reduceLeDiff]; done))); done) | omega | decide) only [e, e4, b3, callC (args := [.sl id 0 (zs.length + 1) (some size) 1]) (cs := cs) fr, eF, b4, callC (args := [.sl id 0 (zs.length + 1) (some size) 1, .yld l]) (cs := [.ptr i1 0, .ptr i2 0, .ptr i3 0, .ptr i4 0]) ev, wrap_i64, idx?_pos, Int.toNat_natCast, ↓wA, wB, resOf, Option.map_some, Option.map_none, List.map_cons, List.map_nil, List.nil_append, List.append_nil, List.cons_append, Nat.reduceBEq, List.getElem?_cons_zero, List.getElem?_cons_succ, List.getElem?_nil, Option.getD_some, Option.getD_none, cond_false, cond_true, and_true, true_and, Nat.zero_add, Nat.mul_one, Int.reduceBEq, Int.reduceBNe, Int.reduceLT, Int.reduceLE, Int.reduceAdd, Int.reduceSub, Int.reduceMul, decide_true, decide_false, Bool.not_true, Bool.not_false, beq_self_eq_true, bne_self_eq_false, and_self, List.isEmpty_nil, List.isEmpty_cons, Bool.true_or, Bool.false_or, List.set_cons_zero, List.set_cons_succ, List.length_cons, List.length_nil, Option.bind_some, List.all_cons, List.all_nil, Bool.or_true, Bool.true_and, Bool.and_true, Int.reduceToNat]
          refine ⟨_, ?_, i + 1, s5, h5, _, _, _, _, _, _, rfl, ?_, rfl⟩
          · omega
          exact ⟨by omega, g5, x3.trans (x4.trans x5), o5.pre, hrun⟩
        | inr y =>
          obtain ⟨s5, ys⟩ := y
          rw [hrc] at q5 hrun
          obtain ⟨rfl, q6⟩ := q5
          have xx : Elder h h5 := x3.trans (x4.trans x5)
          simp (disch := first | (simp only [Nat.reduceBEq, elem_hit, elem_miss, elem_nil]; done) | ((repeat' (first | assumption | exact Sub.refl _ | refine Sub.push ?_ ?_ | exact HokR.fresh (by assumption) | refine Fresh.push ?_ | refine HokR.push ?_ ?_ ?_ | exact Grown.refl | refine GrownR.push ?_ ?_ ?_ | exact refsOK_ints | exact refsOK_pairs | exact Nat.le_refl _ | (simp only [wM, Nat.reduceAdd, Nat.reduceLT, Nat.reduceLeDiff]; done))); done) | omega | decide) only [e, e4, b3, callC (args := [.sl id 0 (zs.length + 1) (some size) 1]) (cs := cs) fr, eF, b4, callC (args := [.sl id 0 (zs.length + 1) (some size) 1, .yld l]) (cs := [.ptr i1 0, .ptr i2 0, .ptr i3 0, .ptr i4 0]) ev, wrap_i64, idx?_pos, Int.toNat_natCast, ↓wA, wB, resOf, Option.map_some, Option.map_none, List.map_cons, List.map_nil, List.nil_append, List.append_nil, List.cons_append, Nat.reduceBEq, List.getElem?_cons_zero, List.getElem?_cons_succ, List.getElem?_nil, Option.getD_some, Option.getD_none, cond_false, cond_true, and_true, true_and, Nat.zero_add, Nat.mul_one, Int.reduceBEq, Int.reduceBNe, Int.reduceLT, Int.reduceLE, Int.reduceAdd, Int.reduceSub, Int.reduceMul, decide_true, decide_false, Bool.not_true, Bool.not_false, beq_self_eq_true, bne_self_eq_false, and_self, List.isEmpty_nil, List.isEmpty_cons, Bool.true_or, Bool.false_or, List.set_cons_zero, List.set_cons_succ, List.length_cons, List.length_nil, Option.bind_some, List.all_cons, List.all_nil, Bool.or_true, Bool.true_and, Bool.and_true, Int.reduceToNat]
          refine ⟨_, rfl, xx, elder_leave xx, ?_⟩
          rw [hrun]
          exact ⟨rfl, Y.fin s s5 ys h h5 _ g xx q6⟩
      · rw [if_neg eF, List.nil_append] at ec
        have eF' : F (zs ++ [(i : Int)]) = false := by simpa using eF
        simp (disch := first | (simp only [Nat.reduceBEq, elem_hit, elem_miss, elem_nil]; done) | ((repeat' (first | assumption | exact Sub.refl _ | refine Sub.push ?_ ?_ | exact HokR.fresh (by assumption) | refine Fresh.push ?_ | refine HokR.push ?_ ?_ ?_ | exact Grown.refl | refine GrownR.push ?_ ?_ ?_ | exact refsOK_ints | exact refsOK_pairs | exact Nat.le_refl _ | (simp only [wM, Nat.reduceAdd, Nat.reduceLT, Nat.reduceLeDiff]; done))); done) | omega | decide) only [e, e4, b3, callC (args := [.sl id 0 (zs.length + 1) (some size) 1]) (cs := cs) fr, eF', wrap_i64, idx?_pos, Int.toNat_natCast, ↓wA, wB, resOf, Option.map_some, Option.map_none, List.map_cons, List.map_nil, List.nil_append, List.append_nil, List.cons_append, Nat.reduceBEq, List.getElem?_cons_zero, List.getElem?_cons_succ, List.getElem?_nil, Option.getD_some, Option.getD_none, cond_false, cond_true, and_true, true_and, Nat.zero_add, Nat.mul_one, Int.reduceBEq, Int.reduceBNe, Int.reduceLT, Int.reduceLE, Int.reduceAdd, Int.reduceSub, Int.reduceMul, decide_true, decide_false, Bool.not_true, Bool.not_false, beq_self_eq_true, bne_self_eq_false, and_self, List.isEmpty_nil, List.isEmpty_cons, Bool.true_or, Bool.false_or, List.set_cons_zero, List.set_cons_succ, List.length_cons, List.length_nil, Option.bind_some, List.all_cons, List.all_nil, Bool.or_true, Bool.true_and, Bool.and_true, Int.reduceToNat]
        refine ⟨_, ?_, i + 1, s3, h4, _, _, _, _, _, _, rfl, ?_, rfl⟩
        · omega
        exact ⟨by omega, g4, x3.trans x4, o4.pre, by rw [hrun, ec]⟩
    · simp (disch := first | (simp only [Nat.reduceBEq, elem_hit, elem_miss, elem_nil]; done) | ((repeat' (first | assumption | exact Sub.refl _ | refine Sub.push ?_ ?_ | exact HokR.fresh (by assumption) | refine Fresh.push ?_ | refine HokR.push ?_ ?_ ?_ | exact Grown.refl | refine GrownR.push ?_ ?_ ?_ | exact refsOK_ints | exact refsOK_pairs | exact Nat.le_refl _ | (simp only [wM, Nat.reduceAdd, Nat.reduceLT, Nat.reduceLeDiff]; done))); done) | omega | decide) only [e, wrap_i64, idx?_pos, Int.toNat_natCast, ↓wA, wB, resOf, Option.map_some, Option.map_none, List.map_cons, List.map_nil, List.nil_append, List.append_nil, List.cons_append, Nat.reduceBEq, List.getElem?_cons_zero, List.getElem?_cons_succ, List.getElem?_nil, Option.getD_some, Option.getD_none, cond_false, cond_true, and_true, true_and, Nat.zero_add, Nat.mul_one, Int.reduceBEq, Int.reduceBNe, Int.reduceLT, Int.reduceLE, Int.reduceAdd, Int.reduceSub, Int.reduceMul, decide_true, decide_false, Bool.not_true, Bool.not_false, beq_self_eq_true, bne_self_eq_false, and_self, List.isEmpty_nil, List.isEmpty_cons, Bool.true_or, Bool.false_or, List.set_cons_zero, List.set_cons_succ, List.length_cons, List.length_nil, Option.bind_some, List.all_cons, List.all_nil, Bool.or_true, Bool.true_and, Bool.and_true, Int.reduceToNat]
      refine ⟨_, rfl, x3, elder_leave x3, ?_⟩
      rw [hrun, show r - i = 0 by omega, colsL, runC']
      have gl := grown_leave (v := .bool true) (by rw [Y.nx, Y.nx]) (Y.len s3 s) g g3 (Y.ok s3) x3
      refine ⟨rfl, gl.1, ?_⟩
      refine O3.lk hid fun i hi1 hi2 => ?_
      exact leave_lk hk x3 i hi2
end Go.Proofs.Ytpclkcamfainiaa
