/- The first colouring. -/
import Derived.Test.YtpclkcamfainiaaP9
set_option linter.unusedSimpArgs false
set_option linter.unusedVariables false
set_option maxHeartbeats 4000000
set_option maxRecDepth 20000
namespace Go.Pt
open Go Go.Abs
/-- What is left when the body has returned. -/
def FinF (hF : Hp) (l c2 c3 N0 : Nat) (zs : List Int) (h : Hp) : Prop :=
  Over hF.next hF.blks h.blks ∧ Hok h ∧ hF.next ≤ h.next ∧ (∃ e : LoopA, h.loops = (l, e) :: hF.loops ∧ e.st = 2 ∧ e.jump = some none) ∧
  ∃ a, Box h.blks c2 [a] ∧ Box h.blks c3 [.int .i64 0] ∧ Own N0 h.blks .i64 a zs ∧ a ≠ .nilsl
theorem FinF.leave {hF h h1 : Hp} {l c2 c3 N0 : Nat} {zs : List Int} {v : AV} (hk : Hok h) (ov : Over hF.next hF.blks h.blks) (hn : hF.next ≤ h.next) (h2 : c2 < h.next) (h3 : c3 < h.next) (x : Elder h h1) (H : FinF hF l c2 c3 N0 zs h1) : FinF hF l c2 c3 N0 zs (leave false h v h1) := by
  obtain ⟨o, k, n, e, a, b2, b3, w, ne⟩ := H
  rcases leave_two (v := v) x with eq | ⟨_, new, old, hb, hm, hnw, hko, eq⟩ <;> rw [eq]
  · exact ⟨o, k, n, e, a, b2, b3, w, ne⟩
  · have lk : ∀ id, id < h.next → lkB old id = lkB h1.blks id := fun id hid => by rw [hb]; exact keys_split hk hm hnw id hid
    have b2' : Box old c2 [a] := by obtain ⟨c, w, eb⟩ := b2; exact ⟨c, w, by rw [lk _ h2]; exact eb⟩
    refine ⟨?_, hko, hn, e, a, b2', ?_, ?_, ne⟩
    · obtain ⟨N, eN, fN⟩ := o
      obtain ⟨M, eM, fM⟩ := ov
      obtain ⟨m, em, hm2⟩ := drop_base (B := hF.blks) (N := N) (new := new) (old := old) (by rw [← eN, hb]) (by
        have := congrArg List.length hm
        simp only [List.length_map] at this
        rw [this, eM, List.length_append]
        omega)
      exact ⟨m, em, fun y hy => fN y (hm2 y hy)⟩
    · obtain ⟨c, w, eb⟩ := b3; exact ⟨c, w, by rw [lk _ h3]; exact eb⟩
    · obtain ⟨c, w', eb⟩ := b2'
      have := (hko.get eb).2.2
      simp only [refsOK_cons, refsOK_nil, Bool.and_true] at this
      exact OwnA.lk w this lk
end Go.Pt
namespace Go.Proofs.Ytpclkcamfainiaa
open Go Go.Abs Go.Pt

theorem rf_ps : (rfAt Try.prog 44 0).1 = #[6] := by kernel_rfl
theorem rf_a : compC Try.prog 125 8 (rfAt Try.prog 44 0).2.1 = some (.ops [⟨(some 4), none, .mov (.t 6)⟩] [4]) := by kernel_rfl
theorem rf_b : compC Try.prog 125 8 (rfAt Try.prog 44 0).2.2 = some (.block 1 (.seq (.ops [⟨(some 7), none, .mov (.t 4)⟩, ⟨none, none, .store 1 (.t 2) (.t 7)⟩, ⟨none, none, .store 1 (.t 3) (.c (.int .i64 0))⟩] []) .ret)) := by kernel_rfl

/-- The heap in the loop. -/
@[reducible] noncomputable def firstB (h : Hp) (e : LoopA) : Hp := { next := h.next + 1 + 1 + 1, blks := (h.next + 1, { cells := [.int .i64 0], ch := h.next + 1, wr := true }) :: (h.next, { cells := [.nilsl], ch := h.next, wr := true }) :: h.blks, loops := (h.next + 1 + 1, e) :: h.loops, base := h.next, esc := false }

@[reducible] noncomputable def firstE (clo : AV) (c : Nat) : LoopA := { st := 0, jump := none, ps := (rfAt Try.prog 44 0).1, assign := (rfAt Try.prog 44 0).2.1, body := (rfAt Try.prog 44 0).2.2, keep := 125, n := 8, fr := [(0, clo), (2, .ptr c 0), (3, .ptr (c + 1) 0), (4, .any), (5, clo), (6, .any)] }

/-- The body: it keeps the colouring, and returns. -/
theorem first_round (clo : AV) (hF h : Hp) (hkF : Hok hF) (a : AV) (zs : List Int) (hB : Hok (firstB hF (firstE clo hF.next))) (g : Grown (firstB hF (firstE clo hF.next)) h) (O : Own (hF.next + 1 + 1 + 1) h.blks .i64 a zs) (ha : a ≠ .nilsl) :
    ∃ b h', Evals Try.prog tab false (.yield (hF.next + 1 + 1)) [a] h (b, h') ∧ (b = .bool false ∧ Elder h h' ∧ FinF hF (hF.next + 1 + 1) hF.next (hF.next + 1) (hF.next + 1 + 1 + 1) zs h') := by
  have hl : lkL h.loops (hF.next + 1 + 1) = some (firstE clo hF.next) := by rw [g.loops]; exact lkL_top
  have hk := g.ok hB
  refine evals_yield (fr := [(0, clo), (2, .ptr hF.next 0), (3, .ptr (hF.next + 1) 0), (4, .any), (5, clo), (6, a)]) hl rfl (by rw [show (firstE clo hF.next).ps = #[6] from rf_ps]; show (#[6].toList.all fun t => Nat.testBit 125 t && Nat.blt t 8) = true; decide) rf_a rf_b (by rw [show (firstE clo hF.next).ps = #[6] from rf_ps]; rfl) ?_
  have hls : h.loops = (hF.next + 1 + 1, firstE clo hF.next) :: hF.loops := g.loops
  obtain ⟨new, eb, fb⟩ := g.blks
  have ov : Over hF.next hF.blks h.blks := by
    refine ⟨new ++ [(hF.next + 1, { cells := [.int .i64 0], ch := hF.next + 1, wr := true }), (hF.next, { cells := [.nilsl], ch := hF.next, wr := true })], by rw [eb]; simp, fun x hx => ?_⟩
    simp only [List.mem_append, List.mem_cons, List.not_mem_nil, or_false] at hx
    rcases hx with hx | rfl | rfl
    · have := fb x hx; simp only at this; omega
    · simp only; omega
    · simp only; omega
  have hlt : ∀ x ∈ hF.blks, x.1 < hF.next := fun x hx => (hkF.blk hx).1
  have gn := g.next
  simp only at gn
  have c2 : lkB h.blks hF.next = some { cells := [.nilsl], ch := hF.next, wr := true } := by rw [g.lkB (by simp only; omega), lkB_push (by omega), lkB_top]
  have c3 : lkB h.blks (hF.next + 1) = some { cells := [.int .i64 0], ch := hF.next + 1, wr := true } := by rw [g.lkB (by simp only; omega), lkB_top]
  obtain ⟨hA, eA⟩ : ∃ hA : Hp, hA = { next := h.next, blks := h.blks, loops := (hF.next + 1 + 1, { firstE clo hF.next with st := 1 }) :: hF.loops, base := h.base, esc := h.esc } := ⟨_, rfl⟩
  have kA : Hok hA := by
    rw [eA]
    have : HokR h.next h.blks ((hF.next + 1 + 1, firstE clo hF.next) :: hF.loops) := by rw [← hls]; exact hk
    exact Hok.loop this rfl
  have bA : hA.blks = h.blks := by rw [eA]
  have nA : hA.next = h.next := by rw [eA]
  have lA : hA.loops = (hF.next + 1 + 1, { firstE clo hF.next with st := 1 }) :: hF.loops := by rw [eA]
  obtain ⟨h1, w1, l1, o1, k1, n1, ls1, x1, r1⟩ := store_old (id := hF.next) (v := a) kA (by rw [bA]; exact ov) hlt (by rw [bA]; exact c2) (Nat.le_refl _) (Arr.cell O.ints) (by rw [nA]; exact O.ref hk)
  obtain ⟨h2, w2, l2, o2, k2, n2, ls2, x2, r2⟩ := store_old (id := hF.next + 1) (v := .int .i64 0) k1 o1 hlt (r1 _ _ (by omega) (by rw [bA]; exact c3) (by simp only; omega)) (by omega) ⟨rfl, rfl⟩ rfl
  simp (disch := first | (simp only [Nat.reduceBEq, elem_hit, elem_miss, elem_nil]; done) | ((repeat' (first | assumption | exact Sub.refl _ | refine Sub.push ?_ ?_ | exact HokR.fresh (by assumption) | refine Fresh.push ?_ | refine HokR.push ?_ ?_ ?_ | exact Grown.refl | refine GrownR.push ?_ ?_ ?_ | exact refsOK_ints | exact refsOK_pairs | exact Nat.le_refl _ | (simp only [wM, Nat.reduceAdd, Nat.reduceLT, Nat.reduceLeDiff]; done))); done) | omega | decide) only [wrap_i64, idx?_pos, Int.toNat_natCast, ↓wA, wB, resOf, Option.map_some, Option.map_none, List.map_cons, List.map_nil, List.nil_append, List.append_nil, List.cons_append, Nat.reduceBEq, List.getElem?_cons_zero, List.getElem?_cons_succ, List.getElem?_nil, Option.getD_some, Option.getD_none, cond_false, cond_true, and_true, true_and, Nat.zero_add, Nat.mul_one, Int.reduceBEq, Int.reduceBNe, Int.reduceLT, Int.reduceLE, Int.reduceAdd, Int.reduceSub, Int.reduceMul, decide_true, decide_false, Bool.not_true, Bool.not_false, beq_self_eq_true, bne_self_eq_false, and_self, List.isEmpty_nil, List.isEmpty_cons, Bool.true_or, Bool.false_or, List.set_cons_zero, List.set_cons_succ, List.length_cons, List.length_nil, Option.bind_some, List.all_cons, List.all_nil, Bool.or_true, Bool.true_and, Bool.and_true, Int.reduceToNat]
  refine ⟨_, hl, rfl, ?_⟩
  have sl : setL h.loops (hF.next + 1 + 1) { firstE clo hF.next with st := 1 } = (hF.next + 1 + 1, { firstE clo hF.next with st := 1 }) :: hF.loops := by rw [hls, setL_top]
  simp only [sl, ← eA]
  simp (disch := first | (simp only [Nat.reduceBEq, elem_hit, elem_miss, elem_nil]; done) | ((repeat' (first | assumption | exact Sub.refl _ | refine Sub.push ?_ ?_ | exact HokR.fresh (by assumption) | refine Fresh.push ?_ | refine HokR.push ?_ ?_ ?_ | exact Grown.refl | refine GrownR.push ?_ ?_ ?_ | exact refsOK_ints | exact refsOK_pairs | exact Nat.le_refl _ | (simp only [wM, Nat.reduceAdd, Nat.reduceLT, Nat.reduceLeDiff]; done))); done) | omega | decide) only [w1, w2, wrap_i64, idx?_pos, Int.toNat_natCast, ↓wA, wB, resOf, Option.map_some, Option.map_none, List.map_cons, List.map_nil, List.nil_append, List.append_nil, List.cons_append, Nat.reduceBEq, List.getElem?_cons_zero, List.getElem?_cons_succ, List.getElem?_nil, Option.getD_some, Option.getD_none, cond_false, cond_true, and_true, true_and, Nat.zero_add, Nat.mul_one, Int.reduceBEq, Int.reduceBNe, Int.reduceLT, Int.reduceLE, Int.reduceAdd, Int.reduceSub, Int.reduceMul, decide_true, decide_false, Bool.not_true, Bool.not_false, beq_self_eq_true, bne_self_eq_false, and_self, List.isEmpty_nil, List.isEmpty_cons, Bool.true_or, Bool.false_or, List.set_cons_zero, List.set_cons_succ, List.length_cons, List.length_nil, Option.bind_some, List.all_cons, List.all_nil, Bool.or_true, Bool.true_and, Bool.and_true, Int.reduceToNat]
  have e2 : h2.loops = (hF.next + 1 + 1, { firstE clo hF.next with st := 1 }) :: hF.loops := by rw [ls2, ls1, lA]
  have xA : Elder h hA := by rw [eA]; exact ⟨⟨[], h.blks, rfl, rfl, by simp⟩, Nat.le_refl _⟩
  have x02 : Elder h h2 := xA.trans (x1.trans x2)
  refine ⟨{ firstE clo hF.next with st := 1 }, by rw [e2, lkL_top], rfl, ⟨x02.blks, x02.next⟩, o2, ?_, by rw [n2, n1, nA]; omega, ⟨{ firstE clo hF.next with st := 2, jump := some none }, by simp only [e2, setL_top], rfl, rfl⟩, a, ?_, ⟨_, _, l2⟩, ?_, ha⟩
  · show HokR _ _ (setL h2.loops _ _)
    rw [e2, setL_top]
    have : HokR h2.next h2.blks ((hF.next + 1 + 1, { firstE clo hF.next with st := 1 }) :: hF.loops) := by rw [← e2]; exact k2
    exact Hok.loop this rfl
  · exact ⟨_, _, r2 _ _ (by omega) l1 (by simp only; omega)⟩
  · have lk : ∀ id b, hF.next + 1 + 1 + 1 ≤ id → hF.next + 1 + 1 + 1 ≤ b.ch → lkB h.blks id = some b → lkB h2.blks id = some b := fun id b h3 h4 hb =>
      r2 _ _ (by omega) (r1 _ _ (by omega) (by rw [bA]; exact hb) (by omega)) (by omega)
    obtain ⟨hl', ⟨h3, rfl⟩ | ⟨id, b, cap, rfl, h3, h4, h5, h6, h7⟩⟩ := O
    · exact absurd rfl ha
    · exact ⟨hl', .inr ⟨id, b, cap, rfl, lk id b h5 h6 h3, h4, h5, h6, h7⟩⟩

end Go.Proofs.Ytpclkcamfainiaa
