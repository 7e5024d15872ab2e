/- The first colouring: the function. -/
import Derived.Test.YtpclkcamfainiaaP10
set_option linter.unusedSimpArgs false
set_option linter.unusedVariables false
set_option maxHeartbeats 4000000
set_option maxRecDepth 20000
namespace Go.Pt
open Go Go.Abs
def HD (c : Nat) (r : AV) (bs : List (Nat × Blk)) : Option (List Int) → Prop
  | none => r = .nilsl
  | some zs => Own c bs .i64 r zs ∧ r ≠ .nilsl
theorem HD.lk {c d : Nat} {r : AV} {bs bs' : List (Nat × Blk)} {o : Option (List Int)} (G : HD c r bs o) (hr : refOK d r = true) (hl : ∀ id, id < d → lkB bs' id = lkB bs id) : HD c r bs' o := by
  cases o with
  | none => exact G
  | some cl => exact ⟨OwnA.lk G.1 hr hl, G.2⟩
theorem runC_none {l : List (List Int)} : runC' (fun (_ : Unit) _ => none) () l = match l.head? with | none => .inl () | some zs => .inr ((), zs) := by
  cases l <;> rfl
end Go.Pt
namespace Go.Proofs.Ytpclkcamfainiaa
open Go Go.Abs Go.Pt

theorem f44 (ff size r i1 i2 i3 i4 : Nat) (cs : List AV) (F : List Int → Bool) (h : Hp) (hk : Hok h) (hs : size ≤ 1000) (hr : r ≤ 1000)
    (b1 : Box h.blks i1 [.int .i64 size]) (b2 : Box h.blks i2 [.int .i64 r]) (b3 : Box h.blks i3 [.fn (.func ff) [] cs]) (b4 : Box h.blks i4 [.fn (.func 60) [] [.ptr i1 0, .ptr i2 0, .ptr i3 0, .ptr i4 0]])
    (free : ∀ zs h' id, Hok h' → Sub h.blks h'.blks → Ints h'.blks .i64 (.sl id 0 zs.length (some size) 1) zs → refOK h'.next (.sl id 0 zs.length (some size) 1) = true → 0 < zs.length → zs.length ≤ size → (∀ z ∈ zs, 0 ≤ z ∧ z < r) → Evals Try.prog tab false (.func ff) (.sl id 0 zs.length (some size) 1 :: cs) h' (.bool (F zs), h')) :
    ∃ v h', Evals Try.prog tab false (.func 44) [.fn (.func 62) [] [.ptr i4 0, .ptr i1 0]] h (v, h') ∧ Grown h h' ∧ ∃ a, v = .tu [a, .int .i64 (if (allC F r size []).head?.isSome = true then 0 else 5)] ∧ HD h.next a h'.blks (allC F r size []).head? := by
  have i4lt : i4 < h.next := by obtain ⟨c, w, e⟩ := b4; exact (hk.get e).1
  have i1lt : i1 < h.next := by obtain ⟨c, w, e⟩ := b1; exact (hk.get e).1
  obtain ⟨clo, eclo⟩ : ∃ clo : AV, clo = .fn (.func 62) [] [.ptr i4 0, .ptr i1 0] := ⟨_, rfl⟩
  have rclo : ∀ n, h.next ≤ n → refOK n clo = true := fun n hn => by
    rw [eclo]
    simp only [refOK, refsOK_cons, refsOK_nil, Bool.and_true, Bool.true_and, Bool.and_eq_true, Nat.blt_eq]
    omega
  have kc : Hok ((h.en.pu [.nilsl]).pu [.int .i64 0]) := Hok.pu (Hok.pu hk rfl) rfl
  have sc : Sub h.blks ((h.en.pu [.nilsl]).pu [.int .i64 0]).blks := (Sub.pu (h := h.en) hk).trans (Sub.pu (h := h.en.pu [.nilsl]) (Hok.pu hk rfl))
  have gc : Grown h ((h.en.pu [.nilsl]).pu [.int .i64 0]) := Grown.pu (Grown.pu Grown.en rfl) rfl
  have kB : Hok (firstB h (firstE clo h.next)) := by
    refine HokR.mk' (fun x hx => by have := kc.blk hx; exact ⟨by have := this.1; simp only at this ⊢; omega, this.2.1, refsOK_mono (Nat.le_succ _) this.2.2⟩) fun x hx => ?_
    rcases List.mem_cons.1 hx with rfl | hx
    · refine ⟨by simp only; omega, ?_⟩
      simp only [List.map_cons, List.map_nil, refsOK_cons, refsOK_nil, Bool.and_true, Bool.and_eq_true, rclo _ (show h.next ≤ h.next + 1 + 1 + 1 by omega), true_and]
      exact ⟨by simp only [refOK, Nat.blt_eq]; omega, by simp only [refOK, Nat.blt_eq]; omega, rfl, rfl⟩
    · have := hk.lps hx
      exact ⟨by have := this.1; simp only; omega, refsOK_mono (by simp only; omega) this.2⟩
  have Y : ColY Try.prog tab Unit 60 ff (h.next + 1 + 1) (h.next + 1 + 1 + 1) i1 i2 i3 i4 size r cs F (fun _ => firstB h (firstE clo h.next)) (fun _ _ => none) (fun _ zs h' => FinF h (h.next + 1 + 1) h.next (h.next + 1) (h.next + 1 + 1 + 1) zs h') :=
    { ok := fun _ => kB
      nx := fun _ => rfl
      len := fun _ _ => rfl
      b1 := fun _ => b1.sub sc
      b2 := fun _ => b2.sub sc
      b3 := fun _ => b3.sub sc
      b4 := fun _ => b4.sub sc
      free := fun _ zs h' id g O h0 hz => by
        have hl : zs.length ≤ size := by obtain ⟨b, _, _, _, _, _, _, h7⟩ := O; exact h7
        exact free zs h' id (g.ok kB) (sc.trans (g.sub kB)) O.own.ints (O.own.ref (g.ok kB)) h0 hl hz
      yld := fun _ zs h' a g O hne _ => by
        obtain ⟨b, h2, ev, rfl, el, fin⟩ := first_round clo h h' hk a zs kB g O hne
        exact ⟨_, h2, ev, el, rfl, fin⟩
      fin := fun _ _ zs h' h1 v g x H => by
        obtain ⟨new, eb, fb⟩ := g.blks
        have gn := g.next
        simp only at gn
        refine FinF.leave (g.ok kB) ?_ (by omega) (by omega) (by omega) x H
        refine ⟨new ++ [(h.next + 1, { cells := [.int .i64 0], ch := h.next + 1, wr := true }), (h.next, { cells := [.nilsl], ch := h.next, wr := true })], by rw [eb]; simp, fun x hx => ?_⟩
        simp only [List.mem_append, List.mem_cons, List.not_mem_nil, or_false] at hx
        rcases hx with hx | rfl | rfl
        · have := fb x hx; simp only at this; omega
        · simp only; omega
        · simp only; omega }
  obtain ⟨v, h2, ev, el, q⟩ := f62 ff (h.next + 1 + 1) (h.next + 1 + 1 + 1) i1 i2 i3 i4 size r cs F _ _ _ Y hs hr () (firstB h (firstE clo h.next)) Grown.refl
  rw [runC_none] at q
  refine evals_q c44 (fun v h' => ∃ a, v = .tu [a, .int .i64 (if (allC F r size []).head?.isSome = true then 0 else 5)] ∧ HD h.next a h'.blks (allC F r size []).head?) rfl hk ?_ (fun v h1 g q => by
    obtain ⟨a, rfl, q⟩ := q
    refine ⟨fun hr => ⟨a, rfl, q.lk (d := h.next) ?_ (fun id hid => (g.lkB hid).symm)⟩, fun _ => ⟨a, rfl, q⟩⟩
    simp only [refOK, refsOK_cons, Bool.and_eq_true] at hr
    exact hr.1)
  rw [← eclo]
  simp only [sf44, initS_cons, initS_nil]
  simp (disch := first | (simp only [Nat.reduceBEq, elem_hit, elem_miss, elem_nil]; done) | ((repeat' (first | assumption | exact Sub.refl _ | refine Sub.push ?_ ?_ | exact HokR.fresh (by assumption) | refine Fresh.push ?_ | refine HokR.push ?_ ?_ ?_ | exact Grown.refl | refine GrownR.push ?_ ?_ ?_ | exact refsOK_ints | exact refsOK_pairs | exact Nat.le_refl _ | (simp only [wM, Nat.reduceAdd, Nat.reduceLT, Nat.reduceLeDiff]; done))); done) | omega | decide) only [wrap_i64, idx?_pos, Int.toNat_natCast, ↓wA, wB, resOf, Option.map_some, Option.map_none, List.map_cons, List.map_nil, List.nil_append, List.append_nil, List.cons_append, Nat.reduceBEq, List.getElem?_cons_zero, List.getElem?_cons_succ, List.getElem?_nil, Option.getD_some, Option.getD_none, cond_false, cond_true, and_true, true_and, Nat.zero_add, Nat.mul_one, Int.reduceBEq, Int.reduceBNe, Int.reduceLT, Int.reduceLE, Int.reduceAdd, Int.reduceSub, Int.reduceMul, decide_true, decide_false, Bool.not_true, Bool.not_false, beq_self_eq_true, bne_self_eq_false, and_self, List.isEmpty_nil, List.isEmpty_cons, Bool.true_or, Bool.false_or, List.set_cons_zero, List.set_cons_succ, List.length_cons, List.length_nil, Option.bind_some, List.all_cons, List.all_nil, Bool.or_true, Bool.true_and, Bool.and_true, Int.reduceToNat]
  have hne : ∀ x ∈ h.loops, x.1 ≠ h.next + 1 + 1 := fun x hx => by have := (hk.lps hx).1; omega
  have hlt : ∀ x ∈ h.blks, x.1 < h.next := fun x hx => (hk.blk hx).1
  refine wrange (g := 62) (fs := []) (cs := [.ptr i4 0, .ptr i1 0]) eclo ⟨v, h2, ev, ?_⟩
  cases hh : (allC F r size []).head? with
  | none =>
    rw [hh] at q
    have g2 : Grown (firstB h (firstE clo h.next)) h2 := q
    have k2 := g2.ok kB
    have hls : h2.loops = (h.next + 1 + 1, firstE clo h.next) :: h.loops := g2.loops
    refine ⟨firstE clo h.next, by rw [hls]; exact lkL_top, (by intro e; cases e), ?_⟩
    obtain ⟨new, eb, fb⟩ := g2.blks
    have gn := g2.next
    simp only at gn
    have ov : Over h.next h.blks h2.blks := by
      refine ⟨new ++ [(h.next + 1, { cells := [.int .i64 0], ch := h.next + 1, wr := true }), (h.next, { cells := [.nilsl], ch := h.next, wr := true })], by rw [eb]; simp, fun x hx => ?_⟩
      simp only [List.mem_append, List.mem_cons, List.not_mem_nil, or_false] at hx
      rcases hx with hx | rfl | rfl
      · have := fb x hx; simp only at this; omega
      · simp only; omega
      · simp only; omega
    have c2 : lkB h2.blks h.next = some { cells := [.nilsl], ch := h.next, wr := true } := by rw [g2.lkB (by simp only; omega), lkB_push (by omega), lkB_top]
    have c3 : lkB h2.blks (h.next + 1) = some { cells := [.int .i64 0], ch := h.next + 1, wr := true } := by rw [g2.lkB (by simp only; omega), lkB_top]
    obtain ⟨hA, eA⟩ : ∃ hA : Hp, hA = { next := h2.next, blks := h2.blks, loops := h.loops, base := h2.base, esc := h2.esc } := ⟨_, rfl⟩
    have kA : Hok hA := by
      rw [eA]
      exact HokR.mk' (fun x hx => k2.blk hx) fun x hx => k2.lps (by rw [hls]; exact List.mem_cons_of_mem _ hx)
    have bA : hA.blks = h2.blks := by rw [eA]
    have nA : hA.next = h2.next := by rw [eA]
    obtain ⟨h3, w3, l3, o3, k3, n3, ls3, x3, r3⟩ := store_old (id := h.next) (v := .nilsl) kA (by rw [bA]; exact ov) hlt (by rw [bA]; exact c2) (Nat.le_refl _) ⟨rfl, rfl⟩ rfl
    obtain ⟨h4, w4, l4, o4, k4, n4, ls4, x4, r4⟩ := store_old (id := h.next + 1) (v := .int .i64 5) k3 o3 hlt (r3 _ _ (by omega) (by rw [bA]; exact c3) (by simp only; omega)) (by omega) ⟨rfl, rfl⟩ rfl
    have l3' := r4 _ _ (by omega) l3 (by simp only; omega)
    simp only [hls, delL_top hne, ← eA]
    have s2 : sCellV none h4.blks (.ptr h.next 0) = some .nilsl := by simp only [sCellV, cellB, l3', Option.bind_some]; rfl
    have s3 : sCellV none h4.blks (.ptr (h.next + 1) 0) = some (.int .i64 5) := by simp only [sCellV, cellB, l4, Option.bind_some]; rfl
    simp (disch := first | (simp only [Nat.reduceBEq, elem_hit, elem_miss, elem_nil]; done) | ((repeat' (first | assumption | exact Sub.refl _ | refine Sub.push ?_ ?_ | exact HokR.fresh (by assumption) | refine Fresh.push ?_ | refine HokR.push ?_ ?_ ?_ | exact Grown.refl | refine GrownR.push ?_ ?_ ?_ | exact refsOK_ints | exact refsOK_pairs | exact Nat.le_refl _ | (simp only [wM, Nat.reduceAdd, Nat.reduceLT, Nat.reduceLeDiff]; done))); done) | omega | decide) only [w3, w4, s2, s3, wrap_i64, idx?_pos, Int.toNat_natCast, ↓wA, wB, resOf, Option.map_some, Option.map_none, List.map_cons, List.map_nil, List.nil_append, List.append_nil, List.cons_append, Nat.reduceBEq, List.getElem?_cons_zero, List.getElem?_cons_succ, List.getElem?_nil, Option.getD_some, Option.getD_none, cond_false, cond_true, and_true, true_and, Nat.zero_add, Nat.mul_one, Int.reduceBEq, Int.reduceBNe, Int.reduceLT, Int.reduceLE, Int.reduceAdd, Int.reduceSub, Int.reduceMul, decide_true, decide_false, Bool.not_true, Bool.not_false, beq_self_eq_true, bne_self_eq_false, and_self, List.isEmpty_nil, List.isEmpty_cons, Bool.true_or, Bool.false_or, List.set_cons_zero, List.set_cons_succ, List.length_cons, List.length_nil, Option.bind_some, List.all_cons, List.all_nil, Bool.or_true, Bool.true_and, Bool.and_true, Int.reduceToNat]
    refine ⟨_, rfl, ⟨o4, by rw [n4, n3, nA]; omega, fun _ => k4, by rw [ls4, ls3, eA]⟩, .nilsl, rfl, rfl⟩
  | some zs =>
    rw [hh] at q
    obtain ⟨o, k, n, ⟨e, el2, es, ej⟩, a, bb2, bb3, w, ne⟩ := (q : FinF h (h.next + 1 + 1) h.next (h.next + 1) (h.next + 1 + 1 + 1) zs h2)
    refine ⟨e, by rw [el2]; exact lkL_top, by rw [es]; decide, ?_⟩
    rw [ej]
    simp only [el2, delL_top hne]
    have s2 : sCellV none h2.blks (.ptr h.next 0) = some a := by obtain ⟨c, w, e⟩ := bb2; simp only [sCellV, cellB, e, Option.bind_some]; rfl
    have s3 : sCellV none h2.blks (.ptr (h.next + 1) 0) = some (.int .i64 0) := by obtain ⟨c, w, e⟩ := bb3; simp only [sCellV, cellB, e, Option.bind_some]; rfl
    simp (disch := first | (simp only [Nat.reduceBEq, elem_hit, elem_miss, elem_nil]; done) | ((repeat' (first | assumption | exact Sub.refl _ | refine Sub.push ?_ ?_ | exact HokR.fresh (by assumption) | refine Fresh.push ?_ | refine HokR.push ?_ ?_ ?_ | exact Grown.refl | refine GrownR.push ?_ ?_ ?_ | exact refsOK_ints | exact refsOK_pairs | exact Nat.le_refl _ | (simp only [wM, Nat.reduceAdd, Nat.reduceLT, Nat.reduceLeDiff]; done))); done) | omega | decide) only [s2, s3, wrap_i64, idx?_pos, Int.toNat_natCast, ↓wA, wB, resOf, Option.map_some, Option.map_none, List.map_cons, List.map_nil, List.nil_append, List.append_nil, List.cons_append, Nat.reduceBEq, List.getElem?_cons_zero, List.getElem?_cons_succ, List.getElem?_nil, Option.getD_some, Option.getD_none, cond_false, cond_true, and_true, true_and, Nat.zero_add, Nat.mul_one, Int.reduceBEq, Int.reduceBNe, Int.reduceLT, Int.reduceLE, Int.reduceAdd, Int.reduceSub, Int.reduceMul, decide_true, decide_false, Bool.not_true, Bool.not_false, beq_self_eq_true, bne_self_eq_false, and_self, List.isEmpty_nil, List.isEmpty_cons, Bool.true_or, Bool.false_or, List.set_cons_zero, List.set_cons_succ, List.length_cons, List.length_nil, Option.bind_some, List.all_cons, List.all_nil, Bool.or_true, Bool.true_and, Bool.and_true, Int.reduceToNat]
    refine ⟨_, rfl, ⟨o, n, fun _ => ?_, rfl⟩, a, rfl, w.le (by omega), ne⟩
    exact HokR.mk' (fun x hx => k.blk hx) fun x hx => k.lps (by rw [el2]; exact List.mem_cons_of_mem _ hx)
end Go.Proofs.Ytpclkcamfainiaa
