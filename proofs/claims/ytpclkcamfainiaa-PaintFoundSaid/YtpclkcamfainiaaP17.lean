/- Colourings without progressions, and the law about them. -/
import Derived.Test.YtpclkcamfainiaaP16
set_option linter.unusedSimpArgs false
set_option linter.unusedVariables false
set_option maxHeartbeats 4000000
set_option maxRecDepth 20000
namespace Go.Pt
open Go Go.Abs
theorem pdL_none {P : Nat → Nat → Bool} {n j a : Nat} (hj : 0 < j) : ∀ {f d : Nat}, pdL P n j a f d = none ↔ ∀ e, d ≤ e → e < d + f → a + j * e ≤ n → P a e = false
  | 0, d => ⟨fun _ e h1 h2 => by omega, fun _ => rfl⟩
  | f + 1, d => by
    rw [pdL]
    by_cases h : a + j * d ≤ n
    · rw [if_pos h]
      by_cases hp : P a d = true
      · rw [if_pos hp]
        exact ⟨fun e => by simp at e, fun e => by have := e d (Nat.le_refl _) (by omega) h; rw [hp] at this; cases this⟩
      · rw [if_neg hp, pdL_none hj]
        exact ⟨fun e x h1 h2 h3 => by
          by_cases hx : x = d
          · subst hx; simpa using hp
          · exact e x (by omega) (by omega) h3, fun e x h1 h2 h3 => e x (by omega) (by omega) h3⟩
    · rw [if_neg h]
      refine ⟨fun _ x h1 h2 h3 => ?_, fun _ => rfl⟩
      have : j * d ≤ j * x := Nat.mul_le_mul_left j h1
      omega
theorem paL_none {P : Nat → Nat → Bool} {n j : Nat} : ∀ {f a : Nat}, paL P n j f a = none ↔ ∀ i, a ≤ i → i < a + f → pdL P n j i n 1 = none
  | 0, a => ⟨fun _ x h1 h2 => by omega, fun _ => rfl⟩
  | f + 1, a => by
    rw [paL]
    cases hs : pdL P n j a n 1 with
    | some r => exact ⟨fun e => by simp at e, fun e => by have := e a (Nat.le_refl _) (by omega); rw [hs] at this; cases this⟩
    | none =>
      simp only
      rw [paL_none]
      exact ⟨fun e x h1 h2 => by
        by_cases hx : x = a
        · subst hx; exact hs
        · exact e x (by omega) (by omega), fun e x h1 h2 => e x (by omega) (by omega)⟩
theorem prgO_none {zs : List Int} {k : Nat} (hk : 2 ≤ k) : prgO zs k = none ↔ ∀ a d, 1 ≤ a → 1 ≤ d → a + (k - 1) * d ≤ zs.length → pg zs k a d = false := by
  rw [prgO, paL_none]
  refine ⟨fun e a d h1 h2 h3 => ?_, fun e a h1 h2 => (pdL_none (by omega)).2 fun d h3 h4 h5 => e a d h1 h3 h5⟩
  have hd : d ≤ (k - 1) * d := Nat.le_mul_of_pos_left d (by omega)
  exact (pdL_none (by omega)).1 (e a h1 (by omega)) d h2 (by omega) h3
theorem lpL_true {zs : List Int} {k n : Nat} (hk : 2 ≤ k) : ∀ {f d : Nat}, lpL zs k n f d = true ↔ ∀ e, d ≤ e → e < d + f → (k - 1) * e < n → pg zs k (n - (k - 1) * e) e = false
  | 0, d => ⟨fun _ e h1 h2 => by omega, fun _ => rfl⟩
  | f + 1, d => by
    rw [lpL]
    by_cases h : (k - 1) * d < n
    · rw [if_pos h]
      by_cases hp : pg zs k (n - (k - 1) * d) d = true
      · rw [if_pos hp]
        exact ⟨fun e => by simp at e, fun e => by have := e d (Nat.le_refl _) (by omega) h; rw [hp] at this; cases this⟩
      · rw [if_neg hp, lpL_true hk]
        exact ⟨fun e x h1 h2 h3 => by
          by_cases hx : x = d
          · subst hx; simpa using hp
          · exact e x (by omega) (by omega) h3, fun e x h1 h2 h3 => e x (by omega) (by omega) h3⟩
    · rw [if_neg h]
      refine ⟨fun _ x h1 h2 h3 => ?_, fun _ => rfl⟩
      have : (k - 1) * d ≤ (k - 1) * x := Nat.mul_le_mul_left (k - 1) h1
      omega
theorem lpF_true {zs : List Int} {k : Nat} (hk : 2 ≤ k) : lpF k zs = true ↔ ∀ d, 1 ≤ d → (k - 1) * d < zs.length → pg zs k (zs.length - (k - 1) * d) d = false := by
  rw [lpF, lpL_true hk]
  refine ⟨fun e d h1 h2 => ?_, fun e d h1 h2 h3 => e d h1 h3⟩
  have hd : d ≤ (k - 1) * d := Nat.le_mul_of_pos_left d (by omega)
  exact e d h1 (by omega) h2
theorem pg_snoc {zs : List Int} {c : Int} {k a d : Nat} (ha : 1 ≤ a) (h : a + (k - 1) * d ≤ zs.length) : pg (zs ++ [c]) k a d = pg zs k a d := by
  rw [pg, pg, Bool.eq_iff_iff, List.all_eq_true, List.all_eq_true]
  refine forall_congr' fun i => forall_congr' fun hi => ?_
  have := term_le (d := d) (List.mem_range.1 hi)
  rw [getD_snoc (by omega), getD_snoc (by omega)]
theorem prg_snoc {zs : List Int} {c : Int} {k : Nat} (hk : 2 ≤ k) (h : prgO zs k = none) : prgO (zs ++ [c]) k = none ↔ lpF k (zs ++ [c]) = true := by
  rw [prgO_none hk, lpF_true hk]
  have hl : (zs ++ [c]).length = zs.length + 1 := by simp
  rw [hl]
  refine ⟨fun e d h1 h2 => e _ d (by omega) h1 (by omega), fun e a d h1 h2 h3 => ?_⟩
  by_cases hxy : a + (k - 1) * d ≤ zs.length
  · rw [pg_snoc h1 hxy]
    exact (prgO_none hk).1 h a d h1 h2 hxy
  · have := e d h2 (by omega)
    rw [show zs.length + 1 - (k - 1) * d = a by omega] at this
    exact this
def stOk (k : Nat) (zs : List Int) : Bool := (prgO zs k).isNone
end Go.Pt
namespace Go.Proofs.Ytpclkcamfainiaa
open Go Go.Abs Go.Pt

theorem f32 (n r k : Nat) (hn : n ≤ 100) (hr : r ≤ 100) (hkk : k = 3 ∨ k = 4) :
    ∀ (f : Nat) (zs : List Int) (s : AV) (h : Hp) (d : Nat), zs.length + f = n → Hok h → Own d h.blks .i64 s zs → s ≠ .nilsl → d ≤ h.next →
    ∃ v h', Evals Try.prog tab false (.func 32) [.int .i64 n, .int .i64 r, .int .i64 k, s] h (v, h') ∧ Grown h h' ∧ HD d v h'.blks (refA (stOk k) r f zs) := by
  intro f
  induction f with
  | zero =>
    intro zs s h d hlen hk os hne hd
    refine evals_q c32 (fun v h' => HD d v h'.blks (refA (stOk k) r 0 zs)) rfl hk ?_ (fun v h1 g q => ⟨fun hr => q.lk hr (fun id hid => (g.lkB hid).symm), fun _ => q⟩)
    simp only [sf32, initS_cons, initS_nil]
    obtain ⟨r1, h1, ev1, g1, q1⟩ := f30 s zs k h.en hk os.ints (by omega) hkk
    have gh1 : Grown h h1 := GrownR.of_en g1
    have os1 := os.sub (gh1.sub hk)
    have e0 : ((zs.length : Int) == (n : Int)) = true := by simp; omega
    cases hs : prgO zs k with
    | some p =>
      rw [hs] at q1
      simp (disch := first | (simp only [Nat.reduceBEq, elem_hit, elem_miss, elem_nil]; done) | ((repeat' (first | assumption | exact Sub.refl _ | refine Sub.push ?_ ?_ | exact HokR.fresh (by assumption) | refine Fresh.push ?_ | refine HokR.push ?_ ?_ ?_ | exact Grown.refl | refine GrownR.push ?_ ?_ ?_ | exact refsOK_ints | exact refsOK_pairs | exact Nat.le_refl _ | (simp only [wM, Nat.reduceAdd, Nat.reduceLT, Nat.reduceLeDiff]; done))); done) | omega | decide) only [callT ev1, (q1.1.eql q1.2).2, wrap_i64, idx?_pos, Int.toNat_natCast, ↓wA, wB, resOf, Option.map_some, Option.map_none, List.map_cons, List.map_nil, List.nil_append, List.append_nil, List.cons_append, Nat.reduceBEq, List.getElem?_cons_zero, List.getElem?_cons_succ, List.getElem?_nil, Option.getD_some, Option.getD_none, cond_false, cond_true, and_true, true_and, Nat.zero_add, Nat.mul_one, Int.reduceBEq, Int.reduceBNe, Int.reduceLT, Int.reduceLE, Int.reduceAdd, Int.reduceSub, Int.reduceMul, decide_true, decide_false, Bool.not_true, Bool.not_false, beq_self_eq_true, bne_self_eq_false, and_self, List.isEmpty_nil, List.isEmpty_cons, Bool.true_or, Bool.false_or, List.set_cons_zero, List.set_cons_succ, List.length_cons, List.length_nil, Option.bind_some, List.all_cons, List.all_nil, Bool.or_true, Bool.true_and, Bool.and_true, Int.reduceToNat]
      refine ⟨_, rfl, gh1, ?_⟩
      rw [refA, if_neg (by simp [stOk, hs])]
      rfl
    | none =>
      rw [hs] at q1
      cases q1
      simp (disch := first | (simp only [Nat.reduceBEq, elem_hit, elem_miss, elem_nil]; done) | ((repeat' (first | assumption | exact Sub.refl _ | refine Sub.push ?_ ?_ | exact HokR.fresh (by assumption) | refine Fresh.push ?_ | refine HokR.push ?_ ?_ ?_ | exact Grown.refl | refine GrownR.push ?_ ?_ ?_ | exact refsOK_ints | exact refsOK_pairs | exact Nat.le_refl _ | (simp only [wM, Nat.reduceAdd, Nat.reduceLT, Nat.reduceLeDiff]; done))); done) | omega | decide) only [callT ev1, sBin_nil', os1.len, e0, wrap_i64, idx?_pos, Int.toNat_natCast, ↓wA, wB, resOf, Option.map_some, Option.map_none, List.map_cons, List.map_nil, List.nil_append, List.append_nil, List.cons_append, Nat.reduceBEq, List.getElem?_cons_zero, List.getElem?_cons_succ, List.getElem?_nil, Option.getD_some, Option.getD_none, cond_false, cond_true, and_true, true_and, Nat.zero_add, Nat.mul_one, Int.reduceBEq, Int.reduceBNe, Int.reduceLT, Int.reduceLE, Int.reduceAdd, Int.reduceSub, Int.reduceMul, decide_true, decide_false, Bool.not_true, Bool.not_false, beq_self_eq_true, bne_self_eq_false, and_self, List.isEmpty_nil, List.isEmpty_cons, Bool.true_or, Bool.false_or, List.set_cons_zero, List.set_cons_succ, List.length_cons, List.length_nil, Option.bind_some, List.all_cons, List.all_nil, Bool.or_true, Bool.true_and, Bool.and_true, Int.reduceToNat]
      refine ⟨_, rfl, gh1, ?_⟩
      rw [refA, if_pos (by simp [stOk, hs])]
      exact ⟨os1, hne⟩
  | succ f IH =>
    intro zs s h d hlen hk os hne hd
    refine evals_q c32 (fun v h' => HD d v h'.blks (refA (stOk k) r (f + 1) zs)) rfl hk ?_ (fun v h1 g q => ⟨fun hr => q.lk hr (fun id hid => (g.lkB hid).symm), fun _ => q⟩)
    simp only [sf32, initS_cons, initS_nil]
    obtain ⟨r1, h1, ev1, g1, q1⟩ := f30 s zs k h.en hk os.ints (by omega) hkk
    have gh1 : Grown h h1 := GrownR.of_en g1
    have os1 := os.sub (gh1.sub hk)
    have e0 : ((zs.length : Int) == (n : Int)) = false := by simp; omega
    cases hs : prgO zs k with
    | some p =>
      rw [hs] at q1
      simp (disch := first | (simp only [Nat.reduceBEq, elem_hit, elem_miss, elem_nil]; done) | ((repeat' (first | assumption | exact Sub.refl _ | refine Sub.push ?_ ?_ | exact HokR.fresh (by assumption) | refine Fresh.push ?_ | refine HokR.push ?_ ?_ ?_ | exact Grown.refl | refine GrownR.push ?_ ?_ ?_ | exact refsOK_ints | exact refsOK_pairs | exact Nat.le_refl _ | (simp only [wM, Nat.reduceAdd, Nat.reduceLT, Nat.reduceLeDiff]; done))); done) | omega | decide) only [callT ev1, (q1.1.eql q1.2).2, wrap_i64, idx?_pos, Int.toNat_natCast, ↓wA, wB, resOf, Option.map_some, Option.map_none, List.map_cons, List.map_nil, List.nil_append, List.append_nil, List.cons_append, Nat.reduceBEq, List.getElem?_cons_zero, List.getElem?_cons_succ, List.getElem?_nil, Option.getD_some, Option.getD_none, cond_false, cond_true, and_true, true_and, Nat.zero_add, Nat.mul_one, Int.reduceBEq, Int.reduceBNe, Int.reduceLT, Int.reduceLE, Int.reduceAdd, Int.reduceSub, Int.reduceMul, decide_true, decide_false, Bool.not_true, Bool.not_false, beq_self_eq_true, bne_self_eq_false, and_self, List.isEmpty_nil, List.isEmpty_cons, Bool.true_or, Bool.false_or, List.set_cons_zero, List.set_cons_succ, List.length_cons, List.length_nil, Option.bind_some, List.all_cons, List.all_nil, Bool.or_true, Bool.true_and, Bool.and_true, Int.reduceToNat]
      refine ⟨_, rfl, gh1, ?_⟩
      rw [refA, if_neg (by simp [stOk, hs])]
      rfl
    | none =>
      rw [hs] at q1
      cases q1
      simp (disch := first | (simp only [Nat.reduceBEq, elem_hit, elem_miss, elem_nil]; done) | ((repeat' (first | assumption | exact Sub.refl _ | refine Sub.push ?_ ?_ | exact HokR.fresh (by assumption) | refine Fresh.push ?_ | refine HokR.push ?_ ?_ ?_ | exact Grown.refl | refine GrownR.push ?_ ?_ ?_ | exact refsOK_ints | exact refsOK_pairs | exact Nat.le_refl _ | (simp only [wM, Nat.reduceAdd, Nat.reduceLT, Nat.reduceLeDiff]; done))); done) | omega | decide) only [callT ev1, sBin_nil', os1.len, e0, wrap_i64, idx?_pos, Int.toNat_natCast, ↓wA, wB, resOf, Option.map_some, Option.map_none, List.map_cons, List.map_nil, List.nil_append, List.append_nil, List.cons_append, Nat.reduceBEq, List.getElem?_cons_zero, List.getElem?_cons_succ, List.getElem?_nil, Option.getD_some, Option.getD_none, cond_false, cond_true, and_true, true_and, Nat.zero_add, Nat.mul_one, Int.reduceBEq, Int.reduceBNe, Int.reduceLT, Int.reduceLE, Int.reduceAdd, Int.reduceSub, Int.reduceMul, decide_true, decide_false, Bool.not_true, Bool.not_false, beq_self_eq_true, bne_self_eq_false, and_self, List.isEmpty_nil, List.isEmpty_cons, Bool.true_or, Bool.false_or, List.set_cons_zero, List.set_cons_succ, List.length_cons, List.length_nil, Option.bind_some, List.all_cons, List.all_nil, Bool.or_true, Bool.true_and, Bool.and_true, Int.reduceToNat]
      refine wloop (fun mm ss => ∃ (i : Nat) (h3 : Hp) (u8 u10 u14 u18 u22 u36 : AV), (mm = r - i) ∧ (i ≤ r ∧ Grown h h3 ∧ refA (stOk k) r (f + 1) zs = refL (refA (stOk k) r f) zs (r - i) i) ∧ ss = { fr := [(0, .int .i64 n), (1, .int .i64 r), (2, .int .i64 k), (3, s), (8, u8), (9, .int .i64 i), (10, u10), (14, u14), (18, u18), (22, u22), (36, u36)], hp := h3 }) (r) ?_ ?_
      ·
        refine ⟨0, h1, _, _, _, _, _, _, by omega, ⟨by omega, gh1, by rw [refA, if_pos (by simp [stOk, hs])]; rfl⟩, rfl⟩
      rintro nA sA ⟨i, h3, u8, u10, u14, u18, u22, u36, hnA, ⟨hi, g3, hg⟩, rfl⟩
      have k3 := g3.ok hk
      simp (disch := first | (simp only [Nat.reduceBEq, elem_hit, elem_miss, elem_nil]; done) | ((repeat' (first | assumption | exact Sub.refl _ | refine Sub.push ?_ ?_ | exact HokR.fresh (by assumption) | refine Fresh.push ?_ | refine HokR.push ?_ ?_ ?_ | exact Grown.refl | refine GrownR.push ?_ ?_ ?_ | exact refsOK_ints | exact refsOK_pairs | exact Nat.le_refl _ | (simp only [wM, Nat.reduceAdd, Nat.reduceLT, Nat.reduceLeDiff]; done))); done) | omega | decide) only [wrap_i64, idx?_pos, Int.toNat_natCast, ↓wA, wB, resOf, Option.map_some, Option.map_none, List.map_cons, List.map_nil, List.nil_append, List.append_nil, List.cons_append, Nat.reduceBEq, List.getElem?_cons_zero, List.getElem?_cons_succ, List.getElem?_nil, Option.getD_some, Option.getD_none, cond_false, cond_true, and_true, true_and, Nat.zero_add, Nat.mul_one, Int.reduceBEq, Int.reduceBNe, Int.reduceLT, Int.reduceLE, Int.reduceAdd, Int.reduceSub, Int.reduceMul, decide_true, decide_false, Bool.not_true, Bool.not_false, beq_self_eq_true, bne_self_eq_false, and_self, List.isEmpty_nil, List.isEmpty_cons, Bool.true_or, Bool.false_or, List.set_cons_zero, List.set_cons_succ, List.length_cons, List.length_nil, Option.bind_some, List.all_cons, List.all_nil, Bool.or_true, Bool.true_and, Bool.and_true, Int.reduceToNat]
      refine ifThen_intro (fun e => ?_) (fun e => ?_) <;> have eq := e <;> try simp [-List.getD_eq_getElem?_getD] at eq
      · have os3 := os.sub (g3.sub hk)
        have O : Own h3.next (h3.pu []).blks .i64 (.sl h3.next 0 0 (some 0) 1) [] := Own.fresh (Nat.le_refl _) rfl rfl rfl (Nat.le_refl _)
        obtain ⟨s1, h4, e4, o4, g4, _⟩ := own_appI (h0 := h3) (h := h3.pu []) k3 (Grown.pu Grown.refl rfl) O (os3.ints.sub (Sub.pu k3)) (by rw [List.length_nil]; omega)
        rw [List.nil_append] at o4
        obtain ⟨s2, h5, e5, o5, g5, n5⟩ := own_app1 (v := (i : Int)) k3 g4 o4 (by omega)
        obtain ⟨v, h6, ev, g6, q6⟩ := IH (zs ++ [(i : Int)]) s2 h5 h3.next (by rw [List.length_append, List.length_singleton]; omega) (g5.ok k3) o5 n5 g5.next
        have g6' : Grown h h6 := GrownR.trans g3 (GrownR.trans g5 g6)
        rw [show r - i = (r - (i + 1)) + 1 by omega, refL] at hg
        cases hrc : refA (stOk k) r f (zs ++ [(i : Int)]) with
        | none =>
          rw [hrc] at q6 hg
          cases q6
          simp (disch := first | (simp only [Nat.reduceBEq, elem_hit, elem_miss, elem_nil]; done) | ((repeat' (first | assumption | exact Sub.refl _ | refine Sub.push ?_ ?_ | exact HokR.fresh (by assumption) | refine Fresh.push ?_ | refine HokR.push ?_ ?_ ?_ | exact Grown.refl | refine GrownR.push ?_ ?_ ?_ | exact refsOK_ints | exact refsOK_pairs | exact Nat.le_refl _ | (simp only [wM, Nat.reduceAdd, Nat.reduceLT, Nat.reduceLeDiff]; done))); done) | omega | decide) only [e, e4, e5, callT ev, sBin_nil', wrap_i64, idx?_pos, Int.toNat_natCast, ↓wA, wB, resOf, Option.map_some, Option.map_none, List.map_cons, List.map_nil, List.nil_append, List.append_nil, List.cons_append, Nat.reduceBEq, List.getElem?_cons_zero, List.getElem?_cons_succ, List.getElem?_nil, Option.getD_some, Option.getD_none, cond_false, cond_true, and_true, true_and, Nat.zero_add, Nat.mul_one, Int.reduceBEq, Int.reduceBNe, Int.reduceLT, Int.reduceLE, Int.reduceAdd, Int.reduceSub, Int.reduceMul, decide_true, decide_false, Bool.not_true, Bool.not_false, beq_self_eq_true, bne_self_eq_false, and_self, List.isEmpty_nil, List.isEmpty_cons, Bool.true_or, Bool.false_or, List.set_cons_zero, List.set_cons_succ, List.length_cons, List.length_nil, Option.bind_some, List.all_cons, List.all_nil, Bool.or_true, Bool.true_and, Bool.and_true, Int.reduceToNat]
          refine ⟨_, ?_, i + 1, h6, _, _, _, _, _, _, rfl, ?_, rfl⟩
          · omega
          exact ⟨by omega, g6', hg⟩
        | some c5 =>
          rw [hrc] at q6 hg
          simp (disch := first | (simp only [Nat.reduceBEq, elem_hit, elem_miss, elem_nil]; done) | ((repeat' (first | assumption | exact Sub.refl _ | refine Sub.push ?_ ?_ | exact HokR.fresh (by assumption) | refine Fresh.push ?_ | refine HokR.push ?_ ?_ ?_ | exact Grown.refl | refine GrownR.push ?_ ?_ ?_ | exact refsOK_ints | exact refsOK_pairs | exact Nat.le_refl _ | (simp only [wM, Nat.reduceAdd, Nat.reduceLT, Nat.reduceLeDiff]; done))); done) | omega | decide) only [e, e4, e5, callT ev, (q6.1.eql q6.2).2, wrap_i64, idx?_pos, Int.toNat_natCast, ↓wA, wB, resOf, Option.map_some, Option.map_none, List.map_cons, List.map_nil, List.nil_append, List.append_nil, List.cons_append, Nat.reduceBEq, List.getElem?_cons_zero, List.getElem?_cons_succ, List.getElem?_nil, Option.getD_some, Option.getD_none, cond_false, cond_true, and_true, true_and, Nat.zero_add, Nat.mul_one, Int.reduceBEq, Int.reduceBNe, Int.reduceLT, Int.reduceLE, Int.reduceAdd, Int.reduceSub, Int.reduceMul, decide_true, decide_false, Bool.not_true, Bool.not_false, beq_self_eq_true, bne_self_eq_false, and_self, List.isEmpty_nil, List.isEmpty_cons, Bool.true_or, Bool.false_or, List.set_cons_zero, List.set_cons_succ, List.length_cons, List.length_nil, Option.bind_some, List.all_cons, List.all_nil, Bool.or_true, Bool.true_and, Bool.and_true, Int.reduceToNat]
          refine ⟨_, rfl, g6', ?_⟩
          rw [hg]
          exact ⟨q6.1.le (by have := g3.next; omega), q6.2⟩
      · simp (disch := first | (simp only [Nat.reduceBEq, elem_hit, elem_miss, elem_nil]; done) | ((repeat' (first | assumption | exact Sub.refl _ | refine Sub.push ?_ ?_ | exact HokR.fresh (by assumption) | refine Fresh.push ?_ | refine HokR.push ?_ ?_ ?_ | exact Grown.refl | refine GrownR.push ?_ ?_ ?_ | exact refsOK_ints | exact refsOK_pairs | exact Nat.le_refl _ | (simp only [wM, Nat.reduceAdd, Nat.reduceLT, Nat.reduceLeDiff]; done))); done) | omega | decide) only [e, wrap_i64, idx?_pos, Int.toNat_natCast, ↓wA, wB, resOf, Option.map_some, Option.map_none, List.map_cons, List.map_nil, List.nil_append, List.append_nil, List.cons_append, Nat.reduceBEq, List.getElem?_cons_zero, List.getElem?_cons_succ, List.getElem?_nil, Option.getD_some, Option.getD_none, cond_false, cond_true, and_true, true_and, Nat.zero_add, Nat.mul_one, Int.reduceBEq, Int.reduceBNe, Int.reduceLT, Int.reduceLE, Int.reduceAdd, Int.reduceSub, Int.reduceMul, decide_true, decide_false, Bool.not_true, Bool.not_false, beq_self_eq_true, bne_self_eq_false, and_self, List.isEmpty_nil, List.isEmpty_cons, Bool.true_or, Bool.false_or, List.set_cons_zero, List.set_cons_succ, List.length_cons, List.length_nil, Option.bind_some, List.all_cons, List.all_nil, Bool.or_true, Bool.true_and, Bool.and_true, Int.reduceToNat]
        refine ⟨_, rfl, g3, ?_⟩
        rw [hg, show r - i = 0 by omega, refL]
        rfl

def stlOK (n r k : Int) : Prop := (1 ≤ n ∧ n ≤ 20) ∧ (1 ≤ r ∧ r ≤ 3) ∧ 3 ≤ k ∧ k ≤ 4
instance {n r k : Int} : Decidable (stlOK n r k) := inferInstanceAs (Decidable (_ ∧ _))
def stlO (n r k : Int) : Option (List Int) := if stlOK n r k then (allC (lpF k.toNat) r.toNat n.toNat []).head? else none
def stlE (n r k : Int) : Int := if stlOK n r k then (if (allC (lpF k.toNat) r.toNat n.toNat []).head?.isSome = true then 0 else 5) else 1

theorem f31 (n r k : Int) (h : Hp) (hk : Hok h) :
    ∃ v h', Evals Try.prog tab false (.func 31) [.int .i64 n, .int .i64 r, .int .i64 k] h (v, h') ∧ Grown h h' ∧ ∃ a, v = .tu [a, .int .i64 (stlE n r k)] ∧ HD h.next a h'.blks (stlO n r k) := by
  refine evals_q c31 (fun v h' => ∃ a, v = .tu [a, .int .i64 (stlE n r k)] ∧ HD h.next a h'.blks (stlO n r k)) rfl hk ?_ (fun v h1 g q => by
    obtain ⟨r, rfl, q⟩ := q
    refine ⟨fun hr => ⟨r, rfl, q.lk (d := h.next) ?_ (fun id hid => (g.lkB hid).symm)⟩, fun _ => ⟨r, rfl, q⟩⟩
    simp only [refOK, refsOK_cons, Bool.and_eq_true] at hr
    exact hr.1)
  simp only [sf31, initS_cons, initS_nil]
  have kb : Hok (h.en.pu [.int .i64 k]) := Hok.pu hk rfl
  have gb : Grown h (h.en.pu [.int .i64 k]) := Grown.pu Grown.en rfl
  have bx : Box (h.en.pu [.int .i64 k]).blks h.next [.int .i64 k] := Box.top
  have x1 := bx.ld (Sub.refl _) (j := 0)
  have w1 := f38 n 1 20 (h.en.pu [.int .i64 k]) kb
  have w2 := f38 r 1 3 (h.en.pu [.int .i64 k]) kb
  have w3 := f38 k 3 4 (h.en.pu [.int .i64 k]) kb
  by_cases e1 : 1 ≤ n ∧ n ≤ 20
  · have d1 : decide (1 ≤ n ∧ n ≤ 20) = true := decide_eq_true e1
    by_cases e2 : 1 ≤ r ∧ r ≤ 3
    · have d2 : decide (1 ≤ r ∧ r ≤ 3) = true := decide_eq_true e2
      by_cases e3 : 3 ≤ k ∧ k ≤ 4
      · have d3 : decide (3 ≤ k ∧ k ≤ 4) = true := decide_eq_true e3
        have ok : stlOK n r k := ⟨e1, e2, e3⟩
        obtain ⟨m, rfl⟩ : ∃ m : Nat, n = m := ⟨n.toNat, by omega⟩
        obtain ⟨p, rfl⟩ : ∃ p : Nat, r = p := ⟨r.toNat, by omega⟩
        obtain ⟨q, rfl⟩ : ∃ q : Nat, k = q := ⟨k.toNat, by omega⟩
        obtain ⟨v1, h1, ev1, g1, i1, i2, i3, i4, rfl, _, b1, b2, b3, b4⟩ := f48 51 m p [.ptr h.next 0] (h.en.pu [.int .i64 q]) kb (by simp [refsOK_cons, refsOK_nil, refOK, Nat.blt_eq])
        have k1 := g1.ok kb
        have s1 := g1.sub kb
        obtain ⟨v2, h2, ev2, g2, a, rfl, q2⟩ := f44 51 m p i1 i2 i3 i4 [.ptr h.next 0] (lpF q) h1 k1 (by omega) (by omega) b1.box b2.box b3.box b4.box (fun zs h' id hk' hs' hi _ _ hl _ => f51 _ zs q h.next h' hk' hi (by omega) (by omega) (bx.sub (s1.trans hs')))
        simp (disch := first | (simp only [Nat.reduceBEq, elem_hit, elem_miss, elem_nil]; done) | ((repeat' (first | assumption | exact Sub.refl _ | refine Sub.push ?_ ?_ | exact HokR.fresh (by assumption) | refine Fresh.push ?_ | refine HokR.push ?_ ?_ ?_ | exact Grown.refl | refine GrownR.push ?_ ?_ ?_ | exact refsOK_ints | exact refsOK_pairs | exact Nat.le_refl _ | (simp only [wM, Nat.reduceAdd, Nat.reduceLT, Nat.reduceLeDiff]; done))); done) | omega | decide) only [sBox_int, x1, callT w1, callT w2, callT w3, d1, d2, d3, callT ev1, callT ev2, wrap_i64, idx?_pos, Int.toNat_natCast, ↓wA, wB, resOf, Option.map_some, Option.map_none, List.map_cons, List.map_nil, List.nil_append, List.append_nil, List.cons_append, Nat.reduceBEq, List.getElem?_cons_zero, List.getElem?_cons_succ, List.getElem?_nil, Option.getD_some, Option.getD_none, cond_false, cond_true, and_true, true_and, Nat.zero_add, Nat.mul_one, Int.reduceBEq, Int.reduceBNe, Int.reduceLT, Int.reduceLE, Int.reduceAdd, Int.reduceSub, Int.reduceMul, decide_true, decide_false, Bool.not_true, Bool.not_false, beq_self_eq_true, bne_self_eq_false, and_self, List.isEmpty_nil, List.isEmpty_cons, Bool.true_or, Bool.false_or, List.set_cons_zero, List.set_cons_succ, List.length_cons, List.length_nil, Option.bind_some, List.all_cons, List.all_nil, Bool.or_true, Bool.true_and, Bool.and_true, Int.reduceToNat]
        refine ⟨_, rfl, GrownR.trans gb (GrownR.trans g1 g2), a, ?_, ?_⟩
        · rw [stlE, if_pos ok]; rfl
        · rw [stlO, if_pos ok]
          have hn : h.next ≤ h1.next := (GrownR.trans gb g1).next
          cases hh : (allC (lpF (q : Int).toNat) (p : Int).toNat (m : Int).toNat []).head? with
          | none => simp only [Int.toNat_natCast] at hh; rw [hh] at q2; exact q2
          | some zs => simp only [Int.toNat_natCast] at hh; rw [hh] at q2; exact ⟨q2.1.le hn, q2.2⟩
      · have d3 : decide (3 ≤ k ∧ k ≤ 4) = false := decide_eq_false e3
        have ok : ¬ stlOK n r k := fun h => e3 h.2.2
        simp (disch := first | (simp only [Nat.reduceBEq, elem_hit, elem_miss, elem_nil]; done) | ((repeat' (first | assumption | exact Sub.refl _ | refine Sub.push ?_ ?_ | exact HokR.fresh (by assumption) | refine Fresh.push ?_ | refine HokR.push ?_ ?_ ?_ | exact Grown.refl | refine GrownR.push ?_ ?_ ?_ | exact refsOK_ints | exact refsOK_pairs | exact Nat.le_refl _ | (simp only [wM, Nat.reduceAdd, Nat.reduceLT, Nat.reduceLeDiff]; done))); done) | omega | decide) only [sBox_int, x1, callT w1, callT w2, callT w3, d1, d2, d3, wrap_i64, idx?_pos, Int.toNat_natCast, ↓wA, wB, resOf, Option.map_some, Option.map_none, List.map_cons, List.map_nil, List.nil_append, List.append_nil, List.cons_append, Nat.reduceBEq, List.getElem?_cons_zero, List.getElem?_cons_succ, List.getElem?_nil, Option.getD_some, Option.getD_none, cond_false, cond_true, and_true, true_and, Nat.zero_add, Nat.mul_one, Int.reduceBEq, Int.reduceBNe, Int.reduceLT, Int.reduceLE, Int.reduceAdd, Int.reduceSub, Int.reduceMul, decide_true, decide_false, Bool.not_true, Bool.not_false, beq_self_eq_true, bne_self_eq_false, and_self, List.isEmpty_nil, List.isEmpty_cons, Bool.true_or, Bool.false_or, List.set_cons_zero, List.set_cons_succ, List.length_cons, List.length_nil, Option.bind_some, List.all_cons, List.all_nil, Bool.or_true, Bool.true_and, Bool.and_true, Int.reduceToNat]
        exact ⟨_, rfl, gb, .nilsl, by rw [stlE, if_neg ok], by rw [stlO, if_neg ok]; rfl⟩
    · have d2 : decide (1 ≤ r ∧ r ≤ 3) = false := decide_eq_false e2
      have ok : ¬ stlOK n r k := fun h => e2 h.2.1
      simp (disch := first | (simp only [Nat.reduceBEq, elem_hit, elem_miss, elem_nil]; done) | ((repeat' (first | assumption | exact Sub.refl _ | refine Sub.push ?_ ?_ | exact HokR.fresh (by assumption) | refine Fresh.push ?_ | refine HokR.push ?_ ?_ ?_ | exact Grown.refl | refine GrownR.push ?_ ?_ ?_ | exact refsOK_ints | exact refsOK_pairs | exact Nat.le_refl _ | (simp only [wM, Nat.reduceAdd, Nat.reduceLT, Nat.reduceLeDiff]; done))); done) | omega | decide) only [sBox_int, x1, callT w1, callT w2, d1, d2, wrap_i64, idx?_pos, Int.toNat_natCast, ↓wA, wB, resOf, Option.map_some, Option.map_none, List.map_cons, List.map_nil, List.nil_append, List.append_nil, List.cons_append, Nat.reduceBEq, List.getElem?_cons_zero, List.getElem?_cons_succ, List.getElem?_nil, Option.getD_some, Option.getD_none, cond_false, cond_true, and_true, true_and, Nat.zero_add, Nat.mul_one, Int.reduceBEq, Int.reduceBNe, Int.reduceLT, Int.reduceLE, Int.reduceAdd, Int.reduceSub, Int.reduceMul, decide_true, decide_false, Bool.not_true, Bool.not_false, beq_self_eq_true, bne_self_eq_false, and_self, List.isEmpty_nil, List.isEmpty_cons, Bool.true_or, Bool.false_or, List.set_cons_zero, List.set_cons_succ, List.length_cons, List.length_nil, Option.bind_some, List.all_cons, List.all_nil, Bool.or_true, Bool.true_and, Bool.and_true, Int.reduceToNat]
      exact ⟨_, rfl, gb, .nilsl, by rw [stlE, if_neg ok], by rw [stlO, if_neg ok]; rfl⟩
  · have d1 : decide (1 ≤ n ∧ n ≤ 20) = false := decide_eq_false e1
    have ok : ¬ stlOK n r k := fun h => e1 h.1
    simp (disch := first | (simp only [Nat.reduceBEq, elem_hit, elem_miss, elem_nil]; done) | ((repeat' (first | assumption | exact Sub.refl _ | refine Sub.push ?_ ?_ | exact HokR.fresh (by assumption) | refine Fresh.push ?_ | refine HokR.push ?_ ?_ ?_ | exact Grown.refl | refine GrownR.push ?_ ?_ ?_ | exact refsOK_ints | exact refsOK_pairs | exact Nat.le_refl _ | (simp only [wM, Nat.reduceAdd, Nat.reduceLT, Nat.reduceLeDiff]; done))); done) | omega | decide) only [sBox_int, x1, callT w1, d1, wrap_i64, idx?_pos, Int.toNat_natCast, ↓wA, wB, resOf, Option.map_some, Option.map_none, List.map_cons, List.map_nil, List.nil_append, List.append_nil, List.cons_append, Nat.reduceBEq, List.getElem?_cons_zero, List.getElem?_cons_succ, List.getElem?_nil, Option.getD_some, Option.getD_none, cond_false, cond_true, and_true, true_and, Nat.zero_add, Nat.mul_one, Int.reduceBEq, Int.reduceBNe, Int.reduceLT, Int.reduceLE, Int.reduceAdd, Int.reduceSub, Int.reduceMul, decide_true, decide_false, Bool.not_true, Bool.not_false, beq_self_eq_true, bne_self_eq_false, and_self, List.isEmpty_nil, List.isEmpty_cons, Bool.true_or, Bool.false_or, List.set_cons_zero, List.set_cons_succ, List.length_cons, List.length_nil, Option.bind_some, List.all_cons, List.all_nil, Bool.or_true, Bool.true_and, Bool.and_true, Int.reduceToNat]
    exact ⟨_, rfl, gb, .nilsl, by rw [stlE, if_neg ok], by rw [stlO, if_neg ok]; rfl⟩

theorem f7 (n r k : Int) (h : Hp) (hk : Hok h) (hn : -9223372036854775808 ≤ n ∧ n ≤ 9223372036854775807) (hr : -9223372036854775808 ≤ r ∧ r ≤ 9223372036854775807) (hkb : -9223372036854775808 ≤ k ∧ k ≤ 9223372036854775807) :
    ∃ h', Evals Try.prog tab false (.func 7) [.int .i64 n, .int .i64 r, .int .i64 k] h (.bool true, h') := by
  suffices H : ∃ v h', Evals Try.prog tab false (.func 7) [.int .i64 n, .int .i64 r, .int .i64 k] h (v, h') ∧ v = .bool true by
    obtain ⟨v, h', e, rfl⟩ := H
    exact ⟨h', e⟩
  refine evals_func (Q := fun v _ => v = .bool true) c7 rfl ?_
  simp only [sf7, initS_cons, initS_nil]
  obtain ⟨v3, h4, ev4, g4, t, rfl, q4⟩ := f31 n r k h.en hk
  have k4 := g4.ok hk
  have w1 := f18 n 1 20 h4 k4
  have w2 := f18 r 1 3 h4 k4
  have lv := f19
  by_cases e1 : 1 ≤ n ∧ n ≤ 20
  · have d1 : decide (1 ≤ n ∧ n ≤ 20) = true := decide_eq_true e1
    by_cases e2 : 1 ≤ r ∧ r ≤ 3
    · have d2 : decide (1 ≤ r ∧ r ≤ 3) = true := decide_eq_true e2
      by_cases e3 : 3 ≤ k ∧ k ≤ 4
      · have ok : stlOK n r k := ⟨e1, e2, e3⟩
        obtain ⟨m, rfl⟩ : ∃ m : Nat, n = m := ⟨n.toNat, by omega⟩
        obtain ⟨p, rfl⟩ : ∃ p : Nat, r = p := ⟨r.toNat, by omega⟩
        obtain ⟨q, rfl⟩ : ∃ q : Nat, k = q := ⟨k.toNat, by omega⟩
        have kp : Hok (h4.pu []) := Hok.pu k4 rfl
        have O : Own h4.next (h4.pu []).blks .i64 (.sl h4.next 0 0 (some 0) 1) [] := Own.fresh (Nat.le_refl _) rfl rfl rfl (Nat.le_refl _)
        obtain ⟨w, h5, ev5, g5, q5⟩ := f32 m p q (by omega) (by omega) (by omega) m [] (.sl h4.next 0 0 (some 0) 1) (h4.pu []) h4.next (by simp) kp O (fun e => by cases e) (Nat.le_succ _)
        have eO : stlO m p q = refA (stOk q) p m [] := by
          rw [stlO, if_pos ok, refA_all (F := lpF q) (fun zs c hz => ?_) m [] rfl]
          · rfl
          · have hs : prgO zs q = none := by simpa [stOk] using hz
            have := prg_snoc (c := c) (show 2 ≤ q by omega) hs
            simpa [stOk] using this
        have eE : stlE m p q = if (refA (stOk q) p m []).isSome = true then 0 else 5 := by
          rw [← eO, stlE, stlO, if_pos ok, if_pos ok]
        rw [eE] at ev4
        rw [eO] at q4
        have g45 : Grown h4 h5 := GrownR.trans (Grown.pu Grown.refl rfl) g5
        have q4' : HD h.next t h5.blks (refA (stOk q) p m []) := by
          cases hs : refA (stOk q) p m [] with
          | none => rw [hs] at q4; exact q4
          | some cc => rw [hs] at q4; exact ⟨q4.1.sub (g45.sub k4), q4.2⟩
        have fd := lfound t w (refA (stOk q) p m []) h.next h4.next h5 (g5.ok kp) q4' q5 (fun c e => by
          rw [← eO, stlO, if_pos ok] at e
          have := head_len e
          omega)
        by_cases e4 : q = 3
        · subst e4
          have b3 : (((3 : Nat) : Int) != 3) = false := rfl
          simp (disch := first | (simp only [Nat.reduceBEq, elem_hit, elem_miss, elem_nil]; done) | ((repeat' (first | assumption | exact Sub.refl _ | refine Sub.push ?_ ?_ | exact HokR.fresh (by assumption) | refine Fresh.push ?_ | refine HokR.push ?_ ?_ ?_ | exact Grown.refl | refine GrownR.push ?_ ?_ ?_ | exact refsOK_ints | exact refsOK_pairs | exact Nat.le_refl _ | (simp only [wM, Nat.reduceAdd, Nat.reduceLT, Nat.reduceLeDiff]; done))); done) | omega | decide) only [callT ev4, callT w1, callT w2, d1, d2, b3, callT ev5, callT fd, callT (lv h5), wrap_i64, idx?_pos, Int.toNat_natCast, ↓wA, wB, resOf, Option.map_some, Option.map_none, List.map_cons, List.map_nil, List.nil_append, List.append_nil, List.cons_append, Nat.reduceBEq, List.getElem?_cons_zero, List.getElem?_cons_succ, List.getElem?_nil, Option.getD_some, Option.getD_none, cond_false, cond_true, and_true, true_and, Nat.zero_add, Nat.mul_one, Int.reduceBEq, Int.reduceBNe, Int.reduceLT, Int.reduceLE, Int.reduceAdd, Int.reduceSub, Int.reduceMul, decide_true, decide_false, Bool.not_true, Bool.not_false, beq_self_eq_true, bne_self_eq_false, and_self, List.isEmpty_nil, List.isEmpty_cons, Bool.true_or, Bool.false_or, List.set_cons_zero, List.set_cons_succ, List.length_cons, List.length_nil, Option.bind_some, List.all_cons, List.all_nil, Bool.or_true, Bool.true_and, Bool.and_true, Int.reduceToNat]
          exact ⟨_, rfl, rfl⟩
        · have e5 : q = 4 := by omega
          subst e5
          have b3 : (((4 : Nat) : Int) != 3) = true := rfl
          have b4 : (((4 : Nat) : Int) != 4) = false := rfl
          simp (disch := first | (simp only [Nat.reduceBEq, elem_hit, elem_miss, elem_nil]; done) | ((repeat' (first | assumption | exact Sub.refl _ | refine Sub.push ?_ ?_ | exact HokR.fresh (by assumption) | refine Fresh.push ?_ | refine HokR.push ?_ ?_ ?_ | exact Grown.refl | refine GrownR.push ?_ ?_ ?_ | exact refsOK_ints | exact refsOK_pairs | exact Nat.le_refl _ | (simp only [wM, Nat.reduceAdd, Nat.reduceLT, Nat.reduceLeDiff]; done))); done) | omega | decide) only [callT ev4, callT w1, callT w2, d1, d2, b3, b4, callT ev5, callT fd, callT (lv h5), wrap_i64, idx?_pos, Int.toNat_natCast, ↓wA, wB, resOf, Option.map_some, Option.map_none, List.map_cons, List.map_nil, List.nil_append, List.append_nil, List.cons_append, Nat.reduceBEq, List.getElem?_cons_zero, List.getElem?_cons_succ, List.getElem?_nil, Option.getD_some, Option.getD_none, cond_false, cond_true, and_true, true_and, Nat.zero_add, Nat.mul_one, Int.reduceBEq, Int.reduceBNe, Int.reduceLT, Int.reduceLE, Int.reduceAdd, Int.reduceSub, Int.reduceMul, decide_true, decide_false, Bool.not_true, Bool.not_false, beq_self_eq_true, bne_self_eq_false, and_self, List.isEmpty_nil, List.isEmpty_cons, Bool.true_or, Bool.false_or, List.set_cons_zero, List.set_cons_succ, List.length_cons, List.length_nil, Option.bind_some, List.all_cons, List.all_nil, Bool.or_true, Bool.true_and, Bool.and_true, Int.reduceToNat]
          exact ⟨_, rfl, rfl⟩
      · have b3 : (k != 3) = true := by simp; omega
        have b4 : (k != 4) = true := by simp; omega
        have ok : ¬ stlOK n r k := fun h => e3 h.2.2
        have eE : stlE n r k = 1 := by rw [stlE, if_neg ok]
        rw [stlO, if_neg ok] at q4
        cases q4
        rw [eE] at ev4
        simp (disch := first | (simp only [Nat.reduceBEq, elem_hit, elem_miss, elem_nil]; done) | ((repeat' (first | assumption | exact Sub.refl _ | refine Sub.push ?_ ?_ | exact HokR.fresh (by assumption) | refine Fresh.push ?_ | refine HokR.push ?_ ?_ ?_ | exact Grown.refl | refine GrownR.push ?_ ?_ ?_ | exact refsOK_ints | exact refsOK_pairs | exact Nat.le_refl _ | (simp only [wM, Nat.reduceAdd, Nat.reduceLT, Nat.reduceLeDiff]; done))); done) | omega | decide) only [callT ev4, callT w1, callT w2, d1, d2, b3, b4, sLen_nil, callT (lv h4), wrap_i64, idx?_pos, Int.toNat_natCast, ↓wA, wB, resOf, Option.map_some, Option.map_none, List.map_cons, List.map_nil, List.nil_append, List.append_nil, List.cons_append, Nat.reduceBEq, List.getElem?_cons_zero, List.getElem?_cons_succ, List.getElem?_nil, Option.getD_some, Option.getD_none, cond_false, cond_true, and_true, true_and, Nat.zero_add, Nat.mul_one, Int.reduceBEq, Int.reduceBNe, Int.reduceLT, Int.reduceLE, Int.reduceAdd, Int.reduceSub, Int.reduceMul, decide_true, decide_false, Bool.not_true, Bool.not_false, beq_self_eq_true, bne_self_eq_false, and_self, List.isEmpty_nil, List.isEmpty_cons, Bool.true_or, Bool.false_or, List.set_cons_zero, List.set_cons_succ, List.length_cons, List.length_nil, Option.bind_some, List.all_cons, List.all_nil, Bool.or_true, Bool.true_and, Bool.and_true, Int.reduceToNat]
        exact ⟨_, rfl, rfl⟩
    · have d2 : decide (1 ≤ r ∧ r ≤ 3) = false := decide_eq_false e2
      have ok : ¬ stlOK n r k := fun h => e2 h.2.1
      have eE : stlE n r k = 1 := by rw [stlE, if_neg ok]
      rw [stlO, if_neg ok] at q4
      cases q4
      rw [eE] at ev4
      simp (disch := first | (simp only [Nat.reduceBEq, elem_hit, elem_miss, elem_nil]; done) | ((repeat' (first | assumption | exact Sub.refl _ | refine Sub.push ?_ ?_ | exact HokR.fresh (by assumption) | refine Fresh.push ?_ | refine HokR.push ?_ ?_ ?_ | exact Grown.refl | refine GrownR.push ?_ ?_ ?_ | exact refsOK_ints | exact refsOK_pairs | exact Nat.le_refl _ | (simp only [wM, Nat.reduceAdd, Nat.reduceLT, Nat.reduceLeDiff]; done))); done) | omega | decide) only [callT ev4, callT w1, callT w2, d1, d2, sLen_nil, callT (lv h4), wrap_i64, idx?_pos, Int.toNat_natCast, ↓wA, wB, resOf, Option.map_some, Option.map_none, List.map_cons, List.map_nil, List.nil_append, List.append_nil, List.cons_append, Nat.reduceBEq, List.getElem?_cons_zero, List.getElem?_cons_succ, List.getElem?_nil, Option.getD_some, Option.getD_none, cond_false, cond_true, and_true, true_and, Nat.zero_add, Nat.mul_one, Int.reduceBEq, Int.reduceBNe, Int.reduceLT, Int.reduceLE, Int.reduceAdd, Int.reduceSub, Int.reduceMul, decide_true, decide_false, Bool.not_true, Bool.not_false, beq_self_eq_true, bne_self_eq_false, and_self, List.isEmpty_nil, List.isEmpty_cons, Bool.true_or, Bool.false_or, List.set_cons_zero, List.set_cons_succ, List.length_cons, List.length_nil, Option.bind_some, List.all_cons, List.all_nil, Bool.or_true, Bool.true_and, Bool.and_true, Int.reduceToNat]
      exact ⟨_, rfl, rfl⟩
  · have d1 : decide (1 ≤ n ∧ n ≤ 20) = false := decide_eq_false e1
    have ok : ¬ stlOK n r k := fun h => e1 h.1
    have eE : stlE n r k = 1 := by rw [stlE, if_neg ok]
    rw [stlO, if_neg ok] at q4
    cases q4
    rw [eE] at ev4
    simp (disch := first | (simp only [Nat.reduceBEq, elem_hit, elem_miss, elem_nil]; done) | ((repeat' (first | assumption | exact Sub.refl _ | refine Sub.push ?_ ?_ | exact HokR.fresh (by assumption) | refine Fresh.push ?_ | refine HokR.push ?_ ?_ ?_ | exact Grown.refl | refine GrownR.push ?_ ?_ ?_ | exact refsOK_ints | exact refsOK_pairs | exact Nat.le_refl _ | (simp only [wM, Nat.reduceAdd, Nat.reduceLT, Nat.reduceLeDiff]; done))); done) | omega | decide) only [callT ev4, callT w1, d1, sLen_nil, callT (lv h4), wrap_i64, idx?_pos, Int.toNat_natCast, ↓wA, wB, resOf, Option.map_some, Option.map_none, List.map_cons, List.map_nil, List.nil_append, List.append_nil, List.cons_append, Nat.reduceBEq, List.getElem?_cons_zero, List.getElem?_cons_succ, List.getElem?_nil, Option.getD_some, Option.getD_none, cond_false, cond_true, and_true, true_and, Nat.zero_add, Nat.mul_one, Int.reduceBEq, Int.reduceBNe, Int.reduceLT, Int.reduceLE, Int.reduceAdd, Int.reduceSub, Int.reduceMul, decide_true, decide_false, Bool.not_true, Bool.not_false, beq_self_eq_true, bne_self_eq_false, and_self, List.isEmpty_nil, List.isEmpty_cons, Bool.true_or, Bool.false_or, List.set_cons_zero, List.set_cons_succ, List.length_cons, List.length_nil, Option.bind_some, List.all_cons, List.all_nil, Bool.or_true, Bool.true_and, Bool.and_true, Int.reduceToNat]
    exact ⟨_, rfl, rfl⟩
end Go.Proofs.Ytpclkcamfainiaa
