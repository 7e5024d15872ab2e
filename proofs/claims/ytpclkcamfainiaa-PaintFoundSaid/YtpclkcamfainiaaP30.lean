/- The law: what is found is there. -/
import Derived.Test.YtpclkcamfainiaaP26
set_option linter.unusedSimpArgs false
set_option linter.unusedVariables false
set_option maxHeartbeats 4000000
set_option maxRecDepth 20000
namespace Go.Pt
open Go Go.Abs Go.Proofs.Ytpclkcamfainiaa
/-- What a search returns. -/
def GXs (R : Nat → Nat → Bool) (k f : Nat) (cl : List Nat) (v : Nat) (us : List Nat) : Prop :=
  us.length + cl.length = k ∧ us.Pairwise (fun a b => a < b ∧ R b a = true) ∧ (∀ u ∈ us, v ≤ u ∧ u < v + f) ∧ ∀ u ∈ us, ∀ w ∈ cl, R u w = true
theorem grL_sound {R : Nat → Nat → Bool} {k : Nat} : ∀ {f v : Nat} {cl r : List Nat}, grL (fun cl v => cl.all (R v)) k f cl v = some r → cl.length < k → ∃ us, r = cl ++ us ∧ GXs R k f cl v us
  | 0, v, cl, r, h, _ => by simp [grL] at h
  | f + 1, v, cl, r, h, hl => by
    rw [grL_s] at h
    have later : grL (fun cl v => cl.all (R v)) k f cl (v + 1) = some r → ∃ us, r = cl ++ us ∧ GXs R k (f + 1) cl v us := fun h => by
      obtain ⟨us, e, p1, p2, p3, p4⟩ := grL_sound h hl
      exact ⟨us, e, p1, p2, fun u hu => by have := p3 u hu; omega, p4⟩
    by_cases e : cl.all (R v) = true
    · rw [if_pos e] at h
      cases hg : gr (fun cl v => cl.all (R v)) k f (cl ++ [v]) (v + 1) with
      | none => rw [hg] at h; exact later h
      | some r' =>
        rw [hg] at h
        cases h
        rw [gr] at hg
        by_cases e2 : (cl ++ [v]).length = k
        · rw [if_pos e2] at hg
          cases hg
          refine ⟨[v], rfl, by simp at e2 ⊢; omega, by simp, fun u hu => ?_, fun u hu w hw => ?_⟩
          · simp at hu; omega
          · simp at hu; subst hu; exact List.all_eq_true.1 e w hw
        · rw [if_neg e2] at hg
          obtain ⟨us, e3, p1, p2, p3, p4⟩ := grL_sound hg (by rw [List.length_append, List.length_singleton] at e2 ⊢; omega)
          refine ⟨v :: us, by rw [e3]; simp, by simp at p1 ⊢; omega, List.pairwise_cons.2 ⟨fun u hu => ⟨by have := p3 u hu; omega, p4 u hu v (by simp)⟩, p2⟩, fun u hu => ?_, fun u hu w hw => ?_⟩
          · rcases List.mem_cons.1 hu with rfl | hu
            · omega
            · have := p3 u hu; omega
          · rcases List.mem_cons.1 hu with rfl | hu
            · exact List.all_eq_true.1 e w hw
            · exact p4 u hu w (by simp [hw])
    · rw [if_neg e] at h
      exact later h
theorem gr_sound {R : Nat → Nat → Bool} {k f v : Nat} {cl r : List Nat} (h : gr (fun cl v => cl.all (R v)) k f cl v = some r) (hl : cl.length ≤ k) : ∃ us, r = cl ++ us ∧ GXs R k f cl v us := by
  rw [gr] at h
  by_cases e : cl.length = k
  · rw [if_pos e] at h
    cases h
    exact ⟨[], by simp, by simpa using e, List.Pairwise.nil, by simp, by simp⟩
  · rw [if_neg e] at h
    exact grL_sound h (by omega)
theorem syL_some {P : Nat → Nat → Bool} {n x : Nat} {p : Nat × Nat} : ∀ {f y : Nat}, syL P n x f y = some p → p.1 = x ∧ y ≤ p.2 ∧ x + p.2 ≤ n ∧ P p.1 p.2 = true
  | 0, y, h => by simp [syL] at h
  | f + 1, y, h => by
    rw [syL] at h
    by_cases e : x + y ≤ n
    · rw [if_pos e] at h
      by_cases e2 : P x y = true
      · rw [if_pos e2] at h
        cases h
        exact ⟨rfl, Nat.le_refl _, e, e2⟩
      · rw [if_neg e2] at h
        have := syL_some h
        exact ⟨this.1, by omega, this.2.2⟩
    · rw [if_neg e] at h
      cases h
theorem sxL_some {P : Nat → Nat → Bool} {n : Nat} {p : Nat × Nat} : ∀ {f x : Nat}, sxL P n f x = some p → x ≤ p.1 ∧ p.1 ≤ p.2 ∧ p.1 + p.2 ≤ n ∧ P p.1 p.2 = true
  | 0, x, h => by simp [sxL] at h
  | f + 1, x, h => by
    rw [sxL] at h
    cases hs : syL P n x n x with
    | none =>
      rw [hs] at h
      have := sxL_some h
      exact ⟨by omega, this.2⟩
    | some r =>
      rw [hs] at h
      cases h
      obtain ⟨a, b, c, d⟩ := syL_some hs
      exact ⟨by omega, by omega, by omega, d⟩
theorem sumO_some {L : List Int} {p : Nat × Nat} (h : sumO L = some p) : 1 ≤ p.1 ∧ p.1 ≤ p.2 ∧ p.1 + p.2 ≤ L.length ∧ sp L p.1 p.2 = true := sxL_some h
theorem pdL_some {P : Nat → Nat → Bool} {n j a : Nat} {p : Nat × Nat} : ∀ {f d : Nat}, pdL P n j a f d = some p → p.1 = a ∧ d ≤ p.2 ∧ a + j * p.2 ≤ n ∧ P p.1 p.2 = true
  | 0, d, h => by simp [pdL] at h
  | f + 1, d, h => by
    rw [pdL] at h
    by_cases e : a + j * d ≤ n
    · rw [if_pos e] at h
      by_cases e2 : P a d = true
      · rw [if_pos e2] at h
        cases h
        exact ⟨rfl, Nat.le_refl _, e, e2⟩
      · rw [if_neg e2] at h
        have := pdL_some h
        exact ⟨this.1, by omega, this.2.2⟩
    · rw [if_neg e] at h
      cases h
theorem paL_some {P : Nat → Nat → Bool} {n j : Nat} {p : Nat × Nat} : ∀ {f a : Nat}, paL P n j f a = some p → a ≤ p.1 ∧ 1 ≤ p.2 ∧ p.1 + j * p.2 ≤ n ∧ P p.1 p.2 = true
  | 0, a, h => by simp [paL] at h
  | f + 1, a, h => by
    rw [paL] at h
    cases hs : pdL P n j a n 1 with
    | none =>
      rw [hs] at h
      have := paL_some h
      exact ⟨by omega, this.2⟩
    | some r =>
      rw [hs] at h
      cases h
      obtain ⟨x, b, c, d⟩ := pdL_some hs
      exact ⟨by omega, b, by rw [x]; exact c, d⟩
theorem prgO_some {L : List Int} {k : Nat} {p : Nat × Nat} (h : prgO L k = some p) : 1 ≤ p.1 ∧ 1 ≤ p.2 ∧ p.1 + (k - 1) * p.2 ≤ L.length ∧ pg L k p.1 p.2 = true := paL_some h
theorem get_mem' {L : List Int} {i : Nat} (h : i < L.length) : L.getD i 0 ∈ L := by
  simp only [List.getD_eq_getElem?_getD]
  rw [List.getElem?_eq_getElem h]
  exact List.getElem_mem h
end Go.Pt
namespace Go.Abs
/-- A slice of one's own, or an empty one that no append can write to. -/
def OwnE (c : Nat) (bs : List (Nat × Blk)) (s : AV) (zs : List Int) : Prop := Own c bs .i64 s zs ∨ (zs = [] ∧ ∃ id b, s = .sl id 0 0 (some 0) 1 ∧ lkB bs id = some b)
theorem OwnE.ints {c : Nat} {bs : List (Nat × Blk)} {s : AV} {zs : List Int} (O : OwnE c bs s zs) : Ints bs .i64 s zs := by
  obtain O | ⟨rfl, id, b, rfl, h⟩ := O
  · exact O.ints
  · exact ⟨rfl, .inr ⟨id, 0, some 0, rfl, Nat.le_refl 0, fun j hj => by simp at hj⟩⟩
theorem OwnE.ref {c m : Nat} {bs : List (Nat × Blk)} {ls : List (Nat × LoopA)} {s : AV} {zs : List Int} (O : OwnE c bs s zs) (hk : HokR m bs ls) : refOK m s = true := by
  obtain O | ⟨rfl, id, b, rfl, h⟩ := O
  · exact O.ref hk
  · simp only [refOK, Nat.blt_eq]
    exact (hk.get h).1
theorem ownE_app1 {h0 h : Hp} {s : AV} {zs : List Int} {v : Int} (ho : Hok h0) (g : Grown h0 h) (O : OwnE h0.next h.blks s zs) (hl : zs.length + 1 ≤ 1073741824) :
    ∃ s' h', sApp true 1 { next := h.next + 1, blks := (h.next, { cells := Abs.ints .i64 [v], ch := h.next, wr := true }) :: h.blks, loops := h.loops, base := h.base, esc := h.esc } s (.sl h.next 0 1 (some 1) 1) = some (s', h') ∧
      OwnE h0.next h'.blks s' (zs ++ [v]) ∧ Grown h0 h' := by
  obtain O | ⟨rfl, id, b, rfl, hb⟩ := O
  · obtain ⟨s', h', e, o, g', _⟩ := own_app1 (v := v) ho g O hl
    exact ⟨s', h', e, .inl o, g'⟩
  · have hk := g.ok ho
    have g1 : Grown h0 (h.pu (Abs.ints .i64 [v])) := Grown.pu g refsOK_ints
    have a1 : Arr (h.pu (Abs.ints .i64 [v])).blks 1 (.sl h.next 0 1 (some 1) 1) 1 (Abs.ints .i64 [v]) := Ints.top rfl (Nat.le_refl 1)
    have hsrc := a1.src (by omega) (h.pu (Abs.ints .i64 [v])) rfl
    have hid := (hk.get hb).1
    have hb' : lkB (h.pu (Abs.ints .i64 [v])).blks id = some b := by rw [lkB_push (show id ≠ h.next by omega)]; exact hb
    have nz : Nat.beq 1 0 = false := rfl
    have hc : (Abs.ints .i64 [v]).all AV.isCell = true := all_cell_ints
    have e2 : Nat.ble (0 + 1) 1073741824 = true := rfl
    have e3 : Nat.ble (0 + 1) 0 = false := rfl
    have e5 : Nat.ble (0 + 0 * 1) b.cells.length = true := Nat.ble_eq_true_of_le (by omega)
    have e4 : slice? b.cells 0 (0 * 1) = some [] := by simp only [slice?, e5, cond_true]; rfl
    refine ⟨.sl (h.next + 1) 0 1 none 1, (h.pu (Abs.ints .i64 [v])).pu (Abs.ints .i64 [v]), ?_, .inl ⟨rfl, .inr ⟨h.next + 1, _, none, rfl, lkB_top, rfl, ?_, ?_, rfl, by simp, rfl⟩⟩, Grown.pu g1 refsOK_ints⟩
    · simp only [sApp, hsrc, sAppend, Nat.beq_refl, Bool.not_true, cond_false, nz, e2, hc, Bool.and_self, hb', e3, e4, Hp.new, List.nil_append, Nat.zero_add]
    · have := g.next; omega
    · have := g.next; simp only; omega
theorem sBin_quo8 {c : EqC} {a : Int} (ha : 0 ≤ a ∧ a ≤ 255) : sBin .quo c (.int .u8 a) (.int .u8 2) = some (.int .u8 (a / 2)) := by
  have h2 : (2 : Int) ≠ 0 := by omega
  have hw : IntKind.wrap .u8 (a / 2) = a / 2 := by
    simp only [IntKind.wrap, IntKind.bits, IntKind.signed]
    simp
    omega
  simp only [sBin, if_true, abInt, h2, if_false, Int.tdiv_eq_ediv_of_nonneg ha.1, hw]
end Go.Abs
namespace Go.Proofs.Ytpclkcamfainiaa
open Go Go.Abs Go.Pt

theorem f37 (n : Nat) (b : AV) (l : List Nat) (h : Hp) (hk : Hok h) (hb : Ints h.blks .i64 b (nz l)) (hn : 1 ≤ n ∧ n ≤ 8) (hl : l.length ≤ 100) (hu : ∀ u ∈ l, u < n) (hp : l.Pairwise (· < ·)) :
    Evals Try.prog tab false (.func 37) [.int .i64 n, b] h (.bool true, h) := by
  refine evals_pure c37 rfl hk ?_
  simp only [sf37, initS_cons, initS_nil]
  simp (disch := first | (simp only [Nat.reduceBEq, elem_hit, elem_miss, elem_nil]; done) | ((repeat' (first | assumption | exact Sub.refl _ | refine Sub.push ?_ ?_ | exact HokR.fresh (by assumption) | refine Fresh.push ?_ | refine HokR.push ?_ ?_ ?_ | exact Grown.refl | refine GrownR.push ?_ ?_ ?_ | exact refsOK_ints | exact refsOK_pairs | exact Nat.le_refl _ | (simp only [wM, Nat.reduceAdd, Nat.reduceLT, Nat.reduceLeDiff]; done))); done) | omega | decide) only [wrap_i64, idx?_pos, Int.toNat_natCast, ↓wA, wB, resOf, Option.map_some, Option.map_none, List.map_cons, List.map_nil, List.nil_append, List.append_nil, List.cons_append, Nat.reduceBEq, List.getElem?_cons_zero, List.getElem?_cons_succ, List.getElem?_nil, Option.getD_some, Option.getD_none, cond_false, cond_true, and_true, true_and, Nat.zero_add, Nat.mul_one, Int.reduceBEq, Int.reduceBNe, Int.reduceLT, Int.reduceLE, Int.reduceAdd, Int.reduceSub, Int.reduceMul, decide_true, decide_false, Bool.not_true, Bool.not_false, beq_self_eq_true, bne_self_eq_false, and_self, List.isEmpty_nil, List.isEmpty_cons, Bool.true_or, Bool.false_or, List.set_cons_zero, List.set_cons_succ, List.length_cons, List.length_nil, Option.bind_some, List.all_cons, List.all_nil, Bool.or_true, Bool.true_and, Bool.and_true, Int.reduceToNat]
  refine wloop (fun mm ss => ∃ (i : Nat) (u4 u9 u35 : AV), (mm = l.length - i) ∧ (i ≤ l.length) ∧ ss = { fr := [(0, .int .i64 n), (1, b), (4, u4), (5, .int .i64 i), (9, u9), (35, u35)], hp := h.en }) (l.length) ?_ ?_
  ·
    refine ⟨0, _, _, _, by omega, by omega, rfl⟩
  rintro nA sA ⟨i, u4, u9, u35, hnA, hi, rfl⟩
  simp (disch := first | (simp only [Nat.reduceBEq, elem_hit, elem_miss, elem_nil]; done) | ((repeat' (first | assumption | exact Sub.refl _ | refine Sub.push ?_ ?_ | exact HokR.fresh (by assumption) | refine Fresh.push ?_ | refine HokR.push ?_ ?_ ?_ | exact Grown.refl | refine GrownR.push ?_ ?_ ?_ | exact refsOK_ints | exact refsOK_pairs | exact Nat.le_refl _ | (simp only [wM, Nat.reduceAdd, Nat.reduceLT, Nat.reduceLeDiff]; done))); done) | omega | decide) only [hb.len, nz_len, wrap_i64, idx?_pos, Int.toNat_natCast, ↓wA, wB, resOf, Option.map_some, Option.map_none, List.map_cons, List.map_nil, List.nil_append, List.append_nil, List.cons_append, Nat.reduceBEq, List.getElem?_cons_zero, List.getElem?_cons_succ, List.getElem?_nil, Option.getD_some, Option.getD_none, cond_false, cond_true, and_true, true_and, Nat.zero_add, Nat.mul_one, Int.reduceBEq, Int.reduceBNe, Int.reduceLT, Int.reduceLE, Int.reduceAdd, Int.reduceSub, Int.reduceMul, decide_true, decide_false, Bool.not_true, Bool.not_false, beq_self_eq_true, bne_self_eq_false, and_self, List.isEmpty_nil, List.isEmpty_cons, Bool.true_or, Bool.false_or, List.set_cons_zero, List.set_cons_succ, List.length_cons, List.length_nil, Option.bind_some, List.all_cons, List.all_nil, Bool.or_true, Bool.true_and, Bool.and_true, Int.reduceToNat]
  refine ifThen_intro (fun e => ?_) (fun e => ?_) <;> have eq := e <;> try simp [-List.getD_eq_getElem?_getD] at eq
  · have hi2 : i < (nz l).length := by rw [nz_len]; exact eq
    have eg : l.getD i 0 = l[i] := by simp [List.getD_eq_getElem?_getD, List.getElem?_eq_getElem eq]
    have gg : (nz l).getD i 0 = ((l[i] : Nat) : Int) := by rw [nz_get, eg]
    have hb1 := hu _ (List.getElem_mem eq)
    have mn : (n : Int) - 1 = ((n - 1 : Nat) : Int) := by omega
    have w := f18 ((l[i] : Nat) : Int) 0 ((n - 1 : Nat) : Int) h.en hk
    rw [decide_eq_true (show (0 : Int) ≤ ((l[i] : Nat) : Int) ∧ ((l[i] : Nat) : Int) ≤ ((n - 1 : Nat) : Int) by omega)] at w
    by_cases e0 : i = 0
    · subst e0
      have d0 : decide ((0 : Int) < ((0 : Nat) : Int)) = false := rfl
      simp (disch := first | (simp only [Nat.reduceBEq, elem_hit, elem_miss, elem_nil]; done) | ((repeat' (first | assumption | exact Sub.refl _ | refine Sub.push ?_ ?_ | exact HokR.fresh (by assumption) | refine Fresh.push ?_ | refine HokR.push ?_ ?_ ?_ | exact Grown.refl | refine GrownR.push ?_ ?_ ?_ | exact refsOK_ints | exact refsOK_pairs | exact Nat.le_refl _ | (simp only [wM, Nat.reduceAdd, Nat.reduceLT, Nat.reduceLeDiff]; done))); done) | omega | decide) only [e, hb.ix (hi := hi2), hb.ld (hi := hi2), gg, mn, callT w, d0, wrap_i64, idx?_pos, Int.toNat_natCast, ↓wA, wB, resOf, Option.map_some, Option.map_none, List.map_cons, List.map_nil, List.nil_append, List.append_nil, List.cons_append, Nat.reduceBEq, List.getElem?_cons_zero, List.getElem?_cons_succ, List.getElem?_nil, Option.getD_some, Option.getD_none, cond_false, cond_true, and_true, true_and, Nat.zero_add, Nat.mul_one, Int.reduceBEq, Int.reduceBNe, Int.reduceLT, Int.reduceLE, Int.reduceAdd, Int.reduceSub, Int.reduceMul, decide_true, decide_false, Bool.not_true, Bool.not_false, beq_self_eq_true, bne_self_eq_false, and_self, List.isEmpty_nil, List.isEmpty_cons, Bool.true_or, Bool.false_or, List.set_cons_zero, List.set_cons_succ, List.length_cons, List.length_nil, Option.bind_some, List.all_cons, List.all_nil, Bool.or_true, Bool.true_and, Bool.and_true, Int.reduceToNat]
      refine ⟨_, ?_, 0 + 1, _, _, _, rfl, ?_, rfl⟩
      · omega
      omega
    · have d0 : decide ((0 : Int) < (i : Int)) = true := decide_eq_true (by omega)
      have mi : (i : Int) - 1 = ((i - 1 : Nat) : Int) := by omega
      have h3 : i - 1 < l.length := by omega
      have hi3 : i - 1 < (nz l).length := by rw [nz_len]; exact h3
      have eg3 : l.getD (i - 1) 0 = l[i - 1] := by simp [List.getD_eq_getElem?_getD, List.getElem?_eq_getElem h3]
      have gg3 : (nz l).getD (i - 1) 0 = ((l[i - 1] : Nat) : Int) := by rw [nz_get, eg3]
      have hlt : l[i - 1] < l[i] := List.pairwise_iff_getElem.1 hp (i - 1) i h3 eq (by omega)
      have dl : decide (((l[i] : Nat) : Int) ≤ ((l[i - 1] : Nat) : Int)) = false := decide_eq_false (by omega)
      simp (disch := first | (simp only [Nat.reduceBEq, elem_hit, elem_miss, elem_nil]; done) | ((repeat' (first | assumption | exact Sub.refl _ | refine Sub.push ?_ ?_ | exact HokR.fresh (by assumption) | refine Fresh.push ?_ | refine HokR.push ?_ ?_ ?_ | exact Grown.refl | refine GrownR.push ?_ ?_ ?_ | exact refsOK_ints | exact refsOK_pairs | exact Nat.le_refl _ | (simp only [wM, Nat.reduceAdd, Nat.reduceLT, Nat.reduceLeDiff]; done))); done) | omega | decide) only [e, hb.ix (hi := hi2), hb.ld (hi := hi2), gg, mn, callT w, d0, mi, hb.ix (hi := hi3), hb.ld (hi := hi3), gg3, dl, wrap_i64, idx?_pos, Int.toNat_natCast, ↓wA, wB, resOf, Option.map_some, Option.map_none, List.map_cons, List.map_nil, List.nil_append, List.append_nil, List.cons_append, Nat.reduceBEq, List.getElem?_cons_zero, List.getElem?_cons_succ, List.getElem?_nil, Option.getD_some, Option.getD_none, cond_false, cond_true, and_true, true_and, Nat.zero_add, Nat.mul_one, Int.reduceBEq, Int.reduceBNe, Int.reduceLT, Int.reduceLE, Int.reduceAdd, Int.reduceSub, Int.reduceMul, decide_true, decide_false, Bool.not_true, Bool.not_false, beq_self_eq_true, bne_self_eq_false, and_self, List.isEmpty_nil, List.isEmpty_cons, Bool.true_or, Bool.false_or, List.set_cons_zero, List.set_cons_succ, List.length_cons, List.length_nil, Option.bind_some, List.all_cons, List.all_nil, Bool.or_true, Bool.true_and, Bool.and_true, Int.reduceToNat]
      refine ⟨_, ?_, i + 1, _, _, _, rfl, ?_, rfl⟩
      · omega
      omega
  · simp (disch := first | (simp only [Nat.reduceBEq, elem_hit, elem_miss, elem_nil]; done) | ((repeat' (first | assumption | exact Sub.refl _ | refine Sub.push ?_ ?_ | exact HokR.fresh (by assumption) | refine Fresh.push ?_ | refine HokR.push ?_ ?_ ?_ | exact Grown.refl | refine GrownR.push ?_ ?_ ?_ | exact refsOK_ints | exact refsOK_pairs | exact Nat.le_refl _ | (simp only [wM, Nat.reduceAdd, Nat.reduceLT, Nat.reduceLeDiff]; done))); done) | omega | decide) only [e, wrap_i64, idx?_pos, Int.toNat_natCast, ↓wA, wB, resOf, Option.map_some, Option.map_none, List.map_cons, List.map_nil, List.nil_append, List.append_nil, List.cons_append, Nat.reduceBEq, List.getElem?_cons_zero, List.getElem?_cons_succ, List.getElem?_nil, Option.getD_some, Option.getD_none, cond_false, cond_true, and_true, true_and, Nat.zero_add, Nat.mul_one, Int.reduceBEq, Int.reduceBNe, Int.reduceLT, Int.reduceLE, Int.reduceAdd, Int.reduceSub, Int.reduceMul, decide_true, decide_false, Bool.not_true, Bool.not_false, beq_self_eq_true, bne_self_eq_false, and_self, List.isEmpty_nil, List.isEmpty_cons, Bool.true_or, Bool.false_or, List.set_cons_zero, List.set_cons_succ, List.length_cons, List.length_nil, Option.bind_some, List.all_cons, List.all_nil, Bool.or_true, Bool.true_and, Bool.and_true, Int.reduceToNat]
    exact ⟨_, rfl, rfl, by (repeat' (first | assumption | exact Sub.refl _ | refine Sub.push ?_ ?_ | exact HokR.fresh (by assumption) | refine Fresh.push ?_ | refine HokR.push ?_ ?_ ?_ | exact Grown.refl | refine GrownR.push ?_ ?_ ?_ | exact refsOK_ints | exact refsOK_pairs | exact Nat.le_refl _ | (simp only [wM, Nat.reduceAdd, Nat.reduceLT, Nat.reduceLeDiff]; done)))⟩

theorem f14 (x : Int) (a : AV) (xs : List Int) (y : Int) (h : Hp) (hk : Hok h) (hx : 0 ≤ x ∧ x ≤ 255) (ha : Ints h.blks .u8 a xs) (hb : ∀ k ∈ xs, 0 ≤ k ∧ k ≤ 255) (hz : xs.length ≤ maxLen) (hy : 0 ≤ y ∧ y ≤ 255) :
    ∃ h', Evals Try.prog tab false (.func 14) [.int .u8 x, a, .int .u8 y] h (.bool true, h') := by
  suffices H : ∃ v h', Evals Try.prog tab false (.func 14) [.int .u8 x, a, .int .u8 y] h (v, h') ∧ v = .bool true by
    obtain ⟨v, h', e, rfl⟩ := H
    exact ⟨h', e⟩
  unfold maxLen at hz
  have lv := f19
  obtain ⟨m, m1, m2, bm⟩ := f35 x 1 8 hx (by omega) (by omega) (by omega)
  obtain ⟨sz, s1, s2, bs⟩ := f35 (y / 2) 1 4 (by omega) (by omega) (by omega) (by omega)
  obtain ⟨t, t1, t2, bt⟩ := f35 y 3 4 hy (by omega) (by omega) (by omega)
  have tl := tri_lim (show m ≤ 8 by omega)
  obtain ⟨M, hM⟩ : ∃ M : Nat, M = m * (m - 1) := ⟨_, rfl⟩
  have hM2 : (m : Int) * ((m : Int) - 1) = (M : Int) := by rw [show (m : Int) - 1 = ((m - 1 : Nat) : Int) by omega, hM]; rfl
  have hM3 : M ≤ 56 := by rw [hM]; exact Nat.le_trans (Nat.mul_le_mul (show m ≤ 8 by omega) (show m - 1 ≤ 7 by omega)) (by omega)
  have hM4 : tri m = M / 2 := by rw [tri, hM]
  have eq := @sBin_quo
  have D0 : ∀ j, 0 ≤ xs.getD j 0 ∧ xs.getD j 0 ≤ 255 := fun j => by
    by_cases hj : j < xs.length
    · exact hb _ (get_mem' hj)
    · rw [List.getD_eq_getElem?_getD, List.getElem?_eq_none (by omega)]
      simp
  refine evals_func (Q := fun v _ => v = .bool true) c14 rfl ?_
  simp only [sf14, initS_cons, initS_nil]
  rw [wseq, wseq, wseq, wseq, wseq]
  refine wcut (fun ss => ∃ (hx : Hp) (pa : AV) (nu : AV) (NL : List Int) (u0 u1 u6 u10 u11 u12 u13 u14 u15 u16 u17 u18 u19 u20 u21 u22 u23 u24 u35 u41 u59 u73 u103 u113 u116 u121 u138 u218 u220 u256 u259 u282 : AV), (Grown h hx ∧ Ints hx.blks .i64 pa ((List.range (tri m)).map fun j => xs.getD j 0 % 2) ∧ refOK hx.next pa = true ∧ Ints hx.blks .i64 nu NL ∧ 1 ≤ NL.length ∧ NL.length ≤ 14 ∧ (∀ z ∈ NL, 0 ≤ z ∧ z < 3)) ∧ ss = { fr := [(0, u0), (1, u1), (2, .int .u8 y), (6, u6), (7, .int .i64 m), (8, pa), (9, nu), (10, u10), (11, u11), (12, u12), (13, u13), (14, u14), (15, u15), (16, u16), (17, u17), (18, u18), (19, u19), (20, u20), (21, u21), (22, u22), (23, u23), (24, u24), (35, u35), (41, u41), (59, u59), (73, u73), (103, u103), (113, u113), (116, u116), (121, u121), (138, u138), (218, u218), (220, u220), (256, u256), (259, u259), (282, u282)], hp := hx }) ?_ ?_
  · have em := bm h.en hk
    have g1 : Grown h ((h.en.pu []).pu []) := Grown.pu (Grown.pu Grown.en rfl) rfl
    have k1 := g1.ok hk
    have Oa : OwnE (h.next + 1 + 1) ((h.en.pu []).pu []).blks (.sl h.next 0 0 (some 0) 1) [] := .inr ⟨rfl, h.next, _, rfl, by rw [lkB_push (show h.next ≠ h.next + 1 by omega), lkB_top]⟩
    have lb : lkB ((h.en.pu []).pu []).blks (h.next + 1) = some { cells := [], ch := h.next + 1, wr := true } := lkB_top
    simp (disch := first | (simp only [Nat.reduceBEq, elem_hit, elem_miss, elem_nil]; done) | ((repeat' (first | assumption | exact Sub.refl _ | refine Sub.push ?_ ?_ | exact HokR.fresh (by assumption) | refine Fresh.push ?_ | refine HokR.push ?_ ?_ ?_ | exact Grown.refl | refine GrownR.push ?_ ?_ ?_ | exact refsOK_ints | exact refsOK_pairs | exact Nat.le_refl _ | (simp only [wM, Nat.reduceAdd, Nat.reduceLT, Nat.reduceLeDiff]; done))); done) | omega | decide) only [callT em, wrap_i64, idx?_pos, Int.toNat_natCast, ↓wA, wB, resOf, Option.map_some, Option.map_none, List.map_cons, List.map_nil, List.nil_append, List.append_nil, List.cons_append, Nat.reduceBEq, List.getElem?_cons_zero, List.getElem?_cons_succ, List.getElem?_nil, Option.getD_some, Option.getD_none, cond_false, cond_true, and_true, true_and, Nat.zero_add, Nat.mul_one, Int.reduceBEq, Int.reduceBNe, Int.reduceLT, Int.reduceLE, Int.reduceAdd, Int.reduceSub, Int.reduceMul, decide_true, decide_false, Bool.not_true, Bool.not_false, beq_self_eq_true, bne_self_eq_false, and_self, List.isEmpty_nil, List.isEmpty_cons, Bool.true_or, Bool.false_or, List.set_cons_zero, List.set_cons_succ, List.length_cons, List.length_nil, Option.bind_some, List.all_cons, List.all_nil, Bool.or_true, Bool.true_and, Bool.and_true, Int.reduceToNat]
    refine wloop (fun mm ss => ∃ (i : Nat) (c : AV) (h2 : Hp) (u0 u6 u11 u12 u13 u14 u15 u16 u17 u18 u19 u20 u21 u22 u23 u24 u35 u41 u59 u73 u103 u113 u116 u121 u138 u218 u220 u256 u259 u282 : AV), (mm = tri m - i) ∧ (i ≤ tri m ∧ Grown ((h.en.pu []).pu []) h2 ∧ OwnE (h.next + 1 + 1) h2.blks c ((List.range i).map fun j => xs.getD j 0 % 2)) ∧ ss = { fr := [(0, u0), (1, a), (2, .int .u8 y), (6, u6), (7, .int .i64 m), (8, c), (9, .sl (h.next + 1) 0 0 (some 0) 1), (10, .int .i64 i), (11, u11), (12, u12), (13, u13), (14, u14), (15, u15), (16, u16), (17, u17), (18, u18), (19, u19), (20, u20), (21, u21), (22, u22), (23, u23), (24, u24), (35, u35), (41, u41), (59, u59), (73, u73), (103, u103), (113, u113), (116, u116), (121, u121), (138, u138), (218, u218), (220, u220), (256, u256), (259, u259), (282, u282)], hp := h2 }) (tri m) ?_ ?_
    ·
      refine ⟨0, _, _, _, _, _, _, _, _, _, _, _, _, _, _, _, _, _, _, _, _, _, _, _, _, _, _, _, _, _, _, _, _, by omega, ⟨by omega, Grown.refl, Oa⟩, rfl⟩
    rintro nA sA ⟨i, c, h2, u0, u6, u11, u12, u13, u14, u15, u16, u17, u18, u19, u20, u21, u22, u23, u24, u35, u41, u59, u73, u103, u113, u116, u121, u138, u218, u220, u256, u259, u282, hnA, ⟨hi, g2, O2⟩, rfl⟩
    have k2 := g2.ok k1
    have g02 := GrownR.trans g1 g2
    have a2 := ha.sub (g02.sub hk)
    by_cases e : i < tri m
    · have d0 : decide ((i : Int) < (M : Int) / 2) = true := decide_eq_true (by omega)
      have es : ((List.range i).map fun j => xs.getD j 0 % 2) ++ [xs.getD i 0 % 2] = (List.range (i + 1)).map fun j => xs.getD j 0 % 2 := by rw [List.range_succ, List.map_append]; rfl
      obtain ⟨s3, h3, e3, o3, g3⟩ := ownE_app1 (v := xs.getD i 0 % 2) k1 g2 O2 (by simp; omega)
      rw [es] at o3
      by_cases e1 : i < xs.length
      · have d1 : decide ((i : Int) < (xs.length : Int)) = true := decide_eq_true (by omega)
        have rm := fun (cc : EqC) => sBin_rem (c := cc) (k := .i64) (D0 i).1 (show (0 : Int) < 2 by omega)
        have bi := D0 i
        simp (disch := first | (simp only [Nat.reduceBEq, elem_hit, elem_miss, elem_nil]; done) | ((repeat' (first | assumption | exact Sub.refl _ | refine Sub.push ?_ ?_ | exact HokR.fresh (by assumption) | refine Fresh.push ?_ | refine HokR.push ?_ ?_ ?_ | exact Grown.refl | refine GrownR.push ?_ ?_ ?_ | exact refsOK_ints | exact refsOK_pairs | exact Nat.le_refl _ | (simp only [wM, Nat.reduceAdd, Nat.reduceLT, Nat.reduceLeDiff]; done))); done) | omega | decide) only [hM2, eq, d0, a2.len, d1, a2.ix (hi := e1), a2.ld (hi := e1), rm, e3, wrap_i64, idx?_pos, Int.toNat_natCast, ↓wA, wB, resOf, Option.map_some, Option.map_none, List.map_cons, List.map_nil, List.nil_append, List.append_nil, List.cons_append, Nat.reduceBEq, List.getElem?_cons_zero, List.getElem?_cons_succ, List.getElem?_nil, Option.getD_some, Option.getD_none, cond_false, cond_true, and_true, true_and, Nat.zero_add, Nat.mul_one, Int.reduceBEq, Int.reduceBNe, Int.reduceLT, Int.reduceLE, Int.reduceAdd, Int.reduceSub, Int.reduceMul, decide_true, decide_false, Bool.not_true, Bool.not_false, beq_self_eq_true, bne_self_eq_false, and_self, List.isEmpty_nil, List.isEmpty_cons, Bool.true_or, Bool.false_or, List.set_cons_zero, List.set_cons_succ, List.length_cons, List.length_nil, Option.bind_some, List.all_cons, List.all_nil, Bool.or_true, Bool.true_and, Bool.and_true, Int.reduceToNat]
        refine ⟨_, ?_, i + 1, s3, h3, _, _, _, _, _, _, _, _, _, _, _, _, _, _, _, _, _, _, _, _, _, _, _, _, _, _, _, _, _, _, rfl, ?_, rfl⟩
        · omega
        exact ⟨by omega, g3, o3⟩
      · have d1 : decide ((i : Int) < (xs.length : Int)) = false := decide_eq_false (by omega)
        have z0 : xs.getD i 0 % 2 = 0 := by rw [List.getD_eq_getElem?_getD, List.getElem?_eq_none (by omega)]; rfl
        rw [z0] at e3
        simp (disch := first | (simp only [Nat.reduceBEq, elem_hit, elem_miss, elem_nil]; done) | ((repeat' (first | assumption | exact Sub.refl _ | refine Sub.push ?_ ?_ | exact HokR.fresh (by assumption) | refine Fresh.push ?_ | refine HokR.push ?_ ?_ ?_ | exact Grown.refl | refine GrownR.push ?_ ?_ ?_ | exact refsOK_ints | exact refsOK_pairs | exact Nat.le_refl _ | (simp only [wM, Nat.reduceAdd, Nat.reduceLT, Nat.reduceLeDiff]; done))); done) | omega | decide) only [hM2, eq, d0, a2.len, d1, e3, wrap_i64, idx?_pos, Int.toNat_natCast, ↓wA, wB, resOf, Option.map_some, Option.map_none, List.map_cons, List.map_nil, List.nil_append, List.append_nil, List.cons_append, Nat.reduceBEq, List.getElem?_cons_zero, List.getElem?_cons_succ, List.getElem?_nil, Option.getD_some, Option.getD_none, cond_false, cond_true, and_true, true_and, Nat.zero_add, Nat.mul_one, Int.reduceBEq, Int.reduceBNe, Int.reduceLT, Int.reduceLE, Int.reduceAdd, Int.reduceSub, Int.reduceMul, decide_true, decide_false, Bool.not_true, Bool.not_false, beq_self_eq_true, bne_self_eq_false, and_self, List.isEmpty_nil, List.isEmpty_cons, Bool.true_or, Bool.false_or, List.set_cons_zero, List.set_cons_succ, List.length_cons, List.length_nil, Option.bind_some, List.all_cons, List.all_nil, Bool.or_true, Bool.true_and, Bool.and_true, Int.reduceToNat]
        refine ⟨_, ?_, i + 1, s3, h3, _, _, _, _, _, _, _, _, _, _, _, _, _, _, _, _, _, _, _, _, _, _, _, _, _, _, _, _, _, _, rfl, ?_, rfl⟩
        · omega
        exact ⟨by omega, g3, o3⟩
    · have d0 : decide ((i : Int) < (M : Int) / 2) = false := decide_eq_false (by omega)
      have ei : i = tri m := by omega
      subst ei
      have lb2 : OwnE h2.next h2.blks (.sl (h.next + 1) 0 0 (some 0) 1) [] := .inr ⟨rfl, h.next + 1, _, rfl, g2.sub k1 _ _ lb⟩
      simp (disch := first | (simp only [Nat.reduceBEq, elem_hit, elem_miss, elem_nil]; done) | ((repeat' (first | assumption | exact Sub.refl _ | refine Sub.push ?_ ?_ | exact HokR.fresh (by assumption) | refine Fresh.push ?_ | refine HokR.push ?_ ?_ ?_ | exact Grown.refl | refine GrownR.push ?_ ?_ ?_ | exact refsOK_ints | exact refsOK_pairs | exact Nat.le_refl _ | (simp only [wM, Nat.reduceAdd, Nat.reduceLT, Nat.reduceLeDiff]; done))); done) | omega | decide) only [hM2, eq, d0, wrap_i64, idx?_pos, Int.toNat_natCast, ↓wA, wB, resOf, Option.map_some, Option.map_none, List.map_cons, List.map_nil, List.nil_append, List.append_nil, List.cons_append, Nat.reduceBEq, List.getElem?_cons_zero, List.getElem?_cons_succ, List.getElem?_nil, Option.getD_some, Option.getD_none, cond_false, cond_true, and_true, true_and, Nat.zero_add, Nat.mul_one, Int.reduceBEq, Int.reduceBNe, Int.reduceLT, Int.reduceLE, Int.reduceAdd, Int.reduceSub, Int.reduceMul, decide_true, decide_false, Bool.not_true, Bool.not_false, beq_self_eq_true, bne_self_eq_false, and_self, List.isEmpty_nil, List.isEmpty_cons, Bool.true_or, Bool.false_or, List.set_cons_zero, List.set_cons_succ, List.length_cons, List.length_nil, Option.bind_some, List.all_cons, List.all_nil, Bool.or_true, Bool.true_and, Bool.and_true, Int.reduceToNat]
      refine wloop (fun mm ss => ∃ (j : Nat) (q : AV) (h4 : Hp) (u0 u6 u10 u11 u13 u14 u15 u16 u17 u18 u19 u20 u21 u22 u23 u24 u35 u41 u59 u73 u103 u113 u116 u121 u138 u218 u220 u256 u259 u282 : AV), (mm = 14 - j) ∧ (j ≤ xs.length ∧ j ≤ 14 ∧ Grown h2 h4 ∧ OwnE h2.next h4.blks q ((xs.take j).map fun z => z % 3)) ∧ ss = { fr := [(0, u0), (1, a), (2, .int .u8 y), (6, u6), (7, .int .i64 m), (8, c), (9, q), (10, u10), (11, u11), (12, .int .i64 j), (13, u13), (14, u14), (15, u15), (16, u16), (17, u17), (18, u18), (19, u19), (20, u20), (21, u21), (22, u22), (23, u23), (24, u24), (35, u35), (41, u41), (59, u59), (73, u73), (103, u103), (113, u113), (116, u116), (121, u121), (138, u138), (218, u218), (220, u220), (256, u256), (259, u259), (282, u282)], hp := h4 }) (14) ?_ ?_
      ·
        refine ⟨0, _, _, _, _, _, _, _, _, _, _, _, _, _, _, _, _, _, _, _, _, _, _, _, _, _, _, _, _, _, _, _, _, by omega, ⟨by omega, by omega, Grown.refl, lb2⟩, rfl⟩
      rintro nB sB ⟨j, q, h4, u0, u6, u10, u11, u13, u14, u15, u16, u17, u18, u19, u20, u21, u22, u23, u24, u35, u41, u59, u73, u103, u113, u116, u121, u138, u218, u220, u256, u259, u282, hnB, ⟨hj, hj14, g4, O4⟩, rfl⟩
      have k4 := g4.ok k2
      have a4 := a2.sub (g4.sub k2)
      have ml : ((xs.take j).map fun z => z % 3).length = j := by simp; omega
      have bd : ∀ z ∈ ((xs.take j).map fun z => z % 3), 0 ≤ z ∧ z < 3 := fun z hz => by
        rw [List.mem_map] at hz
        obtain ⟨w, _, rfl⟩ := hz
        omega
      have pa4 := O2.ints.sub (g4.sub k2)
      have pr4 : refOK h4.next c = true := refOK_mono g4.next (O2.ref k2)
      have g04 := GrownR.trans g02 g4
      by_cases e5 : j < xs.length ∧ j < 14
      · have d1 : decide ((j : Int) < (xs.length : Int)) = true := decide_eq_true (by omega)
        have d2 : decide ((j : Int) < 14) = true := decide_eq_true (by omega)
        have bi := D0 j
        have rm := fun (cc : EqC) => sBin_rem (c := cc) (k := .i64) (D0 j).1 (show (0 : Int) < 3 by omega)
        obtain ⟨s5, h5, e6, o5, g5⟩ := ownE_app1 (v := xs.getD j 0 % 3) k2 g4 O4 (by omega)
        have es : ((xs.take j).map fun z => z % 3) ++ [xs.getD j 0 % 3] = (xs.take (j + 1)).map fun z => z % 3 := by
          rw [List.take_succ_eq_append_getElem e5.1, List.map_append]
          simp [List.getD_eq_getElem?_getD, List.getElem?_eq_getElem e5.1]
        rw [es] at o5
        simp (disch := first | (simp only [Nat.reduceBEq, elem_hit, elem_miss, elem_nil]; done) | ((repeat' (first | assumption | exact Sub.refl _ | refine Sub.push ?_ ?_ | exact HokR.fresh (by assumption) | refine Fresh.push ?_ | refine HokR.push ?_ ?_ ?_ | exact Grown.refl | refine GrownR.push ?_ ?_ ?_ | exact refsOK_ints | exact refsOK_pairs | exact Nat.le_refl _ | (simp only [wM, Nat.reduceAdd, Nat.reduceLT, Nat.reduceLeDiff]; done))); done) | omega | decide) only [a4.len, d1, d2, a4.ix (hi := e5.1), a4.ld (hi := e5.1), rm, e6, wrap_i64, idx?_pos, Int.toNat_natCast, ↓wA, wB, resOf, Option.map_some, Option.map_none, List.map_cons, List.map_nil, List.nil_append, List.append_nil, List.cons_append, Nat.reduceBEq, List.getElem?_cons_zero, List.getElem?_cons_succ, List.getElem?_nil, Option.getD_some, Option.getD_none, cond_false, cond_true, and_true, true_and, Nat.zero_add, Nat.mul_one, Int.reduceBEq, Int.reduceBNe, Int.reduceLT, Int.reduceLE, Int.reduceAdd, Int.reduceSub, Int.reduceMul, decide_true, decide_false, Bool.not_true, Bool.not_false, beq_self_eq_true, bne_self_eq_false, and_self, List.isEmpty_nil, List.isEmpty_cons, Bool.true_or, Bool.false_or, List.set_cons_zero, List.set_cons_succ, List.length_cons, List.length_nil, Option.bind_some, List.all_cons, List.all_nil, Bool.or_true, Bool.true_and, Bool.and_true, Int.reduceToNat]
        refine ⟨_, ?_, j + 1, s5, h5, _, _, _, _, _, _, _, _, _, _, _, _, _, _, _, _, _, _, _, _, _, _, _, _, _, _, _, _, _, _, rfl, ?_, rfl⟩
        · omega
        exact ⟨by omega, by omega, g5, o5⟩
      · have q4 := O4.ints
        generalize ((xs.take j).map fun z => z % 3) = NL at q4 ml bd
        have gt : Grown h4 (h4.pu (Abs.ints .i64 [0])) := Grown.pu Grown.refl refsOK_ints
        have it : Ints (h4.pu (Abs.ints .i64 [0])).blks .i64 (.sl h4.next 0 1 (some 1) 1) [0] := Ints.top rfl (Nat.le_refl 1)
        by_cases e0 : NL.length = 0
        · have d3 : ((NL.length : Int) == 0) = true := by rw [beq_iff_eq]; omega
          by_cases e1 : j < xs.length
          · omega
          · have d1 : decide ((j : Int) < (xs.length : Int)) = false := decide_eq_false (by omega)
            simp (disch := first | (simp only [Nat.reduceBEq, elem_hit, elem_miss, elem_nil]; done) | ((repeat' (first | assumption | exact Sub.refl _ | refine Sub.push ?_ ?_ | exact HokR.fresh (by assumption) | refine Fresh.push ?_ | refine HokR.push ?_ ?_ ?_ | exact Grown.refl | refine GrownR.push ?_ ?_ ?_ | exact refsOK_ints | exact refsOK_pairs | exact Nat.le_refl _ | (simp only [wM, Nat.reduceAdd, Nat.reduceLT, Nat.reduceLeDiff]; done))); done) | omega | decide) only [a4.len, d1, q4.len, d3, cutEx_n, wrap_i64, idx?_pos, Int.toNat_natCast, ↓wA, wB, resOf, Option.map_some, Option.map_none, List.map_cons, List.map_nil, List.nil_append, List.append_nil, List.cons_append, Nat.reduceBEq, List.getElem?_cons_zero, List.getElem?_cons_succ, List.getElem?_nil, Option.getD_some, Option.getD_none, cond_false, cond_true, and_true, true_and, Nat.zero_add, Nat.mul_one, Int.reduceBEq, Int.reduceBNe, Int.reduceLT, Int.reduceLE, Int.reduceAdd, Int.reduceSub, Int.reduceMul, decide_true, decide_false, Bool.not_true, Bool.not_false, beq_self_eq_true, bne_self_eq_false, and_self, List.isEmpty_nil, List.isEmpty_cons, Bool.true_or, Bool.false_or, List.set_cons_zero, List.set_cons_succ, List.length_cons, List.length_nil, Option.bind_some, List.all_cons, List.all_nil, Bool.or_true, Bool.true_and, Bool.and_true, Int.reduceToNat]
            exact ⟨_, c, _, [0], _, _, _, _, _, _, _, _, _, _, _, _, _, _, _, _, _, _, _, _, _, _, _, _, _, _, _, _, _, _, _, _, ⟨GrownR.trans g04 gt, pa4.sub (gt.sub k4), refOK_mono (Nat.le_succ _) pr4, it, by simp, by simp, by simp⟩, rfl⟩
        · have d3 : ((NL.length : Int) == 0) = false := by rw [beq_eq_false_iff_ne]; omega
          by_cases e1 : j < xs.length
          · have d1 : decide ((j : Int) < (xs.length : Int)) = true := decide_eq_true (by omega)
            have d2 : decide ((j : Int) < 14) = false := decide_eq_false (by omega)
            simp (disch := first | (simp only [Nat.reduceBEq, elem_hit, elem_miss, elem_nil]; done) | ((repeat' (first | assumption | exact Sub.refl _ | refine Sub.push ?_ ?_ | exact HokR.fresh (by assumption) | refine Fresh.push ?_ | refine HokR.push ?_ ?_ ?_ | exact Grown.refl | refine GrownR.push ?_ ?_ ?_ | exact refsOK_ints | exact refsOK_pairs | exact Nat.le_refl _ | (simp only [wM, Nat.reduceAdd, Nat.reduceLT, Nat.reduceLeDiff]; done))); done) | omega | decide) only [a4.len, d1, d2, q4.len, d3, cutEx_n, wrap_i64, idx?_pos, Int.toNat_natCast, ↓wA, wB, resOf, Option.map_some, Option.map_none, List.map_cons, List.map_nil, List.nil_append, List.append_nil, List.cons_append, Nat.reduceBEq, List.getElem?_cons_zero, List.getElem?_cons_succ, List.getElem?_nil, Option.getD_some, Option.getD_none, cond_false, cond_true, and_true, true_and, Nat.zero_add, Nat.mul_one, Int.reduceBEq, Int.reduceBNe, Int.reduceLT, Int.reduceLE, Int.reduceAdd, Int.reduceSub, Int.reduceMul, decide_true, decide_false, Bool.not_true, Bool.not_false, beq_self_eq_true, bne_self_eq_false, and_self, List.isEmpty_nil, List.isEmpty_cons, Bool.true_or, Bool.false_or, List.set_cons_zero, List.set_cons_succ, List.length_cons, List.length_nil, Option.bind_some, List.all_cons, List.all_nil, Bool.or_true, Bool.true_and, Bool.and_true, Int.reduceToNat]
            exact ⟨h4, c, q, NL, _, _, _, _, _, _, _, _, _, _, _, _, _, _, _, _, _, _, _, _, _, _, _, _, _, _, _, _, _, _, _, _, ⟨g04, pa4, pr4, q4, by omega, by omega, bd⟩, rfl⟩
          · have d1 : decide ((j : Int) < (xs.length : Int)) = false := decide_eq_false (by omega)
            simp (disch := first | (simp only [Nat.reduceBEq, elem_hit, elem_miss, elem_nil]; done) | ((repeat' (first | assumption | exact Sub.refl _ | refine Sub.push ?_ ?_ | exact HokR.fresh (by assumption) | refine Fresh.push ?_ | refine HokR.push ?_ ?_ ?_ | exact Grown.refl | refine GrownR.push ?_ ?_ ?_ | exact refsOK_ints | exact refsOK_pairs | exact Nat.le_refl _ | (simp only [wM, Nat.reduceAdd, Nat.reduceLT, Nat.reduceLeDiff]; done))); done) | omega | decide) only [a4.len, d1, q4.len, d3, cutEx_n, wrap_i64, idx?_pos, Int.toNat_natCast, ↓wA, wB, resOf, Option.map_some, Option.map_none, List.map_cons, List.map_nil, List.nil_append, List.append_nil, List.cons_append, Nat.reduceBEq, List.getElem?_cons_zero, List.getElem?_cons_succ, List.getElem?_nil, Option.getD_some, Option.getD_none, cond_false, cond_true, and_true, true_and, Nat.zero_add, Nat.mul_one, Int.reduceBEq, Int.reduceBNe, Int.reduceLT, Int.reduceLE, Int.reduceAdd, Int.reduceSub, Int.reduceMul, decide_true, decide_false, Bool.not_true, Bool.not_false, beq_self_eq_true, bne_self_eq_false, and_self, List.isEmpty_nil, List.isEmpty_cons, Bool.true_or, Bool.false_or, List.set_cons_zero, List.set_cons_succ, List.length_cons, List.length_nil, Option.bind_some, List.all_cons, List.all_nil, Bool.or_true, Bool.true_and, Bool.and_true, Int.reduceToNat]
            exact ⟨h4, c, q, NL, _, _, _, _, _, _, _, _, _, _, _, _, _, _, _, _, _, _, _, _, _, _, _, _, _, _, _, _, _, _, _, _, ⟨g04, pa4, pr4, q4, by omega, by omega, bd⟩, rfl⟩
  · rintro sC ⟨hx, pa, nu, NL, u0, u1, u6, u10, u11, u12, u13, u14, u15, u16, u17, u18, u19, u20, u21, u22, u23, u24, u35, u41, u59, u73, u103, u113, u116, u121, u138, u218, u220, u256, u259, u282, ⟨gx, ip, rp, iq, q1, q14, qb⟩, rfl⟩
    have kx := gx.ok hk
    obtain ⟨D, hD⟩ : ∃ D : List Int, D = (List.range (tri m)).map fun j => xs.getD j 0 % 2 := ⟨_, rfl⟩
    have hDl : D.length = tri m := by rw [hD]; simp
    have hDb : ∀ z ∈ D, 0 ≤ z ∧ z < 2 := fun z hz => by
      rw [hD, List.mem_map] at hz
      obtain ⟨w, _, rfl⟩ := hz
      omega
    rw [← hD] at ip
    clear hD
    have es := bs hx kx
    have et := bt hx kx
    have hy2 : 0 ≤ y % 2 ∧ y % 2 ≤ 1 := by omega
    have qu := fun (cc : EqC) => sBin_quo8 (c := cc) hy
    have rm := fun (cc : EqC) => sBin_rem (c := cc) (k := .i64) hy.1 (show (0 : Int) < 2 by omega)
    generalize y % 2 = col0 at hy2 rm
    obtain ⟨v6, h6, ev6, g6, rc, rfl, c6⟩ := f17 m col0 sz pa D hx kx ip rp (by omega)
    have k6 := g6.ok kx
    have iq6 := iq.sub (g6.sub kx)
    have ip6 := ip.sub (g6.sub kx)
    obtain ⟨v7, h7, ev7, g7, rs, rfl, c7⟩ := f25 nu NL h6 k6 iq6 (by omega)
    have k7 := g7.ok k6
    have iq7 := iq6.sub (g7.sub k6)
    have ip7 := ip6.sub (g7.sub k6)
    have okp : prgOK NL t := ⟨by omega, by omega, okc_of (r := 3) qb (by omega)⟩
    have oks : sumOK NL := ⟨by omega, okc_of (r := 3) qb (by omega)⟩
    obtain ⟨v8, h8, ev8, g8, rp8, rfl, c8⟩ := prg_good nu NL t h7 k7 iq7 okp
    have k8 := g8.ok k7
    have iq8 := iq7.sub (g8.sub k7)
    have ip8 := ip7.sub (g8.sub k7)
    have hF := cqF_of (n := m) (by omega) hDl hDb
    have okq : cqOK m col0 sz := ⟨by omega, hy2, by omega⟩
    have E6 : cqE m D col0 sz = if (gr (joins m D col0) sz m [] 0).isSome = true then 0 else 5 := by rw [cqE, if_pos okq, if_pos hF]; rfl
    have O6 : cqO m D col0 sz = gr (joins m D col0) sz m [] 0 := by rw [cqO, if_pos okq, if_pos hF]; rfl
    rw [E6] at ev6
    rw [O6] at c6
    rw [if_pos oks] at ev7 c7
    have fe : ∀ {α : Type} (o : Option α), (if o.isSome = true then (0 : Int) else 5) = 0 ∨ (if o.isSome = true then (0 : Int) else 5) = 5 := fun o => by cases o <;> simp
    obtain ⟨E, hE⟩ : ∃ E : Int, E = if (gr (joins m D col0) sz m [] 0).isSome = true then 0 else 5 := ⟨_, rfl⟩
    obtain ⟨F, hFs⟩ : ∃ F : Int, F = if ((sumO NL).map pr2).isSome = true then 0 else 5 := ⟨_, rfl⟩
    obtain ⟨G, hG⟩ : ∃ G : Int, G = if ((prgO NL t).map pr2).isSome = true then 0 else 5 := ⟨_, rfl⟩
    rw [← hE] at ev6
    rw [← hFs] at ev7
    rw [← hG] at ev8
    have aE : E = 0 ∨ E = 5 := by rw [hE]; exact fe _
    have aF : F = 0 ∨ F = 5 := by rw [hFs]; exact fe _
    have aG : G = 0 ∨ G = 5 := by rw [hG]; exact fe _
    have sE : E = 0 → ∃ us, gr (joins m D col0) sz m [] 0 = some us := fun e => by
      cases hg : gr (joins m D col0) sz m [] 0 with
      | none => rw [hg] at hE; rw [hE] at e; cases e
      | some us => exact ⟨us, rfl⟩
    have sF : F = 0 → ∃ p, sumO NL = some p := fun e => by
      cases hg : sumO NL with
      | none => rw [hg] at hFs; rw [hFs] at e; cases e
      | some us => exact ⟨us, rfl⟩
    have sG : G = 0 → ∃ p, prgO NL t = some p := fun e => by
      cases hg : prgO NL t with
      | none => rw [hg] at hG; rw [hG] at e; cases e
      | some us => exact ⟨us, rfl⟩
    clear hE hFs hG
    rw [wseq, wseq, wseq, wseq]
    refine wcut (fun ss => ∃ (u0 u1 u2 u6 u7 u8 u10 u11 u12 u13 u14 u16 u22 u23 u24 u35 u41 u59 u73 u103 u113 u116 u121 u138 u218 u220 u256 u259 u282 : AV), (Grown h h.en) ∧ ss = { fr := [(0, u0), (1, u1), (2, u2), (6, u6), (7, u7), (8, u8), (9, nu), (10, u10), (11, u11), (12, u12), (13, u13), (14, u14), (15, .int .i64 t), (16, u16), (17, .int .i64 E), (18, rs), (19, .int .i64 F), (20, rp8), (21, .int .i64 G), (22, u22), (23, u23), (24, u24), (35, u35), (41, u41), (59, u59), (73, u73), (103, u103), (113, u113), (116, u116), (121, u121), (138, u138), (218, u218), (220, u220), (256, u256), (259, u259), (282, u282)], hp := h8 }) ?_ ?_
    · rcases aE with rfl | rfl
      · obtain ⟨us, hus⟩ := sE rfl
        rw [hus] at c6
        obtain ⟨us', e', p1, p2, p3, _⟩ := gr_sound (R := RC m D col0) hus (by simp)
        rw [List.nil_append] at e'
        subst e'
        simp only [List.length_nil, Nat.add_zero] at p1
        have oc8 := (c6.1.sub (g7.sub k6)).sub (g8.sub k7)
        have ric := f37 m rc us h8 k8 oc8.ints (by omega) (by omega) (fun u hu => by have := p3 u hu; omega) (p2.imp fun h => h.1)
        have dl : ((us.length : Int) != (sz : Int)) = false := by simp; omega
        simp (disch := first | (simp only [Nat.reduceBEq, elem_hit, elem_miss, elem_nil]; done) | ((repeat' (first | assumption | exact Sub.refl _ | refine Sub.push ?_ ?_ | exact HokR.fresh (by assumption) | refine Fresh.push ?_ | refine HokR.push ?_ ?_ ?_ | exact Grown.refl | refine GrownR.push ?_ ?_ ?_ | exact refsOK_ints | exact refsOK_pairs | exact Nat.le_refl _ | (simp only [wM, Nat.reduceAdd, Nat.reduceLT, Nat.reduceLeDiff]; done))); done) | omega | decide) only [rm, qu, callT es, callT et, callT ev6, callT ev7, callT ev8, callT ric, oc8.len, nz_len, dl, wrap_i64, idx?_pos, Int.toNat_natCast, ↓wA, wB, resOf, Option.map_some, Option.map_none, List.map_cons, List.map_nil, List.nil_append, List.append_nil, List.cons_append, Nat.reduceBEq, List.getElem?_cons_zero, List.getElem?_cons_succ, List.getElem?_nil, Option.getD_some, Option.getD_none, cond_false, cond_true, and_true, true_and, Nat.zero_add, Nat.mul_one, Int.reduceBEq, Int.reduceBNe, Int.reduceLT, Int.reduceLE, Int.reduceAdd, Int.reduceSub, Int.reduceMul, decide_true, decide_false, Bool.not_true, Bool.not_false, beq_self_eq_true, bne_self_eq_false, and_self, List.isEmpty_nil, List.isEmpty_cons, Bool.true_or, Bool.false_or, List.set_cons_zero, List.set_cons_succ, List.length_cons, List.length_nil, Option.bind_some, List.all_cons, List.all_nil, Bool.or_true, Bool.true_and, Bool.and_true, Int.reduceToNat]
        refine wloop (fun mm ss => ∃ (i : Nat) (u0 u1 u2 u6 u10 u11 u12 u23 u24 u35 u41 u59 u73 u103 u113 u116 u121 u138 u218 u220 u256 u259 u282 : AV), (mm = sz - i) ∧ (i ≤ sz) ∧ ss = { fr := [(0, u0), (1, u1), (2, u2), (6, u6), (7, .int .i64 m), (8, pa), (9, nu), (10, u10), (11, u11), (12, u12), (13, .int .i64 col0), (14, .int .i64 sz), (15, .int .i64 t), (16, rc), (17, .int .i64 0), (18, rs), (19, .int .i64 F), (20, rp8), (21, .int .i64 G), (22, .int .i64 i), (23, u23), (24, u24), (35, u35), (41, u41), (59, u59), (73, u73), (103, u103), (113, u113), (116, u116), (121, u121), (138, u138), (218, u218), (220, u220), (256, u256), (259, u259), (282, u282)], hp := h8 }) (sz) ?_ ?_
        ·
          refine ⟨0, _, _, _, _, _, _, _, _, _, _, _, _, _, _, _, _, _, _, _, _, _, _, _, by omega, by omega, rfl⟩
        rintro nA sA ⟨i, u0, u1, u2, u6, u10, u11, u12, u23, u24, u35, u41, u59, u73, u103, u113, u116, u121, u138, u218, u220, u256, u259, u282, hnA, hi, rfl⟩
        simp (disch := first | (simp only [Nat.reduceBEq, elem_hit, elem_miss, elem_nil]; done) | ((repeat' (first | assumption | exact Sub.refl _ | refine Sub.push ?_ ?_ | exact HokR.fresh (by assumption) | refine Fresh.push ?_ | refine HokR.push ?_ ?_ ?_ | exact Grown.refl | refine GrownR.push ?_ ?_ ?_ | exact refsOK_ints | exact refsOK_pairs | exact Nat.le_refl _ | (simp only [wM, Nat.reduceAdd, Nat.reduceLT, Nat.reduceLeDiff]; done))); done) | omega | decide) only [wrap_i64, idx?_pos, Int.toNat_natCast, ↓wA, wB, resOf, Option.map_some, Option.map_none, List.map_cons, List.map_nil, List.nil_append, List.append_nil, List.cons_append, Nat.reduceBEq, List.getElem?_cons_zero, List.getElem?_cons_succ, List.getElem?_nil, Option.getD_some, Option.getD_none, cond_false, cond_true, and_true, true_and, Nat.zero_add, Nat.mul_one, Int.reduceBEq, Int.reduceBNe, Int.reduceLT, Int.reduceLE, Int.reduceAdd, Int.reduceSub, Int.reduceMul, decide_true, decide_false, Bool.not_true, Bool.not_false, beq_self_eq_true, bne_self_eq_false, and_self, List.isEmpty_nil, List.isEmpty_cons, Bool.true_or, Bool.false_or, List.set_cons_zero, List.set_cons_succ, List.length_cons, List.length_nil, Option.bind_some, List.all_cons, List.all_nil, Bool.or_true, Bool.true_and, Bool.and_true, Int.reduceToNat]
        refine ifThen_intro (fun e1 => ?_) (fun e1 => ?_) <;> have e1q := e1 <;> try simp [-List.getD_eq_getElem?_getD] at e1q
        · simp (disch := first | (simp only [Nat.reduceBEq, elem_hit, elem_miss, elem_nil]; done) | ((repeat' (first | assumption | exact Sub.refl _ | refine Sub.push ?_ ?_ | exact HokR.fresh (by assumption) | refine Fresh.push ?_ | refine HokR.push ?_ ?_ ?_ | exact Grown.refl | refine GrownR.push ?_ ?_ ?_ | exact refsOK_ints | exact refsOK_pairs | exact Nat.le_refl _ | (simp only [wM, Nat.reduceAdd, Nat.reduceLT, Nat.reduceLeDiff]; done))); done) | omega | decide) only [e1, wrap_i64, idx?_pos, Int.toNat_natCast, ↓wA, wB, resOf, Option.map_some, Option.map_none, List.map_cons, List.map_nil, List.nil_append, List.append_nil, List.cons_append, Nat.reduceBEq, List.getElem?_cons_zero, List.getElem?_cons_succ, List.getElem?_nil, Option.getD_some, Option.getD_none, cond_false, cond_true, and_true, true_and, Nat.zero_add, Nat.mul_one, Int.reduceBEq, Int.reduceBNe, Int.reduceLT, Int.reduceLE, Int.reduceAdd, Int.reduceSub, Int.reduceMul, decide_true, decide_false, Bool.not_true, Bool.not_false, beq_self_eq_true, bne_self_eq_false, and_self, List.isEmpty_nil, List.isEmpty_cons, Bool.true_or, Bool.false_or, List.set_cons_zero, List.set_cons_succ, List.length_cons, List.length_nil, Option.bind_some, List.all_cons, List.all_nil, Bool.or_true, Bool.true_and, Bool.and_true, Int.reduceToNat]
          refine wloop (fun mm ss => ∃ (j : Nat) (u0 u1 u2 u6 u10 u11 u12 u24 u35 u41 u59 u73 u103 u113 u116 u121 u138 u218 u220 u256 u259 u282 : AV), (mm = i - j) ∧ (j ≤ i) ∧ ss = { fr := [(0, u0), (1, u1), (2, u2), (6, u6), (7, .int .i64 m), (8, pa), (9, nu), (10, u10), (11, u11), (12, u12), (13, .int .i64 col0), (14, .int .i64 sz), (15, .int .i64 t), (16, rc), (17, .int .i64 0), (18, rs), (19, .int .i64 F), (20, rp8), (21, .int .i64 G), (22, .int .i64 i), (23, .int .i64 j), (24, u24), (35, u35), (41, u41), (59, u59), (73, u73), (103, u103), (113, u113), (116, u116), (121, u121), (138, u138), (218, u218), (220, u220), (256, u256), (259, u259), (282, u282)], hp := h8 }) (i) ?_ ?_
          ·
            refine ⟨0, _, _, _, _, _, _, _, _, _, _, _, _, _, _, _, _, _, _, _, _, _, _, by omega, by omega, rfl⟩
          rintro nB sB ⟨j, u0, u1, u2, u6, u10, u11, u12, u24, u35, u41, u59, u73, u103, u113, u116, u121, u138, u218, u220, u256, u259, u282, hnB, hj, rfl⟩
          simp (disch := first | (simp only [Nat.reduceBEq, elem_hit, elem_miss, elem_nil]; done) | ((repeat' (first | assumption | exact Sub.refl _ | refine Sub.push ?_ ?_ | exact HokR.fresh (by assumption) | refine Fresh.push ?_ | refine HokR.push ?_ ?_ ?_ | exact Grown.refl | refine GrownR.push ?_ ?_ ?_ | exact refsOK_ints | exact refsOK_pairs | exact Nat.le_refl _ | (simp only [wM, Nat.reduceAdd, Nat.reduceLT, Nat.reduceLeDiff]; done))); done) | omega | decide) only [e1, wrap_i64, idx?_pos, Int.toNat_natCast, ↓wA, wB, resOf, Option.map_some, Option.map_none, List.map_cons, List.map_nil, List.nil_append, List.append_nil, List.cons_append, Nat.reduceBEq, List.getElem?_cons_zero, List.getElem?_cons_succ, List.getElem?_nil, Option.getD_some, Option.getD_none, cond_false, cond_true, and_true, true_and, Nat.zero_add, Nat.mul_one, Int.reduceBEq, Int.reduceBNe, Int.reduceLT, Int.reduceLE, Int.reduceAdd, Int.reduceSub, Int.reduceMul, decide_true, decide_false, Bool.not_true, Bool.not_false, beq_self_eq_true, bne_self_eq_false, and_self, List.isEmpty_nil, List.isEmpty_cons, Bool.true_or, Bool.false_or, List.set_cons_zero, List.set_cons_succ, List.length_cons, List.length_nil, Option.bind_some, List.all_cons, List.all_nil, Bool.or_true, Bool.true_and, Bool.and_true, Int.reduceToNat]
          refine ifThen_intro (fun e2 => ?_) (fun e2 => ?_) <;> have e2q := e2 <;> try simp [-List.getD_eq_getElem?_getD] at e2q
          · have hi0 : i < us.length := by omega
            have hj0 : j < us.length := by omega
            have hi2 : i < (nz us).length := by rw [nz_len]; exact hi0
            have hj2 : j < (nz us).length := by rw [nz_len]; exact hj0
            have gi : (nz us).getD i 0 = ((us[i] : Nat) : Int) := by rw [nz_get]; simp [List.getD_eq_getElem?_getD, List.getElem?_eq_getElem hi0]
            have gj : (nz us).getD j 0 = ((us[j] : Nat) : Int) := by rw [nz_get]; simp [List.getD_eq_getElem?_getD, List.getElem?_eq_getElem hj0]
            have pw := List.pairwise_iff_getElem.1 p2 j i hj0 hi0 e2q
            have bi := p3 _ (List.getElem_mem hi0)
            have pr := f36 m us[j] us[i] h8 k8 (by omega) pw.1 (by omega)
            have pt := pix_tri (n := m) (by omega) pw.1 (show us[i] < m by omega)
            have pl : pix m us[j] us[i] < D.length := by rw [hDl]; exact pt
            have ec : D.getD (pix m us[j] us[i]) 0 = col0 := by
              have := pw.2
              rw [RC, beq_iff_eq, col, Nat.min_eq_right (by omega), Nat.max_eq_left (by omega)] at this
              exact this
            have dc : (col0 != col0) = false := bne_self_eq_false _
            simp (disch := first | (simp only [Nat.reduceBEq, elem_hit, elem_miss, elem_nil]; done) | ((repeat' (first | assumption | exact Sub.refl _ | refine Sub.push ?_ ?_ | exact HokR.fresh (by assumption) | refine Fresh.push ?_ | refine HokR.push ?_ ?_ ?_ | exact Grown.refl | refine GrownR.push ?_ ?_ ?_ | exact refsOK_ints | exact refsOK_pairs | exact Nat.le_refl _ | (simp only [wM, Nat.reduceAdd, Nat.reduceLT, Nat.reduceLeDiff]; done))); done) | omega | decide) only [e1, e2, oc8.ints.ix (hi := hi2), oc8.ints.ld (hi := hi2), gi, oc8.ints.ix (hi := hj2), oc8.ints.ld (hi := hj2), gj, callT pr, ip8.ix (hi := pl), ip8.ld (hi := pl), ec, dc, wrap_i64, idx?_pos, Int.toNat_natCast, ↓wA, wB, resOf, Option.map_some, Option.map_none, List.map_cons, List.map_nil, List.nil_append, List.append_nil, List.cons_append, Nat.reduceBEq, List.getElem?_cons_zero, List.getElem?_cons_succ, List.getElem?_nil, Option.getD_some, Option.getD_none, cond_false, cond_true, and_true, true_and, Nat.zero_add, Nat.mul_one, Int.reduceBEq, Int.reduceBNe, Int.reduceLT, Int.reduceLE, Int.reduceAdd, Int.reduceSub, Int.reduceMul, decide_true, decide_false, Bool.not_true, Bool.not_false, beq_self_eq_true, bne_self_eq_false, and_self, List.isEmpty_nil, List.isEmpty_cons, Bool.true_or, Bool.false_or, List.set_cons_zero, List.set_cons_succ, List.length_cons, List.length_nil, Option.bind_some, List.all_cons, List.all_nil, Bool.or_true, Bool.true_and, Bool.and_true, Int.reduceToNat]
            refine ⟨_, ?_, j + 1, _, _, _, _, _, _, _, _, _, _, _, _, _, _, _, _, _, _, _, _, _, _, rfl, ?_, rfl⟩
            · omega
            omega
          · simp (disch := first | (simp only [Nat.reduceBEq, elem_hit, elem_miss, elem_nil]; done) | ((repeat' (first | assumption | exact Sub.refl _ | refine Sub.push ?_ ?_ | exact HokR.fresh (by assumption) | refine Fresh.push ?_ | refine HokR.push ?_ ?_ ?_ | exact Grown.refl | refine GrownR.push ?_ ?_ ?_ | exact refsOK_ints | exact refsOK_pairs | exact Nat.le_refl _ | (simp only [wM, Nat.reduceAdd, Nat.reduceLT, Nat.reduceLeDiff]; done))); done) | omega | decide) only [e1, e2, wrap_i64, idx?_pos, Int.toNat_natCast, ↓wA, wB, resOf, Option.map_some, Option.map_none, List.map_cons, List.map_nil, List.nil_append, List.append_nil, List.cons_append, Nat.reduceBEq, List.getElem?_cons_zero, List.getElem?_cons_succ, List.getElem?_nil, Option.getD_some, Option.getD_none, cond_false, cond_true, and_true, true_and, Nat.zero_add, Nat.mul_one, Int.reduceBEq, Int.reduceBNe, Int.reduceLT, Int.reduceLE, Int.reduceAdd, Int.reduceSub, Int.reduceMul, decide_true, decide_false, Bool.not_true, Bool.not_false, beq_self_eq_true, bne_self_eq_false, and_self, List.isEmpty_nil, List.isEmpty_cons, Bool.true_or, Bool.false_or, List.set_cons_zero, List.set_cons_succ, List.length_cons, List.length_nil, Option.bind_some, List.all_cons, List.all_nil, Bool.or_true, Bool.true_and, Bool.and_true, Int.reduceToNat]
            refine ⟨_, ?_, i + 1, _, _, _, _, _, _, _, _, _, _, _, _, _, _, _, _, _, _, _, _, _, _, _, rfl, ?_, rfl⟩
            · omega
            omega
        · simp (disch := first | (simp only [Nat.reduceBEq, elem_hit, elem_miss, elem_nil]; done) | ((repeat' (first | assumption | exact Sub.refl _ | refine Sub.push ?_ ?_ | exact HokR.fresh (by assumption) | refine Fresh.push ?_ | refine HokR.push ?_ ?_ ?_ | exact Grown.refl | refine GrownR.push ?_ ?_ ?_ | exact refsOK_ints | exact refsOK_pairs | exact Nat.le_refl _ | (simp only [wM, Nat.reduceAdd, Nat.reduceLT, Nat.reduceLeDiff]; done))); done) | omega | decide) only [e1, cutEx_n, wrap_i64, idx?_pos, Int.toNat_natCast, ↓wA, wB, resOf, Option.map_some, Option.map_none, List.map_cons, List.map_nil, List.nil_append, List.append_nil, List.cons_append, Nat.reduceBEq, List.getElem?_cons_zero, List.getElem?_cons_succ, List.getElem?_nil, Option.getD_some, Option.getD_none, cond_false, cond_true, and_true, true_and, Nat.zero_add, Nat.mul_one, Int.reduceBEq, Int.reduceBNe, Int.reduceLT, Int.reduceLE, Int.reduceAdd, Int.reduceSub, Int.reduceMul, decide_true, decide_false, Bool.not_true, Bool.not_false, beq_self_eq_true, bne_self_eq_false, and_self, List.isEmpty_nil, List.isEmpty_cons, Bool.true_or, Bool.false_or, List.set_cons_zero, List.set_cons_succ, List.length_cons, List.length_nil, Option.bind_some, List.all_cons, List.all_nil, Bool.or_true, Bool.true_and, Bool.and_true, Int.reduceToNat]
          exact ⟨_, _, _, _, _, _, _, _, _, _, _, _, _, _, _, _, _, _, _, _, _, _, _, _, _, _, _, _, _, Grown.en, rfl⟩
      · simp (disch := first | (simp only [Nat.reduceBEq, elem_hit, elem_miss, elem_nil]; done) | ((repeat' (first | assumption | exact Sub.refl _ | refine Sub.push ?_ ?_ | exact HokR.fresh (by assumption) | refine Fresh.push ?_ | refine HokR.push ?_ ?_ ?_ | exact Grown.refl | refine GrownR.push ?_ ?_ ?_ | exact refsOK_ints | exact refsOK_pairs | exact Nat.le_refl _ | (simp only [wM, Nat.reduceAdd, Nat.reduceLT, Nat.reduceLeDiff]; done))); done) | omega | decide) only [rm, qu, callT es, callT et, callT ev6, callT ev7, callT ev8, cutEx_n, wrap_i64, idx?_pos, Int.toNat_natCast, ↓wA, wB, resOf, Option.map_some, Option.map_none, List.map_cons, List.map_nil, List.nil_append, List.append_nil, List.cons_append, Nat.reduceBEq, List.getElem?_cons_zero, List.getElem?_cons_succ, List.getElem?_nil, Option.getD_some, Option.getD_none, cond_false, cond_true, and_true, true_and, Nat.zero_add, Nat.mul_one, Int.reduceBEq, Int.reduceBNe, Int.reduceLT, Int.reduceLE, Int.reduceAdd, Int.reduceSub, Int.reduceMul, decide_true, decide_false, Bool.not_true, Bool.not_false, beq_self_eq_true, bne_self_eq_false, and_self, List.isEmpty_nil, List.isEmpty_cons, Bool.true_or, Bool.false_or, List.set_cons_zero, List.set_cons_succ, List.length_cons, List.length_nil, Option.bind_some, List.all_cons, List.all_nil, Bool.or_true, Bool.true_and, Bool.and_true, Int.reduceToNat]
        exact ⟨_, _, _, _, _, _, _, _, _, _, _, _, _, _, _, _, _, _, _, _, _, _, _, _, _, _, _, _, _, Grown.en, rfl⟩
    · rintro sD ⟨u0, u1, u2, u6, u7, u8, u10, u11, u12, u13, u14, u16, u22, u23, u24, u35, u41, u59, u73, u103, u113, u116, u121, u138, u218, u220, u256, u259, u282, _, rfl⟩
      refine wcut (fun ss => ∃ (u0 u1 u2 u6 u7 u8 u10 u11 u12 u13 u14 u16 u18 u22 u23 u24 u35 u41 u59 u73 u103 u113 u116 u121 u138 u218 u220 u256 u259 u282 : AV), (Grown h h.en) ∧ ss = { fr := [(0, u0), (1, u1), (2, u2), (6, u6), (7, u7), (8, u8), (9, nu), (10, u10), (11, u11), (12, u12), (13, u13), (14, u14), (15, .int .i64 t), (16, u16), (17, .int .i64 E), (18, u18), (19, .int .i64 F), (20, rp8), (21, .int .i64 G), (22, u22), (23, u23), (24, u24), (35, u35), (41, u41), (59, u59), (73, u73), (103, u103), (113, u113), (116, u116), (121, u121), (138, u138), (218, u218), (220, u220), (256, u256), (259, u259), (282, u282)], hp := h8 }) ?_ ?_
      · rcases aF with rfl | rfl
        · obtain ⟨⟨u, w⟩, hp⟩ := sF rfl
          obtain ⟨b1, b2, b3, b4⟩ := sumO_some hp
          simp only at b1 b2 b3 b4
          rw [hp] at c7
          have os : Own h6.next h8.blks .i64 rs [(u : Int), (w : Int)] := c7.1.sub (g8.sub k7)
          have sl : ∀ hh, sLen hh rs = some (.int .i64 2, hh) := os.len
          have i0 : idx? (.int .i64 0) = some 0 := rfl
          have i1 : idx? (.int .i64 1) = some 1 := rfl
          have x0 := fun hh => os.ints.ix (i := 0) hh (by simp)
          have x1 := fun hh => os.ints.ix (i := 1) hh (by simp)
          have l0 : cellV h8.blks rs 0 0 = some (.int .i64 (u : Int)) := os.ints.ld (Sub.refl _) (i := 0) (by simp)
          have l1 : cellV h8.blks rs 1 0 = some (.int .i64 (w : Int)) := os.ints.ld (Sub.refl _) (i := 1) (by simp)
          rw [sp, Bool.and_eq_true, beq_iff_eq, beq_iff_eq] at b4
          have m1 : (u : Int) - 1 = ((u - 1 : Nat) : Int) := by omega
          have m2 : (w : Int) - 1 = ((w - 1 : Nat) : Int) := by omega
          have m3 : (u : Int) + (w : Int) - 1 = ((u + w - 1 : Nat) : Int) := by omega
          have y1 : u - 1 < NL.length := by omega
          have y2 : w - 1 < NL.length := by omega
          have y3 : u + w - 1 < NL.length := by omega
          have d1 : decide ((u : Int) < 1) = false := decide_eq_false (by omega)
          have d2 : decide ((w : Int) < (u : Int)) = false := decide_eq_false (by omega)
          have d3 : decide ((NL.length : Int) < (w : Int)) = false := decide_eq_false (by omega)
          have d4 : decide ((NL.length : Int) < (u : Int) + (w : Int)) = false := decide_eq_false (by omega)
          have d5 : (NL.getD (u - 1) 0 != NL.getD (w - 1) 0) = false := by rw [b4.1]; exact bne_self_eq_false _
          have d6 : (NL.getD (u - 1) 0 != NL.getD (u + w - 1) 0) = false := by rw [b4.2]; exact bne_self_eq_false _
          simp (disch := first | (simp only [Nat.reduceBEq, elem_hit, elem_miss, elem_nil]; done) | ((repeat' (first | assumption | exact Sub.refl _ | refine Sub.push ?_ ?_ | exact HokR.fresh (by assumption) | refine Fresh.push ?_ | refine HokR.push ?_ ?_ ?_ | exact Grown.refl | refine GrownR.push ?_ ?_ ?_ | exact refsOK_ints | exact refsOK_pairs | exact Nat.le_refl _ | (simp only [wM, Nat.reduceAdd, Nat.reduceLT, Nat.reduceLeDiff]; done))); done) | omega | decide) only [sl, i0, i1, x0, x1, l0, l1, iq8.len, d1, d2, d3, d4, m1, m2, m3, iq8.ix (hi := y1), iq8.ld (hi := y1), iq8.ix (hi := y2), iq8.ld (hi := y2), iq8.ix (hi := y3), iq8.ld (hi := y3), d5, d6, cutEx_n, wrap_i64, idx?_pos, Int.toNat_natCast, ↓wA, wB, resOf, Option.map_some, Option.map_none, List.map_cons, List.map_nil, List.nil_append, List.append_nil, List.cons_append, Nat.reduceBEq, List.getElem?_cons_zero, List.getElem?_cons_succ, List.getElem?_nil, Option.getD_some, Option.getD_none, cond_false, cond_true, and_true, true_and, Nat.zero_add, Nat.mul_one, Int.reduceBEq, Int.reduceBNe, Int.reduceLT, Int.reduceLE, Int.reduceAdd, Int.reduceSub, Int.reduceMul, decide_true, decide_false, Bool.not_true, Bool.not_false, beq_self_eq_true, bne_self_eq_false, and_self, List.isEmpty_nil, List.isEmpty_cons, Bool.true_or, Bool.false_or, List.set_cons_zero, List.set_cons_succ, List.length_cons, List.length_nil, Option.bind_some, List.all_cons, List.all_nil, Bool.or_true, Bool.true_and, Bool.and_true, Int.reduceToNat]
          exact ⟨_, _, _, _, _, _, _, _, _, _, _, _, _, _, _, _, _, _, _, _, _, _, _, _, _, _, _, _, _, _, Grown.en, rfl⟩
        · simp (disch := first | (simp only [Nat.reduceBEq, elem_hit, elem_miss, elem_nil]; done) | ((repeat' (first | assumption | exact Sub.refl _ | refine Sub.push ?_ ?_ | exact HokR.fresh (by assumption) | refine Fresh.push ?_ | refine HokR.push ?_ ?_ ?_ | exact Grown.refl | refine GrownR.push ?_ ?_ ?_ | exact refsOK_ints | exact refsOK_pairs | exact Nat.le_refl _ | (simp only [wM, Nat.reduceAdd, Nat.reduceLT, Nat.reduceLeDiff]; done))); done) | omega | decide) only [cutEx_n, wrap_i64, idx?_pos, Int.toNat_natCast, ↓wA, wB, resOf, Option.map_some, Option.map_none, List.map_cons, List.map_nil, List.nil_append, List.append_nil, List.cons_append, Nat.reduceBEq, List.getElem?_cons_zero, List.getElem?_cons_succ, List.getElem?_nil, Option.getD_some, Option.getD_none, cond_false, cond_true, and_true, true_and, Nat.zero_add, Nat.mul_one, Int.reduceBEq, Int.reduceBNe, Int.reduceLT, Int.reduceLE, Int.reduceAdd, Int.reduceSub, Int.reduceMul, decide_true, decide_false, Bool.not_true, Bool.not_false, beq_self_eq_true, bne_self_eq_false, and_self, List.isEmpty_nil, List.isEmpty_cons, Bool.true_or, Bool.false_or, List.set_cons_zero, List.set_cons_succ, List.length_cons, List.length_nil, Option.bind_some, List.all_cons, List.all_nil, Bool.or_true, Bool.true_and, Bool.and_true, Int.reduceToNat]
          exact ⟨_, _, _, _, _, _, _, _, _, _, _, _, _, _, _, _, _, _, _, _, _, _, _, _, _, _, _, _, _, _, Grown.en, rfl⟩
      · rintro sS ⟨u0, u1, u2, u6, u7, u8, u10, u11, u12, u13, u14, u16, u18, u22, u23, u24, u35, u41, u59, u73, u103, u113, u116, u121, u138, u218, u220, u256, u259, u282, _, rfl⟩
        refine wcut (fun ss => ∃ (u0 u1 u2 u6 u7 u8 u9 u10 u11 u12 u13 u14 u15 u16 u18 u20 u22 u23 u24 u35 u41 u59 u73 u103 u113 u116 u121 u138 u218 u220 u256 u259 u282 : AV), (Grown h h.en) ∧ ss = { fr := [(0, u0), (1, u1), (2, u2), (6, u6), (7, u7), (8, u8), (9, u9), (10, u10), (11, u11), (12, u12), (13, u13), (14, u14), (15, u15), (16, u16), (17, .int .i64 E), (18, u18), (19, .int .i64 F), (20, u20), (21, .int .i64 G), (22, u22), (23, u23), (24, u24), (35, u35), (41, u41), (59, u59), (73, u73), (103, u103), (113, u113), (116, u116), (121, u121), (138, u138), (218, u218), (220, u220), (256, u256), (259, u259), (282, u282)], hp := h8 }) ?_ ?_
        · rcases aG with rfl | rfl
          · obtain ⟨⟨u, w⟩, hp⟩ := sG rfl
            obtain ⟨b1, b2, b3, b4⟩ := prgO_some hp
            simp only at b1 b2 b3 b4
            rw [hp] at c8
            have os : Own h7.next h8.blks .i64 rp8 [(u : Int), (w : Int)] := c8.1
            have sl : ∀ hh, sLen hh rp8 = some (.int .i64 2, hh) := os.len
            have i0 : idx? (.int .i64 0) = some 0 := rfl
            have i1 : idx? (.int .i64 1) = some 1 := rfl
            have x0 := fun hh => os.ints.ix (i := 0) hh (by simp)
            have x1 := fun hh => os.ints.ix (i := 1) hh (by simp)
            have l0 : cellV h8.blks rp8 0 0 = some (.int .i64 (u : Int)) := os.ints.ld (Sub.refl _) (i := 0) (by simp)
            have l1 : cellV h8.blks rp8 1 0 = some (.int .i64 (w : Int)) := os.ints.ld (Sub.refl _) (i := 1) (by simp)
            have wl : w ≤ (t - 1) * w := Nat.le_mul_of_pos_left w (by omega)
            have tm : (t : Int) - 1 = ((t - 1 : Nat) : Int) := by omega
            have tw : ((t - 1 : Nat) : Int) * (w : Int) = (((t - 1) * w : Nat) : Int) := rfl
            have d1 : decide ((u : Int) < 1) = false := decide_eq_false (by omega)
            have d2 : decide ((w : Int) < 1) = false := decide_eq_false (by omega)
            have d3 : decide ((20 : Int) < (w : Int)) = false := decide_eq_false (by omega)
            have d4 : decide ((NL.length : Int) < (u : Int) + (((t - 1) * w : Nat) : Int)) = false := decide_eq_false (by omega)
            have m1 : (u : Int) - 1 = ((u - 1 : Nat) : Int) := by omega
            have y1 : u - 1 < NL.length := by omega
            simp (disch := first | (simp only [Nat.reduceBEq, elem_hit, elem_miss, elem_nil]; done) | ((repeat' (first | assumption | exact Sub.refl _ | refine Sub.push ?_ ?_ | exact HokR.fresh (by assumption) | refine Fresh.push ?_ | refine HokR.push ?_ ?_ ?_ | exact Grown.refl | refine GrownR.push ?_ ?_ ?_ | exact refsOK_ints | exact refsOK_pairs | exact Nat.le_refl _ | (simp only [wM, Nat.reduceAdd, Nat.reduceLT, Nat.reduceLeDiff]; done))); done) | omega | decide) only [sl, i0, i1, x0, x1, l0, l1, iq8.len, d1, d2, d3, tm, tw, d4, wrap_i64, idx?_pos, Int.toNat_natCast, ↓wA, wB, resOf, Option.map_some, Option.map_none, List.map_cons, List.map_nil, List.nil_append, List.append_nil, List.cons_append, Nat.reduceBEq, List.getElem?_cons_zero, List.getElem?_cons_succ, List.getElem?_nil, Option.getD_some, Option.getD_none, cond_false, cond_true, and_true, true_and, Nat.zero_add, Nat.mul_one, Int.reduceBEq, Int.reduceBNe, Int.reduceLT, Int.reduceLE, Int.reduceAdd, Int.reduceSub, Int.reduceMul, decide_true, decide_false, Bool.not_true, Bool.not_false, beq_self_eq_true, bne_self_eq_false, and_self, List.isEmpty_nil, List.isEmpty_cons, Bool.true_or, Bool.false_or, List.set_cons_zero, List.set_cons_succ, List.length_cons, List.length_nil, Option.bind_some, List.all_cons, List.all_nil, Bool.or_true, Bool.true_and, Bool.and_true, Int.reduceToNat]
            refine wloop (fun mm ss => ∃ (i : Nat) (u0 u1 u2 u6 u7 u8 u10 u11 u12 u13 u14 u16 u18 u22 u23 u35 u41 u59 u73 u103 u113 u116 u121 u138 u218 u220 u256 u259 u282 : AV), (mm = t - i) ∧ (1 ≤ i ∧ i ≤ t) ∧ ss = { fr := [(0, u0), (1, u1), (2, u2), (6, u6), (7, u7), (8, u8), (9, nu), (10, u10), (11, u11), (12, u12), (13, u13), (14, u14), (15, .int .i64 t), (16, u16), (17, .int .i64 E), (18, u18), (19, .int .i64 F), (20, rp8), (21, .int .i64 0), (22, u22), (23, u23), (24, .int .i64 i), (35, u35), (41, u41), (59, u59), (73, u73), (103, u103), (113, u113), (116, u116), (121, u121), (138, u138), (218, u218), (220, u220), (256, u256), (259, u259), (282, u282)], hp := h8 }) (t - 1) ?_ ?_
            ·
              refine ⟨1, _, _, _, _, _, _, _, _, _, _, _, _, _, _, _, _, _, _, _, _, _, _, _, _, _, _, _, _, _, by omega, ⟨by omega, by omega⟩, rfl⟩
            rintro nA2 sA2 ⟨i, u0, u1, u2, u6, u7, u8, u10, u11, u12, u13, u14, u16, u18, u22, u23, u35, u41, u59, u73, u103, u113, u116, u121, u138, u218, u220, u256, u259, u282, hnA2, ⟨hi1, hi2⟩, rfl⟩
            simp (disch := first | (simp only [Nat.reduceBEq, elem_hit, elem_miss, elem_nil]; done) | ((repeat' (first | assumption | exact Sub.refl _ | refine Sub.push ?_ ?_ | exact HokR.fresh (by assumption) | refine Fresh.push ?_ | refine HokR.push ?_ ?_ ?_ | exact Grown.refl | refine GrownR.push ?_ ?_ ?_ | exact refsOK_ints | exact refsOK_pairs | exact Nat.le_refl _ | (simp only [wM, Nat.reduceAdd, Nat.reduceLT, Nat.reduceLeDiff]; done))); done) | omega | decide) only [wrap_i64, idx?_pos, Int.toNat_natCast, ↓wA, wB, resOf, Option.map_some, Option.map_none, List.map_cons, List.map_nil, List.nil_append, List.append_nil, List.cons_append, Nat.reduceBEq, List.getElem?_cons_zero, List.getElem?_cons_succ, List.getElem?_nil, Option.getD_some, Option.getD_none, cond_false, cond_true, and_true, true_and, Nat.zero_add, Nat.mul_one, Int.reduceBEq, Int.reduceBNe, Int.reduceLT, Int.reduceLE, Int.reduceAdd, Int.reduceSub, Int.reduceMul, decide_true, decide_false, Bool.not_true, Bool.not_false, beq_self_eq_true, bne_self_eq_false, and_self, List.isEmpty_nil, List.isEmpty_cons, Bool.true_or, Bool.false_or, List.set_cons_zero, List.set_cons_succ, List.length_cons, List.length_nil, Option.bind_some, List.all_cons, List.all_nil, Bool.or_true, Bool.true_and, Bool.and_true, Int.reduceToNat]
            refine ifThen_intro (fun e1 => ?_) (fun e1 => ?_) <;> have e1q := e1 <;> try simp [-List.getD_eq_getElem?_getD] at e1q
            · have tp := term_le (d := w) e1q
              have ip2 : (i : Int) * (w : Int) = ((i * w : Nat) : Int) := rfl
              have ec := List.all_eq_true.1 b4 i (List.mem_range.2 e1q)
              rw [beq_iff_eq] at ec
              have pb := prod_le (i := i) (d := w) (by omega) (by omega)
              generalize i * w = z at tp ip2 ec pb
              have m3 : (u : Int) + (z : Int) - 1 = ((u + z - 1 : Nat) : Int) := by omega
              have y3 : u + z - 1 < NL.length := by omega
              have d6 : (NL.getD (u + z - 1) 0 != NL.getD (u - 1) 0) = false := by rw [ec]; exact bne_self_eq_false _
              simp (disch := first | (simp only [Nat.reduceBEq, elem_hit, elem_miss, elem_nil]; done) | ((repeat' (first | assumption | exact Sub.refl _ | refine Sub.push ?_ ?_ | exact HokR.fresh (by assumption) | refine Fresh.push ?_ | refine HokR.push ?_ ?_ ?_ | exact Grown.refl | refine GrownR.push ?_ ?_ ?_ | exact refsOK_ints | exact refsOK_pairs | exact Nat.le_refl _ | (simp only [wM, Nat.reduceAdd, Nat.reduceLT, Nat.reduceLeDiff]; done))); done) | omega | decide) only [e1, i0, i1, x0, x1, l0, l1, ip2, m1, m3, iq8.ix (hi := y1), iq8.ld (hi := y1), iq8.ix (hi := y3), iq8.ld (hi := y3), d6, wrap_i64, idx?_pos, Int.toNat_natCast, ↓wA, wB, resOf, Option.map_some, Option.map_none, List.map_cons, List.map_nil, List.nil_append, List.append_nil, List.cons_append, Nat.reduceBEq, List.getElem?_cons_zero, List.getElem?_cons_succ, List.getElem?_nil, Option.getD_some, Option.getD_none, cond_false, cond_true, and_true, true_and, Nat.zero_add, Nat.mul_one, Int.reduceBEq, Int.reduceBNe, Int.reduceLT, Int.reduceLE, Int.reduceAdd, Int.reduceSub, Int.reduceMul, decide_true, decide_false, Bool.not_true, Bool.not_false, beq_self_eq_true, bne_self_eq_false, and_self, List.isEmpty_nil, List.isEmpty_cons, Bool.true_or, Bool.false_or, List.set_cons_zero, List.set_cons_succ, List.length_cons, List.length_nil, Option.bind_some, List.all_cons, List.all_nil, Bool.or_true, Bool.true_and, Bool.and_true, Int.reduceToNat]
              refine ⟨_, ?_, i + 1, _, _, _, _, _, _, _, _, _, _, _, _, _, _, _, _, _, _, _, _, _, _, _, _, _, _, _, _, _, rfl, ?_, rfl⟩
              · omega
              exact ⟨by omega, by omega⟩
            · simp (disch := first | (simp only [Nat.reduceBEq, elem_hit, elem_miss, elem_nil]; done) | ((repeat' (first | assumption | exact Sub.refl _ | refine Sub.push ?_ ?_ | exact HokR.fresh (by assumption) | refine Fresh.push ?_ | refine HokR.push ?_ ?_ ?_ | exact Grown.refl | refine GrownR.push ?_ ?_ ?_ | exact refsOK_ints | exact refsOK_pairs | exact Nat.le_refl _ | (simp only [wM, Nat.reduceAdd, Nat.reduceLT, Nat.reduceLeDiff]; done))); done) | omega | decide) only [e1, cutEx_n, wrap_i64, idx?_pos, Int.toNat_natCast, ↓wA, wB, resOf, Option.map_some, Option.map_none, List.map_cons, List.map_nil, List.nil_append, List.append_nil, List.cons_append, Nat.reduceBEq, List.getElem?_cons_zero, List.getElem?_cons_succ, List.getElem?_nil, Option.getD_some, Option.getD_none, cond_false, cond_true, and_true, true_and, Nat.zero_add, Nat.mul_one, Int.reduceBEq, Int.reduceBNe, Int.reduceLT, Int.reduceLE, Int.reduceAdd, Int.reduceSub, Int.reduceMul, decide_true, decide_false, Bool.not_true, Bool.not_false, beq_self_eq_true, bne_self_eq_false, and_self, List.isEmpty_nil, List.isEmpty_cons, Bool.true_or, Bool.false_or, List.set_cons_zero, List.set_cons_succ, List.length_cons, List.length_nil, Option.bind_some, List.all_cons, List.all_nil, Bool.or_true, Bool.true_and, Bool.and_true, Int.reduceToNat]
              exact ⟨_, _, _, _, _, _, _, _, _, _, _, _, _, _, _, _, _, _, _, _, _, _, _, _, _, _, _, _, _, _, _, _, _, Grown.en, rfl⟩
          · simp (disch := first | (simp only [Nat.reduceBEq, elem_hit, elem_miss, elem_nil]; done) | ((repeat' (first | assumption | exact Sub.refl _ | refine Sub.push ?_ ?_ | exact HokR.fresh (by assumption) | refine Fresh.push ?_ | refine HokR.push ?_ ?_ ?_ | exact Grown.refl | refine GrownR.push ?_ ?_ ?_ | exact refsOK_ints | exact refsOK_pairs | exact Nat.le_refl _ | (simp only [wM, Nat.reduceAdd, Nat.reduceLT, Nat.reduceLeDiff]; done))); done) | omega | decide) only [cutEx_n, wrap_i64, idx?_pos, Int.toNat_natCast, ↓wA, wB, resOf, Option.map_some, Option.map_none, List.map_cons, List.map_nil, List.nil_append, List.append_nil, List.cons_append, Nat.reduceBEq, List.getElem?_cons_zero, List.getElem?_cons_succ, List.getElem?_nil, Option.getD_some, Option.getD_none, cond_false, cond_true, and_true, true_and, Nat.zero_add, Nat.mul_one, Int.reduceBEq, Int.reduceBNe, Int.reduceLT, Int.reduceLE, Int.reduceAdd, Int.reduceSub, Int.reduceMul, decide_true, decide_false, Bool.not_true, Bool.not_false, beq_self_eq_true, bne_self_eq_false, and_self, List.isEmpty_nil, List.isEmpty_cons, Bool.true_or, Bool.false_or, List.set_cons_zero, List.set_cons_succ, List.length_cons, List.length_nil, Option.bind_some, List.all_cons, List.all_nil, Bool.or_true, Bool.true_and, Bool.and_true, Int.reduceToNat]
            exact ⟨_, _, _, _, _, _, _, _, _, _, _, _, _, _, _, _, _, _, _, _, _, _, _, _, _, _, _, _, _, _, _, _, _, Grown.en, rfl⟩
        · rintro sT ⟨u0, u1, u2, u6, u7, u8, u9, u10, u11, u12, u13, u14, u15, u16, u18, u20, u22, u23, u24, u35, u41, u59, u73, u103, u113, u116, u121, u138, u218, u220, u256, u259, u282, _, rfl⟩
          rcases aE with rfl | rfl <;> rcases aF with rfl | rfl <;> rcases aG with rfl | rfl <;>
            (simp (disch := first | (simp only [Nat.reduceBEq, elem_hit, elem_miss, elem_nil]; done) | ((repeat' (first | assumption | exact Sub.refl _ | refine Sub.push ?_ ?_ | exact HokR.fresh (by assumption) | refine Fresh.push ?_ | refine HokR.push ?_ ?_ ?_ | exact Grown.refl | refine GrownR.push ?_ ?_ ?_ | exact refsOK_ints | exact refsOK_pairs | exact Nat.le_refl _ | (simp only [wM, Nat.reduceAdd, Nat.reduceLT, Nat.reduceLeDiff]; done))); done) | omega | decide) only [callT (lv h8), wrap_i64, idx?_pos, Int.toNat_natCast, ↓wA, wB, resOf, Option.map_some, Option.map_none, List.map_cons, List.map_nil, List.nil_append, List.append_nil, List.cons_append, Nat.reduceBEq, List.getElem?_cons_zero, List.getElem?_cons_succ, List.getElem?_nil, Option.getD_some, Option.getD_none, cond_false, cond_true, and_true, true_and, Nat.zero_add, Nat.mul_one, Int.reduceBEq, Int.reduceBNe, Int.reduceLT, Int.reduceLE, Int.reduceAdd, Int.reduceSub, Int.reduceMul, decide_true, decide_false, Bool.not_true, Bool.not_false, beq_self_eq_true, bne_self_eq_false, and_self, List.isEmpty_nil, List.isEmpty_cons, Bool.true_or, Bool.false_or, List.set_cons_zero, List.set_cons_succ, List.length_cons, List.length_nil, Option.bind_some, List.all_cons, List.all_nil, Bool.or_true, Bool.true_and, Bool.and_true, Int.reduceToNat]
             exact ⟨_, rfl, rfl⟩)
end Go.Proofs.Ytpclkcamfainiaa
