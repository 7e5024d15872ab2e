/- The law about differences. -/
import Derived.Test.YtpclkcamfainiaaP26
set_option linter.unusedSimpArgs false
set_option linter.unusedVariables false
set_option maxHeartbeats 4000000
set_option maxRecDepth 20000
namespace Go.Abs
theorem sBS_v2 {h : Hp} {v w : AV} (hv : v.parts = some [v] ∧ v.isCell = true) (hw : w.parts = some [w] ∧ w.isCell = true) : sBS [.nilsl] 2 1 h [(0, v), (1, w)] =
    some (.sl h.next 0 2 (some 2) 1, { next := h.next + 1, blks := (h.next, { cells := [v, w], ch := h.next, wr := true }) :: h.blks, loops := h.loops, base := h.base, esc := h.esc }) := by
  have e1 : fillA (fun i => some (i * 1, 1)) (repl [.nilsl] 2) [(0, v), (1, w)] = some [v, w] := by
    simp only [fillA, hv.1, hw.1]
    rfl
  simp only [sBS, e1]
end Go.Abs
namespace Go.Pt
open Go Go.Abs Go.Proofs.Ytpclkcamfainiaa
/-- The colours of pairs by their differences. -/
def dfV (n : Nat) (L : List Int) : List Int := (prN n).map fun p => L.getD (p.2 - p.1 - 1) 0
theorem dfV_len {n : Nat} {L : List Int} (hn : n ≤ 8) : (dfV n L).length = tri n := by rw [dfV, List.length_map, prN_len hn]
theorem dfV_get {n a b : Nat} {L : List Int} (hn : n ≤ 8) (h1 : a < b) (h2 : b < n) : (dfV n L).getD (pix n a b) 0 = L.getD (b - a - 1) 0 := by
  have hp := pix_pr hn h1 h2
  have ht := pix_tri hn h1 h2
  have hl : pix n a b < (prN n).length := by rw [prN_len hn]; exact ht
  rw [prAt, List.getD_eq_getElem?_getD, List.getElem?_eq_getElem hl, Option.getD_some] at hp
  rw [dfV, List.getD_eq_getElem?_getD, List.getElem?_map, List.getElem?_eq_getElem hl, Option.map_some, Option.getD_some, hp]
theorem dfV_col {n a b : Nat} {L : List Int} (hn : n ≤ 8) (h1 : a < b) (h2 : b < n) : col n (dfV n L) b a = L.getD (b - a - 1) 0 := by
  rw [col_comm, col, Nat.min_eq_left (by omega), Nat.max_eq_right (by omega), dfV_get hn h1 h2]
theorem get_mem {L : List Int} {i : Nat} (h : i < L.length) : L.getD i 0 ∈ L := by
  simp only [List.getD_eq_getElem?_getD]
  rw [List.getElem?_eq_getElem h]
  exact List.getElem_mem h
theorem dfV_bound {n : Nat} {L : List Int} (hn : n ≤ 8) (hL : L.length + 1 = n) (hc : ∀ z ∈ L, 0 ≤ z ∧ z < 2) : ∀ z ∈ dfV n L, 0 ≤ z ∧ z < 2 := fun z hz => by
  rw [dfV, List.mem_map] at hz
  obtain ⟨p, _, rfl⟩ := hz
  by_cases h : p.2 - p.1 - 1 < L.length
  · exact hc _ (get_mem h)
  · rw [List.getD_eq_getElem?_getD, List.getElem?_eq_none (by omega)]
    simp
theorem dfV_sum {n : Nat} {L : List Int} (hn : n ≤ 8) (hL : L.length + 1 = n) (hc : ∀ z ∈ L, 0 ≤ z ∧ z < 2) :
    sumO L = none ↔ ¬ GX (RC n (dfV n L) 0) 3 n [] 0 ∧ ¬ GX (RC n (dfV n L) 1) 3 n [] 0 := by
  rw [sumO_none]
  constructor
  · intro H
    have key : ∀ c, ¬ GX (RC n (dfV n L) c) 3 n [] 0 := by
      rintro c ⟨us, h1, h2, h3, _⟩
      match us, h1, h2, h3 with
      | [a, b, d], _, h2, h3 =>
        simp only [List.pairwise_cons, List.mem_cons, List.not_mem_nil, or_false, forall_eq_or_imp, forall_eq, List.Pairwise.nil, and_true] at h2
        obtain ⟨⟨⟨q1, q2⟩, q3, q4⟩, ⟨q5, q6⟩, _⟩ := h2
        have hd := h3 d (by simp)
        rw [RC, dfV_col hn (by omega) (by omega), beq_iff_eq] at q2 q4
        have q6' := q6
        rw [RC, dfV_col hn (by omega) (by omega), beq_iff_eq] at q6'
        by_cases hxy : b - a ≤ d - b
        · have := H (b - a) (d - b) (by omega) hxy (by omega)
          rw [sp, show b - a + (d - b) - 1 = d - a - 1 by omega, q2, q4, q6'] at this
          simp at this
        · have := H (d - b) (b - a) (by omega) (by omega) (by omega)
          rw [sp, show d - b + (b - a) - 1 = d - a - 1 by omega, q2, q4, q6'] at this
          simp at this
    exact ⟨key 0, key 1⟩
  · rintro ⟨H0, H1⟩ x y h1 h2 h3
    cases hs : sp L x y with
    | false => rfl
    | true =>
      exfalso
      rw [sp, Bool.and_eq_true, beq_iff_eq, beq_iff_eq] at hs
      have hb := hc _ (get_mem (L := L) (i := x - 1) (by omega))
      have G : GX (RC n (dfV n L) (L.getD (x - 1) 0)) 3 n [] 0 := by
        refine ⟨[0, x, x + y], rfl, ?_, fun u hu => ?_, by simp⟩
        · simp only [List.pairwise_cons, List.mem_cons, List.not_mem_nil, or_false, forall_eq_or_imp, forall_eq, List.Pairwise.nil, and_true]
          refine ⟨⟨⟨by omega, ?_⟩, by omega, ?_⟩, ⟨by omega, ?_⟩, fun a h => h.elim⟩
          · rw [RC, dfV_col hn (by omega) (by omega), beq_iff_eq]; rfl
          · rw [RC, dfV_col hn (by omega) (by omega), beq_iff_eq, hs.2]; rfl
          · rw [RC, dfV_col hn (by omega) (by omega), beq_iff_eq, hs.1, show x + y - x - 1 = y - 1 by omega]
        · simp only [List.mem_cons, List.not_mem_nil, or_false] at hu
          rcases hu with rfl | rfl | rfl <;> omega
      by_cases e : L.getD (x - 1) 0 = 1
      · rw [e] at G; exact H1 G
      · rw [show L.getD (x - 1) 0 = 0 by omega] at G; exact H0 G
theorem cqE_eE {n s : Nat} {c : Int} {x : List Int} (hn : 1 ≤ n ∧ n ≤ 8) (hc : 0 ≤ c ∧ c ≤ 1) (hs : 1 ≤ s ∧ s ≤ 4) (hF : cqF n x) : cqE n x c s = eE (gr (joins n x c) s n [] 0).isNone := by
  rw [cqE, if_pos ⟨by omega, hc, by omega⟩, if_pos hF]
  have : ∀ o : Option (List Nat), (if o.isSome = true then (0 : Int) else 5) = eE o.isNone := fun o => by cases o <;> rfl
  exact this _
theorem sumE_eE {x : List Int} (ok : sumOK x) : (if sumOK x then (if ((sumO x).map pr2).isSome = true then (0 : Int) else 5) else 2) = eE (sumO x).isNone := by
  rw [if_pos ok]
  have : ∀ o : Option (Nat × Nat), (if (o.map pr2).isSome = true then (0 : Int) else 5) = eE o.isNone := fun o => by cases o <;> rfl
  exact this _
end Go.Pt
namespace Go.Proofs.Ytpclkcamfainiaa
open Go Go.Abs Go.Pt

theorem f15 (a : AV) (xs : List Int) (h : Hp) (hk : Hok h) (ha : Ints h.blks .u8 a xs) (hb : ∀ k ∈ xs, 0 ≤ k ∧ k ≤ 255) (hz : xs.length ≤ maxLen) :
    ∃ h', Evals Try.prog tab false (.func 15) [a] h (.bool true, h') := by
  suffices H : ∃ v h', Evals Try.prog tab false (.func 15) [a] h (v, h') ∧ v = .bool true by
    obtain ⟨v, h', e, rfl⟩ := H
    exact ⟨h', e⟩
  unfold maxLen at hz
  have lv := f19
  refine evals_func (Q := fun v _ => v = .bool true) c15 rfl ?_
  simp only [sf15, initS_cons, initS_nil]
  rw [wseq, wseq, wseq, wseq, wseq]
  refine wcut (fun ss => ∃ (hx : Hp) (c : AV) (s : AV) (zs : List Int) (ws : List Int) (u0 u2 u4 u6 u8 u9 u10 u11 u12 u14 u16 u18 u27 u41 u50 u54 u55 u56 u57 u66 u73 u82 u126 : AV), (Grown h hx ∧ Own h.next hx.blks .i64 c zs ∧ Own h.next hx.blks .i64 s ws ∧ ws.length = zs.length ∧ 1 ≤ zs.length ∧ zs.length ≤ 7 ∧ (∀ z ∈ zs, 0 ≤ z ∧ z < 2) ∧ (∀ z ∈ ws, 0 ≤ z ∧ z < 2)) ∧ ss = { fr := [(0, u0), (2, u2), (3, c), (4, u4), (5, s), (6, u6), (8, u8), (9, u9), (10, u10), (11, u11), (12, u12), (14, u14), (16, u16), (18, u18), (27, u27), (41, u41), (50, u50), (54, u54), (55, u55), (56, u56), (57, u57), (66, u66), (73, u73), (82, u82), (126, u126)], hp := hx }) ?_ ?_
  · have g1 : Grown h (h.en.pu []) := Grown.pu Grown.en rfl
    have O1 : Own h.next (h.en.pu []).blks .i64 (.sl h.next 0 0 (some 0) 1) [] := Own.fresh (Nat.le_refl _) rfl rfl rfl (Nat.le_refl _)
    simp (disch := first | (simp only [Nat.reduceBEq, elem_hit, elem_miss, elem_nil]; done) | ((repeat' (first | assumption | exact Sub.refl _ | refine Sub.push ?_ ?_ | exact HokR.fresh (by assumption) | refine Fresh.push ?_ | refine HokR.push ?_ ?_ ?_ | exact Grown.refl | refine GrownR.push ?_ ?_ ?_ | exact refsOK_ints | exact refsOK_pairs | exact Nat.le_refl _ | (simp only [wM, Nat.reduceAdd, Nat.reduceLT, Nat.reduceLeDiff]; done))); done) | omega | decide) only [wrap_i64, idx?_pos, Int.toNat_natCast, ↓wA, wB, resOf, Option.map_some, Option.map_none, List.map_cons, List.map_nil, List.nil_append, List.append_nil, List.cons_append, Nat.reduceBEq, List.getElem?_cons_zero, List.getElem?_cons_succ, List.getElem?_nil, Option.getD_some, Option.getD_none, cond_false, cond_true, and_true, true_and, Nat.zero_add, Nat.mul_one, Int.reduceBEq, Int.reduceBNe, Int.reduceLT, Int.reduceLE, Int.reduceAdd, Int.reduceSub, Int.reduceMul, decide_true, decide_false, Bool.not_true, Bool.not_false, beq_self_eq_true, bne_self_eq_false, and_self, List.isEmpty_nil, List.isEmpty_cons, Bool.true_or, Bool.false_or, List.set_cons_zero, List.set_cons_succ, List.length_cons, List.length_nil, Option.bind_some, List.all_cons, List.all_nil, Bool.or_true, Bool.true_and, Bool.and_true, Int.reduceToNat]
    refine wloop (fun mm ss => ∃ (i : Nat) (c : AV) (h2 : Hp) (u2 u5 u6 u8 u9 u10 u11 u12 u14 u16 u18 u27 u41 u50 u54 u55 u56 u57 u66 u73 u82 u126 : AV), (mm = xs.length - i) ∧ (i ≤ xs.length ∧ i ≤ 7 ∧ Grown h h2 ∧ Own h.next h2.blks .i64 c ((xs.take i).map fun z => z % 2)) ∧ ss = { fr := [(0, a), (2, u2), (3, c), (4, .int .i64 i), (5, u5), (6, u6), (8, u8), (9, u9), (10, u10), (11, u11), (12, u12), (14, u14), (16, u16), (18, u18), (27, u27), (41, u41), (50, u50), (54, u54), (55, u55), (56, u56), (57, u57), (66, u66), (73, u73), (82, u82), (126, u126)], hp := h2 }) (xs.length) ?_ ?_
    ·
      refine ⟨0, _, _, _, _, _, _, _, _, _, _, _, _, _, _, _, _, _, _, _, _, _, _, _, _, by omega, ⟨by omega, by omega, g1, O1⟩, rfl⟩
    rintro nA sA ⟨i, c, h2, u2, u5, u6, u8, u9, u10, u11, u12, u14, u16, u18, u27, u41, u50, u54, u55, u56, u57, u66, u73, u82, u126, hnA, ⟨hi, hi7, g2, O2⟩, rfl⟩
    have k2 := g2.ok hk
    have a2 := ha.sub (g2.sub hk)
    have ml : ((xs.take i).map fun z => z % 2).length = i := by simp; omega
    have fin : (xs.length ≤ i ∨ 7 ≤ i) → ∀ z ∈ ((xs.take i).map fun z => z % 2), 0 ≤ z ∧ z < 2 := fun _ z hz => by
      rw [List.mem_map] at hz
      obtain ⟨y, _, rfl⟩ := hz
      omega
    by_cases e : i < xs.length ∧ i < 7
    · have d1 : decide ((i : Int) < (xs.length : Int)) = true := decide_eq_true (by omega)
      have d2 : decide ((i : Int) < 7) = true := decide_eq_true (by omega)
      have bi := hb _ (get_mem e.1)
      have rm := fun (cc : EqC) => sBin_rem (c := cc) (k := .i64) bi.1 (show (0 : Int) < 2 by omega)
      obtain ⟨s3, h3, e3, o3, g3, n3⟩ := own_app1 (v := xs.getD i 0 % 2) hk g2 O2 (by omega)
      have es : ((xs.take i).map fun z => z % 2) ++ [xs.getD i 0 % 2] = (xs.take (i + 1)).map fun z => z % 2 := by
        rw [List.take_succ_eq_append_getElem e.1, List.map_append]
        simp [List.getD_eq_getElem?_getD, List.getElem?_eq_getElem e.1]
      rw [es] at o3
      simp (disch := first | (simp only [Nat.reduceBEq, elem_hit, elem_miss, elem_nil]; done) | ((repeat' (first | assumption | exact Sub.refl _ | refine Sub.push ?_ ?_ | exact HokR.fresh (by assumption) | refine Fresh.push ?_ | refine HokR.push ?_ ?_ ?_ | exact Grown.refl | refine GrownR.push ?_ ?_ ?_ | exact refsOK_ints | exact refsOK_pairs | exact Nat.le_refl _ | (simp only [wM, Nat.reduceAdd, Nat.reduceLT, Nat.reduceLeDiff]; done))); done) | omega | decide) only [a2.len, d1, d2, a2.ix (hi := e.1), a2.ld (hi := e.1), rm, e3, wrap_i64, idx?_pos, Int.toNat_natCast, ↓wA, wB, resOf, Option.map_some, Option.map_none, List.map_cons, List.map_nil, List.nil_append, List.append_nil, List.cons_append, Nat.reduceBEq, List.getElem?_cons_zero, List.getElem?_cons_succ, List.getElem?_nil, Option.getD_some, Option.getD_none, cond_false, cond_true, and_true, true_and, Nat.zero_add, Nat.mul_one, Int.reduceBEq, Int.reduceBNe, Int.reduceLT, Int.reduceLE, Int.reduceAdd, Int.reduceSub, Int.reduceMul, decide_true, decide_false, Bool.not_true, Bool.not_false, beq_self_eq_true, bne_self_eq_false, and_self, List.isEmpty_nil, List.isEmpty_cons, Bool.true_or, Bool.false_or, List.set_cons_zero, List.set_cons_succ, List.length_cons, List.length_nil, Option.bind_some, List.all_cons, List.all_nil, Bool.or_true, Bool.true_and, Bool.and_true, Int.reduceToNat]
      refine ⟨_, ?_, i + 1, s3, h3, _, _, _, _, _, _, _, _, _, _, _, _, _, _, _, _, _, _, _, _, _, _, rfl, ?_, rfl⟩
      · omega
      exact ⟨by omega, by omega, g3, o3⟩
    · have fin' := fin (by omega)
      generalize ((xs.take i).map fun z => z % 2) = zs at O2 ml fin'
      by_cases e0 : zs.length = 0
      · have d3 : ((zs.length : Int) == 0) = true := by rw [beq_iff_eq]; omega
        by_cases e1 : i < xs.length
        · omega
        · have d1 : decide ((i : Int) < (xs.length : Int)) = false := decide_eq_false (by omega)
          simp (disch := first | (simp only [Nat.reduceBEq, elem_hit, elem_miss, elem_nil]; done) | ((repeat' (first | assumption | exact Sub.refl _ | refine Sub.push ?_ ?_ | exact HokR.fresh (by assumption) | refine Fresh.push ?_ | refine HokR.push ?_ ?_ ?_ | exact Grown.refl | refine GrownR.push ?_ ?_ ?_ | exact refsOK_ints | exact refsOK_pairs | exact Nat.le_refl _ | (simp only [wM, Nat.reduceAdd, Nat.reduceLT, Nat.reduceLeDiff]; done))); done) | omega | decide) only [a2.len, d1, O2.len, d3, callT (lv h2), cutEx_r, wrap_i64, idx?_pos, Int.toNat_natCast, ↓wA, wB, resOf, Option.map_some, Option.map_none, List.map_cons, List.map_nil, List.nil_append, List.append_nil, List.cons_append, Nat.reduceBEq, List.getElem?_cons_zero, List.getElem?_cons_succ, List.getElem?_nil, Option.getD_some, Option.getD_none, cond_false, cond_true, and_true, true_and, Nat.zero_add, Nat.mul_one, Int.reduceBEq, Int.reduceBNe, Int.reduceLT, Int.reduceLE, Int.reduceAdd, Int.reduceSub, Int.reduceMul, decide_true, decide_false, Bool.not_true, Bool.not_false, beq_self_eq_true, bne_self_eq_false, and_self, List.isEmpty_nil, List.isEmpty_cons, Bool.true_or, Bool.false_or, List.set_cons_zero, List.set_cons_succ, List.length_cons, List.length_nil, Option.bind_some, List.all_cons, List.all_nil, Bool.or_true, Bool.true_and, Bool.and_true, Int.reduceToNat]
          exact ⟨_, rfl, rfl⟩
      · have d3 : ((zs.length : Int) == 0) = false := by rw [beq_eq_false_iff_ne]; omega
        obtain ⟨v3, h3, ev3, g3, s3, rfl, q3⟩ := f27 zs.length 2 h2 k2
        have ok : smlOK zs.length (2 : Nat) := ⟨by omega, by omega⟩
        have o3 := O2.sub (g3.sub k2)
        have gg := GrownR.trans g2 g3
        have hh2 := g2.next
        cases hh : (allC lsF 2 zs.length []).head? with
        | none =>
          have E := (sml_none ok hh).1
          rw [show ((2 : Nat) : Int) = 2 from rfl] at E
          rw [E] at ev3
          by_cases e1 : i < xs.length
          · have d1 : decide ((i : Int) < (xs.length : Int)) = true := decide_eq_true (by omega)
            have d2 : decide ((i : Int) < 7) = false := decide_eq_false (by omega)
            simp (disch := first | (simp only [Nat.reduceBEq, elem_hit, elem_miss, elem_nil]; done) | ((repeat' (first | assumption | exact Sub.refl _ | refine Sub.push ?_ ?_ | exact HokR.fresh (by assumption) | refine Fresh.push ?_ | refine HokR.push ?_ ?_ ?_ | exact Grown.refl | refine GrownR.push ?_ ?_ ?_ | exact refsOK_ints | exact refsOK_pairs | exact Nat.le_refl _ | (simp only [wM, Nat.reduceAdd, Nat.reduceLT, Nat.reduceLeDiff]; done))); done) | omega | decide) only [a2.len, d1, d2, O2.len, d3, callT ev3, cutEx_n, wrap_i64, idx?_pos, Int.toNat_natCast, ↓wA, wB, resOf, Option.map_some, Option.map_none, List.map_cons, List.map_nil, List.nil_append, List.append_nil, List.cons_append, Nat.reduceBEq, List.getElem?_cons_zero, List.getElem?_cons_succ, List.getElem?_nil, Option.getD_some, Option.getD_none, cond_false, cond_true, and_true, true_and, Nat.zero_add, Nat.mul_one, Int.reduceBEq, Int.reduceBNe, Int.reduceLT, Int.reduceLE, Int.reduceAdd, Int.reduceSub, Int.reduceMul, decide_true, decide_false, Bool.not_true, Bool.not_false, beq_self_eq_true, bne_self_eq_false, and_self, List.isEmpty_nil, List.isEmpty_cons, Bool.true_or, Bool.false_or, List.set_cons_zero, List.set_cons_succ, List.length_cons, List.length_nil, Option.bind_some, List.all_cons, List.all_nil, Bool.or_true, Bool.true_and, Bool.and_true, Int.reduceToNat]
            exact ⟨h3, c, c, zs, zs, _, _, _, _, _, _, _, _, _, _, _, _, _, _, _, _, _, _, _, _, _, _, _, ⟨gg, o3, o3, rfl, by omega, by omega, fin', fin'⟩, rfl⟩
          · have d1 : decide ((i : Int) < (xs.length : Int)) = false := decide_eq_false (by omega)
            simp (disch := first | (simp only [Nat.reduceBEq, elem_hit, elem_miss, elem_nil]; done) | ((repeat' (first | assumption | exact Sub.refl _ | refine Sub.push ?_ ?_ | exact HokR.fresh (by assumption) | refine Fresh.push ?_ | refine HokR.push ?_ ?_ ?_ | exact Grown.refl | refine GrownR.push ?_ ?_ ?_ | exact refsOK_ints | exact refsOK_pairs | exact Nat.le_refl _ | (simp only [wM, Nat.reduceAdd, Nat.reduceLT, Nat.reduceLeDiff]; done))); done) | omega | decide) only [a2.len, d1, O2.len, d3, callT ev3, cutEx_n, wrap_i64, idx?_pos, Int.toNat_natCast, ↓wA, wB, resOf, Option.map_some, Option.map_none, List.map_cons, List.map_nil, List.nil_append, List.append_nil, List.cons_append, Nat.reduceBEq, List.getElem?_cons_zero, List.getElem?_cons_succ, List.getElem?_nil, Option.getD_some, Option.getD_none, cond_false, cond_true, and_true, true_and, Nat.zero_add, Nat.mul_one, Int.reduceBEq, Int.reduceBNe, Int.reduceLT, Int.reduceLE, Int.reduceAdd, Int.reduceSub, Int.reduceMul, decide_true, decide_false, Bool.not_true, Bool.not_false, beq_self_eq_true, bne_self_eq_false, and_self, List.isEmpty_nil, List.isEmpty_cons, Bool.true_or, Bool.false_or, List.set_cons_zero, List.set_cons_succ, List.length_cons, List.length_nil, Option.bind_some, List.all_cons, List.all_nil, Bool.or_true, Bool.true_and, Bool.and_true, Int.reduceToNat]
            exact ⟨h3, c, c, zs, zs, _, _, _, _, _, _, _, _, _, _, _, _, _, _, _, _, _, _, _, _, _, _, _, ⟨gg, o3, o3, rfl, by omega, by omega, fin', fin'⟩, rfl⟩
        | some ws =>
          have E := (sml_some ok hh).1
          have O := (sml_some ok hh).2
          rw [show ((2 : Nat) : Int) = 2 from rfl] at E O
          rw [E] at ev3
          rw [O] at q3
          obtain ⟨w1, w2, w3⟩ := sm_iff.1 (head_mem hh)
          have w2' : ∀ z ∈ ws, 0 ≤ z ∧ z < 2 := fun z hz => by have := w2 z hz; omega
          by_cases e1 : i < xs.length
          · have d1 : decide ((i : Int) < (xs.length : Int)) = true := decide_eq_true (by omega)
            have d2 : decide ((i : Int) < 7) = false := decide_eq_false (by omega)
            simp (disch := first | (simp only [Nat.reduceBEq, elem_hit, elem_miss, elem_nil]; done) | ((repeat' (first | assumption | exact Sub.refl _ | refine Sub.push ?_ ?_ | exact HokR.fresh (by assumption) | refine Fresh.push ?_ | refine HokR.push ?_ ?_ ?_ | exact Grown.refl | refine GrownR.push ?_ ?_ ?_ | exact refsOK_ints | exact refsOK_pairs | exact Nat.le_refl _ | (simp only [wM, Nat.reduceAdd, Nat.reduceLT, Nat.reduceLeDiff]; done))); done) | omega | decide) only [a2.len, d1, d2, O2.len, d3, callT ev3, cutEx_n, wrap_i64, idx?_pos, Int.toNat_natCast, ↓wA, wB, resOf, Option.map_some, Option.map_none, List.map_cons, List.map_nil, List.nil_append, List.append_nil, List.cons_append, Nat.reduceBEq, List.getElem?_cons_zero, List.getElem?_cons_succ, List.getElem?_nil, Option.getD_some, Option.getD_none, cond_false, cond_true, and_true, true_and, Nat.zero_add, Nat.mul_one, Int.reduceBEq, Int.reduceBNe, Int.reduceLT, Int.reduceLE, Int.reduceAdd, Int.reduceSub, Int.reduceMul, decide_true, decide_false, Bool.not_true, Bool.not_false, beq_self_eq_true, bne_self_eq_false, and_self, List.isEmpty_nil, List.isEmpty_cons, Bool.true_or, Bool.false_or, List.set_cons_zero, List.set_cons_succ, List.length_cons, List.length_nil, Option.bind_some, List.all_cons, List.all_nil, Bool.or_true, Bool.true_and, Bool.and_true, Int.reduceToNat]
            exact ⟨h3, c, s3, zs, ws, _, _, _, _, _, _, _, _, _, _, _, _, _, _, _, _, _, _, _, _, _, _, _, ⟨gg, o3, q3.1.le hh2, w1, by omega, by omega, fin', w2'⟩, rfl⟩
          · have d1 : decide ((i : Int) < (xs.length : Int)) = false := decide_eq_false (by omega)
            simp (disch := first | (simp only [Nat.reduceBEq, elem_hit, elem_miss, elem_nil]; done) | ((repeat' (first | assumption | exact Sub.refl _ | refine Sub.push ?_ ?_ | exact HokR.fresh (by assumption) | refine Fresh.push ?_ | refine HokR.push ?_ ?_ ?_ | exact Grown.refl | refine GrownR.push ?_ ?_ ?_ | exact refsOK_ints | exact refsOK_pairs | exact Nat.le_refl _ | (simp only [wM, Nat.reduceAdd, Nat.reduceLT, Nat.reduceLeDiff]; done))); done) | omega | decide) only [a2.len, d1, O2.len, d3, callT ev3, cutEx_n, wrap_i64, idx?_pos, Int.toNat_natCast, ↓wA, wB, resOf, Option.map_some, Option.map_none, List.map_cons, List.map_nil, List.nil_append, List.append_nil, List.cons_append, Nat.reduceBEq, List.getElem?_cons_zero, List.getElem?_cons_succ, List.getElem?_nil, Option.getD_some, Option.getD_none, cond_false, cond_true, and_true, true_and, Nat.zero_add, Nat.mul_one, Int.reduceBEq, Int.reduceBNe, Int.reduceLT, Int.reduceLE, Int.reduceAdd, Int.reduceSub, Int.reduceMul, decide_true, decide_false, Bool.not_true, Bool.not_false, beq_self_eq_true, bne_self_eq_false, and_self, List.isEmpty_nil, List.isEmpty_cons, Bool.true_or, Bool.false_or, List.set_cons_zero, List.set_cons_succ, List.length_cons, List.length_nil, Option.bind_some, List.all_cons, List.all_nil, Bool.or_true, Bool.true_and, Bool.and_true, Int.reduceToNat]
            exact ⟨h3, c, s3, zs, ws, _, _, _, _, _, _, _, _, _, _, _, _, _, _, _, _, _, _, _, _, _, _, _, ⟨gg, o3, q3.1.le hh2, w1, by omega, by omega, fin', w2'⟩, rfl⟩
  · rintro sC ⟨hx, c, s, zs, ws, u0, u2, u4, u6, u8, u9, u10, u11, u12, u14, u16, u18, u27, u41, u50, u54, u55, u56, u57, u66, u73, u82, u126, ⟨gx, oc, os, hl, hz1, hz7, hc1, hc2⟩, rfl⟩
    have kx := gx.ok hk
    have sv := sBS_v2 (h := hx) (Arr.cell oc.ints) (Arr.cell os.ints)
    have rb : refsOK (hx.next + 1) [c, s] = true := by
      simp only [refsOK_cons, refsOK_nil, Bool.and_true, Bool.and_eq_true]
      exact ⟨refOK_mono (Nat.le_succ _) (oc.ref kx), refOK_mono (Nat.le_succ _) (os.ref kx)⟩
    have gb : Grown hx (hx.pu [c, s]) := Grown.pu Grown.refl rb
    have ab : Arr (hx.pu [c, s]).blks 1 (.sl hx.next 0 2 (some 2) 1) 2 [c, s] := ⟨rfl, .inr ⟨hx.next, 0, some 2, rfl, Nat.le_refl 2, fun j hj => by rw [cellB_hit, Nat.zero_add]⟩⟩
    have i2 : decide ((0 : Int) < 2) = true := rfl
    simp (disch := first | (simp only [Nat.reduceBEq, elem_hit, elem_miss, elem_nil]; done) | ((repeat' (first | assumption | exact Sub.refl _ | refine Sub.push ?_ ?_ | exact HokR.fresh (by assumption) | refine Fresh.push ?_ | refine HokR.push ?_ ?_ ?_ | exact Grown.refl | refine GrownR.push ?_ ?_ ?_ | exact refsOK_ints | exact refsOK_pairs | exact Nat.le_refl _ | (simp only [wM, Nat.reduceAdd, Nat.reduceLT, Nat.reduceLeDiff]; done))); done) | omega | decide) only [sv, wrap_i64, idx?_pos, Int.toNat_natCast, ↓wA, wB, resOf, Option.map_some, Option.map_none, List.map_cons, List.map_nil, List.nil_append, List.append_nil, List.cons_append, Nat.reduceBEq, List.getElem?_cons_zero, List.getElem?_cons_succ, List.getElem?_nil, Option.getD_some, Option.getD_none, cond_false, cond_true, and_true, true_and, Nat.zero_add, Nat.mul_one, Int.reduceBEq, Int.reduceBNe, Int.reduceLT, Int.reduceLE, Int.reduceAdd, Int.reduceSub, Int.reduceMul, decide_true, decide_false, Bool.not_true, Bool.not_false, beq_self_eq_true, bne_self_eq_false, and_self, List.isEmpty_nil, List.isEmpty_cons, Bool.true_or, Bool.false_or, List.set_cons_zero, List.set_cons_succ, List.length_cons, List.length_nil, Option.bind_some, List.all_cons, List.all_nil, Bool.or_true, Bool.true_and, Bool.and_true, Int.reduceToNat]
    refine wloop (fun mm ss => ∃ (i : Nat) (h2 : Hp) (u0 u2 u4 u6 u8 u9 u10 u11 u12 u14 u16 u18 u27 u41 u50 u57 u66 u73 u82 u126 : AV), (mm = 2 - i) ∧ (i ≤ 2 ∧ Grown hx h2 ∧ Grown (hx.pu [c, s]) h2) ∧ ss = { fr := [(0, u0), (2, u2), (3, c), (4, u4), (5, s), (6, u6), (8, u8), (9, u9), (10, u10), (11, u11), (12, u12), (14, u14), (16, u16), (18, u18), (27, u27), (41, u41), (50, u50), (54, .sl hx.next 0 2 (some 2) 1), (55, .int .i64 2), (56, .int .i64 i), (57, u57), (66, u66), (73, u73), (82, u82), (126, u126)], hp := h2 }) (2) ?_ ?_
    ·
      refine ⟨0, _, _, _, _, _, _, _, _, _, _, _, _, _, _, _, _, _, _, _, _, _, by omega, ⟨by omega, gb, Grown.refl⟩, rfl⟩
    rintro nA sA ⟨i, h2, u0, u2, u4, u6, u8, u9, u10, u11, u12, u14, u16, u18, u27, u41, u50, u57, u66, u73, u82, u126, hnA, ⟨hi, g2, g2'⟩, rfl⟩
    have k2 := g2.ok kx
    simp (disch := first | (simp only [Nat.reduceBEq, elem_hit, elem_miss, elem_nil]; done) | ((repeat' (first | assumption | exact Sub.refl _ | refine Sub.push ?_ ?_ | exact HokR.fresh (by assumption) | refine Fresh.push ?_ | refine HokR.push ?_ ?_ ?_ | exact Grown.refl | refine GrownR.push ?_ ?_ ?_ | exact refsOK_ints | exact refsOK_pairs | exact Nat.le_refl _ | (simp only [wM, Nat.reduceAdd, Nat.reduceLT, Nat.reduceLeDiff]; done))); done) | omega | decide) only [wrap_i64, idx?_pos, Int.toNat_natCast, ↓wA, wB, resOf, Option.map_some, Option.map_none, List.map_cons, List.map_nil, List.nil_append, List.append_nil, List.cons_append, Nat.reduceBEq, List.getElem?_cons_zero, List.getElem?_cons_succ, List.getElem?_nil, Option.getD_some, Option.getD_none, cond_false, cond_true, and_true, true_and, Nat.zero_add, Nat.mul_one, Int.reduceBEq, Int.reduceBNe, Int.reduceLT, Int.reduceLE, Int.reduceAdd, Int.reduceSub, Int.reduceMul, decide_true, decide_false, Bool.not_true, Bool.not_false, beq_self_eq_true, bne_self_eq_false, and_self, List.isEmpty_nil, List.isEmpty_cons, Bool.true_or, Bool.false_or, List.set_cons_zero, List.set_cons_succ, List.length_cons, List.length_nil, Option.bind_some, List.all_cons, List.all_nil, Bool.or_true, Bool.true_and, Bool.and_true, Int.reduceToNat]
    refine ifThen_intro (fun e => ?_) (fun e => ?_) <;> have eq := e <;> try simp [-List.getD_eq_getElem?_getD] at eq
    · have ei : i < 2 := by omega
      have ab2 := ab.sub (g2'.sub (gb.ok kx))
      obtain ⟨x, L, hx', ox, hL, hcL⟩ : ∃ x L, cellV h2.blks (.sl hx.next 0 2 (some 2) 1) i 0 = some x ∧ Own h.next hx.blks .i64 x L ∧ L.length = zs.length ∧ ∀ z ∈ L, 0 ≤ z ∧ z < 2 := by
        have := ab2.ld (Sub.refl _) (i := i) (j := 0) ei (by omega)
        rcases (show i = 0 ∨ i = 1 by omega) with rfl | rfl
        · exact ⟨c, zs, this, oc, rfl, hc1⟩
        · exact ⟨s, ws, this, os, hl, hc2⟩
      have oc2 := oc.sub (g2.sub kx)
      have O3 : Own h2.next (h2.pu []).blks .i64 (.sl h2.next 0 0 (some 0) 1) [] := Own.fresh (Nat.le_refl _) rfl rfl rfl (Nat.le_refl _)
      have g3 : Grown h2 (h2.pu []) := Grown.pu Grown.refl rfl
      have nI : (zs.length : Int) + 1 = ((zs.length + 1 : Nat) : Int) := rfl
      simp (disch := first | (simp only [Nat.reduceBEq, elem_hit, elem_miss, elem_nil]; done) | ((repeat' (first | assumption | exact Sub.refl _ | refine Sub.push ?_ ?_ | exact HokR.fresh (by assumption) | refine Fresh.push ?_ | refine HokR.push ?_ ?_ ?_ | exact Grown.refl | refine GrownR.push ?_ ?_ ?_ | exact refsOK_ints | exact refsOK_pairs | exact Nat.le_refl _ | (simp only [wM, Nat.reduceAdd, Nat.reduceLT, Nat.reduceLeDiff]; done))); done) | omega | decide) only [e, ab2.ix (hi := ei), hx', oc2.len, nI, wrap_i64, idx?_pos, Int.toNat_natCast, ↓wA, wB, resOf, Option.map_some, Option.map_none, List.map_cons, List.map_nil, List.nil_append, List.append_nil, List.cons_append, Nat.reduceBEq, List.getElem?_cons_zero, List.getElem?_cons_succ, List.getElem?_nil, Option.getD_some, Option.getD_none, cond_false, cond_true, and_true, true_and, Nat.zero_add, Nat.mul_one, Int.reduceBEq, Int.reduceBNe, Int.reduceLT, Int.reduceLE, Int.reduceAdd, Int.reduceSub, Int.reduceMul, decide_true, decide_false, Bool.not_true, Bool.not_false, beq_self_eq_true, bne_self_eq_false, and_self, List.isEmpty_nil, List.isEmpty_cons, Bool.true_or, Bool.false_or, List.set_cons_zero, List.set_cons_succ, List.length_cons, List.length_nil, Option.bind_some, List.all_cons, List.all_nil, Bool.or_true, Bool.true_and, Bool.and_true, Int.reduceToNat]
      refine wloop (fun mm ss => ∃ (u : Nat) (p : AV) (h4 : Hp) (u0 u2 u4 u6 u12 u14 u16 u18 u27 u41 u50 u57 u66 u73 u82 u126 : AV), (mm = zs.length + 1 - u) ∧ (u ≤ zs.length + 1 ∧ Grown h2 h4 ∧ Own h2.next h4.blks .i64 p ((prI (zs.length + 1) u).map fun q => L.getD (q.2 - q.1 - 1) 0)) ∧ ss = { fr := [(0, u0), (2, u2), (3, c), (4, u4), (5, s), (6, u6), (8, x), (9, .int .i64 (zs.length + 1 : Nat)), (10, p), (11, .int .i64 u), (12, u12), (14, u14), (16, u16), (18, u18), (27, u27), (41, u41), (50, u50), (54, .sl hx.next 0 2 (some 2) 1), (55, .int .i64 2), (56, .int .i64 i), (57, u57), (66, u66), (73, u73), (82, u82), (126, u126)], hp := h4 }) (zs.length + 1) ?_ ?_
      ·
        refine ⟨0, _, _, _, _, _, _, _, _, _, _, _, _, _, _, _, _, _, _, by omega, ⟨by omega, g3, O3⟩, rfl⟩
      rintro nB sB ⟨u, p, h4, u0, u2, u4, u6, u12, u14, u16, u18, u27, u41, u50, u57, u66, u73, u82, u126, hnB, ⟨hu, g4, O4⟩, rfl⟩
      have k4 := g4.ok k2
      have hl2 := prL_le' (zs.length + 1) (by omega) u (by omega)
      simp (disch := first | (simp only [Nat.reduceBEq, elem_hit, elem_miss, elem_nil]; done) | ((repeat' (first | assumption | exact Sub.refl _ | refine Sub.push ?_ ?_ | exact HokR.fresh (by assumption) | refine Fresh.push ?_ | refine HokR.push ?_ ?_ ?_ | exact Grown.refl | refine GrownR.push ?_ ?_ ?_ | exact refsOK_ints | exact refsOK_pairs | exact Nat.le_refl _ | (simp only [wM, Nat.reduceAdd, Nat.reduceLT, Nat.reduceLeDiff]; done))); done) | omega | decide) only [e, wrap_i64, idx?_pos, Int.toNat_natCast, ↓wA, wB, resOf, Option.map_some, Option.map_none, List.map_cons, List.map_nil, List.nil_append, List.append_nil, List.cons_append, Nat.reduceBEq, List.getElem?_cons_zero, List.getElem?_cons_succ, List.getElem?_nil, Option.getD_some, Option.getD_none, cond_false, cond_true, and_true, true_and, Nat.zero_add, Nat.mul_one, Int.reduceBEq, Int.reduceBNe, Int.reduceLT, Int.reduceLE, Int.reduceAdd, Int.reduceSub, Int.reduceMul, decide_true, decide_false, Bool.not_true, Bool.not_false, beq_self_eq_true, bne_self_eq_false, and_self, List.isEmpty_nil, List.isEmpty_cons, Bool.true_or, Bool.false_or, List.set_cons_zero, List.set_cons_succ, List.length_cons, List.length_nil, Option.bind_some, List.all_cons, List.all_nil, Bool.or_true, Bool.true_and, Bool.and_true, Int.reduceToNat]
      refine ifThen_intro (fun e4 => ?_) (fun e4 => ?_) <;> have e4q := e4 <;> try simp [-List.getD_eq_getElem?_getD] at e4q
      · simp (disch := first | (simp only [Nat.reduceBEq, elem_hit, elem_miss, elem_nil]; done) | ((repeat' (first | assumption | exact Sub.refl _ | refine Sub.push ?_ ?_ | exact HokR.fresh (by assumption) | refine Fresh.push ?_ | refine HokR.push ?_ ?_ ?_ | exact Grown.refl | refine GrownR.push ?_ ?_ ?_ | exact refsOK_ints | exact refsOK_pairs | exact Nat.le_refl _ | (simp only [wM, Nat.reduceAdd, Nat.reduceLT, Nat.reduceLeDiff]; done))); done) | omega | decide) only [e, e4, wrap_i64, idx?_pos, Int.toNat_natCast, ↓wA, wB, resOf, Option.map_some, Option.map_none, List.map_cons, List.map_nil, List.nil_append, List.append_nil, List.cons_append, Nat.reduceBEq, List.getElem?_cons_zero, List.getElem?_cons_succ, List.getElem?_nil, Option.getD_some, Option.getD_none, cond_false, cond_true, and_true, true_and, Nat.zero_add, Nat.mul_one, Int.reduceBEq, Int.reduceBNe, Int.reduceLT, Int.reduceLE, Int.reduceAdd, Int.reduceSub, Int.reduceMul, decide_true, decide_false, Bool.not_true, Bool.not_false, beq_self_eq_true, bne_self_eq_false, and_self, List.isEmpty_nil, List.isEmpty_cons, Bool.true_or, Bool.false_or, List.set_cons_zero, List.set_cons_succ, List.length_cons, List.length_nil, Option.bind_some, List.all_cons, List.all_nil, Bool.or_true, Bool.true_and, Bool.and_true, Int.reduceToNat]
        refine wloop (fun mm ss => ∃ (v : Nat) (p5 : AV) (h5 : Hp) (u0 u2 u4 u6 u14 u16 u18 u27 u41 u50 u57 u66 u73 u82 u126 : AV), (mm = zs.length + 1 - v) ∧ (u + 1 ≤ v ∧ v ≤ zs.length + 1 ∧ Grown h2 h5 ∧ Own h2.next h5.blks .i64 p5 ((prI (zs.length + 1) u ++ prR (zs.length + 1) u (v - (u + 1))).map fun q => L.getD (q.2 - q.1 - 1) 0)) ∧ ss = { fr := [(0, u0), (2, u2), (3, c), (4, u4), (5, s), (6, u6), (8, x), (9, .int .i64 (zs.length + 1 : Nat)), (10, p5), (11, .int .i64 u), (12, .int .i64 v), (14, u14), (16, u16), (18, u18), (27, u27), (41, u41), (50, u50), (54, .sl hx.next 0 2 (some 2) 1), (55, .int .i64 2), (56, .int .i64 i), (57, u57), (66, u66), (73, u73), (82, u82), (126, u126)], hp := h5 }) (zs.length + 1 - (u + 1)) ?_ ?_
        ·
          refine ⟨u + 1, p, h4, _, _, _, _, _, _, _, _, _, _, _, _, _, _, _, by omega, ⟨by omega, by omega, g4, by rw [Nat.sub_self]; simpa [prR] using O4⟩, rfl⟩
        rintro nD sD ⟨v, p5, h5, u0, u2, u4, u6, u14, u16, u18, u27, u41, u50, u57, u66, u73, u82, u126, hnD, ⟨hv1, hv2, g5, O5⟩, rfl⟩
        simp (disch := first | (simp only [Nat.reduceBEq, elem_hit, elem_miss, elem_nil]; done) | ((repeat' (first | assumption | exact Sub.refl _ | refine Sub.push ?_ ?_ | exact HokR.fresh (by assumption) | refine Fresh.push ?_ | refine HokR.push ?_ ?_ ?_ | exact Grown.refl | refine GrownR.push ?_ ?_ ?_ | exact refsOK_ints | exact refsOK_pairs | exact Nat.le_refl _ | (simp only [wM, Nat.reduceAdd, Nat.reduceLT, Nat.reduceLeDiff]; done))); done) | omega | decide) only [e, e4, wrap_i64, idx?_pos, Int.toNat_natCast, ↓wA, wB, resOf, Option.map_some, Option.map_none, List.map_cons, List.map_nil, List.nil_append, List.append_nil, List.cons_append, Nat.reduceBEq, List.getElem?_cons_zero, List.getElem?_cons_succ, List.getElem?_nil, Option.getD_some, Option.getD_none, cond_false, cond_true, and_true, true_and, Nat.zero_add, Nat.mul_one, Int.reduceBEq, Int.reduceBNe, Int.reduceLT, Int.reduceLE, Int.reduceAdd, Int.reduceSub, Int.reduceMul, decide_true, decide_false, Bool.not_true, Bool.not_false, beq_self_eq_true, bne_self_eq_false, and_self, List.isEmpty_nil, List.isEmpty_cons, Bool.true_or, Bool.false_or, List.set_cons_zero, List.set_cons_succ, List.length_cons, List.length_nil, Option.bind_some, List.all_cons, List.all_nil, Bool.or_true, Bool.true_and, Bool.and_true, Int.reduceToNat]
        refine ifThen_intro (fun e5 => ?_) (fun e5 => ?_) <;> have e5q := e5 <;> try simp [-List.getD_eq_getElem?_getD] at e5q
        · have ox5 := (ox.sub (g2.sub kx)).sub (g5.sub k2)
          have mv : (v : Int) - (u : Int) - 1 = ((v - u - 1 : Nat) : Int) := by omega
          have pl : v - u - 1 < L.length := by omega
          have dp : decide ((L.length : Int) ≤ ((v - u - 1 : Nat) : Int)) = false := decide_eq_false (by omega)
          obtain ⟨s8, h8, e8, o8, g8, n8⟩ := own_app1 (v := L.getD (v - u - 1) 0) k2 g5 O5 (by simp [prR]; omega)
          have es : ((prI (zs.length + 1) u ++ prR (zs.length + 1) u (v - (u + 1))).map fun q => L.getD (q.2 - q.1 - 1) 0) ++ [L.getD (v - u - 1) 0] = (prI (zs.length + 1) u ++ prR (zs.length + 1) u (v + 1 - (u + 1))).map fun q => L.getD (q.2 - q.1 - 1) 0 := by
            rw [show v + 1 - (u + 1) = (v - (u + 1)) + 1 by omega, prR_s, ← List.append_assoc, List.map_append (l₂ := [_]), List.map_singleton]
            simp only [show u + 1 + (v - (u + 1)) = v by omega]
          rw [es] at o8
          simp (disch := first | (simp only [Nat.reduceBEq, elem_hit, elem_miss, elem_nil]; done) | ((repeat' (first | assumption | exact Sub.refl _ | refine Sub.push ?_ ?_ | exact HokR.fresh (by assumption) | refine Fresh.push ?_ | refine HokR.push ?_ ?_ ?_ | exact Grown.refl | refine GrownR.push ?_ ?_ ?_ | exact refsOK_ints | exact refsOK_pairs | exact Nat.le_refl _ | (simp only [wM, Nat.reduceAdd, Nat.reduceLT, Nat.reduceLeDiff]; done))); done) | omega | decide) only [e, e4, e5, mv, ox5.len, dp, ox5.ints.ix (hi := pl), ox5.ints.ld (hi := pl), e8, wrap_i64, idx?_pos, Int.toNat_natCast, ↓wA, wB, resOf, Option.map_some, Option.map_none, List.map_cons, List.map_nil, List.nil_append, List.append_nil, List.cons_append, Nat.reduceBEq, List.getElem?_cons_zero, List.getElem?_cons_succ, List.getElem?_nil, Option.getD_some, Option.getD_none, cond_false, cond_true, and_true, true_and, Nat.zero_add, Nat.mul_one, Int.reduceBEq, Int.reduceBNe, Int.reduceLT, Int.reduceLE, Int.reduceAdd, Int.reduceSub, Int.reduceMul, decide_true, decide_false, Bool.not_true, Bool.not_false, beq_self_eq_true, bne_self_eq_false, and_self, List.isEmpty_nil, List.isEmpty_cons, Bool.true_or, Bool.false_or, List.set_cons_zero, List.set_cons_succ, List.length_cons, List.length_nil, Option.bind_some, List.all_cons, List.all_nil, Bool.or_true, Bool.true_and, Bool.and_true, Int.reduceToNat]
          refine ⟨_, ?_, v + 1, s8, h8, _, _, _, _, _, _, _, _, _, _, _, _, _, _, _, rfl, ?_, rfl⟩
          · omega
          exact ⟨by omega, by omega, g8, o8⟩
        · simp (disch := first | (simp only [Nat.reduceBEq, elem_hit, elem_miss, elem_nil]; done) | ((repeat' (first | assumption | exact Sub.refl _ | refine Sub.push ?_ ?_ | exact HokR.fresh (by assumption) | refine Fresh.push ?_ | refine HokR.push ?_ ?_ ?_ | exact Grown.refl | refine GrownR.push ?_ ?_ ?_ | exact refsOK_ints | exact refsOK_pairs | exact Nat.le_refl _ | (simp only [wM, Nat.reduceAdd, Nat.reduceLT, Nat.reduceLeDiff]; done))); done) | omega | decide) only [e, e4, e5, wrap_i64, idx?_pos, Int.toNat_natCast, ↓wA, wB, resOf, Option.map_some, Option.map_none, List.map_cons, List.map_nil, List.nil_append, List.append_nil, List.cons_append, Nat.reduceBEq, List.getElem?_cons_zero, List.getElem?_cons_succ, List.getElem?_nil, Option.getD_some, Option.getD_none, cond_false, cond_true, and_true, true_and, Nat.zero_add, Nat.mul_one, Int.reduceBEq, Int.reduceBNe, Int.reduceLT, Int.reduceLE, Int.reduceAdd, Int.reduceSub, Int.reduceMul, decide_true, decide_false, Bool.not_true, Bool.not_false, beq_self_eq_true, bne_self_eq_false, and_self, List.isEmpty_nil, List.isEmpty_cons, Bool.true_or, Bool.false_or, List.set_cons_zero, List.set_cons_succ, List.length_cons, List.length_nil, Option.bind_some, List.all_cons, List.all_nil, Bool.or_true, Bool.true_and, Bool.and_true, Int.reduceToNat]
          have eb : v = zs.length + 1 := by omega
          subst eb
          rw [← prI_s] at O5
          refine ⟨_, ?_, u + 1, p5, h5, _, _, _, _, _, _, _, _, _, _, _, _, _, _, _, _, rfl, ?_, rfl⟩
          · omega
          exact ⟨by omega, g5, O5⟩
      · have eu : u = zs.length + 1 := by omega
        subst eu
        have O4' : Own h2.next h4.blks .i64 p (dfV (zs.length + 1) L) := O4
        have ox4 := (ox.sub (g2.sub kx)).sub (g4.sub k2)
        have dl := dfV_len (n := zs.length + 1) (L := L) (by omega)
        have tl := tri_lim (show zs.length + 1 ≤ 8 by omega)
        have hF := cqF_of (n := zs.length + 1) (by omega) dl (dfV_bound (by omega) (by omega) hcL)
        obtain ⟨v6, h6, ev6, g6, r6, rfl, q6⟩ := f25 x L h4 k4 ox4.ints (by omega)
        have k6 := g6.ok k4
        have o6 := O4'.sub (g6.sub k4)
        obtain ⟨v7, h7, ev7, g7, r7, rfl, q7⟩ := f17 (zs.length + 1 : Nat) 0 3 p (dfV (zs.length + 1) L) h6 k6 o6.ints (o6.ref k6) (by omega)
        have k7 := g7.ok k6
        have o7 := o6.sub (g7.sub k6)
        obtain ⟨v8, h8, ev8, g8, r8, rfl, q8⟩ := f17 (zs.length + 1 : Nat) 1 3 p (dfV (zs.length + 1) L) h7 k7 o7.ints (o7.ref k7) (by omega)
        have E7 := cqE_eE (n := zs.length + 1) (s := 3) (c := 0) (by omega) (by omega) (by omega) hF
        have E8 := cqE_eE (n := zs.length + 1) (s := 3) (c := 1) (by omega) (by omega) (by omega) hF
        rw [show ((3 : Nat) : Int) = 3 from rfl] at E7 E8
        rw [sumE_eE ⟨by omega, okc_of (r := 2) hcL (by omega)⟩] at ev6
        rw [E7] at ev7
        rw [E8] at ev8
        have iff := dfV_sum (n := zs.length + 1) (L := L) (by omega) (by omega) hcL
        rw [← gr_none (by simp), ← gr_none (by simp), ← Option.isNone_iff_eq_none, ← Option.isNone_iff_eq_none, ← Option.isNone_iff_eq_none] at iff
        have gfin : Grown h2 h8 := GrownR.trans g4 (GrownR.trans g6 (GrownR.trans g7 g8))
        have ef : eE false = 0 := rfl
        have et : eE true = 5 := rfl
        generalize (sumO L).isNone = b1 at ev6 iff
        generalize (gr (joins (zs.length + 1) (dfV (zs.length + 1) L) 0) 3 (zs.length + 1) [] 0).isNone = b2 at ev7 iff
        generalize (gr (joins (zs.length + 1) (dfV (zs.length + 1) L) 1) 3 (zs.length + 1) [] 0).isNone = b3 at ev8 iff
        have eb1 : b1 = (b2 && b3) := by rw [Bool.eq_iff_iff, iff, Bool.and_eq_true]
        subst eb1
        cases b2 <;> cases b3 <;> simp only [Bool.and_self, Bool.and_true, Bool.and_false, Bool.true_and, Bool.false_and, ef, et] at ev6 ev7 ev8
        · simp (disch := first | (simp only [Nat.reduceBEq, elem_hit, elem_miss, elem_nil]; done) | ((repeat' (first | assumption | exact Sub.refl _ | refine Sub.push ?_ ?_ | exact HokR.fresh (by assumption) | refine Fresh.push ?_ | refine HokR.push ?_ ?_ ?_ | exact Grown.refl | refine GrownR.push ?_ ?_ ?_ | exact refsOK_ints | exact refsOK_pairs | exact Nat.le_refl _ | (simp only [wM, Nat.reduceAdd, Nat.reduceLT, Nat.reduceLeDiff]; done))); done) | omega | decide) only [e, e4, callT ev6, callT ev7, callT ev8, sBin_bb, sBin_nb, wrap_i64, idx?_pos, Int.toNat_natCast, ↓wA, wB, resOf, Option.map_some, Option.map_none, List.map_cons, List.map_nil, List.nil_append, List.append_nil, List.cons_append, Nat.reduceBEq, List.getElem?_cons_zero, List.getElem?_cons_succ, List.getElem?_nil, Option.getD_some, Option.getD_none, cond_false, cond_true, and_true, true_and, Nat.zero_add, Nat.mul_one, Int.reduceBEq, Int.reduceBNe, Int.reduceLT, Int.reduceLE, Int.reduceAdd, Int.reduceSub, Int.reduceMul, decide_true, decide_false, Bool.not_true, Bool.not_false, beq_self_eq_true, bne_self_eq_false, and_self, List.isEmpty_nil, List.isEmpty_cons, Bool.true_or, Bool.false_or, List.set_cons_zero, List.set_cons_succ, List.length_cons, List.length_nil, Option.bind_some, List.all_cons, List.all_nil, Bool.or_true, Bool.true_and, Bool.and_true, Int.reduceToNat]
          refine ⟨_, ?_, i + 1, h8, _, _, _, _, _, _, _, _, _, _, _, _, _, _, _, _, _, _, _, _, rfl, ?_, rfl⟩
          · omega
          exact ⟨by omega, GrownR.trans g2 gfin, GrownR.trans g2' gfin⟩
        · simp (disch := first | (simp only [Nat.reduceBEq, elem_hit, elem_miss, elem_nil]; done) | ((repeat' (first | assumption | exact Sub.refl _ | refine Sub.push ?_ ?_ | exact HokR.fresh (by assumption) | refine Fresh.push ?_ | refine HokR.push ?_ ?_ ?_ | exact Grown.refl | refine GrownR.push ?_ ?_ ?_ | exact refsOK_ints | exact refsOK_pairs | exact Nat.le_refl _ | (simp only [wM, Nat.reduceAdd, Nat.reduceLT, Nat.reduceLeDiff]; done))); done) | omega | decide) only [e, e4, callT ev6, callT ev7, callT ev8, sBin_bb, sBin_nb, wrap_i64, idx?_pos, Int.toNat_natCast, ↓wA, wB, resOf, Option.map_some, Option.map_none, List.map_cons, List.map_nil, List.nil_append, List.append_nil, List.cons_append, Nat.reduceBEq, List.getElem?_cons_zero, List.getElem?_cons_succ, List.getElem?_nil, Option.getD_some, Option.getD_none, cond_false, cond_true, and_true, true_and, Nat.zero_add, Nat.mul_one, Int.reduceBEq, Int.reduceBNe, Int.reduceLT, Int.reduceLE, Int.reduceAdd, Int.reduceSub, Int.reduceMul, decide_true, decide_false, Bool.not_true, Bool.not_false, beq_self_eq_true, bne_self_eq_false, and_self, List.isEmpty_nil, List.isEmpty_cons, Bool.true_or, Bool.false_or, List.set_cons_zero, List.set_cons_succ, List.length_cons, List.length_nil, Option.bind_some, List.all_cons, List.all_nil, Bool.or_true, Bool.true_and, Bool.and_true, Int.reduceToNat]
          refine ⟨_, ?_, i + 1, h8, _, _, _, _, _, _, _, _, _, _, _, _, _, _, _, _, _, _, _, _, rfl, ?_, rfl⟩
          · omega
          exact ⟨by omega, GrownR.trans g2 gfin, GrownR.trans g2' gfin⟩
        · simp (disch := first | (simp only [Nat.reduceBEq, elem_hit, elem_miss, elem_nil]; done) | ((repeat' (first | assumption | exact Sub.refl _ | refine Sub.push ?_ ?_ | exact HokR.fresh (by assumption) | refine Fresh.push ?_ | refine HokR.push ?_ ?_ ?_ | exact Grown.refl | refine GrownR.push ?_ ?_ ?_ | exact refsOK_ints | exact refsOK_pairs | exact Nat.le_refl _ | (simp only [wM, Nat.reduceAdd, Nat.reduceLT, Nat.reduceLeDiff]; done))); done) | omega | decide) only [e, e4, callT ev6, callT ev7, callT ev8, sBin_bb, sBin_nb, wrap_i64, idx?_pos, Int.toNat_natCast, ↓wA, wB, resOf, Option.map_some, Option.map_none, List.map_cons, List.map_nil, List.nil_append, List.append_nil, List.cons_append, Nat.reduceBEq, List.getElem?_cons_zero, List.getElem?_cons_succ, List.getElem?_nil, Option.getD_some, Option.getD_none, cond_false, cond_true, and_true, true_and, Nat.zero_add, Nat.mul_one, Int.reduceBEq, Int.reduceBNe, Int.reduceLT, Int.reduceLE, Int.reduceAdd, Int.reduceSub, Int.reduceMul, decide_true, decide_false, Bool.not_true, Bool.not_false, beq_self_eq_true, bne_self_eq_false, and_self, List.isEmpty_nil, List.isEmpty_cons, Bool.true_or, Bool.false_or, List.set_cons_zero, List.set_cons_succ, List.length_cons, List.length_nil, Option.bind_some, List.all_cons, List.all_nil, Bool.or_true, Bool.true_and, Bool.and_true, Int.reduceToNat]
          refine ⟨_, ?_, i + 1, h8, _, _, _, _, _, _, _, _, _, _, _, _, _, _, _, _, _, _, _, _, rfl, ?_, rfl⟩
          · omega
          exact ⟨by omega, GrownR.trans g2 gfin, GrownR.trans g2' gfin⟩
        · simp (disch := first | (simp only [Nat.reduceBEq, elem_hit, elem_miss, elem_nil]; done) | ((repeat' (first | assumption | exact Sub.refl _ | refine Sub.push ?_ ?_ | exact HokR.fresh (by assumption) | refine Fresh.push ?_ | refine HokR.push ?_ ?_ ?_ | exact Grown.refl | refine GrownR.push ?_ ?_ ?_ | exact refsOK_ints | exact refsOK_pairs | exact Nat.le_refl _ | (simp only [wM, Nat.reduceAdd, Nat.reduceLT, Nat.reduceLeDiff]; done))); done) | omega | decide) only [e, e4, callT ev6, callT ev7, callT ev8, sBin_bb, sBin_nb, wrap_i64, idx?_pos, Int.toNat_natCast, ↓wA, wB, resOf, Option.map_some, Option.map_none, List.map_cons, List.map_nil, List.nil_append, List.append_nil, List.cons_append, Nat.reduceBEq, List.getElem?_cons_zero, List.getElem?_cons_succ, List.getElem?_nil, Option.getD_some, Option.getD_none, cond_false, cond_true, and_true, true_and, Nat.zero_add, Nat.mul_one, Int.reduceBEq, Int.reduceBNe, Int.reduceLT, Int.reduceLE, Int.reduceAdd, Int.reduceSub, Int.reduceMul, decide_true, decide_false, Bool.not_true, Bool.not_false, beq_self_eq_true, bne_self_eq_false, and_self, List.isEmpty_nil, List.isEmpty_cons, Bool.true_or, Bool.false_or, List.set_cons_zero, List.set_cons_succ, List.length_cons, List.length_nil, Option.bind_some, List.all_cons, List.all_nil, Bool.or_true, Bool.true_and, Bool.and_true, Int.reduceToNat]
          refine ⟨_, ?_, i + 1, h8, _, _, _, _, _, _, _, _, _, _, _, _, _, _, _, _, _, _, _, _, rfl, ?_, rfl⟩
          · omega
          exact ⟨by omega, GrownR.trans g2 gfin, GrownR.trans g2' gfin⟩
    · simp (disch := first | (simp only [Nat.reduceBEq, elem_hit, elem_miss, elem_nil]; done) | ((repeat' (first | assumption | exact Sub.refl _ | refine Sub.push ?_ ?_ | exact HokR.fresh (by assumption) | refine Fresh.push ?_ | refine HokR.push ?_ ?_ ?_ | exact Grown.refl | refine GrownR.push ?_ ?_ ?_ | exact refsOK_ints | exact refsOK_pairs | exact Nat.le_refl _ | (simp only [wM, Nat.reduceAdd, Nat.reduceLT, Nat.reduceLeDiff]; done))); done) | omega | decide) only [e, callT (lv h2), wrap_i64, idx?_pos, Int.toNat_natCast, ↓wA, wB, resOf, Option.map_some, Option.map_none, List.map_cons, List.map_nil, List.nil_append, List.append_nil, List.cons_append, Nat.reduceBEq, List.getElem?_cons_zero, List.getElem?_cons_succ, List.getElem?_nil, Option.getD_some, Option.getD_none, cond_false, cond_true, and_true, true_and, Nat.zero_add, Nat.mul_one, Int.reduceBEq, Int.reduceBNe, Int.reduceLT, Int.reduceLE, Int.reduceAdd, Int.reduceSub, Int.reduceMul, decide_true, decide_false, Bool.not_true, Bool.not_false, beq_self_eq_true, bne_self_eq_false, and_self, List.isEmpty_nil, List.isEmpty_cons, Bool.true_or, Bool.false_or, List.set_cons_zero, List.set_cons_succ, List.length_cons, List.length_nil, Option.bind_some, List.all_cons, List.all_nil, Bool.or_true, Bool.true_and, Bool.and_true, Int.reduceToNat]
      exact ⟨_, rfl, rfl⟩
end Go.Proofs.Ytpclkcamfainiaa
