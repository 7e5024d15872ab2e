/- Pairs of vertices, and colourings of them without cliques. -/
import Derived.Test.YtpclkcamfainiaaP14
set_option linter.unusedSimpArgs false
set_option linter.unusedVariables false
set_option maxHeartbeats 4000000
set_option maxRecDepth 20000
namespace Go.Pt
open Go Go.Abs
def prR (n a j : Nat) : List (Nat × Nat) := (List.range j).map fun i => (a, a + 1 + i)
def prI (n i : Nat) : List (Nat × Nat) := (List.range i).flatMap fun a => prR n a (n - (a + 1))
def prN (n : Nat) : List (Nat × Nat) := prI n n
def prAt (n i : Nat) : Nat × Nat := (prN n).getD i (0, 0)
def tri (n : Nat) : Nat := n * (n - 1) / 2
def zp (l : List (Nat × Nat)) : List (Int × Int) := l.map fun p => ((p.1 : Int), (p.2 : Int))
theorem zp_len {l : List (Nat × Nat)} : (zp l).length = l.length := by simp [zp]
theorem zp_get {l : List (Nat × Nat)} {i : Nat} : (zp l).getD i (0, 0) = (((l.getD i (0, 0)).1 : Int), ((l.getD i (0, 0)).2 : Int)) := by
  simp only [zp, List.getD_eq_getElem?_getD, List.getElem?_map]
  cases l[i]? <;> rfl
theorem zp_app {l : List (Nat × Nat)} {a b : Nat} : zp (l ++ [(a, b)]) = zp l ++ [((a : Int), (b : Int))] := by simp [zp]
theorem prR_s {n a j : Nat} : prR n a (j + 1) = prR n a j ++ [(a, a + 1 + j)] := by simp [prR, List.range_succ]
theorem prI_s {n i : Nat} : prI n (i + 1) = prI n i ++ prR n i (n - (i + 1)) := by simp [prI, List.range_succ]
theorem prN_len' : ∀ n, n ≤ 8 → (prN n).length = tri n := by decide +kernel
theorem prN_len {n : Nat} (h : n ≤ 8) : (prN n).length = tri n := prN_len' n h
theorem prL_le' : ∀ n, n ≤ 8 → ∀ i, i < n + 1 → (prI n i).length ≤ 100 := by decide +kernel
theorem tri_lim' : ∀ n, n ≤ 8 → tri n ≤ 28 := by decide +kernel
theorem tri_lim {n : Nat} (h : n ≤ 8) : tri n ≤ 28 := tri_lim' n h
theorem prAt_ok' : ∀ n, n ≤ 8 → ∀ i, i < tri n → (prAt n i).1 < (prAt n i).2 ∧ (prAt n i).2 < n ∧ pix n (prAt n i).1 (prAt n i).2 = i := by decide +kernel
theorem prAt_ok {n i : Nat} (h : n ≤ 8) (hi : i < tri n) : (prAt n i).1 < (prAt n i).2 ∧ (prAt n i).2 < n ∧ pix n (prAt n i).1 (prAt n i).2 = i := prAt_ok' n h i hi
def lexB : Bool := (List.range 9).all fun n => (List.range n).all fun b => (List.range b).all fun a => (List.range n).all fun d => (List.range d).all fun c => decide (pix n a b < pix n c d) == (decide (a < c) || (decide (a = c) && decide (b < d)))
theorem lexB_ok : lexB = true := by decide +kernel
theorem pix_lex {n a b c d : Nat} (h : n ≤ 8) (h1 : a < b) (h2 : b < n) (h3 : c < d) (h4 : d < n) : pix n a b < pix n c d ↔ a < c ∨ a = c ∧ b < d := by
  have := lexB_ok
  simp only [lexB, List.all_eq_true, List.mem_range] at this
  have := this n (by omega) b h2 a h1 d h4 c h3
  rw [beq_iff_eq] at this
  rw [← decide_eq_true_iff (p := pix n a b < pix n c d), this]
  simp
/-- No clique ends at the last pair. -/
def clF (n k l : Nat) (zs : List Int) : Bool :=
  (gr (joins n zs (zs.getD (zs.length - 1) 0)) (if (zs.getD (zs.length - 1) 0 == 1) = true then l else k) (prAt n (zs.length - 1)).1 [(prAt n (zs.length - 1)).1, (prAt n (zs.length - 1)).2] 0).isNone
/-- What the function of the colourings needs. -/
def CL (n k l : Nat) (cs : List AV) (d : Nat) (bs : List (Nat × Blk)) : Prop := ∃ ik il ip i0 s, cs = [.ptr ik 0, .ptr il 0, .ptr ip 0, .ptr i0 0] ∧ BoxD d bs ik [.int .i64 k] ∧ BoxD d bs il [.int .i64 l] ∧ BoxD d bs ip [s] ∧ OwnP d bs s (zp (prN n)) ∧ BoxD d bs i0 [.int .i64 n]
theorem CL.sub {n k l d : Nat} {cs : List AV} {bs bs' : List (Nat × Blk)} (H : CL n k l cs d bs) (t : Sub bs bs') : CL n k l cs d bs' := by
  obtain ⟨ik, il, ip, i0, s, e, h1, h2, h3, h4, h5⟩ := H
  exact ⟨ik, il, ip, i0, s, e, h1.sub t, h2.sub t, h3.sub t, h4.sub t, h5.sub t⟩
theorem CL.keep {n k l d : Nat} {cs : List AV} {bs bs' : List (Nat × Blk)} (H : CL n k l cs d bs) (t : Kept d bs bs') : CL n k l cs d bs' := by
  obtain ⟨ik, il, ip, i0, s, e, h1, h2, h3, h4, h5⟩ := H
  exact ⟨ik, il, ip, i0, s, e, h1.keep t, h2.keep t, h3.keep t, OwnA.keep h4 t, h5.keep t⟩
end Go.Pt
namespace Go.Proofs.Ytpclkcamfainiaa
open Go Go.Abs Go.Pt

theorem f55 (n : Nat) (h : Hp) (hk : Hok h) (hn : n ≤ 8) :
    ∃ v h', Evals Try.prog tab false (.func 55) [.int .i64 n] h (v, h') ∧ Grown h h' ∧ OwnP h.next h'.blks v (zp (prN n)) := by
  refine evals_q c55 (fun v h' => OwnP h.next h'.blks v (zp (prN n))) rfl hk ?_ (fun v h1 g q => q.leave)
  simp only [sf55, initS_cons, initS_nil]
  simp (disch := first | (simp only [Nat.reduceBEq, elem_hit, elem_miss, elem_nil]; done) | ((repeat' (first | assumption | exact Sub.refl _ | refine Sub.push ?_ ?_ | exact HokR.fresh (by assumption) | refine Fresh.push ?_ | refine HokR.push ?_ ?_ ?_ | exact Grown.refl | refine GrownR.push ?_ ?_ ?_ | exact refsOK_ints | exact refsOK_pairs | exact Nat.le_refl _ | (simp only [wM, Nat.reduceAdd, Nat.reduceLT, Nat.reduceLeDiff]; done))); done) | omega | decide) only [wrap_i64, idx?_pos, Int.toNat_natCast, ↓wA, wB, resOf, Option.map_some, Option.map_none, List.map_cons, List.map_nil, List.nil_append, List.append_nil, List.cons_append, Nat.reduceBEq, List.getElem?_cons_zero, List.getElem?_cons_succ, List.getElem?_nil, Option.getD_some, Option.getD_none, cond_false, cond_true, and_true, true_and, Nat.zero_add, Nat.mul_one, Int.reduceBEq, Int.reduceBNe, Int.reduceLT, Int.reduceLE, Int.reduceAdd, Int.reduceSub, Int.reduceMul, decide_true, decide_false, Bool.not_true, Bool.not_false, beq_self_eq_true, bne_self_eq_false, and_self, List.isEmpty_nil, List.isEmpty_cons, Bool.true_or, Bool.false_or, List.set_cons_zero, List.set_cons_succ, List.length_cons, List.length_nil, Option.bind_some, List.all_cons, List.all_nil, Bool.or_true, Bool.true_and, Bool.and_true, Int.reduceToNat]
  refine wloop (fun mm ss => ∃ (i : Nat) (s : AV) (h2 : Hp) (u2 u4 u5 u8 u14 : AV), (mm = n - i) ∧ (i ≤ n ∧ Grown h h2 ∧ OwnP h.next h2.blks s (zp (prI n i))) ∧ ss = { fr := [(0, .int .i64 n), (2, u2), (3, s), (4, u4), (5, u5), (6, .int .i64 n), (7, .int .i64 i), (8, u8), (14, u14)], hp := h2 }) (n) ?_ ?_
  ·
    refine ⟨0, .nilsl, h.en, _, _, _, _, _, by omega, ⟨by omega, Grown.en, OwnP.nil⟩, rfl⟩
  rintro nA sA ⟨i, s, h2, u2, u4, u5, u8, u14, hnA, ⟨hi, g2, O2⟩, rfl⟩
  have hl2 := prL_le' n hn i (by omega)
  simp (disch := first | (simp only [Nat.reduceBEq, elem_hit, elem_miss, elem_nil]; done) | ((repeat' (first | assumption | exact Sub.refl _ | refine Sub.push ?_ ?_ | exact HokR.fresh (by assumption) | refine Fresh.push ?_ | refine HokR.push ?_ ?_ ?_ | exact Grown.refl | refine GrownR.push ?_ ?_ ?_ | exact refsOK_ints | exact refsOK_pairs | exact Nat.le_refl _ | (simp only [wM, Nat.reduceAdd, Nat.reduceLT, Nat.reduceLeDiff]; done))); done) | omega | decide) only [wrap_i64, idx?_pos, Int.toNat_natCast, ↓wA, wB, resOf, Option.map_some, Option.map_none, List.map_cons, List.map_nil, List.nil_append, List.append_nil, List.cons_append, Nat.reduceBEq, List.getElem?_cons_zero, List.getElem?_cons_succ, List.getElem?_nil, Option.getD_some, Option.getD_none, cond_false, cond_true, and_true, true_and, Nat.zero_add, Nat.mul_one, Int.reduceBEq, Int.reduceBNe, Int.reduceLT, Int.reduceLE, Int.reduceAdd, Int.reduceSub, Int.reduceMul, decide_true, decide_false, Bool.not_true, Bool.not_false, beq_self_eq_true, bne_self_eq_false, and_self, List.isEmpty_nil, List.isEmpty_cons, Bool.true_or, Bool.false_or, List.set_cons_zero, List.set_cons_succ, List.length_cons, List.length_nil, Option.bind_some, List.all_cons, List.all_nil, Bool.or_true, Bool.true_and, Bool.and_true, Int.reduceToNat]
  refine ifThen_intro (fun e => ?_) (fun e => ?_) <;> have eq := e <;> try simp [-List.getD_eq_getElem?_getD] at eq
  · simp (disch := first | (simp only [Nat.reduceBEq, elem_hit, elem_miss, elem_nil]; done) | ((repeat' (first | assumption | exact Sub.refl _ | refine Sub.push ?_ ?_ | exact HokR.fresh (by assumption) | refine Fresh.push ?_ | refine HokR.push ?_ ?_ ?_ | exact Grown.refl | refine GrownR.push ?_ ?_ ?_ | exact refsOK_ints | exact refsOK_pairs | exact Nat.le_refl _ | (simp only [wM, Nat.reduceAdd, Nat.reduceLT, Nat.reduceLeDiff]; done))); done) | omega | decide) only [e, wrap_i64, idx?_pos, Int.toNat_natCast, ↓wA, wB, resOf, Option.map_some, Option.map_none, List.map_cons, List.map_nil, List.nil_append, List.append_nil, List.cons_append, Nat.reduceBEq, List.getElem?_cons_zero, List.getElem?_cons_succ, List.getElem?_nil, Option.getD_some, Option.getD_none, cond_false, cond_true, and_true, true_and, Nat.zero_add, Nat.mul_one, Int.reduceBEq, Int.reduceBNe, Int.reduceLT, Int.reduceLE, Int.reduceAdd, Int.reduceSub, Int.reduceMul, decide_true, decide_false, Bool.not_true, Bool.not_false, beq_self_eq_true, bne_self_eq_false, and_self, List.isEmpty_nil, List.isEmpty_cons, Bool.true_or, Bool.false_or, List.set_cons_zero, List.set_cons_succ, List.length_cons, List.length_nil, Option.bind_some, List.all_cons, List.all_nil, Bool.or_true, Bool.true_and, Bool.and_true, Int.reduceToNat]
    refine wloop (fun mm ss => ∃ (b : Nat) (s3 : AV) (h3 : Hp) (u2 u8 u14 : AV), (mm = n - b) ∧ (i + 1 ≤ b ∧ b ≤ n ∧ Grown h h3 ∧ OwnP h.next h3.blks s3 (zp (prI n i ++ prR n i (b - (i + 1))))) ∧ ss = { fr := [(0, .int .i64 n), (2, u2), (3, s3), (4, .int .i64 i), (5, .int .i64 b), (6, .int .i64 n), (7, .int .i64 i), (8, u8), (14, u14)], hp := h3 }) (n - (i + 1)) ?_ ?_
    ·
      refine ⟨i + 1, s, h2, _, _, _, by omega, ⟨by omega, by omega, g2, by rw [Nat.sub_self]; simpa [prR] using O2⟩, rfl⟩
    rintro nB sB ⟨b, s3, h3, u2, u8, u14, hnB, ⟨hb1, hb2, g3, O3⟩, rfl⟩
    simp (disch := first | (simp only [Nat.reduceBEq, elem_hit, elem_miss, elem_nil]; done) | ((repeat' (first | assumption | exact Sub.refl _ | refine Sub.push ?_ ?_ | exact HokR.fresh (by assumption) | refine Fresh.push ?_ | refine HokR.push ?_ ?_ ?_ | exact Grown.refl | refine GrownR.push ?_ ?_ ?_ | exact refsOK_ints | exact refsOK_pairs | exact Nat.le_refl _ | (simp only [wM, Nat.reduceAdd, Nat.reduceLT, Nat.reduceLeDiff]; done))); done) | omega | decide) only [e, wrap_i64, idx?_pos, Int.toNat_natCast, ↓wA, wB, resOf, Option.map_some, Option.map_none, List.map_cons, List.map_nil, List.nil_append, List.append_nil, List.cons_append, Nat.reduceBEq, List.getElem?_cons_zero, List.getElem?_cons_succ, List.getElem?_nil, Option.getD_some, Option.getD_none, cond_false, cond_true, and_true, true_and, Nat.zero_add, Nat.mul_one, Int.reduceBEq, Int.reduceBNe, Int.reduceLT, Int.reduceLE, Int.reduceAdd, Int.reduceSub, Int.reduceMul, decide_true, decide_false, Bool.not_true, Bool.not_false, beq_self_eq_true, bne_self_eq_false, and_self, List.isEmpty_nil, List.isEmpty_cons, Bool.true_or, Bool.false_or, List.set_cons_zero, List.set_cons_succ, List.length_cons, List.length_nil, Option.bind_some, List.all_cons, List.all_nil, Bool.or_true, Bool.true_and, Bool.and_true, Int.reduceToNat]
    refine ifThen_intro (fun e2 => ?_) (fun e2 => ?_) <;> have e2q := e2 <;> try simp [-List.getD_eq_getElem?_getD] at e2q
    · obtain ⟨s4, h4, y1, y2, y3, y4⟩ := own_appP1 (a := (i : Int)) (b := (b : Int)) hk g3 O3 (by rw [zp_len, List.length_append]; simp [prR]; omega)
      rw [← zp_app, List.append_assoc] at y2
      have es : prR n i (b - (i + 1)) ++ [(i, b)] = prR n i (b + 1 - (i + 1)) := by
        rw [show b + 1 - (i + 1) = (b - (i + 1)) + 1 by omega, prR_s, show i + 1 + (b - (i + 1)) = b by omega]
      rw [es] at y2
      simp (disch := first | (simp only [Nat.reduceBEq, elem_hit, elem_miss, elem_nil]; done) | ((repeat' (first | assumption | exact Sub.refl _ | refine Sub.push ?_ ?_ | exact HokR.fresh (by assumption) | refine Fresh.push ?_ | refine HokR.push ?_ ?_ ?_ | exact Grown.refl | refine GrownR.push ?_ ?_ ?_ | exact refsOK_ints | exact refsOK_pairs | exact Nat.le_refl _ | (simp only [wM, Nat.reduceAdd, Nat.reduceLT, Nat.reduceLeDiff]; done))); done) | omega | decide) only [e, e2, y1, wrap_i64, idx?_pos, Int.toNat_natCast, ↓wA, wB, resOf, Option.map_some, Option.map_none, List.map_cons, List.map_nil, List.nil_append, List.append_nil, List.cons_append, Nat.reduceBEq, List.getElem?_cons_zero, List.getElem?_cons_succ, List.getElem?_nil, Option.getD_some, Option.getD_none, cond_false, cond_true, and_true, true_and, Nat.zero_add, Nat.mul_one, Int.reduceBEq, Int.reduceBNe, Int.reduceLT, Int.reduceLE, Int.reduceAdd, Int.reduceSub, Int.reduceMul, decide_true, decide_false, Bool.not_true, Bool.not_false, beq_self_eq_true, bne_self_eq_false, and_self, List.isEmpty_nil, List.isEmpty_cons, Bool.true_or, Bool.false_or, List.set_cons_zero, List.set_cons_succ, List.length_cons, List.length_nil, Option.bind_some, List.all_cons, List.all_nil, Bool.or_true, Bool.true_and, Bool.and_true, Int.reduceToNat]
      refine ⟨_, ?_, b + 1, s4, h4, _, _, _, rfl, ?_, rfl⟩
      · omega
      exact ⟨by omega, by omega, y3, y2⟩
    · simp (disch := first | (simp only [Nat.reduceBEq, elem_hit, elem_miss, elem_nil]; done) | ((repeat' (first | assumption | exact Sub.refl _ | refine Sub.push ?_ ?_ | exact HokR.fresh (by assumption) | refine Fresh.push ?_ | refine HokR.push ?_ ?_ ?_ | exact Grown.refl | refine GrownR.push ?_ ?_ ?_ | exact refsOK_ints | exact refsOK_pairs | exact Nat.le_refl _ | (simp only [wM, Nat.reduceAdd, Nat.reduceLT, Nat.reduceLeDiff]; done))); done) | omega | decide) only [e, e2, wrap_i64, idx?_pos, Int.toNat_natCast, ↓wA, wB, resOf, Option.map_some, Option.map_none, List.map_cons, List.map_nil, List.nil_append, List.append_nil, List.cons_append, Nat.reduceBEq, List.getElem?_cons_zero, List.getElem?_cons_succ, List.getElem?_nil, Option.getD_some, Option.getD_none, cond_false, cond_true, and_true, true_and, Nat.zero_add, Nat.mul_one, Int.reduceBEq, Int.reduceBNe, Int.reduceLT, Int.reduceLE, Int.reduceAdd, Int.reduceSub, Int.reduceMul, decide_true, decide_false, Bool.not_true, Bool.not_false, beq_self_eq_true, bne_self_eq_false, and_self, List.isEmpty_nil, List.isEmpty_cons, Bool.true_or, Bool.false_or, List.set_cons_zero, List.set_cons_succ, List.length_cons, List.length_nil, Option.bind_some, List.all_cons, List.all_nil, Bool.or_true, Bool.true_and, Bool.and_true, Int.reduceToNat]
      have eb : b = n := by omega
      subst eb
      rw [← prI_s] at O3
      refine ⟨_, ?_, i + 1, s3, h3, _, _, _, _, _, rfl, ?_, rfl⟩
      · omega
      exact ⟨by omega, g3, O3⟩
  · simp (disch := first | (simp only [Nat.reduceBEq, elem_hit, elem_miss, elem_nil]; done) | ((repeat' (first | assumption | exact Sub.refl _ | refine Sub.push ?_ ?_ | exact HokR.fresh (by assumption) | refine Fresh.push ?_ | refine HokR.push ?_ ?_ ?_ | exact Grown.refl | refine GrownR.push ?_ ?_ ?_ | exact refsOK_ints | exact refsOK_pairs | exact Nat.le_refl _ | (simp only [wM, Nat.reduceAdd, Nat.reduceLT, Nat.reduceLeDiff]; done))); done) | omega | decide) only [e, wrap_i64, idx?_pos, Int.toNat_natCast, ↓wA, wB, resOf, Option.map_some, Option.map_none, List.map_cons, List.map_nil, List.nil_append, List.append_nil, List.cons_append, Nat.reduceBEq, List.getElem?_cons_zero, List.getElem?_cons_succ, List.getElem?_nil, Option.getD_some, Option.getD_none, cond_false, cond_true, and_true, true_and, Nat.zero_add, Nat.mul_one, Int.reduceBEq, Int.reduceBNe, Int.reduceLT, Int.reduceLE, Int.reduceAdd, Int.reduceSub, Int.reduceMul, decide_true, decide_false, Bool.not_true, Bool.not_false, beq_self_eq_true, bne_self_eq_false, and_self, List.isEmpty_nil, List.isEmpty_cons, Bool.true_or, Bool.false_or, List.set_cons_zero, List.set_cons_succ, List.length_cons, List.length_nil, Option.bind_some, List.all_cons, List.all_nil, Bool.or_true, Bool.true_and, Bool.and_true, Int.reduceToNat]
    have ei : i = n := by omega
    subst ei
    exact ⟨_, rfl, g2, O2⟩

theorem f45 (n k l : Nat) (h : Hp) (hk : Hok h) (hn : n ≤ 8) :
    ∃ v h', Evals Try.prog tab false (.func 45) [.int .i64 n, .int .i64 k, .int .i64 l] h (v, h') ∧ Grown h h' ∧ ∃ i1 i2 i3 i4 cs, v = .fn (.func 62) [] [.ptr i4 0, .ptr i1 0] ∧ h.next ≤ i4 ∧
      BoxD h.next h'.blks i1 [.int .i64 (tri n : Nat)] ∧ BoxD h.next h'.blks i2 [.int .i64 (2 : Nat)] ∧ BoxD h.next h'.blks i3 [.fn (.func 56) [] cs] ∧ BoxD h.next h'.blks i4 [.fn (.func 60) [] [.ptr i1 0, .ptr i2 0, .ptr i3 0, .ptr i4 0]] ∧ CL n k l cs h.next h'.blks := by
  refine evals_q c45 (fun v h' => ∃ i1 i2 i3 i4 cs, v = .fn (.func 62) [] [.ptr i4 0, .ptr i1 0] ∧ h.next ≤ i4 ∧
      BoxD h.next h'.blks i1 [.int .i64 (tri n : Nat)] ∧ BoxD h.next h'.blks i2 [.int .i64 (2 : Nat)] ∧ BoxD h.next h'.blks i3 [.fn (.func 56) [] cs] ∧ BoxD h.next h'.blks i4 [.fn (.func 60) [] [.ptr i1 0, .ptr i2 0, .ptr i3 0, .ptr i4 0]] ∧ CL n k l cs h.next h'.blks) rfl hk ?_ (fun v h1 g q => ⟨fun hr => by
        obtain ⟨i1, i2, i3, i4, cs, rfl, h4, _⟩ := q
        simp only [refOK, refsOK_cons, Bool.and_eq_true, Nat.blt_eq] at hr
        omega, fun _ => q⟩)
  simp only [sf45, initS_cons, initS_nil]
  have g1 : Grown h (((h.en.pu [.int .i64 n]).pu [.int .i64 k]).pu [.int .i64 l]) := Grown.pu (Grown.pu (Grown.pu Grown.en rfl) rfl) rfl
  have k1 := g1.ok hk
  have b0 : BoxD h.next (((h.en.pu [.int .i64 n]).pu [.int .i64 k]).pu [.int .i64 l]).blks h.next [.int .i64 n] := ⟨h.next, true, by rw [lkB_push (show h.next ≠ h.next + 1 + 1 by omega), lkB_push (show h.next ≠ h.next + 1 by omega), lkB_top], by omega, by omega⟩
  have bk : BoxD h.next (((h.en.pu [.int .i64 n]).pu [.int .i64 k]).pu [.int .i64 l]).blks (h.next + 1) [.int .i64 k] := ⟨h.next + 1, true, by rw [lkB_push (show h.next + 1 ≠ h.next + 1 + 1 by omega), lkB_top], by omega, by omega⟩
  have bl : BoxD h.next (((h.en.pu [.int .i64 n]).pu [.int .i64 k]).pu [.int .i64 l]).blks (h.next + 1 + 1) [.int .i64 l] := ⟨h.next + 1 + 1, true, by rw [lkB_top], by omega, by omega⟩
  have x0 := b0.box.ld (Sub.refl _) (j := 0)
  obtain ⟨s, h1, ev1, g2, O1⟩ := f55 n (((h.en.pu [.int .i64 n]).pu [.int .i64 k]).pu [.int .i64 l]) k1 hn
  have k2 := g2.ok k1
  have rs : refOK h1.next s = true := O1.ref k2
  obtain ⟨h2, eh2⟩ : ∃ h2 : Hp, h2 = { next := h1.next + 1, blks := (h1.next, { cells := [s], ch := h1.next, wr := true }) :: h1.blks, loops := h1.loops, base := h1.base, esc := h1.esc || (Nat.blt h1.next h1.base && s.hasRef) } := ⟨_, rfl⟩
  have g3 : Grown h1 h2 := by
    rw [eh2]
    exact GrownR.push Grown.refl (by simp only [refsOK_cons, refsOK_nil, Bool.and_true]; exact refOK_mono (Nat.le_succ _) rs) (Nat.le_refl _)
  have k3 := g3.ok k2
  have bp : BoxD h.next h2.blks h1.next [s] := by
    rw [eh2]
    have := g2.next
    simp only at this
    exact ⟨h1.next, true, lkB_top, by omega, by omega⟩
  have xp := bp.box.ld (Sub.refl _) (j := 0)
  have n2 := g2.next
  have s2 := g2.sub k1
  have s3 := g3.sub k2
  have e12 : h1.next < h2.next := by rw [eh2]; exact Nat.lt_succ_self _
  have ln : sLen h2 s = some (.int .i64 (tri n : Nat), h2) := by
    have := O1.pairs.len h2
    rw [zp_len, prN_len hn] at this
    exact this
  simp only at n2
  obtain ⟨v4, h4, ev4, g4, i1, i2, i3, i4, rfl, hi4, c1, c2, c3, c4⟩ := f48 56 (tri n) 2 [.ptr (h.next + 1) 0, .ptr (h.next + 1 + 1) 0, .ptr h1.next 0, .ptr h.next 0] h2 k3 (by
    simp only [refsOK_cons, refsOK_nil, refOK, Bool.and_true, Bool.and_eq_true, Nat.blt_eq]
    omega)
  rw [show ((2 : Nat) : Int) = 2 from rfl] at ev4
  have sv := fun (m base : Nat) (esc : Bool) => sStore_v (m := m) (i := h1.next) (off := 0) (base := base) (esc := esc) (cs := [.nilsl]) (v := s) (Arr.cell O1.pairs) k2 (by simp)
  have s4 := g4.sub k3
  have gall : Grown h h4 := GrownR.trans g1 (GrownR.trans g2 (GrownR.trans g3 g4))
  simp (disch := first | (simp only [Nat.reduceBEq, elem_hit, elem_miss, elem_nil]; done) | ((repeat' (first | assumption | exact Sub.refl _ | refine Sub.push ?_ ?_ | exact HokR.fresh (by assumption) | refine Fresh.push ?_ | refine HokR.push ?_ ?_ ?_ | exact Grown.refl | refine GrownR.push ?_ ?_ ?_ | exact refsOK_ints | exact refsOK_pairs | exact Nat.le_refl _ | (simp only [wM, Nat.reduceAdd, Nat.reduceLT, Nat.reduceLeDiff]; done))); done) | omega | decide) only [sBox_int, x0, callT ev1, sv, wrap_i64, idx?_pos, Int.toNat_natCast, ↓wA, wB, resOf, Option.map_some, Option.map_none, List.map_cons, List.map_nil, List.nil_append, List.append_nil, List.cons_append, Nat.reduceBEq, List.getElem?_cons_zero, List.getElem?_cons_succ, List.getElem?_nil, Option.getD_some, Option.getD_none, cond_false, cond_true, and_true, true_and, Nat.zero_add, Nat.mul_one, Int.reduceBEq, Int.reduceBNe, Int.reduceLT, Int.reduceLE, Int.reduceAdd, Int.reduceSub, Int.reduceMul, decide_true, decide_false, Bool.not_true, Bool.not_false, beq_self_eq_true, bne_self_eq_false, and_self, List.isEmpty_nil, List.isEmpty_cons, Bool.true_or, Bool.false_or, List.set_cons_zero, List.set_cons_succ, List.length_cons, List.length_nil, Option.bind_some, List.all_cons, List.all_nil, Bool.or_true, Bool.true_and, Bool.and_true, Int.reduceToNat]
  simp only [← eh2]
  simp (disch := first | (simp only [Nat.reduceBEq, elem_hit, elem_miss, elem_nil]; done) | ((repeat' (first | assumption | exact Sub.refl _ | refine Sub.push ?_ ?_ | exact HokR.fresh (by assumption) | refine Fresh.push ?_ | refine HokR.push ?_ ?_ ?_ | exact Grown.refl | refine GrownR.push ?_ ?_ ?_ | exact refsOK_ints | exact refsOK_pairs | exact Nat.le_refl _ | (simp only [wM, Nat.reduceAdd, Nat.reduceLT, Nat.reduceLeDiff]; done))); done) | omega | decide) only [xp, ln, callT ev4, wrap_i64, idx?_pos, Int.toNat_natCast, ↓wA, wB, resOf, Option.map_some, Option.map_none, List.map_cons, List.map_nil, List.nil_append, List.append_nil, List.cons_append, Nat.reduceBEq, List.getElem?_cons_zero, List.getElem?_cons_succ, List.getElem?_nil, Option.getD_some, Option.getD_none, cond_false, cond_true, and_true, true_and, Nat.zero_add, Nat.mul_one, Int.reduceBEq, Int.reduceBNe, Int.reduceLT, Int.reduceLE, Int.reduceAdd, Int.reduceSub, Int.reduceMul, decide_true, decide_false, Bool.not_true, Bool.not_false, beq_self_eq_true, bne_self_eq_false, and_self, List.isEmpty_nil, List.isEmpty_cons, Bool.true_or, Bool.false_or, List.set_cons_zero, List.set_cons_succ, List.length_cons, List.length_nil, Option.bind_some, List.all_cons, List.all_nil, Bool.or_true, Bool.true_and, Bool.and_true, Int.reduceToNat]
  have le2 : h.next ≤ h2.next := by omega
  refine ⟨_, rfl, gall, i1, i2, i3, i4, _, rfl, by omega, c1.le le2, c2.le le2, c3.le le2, c4.le le2, h.next + 1, h.next + 1 + 1, h1.next, h.next, s, rfl, ?_, ?_, bp.sub s4, ?_, ?_⟩
  · exact ((bk.sub s2).sub s3).sub s4
  · exact ((bl.sub s2).sub s3).sub s4
  · exact ((O1.le (by simp only; omega)).sub s3).sub s4
  · exact ((b0.sub s2).sub s3).sub s4

theorem f56 (n k l : Nat) (a : AV) (zs : List Int) (cs : List AV) (h : Hp) (hk : Hok h) (ha : Ints h.blks .i64 a zs) (hr : refOK h.next a = true) {d : Nat} (H : CL n k l cs d h.blks) (hn : n ≤ 8) (hz0 : 0 < zs.length) (hz : zs.length ≤ tri n) (hkk : 2 ≤ k ∧ k ≤ 4) (hll : 2 ≤ l ∧ l ≤ 4) :
    Evals Try.prog tab false (.func 56) (a :: cs) h (.bool (clF n k l zs), h) := by
  obtain ⟨ik, il, ip, i0, s, rfl, bk', bl', bp', ps', b0'⟩ := H
  have bk := bk'.box
  have bl := bl'.box
  have bp := bp'.box
  have b0 := b0'.box
  have ps := ps'.pairs
  refine evals_pure c56 rfl hk ?_
  simp only [sf56, initS_cons, initS_nil]
  have tl := tri_lim hn
  have m1 : (zs.length : Int) - 1 = ((zs.length - 1 : Nat) : Int) := by omega
  have hi : zs.length - 1 < zs.length := by omega
  have hi2 : zs.length - 1 < (zp (prN n)).length := by rw [zp_len, prN_len hn]; omega
  have pk := prAt_ok (i := zs.length - 1) hn (by omega)
  have eg : (zp (prN n)).getD (zs.length - 1) (0, 0) = (((prAt n (zs.length - 1)).1 : Int), ((prAt n (zs.length - 1)).2 : Int)) := zp_get
  have xk := fun (t : List (Nat × Blk)) (u : Sub h.blks t) => bk.ld u (j := 0)
  have xl := fun (t : List (Nat × Blk)) (u : Sub h.blks t) => bl.ld u (j := 0)
  have xp := fun (t : List (Nat × Blk)) (u : Sub h.blks t) => bp.ld u (j := 0)
  have la := ps.lda (Sub.refl _) hi2
  rw [eg] at la
  simp only [clF]
  generalize (prAt n (zs.length - 1)).1 = A at pk la ⊢
  generalize (prAt n (zs.length - 1)).2 = B at pk la ⊢
  obtain ⟨p1, p2, p3⟩ := pk
  obtain ⟨c, hc⟩ : ∃ c, c = zs.getD (zs.length - 1) 0 := ⟨_, rfl⟩
  rw [← hc]
  have gb : Grown h (h.en.pu [.int .i64 A, .int .i64 B]) := Grown.pu Grown.en rfl
  have kb := gb.ok hk
  have gc : Grown h ((h.en.pu [.int .i64 A, .int .i64 B]).pu (Abs.ints .i64 [(A : Int), (B : Int)])) := Grown.pu gb refsOK_ints
  have bx : Box (h.en.pu [.int .i64 A, .int .i64 B]).blks h.next [.int .i64 A, .int .i64 B] := Box.top
  have y0 := bx.ld (Sub.refl _) (j := 0)
  have y1 := bx.ld (Sub.refl _) (j := 1)
  have y2 := (bx.sub (Sub.pu (cs := Abs.ints .i64 [(A : Int), (B : Int)]) kb)).ld (Sub.refl _) (j := 0)
  have x0 := (b0.sub (gb.sub hk)).ld (Sub.refl _) (j := 0)
  have of : OwnF h.next ((h.en.pu [.int .i64 A, .int .i64 B]).pu (Abs.ints .i64 [(A : Int), (B : Int)])).blks .i64 (.sl (h.next + 1) 0 2 (some 2) 1) (nz [A, B]) :=
    .inr ⟨h.next + 1, _, some 2, rfl, lkB_top, rfl, by omega, by simp only; omega, rfl, by simp [nz], .inr rfl⟩
  have st := fun (m base : Nat) (esc : Bool) => sStore_ag (n := 2) (m := m) (i := h.next) (base := base) (esc := esc) (cs := [.int .i64 0, .int .i64 0]) (vs := [.int .i64 A, .int .i64 B]) (bs := h.blks) (ls := h.loops) hk rfl rfl rfl rfl
  have sb := fun (k : Int) => sBuild_v (k := .i64) (a := k) (x := .int .i64 0) (y := .nilsl) (Arr.cell ha)
  have grow := fun (m : Nat) (hm : 2 ≤ m ∧ m ≤ 4) => f41 n A m a zs c h.en hk ha hr hn (by omega) (by omega) hm.2 (fun x y h1 h2 => by
      have := (pix_lex hn h1 (by omega) p1 p2).2 (.inl (by omega))
      omega) [A, B] (.sl (h.next + 1) 0 2 (some 2) 1) _ (GrownR.base gc rfl rfl rfl) of (by simp; omega) (fun u hu w hw => by
      simp only [List.mem_cons, List.not_mem_nil, or_false] at hw
      rcases hw with rfl | rfl
      · refine ⟨by omega, by omega, ?_⟩
        rw [show min u w = u by omega, show max u w = w by omega]
        have := (pix_lex hn hu (by omega) p1 p2).2 (.inl (by omega))
        omega
      · refine ⟨by omega, by omega, ?_⟩
        rw [show min u w = u by omega, show max u w = w by omega]
        have := (pix_lex hn (show u < w by omega) (by omega) p1 p2).2 (.inl (by omega))
        omega)
  by_cases ec : c = 1
  · obtain ⟨r, h1, ev, g1, _, q1⟩ := grow l hll
    have e1 : (c == 1) = true := by simp [ec]
    have gg := GrownR.of_en g1
    simp only [e1, if_true]
    cases ho : gr (joins n zs c) l A [A, B] 0 with
    | none =>
      rw [ho] at q1
      cases q1
      simp (disch := first | (simp only [Nat.reduceBEq, elem_hit, elem_miss, elem_nil]; done) | ((repeat' (first | assumption | exact Sub.refl _ | refine Sub.push ?_ ?_ | exact HokR.fresh (by assumption) | refine Fresh.push ?_ | refine HokR.push ?_ ?_ ?_ | exact Grown.refl | refine GrownR.push ?_ ?_ ?_ | exact refsOK_ints | exact refsOK_pairs | exact Nat.le_refl _ | (simp only [wM, Nat.reduceAdd, Nat.reduceLT, Nat.reduceLeDiff]; done))); done) | omega | decide) only [ha.len, m1, ha.ix (hi := hi), ha.ld (hi := hi), ← hc, xk, e1, xl, xp, ps.ix (hi := hi2), la, st, x0, sb, y0, y1, y2, callT ev, sBin_nil, wrap_i64, idx?_pos, Int.toNat_natCast, ↓wA, wB, resOf, Option.map_some, Option.map_none, List.map_cons, List.map_nil, List.nil_append, List.append_nil, List.cons_append, Nat.reduceBEq, List.getElem?_cons_zero, List.getElem?_cons_succ, List.getElem?_nil, Option.getD_some, Option.getD_none, cond_false, cond_true, and_true, true_and, Nat.zero_add, Nat.mul_one, Int.reduceBEq, Int.reduceBNe, Int.reduceLT, Int.reduceLE, Int.reduceAdd, Int.reduceSub, Int.reduceMul, decide_true, decide_false, Bool.not_true, Bool.not_false, beq_self_eq_true, bne_self_eq_false, and_self, List.isEmpty_nil, List.isEmpty_cons, Bool.true_or, Bool.false_or, List.set_cons_zero, List.set_cons_succ, List.length_cons, List.length_nil, Option.bind_some, List.all_cons, List.all_nil, Bool.or_true, Bool.true_and, Bool.and_true, Int.reduceToNat]
      exact ⟨_, rfl, rfl, gg⟩
    | some x =>
      rw [ho] at q1
      simp (disch := first | (simp only [Nat.reduceBEq, elem_hit, elem_miss, elem_nil]; done) | ((repeat' (first | assumption | exact Sub.refl _ | refine Sub.push ?_ ?_ | exact HokR.fresh (by assumption) | refine Fresh.push ?_ | refine HokR.push ?_ ?_ ?_ | exact Grown.refl | refine GrownR.push ?_ ?_ ?_ | exact refsOK_ints | exact refsOK_pairs | exact Nat.le_refl _ | (simp only [wM, Nat.reduceAdd, Nat.reduceLT, Nat.reduceLeDiff]; done))); done) | omega | decide) only [ha.len, m1, ha.ix (hi := hi), ha.ld (hi := hi), ← hc, xk, e1, xl, xp, ps.ix (hi := hi2), la, st, x0, sb, y0, y1, y2, callT ev, (q1.1.eql q1.2).1, wrap_i64, idx?_pos, Int.toNat_natCast, ↓wA, wB, resOf, Option.map_some, Option.map_none, List.map_cons, List.map_nil, List.nil_append, List.append_nil, List.cons_append, Nat.reduceBEq, List.getElem?_cons_zero, List.getElem?_cons_succ, List.getElem?_nil, Option.getD_some, Option.getD_none, cond_false, cond_true, and_true, true_and, Nat.zero_add, Nat.mul_one, Int.reduceBEq, Int.reduceBNe, Int.reduceLT, Int.reduceLE, Int.reduceAdd, Int.reduceSub, Int.reduceMul, decide_true, decide_false, Bool.not_true, Bool.not_false, beq_self_eq_true, bne_self_eq_false, and_self, List.isEmpty_nil, List.isEmpty_cons, Bool.true_or, Bool.false_or, List.set_cons_zero, List.set_cons_succ, List.length_cons, List.length_nil, Option.bind_some, List.all_cons, List.all_nil, Bool.or_true, Bool.true_and, Bool.and_true, Int.reduceToNat]
      exact ⟨_, rfl, rfl, gg⟩
  · obtain ⟨r, h1, ev, g1, _, q1⟩ := grow k hkk
    have e1 : (c == 1) = false := by simp [ec]
    have gg := GrownR.of_en g1
    simp only [e1, if_false, Bool.false_eq_true]
    cases ho : gr (joins n zs c) k A [A, B] 0 with
    | none =>
      rw [ho] at q1
      cases q1
      simp (disch := first | (simp only [Nat.reduceBEq, elem_hit, elem_miss, elem_nil]; done) | ((repeat' (first | assumption | exact Sub.refl _ | refine Sub.push ?_ ?_ | exact HokR.fresh (by assumption) | refine Fresh.push ?_ | refine HokR.push ?_ ?_ ?_ | exact Grown.refl | refine GrownR.push ?_ ?_ ?_ | exact refsOK_ints | exact refsOK_pairs | exact Nat.le_refl _ | (simp only [wM, Nat.reduceAdd, Nat.reduceLT, Nat.reduceLeDiff]; done))); done) | omega | decide) only [ha.len, m1, ha.ix (hi := hi), ha.ld (hi := hi), ← hc, xk, e1, xl, xp, ps.ix (hi := hi2), la, st, x0, sb, y0, y1, y2, callT ev, sBin_nil, wrap_i64, idx?_pos, Int.toNat_natCast, ↓wA, wB, resOf, Option.map_some, Option.map_none, List.map_cons, List.map_nil, List.nil_append, List.append_nil, List.cons_append, Nat.reduceBEq, List.getElem?_cons_zero, List.getElem?_cons_succ, List.getElem?_nil, Option.getD_some, Option.getD_none, cond_false, cond_true, and_true, true_and, Nat.zero_add, Nat.mul_one, Int.reduceBEq, Int.reduceBNe, Int.reduceLT, Int.reduceLE, Int.reduceAdd, Int.reduceSub, Int.reduceMul, decide_true, decide_false, Bool.not_true, Bool.not_false, beq_self_eq_true, bne_self_eq_false, and_self, List.isEmpty_nil, List.isEmpty_cons, Bool.true_or, Bool.false_or, List.set_cons_zero, List.set_cons_succ, List.length_cons, List.length_nil, Option.bind_some, List.all_cons, List.all_nil, Bool.or_true, Bool.true_and, Bool.and_true, Int.reduceToNat]
      exact ⟨_, rfl, rfl, gg⟩
    | some x =>
      rw [ho] at q1
      simp (disch := first | (simp only [Nat.reduceBEq, elem_hit, elem_miss, elem_nil]; done) | ((repeat' (first | assumption | exact Sub.refl _ | refine Sub.push ?_ ?_ | exact HokR.fresh (by assumption) | refine Fresh.push ?_ | refine HokR.push ?_ ?_ ?_ | exact Grown.refl | refine GrownR.push ?_ ?_ ?_ | exact refsOK_ints | exact refsOK_pairs | exact Nat.le_refl _ | (simp only [wM, Nat.reduceAdd, Nat.reduceLT, Nat.reduceLeDiff]; done))); done) | omega | decide) only [ha.len, m1, ha.ix (hi := hi), ha.ld (hi := hi), ← hc, xk, e1, xl, xp, ps.ix (hi := hi2), la, st, x0, sb, y0, y1, y2, callT ev, (q1.1.eql q1.2).1, wrap_i64, idx?_pos, Int.toNat_natCast, ↓wA, wB, resOf, Option.map_some, Option.map_none, List.map_cons, List.map_nil, List.nil_append, List.append_nil, List.cons_append, Nat.reduceBEq, List.getElem?_cons_zero, List.getElem?_cons_succ, List.getElem?_nil, Option.getD_some, Option.getD_none, cond_false, cond_true, and_true, true_and, Nat.zero_add, Nat.mul_one, Int.reduceBEq, Int.reduceBNe, Int.reduceLT, Int.reduceLE, Int.reduceAdd, Int.reduceSub, Int.reduceMul, decide_true, decide_false, Bool.not_true, Bool.not_false, beq_self_eq_true, bne_self_eq_false, and_self, List.isEmpty_nil, List.isEmpty_cons, Bool.true_or, Bool.false_or, List.set_cons_zero, List.set_cons_succ, List.length_cons, List.length_nil, Option.bind_some, List.all_cons, List.all_nil, Bool.or_true, Bool.true_and, Bool.and_true, Int.reduceToNat]
      exact ⟨_, rfl, rfl, gg⟩

theorem f43 (k l : Int) (h : Hp) (hk : Hok h) : Evals Try.prog tab false (.func 43) [.int .i64 k, .int .i64 l] h (.bool (decide ((2 ≤ k ∧ k ≤ 4) ∧ 2 ≤ l ∧ l ≤ 4)), h) := by
  refine evals_pure c43 rfl hk ?_
  simp only [sf43, initS_cons, initS_nil]
  have w1 := f38 k 2 4 h.en hk
  have w2 := f38 l 2 4 h.en hk
  by_cases e1 : 2 ≤ k ∧ k ≤ 4
  · have d1 : decide (2 ≤ k ∧ k ≤ 4) = true := decide_eq_true e1
    simp (disch := first | (simp only [Nat.reduceBEq, elem_hit, elem_miss, elem_nil]; done) | ((repeat' (first | assumption | exact Sub.refl _ | refine Sub.push ?_ ?_ | exact HokR.fresh (by assumption) | refine Fresh.push ?_ | refine HokR.push ?_ ?_ ?_ | exact Grown.refl | refine GrownR.push ?_ ?_ ?_ | exact refsOK_ints | exact refsOK_pairs | exact Nat.le_refl _ | (simp only [wM, Nat.reduceAdd, Nat.reduceLT, Nat.reduceLeDiff]; done))); done) | omega | decide) only [callT w1, callT w2, d1, wrap_i64, idx?_pos, Int.toNat_natCast, ↓wA, wB, resOf, Option.map_some, Option.map_none, List.map_cons, List.map_nil, List.nil_append, List.append_nil, List.cons_append, Nat.reduceBEq, List.getElem?_cons_zero, List.getElem?_cons_succ, List.getElem?_nil, Option.getD_some, Option.getD_none, cond_false, cond_true, and_true, true_and, Nat.zero_add, Nat.mul_one, Int.reduceBEq, Int.reduceBNe, Int.reduceLT, Int.reduceLE, Int.reduceAdd, Int.reduceSub, Int.reduceMul, decide_true, decide_false, Bool.not_true, Bool.not_false, beq_self_eq_true, bne_self_eq_false, and_self, List.isEmpty_nil, List.isEmpty_cons, Bool.true_or, Bool.false_or, List.set_cons_zero, List.set_cons_succ, List.length_cons, List.length_nil, Option.bind_some, List.all_cons, List.all_nil, Bool.or_true, Bool.true_and, Bool.and_true, Int.reduceToNat]
    exact ⟨_, rfl, by simp [e1], by (repeat' (first | assumption | exact Sub.refl _ | refine Sub.push ?_ ?_ | exact HokR.fresh (by assumption) | refine Fresh.push ?_ | refine HokR.push ?_ ?_ ?_ | exact Grown.refl | refine GrownR.push ?_ ?_ ?_ | exact refsOK_ints | exact refsOK_pairs | exact Nat.le_refl _ | (simp only [wM, Nat.reduceAdd, Nat.reduceLT, Nat.reduceLeDiff]; done)))⟩
  · have d1 : decide (2 ≤ k ∧ k ≤ 4) = false := decide_eq_false e1
    simp (disch := first | (simp only [Nat.reduceBEq, elem_hit, elem_miss, elem_nil]; done) | ((repeat' (first | assumption | exact Sub.refl _ | refine Sub.push ?_ ?_ | exact HokR.fresh (by assumption) | refine Fresh.push ?_ | refine HokR.push ?_ ?_ ?_ | exact Grown.refl | refine GrownR.push ?_ ?_ ?_ | exact refsOK_ints | exact refsOK_pairs | exact Nat.le_refl _ | (simp only [wM, Nat.reduceAdd, Nat.reduceLT, Nat.reduceLeDiff]; done))); done) | omega | decide) only [callT w1, d1, wrap_i64, idx?_pos, Int.toNat_natCast, ↓wA, wB, resOf, Option.map_some, Option.map_none, List.map_cons, List.map_nil, List.nil_append, List.append_nil, List.cons_append, Nat.reduceBEq, List.getElem?_cons_zero, List.getElem?_cons_succ, List.getElem?_nil, Option.getD_some, Option.getD_none, cond_false, cond_true, and_true, true_and, Nat.zero_add, Nat.mul_one, Int.reduceBEq, Int.reduceBNe, Int.reduceLT, Int.reduceLE, Int.reduceAdd, Int.reduceSub, Int.reduceMul, decide_true, decide_false, Bool.not_true, Bool.not_false, beq_self_eq_true, bne_self_eq_false, and_self, List.isEmpty_nil, List.isEmpty_cons, Bool.true_or, Bool.false_or, List.set_cons_zero, List.set_cons_succ, List.length_cons, List.length_nil, Option.bind_some, List.all_cons, List.all_nil, Bool.or_true, Bool.true_and, Bool.and_true, Int.reduceToNat]
    exact ⟨_, rfl, by simp [e1], by (repeat' (first | assumption | exact Sub.refl _ | refine Sub.push ?_ ?_ | exact HokR.fresh (by assumption) | refine Fresh.push ?_ | refine HokR.push ?_ ?_ ?_ | exact Grown.refl | refine GrownR.push ?_ ?_ ?_ | exact refsOK_ints | exact refsOK_pairs | exact Nat.le_refl _ | (simp only [wM, Nat.reduceAdd, Nat.reduceLT, Nat.reduceLeDiff]; done)))⟩

def avdOK (n k l : Int) : Prop := (1 ≤ n ∧ n ≤ 8) ∧ (2 ≤ k ∧ k ≤ 4) ∧ 2 ≤ l ∧ l ≤ 4
instance {n k l : Int} : Decidable (avdOK n k l) := inferInstanceAs (Decidable (_ ∧ _))
/-- All colourings without cliques. -/
def avA (n k l : Nat) : List (List Int) := allC (clF n k l) 2 (tri n) []
def avdO (n k l : Int) : Option (List Int) := if avdOK n k l then (avA n.toNat k.toNat l.toNat).head? else none
def avdE (n k l : Int) : Int := if avdOK n k l then (if (avA n.toNat k.toNat l.toNat).head?.isSome = true then 0 else 5) else 1

theorem f23 (n k l : Int) (h : Hp) (hk : Hok h) :
    ∃ v h', Evals Try.prog tab false (.func 23) [.int .i64 n, .int .i64 k, .int .i64 l] h (v, h') ∧ Grown h h' ∧ ∃ a, v = .tu [a, .int .i64 (avdE n k l)] ∧ HD h.next a h'.blks (avdO n k l) := by
  refine evals_q c23 (fun v h' => ∃ a, v = .tu [a, .int .i64 (avdE n k l)] ∧ HD h.next a h'.blks (avdO n k l)) rfl hk ?_ (fun v h1 g q => by
    obtain ⟨r, rfl, q⟩ := q
    refine ⟨fun hr => ⟨r, rfl, q.lk (d := h.next) ?_ (fun id hid => (g.lkB hid).symm)⟩, fun _ => ⟨r, rfl, q⟩⟩
    simp only [refOK, refsOK_cons, Bool.and_eq_true] at hr
    exact hr.1)
  simp only [sf23, initS_cons, initS_nil]
  have w1 := f38 n 1 8 h.en hk
  have w2 := f43 k l h.en hk
  by_cases e1 : 1 ≤ n ∧ n ≤ 8
  · have d1 : decide (1 ≤ n ∧ n ≤ 8) = true := decide_eq_true e1
    by_cases e2 : (2 ≤ k ∧ k ≤ 4) ∧ 2 ≤ l ∧ l ≤ 4
    · have d2 : decide ((2 ≤ k ∧ k ≤ 4) ∧ 2 ≤ l ∧ l ≤ 4) = true := decide_eq_true e2
      have ok : avdOK n k l := ⟨e1, e2⟩
      obtain ⟨m, rfl⟩ : ∃ m : Nat, n = m := ⟨n.toNat, by omega⟩
      obtain ⟨p, rfl⟩ : ∃ p : Nat, k = p := ⟨k.toNat, by omega⟩
      obtain ⟨q, rfl⟩ : ∃ q : Nat, l = q := ⟨l.toNat, by omega⟩
      have tl := tri_lim (show m ≤ 8 by omega)
      obtain ⟨v1, h1, ev1, g1, i1, i2, i3, i4, cs, rfl, _, b1, b2, b3, b4, H⟩ := f45 m p q h.en hk (by omega)
      have gh1 : Grown h h1 := GrownR.of_en g1
      have k1 := gh1.ok hk
      obtain ⟨v2, h2, ev2, g2, a, rfl, q2⟩ := f44 56 (tri m) 2 i1 i2 i3 i4 cs (clF m p q) h1 k1 (by omega) (by omega) b1.box b2.box b3.box b4.box (fun zs h' id hk' hs' hi hr' h0 hl _ => f56 m p q _ zs cs h' hk' hi hr' (H.sub hs') (by omega) h0 hl (by omega) (by omega))
      simp (disch := first | (simp only [Nat.reduceBEq, elem_hit, elem_miss, elem_nil]; done) | ((repeat' (first | assumption | exact Sub.refl _ | refine Sub.push ?_ ?_ | exact HokR.fresh (by assumption) | refine Fresh.push ?_ | refine HokR.push ?_ ?_ ?_ | exact Grown.refl | refine GrownR.push ?_ ?_ ?_ | exact refsOK_ints | exact refsOK_pairs | exact Nat.le_refl _ | (simp only [wM, Nat.reduceAdd, Nat.reduceLT, Nat.reduceLeDiff]; done))); done) | omega | decide) only [callT w1, callT w2, d1, d2, callT ev1, callT ev2, wrap_i64, idx?_pos, Int.toNat_natCast, ↓wA, wB, resOf, Option.map_some, Option.map_none, List.map_cons, List.map_nil, List.nil_append, List.append_nil, List.cons_append, Nat.reduceBEq, List.getElem?_cons_zero, List.getElem?_cons_succ, List.getElem?_nil, Option.getD_some, Option.getD_none, cond_false, cond_true, and_true, true_and, Nat.zero_add, Nat.mul_one, Int.reduceBEq, Int.reduceBNe, Int.reduceLT, Int.reduceLE, Int.reduceAdd, Int.reduceSub, Int.reduceMul, decide_true, decide_false, Bool.not_true, Bool.not_false, beq_self_eq_true, bne_self_eq_false, and_self, List.isEmpty_nil, List.isEmpty_cons, Bool.true_or, Bool.false_or, List.set_cons_zero, List.set_cons_succ, List.length_cons, List.length_nil, Option.bind_some, List.all_cons, List.all_nil, Bool.or_true, Bool.true_and, Bool.and_true, Int.reduceToNat]
      refine ⟨_, rfl, GrownR.trans gh1 g2, a, ?_, ?_⟩
      · rw [avdE, if_pos ok]; rfl
      · rw [avdO, if_pos ok]
        have hn : h.next ≤ h1.next := gh1.next
        simp only [Int.toNat_natCast, avA]
        cases hh : (allC (clF m p q) 2 (tri m) []).head? with
        | none => rw [hh] at q2; exact q2
        | some zs => rw [hh] at q2; exact ⟨q2.1.le hn, q2.2⟩
    · have d2 : decide ((2 ≤ k ∧ k ≤ 4) ∧ 2 ≤ l ∧ l ≤ 4) = false := decide_eq_false e2
      have ok : ¬ avdOK n k l := fun h => e2 h.2
      simp (disch := first | (simp only [Nat.reduceBEq, elem_hit, elem_miss, elem_nil]; done) | ((repeat' (first | assumption | exact Sub.refl _ | refine Sub.push ?_ ?_ | exact HokR.fresh (by assumption) | refine Fresh.push ?_ | refine HokR.push ?_ ?_ ?_ | exact Grown.refl | refine GrownR.push ?_ ?_ ?_ | exact refsOK_ints | exact refsOK_pairs | exact Nat.le_refl _ | (simp only [wM, Nat.reduceAdd, Nat.reduceLT, Nat.reduceLeDiff]; done))); done) | omega | decide) only [callT w1, callT w2, d1, d2, wrap_i64, idx?_pos, Int.toNat_natCast, ↓wA, wB, resOf, Option.map_some, Option.map_none, List.map_cons, List.map_nil, List.nil_append, List.append_nil, List.cons_append, Nat.reduceBEq, List.getElem?_cons_zero, List.getElem?_cons_succ, List.getElem?_nil, Option.getD_some, Option.getD_none, cond_false, cond_true, and_true, true_and, Nat.zero_add, Nat.mul_one, Int.reduceBEq, Int.reduceBNe, Int.reduceLT, Int.reduceLE, Int.reduceAdd, Int.reduceSub, Int.reduceMul, decide_true, decide_false, Bool.not_true, Bool.not_false, beq_self_eq_true, bne_self_eq_false, and_self, List.isEmpty_nil, List.isEmpty_cons, Bool.true_or, Bool.false_or, List.set_cons_zero, List.set_cons_succ, List.length_cons, List.length_nil, Option.bind_some, List.all_cons, List.all_nil, Bool.or_true, Bool.true_and, Bool.and_true, Int.reduceToNat]
      exact ⟨_, rfl, Grown.en, .nilsl, by rw [avdE, if_neg ok], by rw [avdO, if_neg ok]; rfl⟩
  · have d1 : decide (1 ≤ n ∧ n ≤ 8) = false := decide_eq_false e1
    have ok : ¬ avdOK n k l := fun h => e1 h.1
    simp (disch := first | (simp only [Nat.reduceBEq, elem_hit, elem_miss, elem_nil]; done) | ((repeat' (first | assumption | exact Sub.refl _ | refine Sub.push ?_ ?_ | exact HokR.fresh (by assumption) | refine Fresh.push ?_ | refine HokR.push ?_ ?_ ?_ | exact Grown.refl | refine GrownR.push ?_ ?_ ?_ | exact refsOK_ints | exact refsOK_pairs | exact Nat.le_refl _ | (simp only [wM, Nat.reduceAdd, Nat.reduceLT, Nat.reduceLeDiff]; done))); done) | omega | decide) only [callT w1, d1, wrap_i64, idx?_pos, Int.toNat_natCast, ↓wA, wB, resOf, Option.map_some, Option.map_none, List.map_cons, List.map_nil, List.nil_append, List.append_nil, List.cons_append, Nat.reduceBEq, List.getElem?_cons_zero, List.getElem?_cons_succ, List.getElem?_nil, Option.getD_some, Option.getD_none, cond_false, cond_true, and_true, true_and, Nat.zero_add, Nat.mul_one, Int.reduceBEq, Int.reduceBNe, Int.reduceLT, Int.reduceLE, Int.reduceAdd, Int.reduceSub, Int.reduceMul, decide_true, decide_false, Bool.not_true, Bool.not_false, beq_self_eq_true, bne_self_eq_false, and_self, List.isEmpty_nil, List.isEmpty_cons, Bool.true_or, Bool.false_or, List.set_cons_zero, List.set_cons_succ, List.length_cons, List.length_nil, Option.bind_some, List.all_cons, List.all_nil, Bool.or_true, Bool.true_and, Bool.and_true, Int.reduceToNat]
    exact ⟨_, rfl, Grown.en, .nilsl, by rw [avdE, if_neg ok], by rw [avdO, if_neg ok]; rfl⟩
end Go.Proofs.Ytpclkcamfainiaa
