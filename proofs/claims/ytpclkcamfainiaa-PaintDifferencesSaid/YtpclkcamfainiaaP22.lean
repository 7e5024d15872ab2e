/- Count, and the law about it. -/
import Derived.Test.YtpclkcamfainiaaP21
set_option linter.unusedSimpArgs false
set_option linter.unusedVariables false
set_option maxHeartbeats 4000000
set_option maxRecDepth 20000
namespace Go.Pt
open Go Go.Abs
theorem colsL_le {F : List Int → Bool} {A : List Int → List (List Int)} {zs : List Int} {B : Nat} (hA : ∀ x, (A x).length ≤ B) : ∀ k i, (colsL F A zs k i).length ≤ k * B
  | 0, _ => by simp [colsL]
  | k + 1, i => by
    rw [colsL, List.length_append]
    have h1 := colsL_le (F := F) (zs := zs) hA k (i + 1)
    have h2 : (if F (zs ++ [(i : Int)]) = true then A (zs ++ [(i : Int)]) else []).length ≤ B := by
      by_cases hF : F (zs ++ [(i : Int)]) = true
      · rw [if_pos hF]; exact hA _
      · rw [if_neg hF]; exact Nat.zero_le _
    rw [Nat.succ_mul]
    omega
theorem allC_le {F : List Int → Bool} : ∀ f zs, (allC F 2 f zs).length ≤ 2 ^ f
  | 0, zs => by simp [allC]
  | f + 1, zs => by
    rw [allC, Nat.pow_succ, Nat.mul_comm]
    exact colsL_le (allC_le f) 2 0
def refC (ok : List Int → Bool) : Nat → List Int → Nat
  | 0, zs => if ok zs = true then 1 else 0
  | f + 1, zs => if ok zs = true then refC ok f (zs ++ [0]) + refC ok f (zs ++ [1]) else 0
theorem refC_le {ok : List Int → Bool} : ∀ f zs, refC ok f zs ≤ 2 ^ f
  | 0, zs => by rw [refC]; split <;> simp
  | f + 1, zs => by
    have h1 := refC_le (ok := ok) f (zs ++ [0])
    have h2 := refC_le (ok := ok) f (zs ++ [1])
    rw [refC, Nat.pow_succ]
    split <;> omega
theorem refC_all {ok F : List Int → Bool} (h : ∀ zs c, ok zs = true → (ok (zs ++ [c]) = true ↔ F (zs ++ [c]) = true)) : ∀ f zs, ok zs = true → refC ok f zs = (allC F 2 f zs).length
  | 0, zs, hk => by rw [refC, if_pos hk, allC]; rfl
  | f + 1, zs, hk => by
    have one : ∀ c : Int, refC ok f (zs ++ [c]) = (if F (zs ++ [c]) = true then allC F 2 f (zs ++ [c]) else []).length := fun c => by
      by_cases hF : F (zs ++ [c]) = true
      · rw [if_pos hF]
        exact refC_all h f _ ((h zs c hk).2 hF)
      · rw [if_neg hF]
        have : ¬ ok (zs ++ [c]) = true := fun e => hF ((h zs c hk).1 e)
        cases f <;> rw [refC, if_neg this] <;> rfl
    rw [refC, if_pos hk, allC, colsL, colsL, colsL, List.append_nil, List.length_append, one 0, one 1]
    rfl
theorem tri_5' : ∀ n, n ≤ 5 → tri n ≤ 10 := by decide +kernel
end Go.Pt
namespace Go.Proofs.Ytpclkcamfainiaa
open Go Go.Abs Go.Pt

def cntOK (n k l : Int) : Prop := (1 ≤ n ∧ n ≤ 5) ∧ (2 ≤ k ∧ k ≤ 4) ∧ 2 ≤ l ∧ l ≤ 4
instance {n k l : Int} : Decidable (cntOK n k l) := inferInstanceAs (Decidable (_ ∧ _))
def cntV (n k l : Int) : Int := if cntOK n k l then ((avA n.toNat k.toNat l.toNat).length : Int) else 0
def cntEr (n k l : Int) : Int := if cntOK n k l then 0 else 1

theorem f33 (n k l : Int) (h : Hp) (hk : Hok h) :
    Evals Try.prog tab false (.func 33) [.int .i64 n, .int .i64 k, .int .i64 l] h (.tu [.int .i64 (cntV n k l), .int .i64 (cntEr n k l)], h) := by
  refine evals_pure c33 rfl hk ?_
  simp only [sf33, initS_cons, initS_nil]
  have w1 := f38 n 1 5 h.en hk
  have w2 := f43 k l h.en hk
  by_cases e1 : 1 ≤ n ∧ n ≤ 5
  · have d1 : decide (1 ≤ n ∧ n ≤ 5) = true := decide_eq_true e1
    by_cases e2 : (2 ≤ k ∧ k ≤ 4) ∧ 2 ≤ l ∧ l ≤ 4
    · have d2 : decide ((2 ≤ k ∧ k ≤ 4) ∧ 2 ≤ l ∧ l ≤ 4) = true := decide_eq_true e2
      have ok : cntOK n k l := ⟨e1, e2⟩
      obtain ⟨m, rfl⟩ : ∃ m : Nat, n = m := ⟨n.toNat, by omega⟩
      obtain ⟨p, rfl⟩ : ∃ p : Nat, k = p := ⟨k.toNat, by omega⟩
      obtain ⟨q, rfl⟩ : ∃ q : Nat, l = q := ⟨l.toNat, by omega⟩
      have tl := tri_5' m (by omega)
      have gc : Grown h (h.en.pu [.int .i64 0]) := Grown.pu Grown.en rfl
      have kc := gc.ok hk
      obtain ⟨clo, hR, ev1, g1, i1, i2, i3, i4, cs, eclo, hi, b1, b2, b3, b4, H⟩ := f45 m p q (h.en.pu [.int .i64 0]) kc (by omega)
      have kR := g1.ok kc
      have nR := g1.next
      simp only at nR hi b1 b2 b3 b4 H
      have i4lt : i4 < hR.next := by obtain ⟨c, w, e, _⟩ := b4; exact (kR.get e).1
      have i1lt : i1 < hR.next := by obtain ⟨c, w, e, _⟩ := b1; exact (kR.get e).1
      have hat : lkB hR.blks h.next = some { cells := [cvA 0], ch := h.next, wr := true } := by
        rw [g1.lkB (by simp only; omega)]
        exact lkB_top
      have rclo : ∀ n, hR.next ≤ n → refOK n clo = true := fun n hn => by
        rw [eclo]
        simp only [refOK, refsOK_cons, refsOK_nil, Bool.and_true, Bool.true_and, Bool.and_eq_true, Nat.blt_eq]
        omega
      have ovR : Over h.next h.blks hR.blks := by
        obtain ⟨new, eb, fb⟩ := (GrownR.trans gc g1).blks
        exact ⟨new, eb, fb⟩
      have kB : ∀ s, Hok (cntB hR h.next (cntE m p q clo h.next) s) := fun s => by
        show HokR (hR.next + 1) (cntW hR.blks h.next cvA s) ((hR.next, cntE m p q clo h.next) :: hR.loops)
        refine cntW_ok (HokR.mk' (fun x hx => by have := kR.blk hx; exact ⟨by have := this.1; omega, this.2.1, refsOK_mono (Nat.le_succ _) this.2.2⟩) fun x hx => ?_) (by omega) (fun s => rfl) s
        rcases List.mem_cons.1 hx with rfl | hx
        · refine ⟨by simp only; omega, ?_⟩
          simp only [List.map_cons, List.map_nil, refsOK_cons, refsOK_nil, Bool.and_true, Bool.and_eq_true, rclo _ (show hR.next ≤ hR.next + 1 by omega), true_and, refOK_int, refOK_bool]
          exact ⟨by simp only [refOK, Nat.blt_eq]; omega, rfl⟩
        · have := kR.lps hx
          exact ⟨by have := this.1; omega, refsOK_mono (Nat.le_succ _) this.2⟩
      have kept : ∀ s, Kept (h.next + 1) hR.blks (cntB hR h.next (cntE m p q clo h.next) s).blks := fun s i b hi hb hl => cntW_ne (by omega) (by omega) hl s
      have Y : ColY Try.prog tab Nat 60 56 hR.next (hR.next + 1) i1 i2 i3 i4 (tri m) 2 cs (clF m p q) (cntB hR h.next (cntE m p q clo h.next)) (fun s _ => some (s + 1)) (fun _ _ _ => False) :=
        { ok := kB
          nx := fun _ => rfl
          len := fun s s' => by rw [cntW_len, cntW_len]
          b1 := fun s => (b1.keep (kept s)).box
          b2 := fun s => (b2.keep (kept s)).box
          b3 := fun s => (b3.keep (kept s)).box
          b4 := fun s => (b4.keep (kept s)).box
          free := fun s zs h' id g O h0 hz => by
            have hl : zs.length ≤ tri m := by obtain ⟨b, _, _, _, _, _, _, h7⟩ := O; exact h7
            exact f56 m p q _ zs cs h' (g.ok (kB s)) O.own.ints (O.own.ref (g.ok (kB s))) ((H.keep (kept s)).sub (g.sub (kB s))) (by omega) h0 hl (by omega) (by omega)
          yld := fun s zs h' a g O hne _ => by
            obtain ⟨b, h2, ev, el, rfl, g2, same⟩ := count_round m p q clo h.next hR h' a s ⟨h, hk, ovR, rfl⟩ hat (by omega) (kB s) g
            exact ⟨_, h2, ev, el, rfl, g2, same⟩
          fin := fun _ _ _ _ _ _ _ _ H => H.elim }
      obtain ⟨v, h2, ev, el, q2⟩ := f62 56 hR.next (hR.next + 1) i1 i2 i3 i4 (tri m) 2 cs (clF m p q) _ _ _ Y (by omega) (by omega) 0 (cntB hR h.next (cntE m p q clo h.next) 0) Grown.refl
      rw [runC_count, Nat.zero_add] at q2
      have q3 : Grown (cntB hR h.next (cntE m p q clo h.next) (avA m p q).length) h2 := q2
      have lim : (avA m p q).length ≤ 1000000 := Nat.le_trans (allC_le _ _) (Nat.le_trans (Nat.pow_le_pow_right (by omega) tl) (by omega))
      have V : cntV m p q = cvN (avA m p q).length := by rw [cntV, if_pos ok, cvN_eq _ lim]; rfl
      rw [V, cntEr, if_pos ok]
      have k2 := q3.ok (kB _)
      have hls : h2.loops = (hR.next, cntE m p q clo h.next) :: hR.loops := q3.loops
      have hne : ∀ x ∈ hR.loops, x.1 ≠ hR.next := fun x hx => by have := (kR.lps hx).1; omega
      simp (disch := first | (simp only [Nat.reduceBEq, elem_hit, elem_miss, elem_nil]; done) | ((repeat' (first | assumption | exact Sub.refl _ | refine Sub.push ?_ ?_ | exact HokR.fresh (by assumption) | refine Fresh.push ?_ | refine HokR.push ?_ ?_ ?_ | exact Grown.refl | refine GrownR.push ?_ ?_ ?_ | exact refsOK_ints | exact refsOK_pairs | exact Nat.le_refl _ | (simp only [wM, Nat.reduceAdd, Nat.reduceLT, Nat.reduceLeDiff]; done))); done) | omega | decide) only [callT w1, callT w2, d1, d2, callT ev1, wrap_i64, idx?_pos, Int.toNat_natCast, ↓wA, wB, resOf, Option.map_some, Option.map_none, List.map_cons, List.map_nil, List.nil_append, List.append_nil, List.cons_append, Nat.reduceBEq, List.getElem?_cons_zero, List.getElem?_cons_succ, List.getElem?_nil, Option.getD_some, Option.getD_none, cond_false, cond_true, and_true, true_and, Nat.zero_add, Nat.mul_one, Int.reduceBEq, Int.reduceBNe, Int.reduceLT, Int.reduceLE, Int.reduceAdd, Int.reduceSub, Int.reduceMul, decide_true, decide_false, Bool.not_true, Bool.not_false, beq_self_eq_true, bne_self_eq_false, and_self, List.isEmpty_nil, List.isEmpty_cons, Bool.true_or, Bool.false_or, List.set_cons_zero, List.set_cons_succ, List.length_cons, List.length_nil, Option.bind_some, List.all_cons, List.all_nil, Bool.or_true, Bool.true_and, Bool.and_true, Int.reduceToNat]
      refine wrange (g := 62) (fs := []) (cs := [.ptr i4 0, .ptr i1 0]) eclo ⟨v, h2, ev, ?_⟩
      refine ⟨cntE m p q clo h.next, by rw [hls]; exact lkL_top, (by intro e; cases e), ?_⟩
      have cell : cellB h2.blks h.next 0 = some (.int .i64 (cvN (avA m p q).length)) := by
        have lk : lkB h2.blks h.next = lkB (cntW hR.blks h.next cvA (avA m p q).length) h.next := q3.lkB (by simp only; omega)
        simp only [cellB, lk, cntW_at hat, Option.bind_some]
        rfl
      simp only [hls, delL_top hne]
      simp (disch := first | (simp only [Nat.reduceBEq, elem_hit, elem_miss, elem_nil]; done) | ((repeat' (first | assumption | exact Sub.refl _ | refine Sub.push ?_ ?_ | exact HokR.fresh (by assumption) | refine Fresh.push ?_ | refine HokR.push ?_ ?_ ?_ | exact Grown.refl | refine GrownR.push ?_ ?_ ?_ | exact refsOK_ints | exact refsOK_pairs | exact Nat.le_refl _ | (simp only [wM, Nat.reduceAdd, Nat.reduceLT, Nat.reduceLeDiff]; done))); done) | omega | decide) only [cell, wrap_i64, idx?_pos, Int.toNat_natCast, ↓wA, wB, resOf, Option.map_some, Option.map_none, List.map_cons, List.map_nil, List.nil_append, List.append_nil, List.cons_append, Nat.reduceBEq, List.getElem?_cons_zero, List.getElem?_cons_succ, List.getElem?_nil, Option.getD_some, Option.getD_none, cond_false, cond_true, and_true, true_and, Nat.zero_add, Nat.mul_one, Int.reduceBEq, Int.reduceBNe, Int.reduceLT, Int.reduceLE, Int.reduceAdd, Int.reduceSub, Int.reduceMul, decide_true, decide_false, Bool.not_true, Bool.not_false, beq_self_eq_true, bne_self_eq_false, and_self, List.isEmpty_nil, List.isEmpty_cons, Bool.true_or, Bool.false_or, List.set_cons_zero, List.set_cons_succ, List.length_cons, List.length_nil, Option.bind_some, List.all_cons, List.all_nil, Bool.or_true, Bool.true_and, Bool.and_true, Int.reduceToNat]
      have hlt : ∀ x ∈ h.blks, x.1 < h.next := fun x hx => (hk.blk hx).1
      refine ⟨_, rfl, rfl, ⟨?_, ?_, fun _ => ?_, (GrownR.trans gc g1).loops⟩⟩
      · obtain ⟨newW, eW, fW⟩ := cntW_over (cv := cvA) (c := h.next) hlt (Nat.le_refl _) ovR (avA m p q).length
        obtain ⟨new, eb, fb⟩ := q3.blks
        refine ⟨new ++ newW, by simp only at eb ⊢; rw [eb, eW, List.append_assoc], fun x hx => ?_⟩
        rcases List.mem_append.1 hx with hx | hx
        · have := fb x hx; simp only at this; omega
        · exact fW x hx
      · have := q3.next
        simp only at this ⊢
        omega
      · exact HokR.mk' (fun x hx => k2.blk hx) fun x hx => k2.lps (by rw [hls]; exact List.mem_cons_of_mem _ hx)
    · have d2 : decide ((2 ≤ k ∧ k ≤ 4) ∧ 2 ≤ l ∧ l ≤ 4) = false := decide_eq_false e2
      have ok : ¬ cntOK n k l := fun h => e2 h.2
      rw [cntV, if_neg ok, cntEr, if_neg ok]
      simp (disch := first | (simp only [Nat.reduceBEq, elem_hit, elem_miss, elem_nil]; done) | ((repeat' (first | assumption | exact Sub.refl _ | refine Sub.push ?_ ?_ | exact HokR.fresh (by assumption) | refine Fresh.push ?_ | refine HokR.push ?_ ?_ ?_ | exact Grown.refl | refine GrownR.push ?_ ?_ ?_ | exact refsOK_ints | exact refsOK_pairs | exact Nat.le_refl _ | (simp only [wM, Nat.reduceAdd, Nat.reduceLT, Nat.reduceLeDiff]; done))); done) | omega | decide) only [callT w1, callT w2, d1, d2, wrap_i64, idx?_pos, Int.toNat_natCast, ↓wA, wB, resOf, Option.map_some, Option.map_none, List.map_cons, List.map_nil, List.nil_append, List.append_nil, List.cons_append, Nat.reduceBEq, List.getElem?_cons_zero, List.getElem?_cons_succ, List.getElem?_nil, Option.getD_some, Option.getD_none, cond_false, cond_true, and_true, true_and, Nat.zero_add, Nat.mul_one, Int.reduceBEq, Int.reduceBNe, Int.reduceLT, Int.reduceLE, Int.reduceAdd, Int.reduceSub, Int.reduceMul, decide_true, decide_false, Bool.not_true, Bool.not_false, beq_self_eq_true, bne_self_eq_false, and_self, List.isEmpty_nil, List.isEmpty_cons, Bool.true_or, Bool.false_or, List.set_cons_zero, List.set_cons_succ, List.length_cons, List.length_nil, Option.bind_some, List.all_cons, List.all_nil, Bool.or_true, Bool.true_and, Bool.and_true, Int.reduceToNat]
      exact ⟨_, rfl, rfl, Grown.en⟩
  · have d1 : decide (1 ≤ n ∧ n ≤ 5) = false := decide_eq_false e1
    have ok : ¬ cntOK n k l := fun h => e1 h.1
    rw [cntV, if_neg ok, cntEr, if_neg ok]
    simp (disch := first | (simp only [Nat.reduceBEq, elem_hit, elem_miss, elem_nil]; done) | ((repeat' (first | assumption | exact Sub.refl _ | refine Sub.push ?_ ?_ | exact HokR.fresh (by assumption) | refine Fresh.push ?_ | refine HokR.push ?_ ?_ ?_ | exact Grown.refl | refine GrownR.push ?_ ?_ ?_ | exact refsOK_ints | exact refsOK_pairs | exact Nat.le_refl _ | (simp only [wM, Nat.reduceAdd, Nat.reduceLT, Nat.reduceLeDiff]; done))); done) | omega | decide) only [callT w1, d1, wrap_i64, idx?_pos, Int.toNat_natCast, ↓wA, wB, resOf, Option.map_some, Option.map_none, List.map_cons, List.map_nil, List.nil_append, List.append_nil, List.cons_append, Nat.reduceBEq, List.getElem?_cons_zero, List.getElem?_cons_succ, List.getElem?_nil, Option.getD_some, Option.getD_none, cond_false, cond_true, and_true, true_and, Nat.zero_add, Nat.mul_one, Int.reduceBEq, Int.reduceBNe, Int.reduceLT, Int.reduceLE, Int.reduceAdd, Int.reduceSub, Int.reduceMul, decide_true, decide_false, Bool.not_true, Bool.not_false, beq_self_eq_true, bne_self_eq_false, and_self, List.isEmpty_nil, List.isEmpty_cons, Bool.true_or, Bool.false_or, List.set_cons_zero, List.set_cons_succ, List.length_cons, List.length_nil, Option.bind_some, List.all_cons, List.all_nil, Bool.or_true, Bool.true_and, Bool.and_true, Int.reduceToNat]
    exact ⟨_, rfl, rfl, Grown.en⟩

theorem f34 (n k l : Nat) (hn : 1 ≤ n ∧ n ≤ 5) (hkk : 2 ≤ k ∧ k ≤ 4) (hll : 2 ≤ l ∧ l ≤ 4) :
    ∀ (f : Nat) (zs : List Int) (s : AV) (h : Hp), zs.length + f = tri n → Hok h → Ints h.blks .i64 s zs →
    Evals Try.prog tab false (.func 34) [.int .i64 n, .int .i64 k, .int .i64 l, s] h (.int .i64 (refC (okA n k l) f zs : Nat), h) := by
  obtain ⟨M, hM⟩ : ∃ M : Nat, M = n * (n - 1) := ⟨_, rfl⟩
  have hM2 : (n : Int) * ((n : Int) - 1) = (M : Int) := by rw [show (n : Int) - 1 = ((n - 1 : Nat) : Int) by omega, hM]; rfl
  have hM3 : M ≤ 56 := by rw [hM]; exact Nat.le_trans (Nat.mul_le_mul (show n ≤ 8 by omega) (show n - 1 ≤ 7 by omega)) (by omega)
  have hM4 : tri n = M / 2 := by rw [tri, hM]
  have eq := @sBin_quo
  have tl := tri_5' n hn.2
  have stp : ∀ (zs : List Int) (s : AV) (h : Hp), Hok h → Ints h.blks .i64 s zs → zs.length ≤ tri n → 0 < zs.length → Evals Try.prog tab false (.func 46) [.int .i64 n, s, .int .i64 k, .int .i64 l] h (.bool (!(okA n k l zs)), h) := fun zs s h hk hs hz h0 => by
    have := f46 n k l s zs h hk hs (by omega) h0 hz hkk hll
    cases zs with
    | nil => simp at h0
    | cons z zs => exact this
  have e00 : ∀ zs : List Int, ¬ 0 < zs.length → okA n k l zs = true := fun zs h => by
    have := List.length_eq_zero_iff.1 (show zs.length = 0 by omega)
    subst this
    rfl
  intro f
  induction f with
  | zero =>
    intro zs s h hlen hk os
    refine evals_pure c34 rfl hk ?_
    simp only [sf34, initS_cons, initS_nil]
    have e0 : ((zs.length : Int) == (M : Int) / 2) = true := by simp; omega
    by_cases hp : 0 < zs.length
    · have dp : decide ((0 : Int) < (zs.length : Int)) = true := decide_eq_true (by omega)
      have C := stp zs s h.en hk os (by omega) hp
      cases hs : okA n k l zs with
      | false =>
        rw [hs] at C
        simp (disch := first | (simp only [Nat.reduceBEq, elem_hit, elem_miss, elem_nil]; done) | ((repeat' (first | assumption | exact Sub.refl _ | refine Sub.push ?_ ?_ | exact HokR.fresh (by assumption) | refine Fresh.push ?_ | refine HokR.push ?_ ?_ ?_ | exact Grown.refl | refine GrownR.push ?_ ?_ ?_ | exact refsOK_ints | exact refsOK_pairs | exact Nat.le_refl _ | (simp only [wM, Nat.reduceAdd, Nat.reduceLT, Nat.reduceLeDiff]; done))); done) | omega | decide) only [os.len, dp, callT C, wrap_i64, idx?_pos, Int.toNat_natCast, ↓wA, wB, resOf, Option.map_some, Option.map_none, List.map_cons, List.map_nil, List.nil_append, List.append_nil, List.cons_append, Nat.reduceBEq, List.getElem?_cons_zero, List.getElem?_cons_succ, List.getElem?_nil, Option.getD_some, Option.getD_none, cond_false, cond_true, and_true, true_and, Nat.zero_add, Nat.mul_one, Int.reduceBEq, Int.reduceBNe, Int.reduceLT, Int.reduceLE, Int.reduceAdd, Int.reduceSub, Int.reduceMul, decide_true, decide_false, Bool.not_true, Bool.not_false, beq_self_eq_true, bne_self_eq_false, and_self, List.isEmpty_nil, List.isEmpty_cons, Bool.true_or, Bool.false_or, List.set_cons_zero, List.set_cons_succ, List.length_cons, List.length_nil, Option.bind_some, List.all_cons, List.all_nil, Bool.or_true, Bool.true_and, Bool.and_true, Int.reduceToNat]
        refine ⟨_, rfl, ?_, Grown.en⟩
        rw [refC, if_neg (by simp [hs])]
        rfl
      | true =>
        rw [hs] at C
        simp (disch := first | (simp only [Nat.reduceBEq, elem_hit, elem_miss, elem_nil]; done) | ((repeat' (first | assumption | exact Sub.refl _ | refine Sub.push ?_ ?_ | exact HokR.fresh (by assumption) | refine Fresh.push ?_ | refine HokR.push ?_ ?_ ?_ | exact Grown.refl | refine GrownR.push ?_ ?_ ?_ | exact refsOK_ints | exact refsOK_pairs | exact Nat.le_refl _ | (simp only [wM, Nat.reduceAdd, Nat.reduceLT, Nat.reduceLeDiff]; done))); done) | omega | decide) only [os.len, dp, callT C, hM2, eq, e0, wrap_i64, idx?_pos, Int.toNat_natCast, ↓wA, wB, resOf, Option.map_some, Option.map_none, List.map_cons, List.map_nil, List.nil_append, List.append_nil, List.cons_append, Nat.reduceBEq, List.getElem?_cons_zero, List.getElem?_cons_succ, List.getElem?_nil, Option.getD_some, Option.getD_none, cond_false, cond_true, and_true, true_and, Nat.zero_add, Nat.mul_one, Int.reduceBEq, Int.reduceBNe, Int.reduceLT, Int.reduceLE, Int.reduceAdd, Int.reduceSub, Int.reduceMul, decide_true, decide_false, Bool.not_true, Bool.not_false, beq_self_eq_true, bne_self_eq_false, and_self, List.isEmpty_nil, List.isEmpty_cons, Bool.true_or, Bool.false_or, List.set_cons_zero, List.set_cons_succ, List.length_cons, List.length_nil, Option.bind_some, List.all_cons, List.all_nil, Bool.or_true, Bool.true_and, Bool.and_true, Int.reduceToNat]
        refine ⟨_, rfl, ?_, Grown.en⟩
        rw [refC, if_pos hs]
        rfl
    · have dp : decide ((0 : Int) < (zs.length : Int)) = false := decide_eq_false (by omega)
      simp (disch := first | (simp only [Nat.reduceBEq, elem_hit, elem_miss, elem_nil]; done) | ((repeat' (first | assumption | exact Sub.refl _ | refine Sub.push ?_ ?_ | exact HokR.fresh (by assumption) | refine Fresh.push ?_ | refine HokR.push ?_ ?_ ?_ | exact Grown.refl | refine GrownR.push ?_ ?_ ?_ | exact refsOK_ints | exact refsOK_pairs | exact Nat.le_refl _ | (simp only [wM, Nat.reduceAdd, Nat.reduceLT, Nat.reduceLeDiff]; done))); done) | omega | decide) only [os.len, dp, hM2, eq, e0, wrap_i64, idx?_pos, Int.toNat_natCast, ↓wA, wB, resOf, Option.map_some, Option.map_none, List.map_cons, List.map_nil, List.nil_append, List.append_nil, List.cons_append, Nat.reduceBEq, List.getElem?_cons_zero, List.getElem?_cons_succ, List.getElem?_nil, Option.getD_some, Option.getD_none, cond_false, cond_true, and_true, true_and, Nat.zero_add, Nat.mul_one, Int.reduceBEq, Int.reduceBNe, Int.reduceLT, Int.reduceLE, Int.reduceAdd, Int.reduceSub, Int.reduceMul, decide_true, decide_false, Bool.not_true, Bool.not_false, beq_self_eq_true, bne_self_eq_false, and_self, List.isEmpty_nil, List.isEmpty_cons, Bool.true_or, Bool.false_or, List.set_cons_zero, List.set_cons_succ, List.length_cons, List.length_nil, Option.bind_some, List.all_cons, List.all_nil, Bool.or_true, Bool.true_and, Bool.and_true, Int.reduceToNat]
      refine ⟨_, rfl, ?_, Grown.en⟩
      rw [refC, if_pos (e00 zs hp)]
      rfl
  | succ f IH =>
    intro zs s h hlen hk os
    refine evals_pure c34 rfl hk ?_
    simp only [sf34, initS_cons, initS_nil]
    have e0 : ((zs.length : Int) == (M : Int) / 2) = false := by simp; omega
    cases hs : okA n k l zs with
    | false =>
      have hp : 0 < zs.length := by
        by_cases h0 : 0 < zs.length
        · exact h0
        · rw [e00 zs h0] at hs; cases hs
      have dp : decide ((0 : Int) < (zs.length : Int)) = true := decide_eq_true (by omega)
      have C := stp zs s h.en hk os (by omega) hp
      rw [hs] at C
      simp (disch := first | (simp only [Nat.reduceBEq, elem_hit, elem_miss, elem_nil]; done) | ((repeat' (first | assumption | exact Sub.refl _ | refine Sub.push ?_ ?_ | exact HokR.fresh (by assumption) | refine Fresh.push ?_ | refine HokR.push ?_ ?_ ?_ | exact Grown.refl | refine GrownR.push ?_ ?_ ?_ | exact refsOK_ints | exact refsOK_pairs | exact Nat.le_refl _ | (simp only [wM, Nat.reduceAdd, Nat.reduceLT, Nat.reduceLeDiff]; done))); done) | omega | decide) only [os.len, dp, callT C, wrap_i64, idx?_pos, Int.toNat_natCast, ↓wA, wB, resOf, Option.map_some, Option.map_none, List.map_cons, List.map_nil, List.nil_append, List.append_nil, List.cons_append, Nat.reduceBEq, List.getElem?_cons_zero, List.getElem?_cons_succ, List.getElem?_nil, Option.getD_some, Option.getD_none, cond_false, cond_true, and_true, true_and, Nat.zero_add, Nat.mul_one, Int.reduceBEq, Int.reduceBNe, Int.reduceLT, Int.reduceLE, Int.reduceAdd, Int.reduceSub, Int.reduceMul, decide_true, decide_false, Bool.not_true, Bool.not_false, beq_self_eq_true, bne_self_eq_false, and_self, List.isEmpty_nil, List.isEmpty_cons, Bool.true_or, Bool.false_or, List.set_cons_zero, List.set_cons_succ, List.length_cons, List.length_nil, Option.bind_some, List.all_cons, List.all_nil, Bool.or_true, Bool.true_and, Bool.and_true, Int.reduceToNat]
      refine ⟨_, rfl, ?_, Grown.en⟩
      rw [refC, if_neg (by simp [hs])]
      rfl
    | true =>
      have O : Own h.next (h.en.pu []).blks .i64 (.sl h.next 0 0 (some 0) 1) [] := Own.fresh (Nat.le_refl _) rfl rfl rfl (Nat.le_refl _)
      obtain ⟨s1, h4, e4, o4, g4, _⟩ := own_appI (h0 := h) (h := h.en.pu []) hk (Grown.pu Grown.en rfl) O (os.sub (Sub.pu (h := h.en) hk)) (by rw [List.length_nil]; omega)
      rw [List.nil_append] at o4
      obtain ⟨s2, h5, e5, o5, g5, n5⟩ := own_app1 (v := (0 : Int)) hk g4 o4 (by omega)
      have k5 := g5.ok hk
      have ev1 := IH (zs ++ [(0 : Int)]) s2 h5 (by rw [List.length_append, List.length_singleton]; omega) k5 o5.ints
      have os5 := os.sub (g5.sub hk)
      have O6 : Own h5.next (h5.pu []).blks .i64 (.sl h5.next 0 0 (some 0) 1) [] := Own.fresh (Nat.le_refl _) rfl rfl rfl (Nat.le_refl _)
      obtain ⟨s7, h7, e7, o7, g7, _⟩ := own_appI (h0 := h5) (h := h5.pu []) k5 (Grown.pu Grown.refl rfl) O6 (os5.sub (Sub.pu k5)) (by rw [List.length_nil]; omega)
      rw [List.nil_append] at o7
      obtain ⟨s8, h8, e8, o8, g8, n8⟩ := own_app1 (v := (1 : Int)) k5 g7 o7 (by omega)
      have ev2 := IH (zs ++ [(1 : Int)]) s8 h8 (by rw [List.length_append, List.length_singleton]; omega) (g8.ok k5) o8.ints
      have b1 := refC_le (ok := okA n k l) f (zs ++ [(0 : Int)])
      have b2 := refC_le (ok := okA n k l) f (zs ++ [(1 : Int)])
      have b3 : 2 ^ f ≤ 2 ^ 10 := Nat.pow_le_pow_right (by omega) (by omega)
      have rs : refC (okA n k l) (f + 1) zs = refC (okA n k l) f (zs ++ [0]) + refC (okA n k l) f (zs ++ [1]) := by rw [refC, if_pos hs]
      rw [rs]
      generalize refC (okA n k l) f (zs ++ [0]) = x1 at ev1 b1 ⊢
      generalize refC (okA n k l) f (zs ++ [1]) = x2 at ev2 b2 ⊢
      rw [wseq]
      refine wcut (fun ss => ∃ (u8 u18 u26 : AV), (Grown h h.en) ∧ ss = { fr := [(0, .int .i64 n), (1, .int .i64 k), (2, .int .i64 l), (3, s), (8, u8), (18, u18), (26, u26)], hp := h.en }) ?_ ?_
      · by_cases hp : 0 < zs.length
        · have dp : decide ((0 : Int) < (zs.length : Int)) = true := decide_eq_true (by omega)
          have C := stp zs s h.en hk os (by omega) hp
          rw [hs] at C
          simp (disch := first | (simp only [Nat.reduceBEq, elem_hit, elem_miss, elem_nil]; done) | ((repeat' (first | assumption | exact Sub.refl _ | refine Sub.push ?_ ?_ | exact HokR.fresh (by assumption) | refine Fresh.push ?_ | refine HokR.push ?_ ?_ ?_ | exact Grown.refl | refine GrownR.push ?_ ?_ ?_ | exact refsOK_ints | exact refsOK_pairs | exact Nat.le_refl _ | (simp only [wM, Nat.reduceAdd, Nat.reduceLT, Nat.reduceLeDiff]; done))); done) | omega | decide) only [os.len, dp, callT C, cutEx_n, wrap_i64, idx?_pos, Int.toNat_natCast, ↓wA, wB, resOf, Option.map_some, Option.map_none, List.map_cons, List.map_nil, List.nil_append, List.append_nil, List.cons_append, Nat.reduceBEq, List.getElem?_cons_zero, List.getElem?_cons_succ, List.getElem?_nil, Option.getD_some, Option.getD_none, cond_false, cond_true, and_true, true_and, Nat.zero_add, Nat.mul_one, Int.reduceBEq, Int.reduceBNe, Int.reduceLT, Int.reduceLE, Int.reduceAdd, Int.reduceSub, Int.reduceMul, decide_true, decide_false, Bool.not_true, Bool.not_false, beq_self_eq_true, bne_self_eq_false, and_self, List.isEmpty_nil, List.isEmpty_cons, Bool.true_or, Bool.false_or, List.set_cons_zero, List.set_cons_succ, List.length_cons, List.length_nil, Option.bind_some, List.all_cons, List.all_nil, Bool.or_true, Bool.true_and, Bool.and_true, Int.reduceToNat]
          exact ⟨_, _, _, Grown.en, rfl⟩
        · have dp : decide ((0 : Int) < (zs.length : Int)) = false := decide_eq_false (by omega)
          simp (disch := first | (simp only [Nat.reduceBEq, elem_hit, elem_miss, elem_nil]; done) | ((repeat' (first | assumption | exact Sub.refl _ | refine Sub.push ?_ ?_ | exact HokR.fresh (by assumption) | refine Fresh.push ?_ | refine HokR.push ?_ ?_ ?_ | exact Grown.refl | refine GrownR.push ?_ ?_ ?_ | exact refsOK_ints | exact refsOK_pairs | exact Nat.le_refl _ | (simp only [wM, Nat.reduceAdd, Nat.reduceLT, Nat.reduceLeDiff]; done))); done) | omega | decide) only [os.len, dp, cutEx_n, wrap_i64, idx?_pos, Int.toNat_natCast, ↓wA, wB, resOf, Option.map_some, Option.map_none, List.map_cons, List.map_nil, List.nil_append, List.append_nil, List.cons_append, Nat.reduceBEq, List.getElem?_cons_zero, List.getElem?_cons_succ, List.getElem?_nil, Option.getD_some, Option.getD_none, cond_false, cond_true, and_true, true_and, Nat.zero_add, Nat.mul_one, Int.reduceBEq, Int.reduceBNe, Int.reduceLT, Int.reduceLE, Int.reduceAdd, Int.reduceSub, Int.reduceMul, decide_true, decide_false, Bool.not_true, Bool.not_false, beq_self_eq_true, bne_self_eq_false, and_self, List.isEmpty_nil, List.isEmpty_cons, Bool.true_or, Bool.false_or, List.set_cons_zero, List.set_cons_succ, List.length_cons, List.length_nil, Option.bind_some, List.all_cons, List.all_nil, Bool.or_true, Bool.true_and, Bool.and_true, Int.reduceToNat]
          exact ⟨_, _, _, Grown.en, rfl⟩
      · rintro sC ⟨u8, u18, u26, _, rfl⟩
        simp (disch := first | (simp only [Nat.reduceBEq, elem_hit, elem_miss, elem_nil]; done) | ((repeat' (first | assumption | exact Sub.refl _ | refine Sub.push ?_ ?_ | exact HokR.fresh (by assumption) | refine Fresh.push ?_ | refine HokR.push ?_ ?_ ?_ | exact Grown.refl | refine GrownR.push ?_ ?_ ?_ | exact refsOK_ints | exact refsOK_pairs | exact Nat.le_refl _ | (simp only [wM, Nat.reduceAdd, Nat.reduceLT, Nat.reduceLeDiff]; done))); done) | omega | decide) only [os.len, hM2, eq, e0, e4, e5, callT ev1, e7, e8, callT ev2, wrap_i64, idx?_pos, Int.toNat_natCast, ↓wA, wB, resOf, Option.map_some, Option.map_none, List.map_cons, List.map_nil, List.nil_append, List.append_nil, List.cons_append, Nat.reduceBEq, List.getElem?_cons_zero, List.getElem?_cons_succ, List.getElem?_nil, Option.getD_some, Option.getD_none, cond_false, cond_true, and_true, true_and, Nat.zero_add, Nat.mul_one, Int.reduceBEq, Int.reduceBNe, Int.reduceLT, Int.reduceLE, Int.reduceAdd, Int.reduceSub, Int.reduceMul, decide_true, decide_false, Bool.not_true, Bool.not_false, beq_self_eq_true, bne_self_eq_false, and_self, List.isEmpty_nil, List.isEmpty_cons, Bool.true_or, Bool.false_or, List.set_cons_zero, List.set_cons_succ, List.length_cons, List.length_nil, Option.bind_some, List.all_cons, List.all_nil, Bool.or_true, Bool.true_and, Bool.and_true, Int.reduceToNat]
        refine ⟨_, rfl, rfl, GrownR.trans g5 g8⟩

theorem f8 (n k l : Int) (h : Hp) (hk : Hok h) (hn : -9223372036854775808 ≤ n ∧ n ≤ 9223372036854775807) (hr : -9223372036854775808 ≤ k ∧ k ≤ 9223372036854775807) (hkb : -9223372036854775808 ≤ l ∧ l ≤ 9223372036854775807) :
    ∃ h', Evals Try.prog tab false (.func 8) [.int .i64 n, .int .i64 k, .int .i64 l] h (.bool true, h') := by
  suffices H : ∃ v h', Evals Try.prog tab false (.func 8) [.int .i64 n, .int .i64 k, .int .i64 l] h (v, h') ∧ v = .bool true by
    obtain ⟨v, h', e, rfl⟩ := H
    exact ⟨h', e⟩
  refine evals_func (Q := fun v _ => v = .bool true) c8 rfl ?_
  simp only [sf8, initS_cons, initS_nil]
  have ev4 := f33 n k l h.en hk
  have w1 := f18 n 1 5 h.en hk
  have w2 := f18 k 2 4 h.en hk
  have w3 := f18 l 2 4 h.en hk
  have lv := f19
  have bad : ¬ cntOK n k l → cntV n k l = 0 ∧ cntEr n k l = 1 := fun ok => by
    exact ⟨by rw [cntV, if_neg ok], by rw [cntEr, if_neg ok]⟩
  by_cases e1 : 1 ≤ n ∧ n ≤ 5
  · have d1 : decide (1 ≤ n ∧ n ≤ 5) = true := decide_eq_true e1
    by_cases e2 : 2 ≤ k ∧ k ≤ 4
    · have d2 : decide (2 ≤ k ∧ k ≤ 4) = true := decide_eq_true e2
      by_cases e3 : 2 ≤ l ∧ l ≤ 4
      · have d3 : decide (2 ≤ l ∧ l ≤ 4) = true := decide_eq_true e3
        have ok : cntOK n k l := ⟨e1, e2, e3⟩
        obtain ⟨m, rfl⟩ : ∃ m : Nat, n = m := ⟨n.toNat, by omega⟩
        obtain ⟨p, rfl⟩ : ∃ p : Nat, k = p := ⟨k.toNat, by omega⟩
        obtain ⟨q, rfl⟩ : ∃ q : Nat, l = q := ⟨l.toNat, by omega⟩
        have kp : Hok (h.en.pu []) := Hok.pu hk rfl
        have O : Ints (h.en.pu []).blks .i64 (.sl h.next 0 0 (some 0) 1) [] := Own.ints (Own.fresh (Nat.le_refl h.next) rfl rfl rfl (Nat.le_refl _))
        have ev5 := f34 m p q (by omega) (by omega) (by omega) (tri m) [] (.sl h.next 0 0 (some 0) 1) (h.en.pu []) (by simp) kp O
        have eV : cntV m p q = (refC (okA m p q) (tri m) [] : Nat) := by
          rw [cntV, if_pos ok, refC_all (F := clF m p q) (fun zs c hz => ?_) (tri m) [] rfl]
          · rfl
          · have : okA m p q (zs ++ [c]) = clF m p q (zs ++ [c]) := by cases zs <;> rfl
            rw [this]
        have eE : cntEr m p q = 0 := by rw [cntEr, if_pos ok]
        rw [eV, eE] at ev4
        generalize refC (okA m p q) (tri m) [] = x at ev4 ev5
        have ex : ((x : Int) == (x : Int)) = true := by simp
        simp (disch := first | (simp only [Nat.reduceBEq, elem_hit, elem_miss, elem_nil]; done) | ((repeat' (first | assumption | exact Sub.refl _ | refine Sub.push ?_ ?_ | exact HokR.fresh (by assumption) | refine Fresh.push ?_ | refine HokR.push ?_ ?_ ?_ | exact Grown.refl | refine GrownR.push ?_ ?_ ?_ | exact refsOK_ints | exact refsOK_pairs | exact Nat.le_refl _ | (simp only [wM, Nat.reduceAdd, Nat.reduceLT, Nat.reduceLeDiff]; done))); done) | omega | decide) only [callT ev4, callT w1, callT w2, callT w3, d1, d2, d3, callT ev5, ex, callT (lv (h.en.pu [])), wrap_i64, idx?_pos, Int.toNat_natCast, ↓wA, wB, resOf, Option.map_some, Option.map_none, List.map_cons, List.map_nil, List.nil_append, List.append_nil, List.cons_append, Nat.reduceBEq, List.getElem?_cons_zero, List.getElem?_cons_succ, List.getElem?_nil, Option.getD_some, Option.getD_none, cond_false, cond_true, and_true, true_and, Nat.zero_add, Nat.mul_one, Int.reduceBEq, Int.reduceBNe, Int.reduceLT, Int.reduceLE, Int.reduceAdd, Int.reduceSub, Int.reduceMul, decide_true, decide_false, Bool.not_true, Bool.not_false, beq_self_eq_true, bne_self_eq_false, and_self, List.isEmpty_nil, List.isEmpty_cons, Bool.true_or, Bool.false_or, List.set_cons_zero, List.set_cons_succ, List.length_cons, List.length_nil, Option.bind_some, List.all_cons, List.all_nil, Bool.or_true, Bool.true_and, Bool.and_true, Int.reduceToNat]
        exact ⟨_, rfl, rfl⟩
      · have d3 : decide (2 ≤ l ∧ l ≤ 4) = false := decide_eq_false e3
        obtain ⟨eV, eE⟩ := bad fun h => e3 h.2.2
        rw [eV, eE] at ev4
        simp (disch := first | (simp only [Nat.reduceBEq, elem_hit, elem_miss, elem_nil]; done) | ((repeat' (first | assumption | exact Sub.refl _ | refine Sub.push ?_ ?_ | exact HokR.fresh (by assumption) | refine Fresh.push ?_ | refine HokR.push ?_ ?_ ?_ | exact Grown.refl | refine GrownR.push ?_ ?_ ?_ | exact refsOK_ints | exact refsOK_pairs | exact Nat.le_refl _ | (simp only [wM, Nat.reduceAdd, Nat.reduceLT, Nat.reduceLeDiff]; done))); done) | omega | decide) only [callT ev4, callT w1, callT w2, callT w3, d1, d2, d3, callT (lv h.en), wrap_i64, idx?_pos, Int.toNat_natCast, ↓wA, wB, resOf, Option.map_some, Option.map_none, List.map_cons, List.map_nil, List.nil_append, List.append_nil, List.cons_append, Nat.reduceBEq, List.getElem?_cons_zero, List.getElem?_cons_succ, List.getElem?_nil, Option.getD_some, Option.getD_none, cond_false, cond_true, and_true, true_and, Nat.zero_add, Nat.mul_one, Int.reduceBEq, Int.reduceBNe, Int.reduceLT, Int.reduceLE, Int.reduceAdd, Int.reduceSub, Int.reduceMul, decide_true, decide_false, Bool.not_true, Bool.not_false, beq_self_eq_true, bne_self_eq_false, and_self, List.isEmpty_nil, List.isEmpty_cons, Bool.true_or, Bool.false_or, List.set_cons_zero, List.set_cons_succ, List.length_cons, List.length_nil, Option.bind_some, List.all_cons, List.all_nil, Bool.or_true, Bool.true_and, Bool.and_true, Int.reduceToNat]
        exact ⟨_, rfl, rfl⟩
    · have d2 : decide (2 ≤ k ∧ k ≤ 4) = false := decide_eq_false e2
      obtain ⟨eV, eE⟩ := bad fun h => e2 h.2.1
      rw [eV, eE] at ev4
      simp (disch := first | (simp only [Nat.reduceBEq, elem_hit, elem_miss, elem_nil]; done) | ((repeat' (first | assumption | exact Sub.refl _ | refine Sub.push ?_ ?_ | exact HokR.fresh (by assumption) | refine Fresh.push ?_ | refine HokR.push ?_ ?_ ?_ | exact Grown.refl | refine GrownR.push ?_ ?_ ?_ | exact refsOK_ints | exact refsOK_pairs | exact Nat.le_refl _ | (simp only [wM, Nat.reduceAdd, Nat.reduceLT, Nat.reduceLeDiff]; done))); done) | omega | decide) only [callT ev4, callT w1, callT w2, d1, d2, callT (lv h.en), wrap_i64, idx?_pos, Int.toNat_natCast, ↓wA, wB, resOf, Option.map_some, Option.map_none, List.map_cons, List.map_nil, List.nil_append, List.append_nil, List.cons_append, Nat.reduceBEq, List.getElem?_cons_zero, List.getElem?_cons_succ, List.getElem?_nil, Option.getD_some, Option.getD_none, cond_false, cond_true, and_true, true_and, Nat.zero_add, Nat.mul_one, Int.reduceBEq, Int.reduceBNe, Int.reduceLT, Int.reduceLE, Int.reduceAdd, Int.reduceSub, Int.reduceMul, decide_true, decide_false, Bool.not_true, Bool.not_false, beq_self_eq_true, bne_self_eq_false, and_self, List.isEmpty_nil, List.isEmpty_cons, Bool.true_or, Bool.false_or, List.set_cons_zero, List.set_cons_succ, List.length_cons, List.length_nil, Option.bind_some, List.all_cons, List.all_nil, Bool.or_true, Bool.true_and, Bool.and_true, Int.reduceToNat]
      exact ⟨_, rfl, rfl⟩
  · have d1 : decide (1 ≤ n ∧ n ≤ 5) = false := decide_eq_false e1
    obtain ⟨eV, eE⟩ := bad fun h => e1 h.1
    rw [eV, eE] at ev4
    simp (disch := first | (simp only [Nat.reduceBEq, elem_hit, elem_miss, elem_nil]; done) | ((repeat' (first | assumption | exact Sub.refl _ | refine Sub.push ?_ ?_ | exact HokR.fresh (by assumption) | refine Fresh.push ?_ | refine HokR.push ?_ ?_ ?_ | exact Grown.refl | refine GrownR.push ?_ ?_ ?_ | exact refsOK_ints | exact refsOK_pairs | exact Nat.le_refl _ | (simp only [wM, Nat.reduceAdd, Nat.reduceLT, Nat.reduceLeDiff]; done))); done) | omega | decide) only [callT ev4, callT w1, d1, callT (lv h.en), wrap_i64, idx?_pos, Int.toNat_natCast, ↓wA, wB, resOf, Option.map_some, Option.map_none, List.map_cons, List.map_nil, List.nil_append, List.append_nil, List.cons_append, Nat.reduceBEq, List.getElem?_cons_zero, List.getElem?_cons_succ, List.getElem?_nil, Option.getD_some, Option.getD_none, cond_false, cond_true, and_true, true_and, Nat.zero_add, Nat.mul_one, Int.reduceBEq, Int.reduceBNe, Int.reduceLT, Int.reduceLE, Int.reduceAdd, Int.reduceSub, Int.reduceMul, decide_true, decide_false, Bool.not_true, Bool.not_false, beq_self_eq_true, bne_self_eq_false, and_self, List.isEmpty_nil, List.isEmpty_cons, Bool.true_or, Bool.false_or, List.set_cons_zero, List.set_cons_succ, List.length_cons, List.length_nil, Option.bind_some, List.all_cons, List.all_nil, Bool.or_true, Bool.true_and, Bool.and_true, Int.reduceToNat]
    exact ⟨_, rfl, rfl⟩
end Go.Proofs.Ytpclkcamfainiaa
