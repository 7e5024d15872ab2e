/- The reference's cliques that end at the last pair. -/
import Derived.Test.YtpclkcamfainiaaP18
set_option linter.unusedSimpArgs false
set_option linter.unusedVariables false
set_option maxHeartbeats 4000000
set_option maxRecDepth 20000
namespace Go.Pt
open Go Go.Abs
theorem col_comm {n : Nat} {zs : List Int} {v w : Nat} : col n zs v w = col n zs w v := by simp only [col, Nat.min_comm, Nat.max_comm]
theorem sub_range : ∀ {m lo : Nat} {us : List Nat}, us.Pairwise (· < ·) → (∀ u ∈ us, lo ≤ u ∧ u < lo + m) → us.Sublist (List.range' lo m)
  | 0, lo, [], _, _ => List.nil_sublist _
  | 0, lo, u :: us, _, h => by have := h u (by simp); omega
  | m + 1, lo, [], _, _ => List.nil_sublist _
  | m + 1, lo, u :: us, hp, h => by
    rw [List.range'_succ]
    have h0 := h u (by simp)
    rw [List.pairwise_cons] at hp
    by_cases e : u = lo
    · subst e
      exact List.Sublist.cons_cons _ (sub_range hp.2 (fun x hx => by have := hp.1 x hx; have := h x (by simp [hx]); omega))
    · refine List.Sublist.cons _ (sub_range (List.pairwise_cons.2 hp) fun x hx => ?_)
      have := h x hx
      rcases List.mem_cons.1 hx with rfl | hx'
      · omega
      · have := hp.1 x hx'; omega
/-- There is a clique that goes on. -/
def GX (R : Nat → Nat → Bool) (k f : Nat) (cl : List Nat) (v : Nat) : Prop :=
  ∃ us : List Nat, us.length + cl.length = k ∧ us.Pairwise (fun a b => a < b ∧ R b a = true) ∧ (∀ u ∈ us, v ≤ u ∧ u < v + f) ∧ ∀ u ∈ us, ∀ w ∈ cl, R u w = true
theorem GX_step {R : Nat → Nat → Bool} {k f v : Nat} {cl : List Nat} (hl : cl.length < k) : GX R k (f + 1) cl v ↔ (cl.all (R v) = true ∧ GX R k f (cl ++ [v]) (v + 1)) ∨ GX R k f cl (v + 1) := by
  constructor
  · rintro ⟨us, h1, h2, h3, h4⟩
    cases us with
    | nil => simp at h1; omega
    | cons u us =>
      rw [List.pairwise_cons] at h2
      have hu := h3 u (by simp)
      by_cases e : u = v
      · subst e
        left
        refine ⟨List.all_eq_true.2 fun w hw => h4 u (by simp) w hw, us, by simp at h1 ⊢; omega, h2.2, fun x hx => ?_, fun x hx w hw => ?_⟩
        · have := (h2.1 x hx).1; have := h3 x (by simp [hx]); omega
        · rw [List.mem_append, List.mem_singleton] at hw
          rcases hw with hw | rfl
          · exact h4 x (by simp [hx]) w hw
          · exact (h2.1 x hx).2
      · right
        refine ⟨u :: us, h1, List.pairwise_cons.2 h2, fun x hx => ?_, h4⟩
        have := h3 x hx
        rcases List.mem_cons.1 hx with rfl | hx'
        · omega
        · have := (h2.1 x hx').1; omega
  · rintro (⟨h0, us, h1, h2, h3, h4⟩ | ⟨us, h1, h2, h3, h4⟩)
    · refine ⟨v :: us, by simp at h1 ⊢; omega, List.pairwise_cons.2 ⟨fun x hx => ⟨by have := h3 x hx; omega, h4 x hx v (by simp)⟩, h2⟩, fun x hx => ?_, fun x hx w hw => ?_⟩
      · rcases List.mem_cons.1 hx with rfl | hx'
        · omega
        · have := h3 x hx'; omega
      · rcases List.mem_cons.1 hx with rfl | hx'
        · exact List.all_eq_true.1 h0 w hw
        · exact h4 x hx' w (by simp [hw])
    · exact ⟨us, h1, h2, fun x hx => by have := h3 x hx; omega, h4⟩
theorem GX_full {R : Nat → Nat → Bool} {k f v : Nat} {cl : List Nat} (hl : cl.length = k) : GX R k f cl v := ⟨[], by simpa using hl, List.Pairwise.nil, by simp, by simp⟩
theorem grL_iff {R : Nat → Nat → Bool} {k : Nat} : ∀ {f v : Nat} {cl : List Nat}, cl.length < k → ((grL (fun cl v => cl.all (R v)) k f cl v).isSome = true ↔ GX R k f cl v)
  | 0, v, cl, hl => by
    rw [grL]
    refine ⟨fun e => by simp at e, fun ⟨us, h1, _, h3, _⟩ => ?_⟩
    cases us with
    | nil => simp at h1; omega
    | cons u us => have := h3 u (by simp); omega
  | f + 1, v, cl, hl => by
    have IH : (gr (fun cl v => cl.all (R v)) k f (cl ++ [v]) (v + 1)).isSome = true ↔ GX R k f (cl ++ [v]) (v + 1) := by
      rw [gr]
      by_cases e : (cl ++ [v]).length = k
      · rw [if_pos e]; exact ⟨fun _ => GX_full e, fun _ => rfl⟩
      · rw [if_neg e]; exact grL_iff (by rw [List.length_append, List.length_singleton] at e ⊢; omega)
    rw [grL_s, GX_step hl, ← IH, ← grL_iff (f := f) (v := v + 1) hl]
    by_cases e : cl.all (R v) = true
    · rw [if_pos e]
      cases gr (fun cl v => cl.all (R v)) k f (cl ++ [v]) (v + 1) with
      | none => simp
      | some r => simp [e]
    · rw [if_neg e]
      simp [e]
theorem gr_iff {R : Nat → Nat → Bool} {k f v : Nat} {cl : List Nat} (hl : cl.length ≤ k) : (gr (fun cl v => cl.all (R v)) k f cl v).isSome = true ↔ GX R k f cl v := by
  rw [gr]
  by_cases e : cl.length = k
  · rw [if_pos e]; exact ⟨fun _ => GX_full e, fun _ => rfl⟩
  · rw [if_neg e]; exact grL_iff (by omega)
/-- The reference's search in a list. -/
def wnT (A : List Nat → Bool) (K : Nat → Nat → Bool) : List Nat → Bool
  | [] => false
  | x :: r => A (r.filter (K x)) || wnT A K r
def wn (K : Nat → Nat → Bool) : Nat → List Nat → Bool
  | 0, _ => true
  | s + 1, l => wnT (wn K s) K l
theorem wn_iff {K : Nat → Nat → Bool} : ∀ {s : Nat} {l : List Nat}, wn K s l = true ↔ ∃ us : List Nat, us.Sublist l ∧ us.length = s ∧ us.Pairwise (fun a b => K a b = true)
  | 0, l => ⟨fun _ => ⟨[], List.nil_sublist _, rfl, List.Pairwise.nil⟩, fun _ => rfl⟩
  | s + 1, [] => by
    simp only [wn, wnT]
    refine ⟨fun e => by simp at e, fun ⟨us, h1, h2, _⟩ => ?_⟩
    have := List.sublist_nil.1 h1
    subst this
    simp at h2
  | s + 1, x :: r => by
    have ih : wn K (s + 1) r = true ↔ _ := wn_iff (l := r)
    simp only [wn, wnT, Bool.or_eq_true] at ih ⊢
    rw [ih, wn_iff]
    constructor
    · rintro (⟨us, h1, h2, h3⟩ | ⟨us, h1, h2⟩)
      · refine ⟨x :: us, List.Sublist.cons_cons _ (h1.trans List.filter_sublist), by simp [h2], List.pairwise_cons.2 ⟨fun y hy => ?_, h3⟩⟩
        exact (List.mem_filter.1 (h1.subset hy)).2
      · exact ⟨us, h1.cons _, h2⟩
    · rintro ⟨us, h1, h2, h3⟩
      cases h1 with
      | cons _ h => exact .inr ⟨us, h, h2, h3⟩
      | cons_cons _ h =>
        rename_i us'
        rw [List.pairwise_cons] at h3
        refine .inl ⟨us', ?_, by simpa using h2, h3.2⟩
        have := h.filter (K x)
        rwa [List.filter_eq_self.2 fun y hy => h3.1 y hy] at this
/-- What is known of a pair. -/
def kn (n : Nat) (zs : List Int) (c : Int) (v w : Nat) : Bool := decide (pix n (min v w) (max v w) < zs.length) && (col n zs v w == c)
def cq (n : Nat) (zs : List Int) (c : Int) (A B v : Nat) : Bool := !(v == A) && !(v == B) && kn n zs c v A && kn n zs c v B
theorem closed_eq {n m A B : Nat} {zs : List Int} {c : Int} (hn : n ≤ 8) (h1 : A < B) (h2 : B < n) (h3 : pix n A B + 1 = zs.length) (hm : 2 ≤ m) :
    wn (kn n zs c) (m - 2) ((List.range n).filter (cq n zs c A B)) = (gr (joins n zs c) m A [A, B] 0).isSome := by
  rw [Bool.eq_iff_iff, wn_iff]
  have gi := @gr_iff (fun v w => col n zs v w == c) m A 0 [A, B] (by simpa using hm)
  rw [show (joins n zs c) = (fun cl v => cl.all ((fun v w => col n zs v w == c) v)) from rfl, gi]
  constructor
  · rintro ⟨us, s1, s2, s3⟩
    have key : ∀ u ∈ us, u < A ∧ (col n zs u A == c) = true ∧ (col n zs u B == c) = true := fun u hu => by
      have hm := List.mem_filter.1 (s1.subset hu)
      have hun : u < n := List.mem_range.1 hm.1
      have hq := hm.2
      simp only [cq, kn, Bool.and_eq_true, Bool.not_eq_true', beq_eq_false_iff_ne, decide_eq_true_eq] at hq
      obtain ⟨⟨⟨q1, q2⟩, q3, q4⟩, q5, q6⟩ := hq
      refine ⟨?_, q4, q6⟩
      by_cases hlt : u < A
      · exact hlt
      · exfalso
        by_cases hub : u < B
        · rw [Nat.min_eq_left (by omega), Nat.max_eq_right (by omega)] at q5
          have := (pix_lex hn h1 h2 hub h2).2 (.inl (by omega))
          omega
        · rw [Nat.min_eq_right (by omega), Nat.max_eq_left (by omega)] at q3
          have := (pix_lex (a := A) (b := B) (c := A) (d := u) hn h1 h2 (by omega) hun).2 (.inr ⟨rfl, by omega⟩)
          omega
    have srt : us.Pairwise (· < ·) := (List.Pairwise.sublist (s1.trans List.filter_sublist) (by rw [List.range_eq_range']; exact List.pairwise_lt_range'))
    refine ⟨us, by simp; omega, ?_, fun u hu => by have := (key u hu).1; omega, fun u hu w hw => ?_⟩
    · refine (List.pairwise_and_iff.2 ⟨srt, s3⟩).imp fun {a b} h => ⟨h.1, ?_⟩
      have := h.2
      simp only [kn, Bool.and_eq_true] at this
      show (col n zs b a == c) = true
      rw [col_comm]
      exact this.2
    · simp only [List.mem_cons, List.not_mem_nil, or_false] at hw
      rcases hw with rfl | rfl
      · exact (key u hu).2.1
      · exact (key u hu).2.2
  · rintro ⟨us, s1, s2, s3, s4⟩
    have srt : us.Pairwise (· < ·) := s2.imp fun h => h.1
    have hq : ∀ u ∈ us, cq n zs c A B u = true := fun u hu => by
      have hu1 := s3 u hu
      simp only [cq, kn, Bool.and_eq_true, Bool.not_eq_true', beq_eq_false_iff_ne, decide_eq_true_eq]
      refine ⟨⟨⟨by omega, by omega⟩, ?_, s4 u hu A (by simp)⟩, ?_, s4 u hu B (by simp)⟩
      · rw [Nat.min_eq_left (by omega), Nat.max_eq_right (by omega)]
        have := (pix_lex (a := u) (b := A) hn (by omega) (by omega) h1 h2).2 (.inl (by omega))
        omega
      · rw [Nat.min_eq_left (by omega), Nat.max_eq_right (by omega)]
        have := (pix_lex (a := u) (b := B) hn (by omega) (by omega) h1 h2).2 (.inl (by omega))
        omega
    refine ⟨us, ?_, by simp at s1; omega, ?_⟩
    · have := (sub_range (m := n) (lo := 0) srt fun u hu => by have := s3 u hu; omega).filter (cq n zs c A B)
      rw [← List.range_eq_range', List.filter_eq_self.2 hq] at this
      exact this
    · have hin : us.Pairwise (fun a b => (a < b ∧ (col n zs b a == c) = true) ∧ (a < A ∧ b < A)) := by
        refine List.pairwise_and_iff.2 ⟨s2, ?_⟩
        exact List.Pairwise.imp_of_mem (fun {a b} ha hb _ => ⟨by have := s3 a ha; omega, by have := s3 b hb; omega⟩) s2
      refine hin.imp fun {a b} h => ?_
      obtain ⟨⟨q1, q2⟩, q3, q4⟩ := h
      simp only [kn, Bool.and_eq_true, decide_eq_true_eq]
      rw [col_comm]
      refine ⟨?_, q2⟩
      rw [Nat.min_eq_left (by omega), Nat.max_eq_right (by omega)]
      have := (pix_lex (a := a) (b := b) hn q1 (by omega) h1 h2).2 (.inl (by omega))
      omega
def stp (n : Nat) (p : Nat × Nat) : Nat × Nat := if p.2 + 1 = n then (p.1 + 1, p.1 + 1 + 1) else (p.1, p.2 + 1)
theorem prAt_step' : ∀ n, n ≤ 8 → ∀ i, i < tri n → i + 1 < tri n → prAt n (i + 1) = stp n (prAt n i) := by decide +kernel
theorem prAt_step {n i : Nat} (h : n ≤ 8) (hi : i + 1 < tri n) : prAt n (i + 1) = stp n (prAt n i) := prAt_step' n h i (by omega) hi
theorem prAt_0 : ∀ n, n ≤ 8 → 0 < tri n → prAt n 0 = (0, 1) := by decide +kernel
theorem beq_cast {a b : Nat} : ((a : Int) == (b : Int)) = (a == b) := by
  rw [Bool.eq_iff_iff, beq_iff_eq, beq_iff_eq]
  omega
end Go.Pt
namespace Go.Proofs.Ytpclkcamfainiaa
open Go Go.Abs Go.Pt

theorem f57 (n v w : Nat) (a : AV) (zs : List Int) (c : Int) (h : Hp) (hk : Hok h) (ha : Ints h.blks .i64 a zs) (hz : zs.length ≤ 1000) (hn : n ≤ 8) (hv : v < n) (hw : w < n) (hne : v ≠ w) :
    Evals Try.prog tab false (.func 57) [.int .i64 n, a, .int .i64 v, .int .i64 w, .int .i64 c] h (.bool (kn n zs c v w), h) := by
  refine evals_pure c57 rfl hk ?_
  simp only [sf57, initS_cons, initS_nil]
  have mn : min (v : Int) w = ((min v w : Nat) : Int) := by omega
  have mx : max (v : Int) w = ((max v w : Nat) : Int) := by omega
  have pr := f36 n (min v w) (max v w) h.en hk hn (by omega) (by omega)
  have ec : col n zs v w = zs.getD (pix n (min v w) (max v w)) 0 := rfl
  simp only [kn, ec]
  generalize pix n (min v w) (max v w) = p at pr ⊢
  by_cases e : p < zs.length
  · have d1 : decide ((p : Int) < (zs.length : Int)) = true := by simp; omega
    simp (disch := first | (simp only [Nat.reduceBEq, elem_hit, elem_miss, elem_nil]; done) | ((repeat' (first | assumption | exact Sub.refl _ | refine Sub.push ?_ ?_ | exact HokR.fresh (by assumption) | refine Fresh.push ?_ | refine HokR.push ?_ ?_ ?_ | exact Grown.refl | refine GrownR.push ?_ ?_ ?_ | exact refsOK_ints | exact refsOK_pairs | exact Nat.le_refl _ | (simp only [wM, Nat.reduceAdd, Nat.reduceLT, Nat.reduceLeDiff]; done))); done) | omega | decide) only [mn, mx, callT pr, ha.len, d1, ha.ix (hi := e), ha.ld (hi := e), wrap_i64, idx?_pos, Int.toNat_natCast, ↓wA, wB, resOf, Option.map_some, Option.map_none, List.map_cons, List.map_nil, List.nil_append, List.append_nil, List.cons_append, Nat.reduceBEq, List.getElem?_cons_zero, List.getElem?_cons_succ, List.getElem?_nil, Option.getD_some, Option.getD_none, cond_false, cond_true, and_true, true_and, Nat.zero_add, Nat.mul_one, Int.reduceBEq, Int.reduceBNe, Int.reduceLT, Int.reduceLE, Int.reduceAdd, Int.reduceSub, Int.reduceMul, decide_true, decide_false, Bool.not_true, Bool.not_false, beq_self_eq_true, bne_self_eq_false, and_self, List.isEmpty_nil, List.isEmpty_cons, Bool.true_or, Bool.false_or, List.set_cons_zero, List.set_cons_succ, List.length_cons, List.length_nil, Option.bind_some, List.all_cons, List.all_nil, Bool.or_true, Bool.true_and, Bool.and_true, Int.reduceToNat]
    exact ⟨_, rfl, by simp [e], by (repeat' (first | assumption | exact Sub.refl _ | refine Sub.push ?_ ?_ | exact HokR.fresh (by assumption) | refine Fresh.push ?_ | refine HokR.push ?_ ?_ ?_ | exact Grown.refl | refine GrownR.push ?_ ?_ ?_ | exact refsOK_ints | exact refsOK_pairs | exact Nat.le_refl _ | (simp only [wM, Nat.reduceAdd, Nat.reduceLT, Nat.reduceLeDiff]; done)))⟩
  · have d1 : decide ((p : Int) < (zs.length : Int)) = false := by simp; omega
    simp (disch := first | (simp only [Nat.reduceBEq, elem_hit, elem_miss, elem_nil]; done) | ((repeat' (first | assumption | exact Sub.refl _ | refine Sub.push ?_ ?_ | exact HokR.fresh (by assumption) | refine Fresh.push ?_ | refine HokR.push ?_ ?_ ?_ | exact Grown.refl | refine GrownR.push ?_ ?_ ?_ | exact refsOK_ints | exact refsOK_pairs | exact Nat.le_refl _ | (simp only [wM, Nat.reduceAdd, Nat.reduceLT, Nat.reduceLeDiff]; done))); done) | omega | decide) only [mn, mx, callT pr, ha.len, d1, wrap_i64, idx?_pos, Int.toNat_natCast, ↓wA, wB, resOf, Option.map_some, Option.map_none, List.map_cons, List.map_nil, List.nil_append, List.append_nil, List.cons_append, Nat.reduceBEq, List.getElem?_cons_zero, List.getElem?_cons_succ, List.getElem?_nil, Option.getD_some, Option.getD_none, cond_false, cond_true, and_true, true_and, Nat.zero_add, Nat.mul_one, Int.reduceBEq, Int.reduceBNe, Int.reduceLT, Int.reduceLE, Int.reduceAdd, Int.reduceSub, Int.reduceMul, decide_true, decide_false, Bool.not_true, Bool.not_false, beq_self_eq_true, bne_self_eq_false, and_self, List.isEmpty_nil, List.isEmpty_cons, Bool.true_or, Bool.false_or, List.set_cons_zero, List.set_cons_succ, List.length_cons, List.length_nil, Option.bind_some, List.all_cons, List.all_nil, Bool.or_true, Bool.true_and, Bool.and_true, Int.reduceToNat]
    exact ⟨_, rfl, by simp [e], by (repeat' (first | assumption | exact Sub.refl _ | refine Sub.push ?_ ?_ | exact HokR.fresh (by assumption) | refine Fresh.push ?_ | refine HokR.push ?_ ?_ ?_ | exact Grown.refl | refine GrownR.push ?_ ?_ ?_ | exact refsOK_ints | exact refsOK_pairs | exact Nat.le_refl _ | (simp only [wM, Nat.reduceAdd, Nat.reduceLT, Nat.reduceLeDiff]; done)))⟩

theorem f58 (n : Nat) (a : AV) (zs : List Int) (c : Int) (hz : zs.length ≤ 1000) (hn : n ≤ 8) : ∀ (s : Nat) (l : List Nat) (b : AV) (h : Hp), Hok h → Ints h.blks .i64 a zs → Ints h.blks .i64 b (nz l) → l.length ≤ 8 → (∀ u ∈ l, u < n) → l.Pairwise (· < ·) → s ≤ 8 →
    Evals Try.prog tab false (.func 58) [.int .i64 n, a, .int .i64 c, b, .int .i64 s] h (.bool (wn (kn n zs c) s l), h) := by
  intro s
  induction s with
  | zero =>
    intro l b h hk ha hb hl hu hp _
    refine evals_pure c58 rfl hk ?_
    simp only [sf58, initS_cons, initS_nil]
    have d0 : decide (((0 : Nat) : Int) ≤ 0) = true := rfl
    simp (disch := first | (simp only [Nat.reduceBEq, elem_hit, elem_miss, elem_nil]; done) | ((repeat' (first | assumption | exact Sub.refl _ | refine Sub.push ?_ ?_ | exact HokR.fresh (by assumption) | refine Fresh.push ?_ | refine HokR.push ?_ ?_ ?_ | exact Grown.refl | refine GrownR.push ?_ ?_ ?_ | exact refsOK_ints | exact refsOK_pairs | exact Nat.le_refl _ | (simp only [wM, Nat.reduceAdd, Nat.reduceLT, Nat.reduceLeDiff]; done))); done) | omega | decide) only [d0, wrap_i64, idx?_pos, Int.toNat_natCast, ↓wA, wB, resOf, Option.map_some, Option.map_none, List.map_cons, List.map_nil, List.nil_append, List.append_nil, List.cons_append, Nat.reduceBEq, List.getElem?_cons_zero, List.getElem?_cons_succ, List.getElem?_nil, Option.getD_some, Option.getD_none, cond_false, cond_true, and_true, true_and, Nat.zero_add, Nat.mul_one, Int.reduceBEq, Int.reduceBNe, Int.reduceLT, Int.reduceLE, Int.reduceAdd, Int.reduceSub, Int.reduceMul, decide_true, decide_false, Bool.not_true, Bool.not_false, beq_self_eq_true, bne_self_eq_false, and_self, List.isEmpty_nil, List.isEmpty_cons, Bool.true_or, Bool.false_or, List.set_cons_zero, List.set_cons_succ, List.length_cons, List.length_nil, Option.bind_some, List.all_cons, List.all_nil, Bool.or_true, Bool.true_and, Bool.and_true, Int.reduceToNat]
    exact ⟨_, rfl, rfl, by (repeat' (first | assumption | exact Sub.refl _ | refine Sub.push ?_ ?_ | exact HokR.fresh (by assumption) | refine Fresh.push ?_ | refine HokR.push ?_ ?_ ?_ | exact Grown.refl | refine GrownR.push ?_ ?_ ?_ | exact refsOK_ints | exact refsOK_pairs | exact Nat.le_refl _ | (simp only [wM, Nat.reduceAdd, Nat.reduceLT, Nat.reduceLeDiff]; done)))⟩
  | succ s IH =>
    intro l b h hk ha hb hl hu hp hs
    refine evals_pure c58 rfl hk ?_
    simp only [sf58, initS_cons, initS_nil]
    have d0 : decide (((s + 1 : Nat) : Int) ≤ 0) = false := decide_eq_false (by omega)
    have ms : ((s + 1 : Nat) : Int) - 1 = (s : Int) := by omega
    simp (disch := first | (simp only [Nat.reduceBEq, elem_hit, elem_miss, elem_nil]; done) | ((repeat' (first | assumption | exact Sub.refl _ | refine Sub.push ?_ ?_ | exact HokR.fresh (by assumption) | refine Fresh.push ?_ | refine HokR.push ?_ ?_ ?_ | exact Grown.refl | refine GrownR.push ?_ ?_ ?_ | exact refsOK_ints | exact refsOK_pairs | exact Nat.le_refl _ | (simp only [wM, Nat.reduceAdd, Nat.reduceLT, Nat.reduceLeDiff]; done))); done) | omega | decide) only [d0, wrap_i64, idx?_pos, Int.toNat_natCast, ↓wA, wB, resOf, Option.map_some, Option.map_none, List.map_cons, List.map_nil, List.nil_append, List.append_nil, List.cons_append, Nat.reduceBEq, List.getElem?_cons_zero, List.getElem?_cons_succ, List.getElem?_nil, Option.getD_some, Option.getD_none, cond_false, cond_true, and_true, true_and, Nat.zero_add, Nat.mul_one, Int.reduceBEq, Int.reduceBNe, Int.reduceLT, Int.reduceLE, Int.reduceAdd, Int.reduceSub, Int.reduceMul, decide_true, decide_false, Bool.not_true, Bool.not_false, beq_self_eq_true, bne_self_eq_false, and_self, List.isEmpty_nil, List.isEmpty_cons, Bool.true_or, Bool.false_or, List.set_cons_zero, List.set_cons_succ, List.length_cons, List.length_nil, Option.bind_some, List.all_cons, List.all_nil, Bool.or_true, Bool.true_and, Bool.and_true, Int.reduceToNat]
    refine wloop (fun mm ss => ∃ (i : Nat) (h2 : Hp) (u10 u12 u13 u15 u19 u28 u42 u56 : AV), (mm = l.length - i) ∧ (i ≤ l.length ∧ Grown h h2 ∧ wn (kn n zs c) (s + 1) l = wnT (wn (kn n zs c) s) (kn n zs c) (l.drop i)) ∧ ss = { fr := [(0, .int .i64 n), (1, a), (2, .int .i64 c), (3, b), (4, .int .i64 (s + 1 : Nat)), (10, u10), (11, .int .i64 i), (12, u12), (13, u13), (15, u15), (19, u19), (28, u28), (42, u42), (56, u56)], hp := h2 }) (l.length) ?_ ?_
    ·
      refine ⟨0, h.en, _, _, _, _, _, _, _, _, by omega, ⟨by omega, Grown.en, rfl⟩, rfl⟩
    rintro nA sA ⟨i, h2, u10, u12, u13, u15, u19, u28, u42, u56, hnA, ⟨hi, g2, hw⟩, rfl⟩
    have b2 := hb.sub (g2.sub hk)
    simp (disch := first | (simp only [Nat.reduceBEq, elem_hit, elem_miss, elem_nil]; done) | ((repeat' (first | assumption | exact Sub.refl _ | refine Sub.push ?_ ?_ | exact HokR.fresh (by assumption) | refine Fresh.push ?_ | refine HokR.push ?_ ?_ ?_ | exact Grown.refl | refine GrownR.push ?_ ?_ ?_ | exact refsOK_ints | exact refsOK_pairs | exact Nat.le_refl _ | (simp only [wM, Nat.reduceAdd, Nat.reduceLT, Nat.reduceLeDiff]; done))); done) | omega | decide) only [b2.len, nz_len, wrap_i64, idx?_pos, Int.toNat_natCast, ↓wA, wB, resOf, Option.map_some, Option.map_none, List.map_cons, List.map_nil, List.nil_append, List.append_nil, List.cons_append, Nat.reduceBEq, List.getElem?_cons_zero, List.getElem?_cons_succ, List.getElem?_nil, Option.getD_some, Option.getD_none, cond_false, cond_true, and_true, true_and, Nat.zero_add, Nat.mul_one, Int.reduceBEq, Int.reduceBNe, Int.reduceLT, Int.reduceLE, Int.reduceAdd, Int.reduceSub, Int.reduceMul, decide_true, decide_false, Bool.not_true, Bool.not_false, beq_self_eq_true, bne_self_eq_false, and_self, List.isEmpty_nil, List.isEmpty_cons, Bool.true_or, Bool.false_or, List.set_cons_zero, List.set_cons_succ, List.length_cons, List.length_nil, Option.bind_some, List.all_cons, List.all_nil, Bool.or_true, Bool.true_and, Bool.and_true, Int.reduceToNat]
    refine ifThen_intro (fun e => ?_) (fun e => ?_) <;> have eq := e <;> try simp [-List.getD_eq_getElem?_getD] at eq
    · have g3 : Grown h (h2.pu []) := Grown.pu g2 rfl
      have O3 : Own h.next (h2.pu []).blks .i64 (.sl h2.next 0 0 (some 0) 1) [] := Own.fresh g2.next rfl rfl rfl (Nat.le_refl _)
      have eg : l.getD i 0 = l[i] := by simp [List.getD_eq_getElem?_getD, List.getElem?_eq_getElem eq]
      have hi2 : i < (nz l).length := by rw [nz_len]; exact eq
      have gg : (nz l).getD i 0 = ((l[i] : Nat) : Int) := by rw [nz_get, eg]
      simp (disch := first | (simp only [Nat.reduceBEq, elem_hit, elem_miss, elem_nil]; done) | ((repeat' (first | assumption | exact Sub.refl _ | refine Sub.push ?_ ?_ | exact HokR.fresh (by assumption) | refine Fresh.push ?_ | refine HokR.push ?_ ?_ ?_ | exact Grown.refl | refine GrownR.push ?_ ?_ ?_ | exact refsOK_ints | exact refsOK_pairs | exact Nat.le_refl _ | (simp only [wM, Nat.reduceAdd, Nat.reduceLT, Nat.reduceLeDiff]; done))); done) | omega | decide) only [e, wrap_i64, idx?_pos, Int.toNat_natCast, ↓wA, wB, resOf, Option.map_some, Option.map_none, List.map_cons, List.map_nil, List.nil_append, List.append_nil, List.cons_append, Nat.reduceBEq, List.getElem?_cons_zero, List.getElem?_cons_succ, List.getElem?_nil, Option.getD_some, Option.getD_none, cond_false, cond_true, and_true, true_and, Nat.zero_add, Nat.mul_one, Int.reduceBEq, Int.reduceBNe, Int.reduceLT, Int.reduceLE, Int.reduceAdd, Int.reduceSub, Int.reduceMul, decide_true, decide_false, Bool.not_true, Bool.not_false, beq_self_eq_true, bne_self_eq_false, and_self, List.isEmpty_nil, List.isEmpty_cons, Bool.true_or, Bool.false_or, List.set_cons_zero, List.set_cons_succ, List.length_cons, List.length_nil, Option.bind_some, List.all_cons, List.all_nil, Bool.or_true, Bool.true_and, Bool.and_true, Int.reduceToNat]
      refine wloop (fun mm ss => ∃ (j : Nat) (r : AV) (h3 : Hp) (u10 u15 u19 u28 u42 u56 : AV), (mm = l.length - j) ∧ (i + 1 ≤ j ∧ j ≤ l.length ∧ Grown h h3 ∧ Own h.next h3.blks .i64 r (nz (((l.take j).drop (i + 1)).filter (kn n zs c l[i])))) ∧ ss = { fr := [(0, .int .i64 n), (1, a), (2, .int .i64 c), (3, b), (4, .int .i64 (s + 1 : Nat)), (10, u10), (11, .int .i64 i), (12, r), (13, .int .i64 j), (15, u15), (19, u19), (28, u28), (42, u42), (56, u56)], hp := h3 }) (l.length - (i + 1)) ?_ ?_
      ·
        refine ⟨i + 1, _, _, _, _, _, _, _, _, by omega, ⟨by omega, by omega, g3, by rw [List.drop_of_length_le (by simp only [List.length_take]; omega)]; exact O3⟩, rfl⟩
      rintro nB sB ⟨j, r, h3, u10, u15, u19, u28, u42, u56, hnB, ⟨hj1, hj2, g4, O4⟩, rfl⟩
      have k4 := g4.ok hk
      have b4 := hb.sub (g4.sub hk)
      have a4 := ha.sub (g4.sub hk)
      simp (disch := first | (simp only [Nat.reduceBEq, elem_hit, elem_miss, elem_nil]; done) | ((repeat' (first | assumption | exact Sub.refl _ | refine Sub.push ?_ ?_ | exact HokR.fresh (by assumption) | refine Fresh.push ?_ | refine HokR.push ?_ ?_ ?_ | exact Grown.refl | refine GrownR.push ?_ ?_ ?_ | exact refsOK_ints | exact refsOK_pairs | exact Nat.le_refl _ | (simp only [wM, Nat.reduceAdd, Nat.reduceLT, Nat.reduceLeDiff]; done))); done) | omega | decide) only [e, b4.len, nz_len, wrap_i64, idx?_pos, Int.toNat_natCast, ↓wA, wB, resOf, Option.map_some, Option.map_none, List.map_cons, List.map_nil, List.nil_append, List.append_nil, List.cons_append, Nat.reduceBEq, List.getElem?_cons_zero, List.getElem?_cons_succ, List.getElem?_nil, Option.getD_some, Option.getD_none, cond_false, cond_true, and_true, true_and, Nat.zero_add, Nat.mul_one, Int.reduceBEq, Int.reduceBNe, Int.reduceLT, Int.reduceLE, Int.reduceAdd, Int.reduceSub, Int.reduceMul, decide_true, decide_false, Bool.not_true, Bool.not_false, beq_self_eq_true, bne_self_eq_false, and_self, List.isEmpty_nil, List.isEmpty_cons, Bool.true_or, Bool.false_or, List.set_cons_zero, List.set_cons_succ, List.length_cons, List.length_nil, Option.bind_some, List.all_cons, List.all_nil, Bool.or_true, Bool.true_and, Bool.and_true, Int.reduceToNat]
      refine ifThen_intro (fun e2 => ?_) (fun e2 => ?_) <;> have e2q := e2 <;> try simp [-List.getD_eq_getElem?_getD] at e2q
      · have egj : l.getD j 0 = l[j] := by simp [List.getD_eq_getElem?_getD, List.getElem?_eq_getElem e2q]
        have hj3 : j < (nz l).length := by rw [nz_len]; exact e2q
        have ggj : (nz l).getD j 0 = ((l[j] : Nat) : Int) := by rw [nz_get, egj]
        have hlt : l[i] < l[j] := List.pairwise_iff_getElem.1 hp i j eq e2q (by omega)
        have K := f57 n l[i] l[j] a zs c h3 k4 a4 hz hn (hu _ (List.getElem_mem eq)) (hu _ (List.getElem_mem e2q)) (by omega)
        have ef : ((l.take (j + 1)).drop (i + 1)).filter (kn n zs c l[i]) = ((l.take j).drop (i + 1)).filter (kn n zs c l[i]) ++ (if kn n zs c l[i] l[j] = true then [l[j]] else []) := by
          rw [List.take_succ_eq_append_getElem e2q, List.drop_append_of_le_length (by simp; omega), List.filter_append, List.filter_cons, List.filter_nil]
        have lb : (((l.take j).drop (i + 1)).filter (kn n zs c l[i])).length ≤ 8 := by
          refine Nat.le_trans (List.length_filter_le _ _) ?_
          simp
          omega
        by_cases eK : kn n zs c l[i] l[j] = true
        · rw [if_pos eK] at ef
          obtain ⟨s5, h5, e5, o5, g5, n5⟩ := own_app1 (v := ((l[j] : Nat) : Int)) hk g4 O4 (by rw [nz_len]; omega)
          rw [← nz_app, ← ef] at o5
          simp (disch := first | (simp only [Nat.reduceBEq, elem_hit, elem_miss, elem_nil]; done) | ((repeat' (first | assumption | exact Sub.refl _ | refine Sub.push ?_ ?_ | exact HokR.fresh (by assumption) | refine Fresh.push ?_ | refine HokR.push ?_ ?_ ?_ | exact Grown.refl | refine GrownR.push ?_ ?_ ?_ | exact refsOK_ints | exact refsOK_pairs | exact Nat.le_refl _ | (simp only [wM, Nat.reduceAdd, Nat.reduceLT, Nat.reduceLeDiff]; done))); done) | omega | decide) only [e, e2, b4.ix (hi := hi2), b4.ld (hi := hi2), gg, b4.ix (hi := hj3), b4.ld (hi := hj3), ggj, callT K, eK, e5, wrap_i64, idx?_pos, Int.toNat_natCast, ↓wA, wB, resOf, Option.map_some, Option.map_none, List.map_cons, List.map_nil, List.nil_append, List.append_nil, List.cons_append, Nat.reduceBEq, List.getElem?_cons_zero, List.getElem?_cons_succ, List.getElem?_nil, Option.getD_some, Option.getD_none, cond_false, cond_true, and_true, true_and, Nat.zero_add, Nat.mul_one, Int.reduceBEq, Int.reduceBNe, Int.reduceLT, Int.reduceLE, Int.reduceAdd, Int.reduceSub, Int.reduceMul, decide_true, decide_false, Bool.not_true, Bool.not_false, beq_self_eq_true, bne_self_eq_false, and_self, List.isEmpty_nil, List.isEmpty_cons, Bool.true_or, Bool.false_or, List.set_cons_zero, List.set_cons_succ, List.length_cons, List.length_nil, Option.bind_some, List.all_cons, List.all_nil, Bool.or_true, Bool.true_and, Bool.and_true, Int.reduceToNat]
          refine ⟨_, ?_, j + 1, s5, h5, _, _, _, _, _, _, rfl, ?_, rfl⟩
          · omega
          exact ⟨by omega, by omega, g5, o5⟩
        · rw [if_neg eK, List.append_nil] at ef
          have eK' : kn n zs c l[i] l[j] = false := by simpa using eK
          simp (disch := first | (simp only [Nat.reduceBEq, elem_hit, elem_miss, elem_nil]; done) | ((repeat' (first | assumption | exact Sub.refl _ | refine Sub.push ?_ ?_ | exact HokR.fresh (by assumption) | refine Fresh.push ?_ | refine HokR.push ?_ ?_ ?_ | exact Grown.refl | refine GrownR.push ?_ ?_ ?_ | exact refsOK_ints | exact refsOK_pairs | exact Nat.le_refl _ | (simp only [wM, Nat.reduceAdd, Nat.reduceLT, Nat.reduceLeDiff]; done))); done) | omega | decide) only [e, e2, b4.ix (hi := hi2), b4.ld (hi := hi2), gg, b4.ix (hi := hj3), b4.ld (hi := hj3), ggj, callT K, eK', wrap_i64, idx?_pos, Int.toNat_natCast, ↓wA, wB, resOf, Option.map_some, Option.map_none, List.map_cons, List.map_nil, List.nil_append, List.append_nil, List.cons_append, Nat.reduceBEq, List.getElem?_cons_zero, List.getElem?_cons_succ, List.getElem?_nil, Option.getD_some, Option.getD_none, cond_false, cond_true, and_true, true_and, Nat.zero_add, Nat.mul_one, Int.reduceBEq, Int.reduceBNe, Int.reduceLT, Int.reduceLE, Int.reduceAdd, Int.reduceSub, Int.reduceMul, decide_true, decide_false, Bool.not_true, Bool.not_false, beq_self_eq_true, bne_self_eq_false, and_self, List.isEmpty_nil, List.isEmpty_cons, Bool.true_or, Bool.false_or, List.set_cons_zero, List.set_cons_succ, List.length_cons, List.length_nil, Option.bind_some, List.all_cons, List.all_nil, Bool.or_true, Bool.true_and, Bool.and_true, Int.reduceToNat]
          refine ⟨_, ?_, j + 1, r, h3, _, _, _, _, _, _, rfl, ?_, rfl⟩
          · omega
          exact ⟨by omega, by omega, g4, by rw [ef]; exact O4⟩
      · have ej : j = l.length := by omega
        subst ej
        rw [List.take_length] at O4
        have sub : (((l.drop (i + 1)).filter (kn n zs c l[i]))).Sublist l := List.filter_sublist.trans (List.drop_sublist _ _)
        have R := IH ((l.drop (i + 1)).filter (kn n zs c l[i])) r h3 k4 a4 O4.ints (Nat.le_trans sub.length_le hl) (fun u h => hu u (sub.subset h)) (hp.sublist sub) (by omega)
        have hd : l.drop i = l[i] :: l.drop (i + 1) := List.drop_eq_getElem_cons eq
        rw [hd, wnT] at hw
        by_cases eR : wn (kn n zs c) s ((l.drop (i + 1)).filter (kn n zs c l[i])) = true
        · simp (disch := first | (simp only [Nat.reduceBEq, elem_hit, elem_miss, elem_nil]; done) | ((repeat' (first | assumption | exact Sub.refl _ | refine Sub.push ?_ ?_ | exact HokR.fresh (by assumption) | refine Fresh.push ?_ | refine HokR.push ?_ ?_ ?_ | exact Grown.refl | refine GrownR.push ?_ ?_ ?_ | exact refsOK_ints | exact refsOK_pairs | exact Nat.le_refl _ | (simp only [wM, Nat.reduceAdd, Nat.reduceLT, Nat.reduceLeDiff]; done))); done) | omega | decide) only [e, e2, ms, callT R, eR, wrap_i64, idx?_pos, Int.toNat_natCast, ↓wA, wB, resOf, Option.map_some, Option.map_none, List.map_cons, List.map_nil, List.nil_append, List.append_nil, List.cons_append, Nat.reduceBEq, List.getElem?_cons_zero, List.getElem?_cons_succ, List.getElem?_nil, Option.getD_some, Option.getD_none, cond_false, cond_true, and_true, true_and, Nat.zero_add, Nat.mul_one, Int.reduceBEq, Int.reduceBNe, Int.reduceLT, Int.reduceLE, Int.reduceAdd, Int.reduceSub, Int.reduceMul, decide_true, decide_false, Bool.not_true, Bool.not_false, beq_self_eq_true, bne_self_eq_false, and_self, List.isEmpty_nil, List.isEmpty_cons, Bool.true_or, Bool.false_or, List.set_cons_zero, List.set_cons_succ, List.length_cons, List.length_nil, Option.bind_some, List.all_cons, List.all_nil, Bool.or_true, Bool.true_and, Bool.and_true, Int.reduceToNat]
          exact ⟨_, rfl, by rw [hw, eR]; rfl, g4⟩
        · have eR' : wn (kn n zs c) s ((l.drop (i + 1)).filter (kn n zs c l[i])) = false := by simpa using eR
          simp (disch := first | (simp only [Nat.reduceBEq, elem_hit, elem_miss, elem_nil]; done) | ((repeat' (first | assumption | exact Sub.refl _ | refine Sub.push ?_ ?_ | exact HokR.fresh (by assumption) | refine Fresh.push ?_ | refine HokR.push ?_ ?_ ?_ | exact Grown.refl | refine GrownR.push ?_ ?_ ?_ | exact refsOK_ints | exact refsOK_pairs | exact Nat.le_refl _ | (simp only [wM, Nat.reduceAdd, Nat.reduceLT, Nat.reduceLeDiff]; done))); done) | omega | decide) only [e, e2, ms, callT R, eR', wrap_i64, idx?_pos, Int.toNat_natCast, ↓wA, wB, resOf, Option.map_some, Option.map_none, List.map_cons, List.map_nil, List.nil_append, List.append_nil, List.cons_append, Nat.reduceBEq, List.getElem?_cons_zero, List.getElem?_cons_succ, List.getElem?_nil, Option.getD_some, Option.getD_none, cond_false, cond_true, and_true, true_and, Nat.zero_add, Nat.mul_one, Int.reduceBEq, Int.reduceBNe, Int.reduceLT, Int.reduceLE, Int.reduceAdd, Int.reduceSub, Int.reduceMul, decide_true, decide_false, Bool.not_true, Bool.not_false, beq_self_eq_true, bne_self_eq_false, and_self, List.isEmpty_nil, List.isEmpty_cons, Bool.true_or, Bool.false_or, List.set_cons_zero, List.set_cons_succ, List.length_cons, List.length_nil, Option.bind_some, List.all_cons, List.all_nil, Bool.or_true, Bool.true_and, Bool.and_true, Int.reduceToNat]
          refine ⟨_, ?_, i + 1, h3, _, _, _, _, _, _, _, _, rfl, ?_, rfl⟩
          · omega
          exact ⟨by omega, g4, by rw [hw, eR']; rfl⟩
    · simp (disch := first | (simp only [Nat.reduceBEq, elem_hit, elem_miss, elem_nil]; done) | ((repeat' (first | assumption | exact Sub.refl _ | refine Sub.push ?_ ?_ | exact HokR.fresh (by assumption) | refine Fresh.push ?_ | refine HokR.push ?_ ?_ ?_ | exact Grown.refl | refine GrownR.push ?_ ?_ ?_ | exact refsOK_ints | exact refsOK_pairs | exact Nat.le_refl _ | (simp only [wM, Nat.reduceAdd, Nat.reduceLT, Nat.reduceLeDiff]; done))); done) | omega | decide) only [e, wrap_i64, idx?_pos, Int.toNat_natCast, ↓wA, wB, resOf, Option.map_some, Option.map_none, List.map_cons, List.map_nil, List.nil_append, List.append_nil, List.cons_append, Nat.reduceBEq, List.getElem?_cons_zero, List.getElem?_cons_succ, List.getElem?_nil, Option.getD_some, Option.getD_none, cond_false, cond_true, and_true, true_and, Nat.zero_add, Nat.mul_one, Int.reduceBEq, Int.reduceBNe, Int.reduceLT, Int.reduceLE, Int.reduceAdd, Int.reduceSub, Int.reduceMul, decide_true, decide_false, Bool.not_true, Bool.not_false, beq_self_eq_true, bne_self_eq_false, and_self, List.isEmpty_nil, List.isEmpty_cons, Bool.true_or, Bool.false_or, List.set_cons_zero, List.set_cons_succ, List.length_cons, List.length_nil, Option.bind_some, List.all_cons, List.all_nil, Bool.or_true, Bool.true_and, Bool.and_true, Int.reduceToNat]
      refine ⟨_, rfl, ?_, g2⟩
      rw [hw, List.drop_of_length_le (by omega)]
      rfl
end Go.Proofs.Ytpclkcamfainiaa
