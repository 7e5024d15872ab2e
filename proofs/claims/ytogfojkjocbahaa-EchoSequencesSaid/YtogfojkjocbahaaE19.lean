/- Golomb's sequence. -/
import Derived.Test.YtogfojkjocbahaaE15
import Derived.Test.YtogfojkjocbahaaE9
set_option linter.unusedSimpArgs false
set_option linter.unusedVariables false
set_option maxHeartbeats 8000000
set_option maxRecDepth 100000
namespace Go.Proofs.Ytogfojkjocbahaa
open Go Go.Abs

def gs : Nat → List Nat
  | 0 => [0]
  | n + 1 => gs n ++ [if n = 0 then 1 else 1 + (gs n).getD (n + 1 - (gs n).getD ((gs n).getD n 0) 0) 0]

def G (n : Nat) : Nat := (gs n).getD n 0

theorem gs_len : ∀ n, (gs n).length = n + 1
  | 0 => rfl
  | n + 1 => by simp [gs, gs_len n]

theorem gs_get : ∀ n i, i ≤ n → (gs n).getD i 0 = G i
  | 0, i, h => by
    have : i = 0 := by omega
    subst this
    rfl
  | n + 1, i, h => by
    by_cases hi : i = n + 1
    · subst hi; rfl
    · rw [gs]
      have : i < (gs n).length := by rw [gs_len]; omega
      rw [List.getD_eq_getElem?_getD, List.getElem?_append_left this, ← List.getD_eq_getElem?_getD]
      exact gs_get n i (by omega)

theorem G_last (n : Nat) : G (n + 1) = if n = 0 then 1 else 1 + (gs n).getD (n + 1 - (gs n).getD ((gs n).getD n 0) 0) 0 := by
  rw [G, gs, List.getD_eq_getElem?_getD, List.getElem?_append_right (by rw [gs_len]; omega), gs_len]
  simp

theorem G_one : G 1 = 1 := by rw [G_last]; simp

theorem G_succ {n : Nat} (h0 : 1 ≤ n) (h1 : G n ≤ n) (h2 : 1 ≤ G (G n)) : G (n + 1) = 1 + G (n + 1 - G (G n)) := by
  rw [G_last, if_neg (by omega), gs_get n n (Nat.le_refl n), gs_get n (G n) h1, gs_get n _ (by omega)]

def GS : Nat → Nat
  | 0 => 0
  | v + 1 => GS v + G (v + 1)

theorem GS_mono {a b : Nat} (h : a ≤ b) : GS a ≤ GS b := by
  induction b with
  | zero => have : a = 0 := by omega
            subst this; exact Nat.le_refl _
  | succ b ih =>
    by_cases e : a = b + 1
    · subst e; exact Nat.le_refl _
    · have := ih (by omega)
      simp only [GS]
      omega

theorem GS_uniq {x y a : Nat} (h1 : GS (x - 1) < a) (h2 : a ≤ GS x) (h3 : GS (y - 1) < a) (h4 : a ≤ GS y) : x = y := by
  rcases Nat.lt_trichotomy x y with h | h | h
  · have := GS_mono (show x ≤ y - 1 by omega); omega
  · exact h
  · have := GS_mono (show y ≤ x - 1 by omega); omega

structure GP (k : Nat) : Prop where
  pos : 1 ≤ G k
  le : G k ≤ k
  lo : GS (G k - 1) < k
  hi : k ≤ GS (G k)
  up : 2 ≤ k → G (k - 1) ≤ G k ∧ G k ≤ G (k - 1) + 1

theorem GP_all : ∀ n k, 1 ≤ k → k ≤ n → GP k
  | 0, k, h1, h2 => by omega
  | n + 1, k, h1, h2 => by
    have ih := GP_all n
    by_cases hk : k ≤ n
    · exact ih k h1 hk
    · have : k = n + 1 := by omega
      subst this
      by_cases hn : n = 0
      · subst hn
        have g1 : G (0 + 1) = 1 := G_one
        refine ⟨by rw [g1]; omega, by rw [g1]; omega, ?_, ?_, fun h => by omega⟩
        · rw [show G (0 + 1) = 1 from g1]; simp [GS]
        · rw [show G (0 + 1) = 1 from g1]; simp [GS, g1]
      · obtain ⟨p1, p2, p3, p4, p5⟩ := ih n (by omega) (Nat.le_refl n)
        obtain ⟨q1, q2, q3, q4, q5⟩ := ih (G n) p1 p2
        have hs := G_succ (by omega) p2 q1
        obtain ⟨v, hv⟩ : ∃ v, v = G n := ⟨_, rfl⟩
        rw [← hv] at p1 p2 p3 p4 p5 q1 q2 q3 q4 q5 hs
        obtain ⟨r1, r2, r3, r4, r5⟩ := ih (n + 1 - G v) (by omega) (by omega)
        have hS : GS v = GS (v - 1) + G v := by
          obtain ⟨u, rfl⟩ : ∃ u, v = u + 1 := ⟨v - 1, by omega⟩
          rfl
        by_cases hc : n < GS v
        · have hv2 : 2 ≤ v := by
            rcases Nat.lt_or_ge v 2 with h | h
            · have : v = 1 := by omega
              subst this
              have : GS 1 = 1 := by simp [GS, G_one]
              omega
            · exact h
          have hS2 : GS (v - 1) = GS (v - 1 - 1) + G (v - 1) := by
            obtain ⟨u, rfl⟩ : ∃ u, v = u + 2 := ⟨v - 2, by omega⟩
            rfl
          have := q5 hv2
          have hu : G (n + 1 - G v) = v - 1 := GS_uniq r3 r4 (by omega) (by omega)
          have hg : G (n + 1) = v := by omega
          refine ⟨by omega, by omega, by rw [hg]; omega, by rw [hg]; omega, fun _ => ?_⟩
          rw [hg, Nat.add_sub_cancel, ← hv]; omega
        · have hu : G (n + 1 - G v) = v := GS_uniq r3 r4 (by omega) (by omega)
          have hg : G (n + 1) = v + 1 := by omega
          have hpos : 1 ≤ G (v + 1) := by
            by_cases h : v + 1 ≤ n
            · exact (ih (v + 1) (by omega) h).pos
            · have : v = n := by omega
              rw [this]; omega
          refine ⟨by omega, by omega, by rw [hg, Nat.add_sub_cancel]; omega, by rw [hg]; simp only [GS]; omega, fun _ => ?_⟩
          rw [hg, Nat.add_sub_cancel, ← hv]; omega

theorem GPk {k : Nat} (h : 1 ≤ k) : GP k := GP_all k k h (Nat.le_refl k)

theorem G_rec {n : Nat} (h : 1 ≤ n) : G (n + 1) = 1 + G (n + 1 - G (G n)) := G_succ h (GPk h).le (GPk (GPk h).pos).pos

theorem G_val {v k : Nat} (h1 : GS (v - 1) < k) (h2 : k ≤ GS v) : G k = v :=
  GS_uniq (GPk (show 1 ≤ k by omega)).lo (GPk (show 1 ≤ k by omega)).hi h1 h2

/-- The first terms. -/
def gl (n : Nat) : List Int := (List.range n).map fun i => (G (i + 1) : Int)

theorem gl_len (n : Nat) : (gl n).length = n := by simp [gl]
theorem gl_get {n i : Nat} (h : i < n) : (gl n).getD i 0 = (G (i + 1) : Int) := by
  simp [gl, List.getD_eq_getElem?_getD, h]
theorem gl_succ (n : Nat) : gl (n + 1) = gl n ++ [(G (n + 1) : Int)] := by simp [gl, List.range_succ]
theorem gl_take {m n : Nat} (h : m ≤ n) : (gl n).take m = gl m := by
  simp [gl, ← List.map_take, List.take_range, Nat.min_eq_left h]

def gz (n : Nat) : List Int := (gs n).map fun (x : Nat) => Int.ofNat x
theorem gz_len (n : Nat) : (gz n).length = n + 1 := by simp [gz, gs_len]
theorem gz_get {n i : Nat} (h : i ≤ n) : (gz n).getD i 0 = (G i : Int) := by
  have hl : i < (gs n).length := by rw [gs_len]; omega
  rw [← gs_get n i h, gz]
  simp [List.getD_eq_getElem?_getD, List.getElem?_eq_getElem hl]
theorem gz_succ (n : Nat) : gz (n + 1) = gz n ++ [(G (n + 1) : Int)] := by
  rw [G_last]
  simp [gz, gs]
theorem gz_drop (n : Nat) : (gz n).drop 1 = gl n := by
  refine List.ext_getElem? fun i => ?_
  by_cases h : i < n
  · have h1 := gz_get (n := n) (i := i + 1) (by omega)
    have h2 := gl_get (n := n) (i := i) h
    have l1 : i + 1 < (gz n).length := by rw [gz_len]; omega
    have l2 : i < (gl n).length := by rw [gl_len]; omega
    rw [List.getElem?_drop, show 1 + i = i + 1 by omega, List.getElem?_eq_getElem l1, List.getElem?_eq_getElem l2]
    simp only [List.getD_eq_getElem?_getD, List.getElem?_eq_getElem l1, List.getElem?_eq_getElem l2, Option.getD_some] at h1 h2
    rw [h1, h2]
  · rw [List.getElem?_eq_none (by simp [gz_len]; omega), List.getElem?_eq_none (by rw [gl_len]; omega)]

theorem CapE.ok {a : AV} (h : CapE a) (hne : a ≠ .esl) : CapOk a := by
  cases a <;> try exact trivial
  case sl id off len cap sz => cases cap <;> exact h
  case esl => exact absurd rfl hne

theorem f41 (n : Nat) (h : Hp) (hok : Hok h) (hn : n ≤ 100000) :
    ∃ v h', Evals Try.prog tab false (.func 41) [.int .i64 n] h (v, h') ∧ Ints h'.blks .i64 v (gl n) ∧ Grown h h' ∧ CapOk v := by
  refine evals_func (T := tab) (g := false) (Q := fun v h' => Ints h'.blks .i64 v (gl n) ∧ Grown h h' ∧ CapOk v) c41 rfl ?_
  simp only [sf41, initS_cons, initS_nil]
  have hm : ∀ h : Hp, sMks [.int .i64 0] 1 h (some 1) (some ((n : Int) + 1)) = some (.sl h.next 0 1 (some (n + 1)) 1, { next := h.next + 1, blks := (h.next, { cells := repl [.int .i64 0] (n + 1), ch := h.next, wr := true }) :: h.blks, loops := h.loops, base := h.base, esc := h.esc }) := fun h =>
    sMks_ok (z := [.int .i64 0]) (n := 1) (h := h) (l := 1) (c := n + 1) (by omega) (by omega)
  have G0 : Grown h { next := h.next + 1, blks := (h.next, { cells := ints .i64 (List.replicate (n + 1) 0), ch := h.next, wr := true }) :: h.blks, loops := h.loops, base := h.next, esc := false } := Grown.push
  have O0 : Own h.next ((h.next, { cells := ints .i64 (List.replicate (n + 1) 0), ch := h.next, wr := true }) :: h.blks) .i64 (.sl h.next 0 1 (some (n + 1)) 1) (gz 0) := Own.fresh (Nat.le_refl _) rfl (by simp [ints, gz, gs, List.replicate_succ]) (by simp [ints]) (by omega)
  simp (disch := first | (simp only [Nat.reduceBEq, Go.Abs.elem_hit, Go.Abs.elem_miss, Go.Abs.elem_nil]; done) | omega) only [hm, repl_ints, Go.Abs.wrap_i64, Go.Abs.idx?_pos, Int.toNat_natCast, ↓Go.Abs.wpG_none, ↓Go.Abs.wpG_true, ↓Go.Abs.wpG_false, ↓Go.Abs.wpOps_nil, ↓Go.Abs.wpOps_cons, ↓Go.Abs.sput_some, ↓Go.Abs.sput_none, ↓Go.Abs.sev_t, ↓Go.Abs.sev_c, ↓Go.Abs.look_nil, ↓Go.Abs.look_miss, ↓Go.Abs.lkF_miss, ↓Go.Abs.lkF_nil, ↓Go.Abs.setF_miss, ↓Go.Abs.commitS_nil, ↓Go.Abs.commitS_in, ↓Go.Abs.commitS_out, ↓Go.Abs.wp_skip, ↓Go.Abs.wp_ops, ↓Go.Abs.wp_seq, ↓Go.Abs.wp_cond, ↓Go.Abs.wp_block, ↓Go.Abs.wp_exit, ↓Go.Abs.wp_ret, ↓Go.Abs.onEx_normal, ↓Go.Abs.onEx_exit, ↓Go.Abs.onEx_ret, ↓Go.Abs.onBlk_normal, ↓Go.Abs.onBlk_ret, ↓Go.Abs.onBlk_miss, ↓Go.Abs.wpOp_call, ↓Go.Abs.wpOp_mov, ↓Go.Abs.wpOp_pick, ↓Go.Abs.wpOp_new, ↓Go.Abs.wpOp_bin, ↓Go.Abs.wpOp_not, ↓Go.Abs.wpOp_neg, ↓Go.Abs.wpOp_conv, ↓Go.Abs.wpOp_ext, ↓Go.Abs.wpOp_lenS, ↓Go.Abs.look_hit, ↓Go.Abs.lkF_hit, ↓Go.Abs.setF_hit, ↓Go.Abs.onBlk_hit, Go.Abs.andThen_some, Go.Abs.andThen_none, Go.Abs.setF_nil, Go.Abs.sNot_bool, Go.Abs.sNeg_int, Go.Abs.sConv_int, Go.Abs.sExt_tu, Go.Abs.sLen_sl, Go.Abs.sLen_nil, Go.Abs.sLen_esl, Go.Abs.sBin_lss, Go.Abs.sBin_leq, Go.Abs.sBin_gtr, Go.Abs.sBin_geq, Go.Abs.sBin_eql, Go.Abs.sBin_neq, Go.Abs.sBin_add, Go.Abs.sBin_sub, Go.Abs.sBin_mul, Go.Abs.sresVs_nil, Go.Abs.sresVs_tmp, Go.Abs.elem_hit, Go.Abs.elem_miss, Go.Abs.elem_nil, Go.Abs.initS_nil, Go.Abs.initS_cons, Option.map_some, Option.map_none, List.map_cons, List.map_nil, List.nil_append, List.append_nil, List.cons_append, Nat.reduceBEq, List.getElem?_cons_zero, List.getElem?_cons_succ, List.getElem?_nil, Option.getD_some, Option.getD_none, Go.Abs.ifThen_true, Go.Abs.ifThen_false, Go.Abs.resOf, Go.Abs.leave, cond_false, cond_true, and_true, true_and, ↓Go.Abs.wpOp_load, ↓Go.Abs.wpOp_ixS, Go.Abs.idx?_nat, Go.Abs.sLoad_ptr, ↓Go.Abs.wpOp_mks, ↓Go.Abs.wpOp_store, Go.Abs.int?_int, Go.Abs.sStore_int, Nat.zero_add, Nat.mul_one, ↓Go.Abs.wpOp_buildS, Go.Abs.sBS_2, Go.Abs.sLoad_cell, ↓Go.Abs.wpOp_app, ↓Go.Abs.wpOp_slice, ↓Go.Abs.wpOp_mn, ↓Go.Abs.wpOp_mx, Go.Abs.sMin_int, Go.Abs.sMax_int, Go.Abs.sBS_0, Go.Abs.sBS_1, Go.Abs.andT_some, ↓Go.Abs.wp_loopT, Go.Abs.sb_none, Go.Abs.sb_some, Int.reduceBEq, Int.reduceBNe, Int.reduceLT, Int.reduceLE, Int.reduceAdd, Int.reduceSub, Int.reduceMul, decide_true, decide_false, Bool.not_true, Bool.not_false, beq_self_eq_true, bne_self_eq_false, ↓Go.Abs.wpOp_slice3, and_self, Go.Abs.gT_t, Go.Abs.gT_f, Go.Abs.gT_u]
  refine wloop (fun mm ss => ∃ (m : Nat) (q : AV) (h1 : Hp) (u5 u11 u15 : AV), (mm = n - m) ∧ (m ≤ n ∧ Grown h h1 ∧ Own h.next h1.blks .i64 q (gz m) ∧ (m = 0 → q = .sl h.next 0 1 (some (n + 1)) 1)) ∧ ss = { fr := [(0, .int .i64 n), (2, .nilsl), (3, q), (4, .int .i64 (m + 1 : Nat)), (5, u5), (11, u11), (15, u15)], hp := h1 }) (n) ?_ ?_
  ·
    refine ⟨0, .sl h.next 0 1 (some (n + 1)) 1, { next := h.next + 1, blks := (h.next, { cells := ints .i64 (List.replicate (n + 1) 0), ch := h.next, wr := true }) :: h.blks, loops := h.loops, base := h.next, esc := false }, _, _, _, rfl, ⟨by omega, G0, O0, fun _ => rfl⟩, rfl⟩
  rintro nA sA ⟨m, q, h1, u5, u11, u15, hnA, ⟨hmn, hg, hO, hq0⟩, rfl⟩
  have hI := hO.ints
  simp (disch := first | (simp only [Nat.reduceBEq, Go.Abs.elem_hit, Go.Abs.elem_miss, Go.Abs.elem_nil]; done) | omega) only [Go.Abs.wrap_i64, Go.Abs.idx?_pos, Int.toNat_natCast, ↓Go.Abs.wpG_none, ↓Go.Abs.wpG_true, ↓Go.Abs.wpG_false, ↓Go.Abs.wpOps_nil, ↓Go.Abs.wpOps_cons, ↓Go.Abs.sput_some, ↓Go.Abs.sput_none, ↓Go.Abs.sev_t, ↓Go.Abs.sev_c, ↓Go.Abs.look_nil, ↓Go.Abs.look_miss, ↓Go.Abs.lkF_miss, ↓Go.Abs.lkF_nil, ↓Go.Abs.setF_miss, ↓Go.Abs.commitS_nil, ↓Go.Abs.commitS_in, ↓Go.Abs.commitS_out, ↓Go.Abs.wp_skip, ↓Go.Abs.wp_ops, ↓Go.Abs.wp_seq, ↓Go.Abs.wp_cond, ↓Go.Abs.wp_block, ↓Go.Abs.wp_exit, ↓Go.Abs.wp_ret, ↓Go.Abs.onEx_normal, ↓Go.Abs.onEx_exit, ↓Go.Abs.onEx_ret, ↓Go.Abs.onBlk_normal, ↓Go.Abs.onBlk_ret, ↓Go.Abs.onBlk_miss, ↓Go.Abs.wpOp_call, ↓Go.Abs.wpOp_mov, ↓Go.Abs.wpOp_pick, ↓Go.Abs.wpOp_new, ↓Go.Abs.wpOp_bin, ↓Go.Abs.wpOp_not, ↓Go.Abs.wpOp_neg, ↓Go.Abs.wpOp_conv, ↓Go.Abs.wpOp_ext, ↓Go.Abs.wpOp_lenS, ↓Go.Abs.look_hit, ↓Go.Abs.lkF_hit, ↓Go.Abs.setF_hit, ↓Go.Abs.onBlk_hit, Go.Abs.andThen_some, Go.Abs.andThen_none, Go.Abs.setF_nil, Go.Abs.sNot_bool, Go.Abs.sNeg_int, Go.Abs.sConv_int, Go.Abs.sExt_tu, Go.Abs.sLen_sl, Go.Abs.sLen_nil, Go.Abs.sLen_esl, Go.Abs.sBin_lss, Go.Abs.sBin_leq, Go.Abs.sBin_gtr, Go.Abs.sBin_geq, Go.Abs.sBin_eql, Go.Abs.sBin_neq, Go.Abs.sBin_add, Go.Abs.sBin_sub, Go.Abs.sBin_mul, Go.Abs.sresVs_nil, Go.Abs.sresVs_tmp, Go.Abs.elem_hit, Go.Abs.elem_miss, Go.Abs.elem_nil, Go.Abs.initS_nil, Go.Abs.initS_cons, Option.map_some, Option.map_none, List.map_cons, List.map_nil, List.nil_append, List.append_nil, List.cons_append, Nat.reduceBEq, List.getElem?_cons_zero, List.getElem?_cons_succ, List.getElem?_nil, Option.getD_some, Option.getD_none, Go.Abs.ifThen_true, Go.Abs.ifThen_false, Go.Abs.resOf, Go.Abs.leave, cond_false, cond_true, and_true, true_and, ↓Go.Abs.wpOp_load, ↓Go.Abs.wpOp_ixS, Go.Abs.idx?_nat, Go.Abs.sLoad_ptr, ↓Go.Abs.wpOp_mks, ↓Go.Abs.wpOp_store, Go.Abs.int?_int, Go.Abs.sStore_int, Nat.zero_add, Nat.mul_one, ↓Go.Abs.wpOp_buildS, Go.Abs.sBS_2, Go.Abs.sLoad_cell, ↓Go.Abs.wpOp_app, ↓Go.Abs.wpOp_slice, ↓Go.Abs.wpOp_mn, ↓Go.Abs.wpOp_mx, Go.Abs.sMin_int, Go.Abs.sMax_int, Go.Abs.sBS_0, Go.Abs.sBS_1, Go.Abs.andT_some, ↓Go.Abs.wp_loopT, Go.Abs.sb_none, Go.Abs.sb_some, Int.reduceBEq, Int.reduceBNe, Int.reduceLT, Int.reduceLE, Int.reduceAdd, Int.reduceSub, Int.reduceMul, decide_true, decide_false, Bool.not_true, Bool.not_false, beq_self_eq_true, bne_self_eq_false, ↓Go.Abs.wpOp_slice3, and_self, Go.Abs.gT_t, Go.Abs.gT_f, Go.Abs.gT_u]
  refine Go.Abs.ifThen_intro (fun e1 => ?_) (fun e1 => ?_)
  · have e1q : ((m + 1 : Nat) : Int) ≤ n := by simpa only [decide_eq_true_eq] using e1
    obtain ⟨s2, h2, x1, x2, x3, x4⟩ := own_app1 (v := (G (m + 1) : Int)) hok hg hO (by rw [gz_len]; omega)
    by_cases h0 : m = 0
    · subst h0
      have e2 : decide ((1 : Int) < ((0 + 1 : Nat) : Int)) = false := by decide
      have e3 : ((G (0 + 1) : Nat) : Int) = 1 := by rw [show G (0 + 1) = 1 from G_one]; rfl
      rw [e3] at x1 x2
      simp (disch := first | (simp only [Nat.reduceBEq, Go.Abs.elem_hit, Go.Abs.elem_miss, Go.Abs.elem_nil]; done) | omega) only [e1, e2, x1, Go.Abs.wrap_i64, Go.Abs.idx?_pos, Int.toNat_natCast, ↓Go.Abs.wpG_none, ↓Go.Abs.wpG_true, ↓Go.Abs.wpG_false, ↓Go.Abs.wpOps_nil, ↓Go.Abs.wpOps_cons, ↓Go.Abs.sput_some, ↓Go.Abs.sput_none, ↓Go.Abs.sev_t, ↓Go.Abs.sev_c, ↓Go.Abs.look_nil, ↓Go.Abs.look_miss, ↓Go.Abs.lkF_miss, ↓Go.Abs.lkF_nil, ↓Go.Abs.setF_miss, ↓Go.Abs.commitS_nil, ↓Go.Abs.commitS_in, ↓Go.Abs.commitS_out, ↓Go.Abs.wp_skip, ↓Go.Abs.wp_ops, ↓Go.Abs.wp_seq, ↓Go.Abs.wp_cond, ↓Go.Abs.wp_block, ↓Go.Abs.wp_exit, ↓Go.Abs.wp_ret, ↓Go.Abs.onEx_normal, ↓Go.Abs.onEx_exit, ↓Go.Abs.onEx_ret, ↓Go.Abs.onBlk_normal, ↓Go.Abs.onBlk_ret, ↓Go.Abs.onBlk_miss, ↓Go.Abs.wpOp_call, ↓Go.Abs.wpOp_mov, ↓Go.Abs.wpOp_pick, ↓Go.Abs.wpOp_new, ↓Go.Abs.wpOp_bin, ↓Go.Abs.wpOp_not, ↓Go.Abs.wpOp_neg, ↓Go.Abs.wpOp_conv, ↓Go.Abs.wpOp_ext, ↓Go.Abs.wpOp_lenS, ↓Go.Abs.look_hit, ↓Go.Abs.lkF_hit, ↓Go.Abs.setF_hit, ↓Go.Abs.onBlk_hit, Go.Abs.andThen_some, Go.Abs.andThen_none, Go.Abs.setF_nil, Go.Abs.sNot_bool, Go.Abs.sNeg_int, Go.Abs.sConv_int, Go.Abs.sExt_tu, Go.Abs.sLen_sl, Go.Abs.sLen_nil, Go.Abs.sLen_esl, Go.Abs.sBin_lss, Go.Abs.sBin_leq, Go.Abs.sBin_gtr, Go.Abs.sBin_geq, Go.Abs.sBin_eql, Go.Abs.sBin_neq, Go.Abs.sBin_add, Go.Abs.sBin_sub, Go.Abs.sBin_mul, Go.Abs.sresVs_nil, Go.Abs.sresVs_tmp, Go.Abs.elem_hit, Go.Abs.elem_miss, Go.Abs.elem_nil, Go.Abs.initS_nil, Go.Abs.initS_cons, Option.map_some, Option.map_none, List.map_cons, List.map_nil, List.nil_append, List.append_nil, List.cons_append, Nat.reduceBEq, List.getElem?_cons_zero, List.getElem?_cons_succ, List.getElem?_nil, Option.getD_some, Option.getD_none, Go.Abs.ifThen_true, Go.Abs.ifThen_false, Go.Abs.resOf, Go.Abs.leave, cond_false, cond_true, and_true, true_and, ↓Go.Abs.wpOp_load, ↓Go.Abs.wpOp_ixS, Go.Abs.idx?_nat, Go.Abs.sLoad_ptr, ↓Go.Abs.wpOp_mks, ↓Go.Abs.wpOp_store, Go.Abs.int?_int, Go.Abs.sStore_int, Nat.zero_add, Nat.mul_one, ↓Go.Abs.wpOp_buildS, Go.Abs.sBS_2, Go.Abs.sLoad_cell, ↓Go.Abs.wpOp_app, ↓Go.Abs.wpOp_slice, ↓Go.Abs.wpOp_mn, ↓Go.Abs.wpOp_mx, Go.Abs.sMin_int, Go.Abs.sMax_int, Go.Abs.sBS_0, Go.Abs.sBS_1, Go.Abs.andT_some, ↓Go.Abs.wp_loopT, Go.Abs.sb_none, Go.Abs.sb_some, Int.reduceBEq, Int.reduceBNe, Int.reduceLT, Int.reduceLE, Int.reduceAdd, Int.reduceSub, Int.reduceMul, decide_true, decide_false, Bool.not_true, Bool.not_false, beq_self_eq_true, bne_self_eq_false, ↓Go.Abs.wpOp_slice3, and_self, Go.Abs.gT_t, Go.Abs.gT_f, Go.Abs.gT_u]
      refine ⟨_, ?_, 0 + 1, s2, h2, _, _, _, rfl, ?_, rfl⟩
      · omega
      refine ⟨by omega, x3, ?_, fun h => by omega⟩
      rw [gz_succ, e3]
      exact x2
    · have e2 : decide ((1 : Int) < ((m + 1 : Nat) : Int)) = true := by simp only [decide_eq_true_eq]; omega
      have P := GPk (show 1 ≤ m by omega)
      have P2 := GPk P.pos
      have hl := gz_len m
      have P1 := P.pos
      have P3 := P.le
      have P4 := P2.pos
      have P5 := P2.le
      have t1 : (((m + 1 : Nat) : Int) - 1).toNat = m := by omega
      have t2 : (((m + 1 : Nat) : Int) - (G (G m) : Nat)).toNat = m + 1 - G (G m) := by omega
      have g1 := gz_get (n := m) (i := m) (Nat.le_refl m)
      have g2 := gz_get (n := m) (i := G m) P3
      have g3 := gz_get (n := m) (i := m + 1 - G (G m)) (by omega)
      have P6 := GPk (show 1 ≤ m + 1 - G (G m) by omega)
      have P7 := P6.le
      have gr : (1 : Int) + (G (m + 1 - G (G m)) : Nat) = (G (m + 1) : Nat) := by rw [G_rec (by omega)]; omega
      simp (disch := first | (simp only [Nat.reduceBEq, Go.Abs.elem_hit, Go.Abs.elem_miss, Go.Abs.elem_nil]; done) | omega) only [e1, e2, t1, hI.ix, hI.ld, g1, g2, t2, g3, gr, x1, Go.Abs.wrap_i64, Go.Abs.idx?_pos, Int.toNat_natCast, ↓Go.Abs.wpG_none, ↓Go.Abs.wpG_true, ↓Go.Abs.wpG_false, ↓Go.Abs.wpOps_nil, ↓Go.Abs.wpOps_cons, ↓Go.Abs.sput_some, ↓Go.Abs.sput_none, ↓Go.Abs.sev_t, ↓Go.Abs.sev_c, ↓Go.Abs.look_nil, ↓Go.Abs.look_miss, ↓Go.Abs.lkF_miss, ↓Go.Abs.lkF_nil, ↓Go.Abs.setF_miss, ↓Go.Abs.commitS_nil, ↓Go.Abs.commitS_in, ↓Go.Abs.commitS_out, ↓Go.Abs.wp_skip, ↓Go.Abs.wp_ops, ↓Go.Abs.wp_seq, ↓Go.Abs.wp_cond, ↓Go.Abs.wp_block, ↓Go.Abs.wp_exit, ↓Go.Abs.wp_ret, ↓Go.Abs.onEx_normal, ↓Go.Abs.onEx_exit, ↓Go.Abs.onEx_ret, ↓Go.Abs.onBlk_normal, ↓Go.Abs.onBlk_ret, ↓Go.Abs.onBlk_miss, ↓Go.Abs.wpOp_call, ↓Go.Abs.wpOp_mov, ↓Go.Abs.wpOp_pick, ↓Go.Abs.wpOp_new, ↓Go.Abs.wpOp_bin, ↓Go.Abs.wpOp_not, ↓Go.Abs.wpOp_neg, ↓Go.Abs.wpOp_conv, ↓Go.Abs.wpOp_ext, ↓Go.Abs.wpOp_lenS, ↓Go.Abs.look_hit, ↓Go.Abs.lkF_hit, ↓Go.Abs.setF_hit, ↓Go.Abs.onBlk_hit, Go.Abs.andThen_some, Go.Abs.andThen_none, Go.Abs.setF_nil, Go.Abs.sNot_bool, Go.Abs.sNeg_int, Go.Abs.sConv_int, Go.Abs.sExt_tu, Go.Abs.sLen_sl, Go.Abs.sLen_nil, Go.Abs.sLen_esl, Go.Abs.sBin_lss, Go.Abs.sBin_leq, Go.Abs.sBin_gtr, Go.Abs.sBin_geq, Go.Abs.sBin_eql, Go.Abs.sBin_neq, Go.Abs.sBin_add, Go.Abs.sBin_sub, Go.Abs.sBin_mul, Go.Abs.sresVs_nil, Go.Abs.sresVs_tmp, Go.Abs.elem_hit, Go.Abs.elem_miss, Go.Abs.elem_nil, Go.Abs.initS_nil, Go.Abs.initS_cons, Option.map_some, Option.map_none, List.map_cons, List.map_nil, List.nil_append, List.append_nil, List.cons_append, Nat.reduceBEq, List.getElem?_cons_zero, List.getElem?_cons_succ, List.getElem?_nil, Option.getD_some, Option.getD_none, Go.Abs.ifThen_true, Go.Abs.ifThen_false, Go.Abs.resOf, Go.Abs.leave, cond_false, cond_true, and_true, true_and, ↓Go.Abs.wpOp_load, ↓Go.Abs.wpOp_ixS, Go.Abs.idx?_nat, Go.Abs.sLoad_ptr, ↓Go.Abs.wpOp_mks, ↓Go.Abs.wpOp_store, Go.Abs.int?_int, Go.Abs.sStore_int, Nat.zero_add, Nat.mul_one, ↓Go.Abs.wpOp_buildS, Go.Abs.sBS_2, Go.Abs.sLoad_cell, ↓Go.Abs.wpOp_app, ↓Go.Abs.wpOp_slice, ↓Go.Abs.wpOp_mn, ↓Go.Abs.wpOp_mx, Go.Abs.sMin_int, Go.Abs.sMax_int, Go.Abs.sBS_0, Go.Abs.sBS_1, Go.Abs.andT_some, ↓Go.Abs.wp_loopT, Go.Abs.sb_none, Go.Abs.sb_some, Int.reduceBEq, Int.reduceBNe, Int.reduceLT, Int.reduceLE, Int.reduceAdd, Int.reduceSub, Int.reduceMul, decide_true, decide_false, Bool.not_true, Bool.not_false, beq_self_eq_true, bne_self_eq_false, ↓Go.Abs.wpOp_slice3, and_self, Go.Abs.gT_t, Go.Abs.gT_f, Go.Abs.gT_u]
      refine ⟨_, ?_, m + 1, s2, h2, _, _, _, rfl, ?_, rfl⟩
      · omega
      refine ⟨by omega, x3, ?_, fun h => by omega⟩
      rw [gz_succ]
      exact x2
  · have hmm : m = n := by
      have : ¬ ((m + 1 : Nat) : Int) ≤ n := by simpa only [decide_eq_false_iff_not] using e1
      omega
    subst hmm
    obtain ⟨v, d1, d2, d3⟩ := ints_drop hI (own_cap hO).e (by rw [gz_len]; omega)
    simp (disch := first | (simp only [Nat.reduceBEq, Go.Abs.elem_hit, Go.Abs.elem_miss, Go.Abs.elem_nil]; done) | omega) only [e1, show idx? (.int .i64 1) = some 1 from rfl, d1, Go.Abs.wrap_i64, Go.Abs.idx?_pos, Int.toNat_natCast, ↓Go.Abs.wpG_none, ↓Go.Abs.wpG_true, ↓Go.Abs.wpG_false, ↓Go.Abs.wpOps_nil, ↓Go.Abs.wpOps_cons, ↓Go.Abs.sput_some, ↓Go.Abs.sput_none, ↓Go.Abs.sev_t, ↓Go.Abs.sev_c, ↓Go.Abs.look_nil, ↓Go.Abs.look_miss, ↓Go.Abs.lkF_miss, ↓Go.Abs.lkF_nil, ↓Go.Abs.setF_miss, ↓Go.Abs.commitS_nil, ↓Go.Abs.commitS_in, ↓Go.Abs.commitS_out, ↓Go.Abs.wp_skip, ↓Go.Abs.wp_ops, ↓Go.Abs.wp_seq, ↓Go.Abs.wp_cond, ↓Go.Abs.wp_block, ↓Go.Abs.wp_exit, ↓Go.Abs.wp_ret, ↓Go.Abs.onEx_normal, ↓Go.Abs.onEx_exit, ↓Go.Abs.onEx_ret, ↓Go.Abs.onBlk_normal, ↓Go.Abs.onBlk_ret, ↓Go.Abs.onBlk_miss, ↓Go.Abs.wpOp_call, ↓Go.Abs.wpOp_mov, ↓Go.Abs.wpOp_pick, ↓Go.Abs.wpOp_new, ↓Go.Abs.wpOp_bin, ↓Go.Abs.wpOp_not, ↓Go.Abs.wpOp_neg, ↓Go.Abs.wpOp_conv, ↓Go.Abs.wpOp_ext, ↓Go.Abs.wpOp_lenS, ↓Go.Abs.look_hit, ↓Go.Abs.lkF_hit, ↓Go.Abs.setF_hit, ↓Go.Abs.onBlk_hit, Go.Abs.andThen_some, Go.Abs.andThen_none, Go.Abs.setF_nil, Go.Abs.sNot_bool, Go.Abs.sNeg_int, Go.Abs.sConv_int, Go.Abs.sExt_tu, Go.Abs.sLen_sl, Go.Abs.sLen_nil, Go.Abs.sLen_esl, Go.Abs.sBin_lss, Go.Abs.sBin_leq, Go.Abs.sBin_gtr, Go.Abs.sBin_geq, Go.Abs.sBin_eql, Go.Abs.sBin_neq, Go.Abs.sBin_add, Go.Abs.sBin_sub, Go.Abs.sBin_mul, Go.Abs.sresVs_nil, Go.Abs.sresVs_tmp, Go.Abs.elem_hit, Go.Abs.elem_miss, Go.Abs.elem_nil, Go.Abs.initS_nil, Go.Abs.initS_cons, Option.map_some, Option.map_none, List.map_cons, List.map_nil, List.nil_append, List.append_nil, List.cons_append, Nat.reduceBEq, List.getElem?_cons_zero, List.getElem?_cons_succ, List.getElem?_nil, Option.getD_some, Option.getD_none, Go.Abs.ifThen_true, Go.Abs.ifThen_false, Go.Abs.resOf, Go.Abs.leave, cond_false, cond_true, and_true, true_and, ↓Go.Abs.wpOp_load, ↓Go.Abs.wpOp_ixS, Go.Abs.idx?_nat, Go.Abs.sLoad_ptr, ↓Go.Abs.wpOp_mks, ↓Go.Abs.wpOp_store, Go.Abs.int?_int, Go.Abs.sStore_int, Nat.zero_add, Nat.mul_one, ↓Go.Abs.wpOp_buildS, Go.Abs.sBS_2, Go.Abs.sLoad_cell, ↓Go.Abs.wpOp_app, ↓Go.Abs.wpOp_slice, ↓Go.Abs.wpOp_mn, ↓Go.Abs.wpOp_mx, Go.Abs.sMin_int, Go.Abs.sMax_int, Go.Abs.sBS_0, Go.Abs.sBS_1, Go.Abs.andT_some, ↓Go.Abs.wp_loopT, Go.Abs.sb_none, Go.Abs.sb_some, Int.reduceBEq, Int.reduceBNe, Int.reduceLT, Int.reduceLE, Int.reduceAdd, Int.reduceSub, Int.reduceMul, decide_true, decide_false, Bool.not_true, Bool.not_false, beq_self_eq_true, bne_self_eq_false, ↓Go.Abs.wpOp_slice3, and_self, Go.Abs.gT_t, Go.Abs.gT_f, Go.Abs.gT_u]
    refine ⟨_, rfl, ?_, hg.fields rfl rfl rfl rfl rfl rfl, d3.ok ?_⟩
    · rw [← gz_drop]
      exact d2
    · rintro rfl
      rcases Nat.eq_zero_or_pos m with h0 | h0
      · subst h0
        have := d1 h1
        rw [hq0 rfl] at this
        have e : sSl 1 h1 (some (some 1)) none (.sl h.next 0 1 (some (0 + 1)) 1) = some (.sl h.next 0 0 (some 0) 1, h1) := rfl
        rw [e] at this
        cases this
      · rw [gz_drop] at d2
        have hl := gl_len m
        rcases d2 with ⟨c, _⟩ | ⟨_, c⟩ | ⟨_, _, _, c, _⟩
        · cases c
        · rw [c] at hl; simp at hl; omega
        · cases c

theorem f20_ok (n : Nat) (h : Hp) (hok : Hok h) (hn : n ≤ 100000) :
    ∃ v h', Evals Try.prog tab false (.func 20) [.int .i64 n] h (.tu [v, .int .i64 0], h') ∧ Ints h'.blks .i64 v (gl n) ∧ Grown h h' ∧ CapOk v := by
  have := evals_func (T := tab) (g := false) (Q := fun r h' => ∃ v, r = .tu [v, .int .i64 0] ∧ Ints h'.blks .i64 v (gl n) ∧ Grown h h' ∧ CapOk v) c20 (args := [.int .i64 n]) (h := h) rfl (by
    simp only [sf20, initS_cons, initS_nil]
    obtain ⟨v, h', ev, h1, hg, hc⟩ := f41 n { h with base := h.next, esc := false } hok hn
    have hg' : Grown h h' := hg.fields rfl rfl rfl rfl rfl rfl
    have e2 : (0 : Int) ≤ n ∧ (n : Int) ≤ 100000 := by omega
    simp (disch := first | (simp only [Nat.reduceBEq, Go.Abs.elem_hit, Go.Abs.elem_miss, Go.Abs.elem_nil]; done) | omega) only [callT (f39 _ _ _ _), e2, callT ev, Go.Abs.wrap_i64, Go.Abs.idx?_pos, Int.toNat_natCast, ↓Go.Abs.wpG_none, ↓Go.Abs.wpG_true, ↓Go.Abs.wpG_false, ↓Go.Abs.wpOps_nil, ↓Go.Abs.wpOps_cons, ↓Go.Abs.sput_some, ↓Go.Abs.sput_none, ↓Go.Abs.sev_t, ↓Go.Abs.sev_c, ↓Go.Abs.look_nil, ↓Go.Abs.look_miss, ↓Go.Abs.lkF_miss, ↓Go.Abs.lkF_nil, ↓Go.Abs.setF_miss, ↓Go.Abs.commitS_nil, ↓Go.Abs.commitS_in, ↓Go.Abs.commitS_out, ↓Go.Abs.wp_skip, ↓Go.Abs.wp_ops, ↓Go.Abs.wp_seq, ↓Go.Abs.wp_cond, ↓Go.Abs.wp_block, ↓Go.Abs.wp_exit, ↓Go.Abs.wp_ret, ↓Go.Abs.onEx_normal, ↓Go.Abs.onEx_exit, ↓Go.Abs.onEx_ret, ↓Go.Abs.onBlk_normal, ↓Go.Abs.onBlk_ret, ↓Go.Abs.onBlk_miss, ↓Go.Abs.wpOp_call, ↓Go.Abs.wpOp_mov, ↓Go.Abs.wpOp_pick, ↓Go.Abs.wpOp_new, ↓Go.Abs.wpOp_bin, ↓Go.Abs.wpOp_not, ↓Go.Abs.wpOp_neg, ↓Go.Abs.wpOp_conv, ↓Go.Abs.wpOp_ext, ↓Go.Abs.wpOp_lenS, ↓Go.Abs.look_hit, ↓Go.Abs.lkF_hit, ↓Go.Abs.setF_hit, ↓Go.Abs.onBlk_hit, Go.Abs.andThen_some, Go.Abs.andThen_none, Go.Abs.setF_nil, Go.Abs.sNot_bool, Go.Abs.sNeg_int, Go.Abs.sConv_int, Go.Abs.sExt_tu, Go.Abs.sLen_sl, Go.Abs.sLen_nil, Go.Abs.sLen_esl, Go.Abs.sBin_lss, Go.Abs.sBin_leq, Go.Abs.sBin_gtr, Go.Abs.sBin_geq, Go.Abs.sBin_eql, Go.Abs.sBin_neq, Go.Abs.sBin_add, Go.Abs.sBin_sub, Go.Abs.sBin_mul, Go.Abs.sresVs_nil, Go.Abs.sresVs_tmp, Go.Abs.elem_hit, Go.Abs.elem_miss, Go.Abs.elem_nil, Go.Abs.initS_nil, Go.Abs.initS_cons, Option.map_some, Option.map_none, List.map_cons, List.map_nil, List.nil_append, List.append_nil, List.cons_append, Nat.reduceBEq, List.getElem?_cons_zero, List.getElem?_cons_succ, List.getElem?_nil, Option.getD_some, Option.getD_none, Go.Abs.ifThen_true, Go.Abs.ifThen_false, Go.Abs.resOf, Go.Abs.leave, cond_false, cond_true, and_true, true_and, ↓Go.Abs.wpOp_load, ↓Go.Abs.wpOp_ixS, Go.Abs.idx?_nat, Go.Abs.sLoad_ptr, ↓Go.Abs.wpOp_mks, ↓Go.Abs.wpOp_store, Go.Abs.int?_int, Go.Abs.sStore_int, Nat.zero_add, Nat.mul_one, ↓Go.Abs.wpOp_buildS, Go.Abs.sBS_2, Go.Abs.sLoad_cell, ↓Go.Abs.wpOp_app, ↓Go.Abs.wpOp_slice, ↓Go.Abs.wpOp_mn, ↓Go.Abs.wpOp_mx, Go.Abs.sMin_int, Go.Abs.sMax_int, Go.Abs.sBS_0, Go.Abs.sBS_1, Go.Abs.andT_some, ↓Go.Abs.wp_loopT, Go.Abs.sb_none, Go.Abs.sb_some, Int.reduceBEq, Int.reduceBNe, Int.reduceLT, Int.reduceLE, Int.reduceAdd, Int.reduceSub, Int.reduceMul, decide_true, decide_false, Bool.not_true, Bool.not_false, beq_self_eq_true, bne_self_eq_false, ↓Go.Abs.wpOp_slice3, and_self, Go.Abs.gT_t, Go.Abs.gT_f, Go.Abs.gT_u]
    exact ⟨_, rfl, v, rfl, h1, hg'.fields rfl rfl rfl rfl rfl rfl, hc⟩)
  obtain ⟨r, h', ev, v, rfl, h1, hg, hc⟩ := this
  exact ⟨v, h', ev, h1, hg, hc⟩

end Go.Proofs.Ytogfojkjocbahaa
