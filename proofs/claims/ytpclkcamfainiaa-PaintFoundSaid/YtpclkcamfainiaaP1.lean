/- Cliques. -/
import Derived.Test.YtpclkcamfainiaaR1
import Derived.Test.YtpclkcamfainiaaSX
set_option linter.unusedSimpArgs false
set_option linter.unusedVariables false
set_option maxHeartbeats 2000000
namespace Go.Pt
open Go Go.Abs
/-- The number of a pair. -/
def pix (n a b : Nat) : Nat := a * (2 * n - a - 1) / 2 + b - a - 1
theorem pix_int {n a b : Nat} (h1 : a < b) (h2 : b < n) (hn : n ≤ 8) : (2 * (n : Int) - a - 1) = ((2 * n - a - 1 : Nat) : Int) ∧ (a : Int) * (2 * (n : Int) - a - 1) = ((a * (2 * n - a - 1) : Nat) : Int) ∧ a * (2 * n - a - 1) ≤ 200 ∧ ((a : Int) * (2 * (n : Int) - a - 1)) / 2 + b - a - 1 = (pix n a b : Int) := by
  have e1 : (2 * (n : Int) - a - 1) = ((2 * n - a - 1 : Nat) : Int) := by omega
  have e2 : (a : Int) * (2 * (n : Int) - a - 1) = ((a * (2 * n - a - 1) : Nat) : Int) := by rw [e1]; rfl
  refine ⟨e1, e2, ?_, ?_⟩
  · exact Nat.le_trans (Nat.mul_le_mul (show a ≤ 8 by omega) (show 2 * n - a - 1 ≤ 16 by omega)) (by omega)
  · rw [e2]
    simp only [pix]
    omega
def nz (l : List Nat) : List Int := l.map fun (x : Nat) => (x : Int)
theorem nz_len {l : List Nat} : (nz l).length = l.length := by simp [nz]
theorem nz_app {l : List Nat} {v : Nat} : nz (l ++ [v]) = nz l ++ [(v : Int)] := by simp [nz]
theorem nz_get {l : List Nat} {i : Nat} : (nz l).getD i 0 = ((l.getD i 0 : Nat) : Int) := by
  simp only [nz, List.getD_eq_getElem?_getD, List.getElem?_map]
  cases l[i]? <;> rfl
/-- The colour of a pair. -/
def col (n : Nat) (zs : List Int) (v w : Nat) : Int := zs.getD (pix n (min v w) (max v w)) 0
def joins (n : Nat) (zs : List Int) (c : Int) (cl : List Nat) (v : Nat) : Bool := cl.all fun w => col n zs v w == c
/-- The first clique that begins with one, on from a vertex. -/
def grL (J : List Nat → Nat → Bool) (k : Nat) : Nat → List Nat → Nat → Option (List Nat)
  | 0, _, _ => none
  | f + 1, cl, v => if J cl v = true then
      (match (if cl.length + 1 = k then some (cl ++ [v]) else grL J k f (cl ++ [v]) (v + 1)) with
      | some r => some r
      | none => grL J k f cl (v + 1)) else grL J k f cl (v + 1)
def gr (J : List Nat → Nat → Bool) (k f : Nat) (cl : List Nat) (v : Nat) : Option (List Nat) := if cl.length = k then some cl else grL J k f cl v
theorem grL_s {J : List Nat → Nat → Bool} {k f v : Nat} {cl : List Nat} : grL J k (f + 1) cl v = if J cl v = true then (match gr J k f (cl ++ [v]) (v + 1) with | some r => some r | none => grL J k f cl (v + 1)) else grL J k f cl (v + 1) := by
  rw [grL]
  by_cases h : J cl v = true
  · rw [if_pos h, if_pos h, gr, List.length_append, List.length_singleton]
  · rw [if_neg h, if_neg h]
end Go.Pt
namespace Go.Abs
theorem Box.new {id c : Nat} {w : Bool} {cs : List AV} {bs : List (Nat × Blk)} : Box ((id, { cells := cs, ch := c, wr := w }) :: bs) id cs := ⟨c, w, lkB_top⟩
theorem Own.ne {c : Nat} {bs : List (Nat × Blk)} {k : IntKind} {s : AV} {zs : List Int} (O : Own c bs k s zs) (h : zs ≠ []) : s ≠ .nilsl := by
  obtain ⟨_, ⟨h0, rfl⟩ | ⟨id, b, cap, rfl, _⟩⟩ := O
  · exact absurd (List.length_eq_zero_iff.1 h0) h
  · intro e; cases e
theorem Own.eql {c : Nat} {bs : List (Nat × Blk)} {k : IntKind} {s : AV} {zs : List Int} (O : Own c bs k s zs) (h : s ≠ .nilsl) : sBin .eql .slice s .nilsl = some (.bool false) ∧ sBin .neq .slice s .nilsl = some (.bool true) := by
  obtain ⟨_, ⟨_, rfl⟩ | ⟨id, b, cap, rfl, _⟩⟩ := O
  · exact absurd rfl h
  · exact ⟨rfl, rfl⟩
end Go.Abs
namespace Go.Proofs.Ytpclkcamfainiaa
open Go Go.Abs Go.Pt

theorem f61 (a : AV) (zs : List Int) (h : Hp) (hk : Hok h) (ha : Ints h.blks .i64 a zs) (hz : zs.length ≤ 1000) (h0 : 0 < zs.length) :
    ∃ v h', Evals Try.prog tab false (.func 61) [a] h (v, h') ∧ Grown h h' ∧ (Own h.next h'.blks .i64 v zs ∧ v ≠ .nilsl) := by
  refine evals_q c61 (fun v h' => Own h.next h'.blks .i64 v zs ∧ v ≠ .nilsl) rfl hk ?_ (fun v h1 g q => ⟨fun hr => ⟨q.1.leave.1 hr, q.2⟩, fun hr => ⟨q.1.leave.2 hr, q.2⟩⟩)
  simp only [sf61, initS_cons, initS_nil]
  have hne : sBin .eql .slice a .nilsl = some (.bool false) := by
    obtain ⟨hl, ⟨h1, _⟩ | ⟨id, off, cap, rfl, _⟩⟩ := ha
    · omega
    · rfl
  have ab : Ints (h.en.pu []).blks .i64 a zs := ha.sub (Sub.pu (h := h.en) hk)
  have O : Own h.next (h.en.pu []).blks .i64 (.sl h.next 0 0 (some 0) 1) [] := Own.fresh (Nat.le_refl _) rfl rfl rfl (Nat.le_refl _)
  obtain ⟨s', h', e, o, g, n⟩ := own_appI (h0 := h) (h := h.en.pu []) hk (Grown.pu Grown.en rfl) O ab (by simp; omega)
  simp (disch := first | (simp only [Nat.reduceBEq, elem_hit, elem_miss, elem_nil]; done) | ((repeat' (first | assumption | exact Sub.refl _ | refine Sub.push ?_ ?_ | exact HokR.fresh (by assumption) | refine Fresh.push ?_ | refine HokR.push ?_ ?_ ?_ | exact Grown.refl | refine GrownR.push ?_ ?_ ?_ | exact refsOK_ints | exact refsOK_pairs | exact Nat.le_refl _ | (simp only [wM, Nat.reduceAdd, Nat.reduceLT, Nat.reduceLeDiff]; done))); done) | omega | decide) only [hne, e, wrap_i64, idx?_pos, Int.toNat_natCast, ↓wA, wB, resOf, Option.map_some, Option.map_none, List.map_cons, List.map_nil, List.nil_append, List.append_nil, List.cons_append, Nat.reduceBEq, List.getElem?_cons_zero, List.getElem?_cons_succ, List.getElem?_nil, Option.getD_some, Option.getD_none, cond_false, cond_true, and_true, true_and, Nat.zero_add, Nat.mul_one, Int.reduceBEq, Int.reduceBNe, Int.reduceLT, Int.reduceLE, Int.reduceAdd, Int.reduceSub, Int.reduceMul, decide_true, decide_false, Bool.not_true, Bool.not_false, beq_self_eq_true, bne_self_eq_false, and_self, List.isEmpty_nil, List.isEmpty_cons, Bool.true_or, Bool.false_or, List.set_cons_zero, List.set_cons_succ, List.length_cons, List.length_nil, Option.bind_some, List.all_cons, List.all_nil, Bool.or_true, Bool.true_and, Bool.and_true, Int.reduceToNat]
  exact ⟨_, rfl, g, by simpa using o, n h0⟩

theorem f65 (n : Nat) (cs : AV) (zs : List Int) (v w : Nat) (h : Hp) (hk : Hok h) (hc : Ints h.blks .i64 cs zs) (hr : refOK h.next cs = true) (hn : n ≤ 8) (hv : v < n) (hw : w < n) (hne : v ≠ w) (hb : pix n (min v w) (max v w) < zs.length) :
    Evals Try.prog tab false (.func 65) [.ag [.int .i64 n, cs], .int .i64 v, .int .i64 w] h (.int .i64 (col n zs v w), h) := by
  refine evals_pure c65 rfl hk ?_
  simp only [sf65, initS_cons, initS_nil]
  obtain ⟨e1, e2, e3, e4⟩ := pix_int (n := n) (a := min v w) (b := max v w) (by omega) (by omega) hn
  have hrr : refsOK (h.next + 1) [.int .i64 n, cs] = true := by simp only [refsOK_cons, refsOK_nil, Bool.and_true, Bool.and_eq_true]; exact ⟨rfl, refOK_mono (Nat.le_succ _) hr⟩
  have cb : Ints (h.en.pu [.int .i64 n, cs]).blks .i64 cs zs := hc.sub (Sub.pu (h := h.en) hk)
  have bx : Box (h.en.pu [.int .i64 n, cs]).blks h.next [.int .i64 n, cs] := Box.top
  have mn : min (v : Int) w = ((min v w : Nat) : Int) := by omega
  have mx : max (v : Int) w = ((max v w : Nat) : Int) := by omega
  obtain ⟨D, hD⟩ : ∃ D : Nat, D = min v w * (2 * n - min v w - 1) := ⟨_, rfl⟩
  have e2' : ((min v w : Nat) : Int) * ((2 * n - min v w - 1 : Nat) : Int) = (D : Int) := by rw [hD]; rfl
  rw [← hD] at e3
  have e4' : (D : Int) / 2 + ((max v w : Nat) : Int) - ((min v w : Nat) : Int) - 1 = (pix n (min v w) (max v w) : Int) := by rw [← e4, e2, ← hD]
  have eq := @sBin_quo
  simp (disch := first | (simp only [Nat.reduceBEq, elem_hit, elem_miss, elem_nil]; done) | ((repeat' (first | assumption | exact Sub.refl _ | refine Sub.push ?_ ?_ | exact HokR.fresh (by assumption) | refine Fresh.push ?_ | refine HokR.push ?_ ?_ ?_ | exact Grown.refl | refine GrownR.push ?_ ?_ ?_ | exact refsOK_ints | exact refsOK_pairs | exact Nat.le_refl _ | (simp only [wM, Nat.reduceAdd, Nat.reduceLT, Nat.reduceLeDiff]; done))); done) | omega | decide) only [sBox_ag, mn, mx, bx.ld (Sub.refl _), e1, e2', e4', eq, cb.ix, cb.ld, wrap_i64, idx?_pos, Int.toNat_natCast, ↓wA, wB, resOf, Option.map_some, Option.map_none, List.map_cons, List.map_nil, List.nil_append, List.append_nil, List.cons_append, Nat.reduceBEq, List.getElem?_cons_zero, List.getElem?_cons_succ, List.getElem?_nil, Option.getD_some, Option.getD_none, cond_false, cond_true, and_true, true_and, Nat.zero_add, Nat.mul_one, Int.reduceBEq, Int.reduceBNe, Int.reduceLT, Int.reduceLE, Int.reduceAdd, Int.reduceSub, Int.reduceMul, decide_true, decide_false, Bool.not_true, Bool.not_false, beq_self_eq_true, bne_self_eq_false, and_self, List.isEmpty_nil, List.isEmpty_cons, Bool.true_or, Bool.false_or, List.set_cons_zero, List.set_cons_succ, List.length_cons, List.length_nil, Option.bind_some, List.all_cons, List.all_nil, Bool.or_true, Bool.true_and, Bool.and_true, Int.reduceToNat]
  exact ⟨_, rfl, rfl, by (repeat' (first | assumption | exact Sub.refl _ | refine Sub.push ?_ ?_ | exact HokR.fresh (by assumption) | refine Fresh.push ?_ | refine HokR.push ?_ ?_ ?_ | exact Grown.refl | refine GrownR.push ?_ ?_ ?_ | exact refsOK_ints | exact refsOK_pairs | exact Nat.le_refl _ | (simp only [wM, Nat.reduceAdd, Nat.reduceLT, Nat.reduceLeDiff]; done)))⟩
end Go.Proofs.Ytpclkcamfainiaa
