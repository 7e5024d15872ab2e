/- Exchanged colours; arguments from small numbers; Progression. -/
import Derived.Test.YtpclkcamfainiaaP23
import Derived.Test.YtpclkcamfainiaaVA
import Derived.Test.YtpclkcamfainiaaP7
set_option linter.unusedSimpArgs false
set_option linter.unusedVariables false
set_option maxHeartbeats 4000000
set_option maxRecDepth 20000
namespace Go.Pt
open Go Go.Abs Go.Proofs.Ytpclkcamfainiaa
theorem GX_congr {R R' : Nat → Nat → Bool} {k f v : Nat} {cl : List Nat} (h1 : ∀ a b, v ≤ a → a < b → b < v + f → R b a = R' b a) (h2 : ∀ u, v ≤ u → u < v + f → ∀ w ∈ cl, R u w = R' u w) (H : GX R k f cl v) : GX R' k f cl v := by
  obtain ⟨us, p1, p2, p3, p4⟩ := H
  refine ⟨us, p1, List.Pairwise.imp_of_mem (fun {a b} ha hb h => ⟨h.1, ?_⟩) p2, p3, fun u hu w hw => ?_⟩
  · rw [← h1 a b (p3 a ha).1 h.1 (p3 b hb).2]; exact h.2
  · rw [← h2 u (p3 u hu).1 (p3 u hu).2 w hw]; exact p4 u hu w hw
def flip (zs : List Int) : List Int := zs.map fun c => 1 - c
theorem flip_len {zs : List Int} : (flip zs).length = zs.length := by simp [flip]
theorem flip_app {zs : List Int} {c : Int} : flip (zs ++ [c]) = flip zs ++ [1 - c] := by simp [flip]
theorem flip_get {zs : List Int} {i : Nat} (h : i < zs.length) : (flip zs).getD i 0 = 1 - zs.getD i 0 := by
  simp only [flip, List.getD_eq_getElem?_getD, List.getElem?_map, List.getElem?_eq_getElem h, Option.map_some, Option.getD_some]
theorem flip_beq {a c : Int} : (1 - a == 1 - c) = (a == c) := by
  rw [Bool.eq_iff_iff, beq_iff_eq, beq_iff_eq]
  omega
theorem clF_flip {n k l : Nat} {zs : List Int} (hn : n ≤ 8) (h0 : 0 < zs.length) (hz : zs.length ≤ tri n) (hc : ∀ z ∈ zs, 0 ≤ z ∧ z < 2) (hk : 2 ≤ k) (hl : 2 ≤ l) : clF n l k (flip zs) = clF n k l zs := by
  have pk := prAt_ok (i := zs.length - 1) hn (by omega)
  have hm : zs.getD (zs.length - 1) 0 ∈ zs := by
    simp only [List.getD_eq_getElem?_getD]
    rw [List.getElem?_eq_getElem (by omega)]
    exact List.getElem_mem _
  have hb := hc _ hm
  simp only [clF, flip_len, flip_get (show zs.length - 1 < zs.length by omega)]
  generalize zs.getD (zs.length - 1) 0 = c at hb ⊢
  generalize (prAt n (zs.length - 1)).1 = A at pk ⊢
  generalize (prAt n (zs.length - 1)).2 = B at pk ⊢
  obtain ⟨p1, p2, p3⟩ := pk
  have es : (if (1 - c == 1) = true then k else l) = (if (c == 1) = true then l else k) := by
    by_cases e : c = 1
    · subst e; rfl
    · have : c = 0 := by omega
      subst this; rfl
  rw [es]
  have hs : 2 ≤ (if (c == 1) = true then l else k) := by split <;> omega
  generalize (if (c == 1) = true then l else k) = s at hs ⊢
  rw [Bool.eq_iff_iff, Option.isNone_iff_eq_none, Option.isNone_iff_eq_none, gr_none (by simpa using hs), gr_none (by simpa using hs)]
  have one : ∀ u w, u < w → w ≤ B → pix n u w < zs.length → RC n (flip zs) (1 - c) u w = RC n zs c u w := fun u w h1 h2 h3 => by
    rw [RC, RC, col, col, Nat.min_eq_left (by omega), Nat.max_eq_right (by omega), flip_get h3, flip_beq]
  have two : ∀ u w, u < w → w ≤ B → u < A → RC n (flip zs) (1 - c) u w = RC n zs c u w := fun u w h1 h2 h3 => by
    have := (pix_lex (a := u) (b := w) hn h1 (by omega) p1 p2).2 (.inl h3)
    exact one u w h1 h2 (by omega)
  have sw : ∀ (x : List Int) (d : Int) (u w : Nat), RC n x d u w = RC n x d w u := fun x d u w => by rw [RC, RC, col_comm]
  have c1 : ∀ a b, 0 ≤ a → a < b → b < 0 + A → RC n (flip zs) (1 - c) b a = RC n zs c b a := fun a b _ h2 h3 => by rw [sw, sw zs]; exact two a b h2 (by omega) (by omega)
  have c2 : ∀ u, 0 ≤ u → u < 0 + A → ∀ w ∈ [A, B], RC n (flip zs) (1 - c) u w = RC n zs c u w := fun u _ h2 w hw => by
    simp only [List.mem_cons, List.not_mem_nil, or_false] at hw
    rcases hw with rfl | rfl
    · exact two u w (by omega) (by omega) (by omega)
    · exact two u w (by omega) (by omega) (by omega)
  exact not_congr ⟨GX_congr c1 c2, GX_congr (fun a b x y z => (c1 a b x y z).symm) (fun u x y w z => (c2 u x y w z).symm)⟩
theorem allC_flip {n k l : Nat} (hn : n ≤ 8) (hk : 2 ≤ k) (hl : 2 ≤ l) : ∀ f (zs : List Int), zs.length + f ≤ tri n → (∀ z ∈ zs, 0 ≤ z ∧ z < 2) → (allC (clF n k l) 2 f zs).length = (allC (clF n l k) 2 f (flip zs)).length
  | 0, zs, _, _ => by rw [allC, allC]; rfl
  | f + 1, zs, hz, hc => by
    have bd : ∀ c : Int, 0 ≤ c → c < 2 → ∀ z ∈ zs ++ [c], 0 ≤ z ∧ z < 2 := fun c h1 h2 z hz => by
      rw [List.mem_append, List.mem_singleton] at hz
      rcases hz with hz | rfl
      · exact hc z hz
      · exact ⟨h1, h2⟩
    have one : ∀ c : Int, 0 ≤ c → c < 2 → (if clF n k l (zs ++ [c]) = true then allC (clF n k l) 2 f (zs ++ [c]) else []).length = (if clF n l k (flip zs ++ [1 - c]) = true then allC (clF n l k) 2 f (flip zs ++ [1 - c]) else []).length := fun c h1 h2 => by
      have := clF_flip (n := n) (k := k) (l := l) (zs := zs ++ [c]) hn (by simp) (by simp; omega) (bd c h1 h2) hk hl
      rw [flip_app] at this
      rw [this]
      split
      · rw [← flip_app]
        exact allC_flip hn hk hl f _ (by simp; omega) (bd c h1 h2)
      · rfl
    have o0 := one 0 (by omega) (by omega)
    have o1 := one 1 (by omega) (by omega)
    rw [show (1 : Int) - 0 = 1 from rfl] at o0
    rw [show (1 : Int) - 1 = 0 from rfl] at o1
    rw [allC, allC, colsL, colsL, colsL, colsL, colsL, colsL, List.append_nil, List.append_nil, List.length_append, List.length_append]
    rw [show ((0 : Nat) : Int) = 0 from rfl, show ((0 + 1 : Nat) : Int) = 1 from rfl, o0, o1, Nat.add_comm]
theorem hd_len {l : List (List Int)} : (if l.head?.isSome = true then (0 : Int) else 5) = if l.length = 0 then 5 else 0 := by cases l <;> rfl
theorem avA_flip {n k l : Nat} (hn : n ≤ 8) (hk : 2 ≤ k) (hl : 2 ≤ l) : (avA n k l).length = (avA n l k).length := allC_flip hn hk hl (tri n) [] (by simp) (by simp)
end Go.Pt
namespace Go.Abs
theorem sBin_bb {a b : Bool} : sBin .eql .bool (.bool a) (.bool b) = some (.bool (a == b)) := by cases a <;> cases b <;> rfl
theorem sBin_nb {a b : Bool} : sBin .neq .bool (.bool a) (.bool b) = some (.bool (a != b)) := by cases a <;> cases b <;> rfl
end Go.Abs
namespace Go.Proofs.Ytpclkcamfainiaa
open Go Go.Abs Go.Pt

theorem f35 (x lo hi : Int) (hx : 0 ≤ x ∧ x ≤ 255) (h1 : 0 ≤ lo) (h2 : lo ≤ hi) (h3 : hi ≤ 100) :
    ∃ m : Nat, lo ≤ m ∧ m ≤ hi ∧ ∀ h, Hok h → Evals Try.prog tab false (.func 35) [.int .u8 x, .int .i64 lo, .int .i64 hi] h (.int .i64 m, h) := by
  have r1 : 0 ≤ x % (hi - lo + 1) := Int.emod_nonneg _ (by omega)
  have r2 : x % (hi - lo + 1) < hi - lo + 1 := Int.emod_lt_of_pos _ (by omega)
  refine ⟨(lo + x % (hi - lo + 1)).toNat, by omega, by omega, fun h hk => ?_⟩
  have em : (((lo + x % (hi - lo + 1)).toNat : Nat) : Int) = lo + x % (hi - lo + 1) := by omega
  rw [em]
  refine evals_pure c35 rfl hk ?_
  simp only [sf35, initS_cons, initS_nil]
  have rm := fun (c : EqC) => sBin_rem (c := c) (k := .i64) hx.1 (show 0 < hi - lo + 1 by omega)
  generalize x % (hi - lo + 1) = y at rm r1 r2
  simp (disch := first | (simp only [Nat.reduceBEq, elem_hit, elem_miss, elem_nil]; done) | ((repeat' (first | assumption | exact Sub.refl _ | refine Sub.push ?_ ?_ | exact HokR.fresh (by assumption) | refine Fresh.push ?_ | refine HokR.push ?_ ?_ ?_ | exact Grown.refl | refine GrownR.push ?_ ?_ ?_ | exact refsOK_ints | exact refsOK_pairs | exact Nat.le_refl _ | (simp only [wM, Nat.reduceAdd, Nat.reduceLT, Nat.reduceLeDiff]; done))); done) | omega | decide) only [rm, wrap_i64, idx?_pos, Int.toNat_natCast, ↓wA, wB, resOf, Option.map_some, Option.map_none, List.map_cons, List.map_nil, List.nil_append, List.append_nil, List.cons_append, Nat.reduceBEq, List.getElem?_cons_zero, List.getElem?_cons_succ, List.getElem?_nil, Option.getD_some, Option.getD_none, cond_false, cond_true, and_true, true_and, Nat.zero_add, Nat.mul_one, Int.reduceBEq, Int.reduceBNe, Int.reduceLT, Int.reduceLE, Int.reduceAdd, Int.reduceSub, Int.reduceMul, decide_true, decide_false, Bool.not_true, Bool.not_false, beq_self_eq_true, bne_self_eq_false, and_self, List.isEmpty_nil, List.isEmpty_cons, Bool.true_or, Bool.false_or, List.set_cons_zero, List.set_cons_succ, List.length_cons, List.length_nil, Option.bind_some, List.all_cons, List.all_nil, Bool.or_true, Bool.true_and, Bool.and_true, Int.reduceToNat]
  exact ⟨_, rfl, rfl, by (repeat' (first | assumption | exact Sub.refl _ | refine Sub.push ?_ ?_ | exact HokR.fresh (by assumption) | refine Fresh.push ?_ | refine HokR.push ?_ ?_ ?_ | exact Grown.refl | refine GrownR.push ?_ ?_ ?_ | exact refsOK_ints | exact refsOK_pairs | exact Nat.le_refl _ | (simp only [wM, Nat.reduceAdd, Nat.reduceLT, Nat.reduceLeDiff]; done)))⟩

def prgOK (zs : List Int) (k : Int) : Prop := (3 ≤ k ∧ k ≤ 4) ∧ (1 ≤ zs.length ∧ zs.length ≤ 20) ∧ okc 3 zs = true
instance {zs : List Int} {k : Int} : Decidable (prgOK zs k) := inferInstanceAs (Decidable (_ ∧ _))

/-- For colourings and lengths that are in order. -/
theorem prg_good (a : AV) (zs : List Int) (k : Nat) (h : Hp) (hk : Hok h) (ha : Ints h.blks .i64 a zs) (ok : prgOK zs k) :
    ∃ v h', Evals Try.prog tab false (.func 29) [a, .int .i64 k] h (v, h') ∧ Grown h h' ∧ ∃ r, v = .tu [r, .int .i64 (if ((prgO zs k).map pr2).isSome = true then 0 else 5)] ∧ HD h.next r h'.blks ((prgO zs k).map pr2) := by
  refine evals_q c29 (fun v h' => ∃ r, v = .tu [r, .int .i64 (if ((prgO zs k).map pr2).isSome = true then 0 else 5)] ∧ HD h.next r h'.blks ((prgO zs k).map pr2)) rfl hk ?_ (fun v h1 g q => by
    obtain ⟨r, rfl, q⟩ := q
    refine ⟨fun hr => ⟨r, rfl, q.lk (d := h.next) ?_ (fun id hid => (g.lkB hid).symm)⟩, fun _ => ⟨r, rfl, q⟩⟩
    simp only [refOK, refsOK_cons, Bool.and_eq_true] at hr
    exact hr.1)
  simp only [sf29, initS_cons, initS_nil]
  obtain ⟨o1, o2, o3⟩ := ok
  have w1 := f38 k 3 4 h.en hk
  have w2 := f38 zs.length 1 20 h.en hk
  have pt := f39 a zs 3 h.en hk ha (by omega) (by omega)
  have d1 : decide ((3 : Int) ≤ k ∧ (k : Int) ≤ 4) = true := decide_eq_true (by omega)
  have d2 : decide ((1 : Int) ≤ zs.length ∧ (zs.length : Int) ≤ 20) = true := decide_eq_true (by omega)
  obtain ⟨r, h1, ev, g1, q1⟩ := f50 a zs k h.en hk ha (by omega) (by omega)
  have gh1 : Grown h h1 := GrownR.of_en g1
  have fd := pfound r h.next ((prgO zs k).map pr2) h1 (gh1.ok hk) q1
  simp (disch := first | (simp only [Nat.reduceBEq, elem_hit, elem_miss, elem_nil]; done) | ((repeat' (first | assumption | exact Sub.refl _ | refine Sub.push ?_ ?_ | exact HokR.fresh (by assumption) | refine Fresh.push ?_ | refine HokR.push ?_ ?_ ?_ | exact Grown.refl | refine GrownR.push ?_ ?_ ?_ | exact refsOK_ints | exact refsOK_pairs | exact Nat.le_refl _ | (simp only [wM, Nat.reduceAdd, Nat.reduceLT, Nat.reduceLeDiff]; done))); done) | omega | decide) only [callT w1, d1, ha.len, callT w2, d2, callT pt, o3, callT ev, callT fd, wrap_i64, idx?_pos, Int.toNat_natCast, ↓wA, wB, resOf, Option.map_some, Option.map_none, List.map_cons, List.map_nil, List.nil_append, List.append_nil, List.cons_append, Nat.reduceBEq, List.getElem?_cons_zero, List.getElem?_cons_succ, List.getElem?_nil, Option.getD_some, Option.getD_none, cond_false, cond_true, and_true, true_and, Nat.zero_add, Nat.mul_one, Int.reduceBEq, Int.reduceBNe, Int.reduceLT, Int.reduceLE, Int.reduceAdd, Int.reduceSub, Int.reduceMul, decide_true, decide_false, Bool.not_true, Bool.not_false, beq_self_eq_true, bne_self_eq_false, and_self, List.isEmpty_nil, List.isEmpty_cons, Bool.true_or, Bool.false_or, List.set_cons_zero, List.set_cons_succ, List.length_cons, List.length_nil, Option.bind_some, List.all_cons, List.all_nil, Bool.or_true, Bool.true_and, Bool.and_true, Int.reduceToNat]
  exact ⟨_, rfl, gh1, r, rfl, q1⟩
end Go.Proofs.Ytpclkcamfainiaa
