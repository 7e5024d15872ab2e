/- More rules: arrays, structs of four, remainders, parts of arrays. -/
import Derived.Test.YtelalpohbodolaaDoorSR
set_option linter.unusedSimpArgs false
set_option linter.unusedVariables false
namespace Go.Abs
open Go
section
variable {C : Spec} {f : Nat → AV} {h : Hp} {K : AV → Hp → Prop}
theorem wpOp_ix {len n : Nat} {k : Option Nat} {x i : SX} : wpOp C f h (.ix len n k x i) K = andT (sIx len n k h (idx? (sev f i)) (sev f x)) K .mk := (Eq.refl _).trans rfl
theorem sIx_ag {len n i : Nat} {cs : List AV} (hi : i < len) : sIx len n none h (some i) (.ag cs) = (cs[i * n]?).map fun v => (v, h) := by
  simp only [sIx, show Nat.blt i len = true from by simpa [Nat.blt_eq] using hi, cond_true, rdC]
theorem sIxA_ptr {len n i id off : Nat} (hi : i < len) : sIxA len n h (some i) (.ptr id off) = some (.ptr id (off + i * n), h) := by
  simp only [sIxA, show Nat.blt i len = true from by simpa [Nat.blt_eq] using hi, cond_true]
theorem sArr_ptr {n m id off : Nat} : sArr n m h (some 0) (some n) (.ptr id off) = some (.sl id off n (some n) m, h) := by
  simp only [sArr, Nat.zero_le, Nat.ble_eq_true_of_le, Nat.le_refl, Bool.and_self, cond_true]
  by_cases hn : n = 0
  · subst hn; rfl
  · rw [nb hn]; simp
theorem sArr_hi {n m id off hv : Nat} (h1 : hv ≤ n) (h0 : n ≠ 0) : sArr n m h (some 0) (some hv) (.ptr id off) = some (.sl id off hv (some n) m, h) := by
  simp only [sArr, Nat.zero_le, Nat.ble_eq_true_of_le, h1, Bool.and_self, cond_true]
  rw [nb h0]; simp
theorem wpOp_arr {n m : Nat} {x : SX} {lo hi : Option SX} : wpOp C f h (.arr n m x lo hi) K = andT (sArr n m h (bndV 0 (sb f lo)) (bndV n (sb f hi)) (sev f x)) K .mk := by
  have e : ∀ (d : Nat) (x : Option SX), sbnd f d x = bndV d (sb f x) := fun d x => by cases x <;> rfl
  simp only [wpOp, sexec, e]
  rfl
def sBuildA (z : List AV) (n : Nat) (ps : List (Nat × AV)) : Option AV := (fillA (fun i => some (i * n, n)) z ps).map .ag
theorem wpOp_buildA {z : List AV} {n : Nat} {ps : List (Nat × SX)} : wpOp C f h (.buildA z n ps) K = andT ((sBuildA z n (ps.map fun p => (p.1, sev f p.2))).map fun v => (v, h)) K .mk := by
  unfold sBuildA
  cases hx : fillA (fun i => some (i * n, n)) z (ps.map fun p => (p.1, sev f p.2)) <;> simp only [wpOp, sexec, hx, Option.map_some, Option.map_none] <;> rfl
theorem sBuildA_0 {z : List AV} {n : Nat} : sBuildA z n [] = some (.ag z) := (Eq.refl _).trans rfl
theorem sBuildA_1 {k : IntKind} {a : Int} {x y z u : AV} : sBuildA [x, y, z, u] 1 [(0, .int k a)] = some (.ag [.int k a, y, z, u]) := (Eq.refl _).trans rfl
theorem sBuildA_4 {k : IntKind} {a b c d : Int} {x y z u : AV} : sBuildA [x, y, z, u] 1 [(0, .int k a), (1, .int k b), (2, .int k c), (3, .int k d)] = some (.ag [.int k a, .int k b, .int k c, .int k d]) := (Eq.refl _).trans rfl
theorem sBuild_4 {k : IntKind} {a b c d : Int} {x y z u : AV} : sBuild [x, y, z, u] [(0, 1), (1, 1), (2, 1), (3, 1)] [(0, .int k a), (1, .int k b), (2, .int k c), (3, .int k d)] = some (.ag [.int k a, .int k b, .int k c, .int k d]) := (Eq.refl _).trans rfl
theorem sBuild_41 {k : IntKind} {a : Int} {x y z u : AV} : sBuild [x, y, z, u] [(0, 1), (1, 1), (2, 1), (3, 1)] [(0, .int k a)] = some (.ag [.int k a, y, z, u]) := (Eq.refl _).trans rfl
theorem sBS_q1 {a b c d : Int} : sBS [.int .i64 0, .int .i64 0, .int .i64 0, .int .i64 0] 1 4 h [(0, .ag [.int .i64 a, .int .i64 b, .int .i64 c, .int .i64 d])] =
    some (.sl h.next 0 1 (some 1) 4, { next := h.next + 1, blks := (h.next, { cells := [.int .i64 a, .int .i64 b, .int .i64 c, .int .i64 d], ch := h.next, wr := true }) :: h.blks, loops := h.loops, base := h.base, esc := h.esc }) := (Eq.refl _).trans rfl
theorem sBS_q2 {a b c d a' b' c' d' : Int} : sBS [.int .i64 0, .int .i64 0, .int .i64 0, .int .i64 0] 2 4 h [(0, .ag [.int .i64 a, .int .i64 b, .int .i64 c, .int .i64 d]), (1, .ag [.int .i64 a', .int .i64 b', .int .i64 c', .int .i64 d'])] =
    some (.sl h.next 0 2 (some 2) 4, { next := h.next + 1, blks := (h.next, { cells := [.int .i64 a, .int .i64 b, .int .i64 c, .int .i64 d, .int .i64 a', .int .i64 b', .int .i64 c', .int .i64 d'], ch := h.next, wr := true }) :: h.blks, loops := h.loops, base := h.base, esc := h.esc }) := (Eq.refl _).trans rfl
theorem agEq_4 {k : IntKind} {a b c d a' b' c' d' : Int} : agEq [.int k a, .int k b, .int k c, .int k d] [.int k a', .int k b', .int k c', .int k d'] = some ((a == a') && ((b == b') && ((c == c') && ((d == d') && true)))) := by simp [agEq]

theorem emod_bv {n : Nat} {a : Int} : ((BitVec.ofInt (n + 1) a &&& BitVec.ofInt (n + 1) 1).toNat : Int) = a % 2 := by
  rw [BitVec.toNat_and, BitVec.toNat_ofInt, BitVec.toNat_ofInt]
  have e1 : ((1 : Int) % (2 ^ (n + 1) : Nat)).toNat = 1 % 2 ^ (n + 1) := by
    rw [show (1 : Int) = ((1 : Nat) : Int) from rfl, ← Int.natCast_emod, Int.toNat_natCast]
  rw [e1]
  by_cases h0 : n = 0
  · subst h0
    have : (1 : Nat) % 2 ^ (0 + 1) = 1 := by decide
    rw [this, Nat.and_one_is_mod]
    have : ((2 ^ (0 + 1) : Nat) : Int) = 2 := by decide
    rw [this]
    omega
  · have h1 : (1 : Nat) % 2 ^ (n + 1) = 1 := Nat.mod_eq_of_lt (by
      have : 1 < 2 ^ (n + 1) := Nat.one_lt_two_pow (by omega)
      exact this)
    rw [h1, Nat.and_one_is_mod]
    have h2 : ((2 ^ (n + 1) : Nat) : Int) = 2 * (2 ^ n : Nat) := by rw [Nat.pow_succ]; push_cast; omega
    have h3 : 0 ≤ a % ((2 ^ (n + 1) : Nat) : Int) := Int.emod_nonneg _ (by have : (0 : Nat) < 2 ^ (n + 1) := Nat.two_pow_pos _; omega)
    rw [Int.natCast_emod, Int.toNat_of_nonneg h3, h2]
    exact Int.emod_emod_of_dvd a ⟨_, rfl⟩
theorem sBin_and1 {c : EqC} {a : Int} : sBin .and c (.int .i64 a) (.int .i64 1) = some (.int .i64 (a % 2)) := by
  simp only [sBin, if_true, abInt]
  have : IntKind.bits .i64 = 63 + 1 := rfl
  rw [this, emod_bv, wrap_i64 (by omega) (by omega)]
theorem sBin_quoT {c : EqC} {a b : Int} (h0 : (b == 0) = false) (h1 : -9223372036854775808 ≤ a.tdiv b) (h2 : a.tdiv b ≤ 9223372036854775807) : sBin .quo c (.int .i64 a) (.int .i64 b) = some (.int .i64 (a.tdiv b)) := by
  have h0 : b ≠ 0 := by simpa using h0
  simp only [sBin, if_true, abInt, h0, if_false, wrap_i64 h1 h2]
theorem sBin_remT {c : EqC} {k : IntKind} {a b : Int} (h0 : (b == 0) = false) : sBin .rem c (.int k a) (.int k b) = some (.int k (a.tmod b)) := by
  have h0 : b ≠ 0 := by simpa using h0
  simp [sBin, abInt, h0]
theorem tdiv_bd {a b : Int} (hb : 0 < b) {l u : Int} (h1 : l ≤ a) (h2 : a ≤ u) (hl : l ≤ 0) (hu : 0 ≤ u) : l ≤ a.tdiv b ∧ a.tdiv b ≤ u := by
  rcases Int.le_total 0 a with ha | ha
  · rw [Int.tdiv_eq_ediv_of_nonneg ha]
    have := Int.ediv_le_self b ha
    have := Int.ediv_nonneg ha (show 0 ≤ b by omega)
    omega
  · have e : a.tdiv b = -((-a).tdiv b) := by rw [Int.neg_tdiv]; omega
    rw [e, Int.tdiv_eq_ediv_of_nonneg (by omega : 0 ≤ -a)]
    have := Int.ediv_le_self b (show 0 ≤ -a by omega)
    have := Int.ediv_nonneg (show 0 ≤ -a by omega) (show 0 ≤ b by omega)
    omega
theorem sBin_quoL {c : EqC} {a b : Int} (hb : 0 < b) (h1 : -9223372036854775808 ≤ a) (h2 : a ≤ 9223372036854775807) : sBin .quo c (.int .i64 a) (.int .i64 b) = some (.int .i64 (a.tdiv b)) := by
  obtain ⟨x, y⟩ := tdiv_bd hb h1 h2 (by omega) (by omega)
  exact sBin_quoT (by simp; omega) x y
theorem sBin_remL {c : EqC} {k : IntKind} {a b : Int} (hb : 0 < b) : sBin .rem c (.int k a) (.int k b) = some (.int k (a.tmod b)) := sBin_remT (by simp; omega)
end
end Go.Abs
