/- Kolakoski's sequence: its beginnings and its runs. -/
import Derived.Test.YtogfojkjocbahaaE5
import Derived.Test.YtogfojkjocbahaaE6
set_option linter.unusedSimpArgs false
set_option linter.unusedVariables false
set_option maxHeartbeats 2000000
namespace Go.Proofs.Ytogfojkjocbahaa
open Go Go.Abs

/-- No more elements than the capacity, where it is known. -/
def CapOk : AV → Prop
  | .sl _ _ len (some c) _ => len ≤ c
  | .esl => False
  | _ => True

theorem own_pre_cap {c : Nat} {bs : List (Nat × Blk)} {k : IntKind} {s : AV} {zs : List Int} {m : Nat} (O : Own c bs k s zs) (hm : m ≤ zs.length) : ∃ s', (∀ h, sSl 1 h none (some (some m)) s = some (s', h)) ∧ Ints bs k s' (zs.take m) ∧ CapOk s' := by
  obtain ⟨s', h1, h2⟩ := own_pre O hm
  refine ⟨s', h1, h2, ?_⟩
  rcases O with ⟨rfl, rfl⟩ | ⟨id, b, cap, rfl, q2, q3, q4, q5, q6, q7⟩
  · have : m = 0 := by simpa using hm
    subst this
    have := h1 ⟨0, [], [], 0, false⟩
    rw [sSl_nil (.inl rfl) (.inr rfl)] at this
    cases this
    trivial
  · cases cap with
    | none =>
      have hpos : 0 < zs.length := List.length_pos_iff.2 q7.1
      have e1 : Nat.blt 0 zs.length = true := Nat.ble_eq_true_of_le hpos
      have := h1 ⟨0, [], [], 0, false⟩
      simp only [sSl, bndV, Nat.ble_eq_true_of_le (Nat.zero_le m), Nat.beq_refl, Bool.and_self, cond_true, Nat.ble_eq_true_of_le hm, e1, Nat.zero_mul, Nat.add_zero, Nat.sub_zero] at this
      cases this
      trivial
    | some n =>
      by_cases hn : n = 0
      · have hz : zs.length = 0 := by omega
        have : m = 0 := by omega
        subst this hn
        have := h1 ⟨0, [], [], 0, false⟩
        cases this
        exact Nat.le_refl 0
      · have := h1 ⟨0, [], [], 0, false⟩
        rw [sSl_pre (by omega) (by omega)] at this
        cases this
        show m ≤ n
        omega

theorem own_cap {c : Nat} {bs : List (Nat × Blk)} {k : IntKind} {s : AV} {zs : List Int} (O : Own c bs k s zs) : CapOk s := by
  rcases O with ⟨rfl, rfl⟩ | ⟨id, b, cap, rfl, q2, q3, q4, q5, q6, q7⟩
  · trivial
  · cases cap with
    | none => trivial
    | some n => exact q7.2

/-- The beginning of a slice, cut at its end. -/
theorem ints_sl3 {bs : List (Nat × Blk)} {k : IntKind} {a : AV} {zs : List Int} {m : Nat} (H : Ints bs k a zs) (hc : CapOk a) (hm : m ≤ zs.length) : ∃ s', (∀ h, sSl3 1 h (some m) (some m) (some 0) a = some (s', h)) ∧ Ints bs k s' (zs.take m) := by
  have J := H
  rcases H with ⟨rfl, rfl⟩ | ⟨rfl, rfl⟩ | ⟨id, off, cap, rfl, h⟩
  · have : m = 0 := by simpa using hm
    subst this
    exact ⟨.nilsl, fun h => rfl, by simpa using Ints.nil⟩
  · exact hc.elim
  · have hle : m ≤ cap.getD zs.length := by
      cases cap with
      | none => exact hm
      | some c => exact Nat.le_trans hm hc
    by_cases h0 : m = 0
    · subst h0
      refine ⟨.sl id off 0 (some 0) 1, fun h => ?_, J.pre rfl (Nat.zero_le _) _⟩
      simp only [sSl3, Nat.ble_eq_true_of_le (Nat.zero_le _), Nat.beq_refl, Bool.and_self, cond_true, Nat.sub_self]
    · refine ⟨.sl id off m (some m) 1, fun h => ?_, J.pre rfl hm _⟩
      simp only [sSl3, Nat.ble_eq_true_of_le (Nat.zero_le m), Nat.beq_refl, Bool.and_self, cond_true, Nat.ble_eq_true_of_le (Nat.le_refl m), Nat.ble_eq_true_of_le hle, nb h0, cond_false, Nat.zero_mul, Nat.add_zero, Nat.sub_zero]

/-! ### The sequence -/
theorem kstep_pre (t : List Int) (x : Int) (r : Nat) : t <+: kstep t x r := List.prefix_append _ _

theorem kloop_pre (n : Nat) : ∀ (f : Nat) (t : List Int) (x y : Int) (r : Nat), t <+: kloop n f t x y r
  | 0, t, _, _, _ => List.prefix_refl t
  | f + 1, t, x, y, r => by
    simp only [kloop]
    split
    · exact (kstep_pre t x r).trans (kloop_pre n f _ _ _ _)
    · exact List.prefix_refl t

def KOk (t : List Int) (x y : Int) : Prop := (∀ z ∈ t, 1 ≤ z ∧ z ≤ 9) ∧ (1 ≤ x ∧ x ≤ 9) ∧ (1 ≤ y ∧ y ≤ 9)

theorem kstep_len {t : List Int} {x y : Int} (r : Nat) (H : KOk t x y) : 1 ≤ (if r < t.length then t.getD r 0 else x) ∧ (if r < t.length then t.getD r 0 else x) ≤ 9 := by
  split
  · rename_i h
    exact H.1 _ (getD_mem h)
  · exact H.2.1

theorem KOk.step {t : List Int} {x y : Int} {r : Nat} (H : KOk t x y) : KOk (kstep t x r) y x := by
  refine ⟨fun z hz => ?_, H.2.2, H.2.1⟩
  rcases List.mem_append.1 hz with hz | hz
  · exact H.1 z hz
  · rw [List.mem_replicate] at hz
    rw [hz.2]
    exact H.2.1

theorem kstep_longer {t : List Int} {x y : Int} (r : Nat) (H : KOk t x y) : t.length + 1 ≤ (kstep t x r).length := by
  have := kstep_len r H
  simp only [kstep, List.length_append, List.length_replicate]
  omega

theorem take_prefix {t u : List Int} {m : Nat} (h : t <+: u) (hm : m ≤ t.length) : u.take m = t.take m := by
  obtain ⟨v, rfl⟩ := h
  rw [List.take_append_of_le_length hm]

/-- Longer beginnings continue shorter ones. -/
theorem kloop_take {m n : Nat} (hmn : m ≤ n) : ∀ (f f' : Nat) (t : List Int) (x y : Int) (r : Nat), KOk t x y → m ≤ t.length + f → n ≤ t.length + f' → (kloop n f' t x y r).take m = (kloop m f t x y r).take m
  | 0, f', t, x, y, r, H, h1, h2 => by
    show _ = t.take m
    exact take_prefix (kloop_pre n f' t x y r) (by omega)
  | f + 1, f', t, x, y, r, H, h1, h2 => by
    rw [kloop]
    split
    · rename_i hlt
      obtain ⟨f', rfl⟩ : ∃ i, f' = i + 1 := ⟨f' - 1, by omega⟩
      have := kstep_longer r H
      rw [kloop, if_pos (by omega)]
      exact kloop_take hmn f f' _ _ _ _ H.step (by omega) (by omega)
    · exact take_prefix (kloop_pre n f' t x y r) (by omega)

theorem kol_take {a b : Int} {m n : Nat} (ha : 1 ≤ a ∧ a ≤ 9) (hb : 1 ≤ b ∧ b ≤ 9) (hmn : m ≤ n) : (kol a b n).take m = kol a b m := by
  unfold kol
  rw [List.take_take, Nat.min_eq_left hmn]
  exact kloop_take hmn m n [] a b 0 ⟨by simp, ha, hb⟩ (by simp) (by simp)

theorem runs_same {zs zs' : List Int} : ∀ {i : Nat}, (∀ j, j < i → zs.getD j 0 = zs'.getD j 0) → runsUpto zs i = runsUpto zs' i
  | 0, _ => rfl
  | i + 1, h => by
    simp only [runsUpto]
    rw [runs_same fun j hj => h j (by omega), h i (by omega), h (i - 1) (by omega)]

theorem getD_left {t u : List Int} {j : Nat} (h : j < t.length) : (t ++ u).getD j 0 = t.getD j 0 := by
  simp [List.getD_eq_getElem?_getD, List.getElem?_append_left h]

theorem getD_rep {t : List Int} {x : Int} {L j : Nat} (h1 : t.length ≤ j) (h2 : j < t.length + L) : (t ++ List.replicate L x).getD j 0 = x := by
  rw [List.getD_eq_getElem?_getD, List.getElem?_append_right h1, List.getElem?_replicate, if_pos (by omega)]
  rfl

/-- The runs of a word that goes on with a new one. -/
theorem runs_rep {t : List Int} {x : Int} {L : Nat} (hx : t = [] ∨ t.getD (t.length - 1) 0 ≠ x) : ∀ j, j + 1 ≤ L → runsUpto (t ++ List.replicate L x) (t.length + j + 1) = runsUpto t t.length ++ [(j : Int) + 1]
  | 0, hj => by
    simp only [Nat.add_zero, runsUpto]
    have e1 : runsUpto (t ++ List.replicate L x) t.length = runsUpto t t.length := runs_same fun j hj => getD_left hj
    rw [if_pos, e1]
    · simp
    · rcases hx with rfl | hx
      · exact .inl rfl
      · by_cases h0 : t.length = 0
        · exact .inl h0
        · right
          rw [getD_rep (Nat.le_refl _) (by omega), getD_left (by omega)]
          exact fun e => hx e.symm
  | j + 1, hj => by
    have ih := runs_rep (L := L) hx j (by omega)
    rw [show t.length + (j + 1) + 1 = (t.length + j + 1) + 1 by omega, runsUpto, if_neg, ih]
    · have e1 : (runsUpto t t.length ++ [(j : Int) + 1]).length - 1 = (runsUpto t t.length).length := by simp
      rw [e1, show (runsUpto t t.length ++ [(j : Int) + 1]).getD (runsUpto t t.length).length 0 = (j : Int) + 1 by simp [List.getD_eq_getElem?_getD]]
      simp
    · rintro (h | h)
      · omega
      · exact h (by rw [getD_rep (t := t) (L := L) (j := t.length + j + 1) (by omega) (by omega), getD_rep (t := t) (L := L) (j := t.length + j + 1 - 1) (by omega) (by omega)])

def KJ (t : List Int) (x y : Int) (r : Nat) : Prop := KOk t x y ∧ runsUpto t t.length = t.take r ∧ r ≤ t.length ∧ (t = [] ∨ t.getD (t.length - 1) 0 ≠ x) ∧ x ≠ y

theorem KJ.step {t : List Int} {x y : Int} {r : Nat} (H : KJ t x y r) : KJ (kstep t x r) y x (r + 1) := by
  obtain ⟨h1, h2, h3, h4, h5⟩ := H
  have hl := kstep_len r h1
  have hlen : (kstep t x r).length = t.length + (if r < t.length then t.getD r 0 else x).toNat := by simp [kstep]
  refine ⟨h1.step, ?_, ?_, .inr ?_, fun e => h5 e.symm⟩
  · obtain ⟨L, hL⟩ : ∃ L, (if r < t.length then t.getD r 0 else x).toNat = L + 1 := ⟨(if r < t.length then t.getD r 0 else x).toNat - 1, by omega⟩
    have := runs_rep (L := L + 1) h4 L (Nat.le_refl _)
    rw [hlen, hL]
    have e0 : kstep t x r = t ++ List.replicate (L + 1) x := by rw [kstep, hL]
    rw [e0, show t.length + (L + 1) = t.length + L + 1 by omega, this, h2]
    have hLv : ((L : Int) + 1) = (if r < t.length then t.getD r 0 else x) := by omega
    rw [List.take_add_one]
    congr 1
    · rw [List.take_append_of_le_length h3]
    · by_cases hr : r < t.length
      · rw [if_pos hr] at hLv
        rw [List.getElem?_append_left hr, List.getElem?_eq_getElem hr]
        simp [List.getD_eq_getElem?_getD, hr] at hLv
        simp [hLv]
      · rw [if_neg hr] at hLv
        rw [List.getElem?_append_right (by omega), List.getElem?_replicate, if_pos (by omega)]
        simp [hLv]
  · rw [hlen]
    omega
  · rw [hlen]
    have : (kstep t x r).getD (t.length + (if r < t.length then t.getD r 0 else x).toNat - 1) 0 = x := getD_rep (by omega) (by omega)
    rw [this]
    exact h5

theorem kloop_last {n : Nat} : ∀ (f : Nat) (t : List Int) (x y : Int) (r : Nat), KJ t x y r → t.length < n → n ≤ t.length + f → ∃ t' x' y' r', KJ t' x' y' r' ∧ t'.length < n ∧ kloop n f t x y r = kstep t' x' r' ∧ n ≤ (kstep t' x' r').length
  | 0, t, x, y, r, H, h1, h2 => by omega
  | f + 1, t, x, y, r, H, h1, h2 => by
    have hl := kstep_longer r H.1
    rw [kloop, if_pos h1]
    by_cases hc : (kstep t x r).length < n
    · exact kloop_last f _ _ _ _ H.step hc (by omega)
    · refine ⟨t, x, y, r, H, h1, ?_, by omega⟩
      cases f with
      | zero => rfl
      | succ f => rw [kloop, if_neg hc]

/-- The run lengths are a beginning of the sequence. -/
theorem kol_runs {a b : Int} {n : Nat} (ha : 1 ≤ a ∧ a ≤ 9) (hb : 1 ≤ b ∧ b ≤ 9) (hab : a ≠ b) (hn : 0 < n) :
    ∃ r : Nat, r < n ∧ (runsUpto (kol a b n) n).length = r + 1 ∧ (runsUpto (kol a b n) n).take r = (kol a b n).take r := by
  obtain ⟨t, x, y, r, ⟨h1, h2, h3, h4, h5⟩, k1, k2, k3⟩ := kloop_last (n := n) n [] a b 0 ⟨⟨by simp, ha, hb⟩, rfl, Nat.le_refl _, .inl rfl, hab⟩ hn (by simp)
  have hk : kol a b n = (kstep t x r).take n := by rw [kol, k2]
  have hlen : (kstep t x r).length = t.length + (if r < t.length then t.getD r 0 else x).toNat := by simp [kstep]
  have hr := runs_rep (L := (if r < t.length then t.getD r 0 else x).toNat) h4 (n - t.length - 1) (by omega)
  have e1 : runsUpto (kol a b n) n = runsUpto t t.length ++ [((n - t.length - 1 : Nat) : Int) + 1] := by
    rw [← hr, show t.length + (n - t.length - 1) + 1 = n by omega, hk]
    refine runs_same fun j hj => ?_
    show ((kstep t x r).take n).getD j 0 = (kstep t x r).getD j 0
    simp [List.getD_eq_getElem?_getD, List.getElem?_take_of_lt hj]
  have e2 : (t.take r).length = r := by simp; omega
  refine ⟨r, by omega, by rw [e1, h2]; simp; omega, ?_⟩
  rw [e1, h2, List.take_append_of_le_length (by omega), List.take_of_length_le (by omega), hk, List.take_take, Nat.min_eq_left (by omega), kstep, List.take_append_of_le_length h3]

theorem kol_mem {a b : Int} {n : Nat} : ∀ z ∈ kol a b n, z = a ∨ z = b := by
  have key : ∀ (f : Nat) (t : List Int) (x y : Int) (r : Nat), (∀ z ∈ t, z = a ∨ z = b) → (x = a ∨ x = b) → (y = a ∨ y = b) → ∀ z ∈ kloop n f t x y r, z = a ∨ z = b := by
    intro f
    induction f with
    | zero => exact fun t x y r ht _ _ z hz => ht z hz
    | succ f ih =>
      intro t x y r ht hx hy z hz
      rw [kloop] at hz
      split at hz
      · refine ih _ _ _ _ (fun z hz => ?_) hy hx z hz
        rcases List.mem_append.1 hz with hz | hz
        · exact ht z hz
        · rw [List.mem_replicate] at hz
          rw [hz.2]
          exact hx
      · exact ht z hz
  exact fun z hz => key n [] a b 0 (by simp) (.inl rfl) (.inr rfl) z (List.mem_of_mem_take hz)

theorem kol_first {a b : Int} {n : Nat} (ha : 1 ≤ a ∧ a ≤ 9) (hb : 1 ≤ b ∧ b ≤ 9) (hn : 0 < n) : (kol a b n).getD 0 0 = a := by
  have h1 := kol_take (a := a) (b := b) ha hb (show 1 ≤ n by omega)
  have h2 : (kol a b 1).getD 0 0 = a := by
    simp only [kol, kloop, kstep, List.length_nil, Nat.not_lt_zero, if_false, Nat.zero_lt_one, if_true, List.nil_append]
    obtain ⟨k, hk⟩ : ∃ k, a.toNat = k + 1 := ⟨a.toNat - 1, by omega⟩
    rw [hk, List.replicate_succ]
    simp
  have h3 : (kol a b n).getD 0 0 = ((kol a b n).take 1).getD 0 0 := by simp [List.getD_eq_getElem?_getD, List.getElem?_take_of_lt]
  rw [h3, h1, h2]

theorem f40_cap (a b : Int) (n : Nat) (h : Hp) (hok : Hok h) (hna : 1 ≤ a ∧ a ≤ 9) (hnb : 1 ≤ b ∧ b ≤ 9) (hn : n ≤ 100000) :
    ∃ v h', Evals Try.prog tab false (.func 40) [.int .i64 a, .int .i64 b, .int .i64 n] h (v, h') ∧ Ints h'.blks .i64 v (kol a b n) ∧ (kol a b n).length = n ∧ Grown h h' ∧ CapOk v := by
  refine evals_func (T := tab) (g := false) (Q := fun v h' => Ints h'.blks .i64 v (kol a b n) ∧ (kol a b n).length = n ∧ Grown h h' ∧ CapOk v) c40 rfl ?_
  simp only [sf40, initS_cons, initS_nil]
  have hm : ∀ h : Hp, sMks [.int .i64 0] 1 h (some 0) (some ((n : Int) + 9)) = some (.sl h.next 0 0 (some (n + 9)) 1, { next := h.next + 1, blks := (h.next, { cells := repl [.int .i64 0] (n + 9), ch := h.next, wr := true }) :: h.blks, loops := h.loops, base := h.base, esc := h.esc }) := fun h =>
    sMks_ok (z := [.int .i64 0]) (n := 1) (h := h) (l := 0) (c := n + 9) (by omega) (by omega)
  have G0 : Grown h { next := h.next + 1, blks := (h.next, { cells := ints .i64 (List.replicate (n + 9) 0), ch := h.next, wr := true }) :: h.blks, loops := h.loops, base := h.next, esc := false } := Grown.push
  have O0 : Own h.next ((h.next, { cells := ints .i64 (List.replicate (n + 9) 0), ch := h.next, wr := true }) :: h.blks) .i64 (.sl h.next 0 0 (some (n + 9)) 1) [] := Own.fresh (Nat.le_refl _) rfl rfl (by simp [ints]) (by omega)
  simp (disch := first | (simp only [Nat.reduceBEq, Go.Abs.elem_hit, Go.Abs.elem_miss, Go.Abs.elem_nil]; done) | omega) only [hm, repl_ints, Go.Abs.wrap_i64, Go.Abs.idx?_pos, Int.toNat_natCast, ↓Go.Abs.wpG_none, ↓Go.Abs.wpG_true, ↓Go.Abs.wpG_false, ↓Go.Abs.wpOps_nil, ↓Go.Abs.wpOps_cons, ↓Go.Abs.sput_some, ↓Go.Abs.sput_none, ↓Go.Abs.sev_t, ↓Go.Abs.sev_c, ↓Go.Abs.look_nil, ↓Go.Abs.look_miss, ↓Go.Abs.lkF_miss, ↓Go.Abs.lkF_nil, ↓Go.Abs.setF_miss, ↓Go.Abs.commitS_nil, ↓Go.Abs.commitS_in, ↓Go.Abs.commitS_out, ↓Go.Abs.wp_skip, ↓Go.Abs.wp_ops, ↓Go.Abs.wp_seq, ↓Go.Abs.wp_cond, ↓Go.Abs.wp_block, ↓Go.Abs.wp_exit, ↓Go.Abs.wp_ret, ↓Go.Abs.onEx_normal, ↓Go.Abs.onEx_exit, ↓Go.Abs.onEx_ret, ↓Go.Abs.onBlk_normal, ↓Go.Abs.onBlk_ret, ↓Go.Abs.onBlk_miss, ↓Go.Abs.wpOp_call, ↓Go.Abs.wpOp_mov, ↓Go.Abs.wpOp_pick, ↓Go.Abs.wpOp_new, ↓Go.Abs.wpOp_bin, ↓Go.Abs.wpOp_not, ↓Go.Abs.wpOp_neg, ↓Go.Abs.wpOp_conv, ↓Go.Abs.wpOp_ext, ↓Go.Abs.wpOp_lenS, ↓Go.Abs.look_hit, ↓Go.Abs.lkF_hit, ↓Go.Abs.setF_hit, ↓Go.Abs.onBlk_hit, Go.Abs.andThen_some, Go.Abs.andThen_none, Go.Abs.setF_nil, Go.Abs.sNot_bool, Go.Abs.sNeg_int, Go.Abs.sConv_int, Go.Abs.sExt_tu, Go.Abs.sLen_sl, Go.Abs.sLen_nil, Go.Abs.sLen_esl, Go.Abs.sBin_lss, Go.Abs.sBin_leq, Go.Abs.sBin_gtr, Go.Abs.sBin_geq, Go.Abs.sBin_eql, Go.Abs.sBin_neq, Go.Abs.sBin_add, Go.Abs.sBin_sub, Go.Abs.sBin_mul, Go.Abs.sresVs_nil, Go.Abs.sresVs_tmp, Go.Abs.elem_hit, Go.Abs.elem_miss, Go.Abs.elem_nil, Go.Abs.initS_nil, Go.Abs.initS_cons, Option.map_some, Option.map_none, List.map_cons, List.map_nil, List.nil_append, List.append_nil, List.cons_append, Nat.reduceBEq, List.getElem?_cons_zero, List.getElem?_cons_succ, List.getElem?_nil, Option.getD_some, Option.getD_none, Go.Abs.ifThen_true, Go.Abs.ifThen_false, Go.Abs.resOf, Go.Abs.leave, cond_false, cond_true, and_true, true_and, ↓Go.Abs.wpOp_load, ↓Go.Abs.wpOp_ixS, Go.Abs.idx?_nat, Go.Abs.sLoad_ptr, ↓Go.Abs.wpOp_mks, ↓Go.Abs.wpOp_store, Go.Abs.int?_int, Go.Abs.sStore_int, Nat.zero_add, Nat.mul_one, ↓Go.Abs.wpOp_buildS, Go.Abs.sBS_2, Go.Abs.sLoad_cell, ↓Go.Abs.wpOp_app, ↓Go.Abs.wpOp_slice, ↓Go.Abs.wpOp_mn, ↓Go.Abs.wpOp_mx, Go.Abs.sMin_int, Go.Abs.sMax_int, Go.Abs.sBS_0, Go.Abs.sBS_1, Go.Abs.andT_some, ↓Go.Abs.wp_loopT, Go.Abs.sb_none, Go.Abs.sb_some, Int.reduceBEq, Int.reduceBNe, Int.reduceLT, Int.reduceLE, Int.reduceAdd, Int.reduceSub, Int.reduceMul, decide_true, decide_false, Bool.not_true, Bool.not_false, beq_self_eq_true, bne_self_eq_false, ↓Go.Abs.wpOp_slice3, and_self, Go.Abs.gT_t, Go.Abs.gT_f, Go.Abs.gT_u]
  refine wloop (fun mm ss => ∃ (t : List Int) (x : Int) (y : Int) (r : Nat) (f : Nat) (q : AV) (h1 : Hp) (u11 u20 u27 u32 u33 u34 : AV), (mm = n - t.length) ∧ ((kloop n f t x y r = kloop n n [] a b 0) ∧ n ≤ t.length + f ∧ (∀ z ∈ t, 1 ≤ z ∧ z ≤ 9) ∧ (1 ≤ x ∧ x ≤ 9) ∧ (1 ≤ y ∧ y ≤ 9) ∧ r ≤ t.length ∧ Grown h h1 ∧ Own h.next h1.blks .i64 q t ∧ t.length ≤ n + 9) ∧ ss = { fr := [(0, .int .i64 a), (1, .int .i64 b), (2, .int .i64 n), (6, .nilsl), (7, q), (8, .int .i64 x), (9, .int .i64 y), (10, .int .i64 r), (11, u11), (20, u20), (27, u27), (32, u32), (33, u33), (34, u34)], hp := h1 }) (n) ?_ ?_
  ·
    refine ⟨[], a, b, 0, n, .sl h.next 0 0 (some (n + 9)) 1, { next := h.next + 1, blks := (h.next, { cells := ints .i64 (List.replicate (n + 9) 0), ch := h.next, wr := true }) :: h.blks, loops := h.loops, base := h.next, esc := false }, _, _, _, _, _, _, by simp, ⟨rfl, by simp, by simp, hna, hnb, by simp, G0, O0, by simp⟩, rfl⟩
  rintro nA sA ⟨t, x, y, r, f, q, h1, u11, u20, u27, u32, u33, u34, hnA, ⟨hk, hf, ht, hx, hy, hr, hg, hO, hl⟩, rfl⟩
  simp (disch := first | (simp only [Nat.reduceBEq, Go.Abs.elem_hit, Go.Abs.elem_miss, Go.Abs.elem_nil]; done) | omega) only [hO.len, Go.Abs.wrap_i64, Go.Abs.idx?_pos, Int.toNat_natCast, ↓Go.Abs.wpG_none, ↓Go.Abs.wpG_true, ↓Go.Abs.wpG_false, ↓Go.Abs.wpOps_nil, ↓Go.Abs.wpOps_cons, ↓Go.Abs.sput_some, ↓Go.Abs.sput_none, ↓Go.Abs.sev_t, ↓Go.Abs.sev_c, ↓Go.Abs.look_nil, ↓Go.Abs.look_miss, ↓Go.Abs.lkF_miss, ↓Go.Abs.lkF_nil, ↓Go.Abs.setF_miss, ↓Go.Abs.commitS_nil, ↓Go.Abs.commitS_in, ↓Go.Abs.commitS_out, ↓Go.Abs.wp_skip, ↓Go.Abs.wp_ops, ↓Go.Abs.wp_seq, ↓Go.Abs.wp_cond, ↓Go.Abs.wp_block, ↓Go.Abs.wp_exit, ↓Go.Abs.wp_ret, ↓Go.Abs.onEx_normal, ↓Go.Abs.onEx_exit, ↓Go.Abs.onEx_ret, ↓Go.Abs.onBlk_normal, ↓Go.Abs.onBlk_ret, ↓Go.Abs.onBlk_miss, ↓Go.Abs.wpOp_call, ↓Go.Abs.wpOp_mov, ↓Go.Abs.wpOp_pick, ↓Go.Abs.wpOp_new, ↓Go.Abs.wpOp_bin, ↓Go.Abs.wpOp_not, ↓Go.Abs.wpOp_neg, ↓Go.Abs.wpOp_conv, ↓Go.Abs.wpOp_ext, ↓Go.Abs.wpOp_lenS, ↓Go.Abs.look_hit, ↓Go.Abs.lkF_hit, ↓Go.Abs.setF_hit, ↓Go.Abs.onBlk_hit, Go.Abs.andThen_some, Go.Abs.andThen_none, Go.Abs.setF_nil, Go.Abs.sNot_bool, Go.Abs.sNeg_int, Go.Abs.sConv_int, Go.Abs.sExt_tu, Go.Abs.sLen_sl, Go.Abs.sLen_nil, Go.Abs.sLen_esl, Go.Abs.sBin_lss, Go.Abs.sBin_leq, Go.Abs.sBin_gtr, Go.Abs.sBin_geq, Go.Abs.sBin_eql, Go.Abs.sBin_neq, Go.Abs.sBin_add, Go.Abs.sBin_sub, Go.Abs.sBin_mul, Go.Abs.sresVs_nil, Go.Abs.sresVs_tmp, Go.Abs.elem_hit, Go.Abs.elem_miss, Go.Abs.elem_nil, Go.Abs.initS_nil, Go.Abs.initS_cons, Option.map_some, Option.map_none, List.map_cons, List.map_nil, List.nil_append, List.append_nil, List.cons_append, Nat.reduceBEq, List.getElem?_cons_zero, List.getElem?_cons_succ, List.getElem?_nil, Option.getD_some, Option.getD_none, Go.Abs.ifThen_true, Go.Abs.ifThen_false, Go.Abs.resOf, Go.Abs.leave, cond_false, cond_true, and_true, true_and, ↓Go.Abs.wpOp_load, ↓Go.Abs.wpOp_ixS, Go.Abs.idx?_nat, Go.Abs.sLoad_ptr, ↓Go.Abs.wpOp_mks, ↓Go.Abs.wpOp_store, Go.Abs.int?_int, Go.Abs.sStore_int, Nat.zero_add, Nat.mul_one, ↓Go.Abs.wpOp_buildS, Go.Abs.sBS_2, Go.Abs.sLoad_cell, ↓Go.Abs.wpOp_app, ↓Go.Abs.wpOp_slice, ↓Go.Abs.wpOp_mn, ↓Go.Abs.wpOp_mx, Go.Abs.sMin_int, Go.Abs.sMax_int, Go.Abs.sBS_0, Go.Abs.sBS_1, Go.Abs.andT_some, ↓Go.Abs.wp_loopT, Go.Abs.sb_none, Go.Abs.sb_some, Int.reduceBEq, Int.reduceBNe, Int.reduceLT, Int.reduceLE, Int.reduceAdd, Int.reduceSub, Int.reduceMul, decide_true, decide_false, Bool.not_true, Bool.not_false, beq_self_eq_true, bne_self_eq_false, ↓Go.Abs.wpOp_slice3, and_self, Go.Abs.gT_t, Go.Abs.gT_f, Go.Abs.gT_u]
  refine Go.Abs.ifThen_intro (fun e1 => ?_) (fun e1 => ?_) <;> have e1q := e1 <;> try simp [-List.getD_eq_getElem?_getD] at e1q
  · simp (disch := first | (simp only [Nat.reduceBEq, Go.Abs.elem_hit, Go.Abs.elem_miss, Go.Abs.elem_nil]; done) | omega) only [e1, hO.len, Go.Abs.wrap_i64, Go.Abs.idx?_pos, Int.toNat_natCast, ↓Go.Abs.wpG_none, ↓Go.Abs.wpG_true, ↓Go.Abs.wpG_false, ↓Go.Abs.wpOps_nil, ↓Go.Abs.wpOps_cons, ↓Go.Abs.sput_some, ↓Go.Abs.sput_none, ↓Go.Abs.sev_t, ↓Go.Abs.sev_c, ↓Go.Abs.look_nil, ↓Go.Abs.look_miss, ↓Go.Abs.lkF_miss, ↓Go.Abs.lkF_nil, ↓Go.Abs.setF_miss, ↓Go.Abs.commitS_nil, ↓Go.Abs.commitS_in, ↓Go.Abs.commitS_out, ↓Go.Abs.wp_skip, ↓Go.Abs.wp_ops, ↓Go.Abs.wp_seq, ↓Go.Abs.wp_cond, ↓Go.Abs.wp_block, ↓Go.Abs.wp_exit, ↓Go.Abs.wp_ret, ↓Go.Abs.onEx_normal, ↓Go.Abs.onEx_exit, ↓Go.Abs.onEx_ret, ↓Go.Abs.onBlk_normal, ↓Go.Abs.onBlk_ret, ↓Go.Abs.onBlk_miss, ↓Go.Abs.wpOp_call, ↓Go.Abs.wpOp_mov, ↓Go.Abs.wpOp_pick, ↓Go.Abs.wpOp_new, ↓Go.Abs.wpOp_bin, ↓Go.Abs.wpOp_not, ↓Go.Abs.wpOp_neg, ↓Go.Abs.wpOp_conv, ↓Go.Abs.wpOp_ext, ↓Go.Abs.wpOp_lenS, ↓Go.Abs.look_hit, ↓Go.Abs.lkF_hit, ↓Go.Abs.setF_hit, ↓Go.Abs.onBlk_hit, Go.Abs.andThen_some, Go.Abs.andThen_none, Go.Abs.setF_nil, Go.Abs.sNot_bool, Go.Abs.sNeg_int, Go.Abs.sConv_int, Go.Abs.sExt_tu, Go.Abs.sLen_sl, Go.Abs.sLen_nil, Go.Abs.sLen_esl, Go.Abs.sBin_lss, Go.Abs.sBin_leq, Go.Abs.sBin_gtr, Go.Abs.sBin_geq, Go.Abs.sBin_eql, Go.Abs.sBin_neq, Go.Abs.sBin_add, Go.Abs.sBin_sub, Go.Abs.sBin_mul, Go.Abs.sresVs_nil, Go.Abs.sresVs_tmp, Go.Abs.elem_hit, Go.Abs.elem_miss, Go.Abs.elem_nil, Go.Abs.initS_nil, Go.Abs.initS_cons, Option.map_some, Option.map_none, List.map_cons, List.map_nil, List.nil_append, List.append_nil, List.cons_append, Nat.reduceBEq, List.getElem?_cons_zero, List.getElem?_cons_succ, List.getElem?_nil, Option.getD_some, Option.getD_none, Go.Abs.ifThen_true, Go.Abs.ifThen_false, Go.Abs.resOf, Go.Abs.leave, cond_false, cond_true, and_true, true_and, ↓Go.Abs.wpOp_load, ↓Go.Abs.wpOp_ixS, Go.Abs.idx?_nat, Go.Abs.sLoad_ptr, ↓Go.Abs.wpOp_mks, ↓Go.Abs.wpOp_store, Go.Abs.int?_int, Go.Abs.sStore_int, Nat.zero_add, Nat.mul_one, ↓Go.Abs.wpOp_buildS, Go.Abs.sBS_2, Go.Abs.sLoad_cell, ↓Go.Abs.wpOp_app, ↓Go.Abs.wpOp_slice, ↓Go.Abs.wpOp_mn, ↓Go.Abs.wpOp_mx, Go.Abs.sMin_int, Go.Abs.sMax_int, Go.Abs.sBS_0, Go.Abs.sBS_1, Go.Abs.andT_some, ↓Go.Abs.wp_loopT, Go.Abs.sb_none, Go.Abs.sb_some, Int.reduceBEq, Int.reduceBNe, Int.reduceLT, Int.reduceLE, Int.reduceAdd, Int.reduceSub, Int.reduceMul, decide_true, decide_false, Bool.not_true, Bool.not_false, beq_self_eq_true, bne_self_eq_false, ↓Go.Abs.wpOp_slice3, and_self, Go.Abs.gT_t, Go.Abs.gT_f, Go.Abs.gT_u]
    refine Go.Abs.ifThen_intro (fun e2 => ?_) (fun e2 => ?_) <;> have e2q := e2 <;> try simp [-List.getD_eq_getElem?_getD] at e2q
    · simp (disch := first | (simp only [Nat.reduceBEq, Go.Abs.elem_hit, Go.Abs.elem_miss, Go.Abs.elem_nil]; done) | omega) only [e2, hO.ints.ix, hO.ints.ld, Go.Abs.wrap_i64, Go.Abs.idx?_pos, Int.toNat_natCast, ↓Go.Abs.wpG_none, ↓Go.Abs.wpG_true, ↓Go.Abs.wpG_false, ↓Go.Abs.wpOps_nil, ↓Go.Abs.wpOps_cons, ↓Go.Abs.sput_some, ↓Go.Abs.sput_none, ↓Go.Abs.sev_t, ↓Go.Abs.sev_c, ↓Go.Abs.look_nil, ↓Go.Abs.look_miss, ↓Go.Abs.lkF_miss, ↓Go.Abs.lkF_nil, ↓Go.Abs.setF_miss, ↓Go.Abs.commitS_nil, ↓Go.Abs.commitS_in, ↓Go.Abs.commitS_out, ↓Go.Abs.wp_skip, ↓Go.Abs.wp_ops, ↓Go.Abs.wp_seq, ↓Go.Abs.wp_cond, ↓Go.Abs.wp_block, ↓Go.Abs.wp_exit, ↓Go.Abs.wp_ret, ↓Go.Abs.onEx_normal, ↓Go.Abs.onEx_exit, ↓Go.Abs.onEx_ret, ↓Go.Abs.onBlk_normal, ↓Go.Abs.onBlk_ret, ↓Go.Abs.onBlk_miss, ↓Go.Abs.wpOp_call, ↓Go.Abs.wpOp_mov, ↓Go.Abs.wpOp_pick, ↓Go.Abs.wpOp_new, ↓Go.Abs.wpOp_bin, ↓Go.Abs.wpOp_not, ↓Go.Abs.wpOp_neg, ↓Go.Abs.wpOp_conv, ↓Go.Abs.wpOp_ext, ↓Go.Abs.wpOp_lenS, ↓Go.Abs.look_hit, ↓Go.Abs.lkF_hit, ↓Go.Abs.setF_hit, ↓Go.Abs.onBlk_hit, Go.Abs.andThen_some, Go.Abs.andThen_none, Go.Abs.setF_nil, Go.Abs.sNot_bool, Go.Abs.sNeg_int, Go.Abs.sConv_int, Go.Abs.sExt_tu, Go.Abs.sLen_sl, Go.Abs.sLen_nil, Go.Abs.sLen_esl, Go.Abs.sBin_lss, Go.Abs.sBin_leq, Go.Abs.sBin_gtr, Go.Abs.sBin_geq, Go.Abs.sBin_eql, Go.Abs.sBin_neq, Go.Abs.sBin_add, Go.Abs.sBin_sub, Go.Abs.sBin_mul, Go.Abs.sresVs_nil, Go.Abs.sresVs_tmp, Go.Abs.elem_hit, Go.Abs.elem_miss, Go.Abs.elem_nil, Go.Abs.initS_nil, Go.Abs.initS_cons, Option.map_some, Option.map_none, List.map_cons, List.map_nil, List.nil_append, List.append_nil, List.cons_append, Nat.reduceBEq, List.getElem?_cons_zero, List.getElem?_cons_succ, List.getElem?_nil, Option.getD_some, Option.getD_none, Go.Abs.ifThen_true, Go.Abs.ifThen_false, Go.Abs.resOf, Go.Abs.leave, cond_false, cond_true, and_true, true_and, ↓Go.Abs.wpOp_load, ↓Go.Abs.wpOp_ixS, Go.Abs.idx?_nat, Go.Abs.sLoad_ptr, ↓Go.Abs.wpOp_mks, ↓Go.Abs.wpOp_store, Go.Abs.int?_int, Go.Abs.sStore_int, Nat.zero_add, Nat.mul_one, ↓Go.Abs.wpOp_buildS, Go.Abs.sBS_2, Go.Abs.sLoad_cell, ↓Go.Abs.wpOp_app, ↓Go.Abs.wpOp_slice, ↓Go.Abs.wpOp_mn, ↓Go.Abs.wpOp_mx, Go.Abs.sMin_int, Go.Abs.sMax_int, Go.Abs.sBS_0, Go.Abs.sBS_1, Go.Abs.andT_some, ↓Go.Abs.wp_loopT, Go.Abs.sb_none, Go.Abs.sb_some, Int.reduceBEq, Int.reduceBNe, Int.reduceLT, Int.reduceLE, Int.reduceAdd, Int.reduceSub, Int.reduceMul, decide_true, decide_false, Bool.not_true, Bool.not_false, beq_self_eq_true, bne_self_eq_false, ↓Go.Abs.wpOp_slice3, and_self, Go.Abs.gT_t, Go.Abs.gT_f, Go.Abs.gT_u]
      have hlen : 1 ≤ (t.getD r 0) ∧ (t.getD r 0) ≤ 9 := ht _ (getD_mem e2q)
      refine wloop (fun mm ss => ∃ (j : Nat) (p : AV) (h2 : Hp) (u20 u27 u34 : AV), (mm = (t.getD r 0).toNat - j) ∧ (j ≤ (t.getD r 0).toNat ∧ Grown h h2 ∧ Own h.next h2.blks .i64 p (t ++ List.replicate j x)) ∧ ss = { fr := [(0, .int .i64 a), (1, .int .i64 b), (2, .int .i64 n), (6, .nilsl), (7, p), (8, .int .i64 x), (9, .int .i64 y), (10, .int .i64 r), (11, .int .i64 (t.getD r 0)), (20, u20), (27, u27), (32, .int .i64 (t.getD r 0)), (33, .int .i64 j), (34, u34)], hp := h2 }) ((t.getD r 0).toNat) ?_ ?_
      ·
        refine ⟨0, q, h1, _, _, _, by omega, ⟨by omega, hg, by simpa using hO⟩, rfl⟩
      rintro nB sB ⟨j, p, h2, u20, u27, u34, hnB, ⟨hj, hg2, hO2⟩, rfl⟩
      have hl2 : (t ++ List.replicate j x).length = t.length + j := by simp
      obtain ⟨s3, h3, x1, x2, x3, x4⟩ := own_app1 (v := x) hok hg2 hO2 (by omega)
      simp (disch := first | (simp only [Nat.reduceBEq, Go.Abs.elem_hit, Go.Abs.elem_miss, Go.Abs.elem_nil]; done) | omega) only [Go.Abs.wrap_i64, Go.Abs.idx?_pos, Int.toNat_natCast, ↓Go.Abs.wpG_none, ↓Go.Abs.wpG_true, ↓Go.Abs.wpG_false, ↓Go.Abs.wpOps_nil, ↓Go.Abs.wpOps_cons, ↓Go.Abs.sput_some, ↓Go.Abs.sput_none, ↓Go.Abs.sev_t, ↓Go.Abs.sev_c, ↓Go.Abs.look_nil, ↓Go.Abs.look_miss, ↓Go.Abs.lkF_miss, ↓Go.Abs.lkF_nil, ↓Go.Abs.setF_miss, ↓Go.Abs.commitS_nil, ↓Go.Abs.commitS_in, ↓Go.Abs.commitS_out, ↓Go.Abs.wp_skip, ↓Go.Abs.wp_ops, ↓Go.Abs.wp_seq, ↓Go.Abs.wp_cond, ↓Go.Abs.wp_block, ↓Go.Abs.wp_exit, ↓Go.Abs.wp_ret, ↓Go.Abs.onEx_normal, ↓Go.Abs.onEx_exit, ↓Go.Abs.onEx_ret, ↓Go.Abs.onBlk_normal, ↓Go.Abs.onBlk_ret, ↓Go.Abs.onBlk_miss, ↓Go.Abs.wpOp_call, ↓Go.Abs.wpOp_mov, ↓Go.Abs.wpOp_pick, ↓Go.Abs.wpOp_new, ↓Go.Abs.wpOp_bin, ↓Go.Abs.wpOp_not, ↓Go.Abs.wpOp_neg, ↓Go.Abs.wpOp_conv, ↓Go.Abs.wpOp_ext, ↓Go.Abs.wpOp_lenS, ↓Go.Abs.look_hit, ↓Go.Abs.lkF_hit, ↓Go.Abs.setF_hit, ↓Go.Abs.onBlk_hit, Go.Abs.andThen_some, Go.Abs.andThen_none, Go.Abs.setF_nil, Go.Abs.sNot_bool, Go.Abs.sNeg_int, Go.Abs.sConv_int, Go.Abs.sExt_tu, Go.Abs.sLen_sl, Go.Abs.sLen_nil, Go.Abs.sLen_esl, Go.Abs.sBin_lss, Go.Abs.sBin_leq, Go.Abs.sBin_gtr, Go.Abs.sBin_geq, Go.Abs.sBin_eql, Go.Abs.sBin_neq, Go.Abs.sBin_add, Go.Abs.sBin_sub, Go.Abs.sBin_mul, Go.Abs.sresVs_nil, Go.Abs.sresVs_tmp, Go.Abs.elem_hit, Go.Abs.elem_miss, Go.Abs.elem_nil, Go.Abs.initS_nil, Go.Abs.initS_cons, Option.map_some, Option.map_none, List.map_cons, List.map_nil, List.nil_append, List.append_nil, List.cons_append, Nat.reduceBEq, List.getElem?_cons_zero, List.getElem?_cons_succ, List.getElem?_nil, Option.getD_some, Option.getD_none, Go.Abs.ifThen_true, Go.Abs.ifThen_false, Go.Abs.resOf, Go.Abs.leave, cond_false, cond_true, and_true, true_and, ↓Go.Abs.wpOp_load, ↓Go.Abs.wpOp_ixS, Go.Abs.idx?_nat, Go.Abs.sLoad_ptr, ↓Go.Abs.wpOp_mks, ↓Go.Abs.wpOp_store, Go.Abs.int?_int, Go.Abs.sStore_int, Nat.zero_add, Nat.mul_one, ↓Go.Abs.wpOp_buildS, Go.Abs.sBS_2, Go.Abs.sLoad_cell, ↓Go.Abs.wpOp_app, ↓Go.Abs.wpOp_slice, ↓Go.Abs.wpOp_mn, ↓Go.Abs.wpOp_mx, Go.Abs.sMin_int, Go.Abs.sMax_int, Go.Abs.sBS_0, Go.Abs.sBS_1, Go.Abs.andT_some, ↓Go.Abs.wp_loopT, Go.Abs.sb_none, Go.Abs.sb_some, Int.reduceBEq, Int.reduceBNe, Int.reduceLT, Int.reduceLE, Int.reduceAdd, Int.reduceSub, Int.reduceMul, decide_true, decide_false, Bool.not_true, Bool.not_false, beq_self_eq_true, bne_self_eq_false, ↓Go.Abs.wpOp_slice3, and_self, Go.Abs.gT_t, Go.Abs.gT_f, Go.Abs.gT_u]
      refine Go.Abs.ifThen_intro (fun e3 => ?_) (fun e3 => ?_) <;> have e3q := e3 <;> try simp [-List.getD_eq_getElem?_getD] at e3q
      · simp (disch := first | (simp only [Nat.reduceBEq, Go.Abs.elem_hit, Go.Abs.elem_miss, Go.Abs.elem_nil]; done) | omega) only [e3, x1, Go.Abs.wrap_i64, Go.Abs.idx?_pos, Int.toNat_natCast, ↓Go.Abs.wpG_none, ↓Go.Abs.wpG_true, ↓Go.Abs.wpG_false, ↓Go.Abs.wpOps_nil, ↓Go.Abs.wpOps_cons, ↓Go.Abs.sput_some, ↓Go.Abs.sput_none, ↓Go.Abs.sev_t, ↓Go.Abs.sev_c, ↓Go.Abs.look_nil, ↓Go.Abs.look_miss, ↓Go.Abs.lkF_miss, ↓Go.Abs.lkF_nil, ↓Go.Abs.setF_miss, ↓Go.Abs.commitS_nil, ↓Go.Abs.commitS_in, ↓Go.Abs.commitS_out, ↓Go.Abs.wp_skip, ↓Go.Abs.wp_ops, ↓Go.Abs.wp_seq, ↓Go.Abs.wp_cond, ↓Go.Abs.wp_block, ↓Go.Abs.wp_exit, ↓Go.Abs.wp_ret, ↓Go.Abs.onEx_normal, ↓Go.Abs.onEx_exit, ↓Go.Abs.onEx_ret, ↓Go.Abs.onBlk_normal, ↓Go.Abs.onBlk_ret, ↓Go.Abs.onBlk_miss, ↓Go.Abs.wpOp_call, ↓Go.Abs.wpOp_mov, ↓Go.Abs.wpOp_pick, ↓Go.Abs.wpOp_new, ↓Go.Abs.wpOp_bin, ↓Go.Abs.wpOp_not, ↓Go.Abs.wpOp_neg, ↓Go.Abs.wpOp_conv, ↓Go.Abs.wpOp_ext, ↓Go.Abs.wpOp_lenS, ↓Go.Abs.look_hit, ↓Go.Abs.lkF_hit, ↓Go.Abs.setF_hit, ↓Go.Abs.onBlk_hit, Go.Abs.andThen_some, Go.Abs.andThen_none, Go.Abs.setF_nil, Go.Abs.sNot_bool, Go.Abs.sNeg_int, Go.Abs.sConv_int, Go.Abs.sExt_tu, Go.Abs.sLen_sl, Go.Abs.sLen_nil, Go.Abs.sLen_esl, Go.Abs.sBin_lss, Go.Abs.sBin_leq, Go.Abs.sBin_gtr, Go.Abs.sBin_geq, Go.Abs.sBin_eql, Go.Abs.sBin_neq, Go.Abs.sBin_add, Go.Abs.sBin_sub, Go.Abs.sBin_mul, Go.Abs.sresVs_nil, Go.Abs.sresVs_tmp, Go.Abs.elem_hit, Go.Abs.elem_miss, Go.Abs.elem_nil, Go.Abs.initS_nil, Go.Abs.initS_cons, Option.map_some, Option.map_none, List.map_cons, List.map_nil, List.nil_append, List.append_nil, List.cons_append, Nat.reduceBEq, List.getElem?_cons_zero, List.getElem?_cons_succ, List.getElem?_nil, Option.getD_some, Option.getD_none, Go.Abs.ifThen_true, Go.Abs.ifThen_false, Go.Abs.resOf, Go.Abs.leave, cond_false, cond_true, and_true, true_and, ↓Go.Abs.wpOp_load, ↓Go.Abs.wpOp_ixS, Go.Abs.idx?_nat, Go.Abs.sLoad_ptr, ↓Go.Abs.wpOp_mks, ↓Go.Abs.wpOp_store, Go.Abs.int?_int, Go.Abs.sStore_int, Nat.zero_add, Nat.mul_one, ↓Go.Abs.wpOp_buildS, Go.Abs.sBS_2, Go.Abs.sLoad_cell, ↓Go.Abs.wpOp_app, ↓Go.Abs.wpOp_slice, ↓Go.Abs.wpOp_mn, ↓Go.Abs.wpOp_mx, Go.Abs.sMin_int, Go.Abs.sMax_int, Go.Abs.sBS_0, Go.Abs.sBS_1, Go.Abs.andT_some, ↓Go.Abs.wp_loopT, Go.Abs.sb_none, Go.Abs.sb_some, Int.reduceBEq, Int.reduceBNe, Int.reduceLT, Int.reduceLE, Int.reduceAdd, Int.reduceSub, Int.reduceMul, decide_true, decide_false, Bool.not_true, Bool.not_false, beq_self_eq_true, bne_self_eq_false, ↓Go.Abs.wpOp_slice3, and_self, Go.Abs.gT_t, Go.Abs.gT_f, Go.Abs.gT_u]
        refine ⟨_, ?_, j + 1, s3, h3, _, _, _, rfl, ?_, rfl⟩
        · omega
        refine ⟨by omega, x3, ?_⟩
        rw [List.replicate_succ', ← List.append_assoc]
        exact x2
      · have hjl : j = (t.getD r 0).toNat := by omega
        simp (disch := first | (simp only [Nat.reduceBEq, Go.Abs.elem_hit, Go.Abs.elem_miss, Go.Abs.elem_nil]; done) | omega) only [e3, Go.Abs.wrap_i64, Go.Abs.idx?_pos, Int.toNat_natCast, ↓Go.Abs.wpG_none, ↓Go.Abs.wpG_true, ↓Go.Abs.wpG_false, ↓Go.Abs.wpOps_nil, ↓Go.Abs.wpOps_cons, ↓Go.Abs.sput_some, ↓Go.Abs.sput_none, ↓Go.Abs.sev_t, ↓Go.Abs.sev_c, ↓Go.Abs.look_nil, ↓Go.Abs.look_miss, ↓Go.Abs.lkF_miss, ↓Go.Abs.lkF_nil, ↓Go.Abs.setF_miss, ↓Go.Abs.commitS_nil, ↓Go.Abs.commitS_in, ↓Go.Abs.commitS_out, ↓Go.Abs.wp_skip, ↓Go.Abs.wp_ops, ↓Go.Abs.wp_seq, ↓Go.Abs.wp_cond, ↓Go.Abs.wp_block, ↓Go.Abs.wp_exit, ↓Go.Abs.wp_ret, ↓Go.Abs.onEx_normal, ↓Go.Abs.onEx_exit, ↓Go.Abs.onEx_ret, ↓Go.Abs.onBlk_normal, ↓Go.Abs.onBlk_ret, ↓Go.Abs.onBlk_miss, ↓Go.Abs.wpOp_call, ↓Go.Abs.wpOp_mov, ↓Go.Abs.wpOp_pick, ↓Go.Abs.wpOp_new, ↓Go.Abs.wpOp_bin, ↓Go.Abs.wpOp_not, ↓Go.Abs.wpOp_neg, ↓Go.Abs.wpOp_conv, ↓Go.Abs.wpOp_ext, ↓Go.Abs.wpOp_lenS, ↓Go.Abs.look_hit, ↓Go.Abs.lkF_hit, ↓Go.Abs.setF_hit, ↓Go.Abs.onBlk_hit, Go.Abs.andThen_some, Go.Abs.andThen_none, Go.Abs.setF_nil, Go.Abs.sNot_bool, Go.Abs.sNeg_int, Go.Abs.sConv_int, Go.Abs.sExt_tu, Go.Abs.sLen_sl, Go.Abs.sLen_nil, Go.Abs.sLen_esl, Go.Abs.sBin_lss, Go.Abs.sBin_leq, Go.Abs.sBin_gtr, Go.Abs.sBin_geq, Go.Abs.sBin_eql, Go.Abs.sBin_neq, Go.Abs.sBin_add, Go.Abs.sBin_sub, Go.Abs.sBin_mul, Go.Abs.sresVs_nil, Go.Abs.sresVs_tmp, Go.Abs.elem_hit, Go.Abs.elem_miss, Go.Abs.elem_nil, Go.Abs.initS_nil, Go.Abs.initS_cons, Option.map_some, Option.map_none, List.map_cons, List.map_nil, List.nil_append, List.append_nil, List.cons_append, Nat.reduceBEq, List.getElem?_cons_zero, List.getElem?_cons_succ, List.getElem?_nil, Option.getD_some, Option.getD_none, Go.Abs.ifThen_true, Go.Abs.ifThen_false, Go.Abs.resOf, Go.Abs.leave, cond_false, cond_true, and_true, true_and, ↓Go.Abs.wpOp_load, ↓Go.Abs.wpOp_ixS, Go.Abs.idx?_nat, Go.Abs.sLoad_ptr, ↓Go.Abs.wpOp_mks, ↓Go.Abs.wpOp_store, Go.Abs.int?_int, Go.Abs.sStore_int, Nat.zero_add, Nat.mul_one, ↓Go.Abs.wpOp_buildS, Go.Abs.sBS_2, Go.Abs.sLoad_cell, ↓Go.Abs.wpOp_app, ↓Go.Abs.wpOp_slice, ↓Go.Abs.wpOp_mn, ↓Go.Abs.wpOp_mx, Go.Abs.sMin_int, Go.Abs.sMax_int, Go.Abs.sBS_0, Go.Abs.sBS_1, Go.Abs.andT_some, ↓Go.Abs.wp_loopT, Go.Abs.sb_none, Go.Abs.sb_some, Int.reduceBEq, Int.reduceBNe, Int.reduceLT, Int.reduceLE, Int.reduceAdd, Int.reduceSub, Int.reduceMul, decide_true, decide_false, Bool.not_true, Bool.not_false, beq_self_eq_true, bne_self_eq_false, ↓Go.Abs.wpOp_slice3, and_self, Go.Abs.gT_t, Go.Abs.gT_f, Go.Abs.gT_u]
        obtain ⟨f, rfl⟩ : ∃ i, f = i + 1 := ⟨f - 1, by omega⟩
        have hst : kstep t x r = t ++ List.replicate j x := by rw [kstep, if_pos e2q, hjl]
        refine ⟨_, ?_, kstep t x r, y, x, r + 1, f, p, h2, _, _, _, _, _, _, rfl, ?_, rfl⟩
        · rw [hst]; omega
        refine ⟨?_, by rw [hst]; omega, fun z hz => ?_, hy, hx, by rw [hst]; omega, hg2, by rw [hst]; exact hO2, by rw [hst]; omega⟩
        · rw [← hk, kloop, if_pos e1q]
        · rw [hst] at hz
          rcases List.mem_append.1 hz with hz | hz
          · exact ht z hz
          · rw [List.mem_replicate] at hz
            rw [hz.2]
            exact hx
    · have hlen : 1 ≤ (x) ∧ (x) ≤ 9 := hx
      simp (disch := first | (simp only [Nat.reduceBEq, Go.Abs.elem_hit, Go.Abs.elem_miss, Go.Abs.elem_nil]; done) | omega) only [e2, Go.Abs.wrap_i64, Go.Abs.idx?_pos, Int.toNat_natCast, ↓Go.Abs.wpG_none, ↓Go.Abs.wpG_true, ↓Go.Abs.wpG_false, ↓Go.Abs.wpOps_nil, ↓Go.Abs.wpOps_cons, ↓Go.Abs.sput_some, ↓Go.Abs.sput_none, ↓Go.Abs.sev_t, ↓Go.Abs.sev_c, ↓Go.Abs.look_nil, ↓Go.Abs.look_miss, ↓Go.Abs.lkF_miss, ↓Go.Abs.lkF_nil, ↓Go.Abs.setF_miss, ↓Go.Abs.commitS_nil, ↓Go.Abs.commitS_in, ↓Go.Abs.commitS_out, ↓Go.Abs.wp_skip, ↓Go.Abs.wp_ops, ↓Go.Abs.wp_seq, ↓Go.Abs.wp_cond, ↓Go.Abs.wp_block, ↓Go.Abs.wp_exit, ↓Go.Abs.wp_ret, ↓Go.Abs.onEx_normal, ↓Go.Abs.onEx_exit, ↓Go.Abs.onEx_ret, ↓Go.Abs.onBlk_normal, ↓Go.Abs.onBlk_ret, ↓Go.Abs.onBlk_miss, ↓Go.Abs.wpOp_call, ↓Go.Abs.wpOp_mov, ↓Go.Abs.wpOp_pick, ↓Go.Abs.wpOp_new, ↓Go.Abs.wpOp_bin, ↓Go.Abs.wpOp_not, ↓Go.Abs.wpOp_neg, ↓Go.Abs.wpOp_conv, ↓Go.Abs.wpOp_ext, ↓Go.Abs.wpOp_lenS, ↓Go.Abs.look_hit, ↓Go.Abs.lkF_hit, ↓Go.Abs.setF_hit, ↓Go.Abs.onBlk_hit, Go.Abs.andThen_some, Go.Abs.andThen_none, Go.Abs.setF_nil, Go.Abs.sNot_bool, Go.Abs.sNeg_int, Go.Abs.sConv_int, Go.Abs.sExt_tu, Go.Abs.sLen_sl, Go.Abs.sLen_nil, Go.Abs.sLen_esl, Go.Abs.sBin_lss, Go.Abs.sBin_leq, Go.Abs.sBin_gtr, Go.Abs.sBin_geq, Go.Abs.sBin_eql, Go.Abs.sBin_neq, Go.Abs.sBin_add, Go.Abs.sBin_sub, Go.Abs.sBin_mul, Go.Abs.sresVs_nil, Go.Abs.sresVs_tmp, Go.Abs.elem_hit, Go.Abs.elem_miss, Go.Abs.elem_nil, Go.Abs.initS_nil, Go.Abs.initS_cons, Option.map_some, Option.map_none, List.map_cons, List.map_nil, List.nil_append, List.append_nil, List.cons_append, Nat.reduceBEq, List.getElem?_cons_zero, List.getElem?_cons_succ, List.getElem?_nil, Option.getD_some, Option.getD_none, Go.Abs.ifThen_true, Go.Abs.ifThen_false, Go.Abs.resOf, Go.Abs.leave, cond_false, cond_true, and_true, true_and, ↓Go.Abs.wpOp_load, ↓Go.Abs.wpOp_ixS, Go.Abs.idx?_nat, Go.Abs.sLoad_ptr, ↓Go.Abs.wpOp_mks, ↓Go.Abs.wpOp_store, Go.Abs.int?_int, Go.Abs.sStore_int, Nat.zero_add, Nat.mul_one, ↓Go.Abs.wpOp_buildS, Go.Abs.sBS_2, Go.Abs.sLoad_cell, ↓Go.Abs.wpOp_app, ↓Go.Abs.wpOp_slice, ↓Go.Abs.wpOp_mn, ↓Go.Abs.wpOp_mx, Go.Abs.sMin_int, Go.Abs.sMax_int, Go.Abs.sBS_0, Go.Abs.sBS_1, Go.Abs.andT_some, ↓Go.Abs.wp_loopT, Go.Abs.sb_none, Go.Abs.sb_some, Int.reduceBEq, Int.reduceBNe, Int.reduceLT, Int.reduceLE, Int.reduceAdd, Int.reduceSub, Int.reduceMul, decide_true, decide_false, Bool.not_true, Bool.not_false, beq_self_eq_true, bne_self_eq_false, ↓Go.Abs.wpOp_slice3, and_self, Go.Abs.gT_t, Go.Abs.gT_f, Go.Abs.gT_u]
      refine wloop (fun mm ss => ∃ (j : Nat) (p : AV) (h2 : Hp) (u20 u27 u34 : AV), (mm = (x).toNat - j) ∧ (j ≤ (x).toNat ∧ Grown h h2 ∧ Own h.next h2.blks .i64 p (t ++ List.replicate j x)) ∧ ss = { fr := [(0, .int .i64 a), (1, .int .i64 b), (2, .int .i64 n), (6, .nilsl), (7, p), (8, .int .i64 x), (9, .int .i64 y), (10, .int .i64 r), (11, .int .i64 (x)), (20, u20), (27, u27), (32, .int .i64 (x)), (33, .int .i64 j), (34, u34)], hp := h2 }) ((x).toNat) ?_ ?_
      ·
        refine ⟨0, q, h1, _, _, _, by omega, ⟨by omega, hg, by simpa using hO⟩, rfl⟩
      rintro nC sC ⟨j, p, h2, u20, u27, u34, hnC, ⟨hj, hg2, hO2⟩, rfl⟩
      have hl2 : (t ++ List.replicate j x).length = t.length + j := by simp
      obtain ⟨s3, h3, x1, x2, x3, x4⟩ := own_app1 (v := x) hok hg2 hO2 (by omega)
      simp (disch := first | (simp only [Nat.reduceBEq, Go.Abs.elem_hit, Go.Abs.elem_miss, Go.Abs.elem_nil]; done) | omega) only [Go.Abs.wrap_i64, Go.Abs.idx?_pos, Int.toNat_natCast, ↓Go.Abs.wpG_none, ↓Go.Abs.wpG_true, ↓Go.Abs.wpG_false, ↓Go.Abs.wpOps_nil, ↓Go.Abs.wpOps_cons, ↓Go.Abs.sput_some, ↓Go.Abs.sput_none, ↓Go.Abs.sev_t, ↓Go.Abs.sev_c, ↓Go.Abs.look_nil, ↓Go.Abs.look_miss, ↓Go.Abs.lkF_miss, ↓Go.Abs.lkF_nil, ↓Go.Abs.setF_miss, ↓Go.Abs.commitS_nil, ↓Go.Abs.commitS_in, ↓Go.Abs.commitS_out, ↓Go.Abs.wp_skip, ↓Go.Abs.wp_ops, ↓Go.Abs.wp_seq, ↓Go.Abs.wp_cond, ↓Go.Abs.wp_block, ↓Go.Abs.wp_exit, ↓Go.Abs.wp_ret, ↓Go.Abs.onEx_normal, ↓Go.Abs.onEx_exit, ↓Go.Abs.onEx_ret, ↓Go.Abs.onBlk_normal, ↓Go.Abs.onBlk_ret, ↓Go.Abs.onBlk_miss, ↓Go.Abs.wpOp_call, ↓Go.Abs.wpOp_mov, ↓Go.Abs.wpOp_pick, ↓Go.Abs.wpOp_new, ↓Go.Abs.wpOp_bin, ↓Go.Abs.wpOp_not, ↓Go.Abs.wpOp_neg, ↓Go.Abs.wpOp_conv, ↓Go.Abs.wpOp_ext, ↓Go.Abs.wpOp_lenS, ↓Go.Abs.look_hit, ↓Go.Abs.lkF_hit, ↓Go.Abs.setF_hit, ↓Go.Abs.onBlk_hit, Go.Abs.andThen_some, Go.Abs.andThen_none, Go.Abs.setF_nil, Go.Abs.sNot_bool, Go.Abs.sNeg_int, Go.Abs.sConv_int, Go.Abs.sExt_tu, Go.Abs.sLen_sl, Go.Abs.sLen_nil, Go.Abs.sLen_esl, Go.Abs.sBin_lss, Go.Abs.sBin_leq, Go.Abs.sBin_gtr, Go.Abs.sBin_geq, Go.Abs.sBin_eql, Go.Abs.sBin_neq, Go.Abs.sBin_add, Go.Abs.sBin_sub, Go.Abs.sBin_mul, Go.Abs.sresVs_nil, Go.Abs.sresVs_tmp, Go.Abs.elem_hit, Go.Abs.elem_miss, Go.Abs.elem_nil, Go.Abs.initS_nil, Go.Abs.initS_cons, Option.map_some, Option.map_none, List.map_cons, List.map_nil, List.nil_append, List.append_nil, List.cons_append, Nat.reduceBEq, List.getElem?_cons_zero, List.getElem?_cons_succ, List.getElem?_nil, Option.getD_some, Option.getD_none, Go.Abs.ifThen_true, Go.Abs.ifThen_false, Go.Abs.resOf, Go.Abs.leave, cond_false, cond_true, and_true, true_and, ↓Go.Abs.wpOp_load, ↓Go.Abs.wpOp_ixS, Go.Abs.idx?_nat, Go.Abs.sLoad_ptr, ↓Go.Abs.wpOp_mks, ↓Go.Abs.wpOp_store, Go.Abs.int?_int, Go.Abs.sStore_int, Nat.zero_add, Nat.mul_one, ↓Go.Abs.wpOp_buildS, Go.Abs.sBS_2, Go.Abs.sLoad_cell, ↓Go.Abs.wpOp_app, ↓Go.Abs.wpOp_slice, ↓Go.Abs.wpOp_mn, ↓Go.Abs.wpOp_mx, Go.Abs.sMin_int, Go.Abs.sMax_int, Go.Abs.sBS_0, Go.Abs.sBS_1, Go.Abs.andT_some, ↓Go.Abs.wp_loopT, Go.Abs.sb_none, Go.Abs.sb_some, Int.reduceBEq, Int.reduceBNe, Int.reduceLT, Int.reduceLE, Int.reduceAdd, Int.reduceSub, Int.reduceMul, decide_true, decide_false, Bool.not_true, Bool.not_false, beq_self_eq_true, bne_self_eq_false, ↓Go.Abs.wpOp_slice3, and_self, Go.Abs.gT_t, Go.Abs.gT_f, Go.Abs.gT_u]
      refine Go.Abs.ifThen_intro (fun e3 => ?_) (fun e3 => ?_) <;> have e3q := e3 <;> try simp [-List.getD_eq_getElem?_getD] at e3q
      · simp (disch := first | (simp only [Nat.reduceBEq, Go.Abs.elem_hit, Go.Abs.elem_miss, Go.Abs.elem_nil]; done) | omega) only [e3, x1, Go.Abs.wrap_i64, Go.Abs.idx?_pos, Int.toNat_natCast, ↓Go.Abs.wpG_none, ↓Go.Abs.wpG_true, ↓Go.Abs.wpG_false, ↓Go.Abs.wpOps_nil, ↓Go.Abs.wpOps_cons, ↓Go.Abs.sput_some, ↓Go.Abs.sput_none, ↓Go.Abs.sev_t, ↓Go.Abs.sev_c, ↓Go.Abs.look_nil, ↓Go.Abs.look_miss, ↓Go.Abs.lkF_miss, ↓Go.Abs.lkF_nil, ↓Go.Abs.setF_miss, ↓Go.Abs.commitS_nil, ↓Go.Abs.commitS_in, ↓Go.Abs.commitS_out, ↓Go.Abs.wp_skip, ↓Go.Abs.wp_ops, ↓Go.Abs.wp_seq, ↓Go.Abs.wp_cond, ↓Go.Abs.wp_block, ↓Go.Abs.wp_exit, ↓Go.Abs.wp_ret, ↓Go.Abs.onEx_normal, ↓Go.Abs.onEx_exit, ↓Go.Abs.onEx_ret, ↓Go.Abs.onBlk_normal, ↓Go.Abs.onBlk_ret, ↓Go.Abs.onBlk_miss, ↓Go.Abs.wpOp_call, ↓Go.Abs.wpOp_mov, ↓Go.Abs.wpOp_pick, ↓Go.Abs.wpOp_new, ↓Go.Abs.wpOp_bin, ↓Go.Abs.wpOp_not, ↓Go.Abs.wpOp_neg, ↓Go.Abs.wpOp_conv, ↓Go.Abs.wpOp_ext, ↓Go.Abs.wpOp_lenS, ↓Go.Abs.look_hit, ↓Go.Abs.lkF_hit, ↓Go.Abs.setF_hit, ↓Go.Abs.onBlk_hit, Go.Abs.andThen_some, Go.Abs.andThen_none, Go.Abs.setF_nil, Go.Abs.sNot_bool, Go.Abs.sNeg_int, Go.Abs.sConv_int, Go.Abs.sExt_tu, Go.Abs.sLen_sl, Go.Abs.sLen_nil, Go.Abs.sLen_esl, Go.Abs.sBin_lss, Go.Abs.sBin_leq, Go.Abs.sBin_gtr, Go.Abs.sBin_geq, Go.Abs.sBin_eql, Go.Abs.sBin_neq, Go.Abs.sBin_add, Go.Abs.sBin_sub, Go.Abs.sBin_mul, Go.Abs.sresVs_nil, Go.Abs.sresVs_tmp, Go.Abs.elem_hit, Go.Abs.elem_miss, Go.Abs.elem_nil, Go.Abs.initS_nil, Go.Abs.initS_cons, Option.map_some, Option.map_none, List.map_cons, List.map_nil, List.nil_append, List.append_nil, List.cons_append, Nat.reduceBEq, List.getElem?_cons_zero, List.getElem?_cons_succ, List.getElem?_nil, Option.getD_some, Option.getD_none, Go.Abs.ifThen_true, Go.Abs.ifThen_false, Go.Abs.resOf, Go.Abs.leave, cond_false, cond_true, and_true, true_and, ↓Go.Abs.wpOp_load, ↓Go.Abs.wpOp_ixS, Go.Abs.idx?_nat, Go.Abs.sLoad_ptr, ↓Go.Abs.wpOp_mks, ↓Go.Abs.wpOp_store, Go.Abs.int?_int, Go.Abs.sStore_int, Nat.zero_add, Nat.mul_one, ↓Go.Abs.wpOp_buildS, Go.Abs.sBS_2, Go.Abs.sLoad_cell, ↓Go.Abs.wpOp_app, ↓Go.Abs.wpOp_slice, ↓Go.Abs.wpOp_mn, ↓Go.Abs.wpOp_mx, Go.Abs.sMin_int, Go.Abs.sMax_int, Go.Abs.sBS_0, Go.Abs.sBS_1, Go.Abs.andT_some, ↓Go.Abs.wp_loopT, Go.Abs.sb_none, Go.Abs.sb_some, Int.reduceBEq, Int.reduceBNe, Int.reduceLT, Int.reduceLE, Int.reduceAdd, Int.reduceSub, Int.reduceMul, decide_true, decide_false, Bool.not_true, Bool.not_false, beq_self_eq_true, bne_self_eq_false, ↓Go.Abs.wpOp_slice3, and_self, Go.Abs.gT_t, Go.Abs.gT_f, Go.Abs.gT_u]
        refine ⟨_, ?_, j + 1, s3, h3, _, _, _, rfl, ?_, rfl⟩
        · omega
        refine ⟨by omega, x3, ?_⟩
        rw [List.replicate_succ', ← List.append_assoc]
        exact x2
      · have hjl : j = (x).toNat := by omega
        simp (disch := first | (simp only [Nat.reduceBEq, Go.Abs.elem_hit, Go.Abs.elem_miss, Go.Abs.elem_nil]; done) | omega) only [e3, Go.Abs.wrap_i64, Go.Abs.idx?_pos, Int.toNat_natCast, ↓Go.Abs.wpG_none, ↓Go.Abs.wpG_true, ↓Go.Abs.wpG_false, ↓Go.Abs.wpOps_nil, ↓Go.Abs.wpOps_cons, ↓Go.Abs.sput_some, ↓Go.Abs.sput_none, ↓Go.Abs.sev_t, ↓Go.Abs.sev_c, ↓Go.Abs.look_nil, ↓Go.Abs.look_miss, ↓Go.Abs.lkF_miss, ↓Go.Abs.lkF_nil, ↓Go.Abs.setF_miss, ↓Go.Abs.commitS_nil, ↓Go.Abs.commitS_in, ↓Go.Abs.commitS_out, ↓Go.Abs.wp_skip, ↓Go.Abs.wp_ops, ↓Go.Abs.wp_seq, ↓Go.Abs.wp_cond, ↓Go.Abs.wp_block, ↓Go.Abs.wp_exit, ↓Go.Abs.wp_ret, ↓Go.Abs.onEx_normal, ↓Go.Abs.onEx_exit, ↓Go.Abs.onEx_ret, ↓Go.Abs.onBlk_normal, ↓Go.Abs.onBlk_ret, ↓Go.Abs.onBlk_miss, ↓Go.Abs.wpOp_call, ↓Go.Abs.wpOp_mov, ↓Go.Abs.wpOp_pick, ↓Go.Abs.wpOp_new, ↓Go.Abs.wpOp_bin, ↓Go.Abs.wpOp_not, ↓Go.Abs.wpOp_neg, ↓Go.Abs.wpOp_conv, ↓Go.Abs.wpOp_ext, ↓Go.Abs.wpOp_lenS, ↓Go.Abs.look_hit, ↓Go.Abs.lkF_hit, ↓Go.Abs.setF_hit, ↓Go.Abs.onBlk_hit, Go.Abs.andThen_some, Go.Abs.andThen_none, Go.Abs.setF_nil, Go.Abs.sNot_bool, Go.Abs.sNeg_int, Go.Abs.sConv_int, Go.Abs.sExt_tu, Go.Abs.sLen_sl, Go.Abs.sLen_nil, Go.Abs.sLen_esl, Go.Abs.sBin_lss, Go.Abs.sBin_leq, Go.Abs.sBin_gtr, Go.Abs.sBin_geq, Go.Abs.sBin_eql, Go.Abs.sBin_neq, Go.Abs.sBin_add, Go.Abs.sBin_sub, Go.Abs.sBin_mul, Go.Abs.sresVs_nil, Go.Abs.sresVs_tmp, Go.Abs.elem_hit, Go.Abs.elem_miss, Go.Abs.elem_nil, Go.Abs.initS_nil, Go.Abs.initS_cons, Option.map_some, Option.map_none, List.map_cons, List.map_nil, List.nil_append, List.append_nil, List.cons_append, Nat.reduceBEq, List.getElem?_cons_zero, List.getElem?_cons_succ, List.getElem?_nil, Option.getD_some, Option.getD_none, Go.Abs.ifThen_true, Go.Abs.ifThen_false, Go.Abs.resOf, Go.Abs.leave, cond_false, cond_true, and_true, true_and, ↓Go.Abs.wpOp_load, ↓Go.Abs.wpOp_ixS, Go.Abs.idx?_nat, Go.Abs.sLoad_ptr, ↓Go.Abs.wpOp_mks, ↓Go.Abs.wpOp_store, Go.Abs.int?_int, Go.Abs.sStore_int, Nat.zero_add, Nat.mul_one, ↓Go.Abs.wpOp_buildS, Go.Abs.sBS_2, Go.Abs.sLoad_cell, ↓Go.Abs.wpOp_app, ↓Go.Abs.wpOp_slice, ↓Go.Abs.wpOp_mn, ↓Go.Abs.wpOp_mx, Go.Abs.sMin_int, Go.Abs.sMax_int, Go.Abs.sBS_0, Go.Abs.sBS_1, Go.Abs.andT_some, ↓Go.Abs.wp_loopT, Go.Abs.sb_none, Go.Abs.sb_some, Int.reduceBEq, Int.reduceBNe, Int.reduceLT, Int.reduceLE, Int.reduceAdd, Int.reduceSub, Int.reduceMul, decide_true, decide_false, Bool.not_true, Bool.not_false, beq_self_eq_true, bne_self_eq_false, ↓Go.Abs.wpOp_slice3, and_self, Go.Abs.gT_t, Go.Abs.gT_f, Go.Abs.gT_u]
        obtain ⟨f, rfl⟩ : ∃ i, f = i + 1 := ⟨f - 1, by omega⟩
        have hst : kstep t x r = t ++ List.replicate j x := by rw [kstep, if_neg (by omega), hjl]
        refine ⟨_, ?_, kstep t x r, y, x, r + 1, f, p, h2, _, _, _, _, _, _, rfl, ?_, rfl⟩
        · rw [hst]; omega
        refine ⟨?_, by rw [hst]; omega, fun z hz => ?_, hy, hx, by rw [hst]; omega, hg2, by rw [hst]; exact hO2, by rw [hst]; omega⟩
        · rw [← hk, kloop, if_pos e1q]
        · rw [hst] at hz
          rcases List.mem_append.1 hz with hz | hz
          · exact ht z hz
          · rw [List.mem_replicate] at hz
            rw [hz.2]
            exact hx
  · obtain ⟨v, hv1, hv2, hv3⟩ := own_pre_cap hO (show n ≤ t.length by omega)
    have hkt : kloop n n [] a b 0 = t := by
      rw [← hk]
      cases f with
      | zero => rfl
      | succ f => rw [kloop, if_neg (by omega)]
    simp (disch := first | (simp only [Nat.reduceBEq, Go.Abs.elem_hit, Go.Abs.elem_miss, Go.Abs.elem_nil]; done) | omega) only [e1, Go.Abs.wrap_i64, Go.Abs.idx?_pos, Int.toNat_natCast, ↓Go.Abs.wpG_none, ↓Go.Abs.wpG_true, ↓Go.Abs.wpG_false, ↓Go.Abs.wpOps_nil, ↓Go.Abs.wpOps_cons, ↓Go.Abs.sput_some, ↓Go.Abs.sput_none, ↓Go.Abs.sev_t, ↓Go.Abs.sev_c, ↓Go.Abs.look_nil, ↓Go.Abs.look_miss, ↓Go.Abs.lkF_miss, ↓Go.Abs.lkF_nil, ↓Go.Abs.setF_miss, ↓Go.Abs.commitS_nil, ↓Go.Abs.commitS_in, ↓Go.Abs.commitS_out, ↓Go.Abs.wp_skip, ↓Go.Abs.wp_ops, ↓Go.Abs.wp_seq, ↓Go.Abs.wp_cond, ↓Go.Abs.wp_block, ↓Go.Abs.wp_exit, ↓Go.Abs.wp_ret, ↓Go.Abs.onEx_normal, ↓Go.Abs.onEx_exit, ↓Go.Abs.onEx_ret, ↓Go.Abs.onBlk_normal, ↓Go.Abs.onBlk_ret, ↓Go.Abs.onBlk_miss, ↓Go.Abs.wpOp_call, ↓Go.Abs.wpOp_mov, ↓Go.Abs.wpOp_pick, ↓Go.Abs.wpOp_new, ↓Go.Abs.wpOp_bin, ↓Go.Abs.wpOp_not, ↓Go.Abs.wpOp_neg, ↓Go.Abs.wpOp_conv, ↓Go.Abs.wpOp_ext, ↓Go.Abs.wpOp_lenS, ↓Go.Abs.look_hit, ↓Go.Abs.lkF_hit, ↓Go.Abs.setF_hit, ↓Go.Abs.onBlk_hit, Go.Abs.andThen_some, Go.Abs.andThen_none, Go.Abs.setF_nil, Go.Abs.sNot_bool, Go.Abs.sNeg_int, Go.Abs.sConv_int, Go.Abs.sExt_tu, Go.Abs.sLen_sl, Go.Abs.sLen_nil, Go.Abs.sLen_esl, Go.Abs.sBin_lss, Go.Abs.sBin_leq, Go.Abs.sBin_gtr, Go.Abs.sBin_geq, Go.Abs.sBin_eql, Go.Abs.sBin_neq, Go.Abs.sBin_add, Go.Abs.sBin_sub, Go.Abs.sBin_mul, Go.Abs.sresVs_nil, Go.Abs.sresVs_tmp, Go.Abs.elem_hit, Go.Abs.elem_miss, Go.Abs.elem_nil, Go.Abs.initS_nil, Go.Abs.initS_cons, Option.map_some, Option.map_none, List.map_cons, List.map_nil, List.nil_append, List.append_nil, List.cons_append, Nat.reduceBEq, List.getElem?_cons_zero, List.getElem?_cons_succ, List.getElem?_nil, Option.getD_some, Option.getD_none, Go.Abs.ifThen_true, Go.Abs.ifThen_false, Go.Abs.resOf, Go.Abs.leave, cond_false, cond_true, and_true, true_and, ↓Go.Abs.wpOp_load, ↓Go.Abs.wpOp_ixS, Go.Abs.idx?_nat, Go.Abs.sLoad_ptr, ↓Go.Abs.wpOp_mks, ↓Go.Abs.wpOp_store, Go.Abs.int?_int, Go.Abs.sStore_int, Nat.zero_add, Nat.mul_one, ↓Go.Abs.wpOp_buildS, Go.Abs.sBS_2, Go.Abs.sLoad_cell, ↓Go.Abs.wpOp_app, ↓Go.Abs.wpOp_slice, ↓Go.Abs.wpOp_mn, ↓Go.Abs.wpOp_mx, Go.Abs.sMin_int, Go.Abs.sMax_int, Go.Abs.sBS_0, Go.Abs.sBS_1, Go.Abs.andT_some, ↓Go.Abs.wp_loopT, Go.Abs.sb_none, Go.Abs.sb_some, Int.reduceBEq, Int.reduceBNe, Int.reduceLT, Int.reduceLE, Int.reduceAdd, Int.reduceSub, Int.reduceMul, decide_true, decide_false, Bool.not_true, Bool.not_false, beq_self_eq_true, bne_self_eq_false, ↓Go.Abs.wpOp_slice3, and_self, Go.Abs.gT_t, Go.Abs.gT_f, Go.Abs.gT_u]
    rw [hv1]
    simp (disch := first | (simp only [Nat.reduceBEq, Go.Abs.elem_hit, Go.Abs.elem_miss, Go.Abs.elem_nil]; done) | omega) only [Go.Abs.wrap_i64, Go.Abs.idx?_pos, Int.toNat_natCast, ↓Go.Abs.wpG_none, ↓Go.Abs.wpG_true, ↓Go.Abs.wpG_false, ↓Go.Abs.wpOps_nil, ↓Go.Abs.wpOps_cons, ↓Go.Abs.sput_some, ↓Go.Abs.sput_none, ↓Go.Abs.sev_t, ↓Go.Abs.sev_c, ↓Go.Abs.look_nil, ↓Go.Abs.look_miss, ↓Go.Abs.lkF_miss, ↓Go.Abs.lkF_nil, ↓Go.Abs.setF_miss, ↓Go.Abs.commitS_nil, ↓Go.Abs.commitS_in, ↓Go.Abs.commitS_out, ↓Go.Abs.wp_skip, ↓Go.Abs.wp_ops, ↓Go.Abs.wp_seq, ↓Go.Abs.wp_cond, ↓Go.Abs.wp_block, ↓Go.Abs.wp_exit, ↓Go.Abs.wp_ret, ↓Go.Abs.onEx_normal, ↓Go.Abs.onEx_exit, ↓Go.Abs.onEx_ret, ↓Go.Abs.onBlk_normal, ↓Go.Abs.onBlk_ret, ↓Go.Abs.onBlk_miss, ↓Go.Abs.wpOp_call, ↓Go.Abs.wpOp_mov, ↓Go.Abs.wpOp_pick, ↓Go.Abs.wpOp_new, ↓Go.Abs.wpOp_bin, ↓Go.Abs.wpOp_not, ↓Go.Abs.wpOp_neg, ↓Go.Abs.wpOp_conv, ↓Go.Abs.wpOp_ext, ↓Go.Abs.wpOp_lenS, ↓Go.Abs.look_hit, ↓Go.Abs.lkF_hit, ↓Go.Abs.setF_hit, ↓Go.Abs.onBlk_hit, Go.Abs.andThen_some, Go.Abs.andThen_none, Go.Abs.setF_nil, Go.Abs.sNot_bool, Go.Abs.sNeg_int, Go.Abs.sConv_int, Go.Abs.sExt_tu, Go.Abs.sLen_sl, Go.Abs.sLen_nil, Go.Abs.sLen_esl, Go.Abs.sBin_lss, Go.Abs.sBin_leq, Go.Abs.sBin_gtr, Go.Abs.sBin_geq, Go.Abs.sBin_eql, Go.Abs.sBin_neq, Go.Abs.sBin_add, Go.Abs.sBin_sub, Go.Abs.sBin_mul, Go.Abs.sresVs_nil, Go.Abs.sresVs_tmp, Go.Abs.elem_hit, Go.Abs.elem_miss, Go.Abs.elem_nil, Go.Abs.initS_nil, Go.Abs.initS_cons, Option.map_some, Option.map_none, List.map_cons, List.map_nil, List.nil_append, List.append_nil, List.cons_append, Nat.reduceBEq, List.getElem?_cons_zero, List.getElem?_cons_succ, List.getElem?_nil, Option.getD_some, Option.getD_none, Go.Abs.ifThen_true, Go.Abs.ifThen_false, Go.Abs.resOf, Go.Abs.leave, cond_false, cond_true, and_true, true_and, ↓Go.Abs.wpOp_load, ↓Go.Abs.wpOp_ixS, Go.Abs.idx?_nat, Go.Abs.sLoad_ptr, ↓Go.Abs.wpOp_mks, ↓Go.Abs.wpOp_store, Go.Abs.int?_int, Go.Abs.sStore_int, Nat.zero_add, Nat.mul_one, ↓Go.Abs.wpOp_buildS, Go.Abs.sBS_2, Go.Abs.sLoad_cell, ↓Go.Abs.wpOp_app, ↓Go.Abs.wpOp_slice, ↓Go.Abs.wpOp_mn, ↓Go.Abs.wpOp_mx, Go.Abs.sMin_int, Go.Abs.sMax_int, Go.Abs.sBS_0, Go.Abs.sBS_1, Go.Abs.andT_some, ↓Go.Abs.wp_loopT, Go.Abs.sb_none, Go.Abs.sb_some, Int.reduceBEq, Int.reduceBNe, Int.reduceLT, Int.reduceLE, Int.reduceAdd, Int.reduceSub, Int.reduceMul, decide_true, decide_false, Bool.not_true, Bool.not_false, beq_self_eq_true, bne_self_eq_false, ↓Go.Abs.wpOp_slice3, and_self, Go.Abs.gT_t, Go.Abs.gT_f, Go.Abs.gT_u]
    refine ⟨_, rfl, ?_, ?_, hg.fields rfl rfl rfl rfl rfl rfl, hv3⟩
    · rw [kol, hkt]
      exact hv2
    · rw [kol, hkt]
      simp
      omega

end Go.Proofs.Ytogfojkjocbahaa
