/- Degrees, and colourings of the edges of multigraphs. -/
import Derived.Test.YtpfkmdbdafpadaaDoorPG
set_option linter.unusedSimpArgs false
set_option linter.unusedVariables false
set_option maxHeartbeats 4000000
set_option maxRecDepth 20000
namespace Go.Abs
/-- An array of numbers, a variable of one's own. -/
def ArrB (lim : Nat) (bs : List (Nat × Blk)) (id : Nat) (zs : List Int) : Prop := lkB bs id = some { cells := ints .i64 zs, ch := id, wr := true } ∧ lim ≤ id
theorem ArrB.ld {lim : Nat} {bs : List (Nat × Blk)} {id : Nat} {zs : List Int} (A : ArrB lim bs id zs) {i : Nat} (hi : i < zs.length) : cellB bs id i = some (.int .i64 (zs.getD i 0)) := by
  simp only [cellB, A.1, Option.bind_some]
  exact ints_get hi
theorem ArrB.sub {lim : Nat} {bs bs' : List (Nat × Blk)} {id : Nat} {zs : List Int} (A : ArrB lim bs id zs) (s : Sub bs bs') : ArrB lim bs' id zs := ⟨s _ _ A.1, A.2⟩
theorem ArrB.ints {lim : Nat} {bs : List (Nat × Blk)} {id n : Nat} {zs : List Int} (A : ArrB lim bs id zs) (hn : zs.length = n) : Ints bs .i64 (.sl id 0 n (some n) 1) zs := by
  subst hn
  refine ⟨by simp [ints_len], .inr ⟨id, 0, some zs.length, rfl, Nat.le_refl _, fun j hj => ?_⟩⟩
  simp only [cellB, A.1, Option.bind_some, Nat.zero_add]
theorem arr_set {h0 h : Hp} {id i : Nat} {zs : List Int} {v : Int} (ho : Hok h0) (g : Grown h0 h) (A : ArrB h0.next h.blks id zs) (hi : i < zs.length) :
    ∃ h', sStore 1 h (.int .i64 v) (.ptr id i) = some (.any, h') ∧ ArrB h0.next h'.blks id (zs.set i v) ∧ Grown h0 h' ∧ h'.next = h.next ∧ (∀ j d, j ≠ id → d.ch ≠ id → Abs.lkB h.blks j = some d → Abs.lkB h'.blks j = some d) := by
  obtain ⟨h', e, l1, o, k, n, ls, r⟩ := write_old (off := i) (vs := [.int .i64 v]) (g.ok ho) g.blks (fun x hx => (ho.blk hx).1) A.1 A.2 A.2 rfl (by simp [ints_len]; omega) rfl rfl
  refine ⟨h', ?_, ⟨?_, A.2⟩, ⟨o, by rw [n]; exact g.next, fun _ => k, by rw [ls]; exact g.loops⟩, n, fun j d hj hd hl => r j d hj hl hd⟩
  · simp only [sStore, AV.parts, List.length_singleton, Nat.beq_refl, cond_true, e, Option.map_some]
  · rw [l1]
    congr 2
    simp only [splice, Abs.ints, List.length_singleton, ← List.map_take, ← List.map_drop]
    rw [List.set_eq_take_append_cons_drop, if_pos hi]
    simp
end Go.Abs
namespace Go.Pa
open Go.Abs
def cnt6 (A : Nat → Int) (i : Nat) : List Int := (List.range 6).map fun v : Nat => ((deg A i v : Nat) : Int)
theorem cnt6_len {A : Nat → Int} {i : Nat} : (cnt6 A i).length = 6 := by simp [cnt6]
theorem cnt6_at {A : Nat → Int} {i v : Nat} (h : v < 6) : (cnt6 A i).getD v 0 = ((deg A i v : Nat) : Int) := by simp [cnt6, List.getD_eq_getElem?_getD, h]
theorem cnt6_step {A : Nat → Int} {i a : Nat} (h : A i = (a : Int)) (ha : a < 6) : (cnt6 A i).set a ((cnt6 A i).getD a 0 + 1) = cnt6 A (i + 1) := by
  rw [cnt6_at ha]
  refine List.ext_getElem (by simp [cnt6]) fun v h1 h2 => ?_
  rw [cnt6_len] at h2
  rw [List.getElem_set]
  simp only [cnt6, List.getElem_map, List.getElem_range, deg_succ, h]
  by_cases ev : a = v
  · subst ev
    simp
  · have : ¬ ((a : Int) = (v : Int)) := by omega
    rw [if_neg ev, if_neg this]
    simp
theorem cnt6_zero {A : Nat → Int} : cnt6 A 0 = [0, 0, 0, 0, 0, 0] := by simp [cnt6, deg, List.range, List.range.loop]
def dgU (E : List (Int × Int)) : Nat → Nat
  | 0 => 0
  | v + 1 => max (max (dgU E v) (degA E v)) (degB E v)
def dg (E : List (Int × Int)) : Nat := dgU E 6
theorem dgU_ge {E : List (Int × Int)} : ∀ {n v : Nat}, v < n → degA E v ≤ dgU E n ∧ degB E v ≤ dgU E n
  | 0, v, h => absurd h (by omega)
  | n + 1, v, h => by
    simp only [dgU]
    by_cases e : v = n
    · subst e; omega
    · have := dgU_ge (E := E) (n := n) (v := v) (by omega); omega
theorem dgU_hit {E : List (Int × Int)} : ∀ n, dgU E n = 0 ∨ ∃ v, v < n ∧ (degA E v = dgU E n ∨ degB E v = dgU E n)
  | 0 => .inl rfl
  | n + 1 => by
    simp only [dgU]
    by_cases h1 : dgU E n ≤ degA E n
    · by_cases h2 : degA E n ≤ degB E n
      · exact .inr ⟨n, by omega, .inr (by omega)⟩
      · exact .inr ⟨n, by omega, .inl (by omega)⟩
    · by_cases h2 : dgU E n ≤ degB E n
      · exact .inr ⟨n, by omega, .inr (by omega)⟩
      · rcases dgU_hit (E := E) n with h | ⟨v, hv, h⟩
        · left; omega
        · exact .inr ⟨v, by omega, by omega⟩
def GraphOK (a b : Int) (E : List (Int × Int)) : Prop := (1 ≤ a ∧ a ≤ 6) ∧ (1 ≤ b ∧ b ≤ 6) ∧ ∀ e ∈ E, (0 ≤ e.1 ∧ e.1 ≤ a - 1) ∧ (0 ≤ e.2 ∧ e.2 ≤ b - 1)
instance (a b : Int) (E : List (Int × Int)) : Decidable (GraphOK a b E) := inferInstanceAs (Decidable (_ ∧ _))
def In6 (E : List (Int × Int)) : Prop := ∀ e ∈ E, (0 ≤ e.1 ∧ e.1 < 6) ∧ (0 ≤ e.2 ∧ e.2 < 6)
theorem GraphOK.in6 {a b : Int} {E : List (Int × Int)} (h : GraphOK a b E) : In6 E := fun e he => by
  have := h.2.2 e he
  have h1 := h.1
  have h2 := h.2.1
  omega
theorem eg_mem {E : List (Int × Int)} {i : Nat} (h : i < E.length) : eg E i ∈ E := by
  simp [eg, List.getD_eq_getElem?_getD, List.getElem?_eq_getElem h]
theorem deg_none {A : Nat → Int} {x : Int} : ∀ n, (∀ i, i < n → A i ≠ x) → deg A n x = 0
  | 0, _ => by simp [deg]
  | n + 1, h => by rw [deg_succ, deg_none n fun i hi => h i (by omega), if_neg (h n (by omega))]
theorem In6.le {E : List (Int × Int)} (h : In6 E) (x : Int) : degA E x ≤ dg E ∧ degB E x ≤ dg E := by
  by_cases hx : 0 ≤ x ∧ x < 6
  · obtain ⟨v, rfl⟩ : ∃ v : Nat, x = v := ⟨x.toNat, by omega⟩
    exact dgU_ge (by omega)
  · constructor
    · rw [degA, deg_none _ fun i hi e => hx (by have := h _ (eg_mem hi); omega)]
      omega
    · rw [degB, deg_none _ fun i hi e => hx (by have := h _ (eg_mem hi); omega)]
      omega
theorem deg_le_n {A : Nat → Int} {x : Int} : ∀ n, deg A n x ≤ n
  | 0 => by simp [deg]
  | n + 1 => by rw [deg_succ]; have := deg_le_n (A := A) (x := x) n; split <;> omega
theorem dgU_le {E : List (Int × Int)} : ∀ n, dgU E n ≤ E.length
  | 0 => by simp [dgU]
  | n + 1 => by
    simp only [dgU]
    have h1 := dgU_le (E := E) n
    have h2 : degA E n ≤ E.length := deg_le_n _
    have h3 : degB E n ≤ E.length := deg_le_n _
    omega
/- The greatest of the first numbers. -/
def mxU (zs : List Int) : Nat → Int
  | 0 => zs.getD 0 0
  | i + 1 => max (mxU zs i) (zs.getD i 0)
theorem mxU_ge {zs : List Int} : ∀ {n j : Nat}, j < n → zs.getD j 0 ≤ mxU zs n
  | 0, j, h => absurd h (by omega)
  | n + 1, j, h => by
    simp only [mxU]
    by_cases e : j = n
    · subst e; omega
    · have := mxU_ge (zs := zs) (n := n) (j := j) (by omega); omega
theorem mxU_hit {zs : List Int} : ∀ n, ∃ j, (j = 0 ∨ j < n) ∧ mxU zs n = zs.getD j 0
  | 0 => ⟨0, .inl rfl, rfl⟩
  | n + 1 => by
    simp only [mxU]
    obtain ⟨j, h1, h2⟩ := mxU_hit (zs := zs) n
    by_cases h : mxU zs n ≤ zs.getD n 0
    · exact ⟨n, by omega, by omega⟩
    · exact ⟨j, by omega, by omega⟩
theorem dg_max (E : List (Int × Int)) : max (mxU (cnt6 (fun i => (eg E i).1) E.length) 6) (mxU (cnt6 (fun i => (eg E i).2) E.length) 6) = ((dg E : Nat) : Int) := by
  obtain ⟨j, hj, ej⟩ := mxU_hit (zs := cnt6 (fun i => (eg E i).1) E.length) 6
  obtain ⟨k, hk, ek⟩ := mxU_hit (zs := cnt6 (fun i => (eg E i).2) E.length) 6
  have hj6 : j < 6 := by omega
  have hk6 : k < 6 := by omega
  rw [cnt6_at hj6] at ej
  rw [cnt6_at hk6] at ek
  have h1 : degA E j ≤ dg E := (dgU_ge hj6).1
  have h2 : degB E k ≤ dg E := (dgU_ge hk6).2
  unfold degA at h1
  unfold degB at h2
  rcases dgU_hit (E := E) 6 with h | ⟨v, hv, h | h⟩
  · have : dg E = 0 := h
    omega
  · have g := mxU_ge (zs := cnt6 (fun i => (eg E i).1) E.length) hv
    rw [cnt6_at hv] at g
    have : degA E v = dg E := h
    unfold degA at this
    omega
  · have g := mxU_ge (zs := cnt6 (fun i => (eg E i).2) E.length) hv
    rw [cnt6_at hv] at g
    have : degB E v = dg E := h
    unfold degB at this
    omega
theorem color_ex {E : List (Int × Int)} (h : In6 E) : ∃ ys, ext E (dg E) E.length [] = some ys ∧ Prp E ys ∧ ys.length = E.length ∧ ∀ z ∈ ys, 0 ≤ z ∧ z < (dg E : Int) :=
  ext_konig (fun x => (h.le x).1) (fun x => (h.le x).2) (Nat.le_refl _)
end Go.Pa
