/- The search for the first least order. -/
import Derived.Test.YtihadgkgogfhcaaQ7
set_option linter.unusedSimpArgs false
set_option linter.unusedVariables false
set_option maxHeartbeats 4000000
set_option maxRecDepth 20000
namespace Go.Abs
/-- append of a number in place. -/
theorem app_arr {h0 h : Hp} {id n : Nat} {b rest : List Int} {v : Int} (ho : Hok h0) (g : Grown h0 h) (A : ArrB h0.next h.blks id (b ++ rest)) (hn : (b ++ rest).length = n) (hl : b.length + 1 ≤ n) (hcap : n ≤ 1000) :
    ∃ h', sApp true 1 { next := h.next + 1, blks := (h.next, { cells := Abs.ints .i64 [v], ch := h.next, wr := true }) :: h.blks, loops := h.loops, base := h.base, esc := h.esc } (.sl id 0 b.length (some n) 1) (.sl h.next 0 1 (some 1) 1) = some (.sl id 0 (b.length + 1) (some n) 1, h') ∧
      ArrB h0.next h'.blks id ((b ++ [v]) ++ rest.drop 1) ∧ Grown h0 h' ∧ h.next ≤ h'.next ∧ (∀ j d, j ≠ id → d.ch ≠ id → Abs.lkB h.blks j = some d → Abs.lkB h'.blks j = some d) := by
  have hk := g.ok ho
  obtain ⟨h1, eh1⟩ : ∃ h1 : Hp, h1 = h.pu (Abs.ints .i64 [v]) := ⟨_, rfl⟩
  have g1 : Grown h0 h1 := by rw [eh1]; exact Grown.pu g refsOK_ints
  have s1 : Sub h.blks h1.blks := by rw [eh1]; exact Sub.pu hk
  have a1 : Arr h1.blks 1 (.sl h.next 0 1 (some 1) 1) 1 (Abs.ints .i64 [v]) := by rw [eh1]; exact Ints.top rfl (Nat.le_refl 1)
  have n1 : h1.next = h.next + 1 := by rw [eh1]
  have e1 : ({ next := h.next + 1, blks := (h.next, { cells := Abs.ints .i64 [v], ch := h.next, wr := true }) :: h.blks, loops := h.loops, base := h.base, esc := h.esc } : Hp) = h1 := eh1.symm
  rw [e1]
  clear e1 eh1
  have hsrc := a1.src (by omega) h1 rfl
  have A1 := A.sub s1
  have nz : Nat.beq 1 0 = false := rfl
  have hc : (Abs.ints .i64 [v]).all AV.isCell = true := all_cell_ints
  have e2 : Nat.ble (b.length + 1) 1073741824 = true := Nat.ble_eq_true_of_le (by omega)
  have hf : Nat.ble (b.length + 1) n = true := Nat.ble_eq_true_of_le hl
  obtain ⟨h', e, l1, o, k, n', ls, r⟩ := write_old (off := 0 + b.length * 1) (vs := Abs.ints .i64 [v]) (g1.ok ho) g1.blks (fun x hx => (ho.blk hx).1) A1.1 A1.2 A1.2 rfl (by rw [ints_len, ints_len, hn, List.length_singleton]; omega) all_cell_ints refsOK_ints
  refine ⟨h', ?_, ⟨?_, A.2⟩, ⟨o, by rw [n']; exact g1.next, fun _ => k, by rw [ls]; exact g1.loops⟩, by omega, fun j d hj hd hl => r j d hj (s1 _ _ hl) hd⟩
  · simp only [sApp, hsrc, sAppend, Nat.beq_refl, Bool.not_true, cond_false, nz, e2, hc, Bool.and_self, A1.1, hf, cond_true, e, Option.map_some]
  · rw [l1]
    congr 2
    have : 0 + b.length * 1 = b.length := by omega
    rw [this]
    simp only [splice, ← ints_append, ints_len, List.length_singleton]
    rw [List.take_append_of_le_length (by rw [ints_len]; omega), List.take_of_length_le (by rw [ints_len]; omega)]
    congr 1
    rw [List.drop_append, List.drop_of_length_le (by rw [ints_len]; omega), List.nil_append, ints_len]
    rw [show b.length + 1 - b.length = 1 by omega]
    simp [ints, List.map_drop]
theorem Own.kept {id : Nat} {bs bs' : List (Nat × Blk)} {k : IntKind} {s : AV} {zs : List Int} (O : Own (id + 1) bs k s zs) (h : ∀ j d, j ≠ id → d.ch ≠ id → Abs.lkB bs j = some d → Abs.lkB bs' j = some d) : Own (id + 1) bs' k s zs := by
  obtain ⟨hl, O | ⟨i, b, cap, h1, h2, h3, h4, h5, h6⟩⟩ := O
  · exact ⟨hl, .inl O⟩
  · exact ⟨hl, .inr ⟨i, b, cap, h1, h i b (by omega) (by omega) h2, h3, h4, h5, h6⟩⟩
end Go.Abs
namespace Go.Ro
open Go.Abs Go.Pa
/- How far the search has come. -/
def key (B : Nat) : Nat → List Nat → Nat → Nat
  | m, [], u => (u + 1) * B ^ m
  | m + 1, x :: b, u => (x + 1) * B ^ (m + 1) + key B m b u
  | 0, _ :: _, _ => 0
theorem key_mono {B : Nat} (hB : 0 < B) : ∀ {m : Nat} {b : List Nat} {u v : Nat}, b.length ≤ m → u ≤ v → key B m b u ≤ key B m b v
  | m, [], u, v, _, h => by simp only [key]; exact Nat.mul_le_mul_right _ (by omega)
  | m + 1, x :: b, u, v, hl, h => by
    have := key_mono hB (m := m) (b := b) (by simpa using hl) h
    simp only [key]; omega
  | 0, _ :: _, _, _, hl, _ => by simp at hl
theorem key_push {B : Nat} (hB : 0 < B) : ∀ {m : Nat} {b : List Nat} {u : Nat}, b.length < m → key B m b u < key B m (b ++ [u]) 0
  | m + 1, [], u, _ => by
    have := Nat.pow_pos (n := m) hB
    simp only [List.nil_append, key]; omega
  | m + 1, x :: b, u, hl => by
    have := key_push hB (m := m) (b := b) (u := u) (by simpa using hl)
    simp only [List.cons_append, key]; omega
theorem key_pop {n : Nat} : ∀ {m : Nat} {b : List Nat} {l : Nat}, b.length < m → key (n + 2) m (b ++ [l]) n < key (n + 2) m b (l + 1)
  | m + 1, [], l, _ => by
    have := Nat.pow_pos (n := m) (show 0 < n + 2 by omega)
    have e : (n + 2) ^ (m + 1) = (n + 1) * (n + 2) ^ m + (n + 2) ^ m := by rw [Nat.pow_succ, Nat.mul_comm, Nat.add_mul, Nat.add_mul]; omega
    have e2 : (l + 1 + 1) * (n + 2) ^ (m + 1) = (l + 1) * (n + 2) ^ (m + 1) + (n + 2) ^ (m + 1) := by rw [Nat.add_mul _ 1, Nat.one_mul]
    simp only [List.nil_append, key]
    rw [e2]
    omega
  | m + 1, x :: b, l, hl => by
    have := key_pop (n := n) (m := m) (b := b) (l := l) (by simpa using hl)
    simp only [List.cons_append, key]; omega
theorem key_lt {n : Nat} : ∀ {m : Nat} {b : List Nat} {u : Nat}, b.length ≤ m → (∀ x ∈ b, x < n) → u ≤ n → key (n + 2) m b u < (n + 2) ^ (m + 1)
  | m, [], u, _, _, hu => by
    have := Nat.pow_pos (n := m) (show 0 < n + 2 by omega)
    have h1 : (u + 1) * (n + 2) ^ m ≤ (n + 1) * (n + 2) ^ m := Nat.mul_le_mul_right _ (by omega)
    have e : (n + 2) ^ (m + 1) = (n + 1) * (n + 2) ^ m + (n + 2) ^ m := by rw [Nat.pow_succ, Nat.mul_comm, Nat.add_mul, Nat.add_mul]; omega
    simp only [key]; omega
  | m + 1, x :: b, u, hl, hx, hu => by
    have ih := key_lt (m := m) (b := b) (u := u) (by simpa using hl) (fun y hy => hx y (by simp [hy])) hu
    have h0 := hx x (by simp)
    have h1 : (x + 1) * (n + 2) ^ (m + 1) ≤ n * (n + 2) ^ (m + 1) := Nat.mul_le_mul_right _ (by omega)
    have e : (n + 2) ^ (m + 1 + 1) = n * (n + 2) ^ (m + 1) + 2 * (n + 2) ^ (m + 1) := by rw [Nat.pow_succ, Nat.mul_comm, Nat.add_mul]
    have := Nat.pow_pos (n := m + 1) (show 0 < n + 2 by omega)
    simp only [key]; omega
theorem ofN_app {l m : List Nat} : ofN (l ++ m) = ofN l ++ ofN m := by simp [ofN]
theorem ofN_mem {l : List Nat} {x : Nat} : (x : Int) ∈ ofN l ↔ x ∈ l := by
  simp only [ofN, List.mem_map]
  constructor
  · rintro ⟨y, hy, e⟩
    rwa [show y = x by omega] at hy
  · exact fun h => ⟨x, h, rfl⟩
theorem ofN_nodup {l : List Nat} (h : l.Nodup) : (ofN l).Nodup := by
  unfold ofN
  rw [List.Nodup, List.pairwise_map]
  exact h.imp fun h e => h (by omega)
theorem ofN_lt {l : List Nat} {n : Nat} (h : ∀ x ∈ l, x < n) : ∀ z ∈ ofN l, 0 ≤ z ∧ z < (n : Int) := fun z hz => by
  obtain ⟨x, hx, rfl⟩ := List.mem_map.1 hz
  have := h x hx
  omega
theorem perm_id (n : Nat) : PermI n (ofN (List.range n)) := ⟨by rw [ofN_len, List.length_range], ofN_lt fun x hx => List.mem_range.1 hx, ofN_nodup List.nodup_range⟩
/- What is found so far, in memory. -/
def FndOK (id : Nat) (bs : List (Nat × Blk)) (lv : Int) (fv : AV) : Option (Int × List Int) → Prop
  | none => lv = 9223372036854775807 ∧ fv = .nilsl
  | some (v, zs) => lv = v ∧ Own (id + 1) bs .i64 fv zs
theorem FndOK.kept {id : Nat} {bs bs' : List (Nat × Blk)} {lv : Int} {fv : AV} : ∀ {o}, FndOK id bs lv fv o → (∀ j d, j ≠ id → d.ch ≠ id → Abs.lkB bs j = some d → Abs.lkB bs' j = some d) → FndOK id bs' lv fv o
  | none, h, _ => h
  | some (v, zs), h, k => ⟨h.1, h.2.kept k⟩
end Go.Ro
