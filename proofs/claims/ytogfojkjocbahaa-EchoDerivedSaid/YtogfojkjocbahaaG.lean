/- Each operation does to a world what the abstract operation says (2): the operations one by one. -/
import Derived.Test.YtogfojkjocbahaaF
namespace Go.Abs
open Go Go.RowKit

section
variable {P : Program} {base : Nat} {σ : Env} {w : World} {h : Hp}

theorem ev_sound {n : Nat} {f : Nat → AV} {a : Act} (hf : FR σ n f a.tmps) (x : Operand) : R σ (ev f x) (a.eval x) := by
  cases x with
  | tmp t => exact hf.2 t
  | const v => exact R_ofV σ v
  | global g => exact R_any
  | func f =>
    simp only [ev, R]
    exact ⟨#[], #[], rfl, by simp [Rs], by simp [Rs]⟩

theorem R_bool {t : Bool} {v : Value} (h : R σ (.bool t) v) : v = .bool t := by simpa [R] using h
theorem R_int {k : IntKind} {n : Int} {v : Value} (h : R σ (.int k n) v) : v = .int k n := by simpa [R] using h

theorem foldl_get (off : Nat) : ∀ (vs : List Value) (k : Nat) (cs : Array Value), off + k + vs.length ≤ cs.size →
    ((vs.zipIdx k).foldl (fun (cs : Array Value) (x : Value × Nat) => cs.setIfInBounds (off + x.2) x.1) cs).size = cs.size ∧
    ∀ j, ((vs.zipIdx k).foldl (fun (cs : Array Value) (x : Value × Nat) => cs.setIfInBounds (off + x.2) x.1) cs)[j]? = if j < off + k then cs[j]? else if j < off + k + vs.length then vs[j - (off + k)]? else cs[j]?
  | [], k, cs, h => by
    refine ⟨by simp, fun j => ?_⟩
    simp only [List.zipIdx_nil, List.foldl_nil, List.length_nil, Nat.add_zero]
    split <;> rfl
  | v :: r, k, cs, h => by
    simp only [List.length_cons] at h
    simp only [List.zipIdx_cons, List.foldl_cons]
    obtain ⟨h1, h2⟩ := foldl_get off r (k + 1) (cs.setIfInBounds (off + k) v) (by simp; omega)
    refine ⟨by rw [h1]; simp, fun j => ?_⟩
    rw [h2 j]
    simp only [List.length_cons]
    by_cases hj : j < off + k
    · rw [if_pos (by omega), if_pos hj, Array.getElem?_setIfInBounds_ne (by omega)]
    · by_cases hj' : j = off + k
      · subst hj'
        rw [if_pos (by omega), if_neg (by omega), if_pos (by omega), Array.getElem?_setIfInBounds_self_of_lt (by omega)]
        simp
      · rw [if_neg (show ¬ j < off + (k + 1) by omega), if_neg hj]
        by_cases hl : j < off + k + (r.length + 1)
        · rw [if_pos (by omega), if_pos hl, show j - (off + k) = (j - (off + (k + 1))) + 1 by omega]
          simp
        · rw [if_neg (by omega), if_neg hl, Array.getElem?_setIfInBounds_ne (by omega)]

theorem fill_sound {pa pl : Nat → Option (Nat × Nat)} (hpl : ∀ i x, pa i = some x → pl i = some x) : ∀ {ps : List (Nat × AV)} {qs : List (Nat × Value)} {cells : List AV} {cs : Array Value} {out : List AV},
    ps.map (·.1) = qs.map (·.1) → Rs σ (ps.map (·.2)) (qs.map (·.2)) → Rs σ cells cs.toList → fillA pa cells ps = some out → ∃ r, Instr.fill pl cs qs = some r ∧ Rs σ out r.toList
  | [], qs, cells, cs, out, h1, _, h3, h4 => by
    have : qs = [] := by simpa using h1.symm
    subst this
    simp only [fillA, Option.some.injEq] at h4
    subst h4
    exact ⟨cs, rfl, h3⟩
  | (i, v) :: ps, qs, cells, cs, out, h1, h2, h3, h4 => by
    cases qs with
    | nil => simp at h1
    | cons q qs =>
      obtain ⟨i', u⟩ := q
      simp only [List.map_cons, List.cons.injEq] at h1 h2
      obtain ⟨rfl, h1⟩ := h1
      simp only [Rs, List.cons.injEq] at h2
      obtain ⟨u', m', ⟨rfl, rfl⟩, hu, h2⟩ := h2
      simp only [fillA] at h4
      split at h4
      · rename_i off size vs hp hvs
        cases hc : (Nat.beq vs.length size && Nat.ble (off + vs.length) cells.length)
        · simp [hc] at h4
        · simp only [hc, cond_true] at h4
          simp only [Bool.and_eq_true] at hc
          have hs1 := Nat.eq_of_beq_eq_true hc.1
          have hs2 := Nat.le_of_ble_eq_true hc.2
          have hpu := R.parts hvs hu
          have hlu := hpu.length
          have hlc := h3.length
          simp only [Array.length_toList] at hlu hlc
          have hidx := foldl_get off u.cells.toList 0 cs (by simp; omega)
          have hfold : u.cells.zipIdx.foldl (fun (cs : Array Value) (x : Value × Nat) => cs.setIfInBounds (off + x.2) x.1) cs =
              (u.cells.toList.zipIdx 0).foldl (fun (cs : Array Value) (x : Value × Nat) => cs.setIfInBounds (off + x.2) x.1) cs := by
            rw [← Array.foldl_toList, Array.toList_zipIdx]
          simp only [Instr.fill, hpl _ _ hp]
          have hcond : (decide (u.cells.size ≠ size) || decide (off + u.cells.size > cs.size)) = false := by
            simp; omega
          rw [hcond]
          simp only [Bool.false_eq_true, if_false]
          refine fill_sound hpl h1 h2 (cells := splice cells off vs) ?_ h4
          rw [hfold]
          refine Rs.mk (by simp only [Array.length_toList, hidx.1]; simp [splice]; omega) fun j a x ha hx => ?_
          rw [splice_get _ _ _ hs2] at ha
          rw [Array.getElem?_toList, hidx.2 j] at hx
          simp only [Nat.add_zero, Array.length_toList] at hx
          by_cases hj : j < off
          · rw [if_pos hj] at ha hx
            obtain ⟨y, hy, hr⟩ := h3.get ha
            rw [Array.getElem?_toList, hx] at hy
            cases hy
            exact hr
          · by_cases hj' : j < off + vs.length
            · rw [if_neg hj, if_pos hj'] at ha
              rw [if_neg hj, if_pos (by omega)] at hx
              obtain ⟨y, hy, hr⟩ := hpu.get ha
              rw [hx] at hy
              cases hy
              exact hr
            · rw [if_neg hj, if_neg hj'] at ha
              rw [if_neg hj, if_neg (by omega)] at hx
              obtain ⟨y, hy, hr⟩ := h3.get ha
              rw [Array.getElem?_toList, hx] at hy
              cases hy
              exact hr
      · cases h4

theorem repl_get : ∀ (z : List AV) (n j : Nat), (repl z n)[j]? = if j < n * z.length then z[j % z.length]? else none
  | z, 0, j => by simp [repl]
  | z, n + 1, j => by
    simp only [repl]
    by_cases h1 : j < z.length
    · rw [List.getElem?_append_left h1, if_pos (by rw [Nat.add_mul]; omega), Nat.mod_eq_of_lt h1]
    · rw [List.getElem?_append_right (by omega), repl_get z n (j - z.length)]
      have hz : z.length ≤ j := by omega
      rw [show (n + 1) * z.length = n * z.length + z.length by rw [Nat.add_mul]; omega]
      by_cases h2 : j < n * z.length + z.length
      · rw [if_pos (by omega), if_pos h2, ← Nat.mod_eq_sub_mod hz]
      · rw [if_neg (by omega), if_neg h2]

theorem repl_length (z : List AV) (n : Nat) : (repl z n).length = n * z.length := by
  induction n with
  | zero => simp [repl]
  | succ n ih => simp [repl, ih, Nat.add_mul]; omega

theorem repl_sound {z : List AV} {zv : Array Value} (hz : Rs σ z zv.toList) (n m : Nat) (hm : m = n * z.length) :
    Rs σ (repl z n) ((Array.range m).map (zv[· % zv.size]!)).toList := by
  have hl := hz.length
  simp only [Array.length_toList] at hl
  refine Rs.mk (by simp [repl_length, hm]) fun j a v ha hv => ?_
  rw [repl_get] at ha
  split at ha
  · rename_i hj
    obtain ⟨u, hu, hr⟩ := hz.get ha
    have hpos : 0 < z.length := by
      rcases Nat.eq_zero_or_pos z.length with h | h
      · rw [h] at hj; simp at hj
      · exact h
    have hlt : j % z.length < z.length := Nat.mod_lt _ hpos
    simp only [Array.toList_map, Array.toList_range, List.getElem?_map, List.getElem?_range (show j < m by omega), Option.map_some, Option.some.injEq] at hv
    rw [hl] at hv
    rw [Array.getElem?_toList] at hu
    rw [getElem!_def, hu] at hv
    rw [← hv]
    exact hr
  · cases ha

end
end Go.Abs
