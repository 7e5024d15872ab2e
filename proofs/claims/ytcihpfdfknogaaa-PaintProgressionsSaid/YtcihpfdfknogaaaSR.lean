/- Slices that a function makes and appends to. -/
import Derived.Test.YtcihpfdfknogaaaSQ
set_option linter.unusedVariables false
namespace Go.Abs
open Go

/-- A slice of ints of one's own: empty, or the whole of a block whose chain began at c or later. -/
def Own (c : Nat) (bs : List (Nat × Blk)) (k : IntKind) (s : AV) (zs : List Int) : Prop :=
  (zs = [] ∧ (s = .nilsl ∨ s = .esl ∨ ∃ id b, s = .sl id 0 0 (some 0) 1 ∧ lkB bs id = some b)) ∨
  (zs ≠ [] ∧ ∃ id b, s = .sl id 0 zs.length none 1 ∧ lkB bs id = some b ∧ b.cells = ints k zs ∧ c ≤ b.ch ∧ b.wr = true)

theorem Own.ints {c : Nat} {bs : List (Nat × Blk)} {k : IntKind} {s : AV} {zs : List Int} (O : Own c bs k s zs) : Ints bs k s zs := by
  rcases O with ⟨rfl, rfl | rfl | ⟨id, b, rfl, _⟩⟩ | ⟨_, id, b, rfl, h1, h2, _, _⟩
  · exact Ints.nil
  · exact Ints.esl
  · exact Ints.sl rfl fun i hi => by omega
  · refine Ints.sl rfl fun i hi => ?_
    simp [cellB, h1, h2, Abs.ints, hi]

theorem Own.len {c : Nat} {bs : List (Nat × Blk)} {k : IntKind} {s : AV} {zs : List Int} (O : Own c bs k s zs) : ∀ h, sLen h s = some (.int .i64 zs.length, h) := O.ints.len

theorem Own.grown {c : Nat} {h h' : Hp} {k : IntKind} {s : AV} {zs : List Int} (O : Own c h.blks k s zs) (hok : Hok h) (g : Grown h h') : Own c h'.blks k s zs := by
  have mv : ∀ {id b}, Abs.lkB h.blks id = some b → Abs.lkB h'.blks id = some b := fun e => by rw [g.lkB (hok _ (lkB_mem' e)), e]
  rcases O with ⟨rfl, h1 | h1 | ⟨id, b, h1, h2⟩⟩ | ⟨h0, id, b, h1, h2, h3⟩
  · exact .inl ⟨rfl, .inl h1⟩
  · exact .inl ⟨rfl, .inr (.inl h1)⟩
  · exact .inl ⟨rfl, .inr (.inr ⟨id, b, h1, mv h2⟩)⟩
  · exact .inr ⟨h0, id, b, h1, mv h2, h3⟩

theorem trunc_app {c s n lim : Nat} {old : List (Nat × Blk)} (ho : ∀ x ∈ old, x.1 < lim) (hl : lim ≤ c) : ∀ new : List (Nat × Blk), (∀ x ∈ new, lim ≤ x.1) → ∃ new', trunc (new ++ old) c s n = new' ++ old ∧ (∀ x ∈ new', lim ≤ x.1) ∧ (∀ lim', (∀ x ∈ new, x.1 < lim') → ∀ x ∈ new', x.1 < lim')
  | [], _ => ⟨[], by simpa using trunc_old (fun x hx => Nat.lt_of_lt_of_le (ho x hx) hl), by simp, by simp⟩
  | (j, b) :: r, h => by
    obtain ⟨new', e, h1, h2⟩ := trunc_app (s := s) (n := n) ho hl r fun x hx => h x (by simp [hx])
    simp only [List.cons_append, trunc]
    cases hb : Nat.blt j c
    · refine ⟨_ :: new', by simp only [cond_false, e, List.cons_append]; rfl, fun x hx => ?_, fun lim' hlim x hx => ?_⟩
      · rcases List.mem_cons.1 hx with rfl | hx
        · exact h (j, b) (by simp)
        · exact h1 x hx
      · rcases List.mem_cons.1 hx with rfl | hx
        · exact hlim (j, b) (by simp)
        · exact h2 lim' (fun x hx => hlim x (by simp [hx])) x hx
    · refine ⟨(j, b) :: r, by simp, h, fun lim' hlim => hlim⟩

theorem all_cell_ints {k : IntKind} {zs : List Int} : (ints k zs).all AV.isCell = true := by
  simp [ints, AV.isCell]

theorem Grown.add {h0 h : Hp} (ho : Hok h0) (g : Grown h0 h) {b : Blk} {bs : List (Nat × Blk)} {ba : Nat} {es : Bool} (hb : ∃ new, bs = new ++ h0.blks ∧ (∀ x ∈ new, h0.next ≤ x.1) ∧ (Hok h → ∀ x ∈ bs, x.1 < h.next)) :
    Grown h0 { next := h.next + 1, blks := (h.next, b) :: bs, loops := h.loops, base := ba, esc := es } := by
  obtain ⟨new, e, h1, h2⟩ := hb
  refine ⟨⟨(h.next, b) :: new, by rw [e]; rfl, fun x hx => ?_⟩, Nat.le_succ_of_le g.next, fun ho' x hx => ?_, g.loops⟩
  · rcases List.mem_cons.1 hx with rfl | hx
    · exact g.next
    · exact h1 x hx
  · rcases List.mem_cons.1 hx with rfl | hx
    · exact Nat.lt_succ_self _
    · exact Nat.lt_succ_of_lt (h2 (g.ok ho) x hx)

/-- append to a slice of one's own. -/
theorem own_app {h0 h : Hp} {k : IntKind} {s x : AV} {zs xs : List Int} (ho : Hok h0) (g : Grown h0 h) (O : Own h0.next h.blks k s zs) (hx : Ints h.blks k x xs) (hl : zs.length + xs.length ≤ 1073741824) :
    ∃ s' h', sApp true 1 h s x = some (s', h') ∧ Own h0.next h'.blks k s' (zs ++ xs) ∧ Grown h0 h' ∧ (xs ≠ [] → s' ≠ .nilsl) := by
  have hsrc := hx.src h rfl
  simp only [sApp, hsrc]
  cases xs with
  | nil =>
    rw [List.append_nil]
    rcases O with ⟨rfl, rfl | rfl | ⟨id, b, rfl, hb⟩⟩ | ⟨h1, id, b, rfl, h2, h3⟩
    · exact ⟨_, _, rfl, .inl ⟨rfl, .inl rfl⟩, g, fun h => absurd rfl h⟩
    · exact ⟨_, _, rfl, .inl ⟨rfl, .inr (.inl rfl)⟩, g, fun h => absurd rfl h⟩
    · exact ⟨_, _, rfl, .inl ⟨rfl, .inr (.inr ⟨id, b, rfl, hb⟩)⟩, g, fun h => absurd rfl h⟩
    · exact ⟨_, _, rfl, .inr ⟨h1, id, b, rfl, h2, h3⟩, g, fun h => absurd rfl h⟩
  | cons y ys =>
    have nz : Nat.beq (y :: ys).length 0 = false := (Eq.refl _).trans rfl
    have fresh : ∃ new, h.blks = new ++ h0.blks ∧ (∀ x ∈ new, h0.next ≤ x.1) ∧ (Hok h → ∀ x ∈ h.blks, x.1 < h.next) := by
      obtain ⟨new, e, f⟩ := g.blks
      exact ⟨new, e, f, fun h => h⟩
    have mk : ∀ {cs : List Int} {c : Nat} {bs}, h0.next ≤ c → cs ≠ [] → Own h0.next ((h.next, { cells := ints k cs, ch := c, wr := true }) :: bs) k (.sl h.next 0 cs.length none 1) cs := fun hc hne =>
      .inr ⟨hne, h.next, { cells := ints k _, ch := _, wr := true }, rfl, by simp only [lkB, Nat.beq_refl, cond_true], rfl, hc, rfl⟩
    rcases O with ⟨rfl, rfl | rfl | ⟨id, b, rfl, hb⟩⟩ | ⟨h1, id, b, rfl, h2, h3, h4, h5⟩
    · simp only [List.length_nil, Nat.zero_add] at hl
      simp only [sAppend, nz, cond_false, Nat.ble_eq_true_of_le hl, all_cell_ints, Bool.and_self, cond_true, Hp.new]
      exact ⟨_, _, rfl, mk g.next (by simp), g.add ho fresh, fun _ e => by cases e⟩
    · simp only [List.length_nil, Nat.zero_add] at hl
      simp only [sAppend, nz, cond_false, Nat.ble_eq_true_of_le hl, all_cell_ints, Bool.and_self, cond_true, Hp.new]
      exact ⟨_, _, rfl, mk g.next (by simp), g.add ho fresh, fun _ e => by cases e⟩
    · simp only [List.length_nil, Nat.zero_add] at hl
      simp only [sAppend, nz, cond_false, Nat.beq_refl, Bool.not_true, Nat.zero_add, Nat.ble_eq_true_of_le hl, all_cell_ints, Bool.and_self, cond_true, Bool.not_true, hb, Nat.zero_mul]
      have e2 : Nat.ble (y :: ys).length 0 = false := (Eq.refl _).trans rfl
      have e3 : slice? b.cells 0 0 = some [] := by
        simp only [slice?, Nat.ble_eq_true_of_le (Nat.zero_le _ : 0 + 0 ≤ b.cells.length), cond_true, List.take_zero]
      simp only [e2, cond_false, e3, Hp.new, List.nil_append]
      exact ⟨_, _, rfl, mk g.next (by simp), g.add ho fresh, fun _ e => by cases e⟩
    · have e1 : Nat.ble (zs.length + (y :: ys).length) 1073741824 = true := Nat.ble_eq_true_of_le hl
      have e2 : Nat.ble (0 + (zs.length + (y :: ys).length) * 1) b.cells.length = false := by
        rw [h3]
        cases hb : Nat.ble (0 + (zs.length + (y :: ys).length) * 1) (ints k zs).length
        · rfl
        · have := Nat.le_of_ble_eq_true hb
          simp [ints] at this
          omega
      have e3 : Nat.ble (zs.length * 1) b.cells.length = true := by rw [h3]; exact Nat.ble_eq_true_of_le (by simp [ints])
      have e4 : b.cells.take (zs.length * 1) = ints k zs := by
        rw [h3, Nat.mul_one]
        exact List.take_of_length_le (by simp [ints])
      simp only [sAppend, Nat.beq_refl, Bool.not_true, cond_false, nz, e1, all_cell_ints, Bool.and_self, h2, e2, Bool.and_false, h5, e3, cond_true, e4]
      obtain ⟨new, en, fn⟩ := g.blks
      have hf := @trunc_app b.ch h.next (zs.length * 1) h0.next h0.blks (fun x hx => ho x hx) h4 new fn
      obtain ⟨new', en', f1, f2⟩ := hf
      refine ⟨_, _, rfl, ?_, g.add ho ⟨new', by rw [en, en'], f1, fun hk x hx => ?_⟩, fun _ e => by cases e⟩
      · rw [show ints k zs ++ ints k (y :: ys) = ints k (zs ++ y :: ys) by simp [ints], show zs.length + (y :: ys).length = (zs ++ y :: ys).length by simp]
        exact mk h4 (by simp)
      · rw [en, en', List.mem_append] at hx
        rcases hx with hx | hx
        · exact f2 h.next (fun x hx => hk x (by rw [en]; simp [hx])) x hx
        · exact Nat.lt_of_lt_of_le (ho x hx) g.next

end Go.Abs
