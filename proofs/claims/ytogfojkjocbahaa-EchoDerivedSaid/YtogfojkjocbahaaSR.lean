/- Slices that a function makes and appends to. -/
import Derived.Test.YtogfojkjocbahaaSQ
set_option linter.unusedVariables false
namespace Go.Abs
open Go

/-- A slice of ints of one's own: empty, or the beginning of a block that was made at c or later. -/
def Own (c : Nat) (bs : List (Nat × Blk)) (k : IntKind) (s : AV) (zs : List Int) : Prop :=
  (zs = [] ∧ s = .nilsl) ∨
  (∃ id b cap, s = .sl id 0 zs.length cap 1 ∧ lkB bs id = some b ∧ b.cells.take zs.length = ints k zs ∧ c ≤ id ∧ c ≤ b.ch ∧ b.wr = true ∧ (match cap with | none => zs ≠ [] ∧ b.cells.length = zs.length | some n => b.cells.length = n ∧ zs.length ≤ n))

theorem take_ints {k : IntKind} {cs : List AV} {zs : List Int} (h : cs.take zs.length = ints k zs) {i : Nat} (hi : i < zs.length) : cs[i]? = some (.int k (zs.getD i 0)) := by
  rw [← List.getElem?_take_of_lt hi, h, ints, List.getElem?_map, List.getElem?_eq_getElem hi, List.getD_eq_getElem?_getD, List.getElem?_eq_getElem hi]
  rfl

theorem Own.ints {c : Nat} {bs : List (Nat × Blk)} {k : IntKind} {s : AV} {zs : List Int} (O : Own c bs k s zs) : Ints bs k s zs := by
  rcases O with ⟨rfl, rfl⟩ | ⟨id, b, cap, rfl, h1, h2, _⟩
  · exact Ints.nil
  · refine Ints.sl rfl fun i hi => ?_
    rw [Nat.zero_add]
    simp only [cellB, h1, Option.bind_some]
    exact take_ints h2 hi

theorem Own.len {c : Nat} {bs : List (Nat × Blk)} {k : IntKind} {s : AV} {zs : List Int} (O : Own c bs k s zs) : ∀ h, sLen h s = some (.int .i64 zs.length, h) := O.ints.len

theorem Own.grown {c : Nat} {h h' : Hp} {k : IntKind} {s : AV} {zs : List Int} (O : Own c h.blks k s zs) (hok : Hok h) (g : Grown h h') : Own c h'.blks k s zs := by
  rcases O with h1 | ⟨id, b, cap, h1, h2, h3⟩
  · exact .inl h1
  · exact .inr ⟨id, b, cap, h1, by rw [g.lkB (hok _ (lkB_mem' h2)), h2], h3⟩

theorem Own.nil {c : Nat} {bs : List (Nat × Blk)} {k : IntKind} : Own c bs k .nilsl [] := .inl ⟨rfl, rfl⟩

/-- A block just made. -/
theorem Own.fresh {c n len cap : Nat} {bs : List (Nat × Blk)} {k : IntKind} {zs : List Int} {cs : List AV} (hc : c ≤ n) (hl : zs.length = len) (ht : cs.take len = Abs.ints k zs) (hn : cs.length = cap) (hle : len ≤ cap) :
    Own c ((n, { cells := cs, ch := n, wr := true }) :: bs) k (.sl n 0 len (some cap) 1) zs := by
  subst hl
  exact .inr ⟨n, { cells := cs, ch := n, wr := true }, some cap, rfl, by simp only [lkB, Nat.beq_refl, cond_true], ht, hc, hc, rfl, hn, hle⟩

theorem setB_app {old : List (Nat × Blk)} {id : Nat} {v : Blk} (ho : ∀ x ∈ old, x.1 ≠ id) : ∀ new : List (Nat × Blk), setB (new ++ old) id v = setB new id v ++ old
  | [] => by
    simp only [List.nil_append, setB]
    induction old with
    | nil => rfl
    | cons x r ih =>
      obtain ⟨j, b⟩ := x
      simp only [setB, nb (ho (j, b) (by simp)), cond_false, ih fun x hx => ho x (by simp [hx])]
  | (j, b) :: r => by
    simp only [List.cons_append, setB]
    cases hb : Nat.beq j id
    · simp only [cond_false, setB_app ho r, List.cons_append]
    · simp only [cond_true, List.cons_append]

theorem trunc_app {c s n lim : Nat} {old : List (Nat × Blk)} (ho : ∀ x ∈ old, x.1 < lim) (hl : lim ≤ c) : ∀ new : List (Nat × Blk), (∀ x ∈ new, lim ≤ x.1) → ∃ new', trunc (new ++ old) c s n = new' ++ old ∧ (∀ x ∈ new', lim ≤ x.1) ∧ (∀ lim', (∀ x ∈ new, x.1 < lim') → ∀ x ∈ new', x.1 < lim')
  | [], _ => ⟨[], by simpa using trunc_old (fun x hx => Nat.lt_of_lt_of_le (ho x hx) hl), by simp, by simp⟩
  | (j, b) :: r, h => by
    obtain ⟨new', e, h1, h2⟩ := trunc_app (s := s) (n := n) ho hl r fun x hx => h x (by simp [hx])
    simp only [List.cons_append, trunc]
    cases hb : Nat.blt j c
    · refine ⟨_ :: new', by simp only [cond_false, e, List.cons_append]; rfl, fun x hx => ?_, fun lim' hlim x hx => ?_⟩
      · rcases List.mem_cons.1 hx with rfl | hx
        · exact h (j, b) (by simp)
        · exact h1 x hx
      · rcases List.mem_cons.1 hx with rfl | hx
        · exact hlim (j, b) (by simp)
        · exact h2 lim' (fun x hx => hlim x (by simp [hx])) x hx
    · refine ⟨(j, b) :: r, by simp, h, fun lim' hlim => hlim⟩

theorem all_cell_ints {k : IntKind} {zs : List Int} : (ints k zs).all AV.isCell = true := by
  simp [ints, AV.isCell]

theorem Grown.add {h0 h : Hp} (ho : Hok h0) (g : Grown h0 h) {b : Blk} {bs : List (Nat × Blk)} {ba : Nat} {es : Bool} (hb : ∃ new, bs = new ++ h0.blks ∧ (∀ x ∈ new, h0.next ≤ x.1) ∧ (Hok h → ∀ x ∈ bs, x.1 < h.next)) :
    Grown h0 { next := h.next + 1, blks := (h.next, b) :: bs, loops := h.loops, base := ba, esc := es } := by
  obtain ⟨new, e, h1, h2⟩ := hb
  refine ⟨⟨(h.next, b) :: new, by rw [e]; rfl, fun x hx => ?_⟩, Nat.le_succ_of_le g.next, fun ho' x hx => ?_, g.loops⟩
  · rcases List.mem_cons.1 hx with rfl | hx
    · exact g.next
    · exact h1 x hx
  · rcases List.mem_cons.1 hx with rfl | hx
    · exact Nat.lt_succ_self _
    · exact Nat.lt_succ_of_lt (h2 (g.ok ho) x hx)

/-- A write to a block of one's own. -/
theorem own_write {h0 h : Hp} (ho : Hok h0) (g : Grown h0 h) {id off : Nat} {b : Blk} {vs : List AV} (hb : Abs.lkB h.blks id = some b) (hid : h0.next ≤ id) (hch : h0.next ≤ b.ch) (hw : b.wr = true) (hoff : off + vs.length ≤ b.cells.length) (hc : vs.all AV.isCell = true) :
    ∃ h', h.write id off vs = some h' ∧ Abs.lkB h'.blks id = some { b with cells := splice b.cells off vs } ∧ Grown h0 h' ∧ h'.next = h.next := by
  obtain ⟨new, en, fn⟩ := g.blks
  obtain ⟨new', en', f1, f2⟩ := @trunc_app b.ch id off h0.next h0.blks (fun x hx => ho x hx) hch new fn
  have e1 : (b.wr && Nat.ble (off + vs.length) b.cells.length && vs.all AV.isCell) = true := by rw [hw, Nat.ble_eq_true_of_le hoff, hc]; rfl
  have hlk := lkB_trunc_some b.ch id off hb (.inr rfl)
  refine ⟨{ h with blks := setB (trunc h.blks b.ch id off) id { b with cells := splice b.cells off vs }, esc := h.esc || (Nat.blt id h.base && vs.any AV.hasRef) }, by simp only [Hp.write, hb, e1, cond_true], lkB_setB_same _ _ _ _ hlk, ⟨⟨setB new' id { b with cells := splice b.cells off vs }, ?_, fun x hx => ?_⟩, g.next, fun _ x hx => ?_, g.loops⟩, rfl⟩
  · simp only
    rw [en, en', setB_app fun x hx => by have := ho x hx; omega]
  · rcases setB_mem hx with hx | ⟨rfl, d, _⟩
    · exact f1 x hx
    · exact hid
  · simp only at hx
    have hk := g.ok ho
    rcases setB_mem hx with hx | ⟨e, d, _⟩
    · obtain ⟨y, hy, e, _⟩ := trunc_mem hx
      rw [← e]
      exact hk y hy
    · rw [e]
      exact hk (id, b) (lkB_mem' hb)

theorem splice_take {cs vs : List AV} {n : Nat} (h : n + vs.length ≤ cs.length) : (splice cs n vs).take (n + vs.length) = cs.take n ++ vs := by
  unfold splice
  rw [List.take_append_of_le_length (by simp; omega)]
  exact List.take_of_length_le (by simp; omega)

theorem splice_len {cs vs : List AV} {n : Nat} (h : n + vs.length ≤ cs.length) : (splice cs n vs).length = cs.length := by
  simp [splice]
  omega

/-- append to a slice of one's own. -/
theorem own_app {h0 h : Hp} {k : IntKind} {s x : AV} {zs xs : List Int} (ho : Hok h0) (g : Grown h0 h) (O : Own h0.next h.blks k s zs) (hx : Ints h.blks k x xs) (hl : zs.length + xs.length ≤ 1073741824) :
    ∃ s' h', sApp true 1 h s x = some (s', h') ∧ Own h0.next h'.blks k s' (zs ++ xs) ∧ Grown h0 h' ∧ (xs ≠ [] → s' ≠ .nilsl) := by
  have hsrc := hx.src h rfl
  simp only [sApp, hsrc]
  cases xs with
  | nil =>
    rw [List.append_nil]
    rcases O with ⟨rfl, rfl⟩ | ⟨id, b, cap, rfl, h2⟩
    · exact ⟨_, _, rfl, .inl ⟨rfl, rfl⟩, g, fun h => absurd rfl h⟩
    · exact ⟨_, _, rfl, .inr ⟨id, b, cap, rfl, h2⟩, g, fun h => absurd rfl h⟩
  | cons y ys =>
    have nz : Nat.beq (y :: ys).length 0 = false := (Eq.refl _).trans rfl
    have fresh : ∃ new, h.blks = new ++ h0.blks ∧ (∀ x ∈ new, h0.next ≤ x.1) ∧ (Hok h → ∀ x ∈ h.blks, x.1 < h.next) := by
      obtain ⟨new, e, f⟩ := g.blks
      exact ⟨new, e, f, fun h => h⟩
    have mk : ∀ (cs : List Int) (c : Nat) (bs), h0.next ≤ c → cs ≠ [] → Own h0.next ((h.next, { cells := ints k cs, ch := c, wr := true }) :: bs) k (.sl h.next 0 cs.length none 1) cs := fun cs c bs hc hne =>
      .inr ⟨h.next, { cells := ints k cs, ch := c, wr := true }, none, rfl, by simp only [lkB, Nat.beq_refl, cond_true], List.take_of_length_le (by simp [ints]), g.next, hc, rfl, hne, by simp [ints]⟩
    rcases O with ⟨rfl, rfl⟩ | ⟨id, b, cap, rfl, h2, h3, h4, h5, h6, h7⟩
    · simp only [List.length_nil, Nat.zero_add] at hl
      simp only [sAppend, nz, cond_false, Nat.ble_eq_true_of_le hl, all_cell_ints, Bool.and_self, cond_true, Hp.new]
      exact ⟨_, _, rfl, mk _ _ _ g.next (by simp), g.add ho fresh, fun _ e => by cases e⟩
    · have e1 : Nat.ble (zs.length + (y :: ys).length) 1073741824 = true := Nat.ble_eq_true_of_le hl
      have hlen : (ints k (y :: ys)).length = (y :: ys).length := by simp [ints]
      have e5 : zs.length + (y :: ys).length = (zs ++ y :: ys).length := by simp
      have e6 : ints k zs ++ ints k (y :: ys) = ints k (zs ++ y :: ys) := by simp [ints]
      cases cap with
      | none =>
        obtain ⟨hne, h7⟩ := h7
        have e2 : Nat.ble (0 + (zs.length + (y :: ys).length) * 1) b.cells.length = false := by
          rw [h7]
          cases hb : Nat.ble (0 + (zs.length + (y :: ys).length) * 1) zs.length
          · rfl
          · have := Nat.le_of_ble_eq_true hb
            simp at this
            omega
        have e3 : Nat.ble (zs.length * 1) b.cells.length = true := by rw [h7]; exact Nat.ble_eq_true_of_le (by omega)
        have e4 : b.cells.take (zs.length * 1) = ints k zs := by rw [Nat.mul_one]; exact h3
        simp only [sAppend, Nat.beq_refl, Bool.not_true, cond_false, nz, e1, all_cell_ints, Bool.and_self, h2, e2, Bool.and_false, h6, e3, cond_true, e4]
        obtain ⟨new, en, fn⟩ := g.blks
        have hf := @trunc_app b.ch h.next (zs.length * 1) h0.next h0.blks (fun x hx => ho x hx) h5 new fn
        obtain ⟨new', en', f1, f2⟩ := hf
        refine ⟨_, _, rfl, ?_, g.add ho ⟨new', by rw [en, en'], f1, fun hk x hx => ?_⟩, fun _ e => by cases e⟩
        · rw [e6, e5]
          exact mk _ _ _ h5 (by simp)
        · rw [en, en', List.mem_append] at hx
          rcases hx with hx | hx
          · exact f2 h.next (fun x hx => hk x (by rw [en]; simp [hx])) x hx
          · exact Nat.lt_of_lt_of_le (ho x hx) g.next
      | some n =>
        obtain ⟨h7, h8⟩ := h7
        simp only [sAppend, Nat.beq_refl, Bool.not_true, cond_false, nz, e1, all_cell_ints, Bool.and_self, h2]
        cases hf : Nat.ble (zs.length + (y :: ys).length) n
        · have e3 : slice? b.cells 0 (zs.length * 1) = some (ints k zs) := by
            simp only [slice?, Nat.mul_one, Nat.ble_eq_true_of_le (show 0 + zs.length ≤ b.cells.length by omega), cond_true, List.drop_zero, h3]
          simp only [cond_false, e3, Hp.new, e6, e5]
          exact ⟨_, _, rfl, mk _ _ _ g.next (by simp), g.add ho fresh, fun _ e => by cases e⟩
        · have hfit := Nat.le_of_ble_eq_true hf
          have hle : 0 + zs.length * 1 + (ints k (y :: ys)).length ≤ b.cells.length := by rw [hlen]; omega
          obtain ⟨h', w1, w2, w3, w4⟩ := own_write ho g h2 h4 h5 h6 hle all_cell_ints
          simp only [cond_true, w1, Option.map_some]
          refine ⟨_, _, rfl, .inr ⟨id, _, some n, by rw [e5], w2, ?_, h4, h5, h6, ?_, by rw [← e5]; exact hfit⟩, w3, fun _ e => by cases e⟩
          · rw [← e5, ← hlen, ← e6, show (0 + zs.length * 1) = zs.length by omega, ← h3]
            exact splice_take (by omega)
          · simp only
            rw [splice_len hle]
            exact h7

/-- A write to an element of a slice of one's own. -/
theorem own_set {h0 h : Hp} {k : IntKind} {s : AV} {zs : List Int} {i : Nat} {v : Int} (ho : Hok h0) (g : Grown h0 h) (O : Own h0.next h.blks k s zs) (hi : i < zs.length) :
    ∃ h', sStore 1 h (.int k v) (cellAt s i) = some (.any, h') ∧ Own h0.next h'.blks k s (zs.set i v) ∧ Grown h0 h' := by
  rcases O with ⟨rfl, _⟩ | ⟨id, b, cap, rfl, h2, h3, h4, h5, h6, h7⟩
  · simp at hi
  · have hlen : zs.length ≤ b.cells.length := by
      have := congrArg List.length h3
      simp only [List.length_take, ints, List.length_map] at this
      omega
    obtain ⟨h', w1, w2, w3, w4⟩ := own_write (off := 0 + i * 1) (vs := [.int k v]) ho g h2 h4 h5 h6 (by simp; omega) rfl
    refine ⟨h', by simp only [cellAt, sStore_int, w1, Option.map_some], .inr ⟨id, _, cap, by rw [List.length_set], w2, ?_, h4, h5, h6, ?_⟩, w3⟩
    · simp only [List.length_set]
      have hs : splice b.cells (0 + i * 1) [.int k v] = b.cells.set i (.int k v) := by
        rw [Nat.zero_add, Nat.mul_one]
        simp only [splice, List.length_singleton]
        rw [List.set_eq_take_append_cons_drop, if_pos (by omega)]
        simp
      rw [hs, List.take_set, h3, ints, ints, List.map_set]
    · have hl : (splice b.cells (0 + i * 1) [.int k v]).length = b.cells.length := splice_len (by simp; omega)
      cases cap with
      | none => exact ⟨fun e => h7.1 (by have := congrArg List.length e; simp at this; exact this), by simp only [hl, List.length_set]; exact h7.2⟩
      | some n => exact ⟨by simp only [hl]; exact h7.1, by simp only [List.length_set]; exact h7.2⟩

/-- append of one number. -/
theorem own_app1 {h0 h : Hp} {k : IntKind} {s : AV} {zs : List Int} {v : Int} (ho : Hok h0) (g : Grown h0 h) (O : Own h0.next h.blks k s zs) (hl : zs.length + 1 ≤ 1073741824) :
    ∃ s' h', sApp true 1 { next := h.next + 1, blks := (h.next, { cells := ints k [v], ch := h.next, wr := true }) :: h.blks, loops := h.loops, base := h.base, esc := h.esc } s (.sl h.next 0 1 (some 1) 1) = some (s', h') ∧
      Own h0.next h'.blks k s' (zs ++ [v]) ∧ Grown h0 h' ∧ s' ≠ .nilsl := by
  have g1 : Grown h { next := h.next + 1, blks := (h.next, { cells := ints k [v], ch := h.next, wr := true }) :: h.blks, loops := h.loops, base := h.base, esc := h.esc } := Grown.push
  obtain ⟨s', h', e, o, g', n⟩ := own_app (x := .sl h.next 0 1 (some 1) 1) (xs := [v]) ho (g.trans g1) (O.grown (g.ok ho) g1) (Ints.top rfl) (by simpa using hl)
  exact ⟨s', h', e, o, g', n (by simp)⟩

end Go.Abs
