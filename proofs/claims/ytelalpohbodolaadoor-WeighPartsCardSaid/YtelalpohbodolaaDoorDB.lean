/- Two slices of one's own, side by side. -/
import Derived.Test.YtelalpohbodolaaDoorSX
set_option linter.unusedSimpArgs false
set_option linter.unusedVariables false
set_option maxHeartbeats 4000000
namespace Go.Abs
theorem lkB_off {c s n id : Nat} {bs : List (Nat × Blk)} {b : Blk} (h : lkB bs id = some b) (hc : b.ch ≠ c) : lkB (trunc bs c s n) id = some b := by
  obtain ⟨b', e, hb⟩ := lkB_truncs (c := c) (s := s) (n := n) h
  rcases hb with rfl | ⟨h1, _⟩
  · exact e
  · exact absurd h1 hc
theorem write_off {h h' : Hp} {id off : Nat} {b : Blk} {vs : List AV} (hb : Abs.lkB h.blks id = some b) (e : h.write id off vs = some h') : Off (some b.ch) h.blks h'.blks := by
  intro id' x hx hne
  have hne' : x.ch ≠ b.ch := fun hh => hne (by rw [hh])
  have hid : id' ≠ id := fun hh => by
    subst hh
    rw [hb] at hx
    cases hx
    exact hne' rfl
  unfold Hp.write at e
  simp only [hb] at e
  cases hc : (b.wr && Nat.ble (off + vs.length) b.cells.length && vs.all AV.isCell)
  · rw [hc] at e
    cases e
  · rw [hc] at e
    cases e
    simp only
    rw [lkB_setB_other _ _ _ _ hid]
    exact lkB_off hx hne'
theorem own_appO {h0 h : Hp} {sz n m : Nat} {s x : AV} {cs xs : List AV} (ho : Hok h0) (g : Grown h0 h) (O : OwnA sz h0.next h.blks s n cs) (hx : Arr h.blks sz x m xs) (h0' : 0 < sz) (hc : xs.all AV.isCell = true) (hl : n + m ≤ 1073741824) :
    ∃ s' h', sApp true sz h s x = some (s', h') ∧ OwnA sz h0.next h'.blks s' (n + m) (cs ++ xs) ∧ Grown h0 h' ∧ Off (chOf h.blks s) h.blks h'.blks ∧ (chOf h'.blks s' = chOf h.blks s ∨ ∃ n, chOf h'.blks s' = some n ∧ h.next ≤ n) := by
  have hsrc := hx.src h0' h rfl
  have hk := g.ok ho
  have hr := hx.refs hk
  have hxl := hx.1
  have hcl := O.1
  simp only [sApp, hsrc]
  cases m with
  | zero =>
    have : xs = [] := List.length_eq_zero_iff.1 (by simpa using hxl)
    subst this
    rw [List.append_nil, Nat.add_zero]
    have O0 := O
    obtain ⟨hl, ⟨rfl, rfl⟩ | ⟨id, b, cap, rfl, h2⟩⟩ := O
    · exact ⟨_, _, rfl, O0, g, Off.refl, .inl rfl⟩
    · exact ⟨_, _, by simp only [sAppend, Nat.beq_refl, Bool.not_true, cond_false, cond_true], O0, g, Off.refl, .inl rfl⟩
  | succ m =>
    have nz : Nat.beq (m + 1) 0 = false := rfl
    have hp : 0 < (m + 1) * sz := Nat.mul_pos (Nat.succ_pos m) h0'
    have hlen : (cs ++ xs).length = (n + (m + 1)) * sz := by rw [List.length_append, hxl, hcl, ← Nat.add_mul]
    have mk : ∀ (c : Nat) (bs), h0.next ≤ c → OwnA sz h0.next ((h.next, { cells := cs ++ xs, ch := c, wr := true }) :: bs) (.sl h.next 0 (n + (m + 1)) none sz) (n + (m + 1)) (cs ++ xs) := fun c bs hc =>
      ⟨hlen, .inr ⟨h.next, { cells := cs ++ xs, ch := c, wr := true }, none, rfl, lkB_top, List.take_of_length_le (Nat.le_of_eq hlen), g.next, hc, rfl, by omega, hlen⟩⟩
    obtain ⟨hl', ⟨rfl, rfl⟩ | ⟨id, b, cap, rfl, h2, h3, h4, h5, h6, h7⟩⟩ := O
    · have : cs = [] := List.length_eq_zero_iff.1 (by simpa using hcl)
      subst this
      simp only [Nat.zero_add] at hl
      simp only [sAppend, nz, cond_false, Nat.ble_eq_true_of_le hl, hc, Bool.and_self, cond_true, Hp.new]
      have := mk h.next h.blks g.next
      simp only [List.nil_append, Nat.zero_add] at this ⊢
      exact ⟨_, _, rfl, this, GrownR.push g (refsOK_mono (Nat.le_succ _) hr) (Nat.le_refl _), Off.sub (Sub.push (Sub.refl _) (HokR.fresh hk)), .inr ⟨h.next, by simp only [chOf, lkB_top, Option.map_some], Nat.le_refl _⟩⟩
    · have e1 : Nat.ble (n + (m + 1)) 1073741824 = true := Nat.ble_eq_true_of_le hl
      have hcs : refsOK h.next cs = true := by
        rw [← h3]
        exact refsOK_sub (hk.get h2).2.2 fun a ha => List.mem_of_mem_take ha
      have ech : chOf h.blks (.sl id 0 n cap sz) = some b.ch := by simp only [chOf, h2, Option.map_some]
      rw [ech]
      cases cap with
      | none =>
        obtain ⟨hne, h7⟩ := h7
        have e2 : Nat.ble (0 + (n + (m + 1)) * sz) b.cells.length = false := by
          rw [h7]
          cases hb : Nat.ble (0 + (n + (m + 1)) * sz) (n * sz)
          · rfl
          · have := Nat.le_of_ble_eq_true hb
            rw [Nat.add_mul] at this
            omega
        have e3 : Nat.ble (n * sz) b.cells.length = true := by rw [h7]; exact Nat.ble_eq_true_of_le (by omega)
        simp only [sAppend, Nat.beq_refl, Bool.not_true, cond_false, nz, e1, hc, Bool.and_self, h2, e2, Bool.and_false, h6, e3, cond_true, h3]
        obtain ⟨new, en, fn⟩ := g.blks
        obtain ⟨new', en', f1⟩ := @trunc_app b.ch h.next (n * sz) h0.next h0.blks (fun x hx => (ho.blk hx).1) (by omega) new fn
        have gt : GrownR h0 h.next (Abs.trunc h.blks b.ch h.next (n * sz)) h.loops := ⟨⟨new', by rw [en, en'], f1⟩, g.next, fun _ => hk.trunc, g.loops⟩
        refine ⟨_, _, rfl, mk _ _ h5, gt.push (refsOK_mono (Nat.le_succ _) (refsOK_append hcs hr)) (by have := hk.get h2; omega), fun id' x hx hne => ?_, .inl (by simp only [chOf, lkB_top, Option.map_some])⟩
        rw [lkB_push (Nat.ne_of_lt (hk.get hx).1)]
        exact lkB_off hx fun hh => hne (by rw [hh])
      | some k =>
        obtain ⟨h7, h8⟩ := h7
        simp only [sAppend, Nat.beq_refl, Bool.not_true, cond_false, nz, e1, hc, Bool.and_self, h2]
        have hnk : n * sz ≤ k * sz := Nat.mul_le_mul_right sz h8
        cases hf : Nat.ble (n + (m + 1)) k
        · have e3 : slice? b.cells 0 (n * sz) = some cs := by
            simp only [slice?, Nat.ble_eq_true_of_le (show 0 + n * sz ≤ b.cells.length by omega), cond_true, List.drop_zero, h3]
          simp only [cond_false, e3, Hp.new]
          exact ⟨_, _, rfl, mk _ _ g.next, GrownR.push g (refsOK_mono (Nat.le_succ _) (refsOK_append hcs hr)) (Nat.le_refl _), Off.sub (Sub.push (Sub.refl _) (HokR.fresh hk)), .inr ⟨h.next, by simp only [chOf, lkB_top, Option.map_some], Nat.le_refl _⟩⟩
        · have hfit := Nat.le_of_ble_eq_true hf
          have hfs : (n + (m + 1)) * sz ≤ k * sz := Nat.mul_le_mul_right sz hfit
          have hle : 0 + n * sz + xs.length ≤ b.cells.length := by rw [hxl, h7]; rw [Nat.add_mul] at hfs; omega
          obtain ⟨h', w1, w2, w3, w4⟩ := own_write ho g h2 h4 h5 h6 hle hc hr
          have w5 := write_off h2 w1
          simp only [cond_true, w1, Option.map_some]
          refine ⟨_, _, rfl, ⟨hlen, .inr ⟨id, _, some k, rfl, w2, ?_, h4, h5, h6, ?_, hfit⟩⟩, w3, w5, .inl (by simp only [chOf, w2, Option.map_some])⟩
          · rw [Nat.zero_add, Nat.add_mul, ← hxl]
            simp only
            rw [splice_take (by omega), h3]
          · simp only
            rw [splice_len hle]
            exact h7

theorem OwnA.off {sz c n : Nat} {k : Option Nat} {bs bs' : List (Nat × Blk)} {s : AV} {cs : List AV} (O : OwnA sz c bs s n cs) (f : Off k bs bs') (hne : ∀ x, chOf bs s = some x → some x ≠ k) : OwnA sz c bs' s n cs ∧ chOf bs' s = chOf bs s := by
  obtain ⟨hl', ⟨rfl, rfl⟩ | ⟨id, b, cap, rfl, h2, h3⟩⟩ := O
  · exact ⟨⟨hl', .inl ⟨rfl, rfl⟩⟩, rfl⟩
  · have e := f id b h2 (hne b.ch (by simp only [chOf, h2, Option.map_some]))
    exact ⟨⟨hl', .inr ⟨id, b, cap, rfl, e, h3⟩⟩, by simp only [chOf, h2, e]⟩
theorem chA_lt {sz c n : Nat} {h : Hp} {s : AV} {cs : List AV} (hk : Hok h) (O : OwnA sz c h.blks s n cs) : ∀ x, chOf h.blks s = some x → x < h.next := fun x hx => by
  obtain ⟨hl', ⟨rfl, rfl⟩ | ⟨id, b, cap, rfl, h2, h3⟩⟩ := O
  · simp [chOf] at hx
  · simp only [chOf, h2, Option.map_some, Option.some.injEq] at hx
    have := hk.get h2
    omega
theorem chA_sub {sz c n : Nat} {bs bs' : List (Nat × Blk)} {s : AV} {cs : List AV} (O : OwnA sz c bs s n cs) (t : Sub bs bs') : chOf bs' s = chOf bs s := by
  obtain ⟨hl', ⟨rfl, rfl⟩ | ⟨id, b, cap, rfl, h2, h3⟩⟩ := O
  · rfl
  · simp only [chOf, h2, t _ _ h2]
/-- Two slices whose chains differ. -/
def Apart (bs : List (Nat × Blk)) (s t : AV) : Prop := ∀ x, chOf bs s = some x → chOf bs t ≠ some x
theorem Apart.symm {bs : List (Nat × Blk)} {s t : AV} (a : Apart bs s t) : Apart bs t s := fun x hx hy => a x hy hx
/-- append of one element, beside another slice. -/
theorem own_app1O {h0 h : Hp} {k : IntKind} {s t : AV} {zs : List Int} {v : Int} {sz n : Nat} {cs : List AV} (ho : Hok h0) (g : Grown h0 h) (O : Own h0.next h.blks k s zs) (T : OwnA sz h0.next h.blks t n cs) (A : Apart h.blks s t) (hl : zs.length + 1 ≤ 1073741824) :
    ∃ s' h', sApp true 1 { next := h.next + 1, blks := (h.next, { cells := Abs.ints k [v], ch := h.next, wr := true }) :: h.blks, loops := h.loops, base := h.base, esc := h.esc } s (.sl h.next 0 1 (some 1) 1) = some (s', h') ∧
      Own h0.next h'.blks k s' (zs ++ [v]) ∧ Grown h0 h' ∧ OwnA sz h0.next h'.blks t n cs ∧ Apart h'.blks s' t := by
  have g1 : Grown h0 { next := h.next + 1, blks := (h.next, { cells := Abs.ints k [v], ch := h.next, wr := true }) :: h.blks, loops := h.loops, base := h.base, esc := h.esc } := GrownR.push g refsOK_ints (Nat.le_refl _)
  have s1 : Sub h.blks ((h.next, { cells := Abs.ints k [v], ch := h.next, wr := true }) :: h.blks) := Sub.push (Sub.refl _) (HokR.fresh (g.ok ho))
  have O1 := OwnA.sub O s1
  have T1 := OwnA.sub T s1
  have cO := chA_sub O s1
  have cT := chA_sub T s1
  obtain ⟨s', h', e, o, g', f, cc⟩ := own_appO (x := .sl h.next 0 1 (some 1) 1) (xs := Abs.ints k [v]) (m := 1) ho g1 O1 (Ints.top rfl (Nat.le_refl 1)) (by omega) all_cell_ints (by simpa using hl)
  simp only at f cc
  obtain ⟨T2, c2⟩ := T1.off f fun x hx hh => by rw [cO] at hh; rw [cT] at hx; exact A x hh.symm hx
  refine ⟨s', h', e, ?_, g', T2, fun x hx hy => ?_⟩
  · unfold Own
    rw [List.length_append, ← ints_append]
    exact o
  · rw [c2, cT] at hy
    rcases cc with hh | ⟨y, hh, hge⟩
    · rw [hh, cO] at hx; exact A x hx hy
    · rw [hh] at hx
      cases hx
      have := chA_lt (g.ok ho) T x hy
      omega
theorem own_appP1O {h0 h : Hp} {s t : AV} {l : List (Int × Int)} {a b : Int} {sz n : Nat} {cs : List AV} (ho : Hok h0) (g : Grown h0 h) (O : OwnP h0.next h.blks s l) (T : OwnA sz h0.next h.blks t n cs) (A : Apart h.blks s t) (hl : l.length + 1 ≤ 1073741824) :
    ∃ s' h', sApp true 2 { next := h.next + 1, blks := (h.next, { cells := [.int .i64 a, .int .i64 b], ch := h.next, wr := true }) :: h.blks, loops := h.loops, base := h.base, esc := h.esc } s (.sl h.next 0 1 (some 1) 2) = some (s', h') ∧
      OwnP h0.next h'.blks s' (l ++ [(a, b)]) ∧ Grown h0 h' ∧ OwnA sz h0.next h'.blks t n cs ∧ Apart h'.blks s' t := by
  have g1 : Grown h0 { next := h.next + 1, blks := (h.next, { cells := [.int .i64 a, .int .i64 b], ch := h.next, wr := true }) :: h.blks, loops := h.loops, base := h.base, esc := h.esc } := GrownR.push g rfl (Nat.le_refl _)
  have s1 : Sub h.blks ((h.next, { cells := [.int .i64 a, .int .i64 b], ch := h.next, wr := true }) :: h.blks) := Sub.push (Sub.refl _) (HokR.fresh (g.ok ho))
  have O1 := OwnA.sub O s1
  have T1 := OwnA.sub T s1
  have cO := chA_sub O s1
  have cT := chA_sub T s1
  have hx : Pairs ((h.next, { cells := [.int .i64 a, .int .i64 b], ch := h.next, wr := true }) :: h.blks) (.sl h.next 0 1 (some 1) 2) [(a, b)] := by
    have := Pairs.top (bs := h.blks) (n := h.next) (len := 1) (c := h.next) (cap := some 1) (w := true) (l := [(a, b)]) rfl (Nat.le_refl 1)
    rwa [show pairs [(a, b)] = [.int .i64 a, .int .i64 b] from rfl] at this
  obtain ⟨s', h', e, o, g', f, cc⟩ := own_appO (x := .sl h.next 0 1 (some 1) 2) (xs := pairs [(a, b)]) (m := 1) ho g1 O1 hx (by omega) all_cell_pairs (by simpa using hl)
  simp only at f cc
  obtain ⟨T2, c2⟩ := T1.off f fun x hx hh => by rw [cO] at hh; rw [cT] at hx; exact A x hh.symm hx
  refine ⟨s', h', e, ?_, g', T2, fun x hx hy => ?_⟩
  · unfold OwnP
    rw [List.length_append, pairs_append]
    exact o
  · rw [c2, cT] at hy
    rcases cc with hh | ⟨y, hh, hge⟩
    · rw [hh, cO] at hx; exact A x hx hy
    · rw [hh] at hx
      cases hx
      have := chA_lt (g.ok ho) T x hy
      omega
end Go.Abs
