/- Slices that are appended to, and kept. Loops over functions: what a round does; calls over a state. -/
import Derived.Test.YtelalpohbodolaaDoorSR
set_option linter.unusedSimpArgs false
set_option linter.unusedVariables false
set_option maxHeartbeats 2000000
namespace Go.Abs

/-- The elder blocks are still there, though perhaps written to. -/
structure Elder (h h' : Hp) : Prop where
  blks : ∃ new old, h'.blks = new ++ old ∧ old.map (·.1) = h.blks.map (·.1) ∧ ∀ x ∈ new, h.next ≤ x.1
  next : h.next ≤ h'.next
theorem Elder.refl {h : Hp} : Elder h h := ⟨⟨[], h.blks, rfl, rfl, by simp⟩, Nat.le_refl _⟩
theorem Elder.en {h : Hp} : Elder h h.en := ⟨⟨[], h.blks, rfl, rfl, by simp⟩, Nat.le_refl _⟩
theorem Elder.of_en {h h' : Hp} (e : Elder h.en h') : Elder h h' := ⟨e.blks, e.next⟩
theorem Elder.trans {a b c : Hp} (e : Elder a b) (e' : Elder b c) : Elder a c := by
  obtain ⟨n1, o1, h1, m1, f1⟩ := e.blks
  obtain ⟨n2, o2, h2, m2, f2⟩ := e'.blks
  rw [h1, List.map_append] at m2
  have hl : (o2.take n1.length).map (·.1) = n1.map (·.1) := by
    rw [List.map_take, m2, List.take_left' (by simp)]
  have hr : (o2.drop n1.length).map (·.1) = o1.map (·.1) := by
    rw [List.map_drop, m2, List.drop_left' (by simp)]
  refine ⟨⟨n2 ++ o2.take n1.length, o2.drop n1.length, by rw [List.append_assoc, List.take_append_drop, h2], by rw [hr, m1], fun x hx => ?_⟩, Nat.le_trans e.next e'.next⟩
  rcases List.mem_append.1 hx with hx | hx
  · exact Nat.le_trans e.next (f2 x hx)
  · have : x.1 ∈ n1.map (·.1) := by rw [← hl]; exact List.mem_map_of_mem hx
    obtain ⟨y, hy, ey⟩ := List.mem_map.1 this
    rw [← ey]
    exact f1 y hy
theorem GrownR.elder {h h' : Hp} (g : Grown h h') : Elder h h' := by
  obtain ⟨new, e, f⟩ := g.blks
  exact ⟨⟨new, h.blks, e, rfl, f⟩, g.next⟩
theorem trunc_keys : ∀ (l : List (Nat × Blk)) (c s n : Nat), (trunc l c s n).map (·.1) = l.map (·.1)
  | [], _, _, _ => rfl
  | (j, b) :: r, c, s, n => by
    simp only [trunc]
    cases Nat.blt j c
    · simp only [cond_false, List.map_cons, trunc_keys r]
    · rfl
theorem setB_keys : ∀ (l : List (Nat × Blk)) (i : Nat) (v : Blk), (setB l i v).map (·.1) = l.map (·.1)
  | [], _, _ => rfl
  | (j, b) :: r, i, v => by
    simp only [setB]
    cases Nat.beq j i
    · simp only [cond_false, List.map_cons, setB_keys r]
    · rfl
/-- What truncation does to a block. -/
theorem lkB_truncs {c s n id : Nat} : ∀ {l : List (Nat × Blk)} {b : Blk}, lkB l id = some b → ∃ b', lkB (trunc l c s n) id = some b' ∧ (b' = b ∨ (b.ch = c ∧ b' = { b with cells := b.cells.take n }))
  | [], b, h => by simp [lkB] at h
  | (j, d) :: r, b, h => by
    simp only [trunc]
    cases hj : Nat.blt j c
    · simp only [cond_false]
      simp only [lkB] at h ⊢
      cases he : Nat.beq j id
      · rw [he] at h
        simp only [cond_false] at h ⊢
        exact lkB_truncs h
      · rw [he] at h
        simp only [cond_true, Option.some.injEq] at h ⊢
        subst h
        cases hq : (Nat.beq d.ch c && !Nat.beq j s)
        · exact ⟨_, rfl, .inl rfl⟩
        · simp only [Bool.and_eq_true] at hq
          exact ⟨_, rfl, .inr ⟨Nat.eq_of_beq_eq_true hq.1, rfl⟩⟩
    · exact ⟨b, h, .inl rfl⟩

/-- Empty, or a whole block that was made at c or later. -/
def OwnF (c : Nat) (bs : List (Nat × Blk)) (k : IntKind) (s : AV) (zs : List Int) : Prop :=
  (zs = [] ∧ s = .nilsl) ∨
  (∃ id b cap, s = .sl id 0 zs.length cap 1 ∧ lkB bs id = some b ∧ b.cells = ints k zs ∧ c ≤ id ∧ c ≤ b.ch ∧ b.wr = true ∧ 0 < zs.length ∧ (cap = none ∨ cap = some zs.length))
theorem OwnF.own {c : Nat} {bs : List (Nat × Blk)} {k : IntKind} {s : AV} {zs : List Int} (O : OwnF c bs k s zs) : Own c bs k s zs := by
  refine ⟨by simp [ints_len], ?_⟩
  obtain ⟨rfl, rfl⟩ | ⟨id, b, cap, rfl, h1, h2, h3, h4, h5, h6, h7⟩ := O
  · exact .inl ⟨rfl, rfl⟩
  · refine .inr ⟨id, b, cap, rfl, h1, by rw [h2, List.take_of_length_le (by simp [ints_len])], h3, h4, h5, ?_⟩
    rcases h7 with rfl | rfl
    · exact ⟨h6, by rw [h2]; simp [ints_len]⟩
    · exact ⟨by rw [h2]; simp [ints_len], Nat.le_refl _⟩
theorem OwnF.nil {c : Nat} {bs : List (Nat × Blk)} {k : IntKind} : OwnF c bs k .nilsl [] := .inl ⟨rfl, rfl⟩
theorem OwnF.lk {c d : Nat} {bs bs' : List (Nat × Blk)} {k : IntKind} {s : AV} {zs : List Int} (O : OwnF c bs k s zs) (hr : refOK d s = true) (hl : ∀ id, id < d → lkB bs' id = lkB bs id) : OwnF c bs' k s zs := by
  obtain O | ⟨id, b, cap, rfl, h1, h2⟩ := O
  · exact .inl O
  · simp only [refOK, Nat.blt_eq] at hr
    exact .inr ⟨id, b, cap, rfl, by rw [hl id hr]; exact h1, h2⟩
theorem OwnA.lk {sz n c d : Nat} {bs bs' : List (Nat × Blk)} {s : AV} {cs : List AV} (O : OwnA sz c bs s n cs) (hr : refOK d s = true) (hl : ∀ id, id < d → lkB bs' id = lkB bs id) : OwnA sz c bs' s n cs := by
  obtain ⟨hl', O | ⟨id, b, cap, rfl, h1, h2⟩⟩ := O
  · exact ⟨hl', .inl O⟩
  · simp only [refOK, Nat.blt_eq] at hr
    exact ⟨hl', .inr ⟨id, b, cap, rfl, by rw [hl id hr]; exact h1, h2⟩⟩

/-- The chain of a slice's block. -/
def chOf (bs : List (Nat × Blk)) : AV → Option Nat
  | .sl id _ _ _ _ => (lkB bs id).map (·.ch)
  | _ => none

/-- Slices with at most m numbers are kept. -/
def Keep (c : Nat) (k : IntKind) (m : Nat) (bs bs' : List (Nat × Blk)) : Prop := ∀ t ds, ds.length ≤ m → OwnF c bs k t ds → OwnF c bs' k t ds ∧ chOf bs' t = chOf bs t
theorem Keep.refl {c : Nat} {k : IntKind} {m : Nat} {bs : List (Nat × Blk)} : Keep c k m bs bs := fun _ _ _ O => ⟨O, rfl⟩
theorem Keep.trans {c : Nat} {k : IntKind} {m m' : Nat} {bs bs' bs'' : List (Nat × Blk)} (h : Keep c k m bs bs') (h' : Keep c k m' bs' bs'') (hm : m ≤ m') : Keep c k m bs bs'' := fun t ds hd O =>
  have x := h t ds hd O
  have y := h' t ds (by omega) x.1
  ⟨y.1, y.2.trans x.2⟩
theorem Keep.sub {c : Nat} {k : IntKind} {m : Nat} {bs bs' : List (Nat × Blk)} (s : Sub bs bs') : Keep c k m bs bs' := fun t ds hd O => by
  obtain ⟨rfl, rfl⟩ | ⟨id, b, cap, rfl, h1, h2⟩ := O
  · exact ⟨.inl ⟨rfl, rfl⟩, rfl⟩
  · exact ⟨.inr ⟨id, b, cap, rfl, s _ _ h1, h2⟩, by simp only [chOf, h1, s _ _ h1]⟩
theorem Keep.trunc {c : Nat} {k : IntKind} {m : Nat} {bs : List (Nat × Blk)} {ch s : Nat} : Keep c k m bs (Abs.trunc bs ch s (m * 1)) := fun t ds hd O => by
  obtain ⟨rfl, rfl⟩ | ⟨id, b, cap, rfl, h1, h2, h3, h4, h5, h6, h7⟩ := O
  · exact ⟨.inl ⟨rfl, rfl⟩, rfl⟩
  · obtain ⟨b', e, hb⟩ := lkB_truncs (c := ch) (s := s) (n := m * 1) h1
    rcases hb with rfl | ⟨_, rfl⟩
    · exact ⟨.inr ⟨id, _, cap, rfl, e, h2, h3, h4, h5, h6, h7⟩, by simp only [chOf, e, h1]⟩
    · exact ⟨.inr ⟨id, _, cap, rfl, e, by simp only [h2]; exact List.take_of_length_le (by simp [ints_len]; omega), h3, h4, h5, h6, h7⟩, by simp only [chOf, e, h1, Option.map_some]⟩
theorem Keep.lk {c d : Nat} {h : Hp} {k : IntKind} {m : Nat} {bs bs' : List (Nat × Blk)} (hk : Hok h) (K : Keep c k m h.blks bs) (hl : ∀ id, id < h.next → lkB bs' id = lkB bs id) : Keep c k m h.blks bs' := fun t ds hd O => by
  obtain ⟨x, y⟩ := K t ds hd O
  have hr : refOK h.next t = true := O.own.ref hk
  refine ⟨x.lk hr hl, ?_⟩
  rw [← y]
  cases t <;> try rfl
  simp only [refOK, Nat.blt_eq] at hr
  simp only [chOf, hl _ hr]

/-- Blocks of other chains are as they were. -/
def Off (c : Option Nat) (bs bs' : List (Nat × Blk)) : Prop := ∀ id b, lkB bs id = some b → some b.ch ≠ c → lkB bs' id = some b
theorem Off.refl {c : Option Nat} {bs : List (Nat × Blk)} : Off c bs bs := fun _ _ h _ => h
theorem Off.sub {c : Option Nat} {bs bs' : List (Nat × Blk)} (s : Sub bs bs') : Off c bs bs' := fun id b h _ => s id b h
theorem Off.trans {c : Option Nat} {a b d : List (Nat × Blk)} (h : Off c a b) (h' : Off c b d) : Off c a d := fun id x hx hc => h' id x (h id x hx hc) hc
theorem Off.new {c c' : Option Nat} {h : Hp} {a b d : List (Nat × Blk)} (hk : Hok h) (ha : ∀ id x, lkB a id = some x → id < h.next ∧ x.ch ≤ id) (h1 : Off c a b) (h2 : Off c' b d) (hc : c' = c ∨ ∃ n, c' = some n ∧ h.next ≤ n) : Off c a d := fun id x hx hx' => by
  refine h2 id x (h1 id x hx hx') ?_
  rcases hc with rfl | ⟨n, rfl, hn⟩
  · exact hx'
  · intro e
    have := ha id x hx
    have := Option.some.inj e
    omega
theorem Off.lk {h : Hp} {c : Option Nat} {bs bs' : List (Nat × Blk)} (hk : Hok h) (o : Off c h.blks bs) (hl : ∀ id, id < h.next → lkB bs' id = lkB bs id) : Off c h.blks bs' := fun id b hb hc => by
  rw [hl id (hk.get hb).1]
  exact o id b hb hc
theorem chOf_lt {c : Nat} {h : Hp} {k : IntKind} {s : AV} {zs : List Int} (hk : Hok h) (O : OwnF c h.blks k s zs) : ∀ n, chOf h.blks s = some n → n < h.next := fun n hn => by
  obtain ⟨rfl, rfl⟩ | ⟨id, b, cap, rfl, h1, h2⟩ := O
  · simp [chOf] at hn
  · simp only [chOf, h1, Option.map_some, Option.some.injEq] at hn
    have := hk.get h1
    omega

/-- append of one number to a whole block: all that are not longer are kept. -/
theorem app_keep {h0 h : Hp} {k : IntKind} {s : AV} {zs : List Int} {v : Int} (ho : Hok h0) (g : Grown h0 h) (O : OwnF h0.next h.blks k s zs) (hl : zs.length + 1 ≤ 1073741824) :
    ∃ s' h', sApp true 1 { next := h.next + 1, blks := (h.next, { cells := Abs.ints k [v], ch := h.next, wr := true }) :: h.blks, loops := h.loops, base := h.base, esc := h.esc } s (.sl h.next 0 1 (some 1) 1) = some (s', h') ∧
      OwnF h0.next h'.blks k s' (zs ++ [v]) ∧ Grown h0 h' ∧ Elder h h' ∧ Keep h0.next k zs.length h.blks h'.blks ∧ Off (chOf h.blks s) h.blks h'.blks ∧ (chOf h'.blks s' = chOf h.blks s ∨ ∃ n, chOf h'.blks s' = some n ∧ h.next ≤ n) ∧ s' ≠ .nilsl := by
  have hk := g.ok ho
  obtain ⟨h1, eh1⟩ : ∃ h1 : Hp, h1 = h.pu (Abs.ints k [v]) := ⟨_, rfl⟩
  have g1 : Grown h0 h1 := by rw [eh1]; exact Grown.pu g refsOK_ints
  have x1 : Elder h h1 := by rw [eh1]; exact GrownR.elder (Grown.pu Grown.refl refsOK_ints)
  have s1 : Sub h.blks h1.blks := by rw [eh1]; exact Sub.pu hk
  have a1 : Arr h1.blks 1 (.sl h.next 0 1 (some 1) 1) 1 (Abs.ints k [v]) := by rw [eh1]; exact Ints.top rfl (Nat.le_refl 1)
  have O1 : OwnF h0.next h1.blks k s zs := (Keep.sub (m := zs.length) s1 s zs (Nat.le_refl _) O).1
  have e1 : ({ next := h.next + 1, blks := (h.next, { cells := Abs.ints k [v], ch := h.next, wr := true }) :: h.blks, loops := h.loops, base := h.base, esc := h.esc } : Hp) = h1 := eh1.symm
  have n1 : h1.next = h.next + 1 := by rw [eh1]
  rw [e1]
  clear e1 eh1
  have k1 := g1.ok ho
  suffices H : ∃ s' h', sApp true 1 h1 s (.sl h.next 0 1 (some 1) 1) = some (s', h') ∧ OwnF h0.next h'.blks k s' (zs ++ [v]) ∧ Grown h0 h' ∧ Elder h1 h' ∧ Keep h0.next k zs.length h1.blks h'.blks ∧ Off (chOf h1.blks s) h1.blks h'.blks ∧ (chOf h'.blks s' = chOf h1.blks s ∨ ∃ n, chOf h'.blks s' = some n ∧ h.next ≤ n) ∧ s' ≠ .nilsl by
    obtain ⟨s', h', e, o, g', x, K, f, cc, ne⟩ := H
    have ec : chOf h1.blks s = chOf h.blks s := by
      obtain ⟨rfl, rfl⟩ | ⟨id, b, cap, rfl, h2, h3⟩ := O
      · rfl
      · simp only [chOf, h2, s1 _ _ h2]
    rw [ec] at f cc
    exact ⟨s', h', e, o, g', x1.trans x, (Keep.sub s1).trans K (Nat.le_refl _), (Off.sub s1).trans f, cc, ne⟩
  have hsrc := a1.src (by omega) h1 rfl
  simp only [sApp, hsrc]
  have hc : (Abs.ints k [v]).all AV.isCell = true := all_cell_ints
  have nz : Nat.beq 1 0 = false := rfl
  have hr : refsOK h1.next (Abs.ints k [v]) = true := refsOK_ints
  have top : ∀ (c : Nat) (bs : List (Nat × Blk)), h0.next ≤ c → OwnF h0.next ((h1.next, { cells := Abs.ints k zs ++ Abs.ints k [v], ch := c, wr := true }) :: bs) k (.sl h1.next 0 (zs.length + 1) none 1) (zs ++ [v]) := fun c bs hc =>
    .inr ⟨h1.next, { cells := Abs.ints k zs ++ Abs.ints k [v], ch := c, wr := true }, none, by simp, lkB_top, ints_append, g1.next, hc, rfl, by simp, .inl rfl⟩
  have e2 : Nat.ble (zs.length + 1) 1073741824 = true := Nat.ble_eq_true_of_le hl
  obtain ⟨rfl, rfl⟩ | ⟨id, b, cap, rfl, h2, h3, h4, h5, h6, h7, h8⟩ := O1
  · simp only [sAppend, nz, cond_false, Nat.ble_eq_true_of_le (show 1 ≤ 1073741824 by omega), hc, Bool.and_self, cond_true, Hp.new]
    have T := top h1.next h1.blks g1.next
    have gg := GrownR.push (w := true) g1 (refsOK_mono (Nat.le_succ _) hr) (Nat.le_refl h1.next)
    exact ⟨_, _, rfl, T, gg, GrownR.elder (GrownR.push (w := true) (Grown.refl (h := h1)) (refsOK_mono (Nat.le_succ _) hr) (Nat.le_refl h1.next)), Keep.sub (Sub.push (Sub.refl _) (HokR.fresh k1)), Off.sub (Sub.push (Sub.refl _) (HokR.fresh k1)), .inr ⟨h1.next, by simp only [chOf, lkB_top, Option.map_some], by omega⟩, fun e => by cases e⟩
  · have hcs : refsOK h1.next (Abs.ints k zs) = true := refsOK_ints
    rcases h8 with rfl | rfl
    · have e3 : Nat.ble (0 + (zs.length + 1) * 1) b.cells.length = false := by
        rw [h3, ints_len]
        cases hb : Nat.ble (0 + (zs.length + 1) * 1) zs.length
        · rfl
        · have := Nat.le_of_ble_eq_true hb; omega
      have e4 : Nat.ble (zs.length * 1) b.cells.length = true := Nat.ble_eq_true_of_le (by rw [h3, ints_len]; omega)
      have e5 : b.cells.take (zs.length * 1) = Abs.ints k zs := by rw [h3]; exact List.take_of_length_le (by simp [ints_len])
      simp only [sAppend, Nat.beq_refl, Bool.not_true, cond_false, nz, e2, hc, Bool.and_self, h2, e3, Bool.and_false, h6, e4, cond_true, e5]
      obtain ⟨new, en, fn⟩ := g1.blks
      obtain ⟨new', en', f1⟩ := @trunc_app b.ch h1.next (zs.length * 1) h0.next h0.blks (fun x hx => (ho.blk hx).1) (by omega) new fn
      have gt : GrownR h0 h1.next (Abs.trunc h1.blks b.ch h1.next (zs.length * 1)) h1.loops := ⟨⟨new', by rw [en, en'], f1⟩, g1.next, fun _ => k1.trunc, g1.loops⟩
      have gg := gt.push (w := true) (c := b.ch) (refsOK_mono (Nat.le_succ _) (refsOK_append hcs hr)) (by have := k1.get h2; omega)
      refine ⟨_, _, rfl, top _ _ h5, gg, ⟨⟨[(h1.next, { cells := Abs.ints k zs ++ Abs.ints k [v], ch := b.ch, wr := true })], _, rfl, trunc_keys _ _ _ _, by simp⟩, Nat.le_succ _⟩, ?_, fun id' x hx hc => ?_, .inl (by simp only [chOf, lkB_top, h2, Option.map_some]), fun e => by cases e⟩
      rotate_left
      · have hne : id' ≠ h1.next := Nat.ne_of_lt (k1.get hx).1
        rw [lkB_push hne]
        obtain ⟨b', e, hb⟩ := lkB_truncs (c := b.ch) (s := h1.next) (n := zs.length * 1) hx
        rcases hb with rfl | ⟨hch, _⟩
        · exact e
        · simp only [chOf, h2, Option.map_some] at hc
          exact absurd (congrArg some hch) hc
      exact (Keep.trunc (ch := b.ch) (s := h1.next)).trans (Keep.sub (Sub.push (Sub.refl _) (HokR.fresh (n := h1.next) (ls := h1.loops) k1.trunc))) (Nat.le_refl _)
    · have e3 : Nat.ble (zs.length + 1) zs.length = false := by
        cases hb : Nat.ble (zs.length + 1) zs.length
        · rfl
        · have := Nat.le_of_ble_eq_true hb; omega
      have e4 : slice? b.cells 0 (zs.length * 1) = some (Abs.ints k zs) := by
        simp only [slice?, h3, Nat.ble_eq_true_of_le (show 0 + zs.length * 1 ≤ (Abs.ints k zs).length by rw [ints_len]; omega), cond_true, List.drop_zero]
        rw [List.take_of_length_le (by simp [ints_len])]
      simp only [sAppend, Nat.beq_refl, Bool.not_true, cond_false, nz, e2, hc, Bool.and_self, h2, e3, e4, Hp.new]
      have gg := GrownR.push (w := true) g1 (refsOK_mono (Nat.le_succ _) (refsOK_append hcs hr)) (Nat.le_refl h1.next)
      exact ⟨_, _, rfl, top _ _ g1.next, gg, GrownR.elder (GrownR.push (w := true) (Grown.refl (h := h1)) (refsOK_mono (Nat.le_succ _) (refsOK_append hcs hr)) (Nat.le_refl h1.next)), Keep.sub (Sub.push (Sub.refl _) (HokR.fresh k1)), Off.sub (Sub.push (Sub.refl _) (HokR.fresh k1)), .inr ⟨h1.next, by simp only [chOf, lkB_top, Option.map_some], by omega⟩, fun e => by cases e⟩

/-- The code's first three parts, and what follows. -/
theorem wseq {C : Spec} {a b c : SC} {s : St} {Q : Ex → St → Prop} : wp C (.seq a (.seq b c)) s Q = wp C (.seq (.seq a b) c) s Q := by
  rw [wp_seq, wp_seq, wp_seq]
  congr 1
  funext e s'
  cases e <;> simp only [onEx_normal, onEx_exit, onEx_ret, wp_seq]

section
variable {P : Program} {T : Tab}
theorem keys_split {h : Hp} {new old : List (Nat × Blk)} (hk : Hok h) (hm : old.map (·.1) = h.blks.map (·.1)) (hn : ∀ x ∈ new, h.next ≤ x.1) : ∀ id, id < h.next → lkB old id = lkB (new ++ old) id := fun id hid =>
  (lkB_app fun x hx e => by have := hn x hx; omega).symm

/-- A call that may append to slices that were passed in. -/
theorem evals_own {f : Nat} {sf : SFun} (hc : compF P f = some sf) {args : List AV} {h0 h : Hp} (ho : Hok h0) (g0 : Grown h0 h) (Q : AV → List (Nat × Blk) → Prop) (hlen : Nat.ble args.length sf.nt = true)
    (H : wp (Evals P T false) sf.body { fr := initS sf.slots args, hp := { next := h.next, blks := h.blks, loops := h.loops, base := h.next, esc := false } } fun e s => (match e with | .exit _ => False | _ => True) ∧ ∃ vs, sresVs s.fr s.hp sf.res = some vs ∧ Grown h0 s.hp ∧ Elder h s.hp ∧ Q (resOf vs) s.hp.blks)
    (hq : ∀ v bs bs', (∀ id, id < h.next → lkB bs' id = lkB bs id) → refOK h.next v = true → Q v bs → Q v bs') (hT : T f args h = none := by rfl) :
    ∃ v h', Evals P T false (.func f) args h (v, h') ∧ (Grown h0 h' ∧ Elder h h' ∧ Q v h'.blks) :=
  evals_func (Q := fun v h' => Grown h0 h' ∧ Elder h h' ∧ Q v h'.blks) hc hlen (wp_mono (fun e s Hs => by
    obtain ⟨h1, vs, h2, g, x, q⟩ := Hs
    refine ⟨h1, vs, h2, ?_⟩
    obtain ⟨new, old, hb, hm, hn⟩ := x.blks
    have hk := g0.ok ho
    have hlo : old.length = h.blks.length := by have := congrArg List.length hm; simpa using this
    have hd : s.hp.blks.drop (s.hp.blks.length - h.blks.length) = old := by rw [hb, List.length_append, ← hlo, Nat.add_sub_cancel, List.drop_left]
    have hll : lowL h.next s.hp.loops = s.hp.loops := by rw [g.loops, ← g0.loops]; exact lowL_same fun x hx => HokR.lps hk hx
    simp only [leave, cond_false, hd, hll]
    cases hs : (refOK h.next (resOf vs) && selfOK h.next old s.hp.loops)
    · exact ⟨g, ⟨x.blks, x.next⟩, q⟩
    · simp only [Bool.and_eq_true] at hs
      simp only [cond_true]
      refine ⟨⟨?_, g0.next, fun _ => hs.2, g.loops⟩, ⟨⟨[], old, rfl, hm, by simp⟩, Nat.le_refl _⟩, hq _ _ _ (fun id hid => ?_) hs.1 q⟩
      · obtain ⟨N, eN, fN⟩ := g.blks
        obtain ⟨M, eM, fM⟩ := g0.blks
        have hl2 : M.length + h0.blks.length = old.length := by rw [hlo, eM, List.length_append]
        rw [eN] at hb
        refine ⟨N.drop new.length, ?_, fun x hx => fN x (List.mem_of_mem_drop hx)⟩
        have hNl : new.length ≤ N.length := by
          have := congrArg List.length hb
          simp only [List.length_append] at this
          omega
        have := congrArg (List.drop new.length) hb
        rw [List.drop_left, List.drop_append_of_le_length hNl] at this
        exact this.symm
      · rw [hb]
        exact keys_split hk hm hn id hid) H) hT
end
end Go.Abs

set_option linter.unusedSimpArgs false
set_option linter.unusedVariables false
set_option maxHeartbeats 2000000
namespace Go.Abs
section
variable {P : Program} {T : Tab} {g : Bool}

/-- How a round's body ends. -/
def endY (l : Nat) (Q : AV → Hp → Prop) (e : Ex) (s : St) : Prop :=
  ∃ r2, lkL s.hp.loops l = some r2 ∧ match e with
    | .normal => Q (.bool true) { s.hp with loops := setL s.hp.loops l { r2 with st := 0, jump := none } }
    | .ret => Q (.bool false) { s.hp with loops := setL s.hp.loops l { r2 with st := 2, jump := some none } }
    | .exit id => Q (.bool false) { s.hp with loops := setL s.hp.loops l { r2 with st := 2, jump := some (some id) } }

/-- A round of a loop over a function. -/
theorem evals_yield {l : Nat} {args : List AV} {h : Hp} {Q : AV → Hp → Prop} {r : LoopA} {a b : SC} {fr : Fr} (hl : lkL h.loops l = some r) (h0 : r.st = 0)
    (hp : r.ps.toList.all (fun t => Nat.testBit r.keep t && Nat.blt t r.n) = true) (ca : compC P r.keep r.n r.assign = some a) (cb : compC P r.keep r.n r.body = some b) (hf : putPs r.ps.toList args r.fr = some fr)
    (H : wp (Evals P T g) a { fr := fr, hp := h } fun e s => e = .normal ∧ ∃ r1, lkL s.hp.loops l = some r1 ∧ r1.st = 0 ∧
      wp (Evals P T g) b { s with hp := { s.hp with loops := setL s.hp.loops l { r1 with st := 1 } } } (endY l Q)) :
    ∃ v h', Evals P T g (.yield l) args h (v, h') ∧ Q v h' := by
  obtain ⟨N1, e1, s1, hN1, rfl, r1, hr1, hs1, Hb⟩ := wp_run H
  obtain ⟨N2, e2, s2, hN2, r2, hr2, hQ⟩ := wp_run Hb
  have b0 : Nat.beq r.st 0 = true := by rw [h0]; rfl
  have b1 : Nat.beq r1.st 0 = true := by rw [hs1]; rfl
  have step : ∀ M, max N1 N2 ≤ M → enterY P (callN P T g M M) M l args h = (match e2 with
      | .normal => some (.bool true, { s2.hp with loops := setL s2.hp.loops l { r2 with st := 0, jump := none } })
      | .ret => some (.bool false, { s2.hp with loops := setL s2.hp.loops l { r2 with st := 2, jump := some none } })
      | .exit id => some (.bool false, { s2.hp with loops := setL s2.hp.loops l { r2 with st := 2, jump := some (some id) } })) := fun M hM => by
    have x1 := compC_sound (m := M) ca (hN1 M (by omega))
    have x2 := compC_sound (m := M) cb (hN2 M (by omega))
    unfold enterY
    simp only [hl, b0, hp, Bool.and_self, Bool.not_true, cond_false, hf, x1, hr1, b1, x2, hr2]
    cases e2 <;> rfl
  cases e2 with
  | normal =>
    refine ⟨_, _, ⟨max N1 N2 + 1, fun M hM => ?_⟩, hQ⟩
    obtain ⟨M, rfl⟩ : ∃ i, M = i + 1 := ⟨M - 1, by omega⟩
    exact enterY_mono (callN_mono (Nat.le_refl _) (by omega)) (by omega) (step M (by omega))
  | ret =>
    refine ⟨_, _, ⟨max N1 N2 + 1, fun M hM => ?_⟩, hQ⟩
    obtain ⟨M, rfl⟩ : ∃ i, M = i + 1 := ⟨M - 1, by omega⟩
    exact enterY_mono (callN_mono (Nat.le_refl _) (by omega)) (by omega) (step M (by omega))
  | exit id =>
    refine ⟨_, _, ⟨max N1 N2 + 1, fun M hM => ?_⟩, hQ⟩
    obtain ⟨M, rfl⟩ : ∃ i, M = i + 1 := ⟨M - 1, by omega⟩
    exact enterY_mono (callN_mono (Nat.le_refl _) (by omega)) (by omega) (step M (by omega))

theorem callYT {l : Nat} {args : List AV} {h h' : Hp} {v : AV} {K : AV → Hp → Prop} (e : Evals P T g (.yield l) args h (v, h')) {tk : Tag K} :
    callT' (Evals P T g) (.yld l) args h K tk = K v h' := by
  refine propext ⟨fun ⟨u, h2, e2, hk⟩ => ?_, fun hk => ⟨v, h', e, hk⟩⟩
  cases e.eq e2
  exact hk

theorem callY {l : Nat} {args : List AV} {h : Hp} {Q : AV → Hp → Prop} {K : AV → Hp → Prop} (e : ∃ v h', Evals P T g (.yield l) args h (v, h') ∧ Q v h') (hk : ∀ v h', Q v h' → K v h') {tk : Tag K} :
    callT' (Evals P T g) (.yld l) args h K tk := by
  obtain ⟨v, h', e, q⟩ := e
  exact ⟨v, h', e, hk v h' q⟩

/-- What a call leaves, if the elder blocks may have changed: either all, or the elder blocks alone, which then name nothing else. -/
theorem leave_two {h h1 : Hp} {v : AV} (x : Elder h h1) :
    (leave false h v h1 = { h1 with base := h.base, esc := h.esc }) ∨
    (refOK h.next v = true ∧ ∃ new old, h1.blks = new ++ old ∧ old.map (·.1) = h.blks.map (·.1) ∧ (∀ y ∈ new, h.next ≤ y.1) ∧ HokR h.next old (lowL h.next h1.loops) ∧
      leave false h v h1 = { next := h.next, blks := old, loops := lowL h.next h1.loops, base := h.base, esc := h.esc }) := by
  obtain ⟨new, old, hb, hm, hn⟩ := x.blks
  have hlo : old.length = h.blks.length := by have := congrArg List.length hm; simpa using this
  have hd : h1.blks.drop (h1.blks.length - h.blks.length) = old := by rw [hb, List.length_append, ← hlo, Nat.add_sub_cancel, List.drop_left]
  simp only [leave, cond_false, hd]
  cases hs : (refOK h.next v && selfOK h.next old (lowL h.next h1.loops))
  · exact .inl rfl
  · simp only [Bool.and_eq_true] at hs
    exact .inr ⟨hs.1, new, old, hb, hm, hn, hs.2, rfl⟩

/-- The beginning of the blocks, seen from a base that is still there. -/
theorem drop_base {B : List (Nat × Blk)} {N new old : List (Nat × Blk)} (e : N ++ B = new ++ old) (hl : B.length ≤ old.length) : ∃ m, old = m ++ B ∧ ∀ x ∈ m, x ∈ N := by
  have hNl : new.length ≤ N.length := by
    have := congrArg List.length e
    simp only [List.length_append] at this
    omega
  have := congrArg (List.drop new.length) e
  rw [List.drop_left, List.drop_append_of_le_length hNl] at this
  exact ⟨N.drop new.length, this.symm, fun x hx => List.mem_of_mem_drop hx⟩

/-- Over another base with the same numbers. -/
theorem grown_leave {B B' h h1 : Hp} {v : AV} (hB : B'.next = B.next) (hkeys : B'.blks.length = B.blks.length) (g : Grown B h) (g' : Grown B' h1) (hk' : Hok B') (x : Elder h h1) :
    Grown B' (leave false h v h1) ∧ Elder h (leave false h v h1) := by
  rcases leave_two (v := v) x with e | ⟨_, new, old, hb, hm, hn, hk, e⟩ <;> rw [e]
  · exact ⟨g', ⟨x.blks, x.next⟩⟩
  · have hll : lowL h.next h1.loops = B'.loops := by
      rw [g'.loops]
      refine lowL_same fun x hx => ?_
      have := HokR.lps hk' hx
      have hle : B'.next ≤ h.next := by rw [hB]; exact g.next
      exact ⟨by omega, refL_mono hle this.2⟩
    refine ⟨⟨?_, by rw [hB]; exact g.next, fun _ => hk, hll⟩, ⟨⟨[], old, rfl, hm, by simp⟩, Nat.le_refl _⟩⟩
    obtain ⟨N, eN, fN⟩ := g'.blks
    obtain ⟨M, eM, fM⟩ := g.blks
    have hl : B'.blks.length ≤ old.length := by
      have := congrArg List.length hm
      simp only [List.length_map] at this
      rw [this, eM, List.length_append, hkeys]
      omega
    obtain ⟨m, em, hm2⟩ := drop_base (by rw [← eN, hb]) hl
    exact ⟨m, em, fun y hy => fN y (hm2 y hy)⟩

theorem elder_leave {h h1 : Hp} {v : AV} (x : Elder h h1) : Elder h (leave false h v h1) := by
  rcases leave_two (v := v) x with e | ⟨_, new, old, hb, hm, hn, _, e⟩ <;> rw [e]
  · exact ⟨x.blks, x.next⟩
  · exact ⟨⟨[], old, rfl, hm, by simp⟩, Nat.le_refl _⟩

theorem leave_lk {h h1 : Hp} {v : AV} (hk : Hok h) (x : Elder h h1) : ∀ id, id < h.next → lkB (leave false h v h1).blks id = lkB h1.blks id := fun id hid => by
  rcases leave_two (v := v) x with e | ⟨_, new, old, hb, hm, hn, _, e⟩ <;> rw [e]
  rw [hb]
  exact keys_split hk hm hn id hid

/-- A call that goes from one state of the elder blocks to another. -/
theorem evals_two {f : Nat} {sf : SFun} (hc : compF P f = some sf) {args : List AV} {h : Hp} (Q : AV → Hp → Prop) (hlen : Nat.ble args.length sf.nt = true)
    (H : wp (Evals P T false) sf.body { fr := initS sf.slots args, hp := h.en } fun e s => (match e with | .exit _ => False | _ => True) ∧ ∃ vs, sresVs s.fr s.hp sf.res = some vs ∧ Elder h s.hp ∧ Q (resOf vs) (leave false h (resOf vs) s.hp)) (hT : T f args h = none := by rfl) :
    ∃ v h', Evals P T false (.func f) args h (v, h') ∧ Q v h' :=
  evals_func (Q := Q) hc hlen (wp_mono (fun e s Hs => by
    obtain ⟨h1, vs, h2, x, q⟩ := Hs
    exact ⟨h1, vs, h2, q⟩) H) hT
end

theorem write_elder {h h' : Hp} {id off : Nat} {vs : List AV} (e : h.write id off vs = some h') : Elder h h' := by
  unfold Hp.write at e
  split at e
  · rename_i b hb
    cases hc : (b.wr && Nat.ble (off + vs.length) b.cells.length && vs.all AV.isCell)
    · rw [hc] at e
      cases e
    · rw [hc] at e
      cases e
      exact ⟨⟨[], _, rfl, by rw [setB_keys, trunc_keys], by simp⟩, Nat.le_refl _⟩
  · cases e

/-- Blocks on top of others. -/
def Over (lim : Nat) (old : List (Nat × Blk)) (bs : List (Nat × Blk)) : Prop := ∃ new, bs = new ++ old ∧ ∀ x ∈ new, lim ≤ x.1

/-- What truncation leaves alone. -/
theorem lkB_trunc_ne {c s n id : Nat} {l : List (Nat × Blk)} {b : Blk} (h : lkB l id = some b) (hc : b.ch ≠ c) : lkB (trunc l c s n) id = some b := by
  obtain ⟨b', e, hb⟩ := lkB_truncs (c := c) (s := s) (n := n) h
  rcases hb with rfl | ⟨hch, _⟩
  · exact e
  · exact absurd hch hc
theorem lkB_setB_ne {id j : Nat} {v : Blk} (hne : j ≠ id) : ∀ {l : List (Nat × Blk)}, lkB (setB l id v) j = lkB l j
  | [] => rfl
  | (i, b) :: r => by
    simp only [setB]
    cases hi : Nat.beq i id
    · simp only [cond_false, lkB]
      rw [lkB_setB_ne hne]
    · have := Nat.eq_of_beq_eq_true hi
      subst this
      simp only [cond_true, lkB, nb (Ne.symm hne), cond_false]

/-- A write to a block. -/
theorem write_old {h : Hp} {old : List (Nat × Blk)} {lim id off : Nat} {b : Blk} {vs : List AV} (hk : Hok h) (ov : Over lim old h.blks) (hlt : ∀ x ∈ old, x.1 < lim) (hb : Abs.lkB h.blks id = some b) (hid : lim ≤ id) (hch : lim ≤ b.ch) (hw : b.wr = true) (hoff : off + vs.length ≤ b.cells.length) (hc : vs.all AV.isCell = true) (hr : refsOK h.next vs = true) :
    ∃ h', h.write id off vs = some h' ∧ Abs.lkB h'.blks id = some { b with cells := splice b.cells off vs } ∧ Over lim old h'.blks ∧ Hok h' ∧ h'.next = h.next ∧ h'.loops = h.loops ∧ (∀ j d, j ≠ id → lkB h.blks j = some d → d.ch ≠ b.ch → lkB h'.blks j = some d) := by
  obtain ⟨new, en, fn⟩ := ov
  obtain ⟨new', en', f1⟩ := @trunc_app b.ch id off lim old hlt hch new fn
  have e1 : (b.wr && Nat.ble (off + vs.length) b.cells.length && vs.all AV.isCell) = true := by rw [hw, Nat.ble_eq_true_of_le hoff, hc]; rfl
  have hlk := lkB_trunc_some b.ch id off hb (.inr rfl)
  refine ⟨{ h with blks := setB (trunc h.blks b.ch id off) id { b with cells := splice b.cells off vs }, esc := h.esc || (Nat.blt id h.base && vs.any AV.hasRef) }, by simp only [Hp.write, hb, e1, cond_true], lkB_setB_same _ _ _ _ hlk, ⟨setB new' id { b with cells := splice b.cells off vs }, ?_, fun x hx => ?_⟩, HokR.mk' (fun x hx => ?_) fun x hx => hk.lps hx, rfl, rfl, fun j d hj hd hdc => ?_⟩
  · simp only
    rw [en, en', setB_app fun x hx => by have := hlt x hx; omega]
  · rcases setB_mem hx with hx | ⟨rfl, d, _⟩
    · exact f1 x hx
    · exact hid
  · simp only at hx
    rcases setB_mem hx with hx | ⟨rfl, _⟩
    · exact hk.trunc.blk hx
    · have := hk.get hb
      exact ⟨this.1, this.2.1, refsOK_iff.2 fun a ha => (splice_mem ha).elim (refsOK_iff.1 this.2.2 a) (refsOK_iff.1 hr a)⟩
  · simp only
    rw [lkB_setB_ne hj]
    exact lkB_trunc_ne hd hdc

/-- A store to a variable. -/
theorem store_old {h : Hp} {old : List (Nat × Blk)} {lim id : Nat} {w v : AV} (hk : Hok h) (ov : Over lim old h.blks) (hlt : ∀ x ∈ old, x.1 < lim) (hb : Abs.lkB h.blks id = some { cells := [w], ch := id, wr := true }) (hid : lim ≤ id) (hp : v.parts = some [v] ∧ v.isCell = true) (hr : refOK h.next v = true) :
    ∃ h', sStore 1 h v (.ptr id 0) = some (.any, h') ∧ Abs.lkB h'.blks id = some { cells := [v], ch := id, wr := true } ∧ Over lim old h'.blks ∧ Hok h' ∧ h'.next = h.next ∧ h'.loops = h.loops ∧ Elder h h' ∧ (∀ j d, j ≠ id → lkB h.blks j = some d → d.ch ≠ id → lkB h'.blks j = some d) := by
  obtain ⟨h', e, l1, o, k, n, ls, r⟩ := write_old (off := 0) (vs := [v]) hk ov hlt hb hid hid rfl (by simp) (by simp [hp.2]) (by simp [refsOK_cons, refsOK_nil, hr])
  refine ⟨h', ?_, l1, o, k, n, ls, write_elder e, r⟩
  simp only [sStore, hp.1, List.length_singleton, Nat.beq_refl, cond_true, e, Option.map_some]

theorem Hok.loop {n l : Nat} {bs : List (Nat × Blk)} {ls : List (Nat × LoopA)} {e e' : LoopA} (H : HokR n bs ((l, e) :: ls)) (hf : e'.fr = e.fr) (h5 : e'.st < 4 := by simp) : HokR n bs ((l, e') :: ls) :=
  .mk' (fun x hx => H.blk hx) fun x hx => by
    rcases List.mem_cons.1 hx with rfl | hx
    · have := H.lps (x := (l, e)) (by simp)
      have h2 := this.2
      simp only [refL, Bool.and_eq_true] at h2 ⊢
      exact ⟨this.1, by rw [hf]; exact h2.1, by rw [nb (by omega : e'.st ≠ 5)]; rfl⟩
    · exact H.lps (by simp [hx])

/-- A loop over a function. -/
theorem wrange {C : Spec} {f : SX} {ps : Array Nat} {a b : Code} {keep n g : Nat} {fs cs : List AV} {s : St} {Q : Ex → St → Prop} (hf : sev (lkF s.fr) f = .fn (.func g) fs cs)
    (H : ∃ v h, C (.func g) (fs ++ [.yld s.hp.next] ++ cs) { s.hp with next := s.hp.next + 1, loops := (s.hp.next, { st := 0, jump := none, ps, assign := a, body := b, keep, n, fr := s.fr }) :: s.hp.loops } (v, h) ∧
        ∃ r, lkL h.loops s.hp.next = some r ∧ r.st ≠ 1 ∧ (match r.jump with
          | none => Q .normal
          | some none => Q .ret
          | some (some id) => Q (.exit id)) { s with hp := { h with loops := delL h.loops s.hp.next } }) : wp C (.rangeF f ps a b keep n) s Q := by
  simp only [wp, hf]
  exact H
theorem lkL_top {l : Nat} {e : LoopA} {ls : List (Nat × LoopA)} : lkL ((l, e) :: ls) l = some e := by simp only [lkL, Nat.beq_refl, cond_true]
theorem setL_top {l : Nat} {e e' : LoopA} {ls : List (Nat × LoopA)} : setL ((l, e) :: ls) l e' = (l, e') :: ls := by simp only [setL, Nat.beq_refl, cond_true]
theorem delL_old {l : Nat} : ∀ {ls : List (Nat × LoopA)}, (∀ x ∈ ls, x.1 ≠ l) → delL ls l = ls
  | [], _ => rfl
  | (j, e) :: r, h => by
    have hr : ∀ x ∈ r, x.1 ≠ l := fun x hx => h x (List.mem_cons_of_mem _ hx)
    simp only [delL, nb (h (j, e) (by simp)), cond_false, delL_old hr]
theorem delL_top {l : Nat} {e : LoopA} {ls : List (Nat × LoopA)} (h : ∀ x ∈ ls, x.1 ≠ l) : delL ((l, e) :: ls) l = ls := by simp only [delL, Nat.beq_refl, cond_true, delL_old h]

/-- A slice of known capacity: the beginning of a block of one's own. -/
def OwnK (c : Nat) (bs : List (Nat × Blk)) (id cap : Nat) (zs : List Int) : Prop :=
  ∃ b, lkB bs id = some b ∧ b.cells.length = cap ∧ b.cells.take zs.length = ints .i64 zs ∧ c ≤ id ∧ c ≤ b.ch ∧ b.wr = true ∧ zs.length ≤ cap
theorem OwnK.own {c : Nat} {bs : List (Nat × Blk)} {id cap : Nat} {zs : List Int} (O : OwnK c bs id cap zs) : Own c bs .i64 (.sl id 0 zs.length (some cap) 1) zs := by
  obtain ⟨b, h1, h2, h3, h4, h5, h6, h7⟩ := O
  exact ⟨by simp [ints_len], .inr ⟨id, b, some cap, rfl, h1, by rw [Nat.mul_one]; exact h3, h4, h5, h6, by rw [h2, Nat.mul_one], h7⟩⟩
theorem OwnK.pre {c : Nat} {bs : List (Nat × Blk)} {id cap : Nat} {zs ys : List Int} (O : OwnK c bs id cap (zs ++ ys)) : OwnK c bs id cap zs := by
  obtain ⟨b, h1, h2, h3, h4, h5, h6, h7⟩ := O
  rw [List.length_append] at h7
  refine ⟨b, h1, h2, ?_, h4, h5, h6, by omega⟩
  have := congrArg (List.take zs.length) h3
  rw [List.take_take, List.length_append, Nat.min_eq_left (by omega), ints_take, List.take_left'] at this
  · exact this
  · rfl
theorem OwnK.lk {c d : Nat} {bs bs' : List (Nat × Blk)} {id cap : Nat} {zs : List Int} (O : OwnK c bs id cap zs) (hid : id < d) (hl : ∀ i, c ≤ i → i < d → lkB bs' i = lkB bs i) : OwnK c bs' id cap zs := by
  obtain ⟨b, h1, h2, h3, h4, h5⟩ := O
  exact ⟨b, by rw [hl id h4 hid]; exact h1, h2, h3, h4, h5⟩

/-- append of a number in place. -/
theorem appK {h0 h : Hp} {id cap : Nat} {zs : List Int} {v : Int} (ho : Hok h0) (g : Grown h0 h) (O : OwnK h0.next h.blks id cap zs) (hl : zs.length + 1 ≤ cap) (hcap : cap ≤ 1000) :
    ∃ h', sApp true 1 { next := h.next + 1, blks := (h.next, { cells := Abs.ints .i64 [v], ch := h.next, wr := true }) :: h.blks, loops := h.loops, base := h.base, esc := h.esc } (.sl id 0 zs.length (some cap) 1) (.sl h.next 0 1 (some 1) 1) = some (.sl id 0 (zs.length + 1) (some cap) 1, h') ∧
      OwnK h0.next h'.blks id cap (zs ++ [v]) ∧ Grown h0 h' ∧ Elder h h' := by
  have hk := g.ok ho
  obtain ⟨h1, eh1⟩ : ∃ h1 : Hp, h1 = h.pu (Abs.ints .i64 [v]) := ⟨_, rfl⟩
  have g1 : Grown h0 h1 := by rw [eh1]; exact Grown.pu g refsOK_ints
  have x1 : Elder h h1 := by rw [eh1]; exact GrownR.elder (Grown.pu Grown.refl refsOK_ints)
  have s1 : Sub h.blks h1.blks := by rw [eh1]; exact Sub.pu hk
  have a1 : Arr h1.blks 1 (.sl h.next 0 1 (some 1) 1) 1 (Abs.ints .i64 [v]) := by rw [eh1]; exact Ints.top rfl (Nat.le_refl 1)
  have e1 : ({ next := h.next + 1, blks := (h.next, { cells := Abs.ints .i64 [v], ch := h.next, wr := true }) :: h.blks, loops := h.loops, base := h.base, esc := h.esc } : Hp) = h1 := eh1.symm
  rw [e1]
  clear e1 eh1
  have hsrc := a1.src (by omega) h1 rfl
  obtain ⟨b, h2, h3, h4, h5, h6, h7, h8⟩ := O
  have h2' := s1 _ _ h2
  have nz : Nat.beq 1 0 = false := rfl
  have hc : (Abs.ints .i64 [v]).all AV.isCell = true := all_cell_ints
  have e2 : Nat.ble (zs.length + 1) 1073741824 = true := Nat.ble_eq_true_of_le (by omega)
  have hf : Nat.ble (zs.length + 1) cap = true := Nat.ble_eq_true_of_le hl
  obtain ⟨h', w1, w2, w3, w4⟩ := own_write (off := 0 + zs.length * 1) (vs := Abs.ints .i64 [v]) ho g1 h2' h5 h6 h7 (by rw [ints_len, h3]; simp; omega) hc refsOK_ints
  have mt := write_elder w1
  refine ⟨h', ?_, ⟨_, w2, ?_, ?_, h5, h6, h7, by simp; omega⟩, w3, x1.trans mt⟩
  · simp only [sApp, hsrc, sAppend, Nat.beq_refl, Bool.not_true, cond_false, nz, e2, hc, Bool.and_self, h2', hf, cond_true, w1, Option.map_some]
  · simp only
    rw [splice_len (by rw [ints_len, h3]; simp; omega)]
    exact h3
  · simp only
    have : 0 + zs.length * 1 = zs.length := by omega
    have st := splice_take (cs := b.cells) (vs := Abs.ints .i64 [v]) (n := zs.length) (by rw [ints_len, h3]; simp; omega)
    rw [ints_len, List.length_singleton] at st
    rw [this, List.length_append, List.length_singleton, st, h4, ints_append]
end Go.Abs
