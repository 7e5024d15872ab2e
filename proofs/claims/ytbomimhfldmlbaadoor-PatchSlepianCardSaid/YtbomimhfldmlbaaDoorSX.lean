/- Slices that are appended to, and kept. -/
import Derived.Test.YtbomimhfldmlbaaDoorSR
set_option linter.unusedSimpArgs false
set_option linter.unusedVariables false
set_option maxHeartbeats 2000000
namespace Go.Abs

/-- The elder blocks are still there, though perhaps written to. -/
structure Elder (h h' : Hp) : Prop where
  blks : ∃ new old, h'.blks = new ++ old ∧ old.map (·.1) = h.blks.map (·.1) ∧ ∀ x ∈ new, h.next ≤ x.1
  next : h.next ≤ h'.next
theorem Elder.refl {h : Hp} : Elder h h := ⟨⟨[], h.blks, rfl, rfl, by simp⟩, Nat.le_refl _⟩
theorem Elder.en {h : Hp} : Elder h h.en := ⟨⟨[], h.blks, rfl, rfl, by simp⟩, Nat.le_refl _⟩
theorem Elder.of_en {h h' : Hp} (e : Elder h.en h') : Elder h h' := ⟨e.blks, e.next⟩
theorem Elder.trans {a b c : Hp} (e : Elder a b) (e' : Elder b c) : Elder a c := by
  obtain ⟨n1, o1, h1, m1, f1⟩ := e.blks
  obtain ⟨n2, o2, h2, m2, f2⟩ := e'.blks
  rw [h1, List.map_append] at m2
  have hl : (o2.take n1.length).map (·.1) = n1.map (·.1) := by
    rw [List.map_take, m2, List.take_left' (by simp)]
  have hr : (o2.drop n1.length).map (·.1) = o1.map (·.1) := by
    rw [List.map_drop, m2, List.drop_left' (by simp)]
  refine ⟨⟨n2 ++ o2.take n1.length, o2.drop n1.length, by rw [List.append_assoc, List.take_append_drop, h2], by rw [hr, m1], fun x hx => ?_⟩, Nat.le_trans e.next e'.next⟩
  rcases List.mem_append.1 hx with hx | hx
  · exact Nat.le_trans e.next (f2 x hx)
  · have : x.1 ∈ n1.map (·.1) := by rw [← hl]; exact List.mem_map_of_mem hx
    obtain ⟨y, hy, ey⟩ := List.mem_map.1 this
    rw [← ey]
    exact f1 y hy
theorem GrownR.elder {h h' : Hp} (g : Grown h h') : Elder h h' := by
  obtain ⟨new, e, f⟩ := g.blks
  exact ⟨⟨new, h.blks, e, rfl, f⟩, g.next⟩
theorem trunc_keys : ∀ (l : List (Nat × Blk)) (c s n : Nat), (trunc l c s n).map (·.1) = l.map (·.1)
  | [], _, _, _ => rfl
  | (j, b) :: r, c, s, n => by
    simp only [trunc]
    cases Nat.blt j c
    · simp only [cond_false, List.map_cons, trunc_keys r]
    · rfl
theorem setB_keys : ∀ (l : List (Nat × Blk)) (i : Nat) (v : Blk), (setB l i v).map (·.1) = l.map (·.1)
  | [], _, _ => rfl
  | (j, b) :: r, i, v => by
    simp only [setB]
    cases Nat.beq j i
    · simp only [cond_false, List.map_cons, setB_keys r]
    · rfl
/-- What truncation does to a block. -/
theorem lkB_truncs {c s n id : Nat} : ∀ {l : List (Nat × Blk)} {b : Blk}, lkB l id = some b → ∃ b', lkB (trunc l c s n) id = some b' ∧ (b' = b ∨ (b.ch = c ∧ b' = { b with cells := b.cells.take n }))
  | [], b, h => by simp [lkB] at h
  | (j, d) :: r, b, h => by
    simp only [trunc]
    cases hj : Nat.blt j c
    · simp only [cond_false]
      simp only [lkB] at h ⊢
      cases he : Nat.beq j id
      · rw [he] at h
        simp only [cond_false] at h ⊢
        exact lkB_truncs h
      · rw [he] at h
        simp only [cond_true, Option.some.injEq] at h ⊢
        subst h
        cases hq : (Nat.beq d.ch c && !Nat.beq j s)
        · exact ⟨_, rfl, .inl rfl⟩
        · simp only [Bool.and_eq_true] at hq
          exact ⟨_, rfl, .inr ⟨Nat.eq_of_beq_eq_true hq.1, rfl⟩⟩
    · exact ⟨b, h, .inl rfl⟩

/-- Empty, or a whole block that was made at c or later. -/
def OwnF (c : Nat) (bs : List (Nat × Blk)) (k : IntKind) (s : AV) (zs : List Int) : Prop :=
  (zs = [] ∧ s = .nilsl) ∨
  (∃ id b cap, s = .sl id 0 zs.length cap 1 ∧ lkB bs id = some b ∧ b.cells = ints k zs ∧ c ≤ id ∧ c ≤ b.ch ∧ b.wr = true ∧ 0 < zs.length ∧ (cap = none ∨ cap = some zs.length))
theorem OwnF.own {c : Nat} {bs : List (Nat × Blk)} {k : IntKind} {s : AV} {zs : List Int} (O : OwnF c bs k s zs) : Own c bs k s zs := by
  refine ⟨by simp [ints_len], ?_⟩
  obtain ⟨rfl, rfl⟩ | ⟨id, b, cap, rfl, h1, h2, h3, h4, h5, h6, h7⟩ := O
  · exact .inl ⟨rfl, rfl⟩
  · refine .inr ⟨id, b, cap, rfl, h1, by rw [h2, List.take_of_length_le (by simp [ints_len])], h3, h4, h5, ?_⟩
    rcases h7 with rfl | rfl
    · exact ⟨h6, by rw [h2]; simp [ints_len]⟩
    · exact ⟨by rw [h2]; simp [ints_len], Nat.le_refl _⟩
theorem OwnF.nil {c : Nat} {bs : List (Nat × Blk)} {k : IntKind} : OwnF c bs k .nilsl [] := .inl ⟨rfl, rfl⟩
theorem OwnF.lk {c d : Nat} {bs bs' : List (Nat × Blk)} {k : IntKind} {s : AV} {zs : List Int} (O : OwnF c bs k s zs) (hr : refOK d s = true) (hl : ∀ id, id < d → lkB bs' id = lkB bs id) : OwnF c bs' k s zs := by
  obtain O | ⟨id, b, cap, rfl, h1, h2⟩ := O
  · exact .inl O
  · simp only [refOK, Nat.blt_eq] at hr
    exact .inr ⟨id, b, cap, rfl, by rw [hl id hr]; exact h1, h2⟩
theorem OwnA.lk {sz n c d : Nat} {bs bs' : List (Nat × Blk)} {s : AV} {cs : List AV} (O : OwnA sz c bs s n cs) (hr : refOK d s = true) (hl : ∀ id, id < d → lkB bs' id = lkB bs id) : OwnA sz c bs' s n cs := by
  obtain ⟨hl', O | ⟨id, b, cap, rfl, h1, h2⟩⟩ := O
  · exact ⟨hl', .inl O⟩
  · simp only [refOK, Nat.blt_eq] at hr
    exact ⟨hl', .inr ⟨id, b, cap, rfl, by rw [hl id hr]; exact h1, h2⟩⟩

/-- The chain of a slice's block. -/
def chOf (bs : List (Nat × Blk)) : AV → Option Nat
  | .sl id _ _ _ _ => (lkB bs id).map (·.ch)
  | _ => none

/-- Slices with at most m numbers are kept. -/
def Keep (c : Nat) (k : IntKind) (m : Nat) (bs bs' : List (Nat × Blk)) : Prop := ∀ t ds, ds.length ≤ m → OwnF c bs k t ds → OwnF c bs' k t ds ∧ chOf bs' t = chOf bs t
theorem Keep.refl {c : Nat} {k : IntKind} {m : Nat} {bs : List (Nat × Blk)} : Keep c k m bs bs := fun _ _ _ O => ⟨O, rfl⟩
theorem Keep.trans {c : Nat} {k : IntKind} {m m' : Nat} {bs bs' bs'' : List (Nat × Blk)} (h : Keep c k m bs bs') (h' : Keep c k m' bs' bs'') (hm : m ≤ m') : Keep c k m bs bs'' := fun t ds hd O =>
  have x := h t ds hd O
  have y := h' t ds (by omega) x.1
  ⟨y.1, y.2.trans x.2⟩
theorem Keep.sub {c : Nat} {k : IntKind} {m : Nat} {bs bs' : List (Nat × Blk)} (s : Sub bs bs') : Keep c k m bs bs' := fun t ds hd O => by
  obtain ⟨rfl, rfl⟩ | ⟨id, b, cap, rfl, h1, h2⟩ := O
  · exact ⟨.inl ⟨rfl, rfl⟩, rfl⟩
  · exact ⟨.inr ⟨id, b, cap, rfl, s _ _ h1, h2⟩, by simp only [chOf, h1, s _ _ h1]⟩
theorem Keep.trunc {c : Nat} {k : IntKind} {m : Nat} {bs : List (Nat × Blk)} {ch s : Nat} : Keep c k m bs (Abs.trunc bs ch s (m * 1)) := fun t ds hd O => by
  obtain ⟨rfl, rfl⟩ | ⟨id, b, cap, rfl, h1, h2, h3, h4, h5, h6, h7⟩ := O
  · exact ⟨.inl ⟨rfl, rfl⟩, rfl⟩
  · obtain ⟨b', e, hb⟩ := lkB_truncs (c := ch) (s := s) (n := m * 1) h1
    rcases hb with rfl | ⟨_, rfl⟩
    · exact ⟨.inr ⟨id, _, cap, rfl, e, h2, h3, h4, h5, h6, h7⟩, by simp only [chOf, e, h1]⟩
    · exact ⟨.inr ⟨id, _, cap, rfl, e, by simp only [h2]; exact List.take_of_length_le (by simp [ints_len]; omega), h3, h4, h5, h6, h7⟩, by simp only [chOf, e, h1, Option.map_some]⟩
theorem Keep.lk {c d : Nat} {h : Hp} {k : IntKind} {m : Nat} {bs bs' : List (Nat × Blk)} (hk : Hok h) (K : Keep c k m h.blks bs) (hl : ∀ id, id < h.next → lkB bs' id = lkB bs id) : Keep c k m h.blks bs' := fun t ds hd O => by
  obtain ⟨x, y⟩ := K t ds hd O
  have hr : refOK h.next t = true := O.own.ref hk
  refine ⟨x.lk hr hl, ?_⟩
  rw [← y]
  cases t <;> try rfl
  simp only [refOK, Nat.blt_eq] at hr
  simp only [chOf, hl _ hr]

/-- Blocks of other chains are as they were. -/
def Off (c : Option Nat) (bs bs' : List (Nat × Blk)) : Prop := ∀ id b, lkB bs id = some b → some b.ch ≠ c → lkB bs' id = some b
theorem Off.refl {c : Option Nat} {bs : List (Nat × Blk)} : Off c bs bs := fun _ _ h _ => h
theorem Off.sub {c : Option Nat} {bs bs' : List (Nat × Blk)} (s : Sub bs bs') : Off c bs bs' := fun id b h _ => s id b h
theorem Off.trans {c : Option Nat} {a b d : List (Nat × Blk)} (h : Off c a b) (h' : Off c b d) : Off c a d := fun id x hx hc => h' id x (h id x hx hc) hc
theorem Off.new {c c' : Option Nat} {h : Hp} {a b d : List (Nat × Blk)} (hk : Hok h) (ha : ∀ id x, lkB a id = some x → id < h.next ∧ x.ch ≤ id) (h1 : Off c a b) (h2 : Off c' b d) (hc : c' = c ∨ ∃ n, c' = some n ∧ h.next ≤ n) : Off c a d := fun id x hx hx' => by
  refine h2 id x (h1 id x hx hx') ?_
  rcases hc with rfl | ⟨n, rfl, hn⟩
  · exact hx'
  · intro e
    have := ha id x hx
    have := Option.some.inj e
    omega
theorem Off.lk {h : Hp} {c : Option Nat} {bs bs' : List (Nat × Blk)} (hk : Hok h) (o : Off c h.blks bs) (hl : ∀ id, id < h.next → lkB bs' id = lkB bs id) : Off c h.blks bs' := fun id b hb hc => by
  rw [hl id (hk.get hb).1]
  exact o id b hb hc
theorem chOf_lt {c : Nat} {h : Hp} {k : IntKind} {s : AV} {zs : List Int} (hk : Hok h) (O : OwnF c h.blks k s zs) : ∀ n, chOf h.blks s = some n → n < h.next := fun n hn => by
  obtain ⟨rfl, rfl⟩ | ⟨id, b, cap, rfl, h1, h2⟩ := O
  · simp [chOf] at hn
  · simp only [chOf, h1, Option.map_some, Option.some.injEq] at hn
    have := hk.get h1
    omega

/-- append of one number to a whole block: all that are not longer are kept. -/
theorem app_keep {h0 h : Hp} {k : IntKind} {s : AV} {zs : List Int} {v : Int} (ho : Hok h0) (g : Grown h0 h) (O : OwnF h0.next h.blks k s zs) (hl : zs.length + 1 ≤ 1073741824) :
    ∃ s' h', sApp true 1 { next := h.next + 1, blks := (h.next, { cells := Abs.ints k [v], ch := h.next, wr := true }) :: h.blks, loops := h.loops, base := h.base, esc := h.esc } s (.sl h.next 0 1 (some 1) 1) = some (s', h') ∧
      OwnF h0.next h'.blks k s' (zs ++ [v]) ∧ Grown h0 h' ∧ Elder h h' ∧ Keep h0.next k zs.length h.blks h'.blks ∧ Off (chOf h.blks s) h.blks h'.blks ∧ (chOf h'.blks s' = chOf h.blks s ∨ ∃ n, chOf h'.blks s' = some n ∧ h.next ≤ n) ∧ s' ≠ .nilsl := by
  have hk := g.ok ho
  obtain ⟨h1, eh1⟩ : ∃ h1 : Hp, h1 = h.pu (Abs.ints k [v]) := ⟨_, rfl⟩
  have g1 : Grown h0 h1 := by rw [eh1]; exact Grown.pu g refsOK_ints
  have x1 : Elder h h1 := by rw [eh1]; exact GrownR.elder (Grown.pu Grown.refl refsOK_ints)
  have s1 : Sub h.blks h1.blks := by rw [eh1]; exact Sub.pu hk
  have a1 : Arr h1.blks 1 (.sl h.next 0 1 (some 1) 1) 1 (Abs.ints k [v]) := by rw [eh1]; exact Ints.top rfl (Nat.le_refl 1)
  have O1 : OwnF h0.next h1.blks k s zs := (Keep.sub (m := zs.length) s1 s zs (Nat.le_refl _) O).1
  have e1 : ({ next := h.next + 1, blks := (h.next, { cells := Abs.ints k [v], ch := h.next, wr := true }) :: h.blks, loops := h.loops, base := h.base, esc := h.esc } : Hp) = h1 := eh1.symm
  have n1 : h1.next = h.next + 1 := by rw [eh1]
  rw [e1]
  clear e1 eh1
  have k1 := g1.ok ho
  suffices H : ∃ s' h', sApp true 1 h1 s (.sl h.next 0 1 (some 1) 1) = some (s', h') ∧ OwnF h0.next h'.blks k s' (zs ++ [v]) ∧ Grown h0 h' ∧ Elder h1 h' ∧ Keep h0.next k zs.length h1.blks h'.blks ∧ Off (chOf h1.blks s) h1.blks h'.blks ∧ (chOf h'.blks s' = chOf h1.blks s ∨ ∃ n, chOf h'.blks s' = some n ∧ h.next ≤ n) ∧ s' ≠ .nilsl by
    obtain ⟨s', h', e, o, g', x, K, f, cc, ne⟩ := H
    have ec : chOf h1.blks s = chOf h.blks s := by
      obtain ⟨rfl, rfl⟩ | ⟨id, b, cap, rfl, h2, h3⟩ := O
      · rfl
      · simp only [chOf, h2, s1 _ _ h2]
    rw [ec] at f cc
    exact ⟨s', h', e, o, g', x1.trans x, (Keep.sub s1).trans K (Nat.le_refl _), (Off.sub s1).trans f, cc, ne⟩
  have hsrc := a1.src (by omega) h1 rfl
  simp only [sApp, hsrc]
  have hc : (Abs.ints k [v]).all AV.isCell = true := all_cell_ints
  have nz : Nat.beq 1 0 = false := rfl
  have hr : refsOK h1.next (Abs.ints k [v]) = true := refsOK_ints
  have top : ∀ (c : Nat) (bs : List (Nat × Blk)), h0.next ≤ c → OwnF h0.next ((h1.next, { cells := Abs.ints k zs ++ Abs.ints k [v], ch := c, wr := true }) :: bs) k (.sl h1.next 0 (zs.length + 1) none 1) (zs ++ [v]) := fun c bs hc =>
    .inr ⟨h1.next, { cells := Abs.ints k zs ++ Abs.ints k [v], ch := c, wr := true }, none, by simp, lkB_top, ints_append, g1.next, hc, rfl, by simp, .inl rfl⟩
  have e2 : Nat.ble (zs.length + 1) 1073741824 = true := Nat.ble_eq_true_of_le hl
  obtain ⟨rfl, rfl⟩ | ⟨id, b, cap, rfl, h2, h3, h4, h5, h6, h7, h8⟩ := O1
  · simp only [sAppend, nz, cond_false, Nat.ble_eq_true_of_le (show 1 ≤ 1073741824 by omega), hc, Bool.and_self, cond_true, Hp.new]
    have T := top h1.next h1.blks g1.next
    have gg := GrownR.push (w := true) g1 (refsOK_mono (Nat.le_succ _) hr) (Nat.le_refl h1.next)
    exact ⟨_, _, rfl, T, gg, GrownR.elder (GrownR.push (w := true) (Grown.refl (h := h1)) (refsOK_mono (Nat.le_succ _) hr) (Nat.le_refl h1.next)), Keep.sub (Sub.push (Sub.refl _) (HokR.fresh k1)), Off.sub (Sub.push (Sub.refl _) (HokR.fresh k1)), .inr ⟨h1.next, by simp only [chOf, lkB_top, Option.map_some], by omega⟩, fun e => by cases e⟩
  · have hcs : refsOK h1.next (Abs.ints k zs) = true := refsOK_ints
    rcases h8 with rfl | rfl
    · have e3 : Nat.ble (0 + (zs.length + 1) * 1) b.cells.length = false := by
        rw [h3, ints_len]
        cases hb : Nat.ble (0 + (zs.length + 1) * 1) zs.length
        · rfl
        · have := Nat.le_of_ble_eq_true hb; omega
      have e4 : Nat.ble (zs.length * 1) b.cells.length = true := Nat.ble_eq_true_of_le (by rw [h3, ints_len]; omega)
      have e5 : b.cells.take (zs.length * 1) = Abs.ints k zs := by rw [h3]; exact List.take_of_length_le (by simp [ints_len])
      simp only [sAppend, Nat.beq_refl, Bool.not_true, cond_false, nz, e2, hc, Bool.and_self, h2, e3, Bool.and_false, h6, e4, cond_true, e5]
      obtain ⟨new, en, fn⟩ := g1.blks
      obtain ⟨new', en', f1⟩ := @trunc_app b.ch h1.next (zs.length * 1) h0.next h0.blks (fun x hx => (ho.blk hx).1) (by omega) new fn
      have gt : GrownR h0 h1.next (Abs.trunc h1.blks b.ch h1.next (zs.length * 1)) h1.loops := ⟨⟨new', by rw [en, en'], f1⟩, g1.next, fun _ => k1.trunc, g1.loops⟩
      have gg := gt.push (w := true) (c := b.ch) (refsOK_mono (Nat.le_succ _) (refsOK_append hcs hr)) (by have := k1.get h2; omega)
      refine ⟨_, _, rfl, top _ _ h5, gg, ⟨⟨[(h1.next, { cells := Abs.ints k zs ++ Abs.ints k [v], ch := b.ch, wr := true })], _, rfl, trunc_keys _ _ _ _, by simp⟩, Nat.le_succ _⟩, ?_, fun id' x hx hc => ?_, .inl (by simp only [chOf, lkB_top, h2, Option.map_some]), fun e => by cases e⟩
      rotate_left
      · have hne : id' ≠ h1.next := Nat.ne_of_lt (k1.get hx).1
        rw [lkB_push hne]
        obtain ⟨b', e, hb⟩ := lkB_truncs (c := b.ch) (s := h1.next) (n := zs.length * 1) hx
        rcases hb with rfl | ⟨hch, _⟩
        · exact e
        · simp only [chOf, h2, Option.map_some] at hc
          exact absurd (congrArg some hch) hc
      exact (Keep.trunc (ch := b.ch) (s := h1.next)).trans (Keep.sub (Sub.push (Sub.refl _) (HokR.fresh (n := h1.next) (ls := h1.loops) k1.trunc))) (Nat.le_refl _)
    · have e3 : Nat.ble (zs.length + 1) zs.length = false := by
        cases hb : Nat.ble (zs.length + 1) zs.length
        · rfl
        · have := Nat.le_of_ble_eq_true hb; omega
      have e4 : slice? b.cells 0 (zs.length * 1) = some (Abs.ints k zs) := by
        simp only [slice?, h3, Nat.ble_eq_true_of_le (show 0 + zs.length * 1 ≤ (Abs.ints k zs).length by rw [ints_len]; omega), cond_true, List.drop_zero]
        rw [List.take_of_length_le (by simp [ints_len])]
      simp only [sAppend, Nat.beq_refl, Bool.not_true, cond_false, nz, e2, hc, Bool.and_self, h2, e3, e4, Hp.new]
      have gg := GrownR.push (w := true) g1 (refsOK_mono (Nat.le_succ _) (refsOK_append hcs hr)) (Nat.le_refl h1.next)
      exact ⟨_, _, rfl, top _ _ g1.next, gg, GrownR.elder (GrownR.push (w := true) (Grown.refl (h := h1)) (refsOK_mono (Nat.le_succ _) (refsOK_append hcs hr)) (Nat.le_refl h1.next)), Keep.sub (Sub.push (Sub.refl _) (HokR.fresh k1)), Off.sub (Sub.push (Sub.refl _) (HokR.fresh k1)), .inr ⟨h1.next, by simp only [chOf, lkB_top, Option.map_some], by omega⟩, fun e => by cases e⟩

/-- The code's first three parts, and what follows. -/
theorem wseq {C : Spec} {a b c : SC} {s : St} {Q : Ex → St → Prop} : wp C (.seq a (.seq b c)) s Q = wp C (.seq (.seq a b) c) s Q := by
  rw [wp_seq, wp_seq, wp_seq]
  congr 1
  funext e s'
  cases e <;> simp only [onEx_normal, onEx_exit, onEx_ret, wp_seq]

section
variable {P : Program} {T : Tab}
theorem keys_split {h : Hp} {new old : List (Nat × Blk)} (hk : Hok h) (hm : old.map (·.1) = h.blks.map (·.1)) (hn : ∀ x ∈ new, h.next ≤ x.1) : ∀ id, id < h.next → lkB old id = lkB (new ++ old) id := fun id hid =>
  (lkB_app fun x hx e => by have := hn x hx; omega).symm

/-- A call that may append to slices that were passed in. -/
theorem evals_own {f : Nat} {sf : SFun} (hc : compF P f = some sf) {args : List AV} {h0 h : Hp} (ho : Hok h0) (g0 : Grown h0 h) (Q : AV → List (Nat × Blk) → Prop) (hlen : Nat.ble args.length sf.nt = true)
    (H : wp (Evals P T false) sf.body { fr := initS sf.slots args, hp := { next := h.next, blks := h.blks, loops := h.loops, base := h.next, esc := false } } fun e s => (match e with | .exit _ => False | _ => True) ∧ ∃ vs, sresVs s.fr s.hp sf.res = some vs ∧ Grown h0 s.hp ∧ Elder h s.hp ∧ Q (resOf vs) s.hp.blks)
    (hq : ∀ v bs bs', (∀ id, id < h.next → lkB bs' id = lkB bs id) → refOK h.next v = true → Q v bs → Q v bs') (hT : T f args h = none := by rfl) :
    ∃ v h', Evals P T false (.func f) args h (v, h') ∧ (Grown h0 h' ∧ Elder h h' ∧ Q v h'.blks) :=
  evals_func (Q := fun v h' => Grown h0 h' ∧ Elder h h' ∧ Q v h'.blks) hc hlen (wp_mono (fun e s Hs => by
    obtain ⟨h1, vs, h2, g, x, q⟩ := Hs
    refine ⟨h1, vs, h2, ?_⟩
    obtain ⟨new, old, hb, hm, hn⟩ := x.blks
    have hk := g0.ok ho
    have hlo : old.length = h.blks.length := by have := congrArg List.length hm; simpa using this
    have hd : s.hp.blks.drop (s.hp.blks.length - h.blks.length) = old := by rw [hb, List.length_append, ← hlo, Nat.add_sub_cancel, List.drop_left]
    have hll : lowL h.next s.hp.loops = s.hp.loops := by rw [g.loops, ← g0.loops]; exact lowL_same fun x hx => HokR.lps hk hx
    simp only [leave, cond_false, hd, hll]
    cases hs : (refOK h.next (resOf vs) && selfOK h.next old s.hp.loops)
    · exact ⟨g, ⟨x.blks, x.next⟩, q⟩
    · simp only [Bool.and_eq_true] at hs
      simp only [cond_true]
      refine ⟨⟨?_, g0.next, fun _ => hs.2, g.loops⟩, ⟨⟨[], old, rfl, hm, by simp⟩, Nat.le_refl _⟩, hq _ _ _ (fun id hid => ?_) hs.1 q⟩
      · obtain ⟨N, eN, fN⟩ := g.blks
        obtain ⟨M, eM, fM⟩ := g0.blks
        have hl2 : M.length + h0.blks.length = old.length := by rw [hlo, eM, List.length_append]
        rw [eN] at hb
        refine ⟨N.drop new.length, ?_, fun x hx => fN x (List.mem_of_mem_drop hx)⟩
        have hNl : new.length ≤ N.length := by
          have := congrArg List.length hb
          simp only [List.length_append] at this
          omega
        have := congrArg (List.drop new.length) hb
        rw [List.drop_left, List.drop_append_of_le_length hNl] at this
        exact this.symm
      · rw [hb]
        exact keys_split hk hm hn id hid) H) hT
end
end Go.Abs
