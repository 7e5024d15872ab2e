/- The relation of an abstract heap to a world, and what reading, making and writing blocks do to it. -/
import Derived.Test.YtogfojkjocbahaaC
import Derived.Laws.CopyRow
import Derived.Laws.Cells
namespace Go.Abs
open Go Go.RowKit

theorem R_ofS (σ : Env) (v : Value) : R σ (ofS v) v := by
  unfold ofS
  split <;> simp [R]

theorem R_ofV (σ : Env) (v : Value) : R σ (ofV v) v := by
  unfold ofV
  split
  · rename_i cs
    simp only [R]
    refine ⟨cs, rfl, ?_⟩
    have := Rs.map (σ := σ) ofS id (l := cs.toList) (fun x _ => R_ofS σ x)
    simpa using this
  · rename_i t v
    simp only [R]
    exact ⟨v, rfl, R_ofS σ v⟩
  · exact R_ofS σ v

theorem add_none (b o n : Nat) : (⟨b, o, none⟩ : Addr).add n = ⟨b, o + n, none⟩ := by
  unfold Addr.add
  split <;> simp_all

theorem nb {a b : Nat} (h : a ≠ b) : Nat.beq a b = false := by
  cases e : Nat.beq a b
  · rfl
  · exact absurd (Nat.eq_of_beq_eq_true e) h

/-! ### Frames -/
def FR (σ : Env) (n : Nat) (f : Nat → AV) (tmps : Array Value) : Prop := tmps.size = n ∧ ∀ t, R σ (f t) (tmps.getD t undef)

theorem FR.ext {σ τ : Env} {n : Nat} {f : Nat → AV} {tmps : Array Value} (h : FR σ n f tmps) (e : Ext σ τ) : FR τ n f tmps := ⟨h.1, fun t => (h.2 t).ext e⟩

theorem lkF_setF : ∀ (fr : Fr) (t : Nat) (v : AV) (u : Nat), lkF (setF fr t v) u = if u = t then v else lkF fr u
  | [], t, v, u => by
    by_cases h : u = t
    · simp [setF, lkF, h]
    · have : Nat.beq t u = false := nb (by omega)
      simp [setF, lkF, h, this]
  | (j, w) :: r, t, v, u => by
    by_cases hj : j = t
    · subst hj
      by_cases h : u = j
      · simp [setF, lkF, h]
      · have : Nat.beq j u = false := nb (by omega)
        simp [setF, lkF, h, this]
    · have h1 : Nat.beq j t = false := nb hj
      by_cases hu : j = u
      · subst hu
        simp [setF, lkF, h1, hj]
      · have h2 : Nat.beq j u = false := nb hu
        simp [setF, lkF, h1, h2, lkF_setF r t v u]

/-! ### Blocks -/
theorem lkB_setB_same : ∀ (l : List (Nat × Blk)) (i : Nat) (b : Blk) (d : Blk), lkB l i = some d → lkB (setB l i b) i = some b
  | [], i, b, d, h => by simp [lkB] at h
  | (j, x) :: r, i, b, d, h => by
    by_cases hj : j = i
    · subst hj; simp [setB, lkB]
    · have h1 : Nat.beq j i = false := nb hj
      simp only [lkB, h1, cond_false] at h
      simp [setB, lkB, h1, lkB_setB_same r i b d h]

theorem lkB_setB_other : ∀ (l : List (Nat × Blk)) (i : Nat) (b : Blk) (k : Nat), k ≠ i → lkB (setB l i b) k = lkB l k
  | [], i, b, k, _ => by simp [setB]
  | (j, x) :: r, i, b, k, h => by
    by_cases hj : j = i
    · subst hj
      have : Nat.beq j k = false := nb (by omega)
      simp [setB, lkB, this]
    · have h1 : Nat.beq j i = false := nb hj
      by_cases hk : j = k
      · subst hk; simp [setB, lkB, h1]
      · have h2 : Nat.beq j k = false := nb hk
        simp [setB, lkB, h1, h2, lkB_setB_other r i b k h]

theorem lkB_mem : ∀ {l : List (Nat × Blk)} {i : Nat} {b : Blk}, lkB l i = some b → (i, b) ∈ l
  | [], i, b, h => by simp [lkB] at h
  | (j, x) :: r, i, b, h => by
    by_cases hj : j = i
    · subst hj
      simp [lkB] at h
      simp [h]
    · have h1 : Nat.beq j i = false := nb hj
      simp only [lkB, h1, cond_false] at h
      exact List.mem_cons_of_mem _ (lkB_mem h)

/-- The blocks lie newest first. -/
def Srt (l : List (Nat × Blk)) : Prop := l.Pairwise fun a b => b.1 < a.1
def Chn (l : List (Nat × Blk)) (next : Nat) : Prop := ∀ x ∈ l, x.2.ch ≤ x.1 ∧ x.1 < next

theorem trunc_mem : ∀ {l : List (Nat × Blk)} {c s n : Nat} {x : Nat × Blk}, x ∈ trunc l c s n → ∃ y ∈ l, y.1 = x.1 ∧ y.2.ch = x.2.ch ∧ y.2.wr = x.2.wr
  | [], c, s, n, x, h => by simp [trunc] at h
  | (j, b) :: r, c, s, n, x, h => by
    simp only [trunc] at h
    cases hb : Nat.blt j c
    · simp only [hb, cond_false, List.mem_cons] at h
      rcases h with rfl | h
      · refine ⟨(j, b), by simp, rfl, ?_⟩
        cases (Nat.beq b.ch c && !Nat.beq j s) <;> simp
      · obtain ⟨y, hy, h1⟩ := trunc_mem h
        exact ⟨y, by simp [hy], h1⟩
    · simp only [hb, cond_true] at h
      exact ⟨x, h, rfl, rfl, rfl⟩

theorem trunc_Srt : ∀ {l : List (Nat × Blk)} (c s n : Nat), Srt l → Srt (trunc l c s n)
  | [], c, s, n, h => by simpa [trunc] using h
  | (j, b) :: r, c, s, n, h => by
    simp only [trunc]
    cases hb : Nat.blt j c
    · simp only [cond_false]
      simp only [Srt, List.pairwise_cons] at h ⊢
      refine ⟨fun x hx => ?_, trunc_Srt c s n h.2⟩
      obtain ⟨y, hy, h1, _⟩ := trunc_mem hx
      rw [← h1]
      exact h.1 y hy
    · simpa only [cond_true] using h

theorem setB_mem : ∀ {l : List (Nat × Blk)} {i : Nat} {b : Blk} {x : Nat × Blk}, x ∈ setB l i b → x ∈ l ∨ (x = (i, b) ∧ ∃ d, (i, d) ∈ l)
  | [], i, b, x, h => by simp [setB] at h
  | (j, d) :: r, i, b, x, h => by
    by_cases hj : j = i
    · subst hj
      simp only [setB, Nat.beq_refl, cond_true, List.mem_cons] at h
      rcases h with rfl | h
      · exact .inr ⟨rfl, d, by simp⟩
      · exact .inl (by simp [h])
    · have h1 : Nat.beq j i = false := nb hj
      simp only [setB, h1, cond_false, List.mem_cons] at h
      rcases h with rfl | h
      · exact .inl (by simp)
      · rcases setB_mem h with h | ⟨h, d', hd⟩
        · exact .inl (by simp [h])
        · exact .inr ⟨h, d', by simp [hd]⟩

theorem setB_Srt : ∀ {l : List (Nat × Blk)} (i : Nat) (b : Blk), Srt l → Srt (setB l i b)
  | [], i, b, h => by simpa [setB] using h
  | (j, d) :: r, i, b, h => by
    simp only [Srt, List.pairwise_cons] at h
    by_cases hj : j = i
    · subst hj
      simp only [setB, Nat.beq_refl, cond_true, Srt, List.pairwise_cons]
      exact ⟨fun x hx => h.1 x hx, h.2⟩
    · have h1 : Nat.beq j i = false := nb hj
      simp only [setB, h1, cond_false, Srt, List.pairwise_cons]
      refine ⟨fun x hx => ?_, setB_Srt i b h.2⟩
      rcases setB_mem hx with hx | ⟨rfl, d', hd⟩
      · exact h.1 x hx
      · exact h.1 (i, d') hd

/-- What 'trunc' leaves of a block. -/
theorem lkB_trunc : ∀ {l : List (Nat × Blk)} {c s n next : Nat}, Srt l → Chn l next → ∀ {i : Nat} {d : Blk}, lkB (trunc l c s n) i = some d →
    ∃ b, lkB l i = some b ∧ d.ch = b.ch ∧ d.wr = b.wr ∧ ((b.ch ≠ c ∨ i = s) ∧ d = b ∨ (b.ch = c ∧ i ≠ s) ∧ d.cells = b.cells.take n)
  | [], c, s, n, next, _, _, i, d, h => by simp [trunc, lkB] at h
  | (j, b) :: r, c, s, n, next, hs, hc, i, d, h => by
    simp only [trunc] at h
    cases hb : Nat.blt j c
    · simp only [hb, cond_false] at h
      by_cases hj : j = i
      · subst hj
        simp only [lkB, Nat.beq_refl, cond_true, Option.some.injEq] at h
        refine ⟨b, by simp [lkB], ?_⟩
        cases h1 : Nat.beq b.ch c
        · simp only [h1, Bool.false_and, cond_false] at h
          subst h
          refine ⟨rfl, rfl, .inl ⟨.inl ?_, rfl⟩⟩
          intro e; rw [e] at h1; simp at h1
        · cases h2 : Nat.beq j s
          · simp only [h1, h2, Bool.not_false, Bool.and_self, cond_true] at h
            subst h
            exact ⟨rfl, rfl, .inr ⟨⟨Nat.eq_of_beq_eq_true h1, fun e => by rw [e] at h2; simp at h2⟩, rfl⟩⟩
          · simp only [h1, h2, Bool.not_true, Bool.and_false, cond_false] at h
            subst h
            exact ⟨rfl, rfl, .inl ⟨.inr (Nat.eq_of_beq_eq_true h2), rfl⟩⟩
      · have h1 : Nat.beq j i = false := nb hj
        simp only [lkB, h1, cond_false] at h
        obtain ⟨b', hb', h2⟩ := lkB_trunc (next := next) (by simp only [Srt, List.pairwise_cons] at hs; exact hs.2) (fun x hx => hc x (by simp [hx])) h
        exact ⟨b', by simp [lkB, h1, hb'], h2⟩
    · simp only [hb, cond_true] at h
      refine ⟨d, h, rfl, rfl, .inl ⟨.inl ?_, rfl⟩⟩
      have hm := lkB_mem h
      have hlt : j < c := by have := Nat.le_of_ble_eq_true hb; omega
      have hle : i ≤ j := by
        simp only [List.mem_cons, Prod.mk.injEq] at hm
        rcases hm with ⟨rfl, _⟩ | hm
        · omega
        · simp only [Srt, List.pairwise_cons] at hs
          have := hs.1 _ hm
          simp at this
          omega
      have := (hc _ hm).1
      simp at this
      omega

theorem lkB_trunc_some : ∀ {l : List (Nat × Blk)} (c s n : Nat) {i : Nat} {b : Blk}, lkB l i = some b → (b.ch ≠ c ∨ i = s) → lkB (trunc l c s n) i = some b
  | [], c, s, n, i, b, h, _ => by simp [lkB] at h
  | (j, d) :: r, c, s, n, i, b, h, hn => by
    simp only [trunc]
    cases hb : Nat.blt j c
    · simp only [cond_false]
      by_cases hj : j = i
      · subst hj
        simp only [lkB, Nat.beq_refl, cond_true, Option.some.injEq] at h ⊢
        subst h
        rcases hn with hn | rfl
        · have : Nat.beq d.ch c = false := nb hn
          simp [this]
        · simp
      · have h1 : Nat.beq j i = false := nb hj
        simp only [lkB, h1, cond_false] at h ⊢
        exact lkB_trunc_some c s n h hn
    · simpa only [cond_true] using h

/-! ### The relation -/
structure HR (σ : Env) (base : Nat) (h : Hp) (w : World) : Prop where
  dom : ∀ i, h.next ≤ i → σ i = none
  srt : Srt h.blks
  chn : Chn h.blks h.next
  cel : ∀ i b, lkB h.blks i = some b → ∃ c cs e fz, σ i = some c ∧ w.heap[c.blk]? = some (.cells cs e fz) ∧ cs.size = c.off + c.tot ∧ b.cells.length ≤ c.tot ∧
    (∀ j a, b.cells[j]? = some a → ∃ v, cs[c.off + j]? = some v ∧ R σ a v) ∧ (b.wr = true → fz = (0, 0) ∧ base ≤ c.blk)
  al : ∀ i j b d c c', i ≠ j → lkB h.blks i = some b → lkB h.blks j = some d → σ i = some c → σ j = some c' → c.blk = c'.blk → b.wr = true → b.ch = d.ch ∧ c = c'
  lps : ∀ l r, lkL h.loops l = some r → ∃ c x, σ l = some c ∧ w.heap[c.blk]? = some (.loop x) ∧ x.params = r.ps ∧ x.assign = r.assign ∧ x.body = r.body ∧
    x.state = (match r.st with | 0 => .ready | 1 => .busy | 2 => .done | _ => .exhausted) ∧
    x.pending = r.jump.map (fun j => match j with | none => .ret | some id => .exit id) ∧ FR σ r.n (lkF r.fr) x.tmps ∧ base ≤ c.blk ∧ (∀ t, r.keep.testBit t = false → lkF r.fr t = .any)
  lal : ∀ l l' r r' c c', l ≠ l' → lkL h.loops l = some r → lkL h.loops l' = some r' → σ l = some c → σ l' = some c' → c.blk ≠ c'.blk

theorem lt_of_heap {w : World} {k : Nat} {o : Obj} (h : w.heap[k]? = some o) : k < w.heap.size := (Array.getElem?_eq_some_iff.1 h).1

theorem HR.inb {σ : Env} {base : Nat} {h : Hp} {w : World} (H : HR σ base h w) {i : Nat} {b : Blk} {c : Loc} (hb : lkB h.blks i = some b) (hc : σ i = some c) : c.blk < w.heap.size := by
  obtain ⟨c', _, _, _, a1, a2, _⟩ := H.cel i b hb
  rw [hc] at a1
  cases a1
  exact lt_of_heap a2

/-- What a step does to the world beyond what the abstract heap says. -/
structure Fw (base : Nat) (w w' : World) : Prop where
  bel : Below base w w'
  dfr : ∀ (k : Nat) (ds : Option (List Deferred)), w.heap[k]? = some (Obj.deferred ds) → w'.heap[k]? = some (Obj.deferred ds)
  lop : ∀ (k : Nat) (x : Loop), w.heap[k]? = some (Obj.loop x) → ∃ y, w'.heap[k]? = some (Obj.loop y)

theorem Fw.refl (base : Nat) (w : World) : Fw base w w := ⟨Below.refl _ _, fun _ _ h => h, fun _ x h => ⟨x, h⟩⟩
theorem Fw.trans {base : Nat} {a b c : World} (h : Fw base a b) (k : Fw base b c) : Fw base a c := ⟨h.bel.trans k.bel, fun i ds x => k.dfr i ds (h.dfr i ds x), fun i x hx => let ⟨y, hy⟩ := h.lop i x hx; k.lop i y hy⟩

theorem HR.drew {σ : Env} {base : Nat} {h : Hp} {w : World} (H : HR σ base h w) : HR σ base h w.drew := ⟨H.dom, H.srt, H.chn, H.cel, H.al, H.lps, H.lal⟩
theorem Fw.drew (base : Nat) (w : World) : Fw base w w.drew := ⟨(Below.refl _ _).drew, fun _ _ h => h, fun _ x h => ⟨x, h⟩⟩

end Go.Abs
