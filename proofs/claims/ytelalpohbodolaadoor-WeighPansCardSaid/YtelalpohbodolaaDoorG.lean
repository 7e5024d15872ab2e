/- What an abstract value stands for; what an abstract heap says of a world. The relation of an abstract heap to a world, and what reading, making and writing blocks do to it. Steps of the heap: a new block, a write, what is forgotten. Each operation does to a world what the abstract operation says (1): memory. Each operation does to a world what the abstract operation says (2): the operations one by one. -/
import Derived.Test.YtelalpohbodolaaDoorB
import Derived.Laws.CopyRow
import Derived.Laws.Cells
import Derived.ChangeKeysEq
import Derived.Laws.Append
set_option linter.unusedSimpArgs false
set_option linter.unusedVariables false
namespace Go.Abs
open Go Go.RowKit

structure Loc where
  blk : Nat
  off : Nat
  tot : Nat

abbrev Env := Nat → Option Loc

mutual
def R (σ : Env) : AV → Value → Prop
  | .any, _ => True
  | .bool x, v => v = .bool x
  | .int k n, v => v = .int k n
  | .str l, v => v = .string ⟨l.toArray⟩
  | .ptr id off, v => ∃ c, σ id = some c ∧ v = .pointer (some ⟨c.blk, c.off + off, none⟩)
  | .nilptr, v => v = .pointer none
  | .sl id off len cap sz, v => ∃ c k, σ id = some c ∧ v = .slice (some ⟨c.blk, c.off + off, none⟩) len k ∧ len ≤ k ∧ (match cap with | some x => k = x | none => off + k * sz = c.tot ∧ k ≤ maxLen)
  | .nilsl, v => v = .slice none 0 0
  | .esl, v => ∃ a k, v = .slice (some a) 0 k
  | .mp id, v => ∃ c, σ id = some c ∧ v = .map (some c.blk)
  | .nilmp, v => v = .map none
  | .fn f a c, v => ∃ x y, v = .func f x y ∧ Rs σ a x.toList ∧ Rs σ c y.toList
  | .yld id, v => ∃ c, σ id = some c ∧ v = .func (.yield c.blk) #[] #[]
  | .nilfn, v => v = .nilFunc
  | .ifc t a, v => ∃ x, v = .iface t x ∧ R σ a x
  | .nilifc, v => v = .nilIface
  | .ag cs, v => ∃ x, v = .agg x ∧ Rs σ cs x.toList
  | .tu cs, v => ∃ x, v = .tuple x ∧ Rs σ cs x.toList
def Rs (σ : Env) : List AV → List Value → Prop
  | [], l => l = []
  | a :: r, l => ∃ v m, l = v :: m ∧ R σ a v ∧ Rs σ r m
end

def Ext (σ τ : Env) : Prop := ∀ i c, σ i = some c → τ i = some c

theorem Ext.refl (σ : Env) : Ext σ σ := fun _ _ h => h
theorem Ext.trans {σ τ υ : Env} (h : Ext σ τ) (k : Ext τ υ) : Ext σ υ := fun i c x => k i c (h i c x)

mutual
theorem R.ext {σ τ : Env} (h : Ext σ τ) : ∀ {a : AV} {v : Value}, R σ a v → R τ a v
  | .any, _, _ => by simp [R]
  | .bool x, v, hr => by simpa [R] using hr
  | .int k n, v, hr => by simpa [R] using hr
  | .str l, v, hr => by simpa [R] using hr
  | .ptr id off, v, hr => by
    simp only [R] at hr ⊢
    obtain ⟨c, h1, h2⟩ := hr
    exact ⟨c, h _ _ h1, h2⟩
  | .nilptr, v, hr => by simpa [R] using hr
  | .sl id off len cap sz, v, hr => by
    simp only [R] at hr ⊢
    obtain ⟨c, k, h1, h2⟩ := hr
    exact ⟨c, k, h _ _ h1, h2⟩
  | .nilsl, v, hr => by simpa [R] using hr
  | .esl, v, hr => by simpa [R] using hr
  | .mp id, v, hr => by
    simp only [R] at hr ⊢
    obtain ⟨c, h1, h2⟩ := hr
    exact ⟨c, h _ _ h1, h2⟩
  | .nilmp, v, hr => by simpa [R] using hr
  | .fn f a c, v, hr => by
    simp only [R] at hr ⊢
    obtain ⟨x, y, h1, h2, h3⟩ := hr
    exact ⟨x, y, h1, Rs.ext h h2, Rs.ext h h3⟩
  | .yld id, v, hr => by
    simp only [R] at hr ⊢
    obtain ⟨c, h1, h2⟩ := hr
    exact ⟨c, h _ _ h1, h2⟩
  | .nilfn, v, hr => by simpa [R] using hr
  | .ifc t a, v, hr => by
    simp only [R] at hr ⊢
    obtain ⟨x, h1, h2⟩ := hr
    exact ⟨x, h1, R.ext h h2⟩
  | .nilifc, v, hr => by simpa [R] using hr
  | .ag cs, v, hr => by
    simp only [R] at hr ⊢
    obtain ⟨x, h1, h2⟩ := hr
    exact ⟨x, h1, Rs.ext h h2⟩
  | .tu cs, v, hr => by
    simp only [R] at hr ⊢
    obtain ⟨x, h1, h2⟩ := hr
    exact ⟨x, h1, Rs.ext h h2⟩
theorem Rs.ext {σ τ : Env} (h : Ext σ τ) : ∀ {l : List AV} {m : List Value}, Rs σ l m → Rs τ l m
  | [], m, hr => by simpa [Rs] using hr
  | a :: r, m, hr => by
    simp only [Rs] at hr ⊢
    obtain ⟨v, m', h1, h2, h3⟩ := hr
    exact ⟨v, m', h1, R.ext h h2, Rs.ext h h3⟩
end

theorem R_any {σ : Env} {v : Value} : R σ .any v := by simp [R]

theorem Rs.length {σ : Env} : ∀ {l : List AV} {m : List Value}, Rs σ l m → m.length = l.length
  | [], m, h => by simp [Rs] at h; simp [h]
  | a :: r, m, h => by
    simp only [Rs] at h
    obtain ⟨v, m', rfl, _, h3⟩ := h
    simp [h3.length]

theorem Rs.get {σ : Env} : ∀ {l : List AV} {m : List Value}, Rs σ l m → ∀ {j : Nat} {a : AV}, l[j]? = some a → ∃ v, m[j]? = some v ∧ R σ a v
  | [], m, _, j, a, hj => by simp at hj
  | b :: r, m, h, j, a, hj => by
    simp only [Rs] at h
    obtain ⟨v, m', rfl, h2, h3⟩ := h
    cases j with
    | zero => simp at hj; subst hj; exact ⟨v, by simp, h2⟩
    | succ j => simp at hj; obtain ⟨u, hu, hr⟩ := h3.get hj; exact ⟨u, by simpa using hu, hr⟩

theorem Rs.mk {σ : Env} : ∀ {l : List AV} {m : List Value}, m.length = l.length → (∀ (j : Nat) (a : AV) (v : Value), l[j]? = some a → m[j]? = some v → R σ a v) → Rs σ l m
  | [], m, h, _ => by simp [Rs]; exact List.eq_nil_of_length_eq_zero (by simpa using h)
  | a :: r, m, h, hr => by
    cases m with
    | nil => simp at h
    | cons v m =>
      simp only [Rs]
      exact ⟨v, m, rfl, hr 0 a v (by simp) (by simp), Rs.mk (by simpa using h) fun j b u hb hu => hr (j + 1) b u (by simpa using hb) (by simpa using hu)⟩

theorem Rs.append {σ : Env} : ∀ {l l' : List AV} {m m' : List Value}, Rs σ l m → Rs σ l' m' → Rs σ (l ++ l') (m ++ m')
  | [], l', m, m', h, h' => by simp [Rs] at h; subst h; simpa using h'
  | a :: r, l', m, m', h, h' => by
    simp only [Rs] at h
    obtain ⟨v, m1, rfl, h2, h3⟩ := h
    simp only [List.cons_append, Rs]
    exact ⟨v, _, rfl, h2, h3.append h'⟩

theorem Rs.take {σ : Env} {l : List AV} {m : List Value} (h : Rs σ l m) (n : Nat) : Rs σ (l.take n) (m.take n) := by
  refine Rs.mk (by simp [h.length]) fun j a v ha hv => ?_
  rw [List.getElem?_take] at ha hv
  split at ha
  · obtain ⟨u, hu, hr⟩ := h.get ha
    rw [if_pos ‹_›, hu] at hv
    cases hv
    exact hr
  · cases ha

theorem Rs.drop {σ : Env} {l : List AV} {m : List Value} (h : Rs σ l m) (n : Nat) : Rs σ (l.drop n) (m.drop n) := by
  refine Rs.mk (by simp [h.length]) fun j a v ha hv => ?_
  rw [List.getElem?_drop] at ha hv
  obtain ⟨u, hu, hr⟩ := h.get ha
  rw [hu] at hv
  cases hv
  exact hr

theorem Rs.map {σ : Env} {α : Type} (f : α → AV) (g : α → Value) : ∀ {l : List α}, (∀ x ∈ l, R σ (f x) (g x)) → Rs σ (l.map f) (l.map g)
  | [], _ => by simp [Rs]
  | x :: r, h => by
    simp only [List.map_cons, Rs]
    exact ⟨_, _, rfl, h x (by simp), Rs.map f g fun y hy => h y (by simp [hy])⟩

theorem Rs.nil {σ : Env} : Rs σ [] [] := by simp [Rs]
theorem Rs.one {σ : Env} {a : AV} {v : Value} (h : R σ a v) : Rs σ [a] [v] := by simp [Rs, h]

/-- A value that may lie in a cell. -/
theorem R.oneCell {σ : Env} {a : AV} {v : Value} (ha : a.isCell = true) (h : R σ a v) : v.oneCell' = true := by
  cases a <;> simp [AV.isCell] at ha <;> simp only [R] at h
  all_goals first
    | (subst h; rfl)
    | (obtain ⟨_, rfl⟩ := h; rfl)
    | (obtain ⟨_, h⟩ := h; first | (obtain ⟨_, rfl⟩ := h; rfl) | (obtain ⟨rfl, _⟩ := h; rfl) | (obtain ⟨_, _, h⟩ := h; first | (obtain ⟨rfl, _⟩ := h; rfl) | (subst h; rfl)) | (obtain ⟨_, h, _⟩ := h; subst h; rfl))

/-- The cells of a value. -/
theorem R.parts {σ : Env} {a : AV} {v : Value} {cs : List AV} (hp : a.parts = some cs) (h : R σ a v) : Rs σ cs v.cells.toList := by
  cases a <;> simp only [AV.parts] at hp
  case any => cases hp
  case tu => cases hp
  case ag xs =>
    cases hp
    simp only [R] at h
    obtain ⟨x, rfl, hx⟩ := h
    exact hx
  all_goals
    cases hp
    have hone := R.oneCell (by rfl) h
    have : v.cells = #[v] := by cases v <;> simp [Value.oneCell'] at hone <;> rfl
    rw [this]
    exact Rs.one h

end Go.Abs

namespace Go.Abs
open Go Go.RowKit

theorem R_ofS (σ : Env) (v : Value) : R σ (ofS v) v := by
  unfold ofS
  split <;> simp [R]

theorem R_ofV (σ : Env) (v : Value) : R σ (ofV v) v := by
  unfold ofV
  split
  · rename_i cs
    simp only [R]
    refine ⟨cs, rfl, ?_⟩
    have := Rs.map (σ := σ) ofS id (l := cs.toList) (fun x _ => R_ofS σ x)
    simpa using this
  · rename_i t v
    simp only [R]
    exact ⟨v, rfl, R_ofS σ v⟩
  · exact R_ofS σ v

theorem add_none (b o n : Nat) : (⟨b, o, none⟩ : Addr).add n = ⟨b, o + n, none⟩ := by
  unfold Addr.add
  split <;> simp_all

theorem nb {a b : Nat} (h : a ≠ b) : Nat.beq a b = false := by
  cases e : Nat.beq a b
  · rfl
  · exact absurd (Nat.eq_of_beq_eq_true e) h

/-! ### Frames -/
def FR (σ : Env) (n : Nat) (f : Nat → AV) (tmps : Array Value) : Prop := tmps.size = n ∧ ∀ t, R σ (f t) (tmps.getD t undef)

theorem FR.ext {σ τ : Env} {n : Nat} {f : Nat → AV} {tmps : Array Value} (h : FR σ n f tmps) (e : Ext σ τ) : FR τ n f tmps := ⟨h.1, fun t => (h.2 t).ext e⟩

theorem lkF_setF : ∀ (fr : Fr) (t : Nat) (v : AV) (u : Nat), lkF (setF fr t v) u = if u = t then v else lkF fr u
  | [], t, v, u => by
    by_cases h : u = t
    · simp [setF, lkF, h]
    · have : Nat.beq t u = false := nb (by omega)
      simp [setF, lkF, h, this]
  | (j, w) :: r, t, v, u => by
    by_cases hj : j = t
    · subst hj
      by_cases h : u = j
      · simp [setF, lkF, h]
      · have : Nat.beq j u = false := nb (by omega)
        simp [setF, lkF, h, this]
    · have h1 : Nat.beq j t = false := nb hj
      by_cases hu : j = u
      · subst hu
        simp [setF, lkF, h1, hj]
      · have h2 : Nat.beq j u = false := nb hu
        simp [setF, lkF, h1, h2, lkF_setF r t v u]

/-! ### Blocks -/
theorem lkB_setB_same : ∀ (l : List (Nat × Blk)) (i : Nat) (b : Blk) (d : Blk), lkB l i = some d → lkB (setB l i b) i = some b
  | [], i, b, d, h => by simp [lkB] at h
  | (j, x) :: r, i, b, d, h => by
    by_cases hj : j = i
    · subst hj; simp [setB, lkB]
    · have h1 : Nat.beq j i = false := nb hj
      simp only [lkB, h1, cond_false] at h
      simp [setB, lkB, h1, lkB_setB_same r i b d h]

theorem lkB_setB_other : ∀ (l : List (Nat × Blk)) (i : Nat) (b : Blk) (k : Nat), k ≠ i → lkB (setB l i b) k = lkB l k
  | [], i, b, k, _ => by simp [setB]
  | (j, x) :: r, i, b, k, h => by
    by_cases hj : j = i
    · subst hj
      have : Nat.beq j k = false := nb (by omega)
      simp [setB, lkB, this]
    · have h1 : Nat.beq j i = false := nb hj
      by_cases hk : j = k
      · subst hk; simp [setB, lkB, h1]
      · have h2 : Nat.beq j k = false := nb hk
        simp [setB, lkB, h1, h2, lkB_setB_other r i b k h]

theorem lkB_mem : ∀ {l : List (Nat × Blk)} {i : Nat} {b : Blk}, lkB l i = some b → (i, b) ∈ l
  | [], i, b, h => by simp [lkB] at h
  | (j, x) :: r, i, b, h => by
    by_cases hj : j = i
    · subst hj
      simp [lkB] at h
      simp [h]
    · have h1 : Nat.beq j i = false := nb hj
      simp only [lkB, h1, cond_false] at h
      exact List.mem_cons_of_mem _ (lkB_mem h)

/-- The blocks lie newest first. -/
def Srt (l : List (Nat × Blk)) : Prop := l.Pairwise fun a b => b.1 < a.1
def Chn (l : List (Nat × Blk)) (next : Nat) : Prop := ∀ x ∈ l, x.2.ch ≤ x.1 ∧ x.1 < next

theorem trunc_mem : ∀ {l : List (Nat × Blk)} {c s n : Nat} {x : Nat × Blk}, x ∈ trunc l c s n → ∃ y ∈ l, y.1 = x.1 ∧ y.2.ch = x.2.ch ∧ y.2.wr = x.2.wr
  | [], c, s, n, x, h => by simp [trunc] at h
  | (j, b) :: r, c, s, n, x, h => by
    simp only [trunc] at h
    cases hb : Nat.blt j c
    · simp only [hb, cond_false, List.mem_cons] at h
      rcases h with rfl | h
      · refine ⟨(j, b), by simp, rfl, ?_⟩
        cases (Nat.beq b.ch c && !Nat.beq j s) <;> simp
      · obtain ⟨y, hy, h1⟩ := trunc_mem h
        exact ⟨y, by simp [hy], h1⟩
    · simp only [hb, cond_true] at h
      exact ⟨x, h, rfl, rfl, rfl⟩

theorem trunc_Srt : ∀ {l : List (Nat × Blk)} (c s n : Nat), Srt l → Srt (trunc l c s n)
  | [], c, s, n, h => by simpa [trunc] using h
  | (j, b) :: r, c, s, n, h => by
    simp only [trunc]
    cases hb : Nat.blt j c
    · simp only [cond_false]
      simp only [Srt, List.pairwise_cons] at h ⊢
      refine ⟨fun x hx => ?_, trunc_Srt c s n h.2⟩
      obtain ⟨y, hy, h1, _⟩ := trunc_mem hx
      rw [← h1]
      exact h.1 y hy
    · simpa only [cond_true] using h

theorem setB_mem : ∀ {l : List (Nat × Blk)} {i : Nat} {b : Blk} {x : Nat × Blk}, x ∈ setB l i b → x ∈ l ∨ (x = (i, b) ∧ ∃ d, (i, d) ∈ l)
  | [], i, b, x, h => by simp [setB] at h
  | (j, d) :: r, i, b, x, h => by
    by_cases hj : j = i
    · subst hj
      simp only [setB, Nat.beq_refl, cond_true, List.mem_cons] at h
      rcases h with rfl | h
      · exact .inr ⟨rfl, d, by simp⟩
      · exact .inl (by simp [h])
    · have h1 : Nat.beq j i = false := nb hj
      simp only [setB, h1, cond_false, List.mem_cons] at h
      rcases h with rfl | h
      · exact .inl (by simp)
      · rcases setB_mem h with h | ⟨h, d', hd⟩
        · exact .inl (by simp [h])
        · exact .inr ⟨h, d', by simp [hd]⟩

theorem setB_Srt : ∀ {l : List (Nat × Blk)} (i : Nat) (b : Blk), Srt l → Srt (setB l i b)
  | [], i, b, h => by simpa [setB] using h
  | (j, d) :: r, i, b, h => by
    simp only [Srt, List.pairwise_cons] at h
    by_cases hj : j = i
    · subst hj
      simp only [setB, Nat.beq_refl, cond_true, Srt, List.pairwise_cons]
      exact ⟨fun x hx => h.1 x hx, h.2⟩
    · have h1 : Nat.beq j i = false := nb hj
      simp only [setB, h1, cond_false, Srt, List.pairwise_cons]
      refine ⟨fun x hx => ?_, setB_Srt i b h.2⟩
      rcases setB_mem hx with hx | ⟨rfl, d', hd⟩
      · exact h.1 x hx
      · exact h.1 (i, d') hd

/-- What 'trunc' leaves of a block. -/
theorem lkB_trunc : ∀ {l : List (Nat × Blk)} {c s n next : Nat}, Srt l → Chn l next → ∀ {i : Nat} {d : Blk}, lkB (trunc l c s n) i = some d →
    ∃ b, lkB l i = some b ∧ d.ch = b.ch ∧ d.wr = b.wr ∧ ((b.ch ≠ c ∨ i = s) ∧ d = b ∨ (b.ch = c ∧ i ≠ s) ∧ d.cells = b.cells.take n)
  | [], c, s, n, next, _, _, i, d, h => by simp [trunc, lkB] at h
  | (j, b) :: r, c, s, n, next, hs, hc, i, d, h => by
    simp only [trunc] at h
    cases hb : Nat.blt j c
    · simp only [hb, cond_false] at h
      by_cases hj : j = i
      · subst hj
        simp only [lkB, Nat.beq_refl, cond_true, Option.some.injEq] at h
        refine ⟨b, by simp [lkB], ?_⟩
        cases h1 : Nat.beq b.ch c
        · simp only [h1, Bool.false_and, cond_false] at h
          subst h
          refine ⟨rfl, rfl, .inl ⟨.inl ?_, rfl⟩⟩
          intro e; rw [e] at h1; simp at h1
        · cases h2 : Nat.beq j s
          · simp only [h1, h2, Bool.not_false, Bool.and_self, cond_true] at h
            subst h
            exact ⟨rfl, rfl, .inr ⟨⟨Nat.eq_of_beq_eq_true h1, fun e => by rw [e] at h2; simp at h2⟩, rfl⟩⟩
          · simp only [h1, h2, Bool.not_true, Bool.and_false, cond_false] at h
            subst h
            exact ⟨rfl, rfl, .inl ⟨.inr (Nat.eq_of_beq_eq_true h2), rfl⟩⟩
      · have h1 : Nat.beq j i = false := nb hj
        simp only [lkB, h1, cond_false] at h
        obtain ⟨b', hb', h2⟩ := lkB_trunc (next := next) (by simp only [Srt, List.pairwise_cons] at hs; exact hs.2) (fun x hx => hc x (by simp [hx])) h
        exact ⟨b', by simp [lkB, h1, hb'], h2⟩
    · simp only [hb, cond_true] at h
      refine ⟨d, h, rfl, rfl, .inl ⟨.inl ?_, rfl⟩⟩
      have hm := lkB_mem h
      have hlt : j < c := by have := Nat.le_of_ble_eq_true hb; omega
      have hle : i ≤ j := by
        simp only [List.mem_cons, Prod.mk.injEq] at hm
        rcases hm with ⟨rfl, _⟩ | hm
        · omega
        · simp only [Srt, List.pairwise_cons] at hs
          have := hs.1 _ hm
          simp at this
          omega
      have := (hc _ hm).1
      simp at this
      omega

theorem lkB_trunc_some : ∀ {l : List (Nat × Blk)} (c s n : Nat) {i : Nat} {b : Blk}, lkB l i = some b → (b.ch ≠ c ∨ i = s) → lkB (trunc l c s n) i = some b
  | [], c, s, n, i, b, h, _ => by simp [lkB] at h
  | (j, d) :: r, c, s, n, i, b, h, hn => by
    simp only [trunc]
    cases hb : Nat.blt j c
    · simp only [cond_false]
      by_cases hj : j = i
      · subst hj
        simp only [lkB, Nat.beq_refl, cond_true, Option.some.injEq] at h ⊢
        subst h
        rcases hn with hn | rfl
        · have : Nat.beq d.ch c = false := nb hn
          simp [this]
        · simp
      · have h1 : Nat.beq j i = false := nb hj
        simp only [lkB, h1, cond_false] at h ⊢
        exact lkB_trunc_some c s n h hn
    · simpa only [cond_true] using h

/-- Blocks that nobody may change. -/
structure Prot where
  s : Nat → Prop
  /-- Where a block may lie that the program does not change. -/
  ro : Nat → Prop
  /-- Among them are the known variables. -/
  gl : ∀ k, GB k → s k
def Prot.fr (S : Prot) (k : Nat) : Prop := ¬ S.s k
/-- They are all there. -/
def Prot.fit (S : Prot) (n : Nat) : Prop := ∀ k, S.s k → k < n
/-- The blocks below a number. -/
def below (n : Nat) : Prot := ⟨fun k => k < n ∨ GB k, fun _ => True, fun _ h => .inr h⟩
theorem Prot.fit.fr {S : Prot} {n : Nat} (h : S.fit n) : S.fr n := fun hs => Nat.lt_irrefl _ (h _ hs)
theorem Prot.fit.le {S : Prot} {n m : Nat} (h : S.fit n) (hm : n ≤ m) : S.fit m := fun k hk => Nat.lt_of_lt_of_le (h k hk) hm
theorem below_fit {n m : Nat} (h : n ≤ m) (hg : ∀ k, GB k → k < m) : (below n).fit m := fun k hk => hk.elim (fun hk => Nat.lt_of_lt_of_le hk h) (hg k)
/-- The blocks that nobody may change are as they were. -/
structure BelowS (S : Prot) (w w' : World) : Prop where
  os : w'.os = w.os
  tape : w'.tape = w.tape
  output : w'.output = w.output
  size : w.heap.size ≤ w'.heap.size
  block : ∀ k, S.s k → w'.heap[k]? = w.heap[k]?
theorem BelowS.refl (S : Prot) (w : World) : BelowS S w w := ⟨rfl, rfl, rfl, Nat.le_refl _, fun _ _ => rfl⟩
theorem BelowS.trans {S : Prot} {a b c : World} (h : BelowS S a b) (k : BelowS S b c) : BelowS S a c :=
  ⟨k.os.trans h.os, k.tape.trans h.tape, k.output.trans h.output, Nat.le_trans h.size k.size, fun i hi => (k.block i hi).trans (h.block i hi)⟩
theorem BelowS.drew {S : Prot} {a w : World} (h : BelowS S a w) : BelowS S a w.drew := ⟨h.os, h.tape, h.output, h.size, h.block⟩
theorem BelowS.alloc {S : Prot} {a w : World} (h : BelowS S a w) (hB : S.fit w.heap.size) (o : Obj) : BelowS S a (w.alloc o) :=
  h.trans ⟨rfl, rfl, rfl, by simp, fun k hk => Below.heap_alloc _ _ _ (hB k hk)⟩
theorem BelowS.below {n : Nat} {w w' : World} (h : BelowS (Abs.below n) w w') : Below n w w' := ⟨h.os, h.tape, h.output, h.size, fun k hk => h.block k (.inl hk)⟩
theorem BelowS.of {n : Nat} {w w' : World} (h : Below n w w') (hg : ∀ k, GB k → k < n) : BelowS (Abs.below n) w w' := ⟨h.os, h.tape, h.output, h.size, fun k hk => h.block k (hk.elim id (hg k))⟩
/-! ### Loops, maps, iterators -/
def isIntA : AV → Bool
  | .int _ _ => true
  | _ => false
theorem isIntA_spec {a : AV} (h : isIntA a = true) : ∃ k n, a = .int k n := by
  cases a <;> simp only [isIntA] at h <;> first | (cases h; done) | exact ⟨_, _, rfl⟩
/-- What may be a key here. -/
def plainKey : AV → Bool
  | .bool _ | .int _ _ | .str _ => true
  | .ag cs => cs.all isIntA
  | _ => false

def EntsR (σ : Env) : List (AV × AV) → List MapEntry → Prop
  | [], [] => True
  | a :: l, e :: es => R σ a.1 e.key ∧ R σ a.2 e.val ∧ EntsR σ l es
  | _, _ => False

structure MapR (σ : Env) (ents : List (AV × AV)) (es : Array MapEntry) (clock : Nat) : Prop where
  keys : ∀ e ∈ ents, plainKey e.1 = true
  nodup : (ents.map (·.1)).Nodup
  born : (es.toList.map (·.born)).Nodup
  old : ∀ e ∈ es.toList, e.born < clock
  ents : ∃ l, l.Perm ents ∧ EntsR σ l es.toList

def LoopR (σ : Env) (r : LoopA) (x : Loop) : Prop := x.params = r.ps ∧ x.assign = r.assign ∧ x.body = r.body ∧
    x.state = (match r.st with | 0 => .ready | 1 => .busy | 2 => .done | _ => .exhausted) ∧
    x.pending = r.jump.map (fun j => match j with | none => .ret | some id => .exit id) ∧ FR σ r.n (lkF r.fr) x.tmps ∧ (∀ t, r.keep.testBit t = false → lkF r.fr t = .any)

def ObR (σ : Env) (c : Loc) (r : LoopA) (o : Obj) : Prop :=
  (r.st < 4 ∧ ∃ x, o = .loop x ∧ LoopR σ r x) ∨
  (∃ ents es clock, r = mapObj ents ∧ o = .map es clock ∧ MapR σ ents es clock) ∨
  (∃ m seen mb since sn last, r = itObj m seen ∧ c.off = 0 ∧ σ m = some mb ∧ o = .mapIter (some mb.blk) since sn last) ∨
  (r = deadObj ∧ ∃ m since sn last, o = .mapIter m since sn last)

structure ItR (σ : Env) (ents : List (AV × AV)) (seen : List AV) (since : Nat) (sn : Array Nat) (last : Nat) (es : Array MapEntry) (clock : Nat) : Prop where
  esince : since = clock
  elast : last = clock
  sees : ∀ e ∈ es.toList, ∀ a ∈ ents, R σ a.1 e.key → (sn.contains e.born = true ↔ a.1 ∈ seen)
  top : ∀ x r, seen = x :: r → ∃ stamp, sn.back? = some stamp ∧ ∀ e ∈ es.toList, ∀ a ∈ ents, R σ a.1 e.key → (e.born = stamp ↔ a.1 = x)

structure LPS (σ : Env) (base : Prot) (ls : List (Nat × LoopA)) (w : World) : Prop where
  lps : ∀ l r, lkL ls l = some r → ∃ c o, σ l = some c ∧ w.heap[c.blk]? = some o ∧ base.fr c.blk ∧ ObR σ c r o
  lal : ∀ l l' r r' c c', l ≠ l' → lkL ls l = some r → lkL ls l' = some r' → σ l = some c → σ l' = some c' → c.blk ≠ c'.blk
  its : ∀ l m seen ents c cm, lkL ls l = some (itObj m seen) → lkL ls m = some (mapObj ents) → σ l = some c → σ m = some cm →
    ∃ since sn last es clock, w.heap[c.blk]? = some (.mapIter (some cm.blk) since sn last) ∧ w.heap[cm.blk]? = some (.map es clock) ∧ ItR σ ents seen since sn last es clock
  glo : GloW w

theorem EntsR.ext {σ τ : Env} (h : Ext σ τ) : ∀ {l : List (AV × AV)} {es : List MapEntry}, EntsR σ l es → EntsR τ l es
  | [], [], _ => trivial
  | a :: l, e :: es, ⟨h1, h2, h3⟩ => ⟨h1.ext h, h2.ext h, h3.ext h⟩

theorem MapR.ext {σ τ : Env} (h : Ext σ τ) {ents : List (AV × AV)} {es : Array MapEntry} {clock : Nat} (M : MapR σ ents es clock) : MapR τ ents es clock :=
  ⟨M.keys, M.nodup, M.born, M.old, let ⟨l, h1, h2⟩ := M.ents; ⟨l, h1, h2.ext h⟩⟩

theorem LoopR.ext {σ τ : Env} (h : Ext σ τ) {r : LoopA} {x : Loop} (L : LoopR σ r x) : LoopR τ r x := ⟨L.1, L.2.1, L.2.2.1, L.2.2.2.1, L.2.2.2.2.1, L.2.2.2.2.2.1.ext h, L.2.2.2.2.2.2⟩

theorem ObR.ext {σ τ : Env} (h : Ext σ τ) {c : Loc} {r : LoopA} {o : Obj} (O : ObR σ c r o) : ObR τ c r o := by
  rcases O with ⟨h0, x, h1, h2⟩ | ⟨ents, es, clock, h1, h2, h3⟩ | ⟨m, seen, mb, since, sn, last, h1, h0, h2, h3⟩ | hd
  · exact .inl ⟨h0, x, h1, h2.ext h⟩
  · exact .inr (.inl ⟨ents, es, clock, h1, h2, h3.ext h⟩)
  · exact .inr (.inr (.inl ⟨m, seen, mb, since, sn, last, h1, h0, h _ _ h2, h3⟩))
  · exact .inr (.inr (.inr hd))

theorem ObR.kind {σ : Env} {c : Loc} {r : LoopA} {o : Obj} (O : ObR σ c r o) : (∀ cs e fz, o ≠ .cells cs e fz) ∧ (∀ d, o ≠ .deferred d) := by
  rcases O with ⟨_, x, rfl, _⟩ | ⟨ents, es, clock, _, rfl, _⟩ | ⟨m, seen, mb, since, sn, last, _, _, _, rfl⟩ | ⟨_, m, since, sn, last, rfl⟩ <;> exact ⟨fun _ _ _ h => (by cases h), fun _ h => (by cases h)⟩

/-- Two values that a key may stand for are one. -/
theorem R_plain {σ τ : Env} : ∀ {a : AV} {v u : Value}, plainKey a = true → R σ a v → R τ a u → v = u
  | .bool _, v, u, _, h1, h2 => by simp only [R] at h1 h2; rw [h1, h2]
  | .int _ _, v, u, _, h1, h2 => by simp only [R] at h1 h2; rw [h1, h2]
  | .str _, v, u, _, h1, h2 => by simp only [R] at h1 h2; rw [h1, h2]
  | .ag cs, v, u, hp, h1, h2 => by
    simp only [R] at h1 h2
    obtain ⟨x, rfl, hx⟩ := h1
    obtain ⟨y, rfl, hy⟩ := h2
    have key : ∀ {cs : List AV} {l m : List Value}, cs.all isIntA = true → Rs σ cs l → Rs τ cs m → l = m := by
      intro cs
      induction cs with
      | nil => intro l m _ h1 h2; simp only [Rs] at h1 h2; rw [h1, h2]
      | cons a r ih =>
        intro l m hp h1 h2
        simp only [List.all_cons, Bool.and_eq_true] at hp
        simp only [Rs] at h1 h2
        obtain ⟨v, l', rfl, h3, h4⟩ := h1
        obtain ⟨u, m', rfl, h5, h6⟩ := h2
        rw [ih hp.2 h4 h6]
        obtain ⟨k, n, rfl⟩ := isIntA_spec hp.1
        simp only [R] at h3 h5
        rw [h3, h5]
    have := key hp hx hy
    rw [Array.toList_inj] at this
    rw [this]

theorem R_inj {σ τ : Env} : ∀ {a b : AV} {v : Value}, plainKey a = true → plainKey b = true → R σ a v → R τ b v → a = b
  | .bool _, b, v, _, hb, h1, h2 => by
    cases b <;> simp only [plainKey] at hb <;> try (cases hb; done)
    all_goals (simp only [R] at h1 h2; subst h1; first | (cases h2; done) | (cases h2; rfl) | (obtain ⟨_, h2, _⟩ := h2; cases h2))
  | .int _ _, b, v, _, hb, h1, h2 => by
    cases b <;> simp only [plainKey] at hb <;> try (cases hb; done)
    all_goals (simp only [R] at h1 h2; subst h1; first | (cases h2; done) | (cases h2; rfl) | (obtain ⟨_, h2, _⟩ := h2; cases h2))
  | .str _, b, v, _, hb, h1, h2 => by
    cases b <;> simp only [plainKey] at hb <;> try (cases hb; done)
    all_goals (simp only [R] at h1 h2; subst h1; first | (obtain ⟨_, h2, _⟩ := h2; cases h2; done) | skip)
    all_goals first | (cases h2; done) | (simp at h2; rw [h2])
  | .ag cs, b, v, ha, hb, h1, h2 => by
    cases b <;> simp only [plainKey] at hb <;> try (cases hb; done)
    all_goals simp only [R] at h1 h2; obtain ⟨x, rfl, hx⟩ := h1
    all_goals first | (cases h2; done) | skip
    obtain ⟨y, hy0, hy⟩ := h2
    cases hy0
    have key : ∀ {cs ds : List AV} {l : List Value}, cs.all isIntA = true → ds.all isIntA = true → Rs σ cs l → Rs τ ds l → cs = ds := by
      intro cs
      induction cs with
      | nil => intro ds l _ _ h1 h2; simp only [Rs] at h1; subst h1; cases ds with | nil => rfl | cons => simp [Rs] at h2
      | cons a r ih =>
        intro ds l hp hq h1 h2
        cases ds with
        | nil => simp only [Rs] at h1 h2; subst h2; obtain ⟨_, _, h, _⟩ := h1; cases h
        | cons d t =>
          simp only [List.all_cons, Bool.and_eq_true] at hp hq
          simp only [Rs] at h1 h2
          obtain ⟨v, l', rfl, h3, h4⟩ := h1
          obtain ⟨u, m', he, h5, h6⟩ := h2
          simp only [List.cons.injEq] at he
          obtain ⟨rfl, rfl⟩ := he
          obtain ⟨k, n, rfl⟩ := isIntA_spec hp.1
          obtain ⟨k', n', rfl⟩ := isIntA_spec hq.1
          simp only [R] at h3 h5
          rw [h3] at h5
          cases h5
          rw [ih hp.2 hq.2 h4 h6]
    rw [key ha hb hx hy]

theorem R_plain_any {σ τ : Env} {a : AV} {v : Value} (hp : plainKey a = true) (hr : R τ a v) : R σ a v := by
  cases a <;> simp only [plainKey] at hp <;> try (cases hp; done)
  case bool => simpa [R] using hr
  case int => simpa [R] using hr
  case str => simpa [R] using hr
  case ag cs =>
    simp only [R] at hr ⊢
    obtain ⟨x, rfl, hx⟩ := hr
    refine ⟨x, rfl, ?_⟩
    have key : ∀ {cs : List AV} {l : List Value}, cs.all isIntA = true → Rs τ cs l → Rs σ cs l := by
      intro cs
      induction cs with
      | nil => intro l _ h1; simpa [Rs] using h1
      | cons a r ih =>
        intro l hp h1
        simp only [List.all_cons, Bool.and_eq_true] at hp
        simp only [Rs] at h1 ⊢
        obtain ⟨v, l', rfl, h3, h4⟩ := h1
        refine ⟨v, l', rfl, ?_, ih hp.2 h4⟩
        obtain ⟨k, n, rfl⟩ := isIntA_spec hp.1
        simpa [R] using h3
    exact key hp hx

theorem R_plain_ext {σ τ : Env} (h : Ext σ τ) {a : AV} {v : Value} (hp : plainKey a = true) (hr : R τ a v) : R σ a v := R_plain_any hp hr

theorem ItR.ext {σ τ : Env} (h : Ext σ τ) {ents : List (AV × AV)} {seen : List AV} {since : Nat} {sn : Array Nat} {last : Nat} {es : Array MapEntry} {clock : Nat} (hk : ∀ e ∈ ents, plainKey e.1 = true)
    (I : ItR σ ents seen since sn last es clock) : ItR τ ents seen since sn last es clock :=
  ⟨I.esince, I.elast, fun e he a ha hr => I.sees e he a ha (R_plain_ext h (hk a ha) hr), fun x r hs => let ⟨s, h1, h2⟩ := I.top x r hs; ⟨s, h1, fun e he a ha hr => h2 e he a ha (R_plain_ext h (hk a ha) hr)⟩⟩

theorem mapObj_inj {a b : List (AV × AV)} (h : mapObj a = mapObj b) : a = b := by
  have h1 := congrArg LoopA.dat h
  have h2 := congrArg (fun r => r.fr.map (·.2)) h
  simp only [mapObj, List.map_map, Function.comp_def] at h1 h2
  have : ∀ {a b : List (AV × AV)}, a.map (·.1) = b.map (·.1) → a.map (·.2) = b.map (·.2) → a = b := by
    intro a
    induction a with
    | nil => intro b h1 _; cases b with | nil => rfl | cons => simp at h1
    | cons x r ih =>
      intro b h1 h2
      cases b with
      | nil => simp at h1
      | cons y t =>
        simp only [List.map_cons, List.cons.injEq] at h1 h2
        rw [ih h1.2 h2.2, Prod.ext h1.1 h2.1]
  exact this h1 h2

theorem ObR.map {σ : Env} {ents : List (AV × AV)} {c : Loc} {o : Obj} (O : ObR σ c (mapObj ents) o) : ∃ es clock, o = .map es clock ∧ MapR σ ents es clock := by
  rcases O with ⟨h0, _⟩ | ⟨ents', es, clock, h1, h2, h3⟩ | ⟨m, seen, mb, since, sn, last, h1, _⟩ | ⟨h1, _⟩
  · simp [mapObj] at h0
  · rw [← mapObj_inj h1] at h3
    exact ⟨es, clock, h2, h3⟩
  · have := congrArg LoopA.st h1
    simp [mapObj, itObj] at this
  · have := congrArg LoopA.st h1
    simp [mapObj, deadObj] at this

theorem ObR.it {σ : Env} {m : Nat} {seen : List AV} {c : Loc} {o : Obj} (O : ObR σ c (itObj m seen) o) : ∃ mb since sn last, c.off = 0 ∧ σ m = some mb ∧ o = .mapIter (some mb.blk) since sn last := by
  rcases O with ⟨h0, _⟩ | ⟨ents', es, clock, h1, h2, h3⟩ | ⟨m', seen', mb, since, sn, last, h1, h0, h2, h3⟩ | ⟨h1, _⟩
  · simp [itObj] at h0
  · have := congrArg LoopA.st h1
    simp [mapObj, itObj] at this
  · have := congrArg LoopA.n h1
    simp only [itObj] at this
    subst this
    exact ⟨mb, since, sn, last, h0, h2, h3⟩
  · have := congrArg LoopA.st h1
    simp [itObj, deadObj] at this

theorem ObR.loop {σ : Env} {c : Loc} {r : LoopA} {o : Obj} (O : ObR σ c r o) (h : r.st < 4) : ∃ x, o = .loop x ∧ LoopR σ r x := by
  rcases O with ⟨_, x, h1, h2⟩ | ⟨ents', es, clock, h1, h2, h3⟩ | ⟨m', seen', mb, since, sn, last, h1, h2, h3⟩ | ⟨h1, _⟩
  · exact ⟨x, h1, h2⟩
  · rw [h1] at h; simp [mapObj] at h
  · rw [h1] at h; simp [itObj] at h
  · rw [h1] at h; simp [deadObj] at h

theorem LPS.loopAt {σ : Env} {base : Prot} {ls : List (Nat × LoopA)} {w : World} (L : LPS σ base ls w) {l : Nat} {r : LoopA} {c : Loc} {x : Loop} (hl : lkL ls l = some r) (hc : σ l = some c) (hx : w.heap[c.blk]? = some (.loop x)) :
    r.st < 4 ∧ LoopR σ r x ∧ base.fr c.blk := by
  obtain ⟨c', o, a1, a2, a3, a4⟩ := L.lps l r hl
  rw [hc] at a1
  cases a1
  rw [hx] at a2
  cases a2
  rcases a4 with ⟨h0, y, h1, h2⟩ | ⟨_, _, _, _, h, _⟩ | ⟨_, _, _, _, _, _, _, _, _, h⟩ | ⟨_, _, _, _, _, h⟩
  · cases h1
    exact ⟨h0, h2, a3⟩
  · cases h
  · cases h
  · cases h

theorem LPS.loop {σ : Env} {base : Prot} {ls : List (Nat × LoopA)} {w : World} (L : LPS σ base ls w) {l : Nat} {r : LoopA} (hl : lkL ls l = some r) (h4 : r.st < 4) :
    ∃ c x, σ l = some c ∧ w.heap[c.blk]? = some (.loop x) ∧ x.params = r.ps ∧ x.assign = r.assign ∧ x.body = r.body ∧
    x.state = (match r.st with | 0 => .ready | 1 => .busy | 2 => .done | _ => .exhausted) ∧
    x.pending = r.jump.map (fun j => match j with | none => .ret | some id => .exit id) ∧ FR σ r.n (lkF r.fr) x.tmps ∧ base.fr c.blk ∧ (∀ t, r.keep.testBit t = false → lkF r.fr t = .any) := by
  obtain ⟨c, o, a1, a2, a3, a4⟩ := L.lps l r hl
  obtain ⟨x, rfl, h1, h2, h3, h4, h5, h6, h7⟩ := a4.loop h4
  exact ⟨c, x, a1, a2, h1, h2, h3, h4, h5, h6, a3, h7⟩

/-- The objects stay as they are. -/
theorem LPS.step {σ τ : Env} {base base' : Prot} {ls : List (Nat × LoopA)} {w w' : World} (L : LPS σ base ls w) (hx : Ext σ τ)
    (hw : ∀ l r c o, lkL ls l = some r → σ l = some c → w.heap[c.blk]? = some o → base.fr c.blk → (∀ cs e fz, o ≠ .cells cs e fz) → (∀ d, o ≠ .deferred d) → w'.heap[c.blk]? = some o)
    (hf : ∀ k, k < w.heap.size → base.fr k → base'.fr k) (hg : ∀ k, k < w.heap.size → base.s k → w'.heap[k]? = w.heap[k]?) : LPS τ base' ls w' := by
  have same : ∀ l r c, lkL ls l = some r → τ l = some c → σ l = some c := fun l r c h1 h2 => by
    obtain ⟨c', _, a1, _⟩ := L.lps l r h1
    rw [hx _ _ a1] at h2
    rw [a1, h2]
  have keep : ∀ l r c o, lkL ls l = some r → σ l = some c → w.heap[c.blk]? = some o → w'.heap[c.blk]? = some o := fun l r c o h1 h2 h3 => by
    obtain ⟨c', o', a1, a2, a3, a4⟩ := L.lps l r h1
    rw [h2] at a1
    cases a1
    rw [h3] at a2
    cases a2
    exact hw l r c o h1 h2 h3 a3 a4.kind.1 a4.kind.2
  refine ⟨fun l r hl => ?_, fun l l' r r' c c' hne h1 h2 h3 h4 => L.lal l l' r r' c c' hne h1 h2 (same _ _ _ h1 h3) (same _ _ _ h2 h4), fun l m seen ents c cm h1 h2 h3 h4 => ?_, L.glo.keep fun k hk => hg k (L.glo.lt hk) (base.gl k hk)⟩
  · obtain ⟨c, o, a1, a2, a3, a4⟩ := L.lps l r hl
    exact ⟨c, o, hx _ _ a1, keep l r c o hl a1 a2, hf _ (Array.getElem?_eq_some_iff.1 a2).1 a3, a4.ext hx⟩
  · have h3' := same _ _ _ h1 h3
    have h4' := same _ _ _ h2 h4
    obtain ⟨since, sn, last, es, clock, b1, b2, b3⟩ := L.its l m seen ents c cm h1 h2 h3' h4'
    obtain ⟨c2, o2, a1, a2, a3, a4⟩ := L.lps m _ h2
    obtain ⟨es', clock', e1, e2⟩ := a4.map
    exact ⟨since, sn, last, es, clock, keep _ _ _ _ h1 h3' b1, keep _ _ _ _ h2 h4' b2, b3.ext hx e2.keys⟩

theorem LPS.sub {σ : Env} {base : Prot} {ls ls' : List (Nat × LoopA)} {w : World} (L : LPS σ base ls w) (hs : ∀ i r, lkL ls' i = some r → lkL ls i = some r) : LPS σ base ls' w :=
  ⟨fun l r h => L.lps l r (hs _ _ h), fun l l' r r' c c' hne h1 h2 => L.lal l l' r r' c c' hne (hs _ _ h1) (hs _ _ h2), fun l m seen ents c cm h1 h2 => L.its l m seen ents c cm (hs _ _ h1) (hs _ _ h2), L.glo⟩

theorem LPS.empty {σ : Env} {base : Prot} {w : World} (hg : GloW w) : LPS σ base [] w :=
  ⟨fun l r h => by simp [lkL] at h, fun l l' r r' c c' _ h => by simp [lkL] at h, fun l m s e c cm h => by simp [lkL] at h, hg⟩

/-- Fewer of them. -/
theorem BelowS.mono {S S' : Prot} {w w' : World} (h : BelowS S w w') (hs : ∀ k, S'.s k → S.s k) : BelowS S' w w' := ⟨h.os, h.tape, h.output, h.size, fun k hk => h.block k (hs k hk)⟩


/-! ### The relation -/
structure HR (σ : Env) (base : Prot) (h : Hp) (w : World) : Prop where
  dom : ∀ i, h.next ≤ i → σ i = none
  srt : Srt h.blks
  chn : Chn h.blks h.next
  cel : ∀ i b, lkB h.blks i = some b → ∃ c cs e fz, σ i = some c ∧ w.heap[c.blk]? = some (.cells cs e fz) ∧ cs.size = c.off + c.tot ∧ b.cells.length ≤ c.tot ∧
    (∀ j a, b.cells[j]? = some a → ∃ v, cs[c.off + j]? = some v ∧ R σ a v) ∧ ((b.wr = true → fz = (0, 0) ∧ base.fr c.blk) ∧ (b.wr = false → base.ro c.blk ∨ base.fr c.blk))
  al : ∀ i j b d c c', i ≠ j → lkB h.blks i = some b → lkB h.blks j = some d → σ i = some c → σ j = some c' → c.blk = c'.blk → b.wr = true → b.ch = d.ch ∧ c = c'
  lps : LPS σ base h.loops w

theorem lt_of_heap {w : World} {k : Nat} {o : Obj} (h : w.heap[k]? = some o) : k < w.heap.size := (Array.getElem?_eq_some_iff.1 h).1

theorem HR.inb {σ : Env} {base : Prot} {h : Hp} {w : World} (H : HR σ base h w) {i : Nat} {b : Blk} {c : Loc} (hb : lkB h.blks i = some b) (hc : σ i = some c) : c.blk < w.heap.size := by
  obtain ⟨c', _, _, _, a1, a2, _⟩ := H.cel i b hb
  rw [hc] at a1
  cases a1
  exact lt_of_heap a2

/-- What a step does to the world beyond what the abstract heap says. -/
structure Fw (base : Prot) (w w' : World) : Prop where
  bel : BelowS base w w'
  dfr : ∀ (k : Nat) (ds : Option (List Deferred)), w.heap[k]? = some (Obj.deferred ds) → w'.heap[k]? = some (Obj.deferred ds)
  lop : ∀ (k : Nat) (x : Loop), w.heap[k]? = some (Obj.loop x) → ∃ y, w'.heap[k]? = some (Obj.loop y)

theorem Fw.refl (base : Prot) (w : World) : Fw base w w := ⟨BelowS.refl _ _, fun _ _ h => h, fun _ x h => ⟨x, h⟩⟩
theorem Fw.trans {base : Prot} {a b c : World} (h : Fw base a b) (k : Fw base b c) : Fw base a c := ⟨h.bel.trans k.bel, fun i ds x => k.dfr i ds (h.dfr i ds x), fun i x hx => let ⟨y, hy⟩ := h.lop i x hx; k.lop i y hy⟩

theorem HR.drew {σ : Env} {base : Prot} {h : Hp} {w : World} (H : HR σ base h w) : HR σ base h w.drew := ⟨H.dom, H.srt, H.chn, H.cel, H.al, H.lps.step (.refl _) (fun _ _ _ _ _ _ h _ _ _ => h) (fun _ _ h => h) (fun _ _ _ => rfl)⟩
theorem Fw.drew (base : Prot) (w : World) : Fw base w w.drew := ⟨(BelowS.refl _ _).drew, fun _ _ h => h, fun _ x h => ⟨x, h⟩⟩

end Go.Abs

namespace Go.Abs
open Go Go.RowKit

def upd (σ : Env) (i : Nat) (c : Loc) : Env := fun j => if j = i then some c else σ j

theorem Ext.upd {σ : Env} {i : Nat} (c : Loc) (h : σ i = none) : Ext σ (upd σ i c) := fun j d hd => by
  unfold Abs.upd
  split
  · rename_i e; rw [e, h] at hd; cases hd
  · exact hd

theorem upd_same (σ : Env) (i : Nat) (c : Loc) : upd σ i c i = some c := by simp [upd]
theorem upd_other (σ : Env) (i j : Nat) (c : Loc) (h : j ≠ i) : upd σ i c j = σ j := by simp [upd, h]

theorem lkB_lt {l : List (Nat × Blk)} {next i : Nat} {b : Blk} (hc : Chn l next) (h : lkB l i = some b) : i < next := (hc _ (lkB_mem h)).2

/-- Less is said of the same world. -/
theorem HR.sub {σ : Env} {base : Prot} {h : Hp} {w : World} (H : HR σ base h w) {l : List (Nat × Blk)} (hs : Srt l) (hc : Chn l h.next)
    (hl : ∀ i d, lkB l i = some d → ∃ b, lkB h.blks i = some b ∧ d.ch = b.ch ∧ d.wr = b.wr ∧ ∃ n, d.cells = b.cells.take n) : HR σ base { h with blks := l } w := by
  refine ⟨H.dom, hs, hc, fun i d hd => ?_, fun i j d d' c c' hij hd hd' hc hc' hb hw => ?_, H.lps⟩
  · obtain ⟨b, hb, h1, h2, n, h3⟩ := hl i d hd
    obtain ⟨c, cs, e, fz, a1, a2, a3, a4, a5, a6⟩ := H.cel i b hb
    refine ⟨c, cs, e, fz, a1, a2, a3, ?_, fun j a ha => ?_, ⟨fun hw => a6.1 (h2 ▸ hw), fun hw => a6.2 (h2 ▸ hw)⟩⟩
    · rw [h3, List.length_take]; omega
    · rw [h3, List.getElem?_take] at ha
      split at ha
      · exact a5 j a ha
      · cases ha
  · obtain ⟨b, hb, h1, h2, _⟩ := hl i d hd
    obtain ⟨b', hb', h1', _, _⟩ := hl j d' hd'
    have := H.al i j b b' c c' hij hb hb' hc hc' ‹_› (h2 ▸ hw)
    exact ⟨by rw [h1, h1']; exact this.1, this.2⟩

theorem lkB_trunc_take {l : List (Nat × Blk)} {c s n next : Nat} (hs : Srt l) (hc : Chn l next) {i : Nat} {d : Blk} (h : lkB (trunc l c s n) i = some d) :
    ∃ b, lkB l i = some b ∧ d.ch = b.ch ∧ d.wr = b.wr ∧ ∃ k, d.cells = b.cells.take k := by
  obtain ⟨b, h1, h2, h3, h4⟩ := lkB_trunc hs hc h
  refine ⟨b, h1, h2, h3, ?_⟩
  rcases h4 with ⟨_, rfl⟩ | ⟨_, h4⟩
  · exact ⟨d.cells.length, by simp⟩
  · exact ⟨n, h4⟩

theorem trunc_Chn {l : List (Nat × Blk)} {c s n next : Nat} (hc : Chn l next) : Chn (trunc l c s n) next := fun x hx => by
  obtain ⟨y, hy, h1, h2, _⟩ := trunc_mem hx
  have := hc y hy
  rw [h1, h2] at this
  exact this

/-- A block more, newly made: nobody else lies where it lies. -/
theorem HR.add {σ : Env} {base : Prot} {h : Hp} {w : World} (H : HR σ base h w) (hb : base.fit w.heap.size) {b : Blk} {cs : Array Value} (e : TypeId) (hl : b.cells.length ≤ cs.size)
    (hr : ∀ (j : Nat) (a : AV), b.cells[j]? = some a → ∃ v : Value, cs[j]? = some v ∧ R σ a v) (hch : b.ch ≤ h.next) (hwr : b.wr = true) :
    HR (upd σ h.next ⟨w.heap.size, 0, cs.size⟩) base { h with next := h.next + 1, blks := (h.next, b) :: h.blks } (w.alloc (.cells cs e)) ∧ Ext σ (upd σ h.next ⟨w.heap.size, 0, cs.size⟩) := by
  have hx : Ext σ (upd σ h.next ⟨w.heap.size, 0, cs.size⟩) := .upd _ (H.dom _ (Nat.le_refl _))
  have old : ∀ k, k < w.heap.size → (w.alloc (.cells cs e)).heap[k]? = w.heap[k]? := fun k hk => Below.heap_alloc _ _ _ hk
  refine ⟨⟨fun i hi => ?_, ?_, ?_, fun i d hd => ?_, fun i j d d' c c' hij hd hd' hc hc' hbk hw => ?_, H.lps.step hx (fun l r c o _ _ h1 _ _ _ => by rw [old _ (lt_of_heap h1)]; exact h1) (fun _ _ h => h) (fun k hk _ => old k hk)⟩, hx⟩
  · have hi' : h.next + 1 ≤ i := hi
    rw [upd_other _ _ _ _ (by omega)]; exact H.dom i (by omega)
  · simp only [Srt, List.pairwise_cons]
    exact ⟨fun x hx => (H.chn x hx).2, H.srt⟩
  · intro x hx
    simp only [List.mem_cons] at hx
    rcases hx with rfl | hx
    · exact ⟨hch, Nat.lt_succ_self _⟩
    · have := H.chn x hx; exact ⟨this.1, Nat.lt_succ_of_lt this.2⟩
  · by_cases hi : h.next = i
    · subst hi
      simp only [lkB, Nat.beq_refl, cond_true, Option.some.injEq] at hd
      subst hd
      refine ⟨_, cs, e, (0, 0), upd_same _ _ _, heap_alloc_new w _, by simp, by simpa using hl, fun j a ha => ?_, fun _ => ⟨rfl, hb.fr⟩, fun hw => by rw [hwr] at hw; cases hw⟩
      obtain ⟨v, h1, h2⟩ := hr j a ha
      exact ⟨v, by simpa using h1, h2.ext hx⟩
    · simp only [lkB, nb hi, cond_false] at hd
      obtain ⟨c, cs', e', fz, a1, a2, a3, a4, a5, a6⟩ := H.cel i d hd
      refine ⟨c, cs', e', fz, hx _ _ a1, by rw [old _ (lt_of_heap a2)]; exact a2, a3, a4, fun j a ha => ?_, a6⟩
      obtain ⟨v, h1, h2⟩ := a5 j a ha
      exact ⟨v, h1, h2.ext hx⟩
  · by_cases hi : h.next = i
    · subst hi
      have hj : h.next ≠ j := fun e => hij e
      simp only [lkB, nb hj, cond_false] at hd'
      rw [upd_same] at hc
      rw [upd_other _ _ _ _ (by omega)] at hc'
      cases hc
      have := H.inb hd' hc'
      simp at hbk
      omega
    · simp only [lkB, nb hi, cond_false] at hd
      rw [upd_other _ _ _ _ (by omega)] at hc
      by_cases hj : h.next = j
      · subst hj
        rw [upd_same] at hc'
        cases hc'
        have := H.inb hd hc
        simp at hbk
        omega
      · simp only [lkB, nb hj, cond_false] at hd'
        rw [upd_other _ _ _ _ (by omega)] at hc'
        exact H.al i j d d' c c' hij hd hd' hc hc' hbk hw

theorem Fw.alloc {base : Prot} {w : World} (hb : base.fit w.heap.size) (o : Obj) : Fw base w (w.alloc o) :=
  ⟨(BelowS.refl _ _).alloc hb o, fun k ds hk => by
    have : k < w.heap.size := by
      rcases Nat.lt_or_ge k w.heap.size with h | h
      · exact h
      · simp [Array.getElem?_eq_none h] at hk
    rw [Below.heap_alloc _ _ _ this]; exact hk, fun k x hk => by
    have : k < w.heap.size := by
      rcases Nat.lt_or_ge k w.heap.size with h | h
      · exact h
      · simp [Array.getElem?_eq_none h] at hk
    exact ⟨x, by rw [Below.heap_alloc _ _ _ this]; exact hk⟩⟩

theorem Fw.row {base : Prot} {w : World} {g : Nat} {cur : Array Value} {e : TypeId} {fz : Nat × Nat} (hg : w.heap[g]? = some (.cells cur e fz)) (hb : base.fr g) (cs : Array Value) : Fw base w (w.setRow g cs) :=
  ⟨⟨rfl, rfl, rfl, by simp, fun k hk => setRow_other _ _ _ _ (fun e => hb (e ▸ hk))⟩, fun k ds hk => by
    rw [setRow_other _ _ _ _ (fun e => by rw [e, hg] at hk; cases hk)]; exact hk, fun k x hk =>
    ⟨x, by rw [setRow_other _ _ _ _ (fun e => by rw [e, hg] at hk; cases hk)]; exact hk⟩⟩

/-- 'new' as the interpreter has it. -/
theorem HR.new {σ : Env} {base : Prot} {h : Hp} {w : World} (H : HR σ base h w) (hb : base.fit w.heap.size) {cells : List AV} {vs : Array Value} (e : TypeId) (hr : Rs σ cells vs.toList) :
    HR (upd σ h.next ⟨w.heap.size, 0, vs.size⟩) base (h.new cells).2 (w.alloc (.cells vs e)) ∧ Ext σ (upd σ h.next ⟨w.heap.size, 0, vs.size⟩) := by
  have hl := hr.length
  refine HR.add H hb (b := { cells, ch := h.next, wr := true }) e (by simp at hl ⊢; omega) (fun j a ha => ?_) (Nat.le_refl _) rfl
  obtain ⟨v, h1, h2⟩ := hr.get ha
  exact ⟨v, by simpa using h1, h2⟩

theorem splice_get (cs : List AV) (off : Nat) (vs : List AV) (h : off + vs.length ≤ cs.length) (j : Nat) :
    (splice cs off vs)[j]? = if j < off then cs[j]? else if j < off + vs.length then vs[j - off]? else cs[j]? := by
  unfold splice
  rw [List.append_assoc]
  by_cases h1 : j < off
  · rw [List.getElem?_append_left (by simp; omega), List.getElem?_take, if_pos h1, if_pos h1]
  · rw [if_neg h1, List.getElem?_append_right (by simp; omega)]
    simp only [List.length_take, Nat.min_eq_left (show off ≤ cs.length by omega)]
    by_cases h2 : j < off + vs.length
    · rw [if_pos h2, List.getElem?_append_left (by omega)]
    · rw [if_neg h2, List.getElem?_append_right (by omega), List.getElem?_drop]
      congr 1
      omega

theorem vsplice_get (cs vs : List Value) (off : Nat) (h : off + vs.length ≤ cs.length) (j : Nat) :
    (cs.take off ++ vs ++ cs.drop (off + vs.length))[j]? = if j < off then cs[j]? else if j < off + vs.length then vs[j - off]? else cs[j]? := by
  rw [List.append_assoc]
  by_cases h1 : j < off
  · rw [List.getElem?_append_left (by simp; omega), List.getElem?_take, if_pos h1, if_pos h1]
  · rw [if_neg h1, List.getElem?_append_right (by simp; omega)]
    simp only [List.length_take, Nat.min_eq_left (show off ≤ cs.length by omega)]
    by_cases h2 : j < off + vs.length
    · rw [if_pos h2, List.getElem?_append_left (by omega)]
    · rw [if_neg h2, List.getElem?_append_right (by omega), List.getElem?_drop]
      congr 1
      omega

/-- The world behind a write of 'ms' at the place that stands for cell 'off' of a block at c. -/
def putRow (w : World) (c : Loc) (cur : Array Value) (off : Nat) (ms : List Value) : World :=
  w.setRow c.blk (cur.toList.take (c.off + off) ++ ms ++ cur.toList.drop (c.off + off + ms.length)).toArray

theorem putRow_size (w : World) (c : Loc) (cur : Array Value) (off : Nat) (ms : List Value) : (putRow w c cur off ms).heap.size = w.heap.size := by simp [putRow]

/-- What a write does, for whatever is said of the blocks behind it. -/
theorem HR.put {σ : Env} {base : Prot} {h : Hp} {w : World} (H : HR σ base h w) {id off : Nat} {b : Blk} (hb : lkB h.blks id = some b) (hw : b.wr = true) {c : Loc} (hc : σ id = some c)
    {cur : Array Value} {e : TypeId} {fz : Nat × Nat} (hg : w.heap[c.blk]? = some (.cells cur e fz)) {ms : List Value} (hfit : c.off + off + ms.length ≤ cur.size)
    {l : List (Nat × Blk)} (hs : Srt l) (hch : Chn l h.next)
    (hl : ∀ i d, lkB l i = some d → ∃ b0, lkB h.blks i = some b0 ∧ d.ch = b0.ch ∧ d.wr = b0.wr ∧ d.cells.length ≤ b0.cells.length ∧
      (i ≠ id → (∃ n, d.cells = b0.cells.take n) ∧ (b0.ch = b.ch → d.cells.length ≤ off)) ∧
      (i = id → ∀ j a, d.cells[j]? = some a → if j < off then b0.cells[j]? = some a else if j < off + ms.length then ∃ v, ms[j - off]? = some v ∧ R σ a v else b0.cells[j]? = some a)) :
    HR σ base { h with blks := l } (putRow w c cur off ms) := by
  have hsz : cur.size = cur.toList.length := by simp
  have get := vsplice_get cur.toList ms (c.off + off) (by omega)
  have hlen : (cur.toList.take (c.off + off) ++ ms ++ cur.toList.drop (c.off + off + ms.length)).length = cur.size := by
    simp; omega
  have other : ∀ k, k ≠ c.blk → (putRow w c cur off ms).heap[k]? = w.heap[k]? := fun k hk => setRow_other _ _ _ _ hk
  have hfr : base.fr c.blk := by
    obtain ⟨c', _, _, _, a1, _, _, _, _, a6⟩ := H.cel id b hb
    rw [hc] at a1
    cases a1
    exact (a6.1 hw).2
  have here : (putRow w c cur off ms).heap[c.blk]? = some (.cells (cur.toList.take (c.off + off) ++ ms ++ cur.toList.drop (c.off + off + ms.length)).toArray e fz) := setRow_heap _ _ _ _ _ _ hg
  refine ⟨H.dom, hs, hch, fun i d hd => ?_, fun i j d d' c c' hij hd hd' hc hc' hbk hw => ?_, H.lps.step (.refl _) (fun l r c' o _ _ h1 _ h2 _ => by rw [other _ (fun e => by rw [e, hg] at h1; cases h1; exact h2 _ _ _ rfl)]; exact h1) (fun _ _ h => h) (fun k _ hs => other k (fun e => hfr (e ▸ hs)))⟩
  · obtain ⟨b0, h0, h1, h2, h3, h4, h5⟩ := hl i d hd
    obtain ⟨c0, cs, e0, fz0, a1, a2, a3, a4, a5, a6⟩ := H.cel i b0 h0
    by_cases hi : i = id
    · subst hi
      rw [hc] at a1
      cases a1
      rw [hg] at a2
      cases a2
      refine ⟨c, _, e, fz, hc, here, by simp only [List.size_toArray, hlen]; exact a3, by omega, fun j a ha => ?_, ⟨fun hw => a6.1 (h2 ▸ hw), fun hw => a6.2 (h2 ▸ hw)⟩⟩
      have h6 := h5 rfl j a ha
      have hg' := get (c.off + j)
      simp only [List.getElem?_toArray]
      rw [hg']
      by_cases h7 : j < off
      · rw [if_pos h7] at h6
        rw [if_pos (by omega)]
        obtain ⟨v, hv, hr⟩ := a5 j a h6
        exact ⟨v, by simpa using hv, hr⟩
      · rw [if_neg h7] at h6
        rw [if_neg (by omega)]
        by_cases h8 : j < off + ms.length
        · rw [if_pos h8] at h6
          rw [if_pos (by omega)]
          obtain ⟨v, hv, hr⟩ := h6
          exact ⟨v, by rw [show c.off + j - (c.off + off) = j - off by omega]; exact hv, hr⟩
        · rw [if_neg h8] at h6
          rw [if_neg (by omega)]
          obtain ⟨v, hv, hr⟩ := a5 j a h6
          exact ⟨v, by simpa using hv, hr⟩
    · obtain ⟨⟨n, hn⟩, h4'⟩ := h4 hi
      by_cases hbk : c.blk = c0.blk
      · have hal := H.al id i b b0 c c0 (fun e => hi e.symm) hb h0 hc a1 hbk hw
        obtain ⟨hch0, rfl⟩ := hal
        rw [hg] at a2
        cases a2
        have hle := h4' hch0.symm
        refine ⟨c, _, e, fz, a1, here, by simp only [List.size_toArray, hlen]; exact a3, by omega, fun j a ha => ?_, ⟨fun hw => a6.1 (h2 ▸ hw), fun hw => a6.2 (h2 ▸ hw)⟩⟩
        have hj : j < d.cells.length := by
          rcases Nat.lt_or_ge j d.cells.length with h | h
          · exact h
          · rw [List.getElem?_eq_none h] at ha; cases ha
        simp only [List.getElem?_toArray]
        rw [get (c.off + j), if_pos (by omega)]
        rw [hn, List.getElem?_take] at ha
        split at ha
        · obtain ⟨v, hv, hr⟩ := a5 j a ha
          exact ⟨v, by simpa using hv, hr⟩
        · cases ha
      · refine ⟨c0, cs, e0, fz0, a1, by rw [other _ (fun e => hbk e.symm)]; exact a2, a3, by omega, fun j a ha => ?_, ⟨fun hw => a6.1 (h2 ▸ hw), fun hw => a6.2 (h2 ▸ hw)⟩⟩
        rw [hn, List.getElem?_take] at ha
        split at ha
        · exact a5 j a ha
        · cases ha
  · obtain ⟨b0, h0, h1, h2, _⟩ := hl i d hd
    obtain ⟨b1, h0', h1', _⟩ := hl j d' hd'
    have := H.al i j b0 b1 c c' hij h0 h0' hc hc' hbk (h2 ▸ hw)
    exact ⟨by rw [h1, h1']; exact this.1, this.2⟩

end Go.Abs

namespace Go.Abs
open Go Go.RowKit

def nextVal : Next → Option Value
  | .value v => some v
  | .skip => some undef
  | _ => none

/-- An operation's outcome. -/
def OkS (P : Program) (base : Prot) (σ : Env) (w : World) (s : Sem Next) (v : AV) (h' : Hp) : Prop :=
  ∃ x u w' τ, s.run P w = .ok x w' ∧ nextVal x = some u ∧ R τ v u ∧ Ext σ τ ∧ HR τ base h' w' ∧ Fw base w w'

def OkV (P : Program) (base : Prot) (σ : Env) (w : World) (s : Sem Value) (v : AV) (h' : Hp) : Prop :=
  ∃ u w' τ, s.run P w = .ok u w' ∧ R τ v u ∧ Ext σ τ ∧ HR τ base h' w' ∧ Fw base w w'

section
variable {P : Program} {base : Prot} {σ : Env} {w : World} {h : Hp}

theorem OkV.toS {s : Sem Value} {v : AV} {h' : Hp} (k : OkV P base σ w s v h') : OkS P base σ w (do pure (.value (← s))) v h' := by
  obtain ⟨u, w', τ, h1, h2, h3, h4, h5⟩ := k
  exact ⟨.value u, u, w', τ, by simp [h1], rfl, h2, h3, h4, h5⟩

theorem OkV.pure {s : Sem Value} {v : AV} {u : Value} (H : HR σ base h w) (h1 : s.run P w = .ok u w) (h2 : R σ v u) : OkV P base σ w s v h :=
  ⟨u, w, σ, h1, h2, .refl _, H, .refl _ _⟩

theorem OkS.pure {s : Sem Next} {v : AV} {u : Value} (H : HR σ base h w) (h1 : s.run P w = .ok (.value u) w) (h2 : R σ v u) : OkS P base σ w s v h :=
  ⟨.value u, u, w, σ, h1, rfl, h2, .refl _, H, .refl _ _⟩

theorem zeroCells_spec {t : TypeId} {cs : List AV} (hz : zeroCells P t = some cs) : ∃ i z, P.info? t = some i ∧ i.zero = some z ∧ ∀ σ, Rs σ cs z.cells.toList := by
  unfold zeroCells at hz
  split at hz
  · rename_i i hi
    split at hz
    · rename_i z hz'
      exact ⟨i, z, hi, hz', fun σ => (R_ofV σ z).parts hz⟩
    · cases hz
  · cases hz

theorem szOf_spec {t : TypeId} {n : Nat} (hn : szOf P t = some n) : ∃ i, P.info? t = some i ∧ i.size = n := by
  unfold szOf at hn
  cases hi : P.info? t with
  | none => simp [hi] at hn
  | some i => simp [hi] at hn; exact ⟨i, rfl, hn⟩

theorem run_sizeOf' {t : TypeId} {n : Nat} (hn : szOf P t = some n) (w : World) : (sizeOf t).run P w = .ok n w := by
  obtain ⟨i, hi, rfl⟩ := szOf_spec hn
  simp [sizeOf, run_typeInfo w hi]

theorem run_isAgg' {t : TypeId} {b : Bool} (hb : isAggT P t = some b) (w : World) : (isAgg t).run P w = .ok b w := by
  unfold isAggT at hb
  unfold isAgg
  cases hu : P.underlying t with
  | none => simp [hu] at hb
  | some d =>
    simp only [Sem.run_bind, run_underlying hu, Result.andThen_ok]
    cases d <;> simp [hu] at hb <;> subst hb <;> simp

/-- What is read of a row of related cells. -/
theorem run_part' {t : TypeId} {off : Nat} {cs : List AV} {xs : Array Value} {v : AV} (hr : rdVar P cs t off = some v) (hx : Rs σ cs xs.toList) :
    ∃ u, (part t xs off).run P w = .ok u w ∧ R σ v u := by
  unfold rdVar at hr
  unfold part
  cases ha : isAggT P t with
  | none => simp [ha] at hr
  | some b =>
    cases b
    · simp only [ha] at hr
      obtain ⟨u, hu, hru⟩ := hx.get hr
      refine ⟨u, ?_, hru⟩
      have hu' : xs[off]? = some u := by simpa using hu
      simp [run_isAgg' ha, hu']
    · simp only [ha] at hr
      cases hn : szOf P t with
      | none => simp [hn] at hr
      | some n =>
        simp only [hn, slice?] at hr
        cases hle : Nat.ble (off + n) cs.length
        · simp [hle] at hr
        · simp only [hle, cond_true, Option.map_some, Option.some.injEq] at hr
          subst hr
          refine ⟨.agg (xs.extract off (off + n)), by simp [run_isAgg' ha, run_sizeOf' hn], ?_⟩
          simp only [R]
          refine ⟨_, rfl, ?_⟩
          have := (hx.drop off).take n
          simpa [Array.toList_extract, List.extract] using this

theorem run_loadVar' (H : HR σ base h w) {id off : Nat} {b : Blk} (hb : lkB h.blks id = some b) {c : Loc} (hc : σ id = some c) {t : TypeId} {v : AV}
    (hr : rdVar P b.cells t off = some v) : ∃ u, (loadVar t ⟨c.blk, c.off + off, none⟩).run P w = .ok u w ∧ R σ v u := by
  obtain ⟨c', cs, e, fz, a1, a2, a3, a4, a5, a6⟩ := H.cel id b hb
  rw [hc] at a1
  cases a1
  have cell : ∀ j a, b.cells[j]? = some a → ∃ u, w.cell? ⟨c.blk, c.off + j, none⟩ = some u ∧ R σ a u := fun j a ha => by
    obtain ⟨u, hu, hru⟩ := a5 j a ha
    exact ⟨u, by simp [World.cell?, a2, hu], hru⟩
  unfold rdVar at hr
  unfold loadVar
  cases ha : isAggT P t with
  | none => simp [ha] at hr
  | some x =>
    cases x
    · simp only [ha] at hr
      obtain ⟨u, hu, hru⟩ := cell off v hr
      exact ⟨u, by simp [run_isAgg' ha, hu], hru⟩
    · simp only [ha] at hr
      cases hn : szOf P t with
      | none => simp [hn] at hr
      | some n =>
        simp only [hn, slice?] at hr
        cases hle : Nat.ble (off + n) b.cells.length
        · simp [hle] at hr
        · simp only [hle, cond_true, Option.map_some, Option.some.injEq] at hr
          subst hr
          have hle' : off + n ≤ b.cells.length := Nat.le_of_ble_eq_true hle
          have hsub : Rs σ ((b.cells.drop off).take n) ((cs.toList.drop (c.off + off)).take n) := by
            refine Rs.mk (by simp; omega) fun j a u ha hu => ?_
            rw [List.getElem?_take] at ha hu
            split at ha
            · rw [if_pos ‹_›, List.getElem?_drop] at hu
              rw [List.getElem?_drop] at ha
              obtain ⟨u', hu', hru⟩ := a5 _ _ ha
              rw [show c.off + (off + j) = c.off + off + j by omega] at hu'
              simp only [Array.getElem?_toList] at hu
              rw [hu'] at hu
              cases hu
              exact hru
            · cases ha
          have hlen : ((cs.toList.drop (c.off + off)).take n).length = n := by simp; omega
          have hl := run_loadCells_list (P := P) w ⟨c.blk, c.off + off, none⟩ ((cs.toList.drop (c.off + off)).take n) (fun j u hu => by
            rw [add_none]
            rw [List.getElem?_take] at hu
            split at hu
            · rw [List.getElem?_drop] at hu
              simp only [Array.getElem?_toList] at hu
              simp [World.cell?, a2, hu]
            · cases hu)
          rw [hlen] at hl
          refine ⟨.agg ((cs.toList.drop (c.off + off)).take n).toArray, by simp [run_isAgg' ha, run_sizeOf' hn, hl], ?_⟩
          simp only [R]
          exact ⟨_, rfl, by simpa using hsub⟩

theorem write_spec {id off : Nat} {vs : List AV} {h' : Hp} (hw : h.write id off vs = some h') :
    ∃ b, lkB h.blks id = some b ∧ b.wr = true ∧ off + vs.length ≤ b.cells.length ∧ vs.all AV.isCell = true ∧
      h' = { h with blks := setB (trunc h.blks b.ch id off) id { b with cells := splice b.cells off vs }, esc := h.esc || (Nat.blt id h.base && vs.any AV.hasRef) } := by
  unfold Hp.write at hw
  split at hw
  · rename_i b hb
    cases hc : (b.wr && Nat.ble (off + vs.length) b.cells.length && vs.all AV.isCell)
    · simp [hc] at hw
    · simp only [hc, cond_true, Option.some.injEq] at hw
      simp only [Bool.and_eq_true] at hc
      exact ⟨b, hb, hc.1.1, Nat.le_of_ble_eq_true hc.1.2, hc.2, hw.symm⟩
  · cases hw

/-- A write, in the heap and in the world. -/
theorem HR.write (H : HR σ base h w) {id off : Nat} {vs : List AV} {h' : Hp} (hw : h.write id off vs = some h') {ms : List Value} (hm : Rs σ vs ms) {c : Loc} (hc : σ id = some c) :
    ∃ cur e, w.heap[c.blk]? = some (.cells cur e (0, 0)) ∧ c.off + off + ms.length ≤ cur.size ∧ base.fr c.blk ∧ (∀ m ∈ ms, m.oneCell' = true) ∧
      HR σ base h' (putRow w c cur off ms) ∧ Fw base w (putRow w c cur off ms) := by
  obtain ⟨b, hb, hwr, hfit, hall, rfl⟩ := write_spec hw
  obtain ⟨c', cur, e, fz, a1, a2, a3, a4, a5, a6⟩ := H.cel id b hb
  rw [hc] at a1
  cases a1
  obtain ⟨rfl, hbase⟩ := a6.1 hwr
  have hl := hm.length
  have hone : ∀ m ∈ ms, m.oneCell' = true := by
    intro m hmem
    obtain ⟨j, hj⟩ := List.getElem?_of_mem hmem
    have hlt : j < vs.length := by
      rcases Nat.lt_or_ge j ms.length with h | h
      · omega
      · rw [List.getElem?_eq_none h] at hj; cases hj
    obtain ⟨u, hu, hru⟩ := hm.get (List.getElem?_eq_getElem hlt)
    rw [hj] at hu
    cases hu
    exact R.oneCell (List.all_eq_true.1 hall _ (List.getElem_mem hlt)) hru
  refine ⟨cur, e, a2, by omega, hbase, hone, ?_, Fw.row a2 hbase _⟩
  have hT : lkB (trunc h.blks b.ch id off) id = some b := lkB_trunc_some _ _ _ hb (.inr rfl)
  have key := HR.put H hb hwr hc a2 (ms := ms) (off := off) (by omega) (l := setB (trunc h.blks b.ch id off) id { b with cells := splice b.cells off vs })
    (setB_Srt _ _ (trunc_Srt _ _ _ H.srt))
    (fun x hx => by
      rcases setB_mem hx with hx | ⟨rfl, d, hd⟩
      · exact trunc_Chn H.chn x hx
      · have := H.chn _ (lkB_mem hb); exact this)
    (fun i d hd => by
      by_cases hi : i = id
      · subst hi
        rw [lkB_setB_same _ _ _ _ hT] at hd
        cases hd
        refine ⟨b, hb, rfl, rfl, by simp [splice]; omega, fun hne => absurd rfl hne, fun _ j a ha => ?_⟩
        rw [splice_get _ _ _ hfit] at ha
        by_cases h1 : j < off
        · simpa [h1] using ha
        · by_cases h2 : j < off + vs.length
          · rw [if_neg h1, if_pos h2] at ha
            rw [if_neg h1, if_pos (by omega)]
            exact hm.get ha
          · rw [if_neg h1, if_neg h2] at ha
            rw [if_neg h1, if_neg (by omega)]
            exact ha
      · rw [lkB_setB_other _ _ _ _ hi] at hd
        obtain ⟨b0, h1, h2, h3, h4⟩ := lkB_trunc H.srt H.chn hd
        refine ⟨b0, h1, h2, h3, ?_, fun _ => ?_, fun e => absurd e hi⟩
        · rcases h4 with ⟨_, rfl⟩ | ⟨_, h4⟩
          · exact Nat.le_refl _
          · rw [h4, List.length_take]; omega
        · rcases h4 with ⟨h4, rfl⟩ | ⟨_, h4⟩
          · refine ⟨⟨d.cells.length, by simp⟩, fun e => ?_⟩
            rcases h4 with h4 | h4
            · exact absurd e h4
            · exact absurd h4 hi
          · exact ⟨⟨off, h4⟩, fun _ => by rw [h4, List.length_take]; omega⟩)
  exact ⟨key.dom, key.srt, key.chn, key.cel, key.al, key.lps⟩

theorem run_storeVar' (H : HR σ base h w) {id off : Nat} {x : AV} {vs : List AV} {h' : Hp} {t : TypeId} {n : Nat} (hp : x.parts = some vs) (hn : szOf P t = some n) (hl : vs.length = n)
    (hw : h.write id off vs = some h') {c : Loc} (hc : σ id = some c) {v : Value} (hv : R σ x v) :
    ∃ w', (storeVar t ⟨c.blk, c.off + off, none⟩ v).run P w = .ok () w' ∧ HR σ base h' w' ∧ Fw base w w' := by
  have hm := R.parts hp hv
  obtain ⟨cur, e, h1, h2, h3, h4, h5, h6⟩ := H.write hw hm hc
  have hst := run_storeCells_at P c.blk (c.off + off) e v.cells.toList 0 cur w h1 (by simpa using h2) h4
  refine ⟨_, ?_, h5, h6⟩
  have hsz : v.cells.size = n := by have := hm.length; simp at this; omega
  unfold storeVar
  simp only [Sem.run_bind, run_sizeOf' hn, Result.andThen_ok, hsz, ne_eq, not_true_eq_false, if_false, Sem.run_ite]
  simp only [Nat.add_zero] at hst
  simpa [putRow] using hst

end
end Go.Abs

namespace Go.Abs
open Go Go.RowKit

section
variable {P : Program} {base : Prot} {σ : Env} {w : World} {h : Hp}

theorem ev_sound {n : Nat} {f : Nat → AV} {a : Act} (hf : FR σ n f a.tmps) (x : Operand) : R σ (ev f x) (a.eval x) := by
  cases x with
  | tmp t => exact hf.2 t
  | const v => exact R_ofV σ v
  | global g => exact R_any
  | func f =>
    simp only [ev, R]
    exact ⟨#[], #[], rfl, by simp [Rs], by simp [Rs]⟩

theorem R_bool {t : Bool} {v : Value} (h : R σ (.bool t) v) : v = .bool t := by simpa [R] using h
theorem R_int {k : IntKind} {n : Int} {v : Value} (h : R σ (.int k n) v) : v = .int k n := by simpa [R] using h

theorem foldl_get (off : Nat) : ∀ (vs : List Value) (k : Nat) (cs : Array Value), off + k + vs.length ≤ cs.size →
    ((vs.zipIdx k).foldl (fun (cs : Array Value) (x : Value × Nat) => cs.setIfInBounds (off + x.2) x.1) cs).size = cs.size ∧
    ∀ j, ((vs.zipIdx k).foldl (fun (cs : Array Value) (x : Value × Nat) => cs.setIfInBounds (off + x.2) x.1) cs)[j]? = if j < off + k then cs[j]? else if j < off + k + vs.length then vs[j - (off + k)]? else cs[j]?
  | [], k, cs, h => by
    refine ⟨by simp, fun j => ?_⟩
    simp only [List.zipIdx_nil, List.foldl_nil, List.length_nil, Nat.add_zero]
    split <;> rfl
  | v :: r, k, cs, h => by
    simp only [List.length_cons] at h
    simp only [List.zipIdx_cons, List.foldl_cons]
    obtain ⟨h1, h2⟩ := foldl_get off r (k + 1) (cs.setIfInBounds (off + k) v) (by simp; omega)
    refine ⟨by rw [h1]; simp, fun j => ?_⟩
    rw [h2 j]
    simp only [List.length_cons]
    by_cases hj : j < off + k
    · rw [if_pos (by omega), if_pos hj, Array.getElem?_setIfInBounds_ne (by omega)]
    · by_cases hj' : j = off + k
      · subst hj'
        rw [if_pos (by omega), if_neg (by omega), if_pos (by omega), Array.getElem?_setIfInBounds_self_of_lt (by omega)]
        simp
      · rw [if_neg (show ¬ j < off + (k + 1) by omega), if_neg hj]
        by_cases hl : j < off + k + (r.length + 1)
        · rw [if_pos (by omega), if_pos hl, show j - (off + k) = (j - (off + (k + 1))) + 1 by omega]
          simp
        · rw [if_neg (by omega), if_neg hl, Array.getElem?_setIfInBounds_ne (by omega)]

theorem fill_sound {pa pl : Nat → Option (Nat × Nat)} (hpl : ∀ i x, pa i = some x → pl i = some x) : ∀ {ps : List (Nat × AV)} {qs : List (Nat × Value)} {cells : List AV} {cs : Array Value} {out : List AV},
    ps.map (·.1) = qs.map (·.1) → Rs σ (ps.map (·.2)) (qs.map (·.2)) → Rs σ cells cs.toList → fillA pa cells ps = some out → ∃ r, Instr.fill pl cs qs = some r ∧ Rs σ out r.toList
  | [], qs, cells, cs, out, h1, _, h3, h4 => by
    have : qs = [] := by simpa using h1.symm
    subst this
    simp only [fillA, Option.some.injEq] at h4
    subst h4
    exact ⟨cs, rfl, h3⟩
  | (i, v) :: ps, qs, cells, cs, out, h1, h2, h3, h4 => by
    cases qs with
    | nil => simp at h1
    | cons q qs =>
      obtain ⟨i', u⟩ := q
      simp only [List.map_cons, List.cons.injEq] at h1 h2
      obtain ⟨rfl, h1⟩ := h1
      simp only [Rs, List.cons.injEq] at h2
      obtain ⟨u', m', ⟨rfl, rfl⟩, hu, h2⟩ := h2
      simp only [fillA] at h4
      split at h4
      · rename_i off size vs hp hvs
        cases hc : (Nat.beq vs.length size && Nat.ble (off + vs.length) cells.length)
        · simp [hc] at h4
        · simp only [hc, cond_true] at h4
          simp only [Bool.and_eq_true] at hc
          have hs1 := Nat.eq_of_beq_eq_true hc.1
          have hs2 := Nat.le_of_ble_eq_true hc.2
          have hpu := R.parts hvs hu
          have hlu := hpu.length
          have hlc := h3.length
          simp only [Array.length_toList] at hlu hlc
          have hidx := foldl_get off u.cells.toList 0 cs (by simp; omega)
          have hfold : u.cells.zipIdx.foldl (fun (cs : Array Value) (x : Value × Nat) => cs.setIfInBounds (off + x.2) x.1) cs =
              (u.cells.toList.zipIdx 0).foldl (fun (cs : Array Value) (x : Value × Nat) => cs.setIfInBounds (off + x.2) x.1) cs := by
            rw [← Array.foldl_toList, Array.toList_zipIdx]
          simp only [Instr.fill, hpl _ _ hp]
          have hcond : (decide (u.cells.size ≠ size) || decide (off + u.cells.size > cs.size)) = false := by
            simp; omega
          rw [hcond]
          simp only [Bool.false_eq_true, if_false]
          refine fill_sound hpl h1 h2 (cells := splice cells off vs) ?_ h4
          rw [hfold]
          refine Rs.mk (by simp only [Array.length_toList, hidx.1]; simp [splice]; omega) fun j a x ha hx => ?_
          rw [splice_get _ _ _ hs2] at ha
          rw [Array.getElem?_toList, hidx.2 j] at hx
          simp only [Nat.add_zero, Array.length_toList] at hx
          by_cases hj : j < off
          · rw [if_pos hj] at ha hx
            obtain ⟨y, hy, hr⟩ := h3.get ha
            rw [Array.getElem?_toList, hx] at hy
            cases hy
            exact hr
          · by_cases hj' : j < off + vs.length
            · rw [if_neg hj, if_pos hj'] at ha
              rw [if_neg hj, if_pos (by omega)] at hx
              obtain ⟨y, hy, hr⟩ := hpu.get ha
              rw [hx] at hy
              cases hy
              exact hr
            · rw [if_neg hj, if_neg hj'] at ha
              rw [if_neg hj, if_neg (by omega)] at hx
              obtain ⟨y, hy, hr⟩ := h3.get ha
              rw [Array.getElem?_toList, hx] at hy
              cases hy
              exact hr
      · cases h4

theorem repl_get : ∀ (z : List AV) (n j : Nat), (repl z n)[j]? = if j < n * z.length then z[j % z.length]? else none
  | z, 0, j => by simp [repl]
  | z, n + 1, j => by
    simp only [repl]
    by_cases h1 : j < z.length
    · rw [List.getElem?_append_left h1, if_pos (by rw [Nat.add_mul]; omega), Nat.mod_eq_of_lt h1]
    · rw [List.getElem?_append_right (by omega), repl_get z n (j - z.length)]
      have hz : z.length ≤ j := by omega
      rw [show (n + 1) * z.length = n * z.length + z.length by rw [Nat.add_mul]; omega]
      by_cases h2 : j < n * z.length + z.length
      · rw [if_pos (by omega), if_pos h2, ← Nat.mod_eq_sub_mod hz]
      · rw [if_neg (by omega), if_neg h2]

theorem repl_length (z : List AV) (n : Nat) : (repl z n).length = n * z.length := by
  induction n with
  | zero => simp [repl]
  | succ n ih => simp [repl, ih, Nat.add_mul]; omega

theorem repl_sound {z : List AV} {zv : Array Value} (hz : Rs σ z zv.toList) (n m : Nat) (hm : m = n * z.length) :
    Rs σ (repl z n) ((Array.range m).map (zv[· % zv.size]!)).toList := by
  have hl := hz.length
  simp only [Array.length_toList] at hl
  refine Rs.mk (by simp [repl_length, hm]) fun j a v ha hv => ?_
  rw [repl_get] at ha
  split at ha
  · rename_i hj
    obtain ⟨u, hu, hr⟩ := hz.get ha
    have hpos : 0 < z.length := by
      rcases Nat.eq_zero_or_pos z.length with h | h
      · rw [h] at hj; simp at hj
      · exact h
    have hlt : j % z.length < z.length := Nat.mod_lt _ hpos
    simp only [Array.toList_map, Array.toList_range, List.getElem?_map, List.getElem?_range (show j < m by omega), Option.map_some, Option.some.injEq] at hv
    rw [hl] at hv
    rw [Array.getElem?_toList] at hu
    rw [getElem!_def, hu] at hv
    rw [← hv]
    exact hr
  · cases ha

end
end Go.Abs
