/- What an abstract value stands for; what an abstract heap says of a world. -/
import Derived.Test.YtogfojkjocbahaaB
namespace Go.Abs
open Go Go.RowKit

structure Loc where
  blk : Nat
  off : Nat
  tot : Nat

abbrev Env := Nat → Option Loc

mutual
def R (σ : Env) : AV → Value → Prop
  | .any, _ => True
  | .bool x, v => v = .bool x
  | .int k n, v => v = .int k n
  | .str l, v => v = .string ⟨l.toArray⟩
  | .ptr id off, v => ∃ c, σ id = some c ∧ v = .pointer (some ⟨c.blk, c.off + off, none⟩)
  | .nilptr, v => v = .pointer none
  | .sl id off len cap sz, v => ∃ c k, σ id = some c ∧ v = .slice (some ⟨c.blk, c.off + off, none⟩) len k ∧ len ≤ k ∧ (match cap with | some x => k = x | none => off + k * sz = c.tot)
  | .nilsl, v => v = .slice none 0 0
  | .esl, v => ∃ a k, v = .slice (some a) 0 k
  | .mp id, v => ∃ c, σ id = some c ∧ v = .map (some c.blk)
  | .nilmp, v => v = .map none
  | .fn f a c, v => ∃ x y, v = .func f x y ∧ Rs σ a x.toList ∧ Rs σ c y.toList
  | .yld id, v => ∃ c, σ id = some c ∧ v = .func (.yield c.blk) #[] #[]
  | .nilfn, v => v = .nilFunc
  | .ifc t a, v => ∃ x, v = .iface t x ∧ R σ a x
  | .nilifc, v => v = .nilIface
  | .ag cs, v => ∃ x, v = .agg x ∧ Rs σ cs x.toList
  | .tu cs, v => ∃ x, v = .tuple x ∧ Rs σ cs x.toList
def Rs (σ : Env) : List AV → List Value → Prop
  | [], l => l = []
  | a :: r, l => ∃ v m, l = v :: m ∧ R σ a v ∧ Rs σ r m
end

def Ext (σ τ : Env) : Prop := ∀ i c, σ i = some c → τ i = some c

theorem Ext.refl (σ : Env) : Ext σ σ := fun _ _ h => h
theorem Ext.trans {σ τ υ : Env} (h : Ext σ τ) (k : Ext τ υ) : Ext σ υ := fun i c x => k i c (h i c x)

mutual
theorem R.ext {σ τ : Env} (h : Ext σ τ) : ∀ {a : AV} {v : Value}, R σ a v → R τ a v
  | .any, _, _ => by simp [R]
  | .bool x, v, hr => by simpa [R] using hr
  | .int k n, v, hr => by simpa [R] using hr
  | .str l, v, hr => by simpa [R] using hr
  | .ptr id off, v, hr => by
    simp only [R] at hr ⊢
    obtain ⟨c, h1, h2⟩ := hr
    exact ⟨c, h _ _ h1, h2⟩
  | .nilptr, v, hr => by simpa [R] using hr
  | .sl id off len cap sz, v, hr => by
    simp only [R] at hr ⊢
    obtain ⟨c, k, h1, h2⟩ := hr
    exact ⟨c, k, h _ _ h1, h2⟩
  | .nilsl, v, hr => by simpa [R] using hr
  | .esl, v, hr => by simpa [R] using hr
  | .mp id, v, hr => by
    simp only [R] at hr ⊢
    obtain ⟨c, h1, h2⟩ := hr
    exact ⟨c, h _ _ h1, h2⟩
  | .nilmp, v, hr => by simpa [R] using hr
  | .fn f a c, v, hr => by
    simp only [R] at hr ⊢
    obtain ⟨x, y, h1, h2, h3⟩ := hr
    exact ⟨x, y, h1, Rs.ext h h2, Rs.ext h h3⟩
  | .yld id, v, hr => by
    simp only [R] at hr ⊢
    obtain ⟨c, h1, h2⟩ := hr
    exact ⟨c, h _ _ h1, h2⟩
  | .nilfn, v, hr => by simpa [R] using hr
  | .ifc t a, v, hr => by
    simp only [R] at hr ⊢
    obtain ⟨x, h1, h2⟩ := hr
    exact ⟨x, h1, R.ext h h2⟩
  | .nilifc, v, hr => by simpa [R] using hr
  | .ag cs, v, hr => by
    simp only [R] at hr ⊢
    obtain ⟨x, h1, h2⟩ := hr
    exact ⟨x, h1, Rs.ext h h2⟩
  | .tu cs, v, hr => by
    simp only [R] at hr ⊢
    obtain ⟨x, h1, h2⟩ := hr
    exact ⟨x, h1, Rs.ext h h2⟩
theorem Rs.ext {σ τ : Env} (h : Ext σ τ) : ∀ {l : List AV} {m : List Value}, Rs σ l m → Rs τ l m
  | [], m, hr => by simpa [Rs] using hr
  | a :: r, m, hr => by
    simp only [Rs] at hr ⊢
    obtain ⟨v, m', h1, h2, h3⟩ := hr
    exact ⟨v, m', h1, R.ext h h2, Rs.ext h h3⟩
end

theorem R_any {σ : Env} {v : Value} : R σ .any v := by simp [R]

theorem Rs.length {σ : Env} : ∀ {l : List AV} {m : List Value}, Rs σ l m → m.length = l.length
  | [], m, h => by simp [Rs] at h; simp [h]
  | a :: r, m, h => by
    simp only [Rs] at h
    obtain ⟨v, m', rfl, _, h3⟩ := h
    simp [h3.length]

theorem Rs.get {σ : Env} : ∀ {l : List AV} {m : List Value}, Rs σ l m → ∀ {j : Nat} {a : AV}, l[j]? = some a → ∃ v, m[j]? = some v ∧ R σ a v
  | [], m, _, j, a, hj => by simp at hj
  | b :: r, m, h, j, a, hj => by
    simp only [Rs] at h
    obtain ⟨v, m', rfl, h2, h3⟩ := h
    cases j with
    | zero => simp at hj; subst hj; exact ⟨v, by simp, h2⟩
    | succ j => simp at hj; obtain ⟨u, hu, hr⟩ := h3.get hj; exact ⟨u, by simpa using hu, hr⟩

theorem Rs.mk {σ : Env} : ∀ {l : List AV} {m : List Value}, m.length = l.length → (∀ (j : Nat) (a : AV) (v : Value), l[j]? = some a → m[j]? = some v → R σ a v) → Rs σ l m
  | [], m, h, _ => by simp [Rs]; exact List.eq_nil_of_length_eq_zero (by simpa using h)
  | a :: r, m, h, hr => by
    cases m with
    | nil => simp at h
    | cons v m =>
      simp only [Rs]
      exact ⟨v, m, rfl, hr 0 a v (by simp) (by simp), Rs.mk (by simpa using h) fun j b u hb hu => hr (j + 1) b u (by simpa using hb) (by simpa using hu)⟩

theorem Rs.append {σ : Env} : ∀ {l l' : List AV} {m m' : List Value}, Rs σ l m → Rs σ l' m' → Rs σ (l ++ l') (m ++ m')
  | [], l', m, m', h, h' => by simp [Rs] at h; subst h; simpa using h'
  | a :: r, l', m, m', h, h' => by
    simp only [Rs] at h
    obtain ⟨v, m1, rfl, h2, h3⟩ := h
    simp only [List.cons_append, Rs]
    exact ⟨v, _, rfl, h2, h3.append h'⟩

theorem Rs.take {σ : Env} {l : List AV} {m : List Value} (h : Rs σ l m) (n : Nat) : Rs σ (l.take n) (m.take n) := by
  refine Rs.mk (by simp [h.length]) fun j a v ha hv => ?_
  rw [List.getElem?_take] at ha hv
  split at ha
  · obtain ⟨u, hu, hr⟩ := h.get ha
    rw [if_pos ‹_›, hu] at hv
    cases hv
    exact hr
  · cases ha

theorem Rs.drop {σ : Env} {l : List AV} {m : List Value} (h : Rs σ l m) (n : Nat) : Rs σ (l.drop n) (m.drop n) := by
  refine Rs.mk (by simp [h.length]) fun j a v ha hv => ?_
  rw [List.getElem?_drop] at ha hv
  obtain ⟨u, hu, hr⟩ := h.get ha
  rw [hu] at hv
  cases hv
  exact hr

theorem Rs.map {σ : Env} {α : Type} (f : α → AV) (g : α → Value) : ∀ {l : List α}, (∀ x ∈ l, R σ (f x) (g x)) → Rs σ (l.map f) (l.map g)
  | [], _ => by simp [Rs]
  | x :: r, h => by
    simp only [List.map_cons, Rs]
    exact ⟨_, _, rfl, h x (by simp), Rs.map f g fun y hy => h y (by simp [hy])⟩

theorem Rs.nil {σ : Env} : Rs σ [] [] := by simp [Rs]
theorem Rs.one {σ : Env} {a : AV} {v : Value} (h : R σ a v) : Rs σ [a] [v] := by simp [Rs, h]

/-- A value that may lie in a cell. -/
theorem R.oneCell {σ : Env} {a : AV} {v : Value} (ha : a.isCell = true) (h : R σ a v) : v.oneCell' = true := by
  cases a <;> simp [AV.isCell] at ha <;> simp only [R] at h
  all_goals first
    | (subst h; rfl)
    | (obtain ⟨_, rfl⟩ := h; rfl)
    | (obtain ⟨_, h⟩ := h; first | (obtain ⟨_, rfl⟩ := h; rfl) | (obtain ⟨rfl, _⟩ := h; rfl) | (obtain ⟨_, _, h⟩ := h; first | (obtain ⟨rfl, _⟩ := h; rfl) | (subst h; rfl)) | (obtain ⟨_, h, _⟩ := h; subst h; rfl))

/-- The cells of a value. -/
theorem R.parts {σ : Env} {a : AV} {v : Value} {cs : List AV} (hp : a.parts = some cs) (h : R σ a v) : Rs σ cs v.cells.toList := by
  cases a <;> simp only [AV.parts] at hp
  case any => cases hp
  case tu => cases hp
  case ag xs =>
    cases hp
    simp only [R] at h
    obtain ⟨x, rfl, hx⟩ := h
    exact hx
  all_goals
    cases hp
    have hone := R.oneCell (by rfl) h
    have : v.cells = #[v] := by cases v <;> simp [Value.oneCell'] at hone <;> rfl
    rw [this]
    exact Rs.one h

end Go.Abs
