/- Orders of vertices: the search for the first least one, as mathematics. -/
import Derived.Test.YtihadgkgogfhcaaR0
set_option linter.unusedSimpArgs false
set_option linter.unusedVariables false
namespace Go.Ro
open Go.Pa
/- One list comes before another one, at the first place where they differ. -/
def bef : List Int → List Int → Prop
  | x :: xs, y :: ys => x < y ∨ (x = y ∧ bef xs ys)
  | _, _ => False
theorem bef_nil {xs : List Int} : ¬ bef xs [] := by cases xs <;> simp [bef]
theorem bef_irrefl : ∀ xs : List Int, ¬ bef xs xs
  | [] => by simp [bef]
  | x :: xs => by simp only [bef, Int.lt_irrefl, false_or, true_and]; exact bef_irrefl xs
theorem bef_asymm : ∀ {xs ys : List Int}, bef xs ys → ¬ bef ys xs
  | x :: xs, y :: ys, h, h' => by
    simp only [bef] at h h'
    rcases h with h | ⟨rfl, h⟩
    · rcases h' with h' | ⟨rfl, h'⟩ <;> omega
    · rcases h' with h' | ⟨_, h'⟩
      · omega
      · exact bef_asymm h h'
theorem bef_tri : ∀ {xs ys : List Int}, xs.length = ys.length → ¬ bef xs ys → ¬ bef ys xs → xs = ys
  | [], [], _, _, _ => rfl
  | x :: xs, y :: ys, hl, h, h' => by
    simp only [bef, not_or, not_and] at h h'
    have e : x = y := by omega
    subst e
    rw [bef_tri (by simpa using hl) (h.2 rfl) (h'.2 rfl)]
theorem bef_pre : ∀ {b ys : List Int} {zs : List Int}, bef zs b → b <+: ys → bef zs ys
  | [], ys, zs, h, _ => absurd h bef_nil
  | x :: b, ys, [], h, _ => by simp [bef] at h
  | x :: b, ys, z :: zs, h, hp => by
    obtain ⟨r, rfl⟩ := hp
    simp only [List.cons_append, bef] at h ⊢
    rcases h with h | ⟨rfl, h⟩
    · exact .inl h
    · exact .inr ⟨rfl, bef_pre h ⟨r, rfl⟩⟩
theorem bef_next : ∀ {b ys : List Int} {u : Int}, bef ys (b ++ [u + 1]) ↔ bef ys (b ++ [u]) ∨ (b ++ [u]) <+: ys
  | [], [], u => by simp [bef]
  | [], y :: ys, u => by
    simp only [List.nil_append, bef, bef_nil, and_false, or_false, List.cons_prefix_cons, List.nil_prefix, and_true]
    omega
  | x :: b, [], u => by simp [bef]
  | x :: b, y :: ys, u => by
    simp only [List.cons_append, bef, List.cons_prefix_cons, bef_next]
    constructor
    · rintro (h | ⟨rfl, h | h⟩)
      · exact .inl (.inl h)
      · exact .inl (.inr ⟨rfl, h⟩)
      · exact .inr ⟨rfl, h⟩
    · rintro ((h | ⟨rfl, h⟩) | ⟨rfl, h⟩)
      · exact .inl h
      · exact .inr ⟨rfl, .inl h⟩
      · exact .inr ⟨rfl, .inr h⟩
theorem bef_zero : ∀ {b ys : List Int}, (∀ y ∈ ys, 0 ≤ y) → (bef ys (b ++ [0]) ↔ bef ys b)
  | [], [], h => by simp [bef]
  | [], y :: ys, h => by
    have := h y (by simp)
    simp only [List.nil_append, bef, bef_nil, and_false, or_false, iff_false]
    omega
  | x :: b, [], h => by simp [bef]
  | x :: b, y :: ys, h => by
    simp only [List.cons_append, bef, bef_zero (b := b) (ys := ys) fun z hz => h z (by simp [hz])]
theorem bef_full : ∀ {b ys : List Int} {n : Int}, (∀ y ∈ ys, y < n) → b.length < ys.length → (bef ys (b ++ [n]) ↔ bef ys b ∨ b <+: ys)
  | b, [], n, h, hl => by simp at hl
  | [], y :: ys, n, h, hl => by
    have := h y (by simp)
    simp only [List.nil_append, bef, List.nil_prefix, or_true, iff_true]
    exact .inl this
  | x :: b, y :: ys, n, h, hl => by
    simp only [List.cons_append, bef, List.cons_prefix_cons, bef_full (b := b) (ys := ys) (fun z hz => h z (by simp [hz])) (by simpa using hl)]
    constructor
    · rintro (h | ⟨e, h | h⟩)
      · exact .inl (.inl h)
      · exact .inl (.inr ⟨e, h⟩)
      · exact .inr ⟨e.symm, h⟩
    · rintro ((h | ⟨e, h⟩) | ⟨e, h⟩)
      · exact .inl h
      · exact .inr ⟨e, .inl h⟩
      · exact .inr ⟨e.symm, .inr h⟩

/- What was found among the orders that were passed. -/
structure Hit (n : Nat) (c : List Int → Int) (P : List Int → Prop) (v : Int) (zs : List Int) : Prop where
  perm : PermI n zs
  pass : P zs
  cost : c zs = v
  low : ∀ ys, PermI n ys → P ys → v ≤ c ys
  first : ∀ ys, PermI n ys → P ys → c ys = v → ¬ bef ys zs
def Inv (n : Nat) (c : List Int → Int) (P : List Int → Prop) : Option (Int × List Int) → Prop
  | none => ∀ ys, PermI n ys → ¬ P ys
  | some (v, zs) => Hit n c P v zs
/- No order costs less, and none before it as much. -/
def Least (n : Nat) (c : List Int → Int) (v : Int) (zs : List Int) : Prop := Hit n c (fun _ => True) v zs
theorem Hit.iff {n : Nat} {c : List Int → Int} {P Q : List Int → Prop} (h : ∀ ys, PermI n ys → (P ys ↔ Q ys)) {v : Int} {zs : List Int} (H : Hit n c P v zs) : Hit n c Q v zs :=
  ⟨H.perm, (h _ H.perm).1 H.pass, H.cost, fun ys hy hq => H.low ys hy ((h ys hy).2 hq), fun ys hy hq => H.first ys hy ((h ys hy).2 hq)⟩
theorem Inv.iff {n : Nat} {c : List Int → Int} {P Q : List Int → Prop} (h : ∀ ys, PermI n ys → (P ys ↔ Q ys)) : ∀ {o}, Inv n c P o → Inv n c Q o
  | none, H => fun ys hy hq => H ys hy ((h ys hy).2 hq)
  | some (v, zs), H => Hit.iff h H
theorem PermI.nonneg {n : Nat} {ys : List Int} (h : PermI n ys) : ∀ y ∈ ys, 0 ≤ y := fun y hy => (h.2.1 y hy).1
theorem PermI.lt {n : Nat} {ys : List Int} (h : PermI n ys) : ∀ y ∈ ys, y < (n : Int) := fun y hy => (h.2.1 y hy).2
theorem PermI.len {n : Nat} {ys : List Int} (h : PermI n ys) : ys.length = n := by have := h.1; omega
def at_ (b : List Int) (u : Nat) (ys : List Int) : Prop := bef ys (b ++ [(u : Int)])
theorem at_next {b ys : List Int} {u : Nat} : at_ b (u + 1) ys ↔ at_ b u ys ∨ (b ++ [(u : Int)]) <+: ys := by
  unfold at_
  rw [show ((u + 1 : Nat) : Int) = (u : Int) + 1 by omega]
  exact bef_next
section
variable {n : Nat} {c : List Int → Int} {b : List Int} {u : Nat}
/-- A vertex that is there already. -/
theorem Inv.skip {o : Option (Int × List Int)} (H : Inv n c (at_ b u) o) (h : (u : Int) ∈ b) : Inv n c (at_ b (u + 1)) o := H.iff fun ys hy => by
  rw [at_next]
  refine ⟨.inl, fun h' => h'.elim id fun hp => ?_⟩
  obtain ⟨r, rfl⟩ := hp
  have := hy.2.2
  rw [List.append_assoc, List.nodup_append] at this
  exact absurd rfl (this.2.2 _ h _ (by simp))
/-- A beginning that costs too much. -/
theorem Inv.prune {v : Int} {zs : List Int} (H : Inv n c (at_ b u) (some (v, zs))) (h : ∀ ys, PermI n ys → (b ++ [(u : Int)]) <+: ys → v ≤ c ys) : Inv n c (at_ b (u + 1)) (some (v, zs)) := by
  have H : Hit n c (at_ b u) v zs := H
  refine (⟨H.perm, at_next.2 (.inl H.pass), H.cost, fun ys hy hp => ?_, fun ys hy hp hc => ?_⟩ : Hit n c (at_ b (u + 1)) v zs)
  · rcases at_next.1 hp with hp | hp
    · exact H.low ys hy hp
    · exact h ys hy hp
  · rcases at_next.1 hp with hp | hp
    · exact H.first ys hy hp hc
    · exact bef_asymm (bef_pre H.pass hp)
theorem Inv.push {o : Option (Int × List Int)} (H : Inv n c (at_ b u) o) : Inv n c (at_ (b ++ [(u : Int)]) 0) o := H.iff fun ys hy => by
  unfold at_
  exact (bef_zero (PermI.nonneg hy)).symm
theorem Inv.pop {l : Nat} {o : Option (Int × List Int)} (hb : b.length + 1 < n) (H : Inv n c (at_ (b ++ [(l : Int)]) n) o) : Inv n c (at_ b (l + 1)) o := H.iff fun ys hy => by
  rw [at_next]
  unfold at_
  exact bef_full (PermI.lt hy) (by rw [PermI.len hy]; simpa using hb)
/-- A better one. -/
theorem Inv.better {o : Option (Int × List Int)} (H : Inv n c (at_ b u) o) (hp : PermI n (b ++ [(u : Int)])) (h : ∀ v zs, o = some (v, zs) → c (b ++ [(u : Int)]) < v) : Inv n c (at_ b (u + 1)) (some (c (b ++ [(u : Int)]), b ++ [(u : Int)])) := by
  have same : ∀ ys, PermI n ys → (b ++ [(u : Int)]) <+: ys → ys = b ++ [(u : Int)] := fun ys hy h => (h.eq_of_length (by rw [PermI.len hy, PermI.len hp])).symm
  refine (⟨hp, at_next.2 (.inr (List.prefix_refl _)), rfl, fun ys hy hq => ?_, fun ys hy hq hc hb => ?_⟩ : Hit n c (at_ b (u + 1)) _ _)
  · rcases at_next.1 hq with hq | hq
    · cases o with
      | none => exact absurd hq (H ys hy)
      | some p => exact Int.le_of_lt (Int.lt_of_lt_of_le (h p.1 p.2 rfl) (Hit.low H ys hy hq))
    · rw [same ys hy hq]; omega
  · rcases at_next.1 hq with hq | hq
    · cases o with
      | none => exact absurd hq (H ys hy)
      | some p => have := h p.1 p.2 rfl; have := Hit.low H ys hy hq; omega
    · rw [same ys hy hq] at hb; exact bef_irrefl _ hb
theorem Inv.start : Inv n c (at_ [] 0) none := fun ys hy h => by
  unfold at_ at h
  exact bef_nil ((bef_zero (PermI.nonneg hy)).1 h)
theorem Inv.done {o : Option (Int × List Int)} (hn : 0 < n) (H : Inv n c (at_ [] n) o) : Inv n c (fun _ => True) o := H.iff fun ys hy => by
  unfold at_
  rw [bef_full (PermI.lt hy) (by rw [PermI.len hy]; exact hn)]
  simp
end
theorem Least.unique {n : Nat} {c : List Int → Int} {v w : Int} {xs ys : List Int} (H : Least n c v xs) (K : Least n c w ys) : v = w ∧ xs = ys := by
  have e : v = w := by
    have h1 := H.low ys K.perm trivial
    have h2 := K.low xs H.perm trivial
    rw [K.cost] at h1
    rw [H.cost] at h2
    omega
  subst e
  exact ⟨rfl, bef_tri (by rw [PermI.len H.perm, PermI.len K.perm]) (K.first xs H.perm trivial H.cost) (H.first ys K.perm trivial K.cost)⟩
end Go.Ro
