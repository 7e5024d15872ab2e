/- Lists of pairs of bytes; the multigraph that the laws make; numbers of colours. -/
import Derived.Test.YtpfkmdbdafpadaaDoorPJ
set_option linter.unusedSimpArgs false
set_option linter.unusedVariables false
set_option maxHeartbeats 4000000
set_option maxRecDepth 20000
namespace Go.Abs
/- Arrays of two bytes. -/
def pairs8 (l : List (Int × Int)) : List AV := l.flatMap fun p => [.int .u8 p.1, .int .u8 p.2]
theorem pairs8_cons {p : Int × Int} {r : List (Int × Int)} : pairs8 (p :: r) = .int .u8 p.1 :: .int .u8 p.2 :: pairs8 r := by simp [pairs8]
theorem pairs8_len : ∀ {l : List (Int × Int)}, (pairs8 l).length = l.length * 2
  | [] => rfl
  | p :: r => by
    have := pairs8_len (l := r)
    rw [pairs8_cons]
    simp only [List.length_cons] at this ⊢
    omega
theorem pairs8_get : ∀ {l : List (Int × Int)} {i : Nat}, i < l.length → (pairs8 l)[i * 2]? = some (.int .u8 (l.getD i (0, 0)).1) ∧ (pairs8 l)[i * 2 + 1]? = some (.int .u8 (l.getD i (0, 0)).2)
  | [], i, h => by simp at h
  | p :: r, 0, _ => by simp [pairs8_cons]
  | p :: r, i + 1, h => by
    have := pairs8_get (l := r) (i := i) (by simpa using h)
    rw [pairs8_cons]
    constructor
    · rw [show (i + 1) * 2 = (i * 2) + 1 + 1 by omega, List.getElem?_cons_succ, List.getElem?_cons_succ, this.1]; simp
    · rw [show (i + 1) * 2 + 1 = (i * 2 + 1) + 1 + 1 by omega, List.getElem?_cons_succ, List.getElem?_cons_succ, this.2]; simp
theorem pairs8_take : ∀ {l : List (Int × Int)} {i : Nat}, (pairs8 l).take (i * 2) = pairs8 (l.take i)
  | [], i => by simp [pairs8]
  | p :: r, 0 => by simp [pairs8]
  | p :: r, i + 1 => by
    rw [pairs8_cons, show (i + 1) * 2 = i * 2 + 1 + 1 by omega, List.take_succ_cons, List.take_succ_cons, pairs8_take (l := r), List.take_succ_cons, pairs8_cons]
def Pairs8 (bs : List (Nat × Blk)) (a : AV) (l : List (Int × Int)) : Prop := Arr bs 2 a l.length (pairs8 l)
section
variable {bs bs' : List (Nat × Blk)} {a : AV} {l : List (Int × Int)}
theorem Pairs8.sub (H : Pairs8 bs a l) (s : Sub bs bs') : Pairs8 bs' a l := Arr.sub H s
theorem Pairs8.len (H : Pairs8 bs a l) : ∀ h, sLen h a = some (.int .i64 l.length, h) := Arr.len H
theorem Pairs8.ix (H : Pairs8 bs a l) {i : Nat} (h : Hp) (hi : i < l.length) : sIxS 2 h (some i) a = some (cellAt a i, h) := Arr.ix H h hi
theorem Pairs8.ixA (H : Pairs8 bs a l) {i j : Nat} (h : Hp) (hi : i < l.length) (hj : j < 2) : sIxA 2 1 h (some j) (cellAt a i) = some (cellF a i j, h) := by
  obtain ⟨_, ⟨h0, _⟩ | ⟨id, off, cap, rfl, _⟩⟩ := H
  · omega
  · have : Nat.blt j 2 = true := by simpa [Nat.blt_eq] using hj
    simp only [cellAt, sIxA, this, cond_true, cellF, Nat.mul_one]
theorem Pairs8.ld0 (H : Pairs8 bs a l) (s : Sub bs bs') {i : Nat} (hi : i < l.length) : cellV bs' a i 0 = some (.int .u8 (l.getD i (0, 0)).1) := by
  rw [Arr.ld H s hi (by omega), Nat.add_zero, (pairs8_get hi).1]
theorem Pairs8.ld1 (H : Pairs8 bs a l) (s : Sub bs bs') {i : Nat} (hi : i < l.length) : cellV bs' a i 1 = some (.int .u8 (l.getD i (0, 0)).2) := by
  rw [Arr.ld H s hi (by omega), (pairs8_get hi).2]
end
end Go.Abs
namespace Go.Pa
open Go Go.Abs
def gOf (l : List (Int × Int)) : List (Int × Int) := (l.take 12).map fun p => (p.1 % 6, p.2 % 6)
theorem gOf_len {l : List (Int × Int)} : (gOf l).length ≤ 12 := by simp [gOf]; omega
theorem gOf_in6 {l : List (Int × Int)} : In6 (gOf l) := fun e he => by
  obtain ⟨p, _, rfl⟩ := List.mem_map.1 he
  omega
theorem gOf_ok {l : List (Int × Int)} : GraphOK 6 6 (gOf l) := ⟨by omega, by omega, fun e he => by have := gOf_in6 e he; omega⟩
/- Different elements of a list are not more than it has. -/
theorem sub_len {α : Type} [DecidableEq α] : ∀ (L M : List α), L.Nodup → (∀ x ∈ L, x ∈ M) → L.length ≤ M.length
  | [], M, _, _ => Nat.zero_le _
  | x :: L, M, hn, h => by
    obtain ⟨h1, h2⟩ := List.nodup_cons.1 hn
    have hx : x ∈ M := h x (by simp)
    have := sub_len L (M.erase x) h2 fun y hy => (List.mem_erase_of_ne (fun e => h1 (by rw [← e]; exact hy))).2 (h y (by simp [hy]))
    rw [List.length_erase_of_mem hx] at this
    have : 0 < M.length := List.length_pos_of_mem hx
    simp only [List.length_cons]
    omega
/- The different numbers of a list. -/
def seenU (c : List Int) : Nat → List Int
  | 0 => []
  | i + 1 => if c.getD i 0 ∈ seenU c i then seenU c i else seenU c i ++ [c.getD i 0]
theorem seen_nodup {c : List Int} : ∀ i, (seenU c i).Nodup
  | 0 => List.nodup_nil
  | i + 1 => by
    simp only [seenU]
    split
    · exact seen_nodup i
    · rename_i h
      rw [List.nodup_append]
      exact ⟨seen_nodup i, by simp, fun a ha b hb e => by rw [List.mem_singleton] at hb; subst hb; subst e; exact h ha⟩
theorem mem_seen {c : List Int} {x : Int} : ∀ {i : Nat}, x ∈ seenU c i ↔ ∃ j, j < i ∧ c.getD j 0 = x
  | 0 => by simp [seenU]
  | i + 1 => by
    have ih := mem_seen (c := c) (x := x) (i := i)
    have key : x ∈ seenU c (i + 1) ↔ x ∈ seenU c i ∨ x = c.getD i 0 := by
      simp only [seenU]
      split
      · rename_i h
        exact ⟨fun hx => .inl hx, fun hx => hx.elim id fun e => by rw [e]; exact h⟩
      · rw [List.mem_append, List.mem_singleton]
    rw [key, ih]
    constructor
    · rintro (⟨j, h1, h2⟩ | h)
      · exact ⟨j, by omega, h2⟩
      · exact ⟨i, by omega, h.symm⟩
    · rintro ⟨j, h1, h2⟩
      by_cases e : j = i
      · subst e; exact .inr h2.symm
      · exact .inl ⟨j, by omega, h2⟩
theorem seen_len_le {c : List Int} : ∀ i, (seenU c i).length ≤ i
  | 0 => by simp [seenU]
  | i + 1 => by
    have := seen_len_le (c := c) i
    simp only [seenU]
    split
    · omega
    · simp; omega
/- Konig: just as many numbers as the degree says. -/
theorem seen_dg {E : List (Int × Int)} {c : List Int} (hp : Prp E c) (hl : c.length = E.length) (hr : ∀ z ∈ c, 0 ≤ z ∧ z < (dg E : Int)) : (seenU c c.length).length = dg E := by
  refine Nat.le_antisymm ?_ ?_
  · refine few (dg E) 0 _ (seen_nodup _) fun x hx => ?_
    obtain ⟨j, h1, h2⟩ := mem_seen.1 hx
    rw [getD_at h1] at h2
    have := hr _ (List.getElem_mem h1)
    omega
  · have key : ∀ (A : Nat → Int) (v : Int), (∀ i k, i < E.length → k < i → A i = A k → adj (eg E i) (eg E k)) → deg A E.length v ≤ (seenU c c.length).length := fun A v hA => by
      have := sub_len (((List.range E.length).filter fun i => decide (A i = v)).map fun i => c.getD i 0) (seenU c c.length) ?_ ?_
      · simpa [deg] using this
      · rw [List.Nodup, List.pairwise_map]
        refine List.Pairwise.imp_of_mem (fun {i j} hi hj hne e => ?_) (List.nodup_range.filter _)
        obtain ⟨h1, h2⟩ := List.mem_filter.1 hi
        obtain ⟨h3, h4⟩ := List.mem_filter.1 hj
        rw [List.mem_range] at h1 h3
        simp only [decide_eq_true_eq] at h2 h4
        have e' : cl c i = cl c j := e
        by_cases hij : j < i
        · exact hp i (by omega) j hij ⟨e', hA i j h1 hij (by rw [h2, h4])⟩
        · exact hp j (by omega) i (by omega) ⟨e'.symm, hA j i h3 (by omega) (by rw [h2, h4])⟩
      · intro x hx
        obtain ⟨i, hi, rfl⟩ := List.mem_map.1 hx
        have := List.mem_range.1 (List.mem_filter.1 hi).1
        exact mem_seen.2 ⟨i, by omega, rfl⟩
    rcases dgU_hit (E := E) 6 with h | ⟨v, _, h | h⟩
    · have : dg E = 0 := h
      omega
    · have e : degA E v = dg E := h
      rw [← e]
      exact key _ _ fun i k _ _ h => .inl h
    · have e : degB E v = dg E := h
      rw [← e]
      exact key _ _ fun i k _ _ h => .inr h
end Go.Pa
namespace Go.Proofs.YtpfkmdbdafpadaaDoor
open Go Go.Abs Go.Pa

end Go.Proofs.YtpfkmdbdafpadaaDoor
