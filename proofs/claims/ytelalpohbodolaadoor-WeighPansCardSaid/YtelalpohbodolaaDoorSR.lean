/- Slices by their cells: what is read, and slices of one's own that grow. Regions of free order. -/
import Derived.Test.YtelalpohbodolaaDoorSL
set_option linter.unusedSimpArgs false
set_option linter.unusedVariables false
namespace Go.Abs
open Go

/-- The place of an element, and of an element's field. -/
def cellAt (a : AV) (i : Nat) : AV := match a with
  | .sl id off _ _ sz => .ptr id (off + i * sz)
  | _ => .any
def cellF (a : AV) (i j : Nat) : AV := match a with
  | .sl id off _ _ sz => .ptr id (off + i * sz + j)
  | _ => .any
def cellV (bs : List (Nat × Blk)) (a : AV) (i j : Nat) : Option AV := match a with
  | .sl id off _ _ sz => cellB bs id (off + i * sz + j)
  | _ => none
def aggV (bs : List (Nat × Blk)) (a : AV) (i k : Nat) : Option AV := match a with
  | .sl id off _ _ sz => aggB bs id (off + i * sz) k
  | _ => none

theorem sFa_at {a : AV} {i j : Nat} (ha : ∃ id off len cap sz, a = .sl id off len cap sz) : sFa j (cellAt a i) = some (cellF a i j) := by
  obtain ⟨id, off, len, cap, sz, rfl⟩ := ha
  rfl
theorem sLoad_cell {h : Hp} {a : AV} {i : Nat} : sLoad none h (cellAt a i) = (cellV h.blks a i 0).map fun v => (v, h) := by
  cases a <;> try (simp [cellAt, cellV, sLoad]; done)
  simp only [cellAt, cellV, sLoad_ptr, Nat.add_zero]
theorem sLoad_cellF {h : Hp} {a : AV} {i j : Nat} : sLoad none h (cellF a i j) = (cellV h.blks a i j).map fun v => (v, h) := by
  cases a <;> try (simp [cellF, cellV, sLoad]; done)
  simp only [cellF, cellV, sLoad_ptr]
theorem sLoad_aggAt {h : Hp} {a : AV} {i k : Nat} : sLoad (some k) h (cellAt a i) = (aggV h.blks a i k).map fun v => (v, h) := by
  cases a <;> try (simp [cellAt, aggV, sLoad]; done)
  simp only [cellAt, aggV, sLoad_agg]

def capOK (n : Nat) : Option Nat → Prop
  | none => True
  | some c => n ≤ c

/-- A slice of n elements of sz cells each: the cells. -/
def Arr (bs : List (Nat × Blk)) (sz : Nat) (a : AV) (n : Nat) (cs : List AV) : Prop :=
  cs.length = n * sz ∧ ((n = 0 ∧ (a = .nilsl ∨ a = .esl)) ∨ ∃ id off cap, a = .sl id off n cap sz ∧ capOK n cap ∧ ∀ j, j < n * sz → cellB bs id (off + j) = cs[j]?)

section
variable {bs bs' : List (Nat × Blk)} {sz n : Nat} {a : AV} {cs : List AV}

theorem Arr.nil : Arr bs sz .nilsl 0 [] := ⟨by simp, .inl ⟨rfl, .inl rfl⟩⟩
theorem Arr.esl : Arr bs sz .esl 0 [] := ⟨by simp, .inl ⟨rfl, .inr rfl⟩⟩
theorem Arr.sub (H : Arr bs sz a n cs) (s : Sub bs bs') : Arr bs' sz a n cs := by
  obtain ⟨hl, H | ⟨id, off, cap, rfl, hcap, hc⟩⟩ := H
  · exact ⟨hl, .inl H⟩
  · refine ⟨hl, .inr ⟨id, off, cap, rfl, hcap, fun j hj => ?_⟩⟩
    have := hc j hj
    rw [List.getElem?_eq_getElem (by omega)] at this ⊢
    exact cellB_sub s this
theorem Arr.len (H : Arr bs sz a n cs) : ∀ h, sLen h a = some (.int .i64 n, h) := by
  obtain ⟨_, ⟨rfl, rfl | rfl⟩ | ⟨id, off, cap, rfl, _⟩⟩ := H <;> intro h <;> rfl
theorem Arr.ix (H : Arr bs sz a n cs) {i : Nat} (h : Hp) (hi : i < n) : sIxS sz h (some i) a = some (cellAt a i, h) := by
  obtain ⟨_, ⟨rfl, _⟩ | ⟨id, off, cap, rfl, _⟩⟩ := H
  · omega
  · exact sIxS_sl hi
theorem Arr.fa (H : Arr bs sz a n cs) {i j : Nat} (hi : i < n) : sFa j (cellAt a i) = some (cellF a i j) := by
  obtain ⟨_, ⟨rfl, _⟩ | ⟨id, off, cap, rfl, _⟩⟩ := H
  · omega
  · rfl
theorem Arr.ld (H : Arr bs sz a n cs) (s : Sub bs bs') {i j : Nat} (hi : i < n) (hj : j < sz) : cellV bs' a i j = cs[i * sz + j]? := by
  obtain ⟨hl, ⟨rfl, _⟩ | ⟨id, off, cap, rfl, hcap, hc⟩⟩ := H
  · omega
  · have hb : i * sz + j < n * sz := by
      have := Nat.mul_le_mul_right sz hi
      rw [Nat.succ_mul] at this
      omega
    have := hc (i * sz + j) hb
    simp only [cellV]
    rw [← Nat.add_assoc] at this
    rw [List.getElem?_eq_getElem (by omega)] at this ⊢
    exact cellB_sub s this

theorem slice?_cell {cs : List AV} {off n : Nat} {vs : List AV} (hn : vs.length = n) (h0 : 0 < n) (h : ∀ j, j < n → cs[off + j]? = vs[j]?) : slice? cs off n = some vs := by
  have h1 := h (n - 1) (by omega)
  rw [List.getElem?_eq_getElem (show n - 1 < vs.length by omega)] at h1
  have h2 := (List.getElem?_eq_some_iff.1 h1).1
  simp only [slice?, Nat.ble_eq_true_of_le (show off + n ≤ cs.length by omega), cond_true, Option.some.injEq]
  refine List.ext_getElem? fun i => ?_
  by_cases hi : i < n
  · rw [List.getElem?_take_of_lt hi, List.getElem?_drop, h i hi]
  · rw [List.getElem?_eq_none (by simp; omega), List.getElem?_eq_none (by omega)]

theorem aggB_cell {id off n : Nat} {vs : List AV} (hn : vs.length = n) (h0 : 0 < n) (h : ∀ j, j < n → cellB bs id (off + j) = vs[j]?) : aggB bs id off n = some (.ag vs) := by
  have h1 := h 0 h0
  rw [List.getElem?_eq_getElem (show 0 < vs.length by omega)] at h1
  unfold cellB at h1
  cases hb : lkB bs id with
  | none => simp [hb] at h1
  | some b =>
    have : slice? b.cells off n = some vs := slice?_cell hn h0 fun j hj => by
      have := h j hj
      simpa [cellB, hb] using this
    simp [aggB, hb, this]

theorem Arr.lda (H : Arr bs sz a n cs) (s : Sub bs bs') {i : Nat} (hi : i < n) (h0 : 0 < sz) : aggV bs' a i sz = some (.ag ((cs.drop (i * sz)).take sz)) := by
  have hl := H.1
  have hb : i * sz + sz ≤ n * sz := by
    have := Nat.mul_le_mul_right sz hi
    rw [Nat.succ_mul] at this
    omega
  have hld := fun j (hj : j < sz) => H.ld s hi hj
  obtain ⟨hl, ⟨rfl, _⟩ | ⟨id, off, cap, rfl, hcap, hc⟩⟩ := H
  · omega
  · refine aggB_cell (by simp; omega) h0 fun j hj => ?_
    have := hld j hj
    simp only [cellV] at this
    rw [this, List.getElem?_take_of_lt hj, List.getElem?_drop]

theorem Arr.src (H : Arr bs sz a n cs) (h0 : 0 < sz) : ∀ h : Hp, h.blks = bs → srcCells h sz a = some (cs, n) := by
  obtain ⟨hl, ⟨rfl, rfl | rfl⟩ | ⟨id, off, cap, rfl, hcap, hc⟩⟩ := H
  · have : cs = [] := List.length_eq_zero_iff.1 (by simpa using hl)
    subst this
    exact fun _ _ => rfl
  · have : cs = [] := List.length_eq_zero_iff.1 (by simpa using hl)
    subst this
    exact fun _ _ => rfl
  · intro h e
    subst e
    simp only [srcCells]
    cases n with
    | zero =>
      have : cs = [] := List.length_eq_zero_iff.1 (by simpa using hl)
      subst this
      rfl
    | succ n =>
      have hb : Nat.beq (n + 1) 0 = false := rfl
      have hp : 0 < (n + 1) * sz := Nat.mul_pos (Nat.succ_pos n) h0
      simp only [hb, cond_false]
      have hx := hc 0 hp
      rw [List.getElem?_eq_getElem (by omega)] at hx
      unfold cellB at hx
      cases hd : Abs.lkB h.blks id with
      | none => simp [hd] at hx
      | some b =>
        have : slice? b.cells off ((n + 1) * sz) = some cs := slice?_cell hl hp fun j hj => by
          have := hc j hj
          simpa [cellB, hd] using this
        simp [this]

theorem Arr.refs {m : Nat} {ls : List (Nat × LoopA)} (H : Arr bs sz a n cs) (hk : HokR m bs ls) : refsOK m cs = true := by
  obtain ⟨hl, ⟨rfl, _⟩ | ⟨id, off, cap, rfl, hcap, hc⟩⟩ := H
  · have : cs = [] := List.length_eq_zero_iff.1 (by simpa using hl)
    subst this
    rfl
  · refine refsOK_iff.2 fun x hx => ?_
    obtain ⟨j, hj, rfl⟩ := List.getElem_of_mem hx
    have := hc j (by omega)
    rw [List.getElem?_eq_getElem hj] at this
    unfold cellB at this
    cases hd : Abs.lkB bs id with
    | none => simp [hd] at this
    | some b =>
      simp only [hd, Option.bind_some] at this
      exact refsOK_iff.1 (hk.get hd).2.2 _ (List.mem_of_getElem? this)

/-- The first elements. -/
theorem Arr.pre (H : Arr bs sz a n cs) {m : Nat} {cap : Option Nat} {id off : Nat} (ha : a = .sl id off n cap sz) (hm : m ≤ n) {cap' : Option Nat} (hc' : capOK m cap') : Arr bs sz (.sl id off m cap' sz) m (cs.take (m * sz)) := by
  have hms := Nat.mul_le_mul_right sz hm
  obtain ⟨hl, ⟨rfl, rfl | rfl⟩ | ⟨id', off', cap'', rfl, hcap, hc⟩⟩ := H
  · cases ha
  · cases ha
  · cases ha
    refine ⟨by simp; omega, .inr ⟨_, _, _, rfl, hc', fun j hj => ?_⟩⟩
    rw [hc j (by omega), List.getElem?_take_of_lt hj]

/-- s[:m] -/
theorem Arr.upto (H : Arr bs sz a n cs) {m : Nat} (hm : m ≤ n) (h : Hp) :
    ∃ a', sSl sz h none (some (some m)) a = some (a', h) ∧ Arr bs sz a' m (cs.take (m * sz)) := by
  have H0 := H
  obtain ⟨hl, ⟨rfl, rfl | rfl⟩ | ⟨id, off, cap, rfl, hcap, hc⟩⟩ := H
  · have : m = 0 := by omega
    subst this
    exact ⟨_, rfl, by simpa using Arr.nil⟩
  · have : m = 0 := by omega
    subst this
    exact ⟨_, rfl, by simpa using Arr.esl⟩
  · have hb : Nat.ble 0 m = true := Nat.ble_eq_true_of_le (Nat.zero_le _)
    cases cap with
    | none =>
      simp only [sSl, bndV, hb, Nat.beq_refl, Bool.and_self, cond_true, Nat.ble_eq_true_of_le hm, Nat.zero_mul, Nat.add_zero, Nat.sub_zero]
      cases hn : Nat.blt 0 n
      · have : n = 0 := by
          have : ¬ 0 < n := fun h => by rw [show Nat.blt 0 n = true from by simpa [Nat.blt_eq] using h] at hn; cases hn
          omega
        have hm0 : m = 0 := by omega
        subst hm0
        exact ⟨_, rfl, by simpa using Arr.esl⟩
      · exact ⟨_, rfl, H0.pre rfl hm trivial⟩
    | some c =>
      have k1 : n ≤ c := hcap
      simp only [sSl, bndV, hb, Nat.beq_refl, Bool.and_self, cond_true, Nat.ble_eq_true_of_le (show m ≤ c by omega), Nat.zero_mul, Nat.add_zero, Nat.sub_zero]
      cases hc0 : Nat.beq c 0
      · exact ⟨_, rfl, H0.pre rfl hm (show m ≤ c by omega)⟩
      · have := Nat.eq_of_beq_eq_true hc0
        exact ⟨_, rfl, H0.pre rfl hm (show m ≤ 0 by omega)⟩

theorem Arr.cell (H : Arr bs sz a n cs) : a.parts = some [a] ∧ a.isCell = true := by
  obtain ⟨hl, ⟨rfl, rfl | rfl⟩ | ⟨id, off, cap, rfl, hcap, hc⟩⟩ := H <;> exact ⟨rfl, rfl⟩
end

/- Numbers. -/

theorem ints_len {k : IntKind} {zs : List Int} : (ints k zs).length = zs.length := by simp [ints]
theorem ints_get {k : IntKind} {zs : List Int} {i : Nat} (hi : i < zs.length) : (ints k zs)[i]? = some (.int k (zs.getD i 0)) := by
  simp [ints, List.getElem?_eq_getElem hi]
theorem ints_take {k : IntKind} {zs : List Int} {i : Nat} : (ints k zs).take i = ints k (zs.take i) := by simp [ints]
theorem ints_append {k : IntKind} {xs ys : List Int} : ints k xs ++ ints k ys = ints k (xs ++ ys) := by simp [ints]
theorem all_cell_ints {k : IntKind} {zs : List Int} : (ints k zs).all AV.isCell = true := by simp [ints, AV.isCell]
theorem repl_ints {k : IntKind} {z : Int} : ∀ n : Nat, repl [.int k z] n = ints k (List.replicate n z)
  | 0 => rfl
  | n + 1 => by simp [repl, ints, repl_ints n, List.replicate_succ]

def Ints (bs : List (Nat × Blk)) (k : IntKind) (a : AV) (zs : List Int) : Prop := Arr bs 1 a zs.length (ints k zs)

section
variable {bs bs' : List (Nat × Blk)} {k : IntKind} {a : AV} {zs : List Int}
theorem Ints.nil : Ints bs k .nilsl [] := Arr.nil
theorem Ints.esl : Ints bs k .esl [] := Arr.esl
theorem Ints.sub (H : Ints bs k a zs) (s : Sub bs bs') : Ints bs' k a zs := Arr.sub H s
theorem Ints.len (H : Ints bs k a zs) : ∀ h, sLen h a = some (.int .i64 zs.length, h) := Arr.len H
theorem Ints.ix (H : Ints bs k a zs) {i : Nat} (h : Hp) (hi : i < zs.length) : sIxS 1 h (some i) a = some (cellAt a i, h) := Arr.ix H h hi
theorem Ints.ld (H : Ints bs k a zs) (s : Sub bs bs') {i : Nat} (hi : i < zs.length) : cellV bs' a i 0 = some (.int k (zs.getD i 0)) := by
  rw [Arr.ld H s hi (by omega), Nat.mul_one, Nat.add_zero, ints_get hi]
theorem Ints.upto (H : Ints bs k a zs) {m : Nat} (hm : m ≤ zs.length) (h : Hp) : ∃ a', sSl 1 h none (some (some m)) a = some (a', h) ∧ Ints bs k a' (zs.take m) := by
  obtain ⟨a', e, i⟩ := Arr.upto H hm h
  refine ⟨a', e, ?_⟩
  unfold Ints
  rw [Nat.mul_one, ints_take] at i
  rw [List.length_take, Nat.min_eq_left hm]
  exact i
theorem Ints.top {n len c : Nat} {cap : Option Nat} {w : Bool} (hl : zs.length = len) (hcap : capOK len cap) : Ints ((n, { cells := ints k zs, ch := c, wr := w }) :: bs) k (.sl n 0 len cap 1) zs := by
  subst hl
  exact ⟨by simp [ints_len], .inr ⟨n, 0, cap, rfl, hcap, fun j hj => by rw [cellB_hit, Nat.zero_add]⟩⟩
end

/- Pairs of numbers. -/

def pairs (l : List (Int × Int)) : List AV := l.flatMap fun p => [.int .i64 p.1, .int .i64 p.2]
theorem pairs_len : ∀ {l : List (Int × Int)}, (pairs l).length = l.length * 2
  | [] => rfl
  | p :: r => by
    have := pairs_len (l := r)
    simp only [pairs, List.flatMap_cons, List.length_append, List.length_cons, List.length_nil] at this ⊢
    omega
theorem pairs_cons {p : Int × Int} {r : List (Int × Int)} : pairs (p :: r) = .int .i64 p.1 :: .int .i64 p.2 :: pairs r := by simp [pairs]
theorem pairs_append {l m : List (Int × Int)} : pairs (l ++ m) = pairs l ++ pairs m := by simp [pairs]
theorem pairs_get : ∀ {l : List (Int × Int)} {i : Nat}, i < l.length → (pairs l)[i * 2 + 0]? = some (.int .i64 (l.getD i (0, 0)).1) ∧ (pairs l)[i * 2 + 1]? = some (.int .i64 (l.getD i (0, 0)).2)
  | [], i, h => by simp at h
  | p :: r, 0, _ => by simp [pairs_cons]
  | p :: r, i + 1, h => by
    have := pairs_get (l := r) (i := i) (by simpa using h)
    rw [pairs_cons]
    constructor
    · have e := this.1
      rw [show (i + 1) * 2 + 0 = (i * 2) + 1 + 1 by omega, List.getElem?_cons_succ, List.getElem?_cons_succ]
      rw [Nat.add_zero] at e
      rw [e]; simp
    · rw [show (i + 1) * 2 + 1 = (i * 2 + 1) + 1 + 1 by omega, List.getElem?_cons_succ, List.getElem?_cons_succ, this.2]; simp
theorem pairs_at : ∀ {l : List (Int × Int)} {i : Nat}, i < l.length → ((pairs l).drop (i * 2)).take 2 = [.int .i64 (l.getD i (0, 0)).1, .int .i64 (l.getD i (0, 0)).2]
  | [], i, h => by simp at h
  | p :: r, 0, _ => by simp [pairs_cons]
  | p :: r, i + 1, h => by
    have := pairs_at (l := r) (i := i) (by simpa using h)
    rw [pairs_cons, show (i + 1) * 2 = i * 2 + 1 + 1 by omega, List.drop_succ_cons, List.drop_succ_cons, this]
    simp
theorem pairs_take : ∀ {l : List (Int × Int)} {i : Nat}, (pairs l).take (i * 2) = pairs (l.take i)
  | [], i => by simp [pairs]
  | p :: r, 0 => by simp [pairs]
  | p :: r, i + 1 => by
    rw [pairs_cons, show (i + 1) * 2 = i * 2 + 1 + 1 by omega, List.take_succ_cons, List.take_succ_cons, pairs_take (l := r), List.take_succ_cons, pairs_cons]
theorem all_cell_pairs {l : List (Int × Int)} : (pairs l).all AV.isCell = true := by
  simp only [pairs, List.all_flatMap, List.all_eq_true]
  intro p _ x hx
  simp at hx
  rcases hx with rfl | rfl <;> rfl
theorem refsOK_pairs {n : Nat} {l : List (Int × Int)} : refsOK n (pairs l) = true := refsOK_iff.2 fun a ha => by
  simp only [pairs, List.mem_flatMap] at ha
  obtain ⟨p, _, ha⟩ := ha
  simp at ha
  rcases ha with rfl | rfl <;> rfl

def Pairs (bs : List (Nat × Blk)) (a : AV) (l : List (Int × Int)) : Prop := Arr bs 2 a l.length (pairs l)
section
variable {bs bs' : List (Nat × Blk)} {a : AV} {l : List (Int × Int)}
theorem Pairs.nil : Pairs bs .nilsl [] := Arr.nil
theorem Pairs.esl : Pairs bs .esl [] := Arr.esl
theorem Pairs.sub (H : Pairs bs a l) (s : Sub bs bs') : Pairs bs' a l := Arr.sub H s
theorem Pairs.len (H : Pairs bs a l) : ∀ h, sLen h a = some (.int .i64 l.length, h) := Arr.len H
theorem Pairs.ix (H : Pairs bs a l) {i : Nat} (h : Hp) (hi : i < l.length) : sIxS 2 h (some i) a = some (cellAt a i, h) := Arr.ix H h hi
theorem Pairs.fa (H : Pairs bs a l) {i j : Nat} (hi : i < l.length) : sFa j (cellAt a i) = some (cellF a i j) := Arr.fa H hi
theorem Pairs.ld0 (H : Pairs bs a l) (s : Sub bs bs') {i : Nat} (hi : i < l.length) : cellV bs' a i 0 = some (.int .i64 (l.getD i (0, 0)).1) := by
  rw [Arr.ld H s hi (by omega), (pairs_get hi).1]
theorem Pairs.ld1 (H : Pairs bs a l) (s : Sub bs bs') {i : Nat} (hi : i < l.length) : cellV bs' a i 1 = some (.int .i64 (l.getD i (0, 0)).2) := by
  rw [Arr.ld H s hi (by omega), (pairs_get hi).2]
theorem Pairs.lda (H : Pairs bs a l) (s : Sub bs bs') {i : Nat} (hi : i < l.length) : aggV bs' a i 2 = some (.ag [.int .i64 (l.getD i (0, 0)).1, .int .i64 (l.getD i (0, 0)).2]) := by
  rw [Arr.lda H s hi (by omega), pairs_at hi]
theorem Pairs.upto (H : Pairs bs a l) {m : Nat} (hm : m ≤ l.length) (h : Hp) : ∃ a', sSl 2 h none (some (some m)) a = some (a', h) ∧ Pairs bs a' (l.take m) := by
  obtain ⟨a', e, i⟩ := Arr.upto H hm h
  refine ⟨a', e, ?_⟩
  unfold Pairs
  rw [pairs_take] at i
  rw [List.length_take, Nat.min_eq_left hm]
  exact i
theorem Pairs.top {n len c : Nat} {cap : Option Nat} {w : Bool} (hl : l.length = len) (hcap : capOK len cap) : Pairs ((n, { cells := pairs l, ch := c, wr := w }) :: bs) (.sl n 0 len cap 2) l := by
  subst hl
  exact ⟨by simp [pairs_len], .inr ⟨n, 0, cap, rfl, hcap, fun j hj => by rw [cellB_hit, Nat.zero_add]⟩⟩
end

/- Arrays of two small numbers. -/
def pairs16 (l : List (Int × Int)) : List AV := l.flatMap fun p => [.int .u16 p.1, .int .u16 p.2]
theorem pairs16_cons {p : Int × Int} {r : List (Int × Int)} : pairs16 (p :: r) = .int .u16 p.1 :: .int .u16 p.2 :: pairs16 r := by simp [pairs16]
theorem pairs16_len : ∀ {l : List (Int × Int)}, (pairs16 l).length = l.length * 2
  | [] => rfl
  | p :: r => by
    have := pairs16_len (l := r)
    rw [pairs16_cons]
    simp only [List.length_cons] at this ⊢
    omega
theorem pairs16_get : ∀ {l : List (Int × Int)} {i : Nat}, i < l.length → (pairs16 l)[i * 2]? = some (.int .u16 (l.getD i (0, 0)).1) ∧ (pairs16 l)[i * 2 + 1]? = some (.int .u16 (l.getD i (0, 0)).2)
  | [], i, h => by simp at h
  | p :: r, 0, _ => by simp [pairs16_cons]
  | p :: r, i + 1, h => by
    have := pairs16_get (l := r) (i := i) (by simpa using h)
    rw [pairs16_cons]
    constructor
    · rw [show (i + 1) * 2 = (i * 2) + 1 + 1 by omega, List.getElem?_cons_succ, List.getElem?_cons_succ, this.1]; simp
    · rw [show (i + 1) * 2 + 1 = (i * 2 + 1) + 1 + 1 by omega, List.getElem?_cons_succ, List.getElem?_cons_succ, this.2]; simp
theorem pairs16_take : ∀ {l : List (Int × Int)} {i : Nat}, (pairs16 l).take (i * 2) = pairs16 (l.take i)
  | [], i => by simp [pairs16]
  | p :: r, 0 => by simp [pairs16]
  | p :: r, i + 1 => by
    rw [pairs16_cons, show (i + 1) * 2 = i * 2 + 1 + 1 by omega, List.take_succ_cons, List.take_succ_cons, pairs16_take (l := r), List.take_succ_cons, pairs16_cons]
def Pairs16 (bs : List (Nat × Blk)) (a : AV) (l : List (Int × Int)) : Prop := Arr bs 2 a l.length (pairs16 l)
section
variable {bs bs' : List (Nat × Blk)} {a : AV} {l : List (Int × Int)}
theorem Pairs16.sub (H : Pairs16 bs a l) (s : Sub bs bs') : Pairs16 bs' a l := Arr.sub H s
theorem Pairs16.len (H : Pairs16 bs a l) : ∀ h, sLen h a = some (.int .i64 l.length, h) := Arr.len H
theorem Pairs16.ix (H : Pairs16 bs a l) {i : Nat} (h : Hp) (hi : i < l.length) : sIxS 2 h (some i) a = some (cellAt a i, h) := Arr.ix H h hi
theorem Pairs16.ixA (H : Pairs16 bs a l) {i j : Nat} (h : Hp) (hi : i < l.length) (hj : j < 2) : sIxA 2 1 h (some j) (cellAt a i) = some (cellF a i j, h) := by
  obtain ⟨_, ⟨h0, _⟩ | ⟨id, off, cap, rfl, _⟩⟩ := H
  · omega
  · have : Nat.blt j 2 = true := by simpa [Nat.blt_eq] using hj
    simp only [cellAt, sIxA, this, cond_true, cellF, Nat.mul_one]
theorem Pairs16.ld0 (H : Pairs16 bs a l) (s : Sub bs bs') {i : Nat} (hi : i < l.length) : cellV bs' a i 0 = some (.int .u16 (l.getD i (0, 0)).1) := by
  rw [Arr.ld H s hi (by omega), Nat.add_zero, (pairs16_get hi).1]
theorem Pairs16.ld1 (H : Pairs16 bs a l) (s : Sub bs bs') {i : Nat} (hi : i < l.length) : cellV bs' a i 1 = some (.int .u16 (l.getD i (0, 0)).2) := by
  rw [Arr.ld H s hi (by omega), (pairs16_get hi).2]
end
theorem wpOp_ixA {C : Spec} {f : Nat → AV} {h : Hp} {len n : Nat} {x i : SX} {K : AV → Hp → Prop} : wpOp C f h (.ixA len n x i) K = andT (sIxA len n h (idx? (sev f i)) (sev f x)) K .mk := (Eq.refl _).trans rfl
theorem idx?_lit0 {k : IntKind} : idx? (.int k 0) = some 0 := by simp [idx?]
theorem idx?_lit1 {k : IntKind} : idx? (.int k 1) = some 1 := by simp [idx?]
theorem sBin_rem {c : EqC} {k : IntKind} {a b : Int} (ha : 0 ≤ a) (hb : 0 < b) : sBin .rem c (.int k a) (.int k b) = some (.int k (a % b)) := by
  have : b ≠ 0 := by omega
  simp [sBin, abInt, this, Int.tmod_eq_emod_of_nonneg ha]
theorem sBin_quo {c : EqC} {a b : Int} (ha : 0 ≤ a) (hb : 0 < b) (hm : a ≤ 9223372036854775807) : sBin .quo c (.int .i64 a) (.int .i64 b) = some (.int .i64 (a / b)) := by
  have h0 : b ≠ 0 := by omega
  have h1 : a / b ≤ a := Int.ediv_le_self _ ha
  have h2 : 0 ≤ a / b := Int.ediv_nonneg ha (by omega)
  simp only [sBin, if_true, abInt, h0, if_false, Int.tdiv_eq_ediv_of_nonneg ha, wrap_i64 (show -9223372036854775808 ≤ a / b by omega) (by omega)]

/- Slices of one's own. -/

/-- Empty, or the beginning of a block that was made at c or later. -/
def OwnA (sz c : Nat) (bs : List (Nat × Blk)) (s : AV) (n : Nat) (cs : List AV) : Prop :=
  cs.length = n * sz ∧ ((n = 0 ∧ s = .nilsl) ∨
  (∃ id b cap, s = .sl id 0 n cap sz ∧ lkB bs id = some b ∧ b.cells.take (n * sz) = cs ∧ c ≤ id ∧ c ≤ b.ch ∧ b.wr = true ∧ (match cap with | none => 0 < n ∧ b.cells.length = n * sz | some m => b.cells.length = m * sz ∧ n ≤ m)))

section
variable {sz c n : Nat} {bs bs' : List (Nat × Blk)} {s : AV} {cs : List AV}
theorem OwnA.arr (O : OwnA sz c bs s n cs) : Arr bs sz s n cs := by
  obtain ⟨hl, ⟨rfl, rfl⟩ | ⟨id, b, cap, rfl, h1, h2, h3, h4, h5, h6⟩⟩ := O
  · exact ⟨hl, .inl ⟨rfl, .inl rfl⟩⟩
  · refine ⟨hl, .inr ⟨id, 0, cap, rfl, by cases cap; exact trivial; exact h6.2, fun j hj => ?_⟩⟩
    rw [Nat.zero_add]
    simp only [cellB, h1, Option.bind_some]
    rw [← h2, List.getElem?_take_of_lt hj]
theorem OwnA.ref {m : Nat} {ls : List (Nat × LoopA)} (O : OwnA sz c bs s n cs) (hk : HokR m bs ls) : refOK m s = true := by
  obtain ⟨hl, ⟨rfl, rfl⟩ | ⟨id, b, cap, rfl, h1, h2⟩⟩ := O
  · rfl
  · simp only [refOK, Nat.blt_eq]
    exact (hk.get h1).1
theorem OwnA.sub (O : OwnA sz c bs s n cs) (t : Sub bs bs') : OwnA sz c bs' s n cs := by
  obtain ⟨hl, O | ⟨id, b, cap, h1, h2, h3⟩⟩ := O
  · exact ⟨hl, .inl O⟩
  · exact ⟨hl, .inr ⟨id, b, cap, h1, t _ _ h2, h3⟩⟩
theorem OwnA.nil : OwnA sz c bs .nilsl 0 [] := ⟨by simp, .inl ⟨rfl, rfl⟩⟩
/-- A block just made. -/
theorem OwnA.fresh {m cap : Nat} {cs' : List AV} (hc : c ≤ m) (hl : cs.length = n * sz) (ht : cs'.take (n * sz) = cs) (hn : cs'.length = cap * sz) (hle : n ≤ cap) :
    OwnA sz c ((m, { cells := cs', ch := m, wr := true }) :: bs) (.sl m 0 n (some cap) sz) n cs :=
  ⟨hl, .inr ⟨m, { cells := cs', ch := m, wr := true }, some cap, rfl, lkB_top, ht, hc, hc, rfl, hn, hle⟩⟩
theorem OwnA.le {c' : Nat} (O : OwnA sz c bs s n cs) (h : c' ≤ c) : OwnA sz c' bs s n cs := by
  obtain ⟨hl, O | ⟨id, b, cap, h1, h2, h3, h4, h5, h6⟩⟩ := O
  · exact ⟨hl, .inl O⟩
  · exact ⟨hl, .inr ⟨id, b, cap, h1, h2, h3, by omega, by omega, h6⟩⟩
theorem OwnA.leave {h h1 : Hp} (O : OwnA sz h.next h1.blks s n cs) : (refOK h.next s = true → OwnA sz h.next h.blks s n cs) ∧ (refOK h.next s = false → OwnA sz h.next h1.blks s n cs) := by
  refine ⟨fun r => ?_, fun _ => O⟩
  obtain ⟨hl, ⟨rfl, rfl⟩ | ⟨id, b, cap, rfl, h2, h3, h4, h5⟩⟩ := O
  · exact ⟨hl, .inl ⟨rfl, rfl⟩⟩
  · simp only [refOK, Nat.blt_eq] at r
    omega
end

theorem setB_app {old : List (Nat × Blk)} {id : Nat} {v : Blk} (ho : ∀ x ∈ old, x.1 ≠ id) : ∀ new : List (Nat × Blk), setB (new ++ old) id v = setB new id v ++ old
  | [] => by
    simp only [List.nil_append, setB]
    induction old with
    | nil => rfl
    | cons x r ih =>
      obtain ⟨j, b⟩ := x
      simp only [setB, nb (ho (j, b) (by simp)), cond_false, ih fun x hx => ho x (by simp [hx])]
  | (j, b) :: r => by
    simp only [List.cons_append, setB]
    cases hb : Nat.beq j id
    · simp only [cond_false, setB_app ho r, List.cons_append]
    · simp only [cond_true, List.cons_append]

/-- What a list of blocks and its shortened one have in common. -/
theorem trunc_blk {c s n : Nat} : ∀ {l : List (Nat × Blk)} {x : Nat × Blk}, x ∈ trunc l c s n → ∃ y ∈ l, y.1 = x.1 ∧ x.2.ch = y.2.ch ∧ (∀ a ∈ x.2.cells, a ∈ y.2.cells)
  | [], x, h => by simp [trunc] at h
  | (j, b) :: r, x, h => by
    simp only [trunc] at h
    cases hb : Nat.blt j c
    · simp only [hb, cond_false, List.mem_cons] at h
      rcases h with rfl | h
      · refine ⟨(j, b), by simp, rfl, ?_⟩
        cases (Nat.beq b.ch c && !Nat.beq j s)
        · exact ⟨rfl, fun a ha => ha⟩
        · exact ⟨rfl, fun a ha => List.mem_of_mem_take ha⟩
      · obtain ⟨y, hy, e⟩ := trunc_blk h
        exact ⟨y, by simp [hy], e⟩
    · simp only [hb, cond_true] at h
      exact ⟨x, h, rfl, rfl, fun a ha => ha⟩

theorem HokR.trunc {m c s n : Nat} {bs : List (Nat × Blk)} {ls : List (Nat × LoopA)} (H : HokR m bs ls) : HokR m (Abs.trunc bs c s n) ls :=
  .mk' (fun x hx => by
    obtain ⟨y, hy, e1, e2, e3⟩ := trunc_blk hx
    have := H.blk hy
    exact ⟨by omega, by omega, refsOK_sub this.2.2 e3⟩) fun x hx => H.lps hx

theorem trunc_app {c s n lim : Nat} {old : List (Nat × Blk)} (ho : ∀ x ∈ old, x.1 < lim) (hl : lim ≤ c) : ∀ new : List (Nat × Blk), (∀ x ∈ new, lim ≤ x.1) → ∃ new', trunc (new ++ old) c s n = new' ++ old ∧ (∀ x ∈ new', lim ≤ x.1)
  | [], _ => ⟨[], by simpa using trunc_old (fun x hx => Nat.lt_of_lt_of_le (ho x hx) hl), by simp⟩
  | (j, b) :: r, h => by
    obtain ⟨new', e, h1⟩ := trunc_app (s := s) (n := n) ho hl r fun x hx => h x (by simp [hx])
    simp only [List.cons_append, trunc]
    cases hb : Nat.blt j c
    · refine ⟨_ :: new', by simp only [cond_false, e, List.cons_append]; rfl, fun x hx => ?_⟩
      rcases List.mem_cons.1 hx with rfl | hx
      · exact h (j, b) (by simp)
      · exact h1 x hx
    · exact ⟨(j, b) :: r, by simp, h⟩

theorem splice_take {cs vs : List AV} {n : Nat} (h : n + vs.length ≤ cs.length) : (splice cs n vs).take (n + vs.length) = cs.take n ++ vs := by
  unfold splice
  rw [List.take_append_of_le_length (by simp; omega)]
  exact List.take_of_length_le (by simp; omega)

theorem splice_len {cs vs : List AV} {n : Nat} (h : n + vs.length ≤ cs.length) : (splice cs n vs).length = cs.length := by
  simp [splice]
  omega

theorem splice_mem {cs vs : List AV} {n : Nat} {a : AV} (h : a ∈ splice cs n vs) : a ∈ cs ∨ a ∈ vs := by
  simp only [splice, List.mem_append] at h
  rcases h with (h | h) | h
  · exact .inl (List.mem_of_mem_take h)
  · exact .inr h
  · exact .inl (List.mem_of_mem_drop h)

/-- A write to a block of one's own. -/
theorem own_write {h0 h : Hp} (ho : Hok h0) (g : Grown h0 h) {id off : Nat} {b : Blk} {vs : List AV} (hb : Abs.lkB h.blks id = some b) (hid : h0.next ≤ id) (hch : h0.next ≤ b.ch) (hw : b.wr = true) (hoff : off + vs.length ≤ b.cells.length) (hc : vs.all AV.isCell = true) (hr : refsOK h.next vs = true) :
    ∃ h', h.write id off vs = some h' ∧ Abs.lkB h'.blks id = some { b with cells := splice b.cells off vs } ∧ Grown h0 h' ∧ h'.next = h.next := by
  obtain ⟨new, en, fn⟩ := g.blks
  have hlt : ∀ x ∈ h0.blks, x.1 < h0.next := fun x hx => (ho.blk hx).1
  obtain ⟨new', en', f1⟩ := @trunc_app b.ch id off h0.next h0.blks hlt hch new fn
  have e1 : (b.wr && Nat.ble (off + vs.length) b.cells.length && vs.all AV.isCell) = true := by rw [hw, Nat.ble_eq_true_of_le hoff, hc]; rfl
  have hlk := lkB_trunc_some b.ch id off hb (.inr rfl)
  have hk := g.ok ho
  refine ⟨{ h with blks := setB (trunc h.blks b.ch id off) id { b with cells := splice b.cells off vs }, esc := h.esc || (Nat.blt id h.base && vs.any AV.hasRef) }, by simp only [Hp.write, hb, e1, cond_true], lkB_setB_same _ _ _ _ hlk, ⟨⟨setB new' id { b with cells := splice b.cells off vs }, ?_, fun x hx => ?_⟩, g.next, fun _ => HokR.mk' (fun x hx => ?_) fun x hx => hk.lps hx, g.loops⟩, rfl⟩
  · simp only
    rw [en, en', setB_app fun x hx => by have := hlt x hx; omega]
  · rcases setB_mem hx with hx | ⟨rfl, d, _⟩
    · exact f1 x hx
    · exact hid
  · simp only at hx
    rcases setB_mem hx with hx | ⟨rfl, _⟩
    · exact hk.trunc.blk hx
    · have := hk.get hb
      exact ⟨this.1, this.2.1, refsOK_iff.2 fun a ha => (splice_mem ha).elim (refsOK_iff.1 this.2.2 a) (refsOK_iff.1 hr a)⟩

/-- append to a slice of one's own. -/
theorem own_app {h0 h : Hp} {sz n m : Nat} {s x : AV} {cs xs : List AV} (ho : Hok h0) (g : Grown h0 h) (O : OwnA sz h0.next h.blks s n cs) (hx : Arr h.blks sz x m xs) (h0' : 0 < sz) (hc : xs.all AV.isCell = true) (hl : n + m ≤ 1073741824) :
    ∃ s' h', sApp true sz h s x = some (s', h') ∧ OwnA sz h0.next h'.blks s' (n + m) (cs ++ xs) ∧ Grown h0 h' ∧ (0 < m → s' ≠ .nilsl) := by
  have hsrc := hx.src h0' h rfl
  have hk := g.ok ho
  have hr := hx.refs hk
  have hxl := hx.1
  have hcl := O.1
  simp only [sApp, hsrc]
  cases m with
  | zero =>
    have : xs = [] := List.length_eq_zero_iff.1 (by simpa using hxl)
    subst this
    rw [List.append_nil, Nat.add_zero]
    have O0 := O
    obtain ⟨hl, ⟨rfl, rfl⟩ | ⟨id, b, cap, rfl, h2⟩⟩ := O
    · exact ⟨_, _, rfl, O0, g, fun h => absurd h (by omega)⟩
    · exact ⟨_, _, by simp only [sAppend, Nat.beq_refl, Bool.not_true, cond_false, cond_true], O0, g, fun h => absurd h (by omega)⟩
  | succ m =>
    have nz : Nat.beq (m + 1) 0 = false := rfl
    have hp : 0 < (m + 1) * sz := Nat.mul_pos (Nat.succ_pos m) h0'
    have hlen : (cs ++ xs).length = (n + (m + 1)) * sz := by rw [List.length_append, hxl, hcl, ← Nat.add_mul]
    have mk : ∀ (c : Nat) (bs), h0.next ≤ c → OwnA sz h0.next ((h.next, { cells := cs ++ xs, ch := c, wr := true }) :: bs) (.sl h.next 0 (n + (m + 1)) none sz) (n + (m + 1)) (cs ++ xs) := fun c bs hc =>
      ⟨hlen, .inr ⟨h.next, { cells := cs ++ xs, ch := c, wr := true }, none, rfl, lkB_top, List.take_of_length_le (Nat.le_of_eq hlen), g.next, hc, rfl, by omega, hlen⟩⟩
    obtain ⟨hl', ⟨rfl, rfl⟩ | ⟨id, b, cap, rfl, h2, h3, h4, h5, h6, h7⟩⟩ := O
    · have : cs = [] := List.length_eq_zero_iff.1 (by simpa using hcl)
      subst this
      simp only [Nat.zero_add] at hl
      simp only [sAppend, nz, cond_false, Nat.ble_eq_true_of_le hl, hc, Bool.and_self, cond_true, Hp.new]
      have := mk h.next h.blks g.next
      simp only [List.nil_append, Nat.zero_add] at this ⊢
      exact ⟨_, _, rfl, this, GrownR.push g (refsOK_mono (Nat.le_succ _) hr) (Nat.le_refl _), fun _ e => by cases e⟩
    · have e1 : Nat.ble (n + (m + 1)) 1073741824 = true := Nat.ble_eq_true_of_le hl
      have hcs : refsOK h.next cs = true := by
        rw [← h3]
        exact refsOK_sub (hk.get h2).2.2 fun a ha => List.mem_of_mem_take ha
      cases cap with
      | none =>
        obtain ⟨hne, h7⟩ := h7
        have e2 : Nat.ble (0 + (n + (m + 1)) * sz) b.cells.length = false := by
          rw [h7]
          cases hb : Nat.ble (0 + (n + (m + 1)) * sz) (n * sz)
          · rfl
          · have := Nat.le_of_ble_eq_true hb
            rw [Nat.add_mul] at this
            omega
        have e3 : Nat.ble (n * sz) b.cells.length = true := by rw [h7]; exact Nat.ble_eq_true_of_le (by omega)
        simp only [sAppend, Nat.beq_refl, Bool.not_true, cond_false, nz, e1, hc, Bool.and_self, h2, e2, Bool.and_false, h6, e3, cond_true, h3]
        obtain ⟨new, en, fn⟩ := g.blks
        obtain ⟨new', en', f1⟩ := @trunc_app b.ch h.next (n * sz) h0.next h0.blks (fun x hx => (ho.blk hx).1) (by omega) new fn
        have gt : GrownR h0 h.next (Abs.trunc h.blks b.ch h.next (n * sz)) h.loops := ⟨⟨new', by rw [en, en'], f1⟩, g.next, fun _ => hk.trunc, g.loops⟩
        refine ⟨_, _, rfl, mk _ _ h5, gt.push (refsOK_mono (Nat.le_succ _) (refsOK_append hcs hr)) (by have := hk.get h2; omega), fun _ e => by cases e⟩
      | some k =>
        obtain ⟨h7, h8⟩ := h7
        simp only [sAppend, Nat.beq_refl, Bool.not_true, cond_false, nz, e1, hc, Bool.and_self, h2]
        have hnk : n * sz ≤ k * sz := Nat.mul_le_mul_right sz h8
        cases hf : Nat.ble (n + (m + 1)) k
        · have e3 : slice? b.cells 0 (n * sz) = some cs := by
            simp only [slice?, Nat.ble_eq_true_of_le (show 0 + n * sz ≤ b.cells.length by omega), cond_true, List.drop_zero, h3]
          simp only [cond_false, e3, Hp.new]
          exact ⟨_, _, rfl, mk _ _ g.next, GrownR.push g (refsOK_mono (Nat.le_succ _) (refsOK_append hcs hr)) (Nat.le_refl _), fun _ e => by cases e⟩
        · have hfit := Nat.le_of_ble_eq_true hf
          have hfs : (n + (m + 1)) * sz ≤ k * sz := Nat.mul_le_mul_right sz hfit
          have hle : 0 + n * sz + xs.length ≤ b.cells.length := by rw [hxl, h7]; rw [Nat.add_mul] at hfs; omega
          obtain ⟨h', w1, w2, w3, w4⟩ := own_write ho g h2 h4 h5 h6 hle hc hr
          simp only [cond_true, w1, Option.map_some]
          refine ⟨_, _, rfl, ⟨hlen, .inr ⟨id, _, some k, rfl, w2, ?_, h4, h5, h6, ?_, hfit⟩⟩, w3, fun _ e => by cases e⟩
          · rw [Nat.zero_add, Nat.add_mul, ← hxl]
            simp only
            rw [splice_take (by omega), h3]
          · simp only
            rw [splice_len hle]
            exact h7

/-- A write to an element of a slice of one's own. -/
theorem own_set {h0 h : Hp} {sz n i : Nat} {s v : AV} {cs vs : List AV} (ho : Hok h0) (g : Grown h0 h) (O : OwnA sz h0.next h.blks s n cs) (hi : i < n) (hv : v.parts = some vs) (hvl : vs.length = sz) (hc : vs.all AV.isCell = true) (hr : refsOK h.next vs = true) :
    ∃ h', sStore sz h v (cellAt s i) = some (.any, h') ∧ OwnA sz h0.next h'.blks s n (splice cs (i * sz) vs) ∧ Grown h0 h' := by
  have hcl := O.1
  have hb : i * sz + sz ≤ n * sz := by
    have := Nat.mul_le_mul_right sz hi
    rw [Nat.succ_mul] at this
    omega
  obtain ⟨hl, ⟨rfl, rfl⟩ | ⟨id, b, cap, rfl, h2, h3, h4, h5, h6, h7⟩⟩ := O
  · omega
  · have hlen : n * sz ≤ b.cells.length := by
      have := congrArg List.length h3
      simp only [List.length_take] at this
      omega
    obtain ⟨h', w1, w2, w3, w4⟩ := own_write (off := 0 + i * sz) (vs := vs) ho g h2 h4 h5 h6 (by omega) hc hr
    have hs : sStore sz h v (cellAt (.sl id 0 n cap sz) i) = some (.any, h') := by
      simp only [cellAt, sStore, hv, hvl, Nat.beq_refl, cond_true, w1, Option.map_some]
    refine ⟨h', hs, ⟨by rw [splice_len (by omega)]; exact hl, .inr ⟨id, _, cap, rfl, w2, ?_, h4, h5, h6, ?_⟩⟩, w3⟩
    · simp only [Nat.zero_add, splice]
      rw [← h3]
      rw [List.take_append, List.take_append, List.take_take, List.take_take, List.take_of_length_le (show vs.length ≤ n * sz - (b.cells.take (i * sz)).length by simp; omega)]
      congr 1
      · congr 1
        congr 1
        omega
      · rw [List.drop_take]
        congr 1
        simp
        omega
    · have hl2 : (splice b.cells (0 + i * sz) vs).length = b.cells.length := splice_len (by omega)
      cases cap with
      | none => exact ⟨h7.1, by simp only [hl2]; exact h7.2⟩
      | some k => exact ⟨by simp only [hl2]; exact h7.1, h7.2⟩

/- Numbers of one's own. -/
def Own (c : Nat) (bs : List (Nat × Blk)) (k : IntKind) (s : AV) (zs : List Int) : Prop := OwnA 1 c bs s zs.length (ints k zs)
section
variable {c : Nat} {bs bs' : List (Nat × Blk)} {k : IntKind} {s : AV} {zs : List Int}
theorem Own.ints (O : Own c bs k s zs) : Ints bs k s zs := OwnA.arr O
theorem Own.len (O : Own c bs k s zs) : ∀ h, sLen h s = some (.int .i64 zs.length, h) := O.ints.len
theorem Own.sub (O : Own c bs k s zs) (t : Sub bs bs') : Own c bs' k s zs := OwnA.sub O t
theorem Own.nil : Own c bs k .nilsl [] := OwnA.nil
theorem Own.ref {m : Nat} {ls : List (Nat × LoopA)} (O : Own c bs k s zs) (hk : HokR m bs ls) : refOK m s = true := OwnA.ref O hk
theorem Own.leave {h h1 : Hp} (O : Own h.next h1.blks k s zs) : (refOK h.next s = true → Own h.next h.blks k s zs) ∧ (refOK h.next s = false → Own h.next h1.blks k s zs) := OwnA.leave O
theorem Own.le {c' : Nat} (O : Own c bs k s zs) (h : c' ≤ c) : Own c' bs k s zs := OwnA.le O h
theorem Own.fresh {n len cap : Nat} {cs : List AV} (hc : c ≤ n) (hl : zs.length = len) (ht : cs.take len = Abs.ints k zs) (hn : cs.length = cap) (hle : len ≤ cap) :
    Own c ((n, { cells := cs, ch := n, wr := true }) :: bs) k (.sl n 0 len (some cap) 1) zs := by
  subst hl
  exact OwnA.fresh hc (by simp [ints_len]) (by rw [Nat.mul_one]; exact ht) (by omega) hle
end

theorem own_appI {h0 h : Hp} {k : IntKind} {s x : AV} {zs xs : List Int} (ho : Hok h0) (g : Grown h0 h) (O : Own h0.next h.blks k s zs) (hx : Ints h.blks k x xs) (hl : zs.length + xs.length ≤ 1073741824) :
    ∃ s' h', sApp true 1 h s x = some (s', h') ∧ Own h0.next h'.blks k s' (zs ++ xs) ∧ Grown h0 h' ∧ (0 < xs.length → s' ≠ .nilsl) := by
  obtain ⟨s', h', e, o, g', n⟩ := own_app ho g O hx (by omega) all_cell_ints hl
  refine ⟨s', h', e, ?_, g', n⟩
  unfold Own
  rw [List.length_append, ← ints_append]
  exact o

/-- append of one number. -/
theorem own_app1 {h0 h : Hp} {k : IntKind} {s : AV} {zs : List Int} {v : Int} (ho : Hok h0) (g : Grown h0 h) (O : Own h0.next h.blks k s zs) (hl : zs.length + 1 ≤ 1073741824) :
    ∃ s' h', sApp true 1 { next := h.next + 1, blks := (h.next, { cells := Abs.ints k [v], ch := h.next, wr := true }) :: h.blks, loops := h.loops, base := h.base, esc := h.esc } s (.sl h.next 0 1 (some 1) 1) = some (s', h') ∧
      Own h0.next h'.blks k s' (zs ++ [v]) ∧ Grown h0 h' ∧ s' ≠ .nilsl := by
  have g1 : Grown h0 { next := h.next + 1, blks := (h.next, { cells := Abs.ints k [v], ch := h.next, wr := true }) :: h.blks, loops := h.loops, base := h.base, esc := h.esc } := GrownR.push g refsOK_ints (Nat.le_refl _)
  obtain ⟨s', h', e, o, g', n⟩ := own_appI (x := .sl h.next 0 1 (some 1) 1) (xs := [v]) ho g1 (O.sub (Sub.push (Sub.refl _) (HokR.fresh (g.ok ho)))) (Ints.top rfl (Nat.le_refl 1)) (by simpa using hl)
  exact ⟨s', h', e, o, g', n (by simp)⟩

theorem own_setI {h0 h : Hp} {k : IntKind} {s : AV} {zs : List Int} {i : Nat} {v : Int} (ho : Hok h0) (g : Grown h0 h) (O : Own h0.next h.blks k s zs) (hi : i < zs.length) :
    ∃ h', sStore 1 h (.int k v) (cellAt s i) = some (.any, h') ∧ Own h0.next h'.blks k s (zs.set i v) ∧ Grown h0 h' := by
  obtain ⟨h', e, o, g'⟩ := own_set (v := .int k v) (vs := [.int k v]) ho g O hi rfl rfl rfl rfl
  refine ⟨h', e, ?_, g'⟩
  unfold Own
  have : splice (Abs.ints k zs) (i * 1) [.int k v] = Abs.ints k (zs.set i v) := by
    rw [Nat.mul_one]
    simp only [splice, Abs.ints, List.length_singleton, ← List.map_take, ← List.map_drop]
    rw [List.set_eq_take_append_cons_drop, if_pos hi]
    simp
  rw [List.length_set, ← this]
  exact o

/- Pairs of one's own. -/
def OwnP (c : Nat) (bs : List (Nat × Blk)) (s : AV) (l : List (Int × Int)) : Prop := OwnA 2 c bs s l.length (pairs l)
section
variable {c : Nat} {bs bs' : List (Nat × Blk)} {s : AV} {l : List (Int × Int)}
theorem OwnP.pairs (O : OwnP c bs s l) : Pairs bs s l := OwnA.arr O
theorem OwnP.sub (O : OwnP c bs s l) (t : Sub bs bs') : OwnP c bs' s l := OwnA.sub O t
theorem OwnP.nil : OwnP c bs .nilsl [] := OwnA.nil
theorem OwnP.ref {m : Nat} {ls : List (Nat × LoopA)} (O : OwnP c bs s l) (hk : HokR m bs ls) : refOK m s = true := OwnA.ref O hk
theorem OwnP.leave {h h1 : Hp} (O : OwnP h.next h1.blks s l) : (refOK h.next s = true → OwnP h.next h.blks s l) ∧ (refOK h.next s = false → OwnP h.next h1.blks s l) := OwnA.leave O
theorem OwnP.le {c' : Nat} (O : OwnP c bs s l) (h : c' ≤ c) : OwnP c' bs s l := OwnA.le O h
theorem OwnP.fresh {n len cap : Nat} {cs : List AV} (hc : c ≤ n) (hl : l.length = len) (ht : cs.take (len * 2) = Abs.pairs l) (hn : cs.length = cap * 2) (hle : len ≤ cap) :
    OwnP c ((n, { cells := cs, ch := n, wr := true }) :: bs) (.sl n 0 len (some cap) 2) l := by
  subst hl
  exact OwnA.fresh hc pairs_len ht hn hle
end

theorem own_appP {h0 h : Hp} {s x : AV} {l m : List (Int × Int)} (ho : Hok h0) (g : Grown h0 h) (O : OwnP h0.next h.blks s l) (hx : Pairs h.blks x m) (hl : l.length + m.length ≤ 1073741824) :
    ∃ s' h', sApp true 2 h s x = some (s', h') ∧ OwnP h0.next h'.blks s' (l ++ m) ∧ Grown h0 h' ∧ (0 < m.length → s' ≠ .nilsl) := by
  obtain ⟨s', h', e, o, g', n⟩ := own_app ho g O hx (by omega) all_cell_pairs hl
  refine ⟨s', h', e, ?_, g', n⟩
  unfold OwnP
  rw [List.length_append, pairs_append]
  exact o

theorem own_appP1 {h0 h : Hp} {s : AV} {l : List (Int × Int)} {a b : Int} (ho : Hok h0) (g : Grown h0 h) (O : OwnP h0.next h.blks s l) (hl : l.length + 1 ≤ 1073741824) :
    ∃ s' h', sApp true 2 { next := h.next + 1, blks := (h.next, { cells := [.int .i64 a, .int .i64 b], ch := h.next, wr := true }) :: h.blks, loops := h.loops, base := h.base, esc := h.esc } s (.sl h.next 0 1 (some 1) 2) = some (s', h') ∧
      OwnP h0.next h'.blks s' (l ++ [(a, b)]) ∧ Grown h0 h' ∧ s' ≠ .nilsl := by
  have g1 : Grown h0 { next := h.next + 1, blks := (h.next, { cells := [.int .i64 a, .int .i64 b], ch := h.next, wr := true }) :: h.blks, loops := h.loops, base := h.base, esc := h.esc } := GrownR.push g rfl (Nat.le_refl _)
  have hx : Pairs ((h.next, { cells := [.int .i64 a, .int .i64 b], ch := h.next, wr := true }) :: h.blks) (.sl h.next 0 1 (some 1) 2) [(a, b)] := by
    have := Pairs.top (bs := h.blks) (n := h.next) (len := 1) (c := h.next) (cap := some 1) (w := true) (l := [(a, b)]) rfl (Nat.le_refl 1)
    rwa [show pairs [(a, b)] = [.int .i64 a, .int .i64 b] from rfl] at this
  obtain ⟨s', h', e, o, g', n⟩ := own_appP (x := .sl h.next 0 1 (some 1) 2) (m := [(a, b)]) ho g1 (O.sub (Sub.push (Sub.refl _) (HokR.fresh (g.ok ho)))) hx (by simpa using hl)
  exact ⟨s', h', e, o, g', n (by simp)⟩

/- Regions of free order. -/
section
variable {C : Spec} {fr tm : Fr} {h : Hp} {Q : Ex → St → Prop}
theorem wp_draw {l : List DOper} {cl ks : List Nat} : wp C (.draw l cl ks) { fr, hp := h } Q = wpTrace C fr l [] h fun rs tm h => ((sEffs rs 0).isEmpty || sReads noCall fr cl (sEffs rs 0 ++ [(l.length, h)]) rs 0) = true ∧ Q .normal { fr := commitS ks tm fr, hp := h } := (Eq.refl _).trans rfl
theorem wpTrace_nil {Q : List SRec → Fr → Hp → Prop} : wpTrace C fr [] tm h Q = Q [] tm h := (Eq.refl _).trans rfl
theorem wpTrace_cons {d : Option Nat} {g : Option (Nat × Bool)} {o : SOp} {rd eff : Bool} {r : List DOper} {Q : List SRec → Fr → Hp → Prop} : wpTrace C fr (⟨⟨d, g, o⟩, rd, eff⟩ :: r) tm h Q =
    wpG (look tm fr) g
      (wpOp C (look tm fr) h o fun v h' => wpTrace C fr r (sput d v tm) h' fun rs => Q ({ op := o, rd, eff, w := true, v, tm, h } :: rs))
      (wpTrace C fr r (sput d (.tu []) tm) h fun rs => Q ({ op := o, rd, eff, w := false, v := .tu [], tm, h } :: rs)) := (Eq.refl _).trans rfl
theorem sEffs_n {i : Nat} : sEffs [] i = [] := (Eq.refl _).trans rfl
theorem sEffs_t {r : List SRec} {i : Nat} {op : SOp} {rd w : Bool} {v : AV} : sEffs ({ op, rd, eff := true, w, v, tm, h } :: r) i = (i, h) :: sEffs r (i + 1) := (Eq.refl _).trans rfl
theorem sEffs_f {r : List SRec} {i : Nat} {op : SOp} {rd w : Bool} {v : AV} : sEffs ({ op, rd, eff := false, w, v, tm, h } :: r) i = sEffs r (i + 1) := (Eq.refl _).trans rfl
theorem sReads_n {call : CallF} {cl : List Nat} {hs : List (Nat × Hp)} {i : Nat} : sReads call fr cl hs [] i = true := (Eq.refl _).trans rfl
theorem sReads_f {call : CallF} {cl : List Nat} {hs : List (Nat × Hp)} {i : Nat} {r : List SRec} {op : SOp} {eff w : Bool} {v : AV} : sReads call fr cl hs ({ op, rd := false, eff, w, v, tm, h } :: r) i = sReads call fr cl hs r (i + 1) := by
  simp [sReads]
theorem sReads_w {call : CallF} {cl : List Nat} {hs : List (Nat × Hp)} {i : Nat} {r : List SRec} {op : SOp} {rd eff : Bool} {v : AV} : sReads call fr cl hs ({ op, rd, eff, w := false, v, tm, h } :: r) i = sReads call fr cl hs r (i + 1) := by
  simp [sReads]
/-- What an operation reads at a heap. -/
def sAgain (call : CallF) (f : Nat → AV) (op : SOp) (v : AV) (b : Nat) (x : Nat × Hp) : Prop := Nat.testBit b x.1 = true ∨ ∃ h', sexec call f x.2 op = some (v, h')
mutual
theorem AV.beq_refl : ∀ a : AV, AV.beq a a = true
  | .any => rfl
  | .bool x => by simp [AV.beq]
  | .int k n => by simp [AV.beq]
  | .str l => by simp [AV.beq]
  | .ptr i o => by simp [AV.beq]
  | .nilptr => rfl
  | .sl i o l c s => by simp [AV.beq]
  | .nilsl => rfl
  | .esl => rfl
  | .mp i => by simp [AV.beq]
  | .nilmp => rfl
  | .fn f a c => by simp [AV.beq, AV.beqs_refl a, AV.beqs_refl c]
  | .yld i => by simp [AV.beq]
  | .nilfn => rfl
  | .ifc t v => by simp [AV.beq, AV.beq_refl v]
  | .nilifc => rfl
  | .ag l => by simp [AV.beq, AV.beqs_refl l]
  | .tu l => by simp [AV.beq, AV.beqs_refl l]
theorem AV.beqs_refl : ∀ a : List AV, AV.beqs a a = true
  | [] => rfl
  | a :: r => by simp [AV.beqs, AV.beq_refl a, AV.beqs_refl r]
end
/-- Does an operation read the same again? -/
def chk (o : Option (AV × Hp)) (v : AV) : Bool := match o with
  | some (v', _) => AV.beq v' v
  | none => false
theorem chk_some {v v' : AV} {h : Hp} : chk (some (v', h)) v = AV.beq v' v := (Eq.refl _).trans rfl
theorem sReads_t {call : CallF} {cl : List Nat} {hs : List (Nat × Hp)} {i : Nat} {r : List SRec} {op : SOp} {eff : Bool} {v : AV} :
    sReads call fr cl hs ({ op, rd := true, eff, w := true, v, tm, h } :: r) i = ((hs.all fun x => rdSkip cl (hs.map (·.1)) i x.1 || chk (sexec call (look tm fr) x.2 op) v) && sReads call fr cl hs r (i + 1)) := by
  have : (fun (x : Nat × Hp) => rdSkip cl (hs.map (·.1)) i x.1 || chk (sexec call (look tm fr) x.2 op) v) = fun (j, h) => rdSkip cl (hs.map (·.1)) i j || match sexec call (look tm fr) h op with
      | some (v', _) => AV.beq v' v
      | none => false := by
    funext ⟨j, h⟩
    rfl
  simp only [sReads, this, Bool.and_self, Bool.not_true, Bool.false_or]
  rfl
theorem skip_t {cl ds : List Nat} {i j : Nat} {b : Bool} (h : rdSkip cl ds i j = true) : (rdSkip cl ds i j || b) = true := by rw [h]; rfl
theorem skip_f {cl ds : List Nat} {i j : Nat} {b : Bool} (h : rdSkip cl ds i j = false) : (rdSkip cl ds i j || b) = b := by rw [h]; rfl
theorem wrap_u64 {n : Int} (h1 : 0 ≤ n) (h2 : n ≤ 9223372036854775807) : IntKind.wrap .u64 n = n := by
  simp only [IntKind.wrap, IntKind.bits, IntKind.signed]
  simp
  omega
theorem sBin_shr1 {c : EqC} {k : IntKind} {a : Int} (h : 0 ≤ a) : sBin .shr c (.int k a) (.int .u64 1) = some (.int k (a / 2)) := by
  have hb : min (1 : Int).toNat k.bits = 1 := by cases k <;> rfl
  simp only [sBin, abShift, hb]
  rw [if_neg (by omega), Int.fdiv_eq_ediv_of_nonneg _ (by omega)]
  rfl
theorem sexec_load {call : CallF} {f : Nat → AV} {k : Option Nat} {x : SX} : sexec call f h (.load k x) = sLoad k h (sev f x) := (Eq.refl _).trans rfl
theorem sexec_lenS {call : CallF} {f : Nat → AV} {x : SX} : sexec call f h (.lenS x) = sLen h (sev f x) := (Eq.refl _).trans rfl
end

/-- The code is cut in two: between both parts M holds. -/
def cutEx (M : St → Prop) (Q : Ex → St → Prop) : Ex → St → Prop
  | .normal, s => M s
  | .exit i, s => Q (.exit i) s
  | .ret, s => Q .ret s
section
variable {M : St → Prop} {Q : Ex → St → Prop} {s : St}
theorem cutEx_n : cutEx M Q .normal s = M s := (Eq.refl _).trans rfl
theorem cutEx_r : cutEx M Q .ret s = Q .ret s := (Eq.refl _).trans rfl
theorem cutEx_e {i : Nat} : cutEx M Q (.exit i) s = Q (.exit i) s := (Eq.refl _).trans rfl
theorem wcut {C : Spec} {a b : SC} (M : St → Prop) (H1 : wp C a s (cutEx M Q)) (H2 : ∀ s', M s' → wp C b s' Q) : wp C (.seq a b) s Q := by
  rw [wp_seq]
  refine wp_mono (fun e s' He => ?_) H1
  cases e with
  | normal => exact H2 s' He
  | exit i => exact He
  | ret => exact He
end
end Go.Abs
