/- Blocks that a function has made, and writes to the newest one. -/
import Derived.Test.YtogfojkjocbahaaSK
set_option linter.unusedVariables false
namespace Go.Abs
open Go

/-- All blocks have numbers below the next. -/
def Hok (h : Hp) : Prop := ∀ x ∈ h.blks, x.1 < h.next

theorem trunc_old {c s n : Nat} : ∀ {bs : List (Nat × Blk)}, (∀ x ∈ bs, x.1 < c) → trunc bs c s n = bs
  | [], _ => rfl
  | (j, b) :: r, h => by
    have hj : Nat.blt j c = true := by have := h (j, b) (by simp); simpa [Nat.blt_eq] using this
    simp only [trunc, hj, cond_true]

theorem write_top {n m off : Nat} {cs vs : List AV} {bs : List (Nat × Blk)} {ls : List (Nat × LoopA)} {base : Nat} {esc : Bool} (hbs : ∀ x ∈ bs, x.1 < n) (hoff : off + vs.length ≤ cs.length) (hc : vs.all AV.isCell = true) (hr : vs.any AV.hasRef = false) :
    Hp.write { next := m, blks := (n, { cells := cs, ch := n, wr := true }) :: bs, loops := ls, base, esc } n off vs = some { next := m, blks := (n, { cells := splice cs off vs, ch := n, wr := true }) :: bs, loops := ls, base, esc } := by
  have h1 : lkB ((n, { cells := cs, ch := n, wr := true }) :: bs) n = some { cells := cs, ch := n, wr := true } := by simp [lkB]
  have h2 : Nat.ble (off + vs.length) cs.length = true := Nat.ble_eq_true_of_le hoff
  have h3 : trunc ((n, { cells := cs, ch := n, wr := true }) :: bs) n n off = (n, { cells := cs, ch := n, wr := true }) :: bs := by
    have : Nat.blt n n = false := by
      cases hb : Nat.blt n n
      · rfl
      · exact absurd (Nat.le_of_ble_eq_true hb) (by omega)
    simp [trunc, this, trunc_old hbs]
  simp only [Hp.write, h1, h2, hc, Bool.and_self, cond_true, h3, hr, Bool.and_false, Bool.or_false, setB, Nat.beq_refl]

theorem splice_ints {k : IntKind} {zs : List Int} {i : Nat} {v : Int} (h : i < zs.length) : splice (ints k zs) i [.int k v] = ints k (zs.set i v) := by
  simp only [splice, ints, List.length_singleton, ← List.map_take, ← List.map_drop]
  rw [List.set_eq_take_append_cons_drop, if_pos h]
  simp

theorem repl_ints {k : IntKind} {z : Int} : ∀ n : Nat, repl [.int k z] n = ints k (List.replicate n z)
  | 0 => rfl
  | n + 1 => by simp [repl, ints, repl_ints n, List.replicate_succ]

theorem IsInts.top {n len : Nat} {cap : Option Nat} {k : IntKind} {zs : List Int} {c : Nat} {w : Bool} {bs : List (Nat × Blk)} (hl : zs.length = len) : IsInts ((n, { cells := ints k zs, ch := c, wr := w }) :: bs) k (.sl n 0 len cap 1) zs :=
  IsInts.sl (b := { cells := ints k zs, ch := c, wr := w }) (by simp [lkB]) hl fun i hi => by
    have : i < zs.length := by omega
    simp [ints, this]

theorem wpOp_mks {C : Spec} {f : Nat → AV} {h : Hp} {z : List AV} {n : Nat} {l c : SX} {K : AV → Hp → Prop} : wpOp C f h (.mks z n l c) K = andT (sMks z n h (int? (sev f l)) (int? (sev f c))) K .mk := (Eq.refl _).trans rfl
theorem int?_int {k : IntKind} {n : Int} : int? (.int k n) = some n := (Eq.refl _).trans rfl
theorem sMks_ok {z : List AV} {n : Nat} {h : Hp} {l c : Nat} (h1 : l ≤ c) (h2 : c ≤ 1048576) : sMks z n h (some (l : Int)) (some (c : Int)) =
    some (.sl h.next 0 l (some c) n, { next := h.next + 1, blks := (h.next, { cells := repl z c, ch := h.next, wr := true }) :: h.blks, loops := h.loops, base := h.base, esc := h.esc }) := by
  have : (0 : Int) ≤ l ∧ (l : Int) ≤ c ∧ (c : Int) ≤ 1048576 := ⟨by omega, by omega, by omega⟩
  simp only [sMks, this, and_self, if_true, Hp.new, Int.toNat_natCast]
theorem wpOp_store {C : Spec} {f : Nat → AV} {h : Hp} {n : Nat} {a x : SX} {K : AV → Hp → Prop} : wpOp C f h (.store n a x) K = andT (sStore n h (sev f x) (sev f a)) K .mk := (Eq.refl _).trans rfl
theorem sStore_int {h : Hp} {k : IntKind} {v : Int} {id off : Nat} : sStore 1 h (.int k v) (.ptr id off) = (h.write id off [.int k v]).map fun h' => (.any, h') := by
  simp [sStore, AV.parts]

def sBS (z : List AV) (len n : Nat) (h : Hp) (ps : List (Nat × AV)) : Option (AV × Hp) :=
  match fillA (fun i => some (i * n, n)) (repl z len) ps with
  | some cs => some (.sl h.next 0 len (some len) n, { next := h.next + 1, blks := (h.next, { cells := cs, ch := h.next, wr := true }) :: h.blks, loops := h.loops, base := h.base, esc := h.esc })
  | none => none

theorem wpOp_buildS {C : Spec} {f : Nat → AV} {h : Hp} {z : List AV} {len n : Nat} {ps : List (Nat × SX)} {K : AV → Hp → Prop} : wpOp C f h (.buildS z len n ps) K = andT (sBS z len n h (ps.map fun p => (p.1, sev f p.2))) K .mk := by
  unfold andT
  simp only [wpOp, sexec, sBS, Hp.new]
  cases fillA (fun i => some (i * n, n)) (repl z len) (ps.map fun p => (p.1, sev f p.2)) <;> rfl

theorem sBS_2 {h : Hp} {k : IntKind} {a b : Int} : sBS [.int k 0] 2 1 h [(0, .int k a), (1, .int k b)] =
    some (.sl h.next 0 2 (some 2) 1, { next := h.next + 1, blks := (h.next, { cells := ints k [a, b], ch := h.next, wr := true }) :: h.blks, loops := h.loops, base := h.base, esc := h.esc }) := (Eq.refl _).trans rfl

/-- A heap with new blocks on top. -/
structure Grown (h h' : Hp) : Prop where
  blks : ∃ new, h'.blks = new ++ h.blks ∧ ∀ x ∈ new, h.next ≤ x.1
  next : h.next ≤ h'.next
  ok : Hok h → Hok h'
  loops : h'.loops = h.loops

theorem Grown.refl {h : Hp} : Grown h h := ⟨⟨[], rfl, by simp⟩, Nat.le_refl _, id, rfl⟩

theorem Grown.trans {a b c : Hp} (h : Grown a b) (h' : Grown b c) : Grown a c := by
  obtain ⟨n1, e1, f1⟩ := h.blks
  obtain ⟨n2, e2, f2⟩ := h'.blks
  refine ⟨⟨n2 ++ n1, by rw [e2, e1, List.append_assoc], fun x hx => ?_⟩, Nat.le_trans h.next h'.next, fun ho => h'.ok (h.ok ho), by rw [h'.loops, h.loops]⟩
  rcases List.mem_append.1 hx with hx | hx
  · exact Nat.le_trans h.next (f2 x hx)
  · exact f1 x hx

theorem Grown.fields {h h' h1 h2 : Hp} (g : Grown h h') (a1 : h1.next = h.next) (a2 : h1.blks = h.blks) (a3 : h1.loops = h.loops) (b1 : h2.next = h'.next) (b2 : h2.blks = h'.blks) (b3 : h2.loops = h'.loops) : Grown h1 h2 := by
  obtain ⟨n1, k1, l1, _, _⟩ := h1
  obtain ⟨n2, k2, l2, _, _⟩ := h2
  simp only at a1 a2 a3 b1 b2 b3
  subst a1 a2 a3 b1 b2 b3
  exact ⟨g.blks, g.next, g.ok, g.loops⟩

theorem Grown.push {h : Hp} {cs : List AV} {c : Nat} {w : Bool} {ba : Nat} {es : Bool} : Grown h { next := h.next + 1, blks := (h.next, { cells := cs, ch := c, wr := w }) :: h.blks, loops := h.loops, base := ba, esc := es } :=
  ⟨⟨[_], rfl, by simp⟩, by simp, fun ho x hx => by
    rcases List.mem_cons.1 hx with rfl | hx
    · simp
    · exact Nat.lt_succ_of_lt (ho x hx), rfl⟩

theorem lkB_app {bs : List (Nat × Blk)} {id : Nat} : ∀ {new : List (Nat × Blk)}, (∀ x ∈ new, x.1 ≠ id) → lkB (new ++ bs) id = lkB bs id
  | [], _ => rfl
  | (j, b) :: r, h => by
    have := h (j, b) (by simp)
    simp only [List.cons_append, lkB, nb this, cond_false]
    exact lkB_app fun x hx => h x (by simp [hx])

theorem Grown.lkB {h h' : Hp} (g : Grown h h') {id : Nat} (hid : id < h.next) : Abs.lkB h'.blks id = Abs.lkB h.blks id := by
  obtain ⟨new, e, f⟩ := g.blks
  rw [e]
  exact lkB_app fun x hx => by have := f x hx; omega

theorem lkB_mem' {bs : List (Nat × Blk)} {id : Nat} {b : Blk} : Abs.lkB bs id = some b → (id, b) ∈ bs := fun h => lkB_mem h

theorem IsInts.grown {h h' : Hp} {k : IntKind} {a : AV} {zs : List Int} (H : IsInts h.blks k a zs) (hok : Hok h) (g : Grown h h') : IsInts h'.blks k a zs :=
  ⟨H.len, fun i hi => by
    obtain ⟨id, off, h1, h2⟩ := H.get i hi
    refine ⟨id, off, h1, ?_⟩
    unfold cellB at h2 ⊢
    cases hb : Abs.lkB h.blks id with
    | none => simp [hb] at h2
    | some b => rw [g.lkB (hok _ (lkB_mem' hb)), ← h2]⟩

end Go.Abs
