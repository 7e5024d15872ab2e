/- Cells by name; calls that leave the heap. Slices that a function makes and appends to. Several slices of one's own: appending to one leaves the others. -/
import Derived.Test.YtogfojkjocbahaaSL
set_option linter.unusedSimpArgs false
set_option linter.unusedVariables false
namespace Go.Abs
open Go

/-- The place of an element. -/
def cellAt (a : AV) (i : Nat) : AV := match a with
  | .sl id off _ _ sz => .ptr id (off + i * sz)
  | _ => .any

def cellV (bs : List (Nat × Blk)) (a : AV) (i : Nat) : Option AV := match cellAt a i with
  | .ptr id off => cellB bs id off
  | _ => none

theorem sIxS_at {n : Nat} {h h' : Hp} {i : Nat} {a v : AV} (e : sIxS n h (some i) a = some (v, h')) (hz : ∀ id off len cap sz, a = .sl id off len cap sz → sz = n) : v = cellAt a i := by
  cases a <;> simp only [sIxS] at e <;> try (cases e; done)
  rename_i id off len cap sz
  cases hb : Nat.blt i len <;> rw [hb] at e <;> simp only [cond_true, cond_false] at e <;> cases e
  simp only [cellAt, hz id off len cap sz rfl]

theorem sLoad_cell {h : Hp} {a : AV} {i : Nat} : sLoad none h (cellAt a i) = (cellV h.blks a i).map fun v => (v, h) := by
  cases a <;> try (simp [cellAt, cellV, sLoad]; done)
  simp only [cellAt, cellV, sLoad_ptr]

theorem sStore_cell {n : Nat} {h : Hp} {v : AV} {id off len sz i : Nat} {cap : Option Nat} : sStore n h v (cellAt (.sl id off len cap sz) i) = sStore n h v (.ptr id (off + i * sz)) := (Eq.refl _).trans rfl

def Ints (bs : List (Nat × Blk)) (k : IntKind) (a : AV) (zs : List Int) : Prop :=
  (a = .nilsl ∧ zs = []) ∨ (a = .esl ∧ zs = []) ∨ ∃ id off cap, a = .sl id off zs.length cap 1 ∧ ∀ i, i < zs.length → cellB bs id (off + i) = some (.int k (zs.getD i 0))

section
variable {bs : List (Nat × Blk)} {k : IntKind} {a : AV} {zs : List Int}

theorem Ints.nil : Ints bs k .nilsl [] := .inl ⟨rfl, rfl⟩
theorem Ints.esl : Ints bs k .esl [] := .inr (.inl ⟨rfl, rfl⟩)
theorem Ints.sl {id off len : Nat} {cap : Option Nat} (hl : zs.length = len) (hc : ∀ i, i < len → cellB bs id (off + i) = some (.int k (zs.getD i 0))) : Ints bs k (.sl id off len cap 1) zs := by
  subst hl
  exact .inr (.inr ⟨id, off, cap, rfl, hc⟩)

theorem Ints.len (H : Ints bs k a zs) : ∀ h, sLen h a = some (.int .i64 zs.length, h) := by
  rcases H with ⟨rfl, rfl⟩ | ⟨rfl, rfl⟩ | ⟨id, off, cap, rfl, _⟩ <;> intro h <;> rfl

theorem Ints.ix (H : Ints bs k a zs) {i : Nat} (h : Hp) (hi : i < zs.length) : sIxS 1 h (some i) a = some (cellAt a i, h) := by
  rcases H with ⟨rfl, rfl⟩ | ⟨rfl, rfl⟩ | ⟨id, off, cap, rfl, _⟩
  · simp at hi
  · simp at hi
  · exact sIxS_sl hi

theorem Ints.ld (H : Ints bs k a zs) {i : Nat} (hi : i < zs.length) : cellV bs a i = some (.int k (zs.getD i 0)) := by
  rcases H with ⟨rfl, rfl⟩ | ⟨rfl, rfl⟩ | ⟨id, off, cap, rfl, hc⟩
  · simp at hi
  · simp at hi
  · simp only [cellV, cellAt, Nat.mul_one]
    exact hc i hi

theorem Ints.src (H : Ints bs k a zs) : ∀ h : Hp, h.blks = bs → srcCells h 1 a = some (ints k zs, zs.length) := by
  rcases H with ⟨rfl, rfl⟩ | ⟨rfl, rfl⟩ | ⟨id, off, cap, rfl, hc⟩
  · exact fun _ _ => rfl
  · exact fun _ _ => rfl
  · intro h e
    subst e
    simp only [srcCells]
    cases zs with
    | nil => rfl
    | cons z r =>
      have hb : Nat.beq (z :: r).length 0 = false := (Eq.refl _).trans rfl
      simp only [hb, cond_false, Nat.mul_one]
      have h0 := hc 0 (by simp)
      unfold cellB at h0
      cases hd : Abs.lkB h.blks id with
      | none => simp [hd] at h0
      | some b =>
        have hg : ∀ i, i < (z :: r).length → b.cells[off + i]? = some (.int k ((z :: r).getD i 0)) := fun i hi => by
          have := hc i hi
          simpa [cellB, hd] using this
        have hle : off + (z :: r).length ≤ b.cells.length := by
          have := (List.getElem?_eq_some_iff.1 (hg r.length (by simp))).1
          simp only [List.length_cons]
          omega
        simp only [slice?, Nat.ble_eq_true_of_le hle, cond_true, Option.map_some, Option.some.injEq, Prod.mk.injEq, and_true]
        refine List.ext_getElem? fun i => ?_
        by_cases hi : i < (z :: r).length
        · rw [List.getElem?_take_of_lt hi, List.getElem?_drop, hg i hi, ints, List.getElem?_map, List.getElem?_eq_getElem hi, List.getD_eq_getElem?_getD, List.getElem?_eq_getElem hi]
          rfl
        · rw [List.getElem?_eq_none (by simp only [List.length_take, List.length_drop]; omega), List.getElem?_eq_none (by simp only [ints, List.length_map]; omega)]

theorem Ints.old (H : Ints bs k a zs) : IsInts bs k a zs := by
  rcases H with ⟨rfl, rfl⟩ | ⟨rfl, rfl⟩ | ⟨id, off, cap, rfl, hc⟩
  · exact IsInts.nil
  · exact IsInts.esl
  · exact ⟨fun _ => rfl, fun i hi => ⟨id, off + i * 1, fun h => sIxS_sl hi, by rw [Nat.mul_one]; exact hc i hi⟩⟩

theorem Ints.of_old (H : IsInts bs k a zs) (hz : ∀ id off len cap sz, a = .sl id off len cap sz → sz = 1) : Ints bs k a zs := by
  have h0 := H.len ⟨0, [], [], 0, false⟩
  cases a <;> try (simp only [sLen] at h0; cases h0; done)
  case nilsl =>
    simp only [sLen, Option.some.injEq, Prod.mk.injEq, AV.int.injEq, true_and, and_true] at h0
    have : zs = [] := List.length_eq_zero_iff.1 (by omega)
    subst this
    exact Ints.nil
  case esl =>
    simp only [sLen, Option.some.injEq, Prod.mk.injEq, AV.int.injEq, true_and, and_true] at h0
    have : zs = [] := List.length_eq_zero_iff.1 (by omega)
    subst this
    exact Ints.esl
  case sl id off len cap sz =>
    have := hz _ _ _ _ _ rfl
    subst this
    simp only [sLen, Option.some.injEq, Prod.mk.injEq, AV.int.injEq, true_and, and_true] at h0
    have hl : zs.length = len := by omega
    refine Ints.sl hl fun i hi => ?_
    obtain ⟨id', off', h1, h2⟩ := H.get i (by omega)
    have := sIxS_at (h1 ⟨0, [], [], 0, false⟩) hz
    simp only [cellAt, AV.ptr.injEq, Nat.mul_one] at this
    obtain ⟨rfl, rfl⟩ := this
    exact h2

theorem Ints.top {n len : Nat} {cap : Option Nat} {c : Nat} {w : Bool} (hl : zs.length = len) : Ints ((n, { cells := ints k zs, ch := c, wr := w }) :: bs) k (.sl n 0 len cap 1) zs :=
  Ints.of_old (IsInts.top hl) fun _ _ _ _ _ e => by cases e; rfl

theorem Ints.mono {bs' : List (Nat × Blk)} (H : Ints bs k a zs) (hm : ∀ id off v, cellB bs id off = some v → cellB bs' id off = some v) : Ints bs' k a zs := by
  rcases H with h | h | ⟨id, off, cap, rfl, hc⟩
  · exact .inl h
  · exact .inr (.inl h)
  · exact .inr (.inr ⟨id, off, cap, rfl, fun i hi => hm _ _ _ (hc i hi)⟩)

/-- The first elements. -/
theorem Ints.pre (H : Ints bs k a zs) {n m : Nat} {cap : Option Nat} {id off : Nat} (ha : a = .sl id off n cap 1) (hm : m ≤ n) (cap' : Option Nat) : Ints bs k (.sl id off m cap' 1) (zs.take m) := by
  rcases H with ⟨rfl, rfl⟩ | ⟨rfl, rfl⟩ | ⟨id', off', cap'', rfl, hc⟩
  · cases ha
  · cases ha
  · cases ha
    refine Ints.sl (by simp; omega) fun i hi => ?_
    rw [hc i (by omega)]
    simp [List.getD_eq_getElem?_getD, List.getElem?_take_of_lt hi]

end

theorem cellB_grown {h h' : Hp} (hok : Hok h) (g : Grown h h') {id off : Nat} {v : AV} (e : cellB h.blks id off = some v) : cellB h'.blks id off = some v := by
  unfold cellB at e ⊢
  cases hb : Abs.lkB h.blks id with
  | none => simp [hb] at e
  | some b => rw [g.lkB (hok _ (lkB_mem' hb)), ← e]

theorem Ints.grown {h h' : Hp} {k : IntKind} {a : AV} {zs : List Int} (H : Ints h.blks k a zs) (hok : Hok h) (g : Grown h h') : Ints h'.blks k a zs :=
  H.mono fun _ _ _ => cellB_grown hok g

theorem evals_pure {P : Program} {T : Tab} {f : Nat} {sf : SFun} (hc : compF P f = some sf) {args : List AV} {h : Hp} {v : AV} (hlen : Nat.ble args.length sf.nt = true)
    (H : wp (Evals P T false) sf.body { fr := initS sf.slots args, hp := { h with base := h.next, esc := false } } fun e s => (match e with | .exit _ => False | _ => True) ∧ ∃ vs, sresVs s.fr s.hp sf.res = some vs ∧ resOf vs = v ∧ s.hp = { h with base := h.next, esc := false }) (hT : T f args = none := by rfl) :
    Evals P T false (.func f) args h (v, h) := by
  obtain ⟨v', h', e, rfl, rfl⟩ := evals_func (Q := fun v' h' => v' = v ∧ h' = h) hc hlen (wp_mono (fun e s Hs => by
    obtain ⟨h1, vs, h2, h3, h4⟩ := Hs
    refine ⟨h1, vs, h2, h3, ?_⟩
    rw [h4]
    simp [leave]) H) hT
  exact e

theorem wpOp_app {C : Spec} {f : Nat → AV} {h : Hp} {z : Bool} {n : Nat} {s x : SX} {K : AV → Hp → Prop} : wpOp C f h (.app z n s x) K = andT (sApp z n h (sev f s) (sev f x)) K .mk := (Eq.refl _).trans rfl
/-- A bound of a slice expression. -/
def sb (f : Nat → AV) : Option SX → Option (Option Nat)
  | some e => some (idx? (sev f e))
  | none => none
theorem sb_none {f : Nat → AV} : sb f none = none := (Eq.refl _).trans rfl
theorem sb_some {f : Nat → AV} {e : SX} : sb f (some e) = some (idx? (sev f e)) := (Eq.refl _).trans rfl

def bndV (d : Nat) : Option (Option Nat) → Option Nat
  | some e => e
  | none => some d

def sSl (m : Nat) (h : Hp) (lo hi : Option (Option Nat)) : AV → Option (AV × Hp)
  | .sl id off len cap sz =>
    match bndV len hi, bndV 0 lo with
    | some hv, some lv =>
      bif Nat.ble lv hv && Nat.beq m sz then
        match cap with
        | some c => bif Nat.ble hv c then
            bif Nat.beq c lv then some (.sl id off (hv - lv) (some 0) sz, h) else some (.sl id (off + lv * sz) (hv - lv) (some (c - lv)) sz, h)
          else none
        | none => bif Nat.ble hv len then bif Nat.blt lv len then some (.sl id (off + lv * sz) (hv - lv) none sz, h) else some (.esl, h) else none
      else none
    | _, _ => none
  | .nilsl =>
    match bndV 0 hi, bndV 0 lo with
    | some 0, some 0 => some (.nilsl, h)
    | _, _ => none
  | .esl =>
    match bndV 0 hi, bndV 0 lo with
    | some 0, some 0 => some (.esl, h)
    | _, _ => none
  | _ => none

theorem wpOp_slice {C : Spec} {f : Nat → AV} {h : Hp} {n : Nat} {x : SX} {lo hi : Option SX} {K : AV → Hp → Prop} : wpOp C f h (.slice n x lo hi) K = andT (sSl n h (sb f lo) (sb f hi) (sev f x)) K .mk := by
  unfold andT
  simp only [wpOp, sexec]
  congr 1
  cases lo <;> cases hi <;> cases sev f x <;> rfl

theorem wpOp_slice3 {C : Spec} {f : Nat → AV} {h : Hp} {n : Nat} {x hi mx : SX} {lo : Option SX} {K : AV → Hp → Prop} : wpOp C f h (.slice3 n x lo hi mx) K = andT (sSl3 n h (idx? (sev f mx)) (idx? (sev f hi)) (bndV 0 (sb f lo)) (sev f x)) K .mk := by
  unfold andT
  simp only [wpOp, sexec]
  congr 1
  cases lo <;> rfl

theorem sSl_nil {m : Nat} {h : Hp} {lo hi : Option (Option Nat)} (h1 : lo = none ∨ lo = some (some 0)) (h2 : hi = none ∨ hi = some (some 0)) : sSl m h lo hi .nilsl = some (.nilsl, h) := by
  rcases h1 with rfl | rfl <;> rcases h2 with rfl | rfl <;> rfl
theorem sSl_esl {m : Nat} {h : Hp} {lo hi : Option (Option Nat)} (h1 : lo = none ∨ lo = some (some 0)) (h2 : hi = none ∨ hi = some (some 0)) : sSl m h lo hi .esl = some (.esl, h) := by
  rcases h1 with rfl | rfl <;> rcases h2 with rfl | rfl <;> rfl
/-- The beginning of a slice whose capacity is known. -/
theorem sSl_pre {h : Hp} {m c id off n sz : Nat} (hm : m ≤ c) (hc : 0 < c) : sSl sz h none (some (some m)) (.sl id off n (some c) sz) = some (.sl id off m (some c) sz, h) := by
  have h1 : Nat.beq c 0 = false := by
    cases hb : Nat.beq c 0
    · rfl
    · exact absurd (Nat.eq_of_beq_eq_true hb) (by omega)
  have h2 : Nat.ble 0 m = true := Nat.ble_eq_true_of_le (Nat.zero_le _)
  simp only [sSl, bndV, h2, Nat.beq_refl, Bool.and_self, cond_true, Nat.ble_eq_true_of_le hm, h1, cond_false, Nat.zero_mul, Nat.add_zero, Nat.sub_zero]
theorem wpOp_mn {C : Spec} {f : Nat → AV} {h : Hp} {x y : SX} {K : AV → Hp → Prop} : wpOp C f h (.mn x y) K = andT ((sMin (sev f x) (sev f y)).map fun v => (v, h)) K .mk := (Eq.refl _).trans rfl
theorem wpOp_mx {C : Spec} {f : Nat → AV} {h : Hp} {x y : SX} {K : AV → Hp → Prop} : wpOp C f h (.mx x y) K = andT ((sMax (sev f x) (sev f y)).map fun v => (v, h)) K .mk := (Eq.refl _).trans rfl
theorem sMin_int {k : IntKind} {a b : Int} : sMin (.int k a) (.int k b) = some (.int k (if b < a then b else a)) := by simp [sMin]
theorem sMax_int {k : IntKind} {a b : Int} : sMax (.int k a) (.int k b) = some (.int k (if a < b then b else a)) := by simp [sMax]
theorem sBS_0 {h : Hp} {z : List AV} : sBS z 0 1 h [] = some (.sl h.next 0 0 (some 0) 1, { next := h.next + 1, blks := (h.next, { cells := [], ch := h.next, wr := true }) :: h.blks, loops := h.loops, base := h.base, esc := h.esc }) := (Eq.refl _).trans rfl
theorem sBS_1 {h : Hp} {k : IntKind} {a : Int} : sBS [.int k 0] 1 1 h [(0, .int k a)] =
    some (.sl h.next 0 1 (some 1) 1, { next := h.next + 1, blks := (h.next, { cells := ints k [a], ch := h.next, wr := true }) :: h.blks, loops := h.loops, base := h.base, esc := h.esc }) := (Eq.refl _).trans rfl
theorem sBin_nil {c : EqC} (hc : c = .slice) : sBin .eql c .nilsl .nilsl = some (.bool true) := by subst hc; rfl
theorem sBin_sl {c : EqC} (hc : c = .slice) {id off len sz : Nat} {cap : Option Nat} : sBin .eql c (.sl id off len cap sz) .nilsl = some (.bool false) := by subst hc; rfl


theorem callT {P : Program} {T : Tab} {g : Bool} {f : Nat} {args : List AV} {h h' : Hp} {v : AV} {K : AV → Hp → Prop} (e : Evals P T g (.func f) args h (v, h')) {tk : Tag K} :
    callT' (Evals P T g) (.fn (.func f) [] []) args h K tk = K v h' := by
  unfold callT'
  rw [callThen_eq (by simpa using e)]

/-- A call that only reads. -/
theorem callR {P : Program} {T : Tab} {g : Bool} {f : Nat} {args : List AV} {h : Hp} {bs : List (Nat × Blk)} {v : AV} {K : AV → Hp → Prop} (e : ∀ h : Hp, h.blks = bs → Evals P T g (.func f) args h (v, h)) (hb : h.blks = bs) {tk : Tag K} :
    callT' (Evals P T g) (.fn (.func f) [] []) args h K tk = K v h := callT (e h hb)

end Go.Abs

namespace Go.Abs
open Go

/-- A slice of ints of one's own: empty, or the beginning of a block that was made at c or later. -/
def Own (c : Nat) (bs : List (Nat × Blk)) (k : IntKind) (s : AV) (zs : List Int) : Prop :=
  (zs = [] ∧ s = .nilsl) ∨
  (∃ id b cap, s = .sl id 0 zs.length cap 1 ∧ lkB bs id = some b ∧ b.cells.take zs.length = ints k zs ∧ c ≤ id ∧ c ≤ b.ch ∧ b.wr = true ∧ (match cap with | none => zs ≠ [] ∧ b.cells.length = zs.length | some n => b.cells.length = n ∧ zs.length ≤ n))

theorem take_ints {k : IntKind} {cs : List AV} {zs : List Int} (h : cs.take zs.length = ints k zs) {i : Nat} (hi : i < zs.length) : cs[i]? = some (.int k (zs.getD i 0)) := by
  rw [← List.getElem?_take_of_lt hi, h, ints, List.getElem?_map, List.getElem?_eq_getElem hi, List.getD_eq_getElem?_getD, List.getElem?_eq_getElem hi]
  rfl

theorem Own.ints {c : Nat} {bs : List (Nat × Blk)} {k : IntKind} {s : AV} {zs : List Int} (O : Own c bs k s zs) : Ints bs k s zs := by
  rcases O with ⟨rfl, rfl⟩ | ⟨id, b, cap, rfl, h1, h2, _⟩
  · exact Ints.nil
  · refine Ints.sl rfl fun i hi => ?_
    rw [Nat.zero_add]
    simp only [cellB, h1, Option.bind_some]
    exact take_ints h2 hi

theorem Own.len {c : Nat} {bs : List (Nat × Blk)} {k : IntKind} {s : AV} {zs : List Int} (O : Own c bs k s zs) : ∀ h, sLen h s = some (.int .i64 zs.length, h) := O.ints.len

theorem Own.grown {c : Nat} {h h' : Hp} {k : IntKind} {s : AV} {zs : List Int} (O : Own c h.blks k s zs) (hok : Hok h) (g : Grown h h') : Own c h'.blks k s zs := by
  rcases O with h1 | ⟨id, b, cap, h1, h2, h3⟩
  · exact .inl h1
  · exact .inr ⟨id, b, cap, h1, by rw [g.lkB (hok _ (lkB_mem' h2)), h2], h3⟩

theorem Own.nil {c : Nat} {bs : List (Nat × Blk)} {k : IntKind} : Own c bs k .nilsl [] := .inl ⟨rfl, rfl⟩

/-- A block just made. -/
theorem Own.fresh {c n len cap : Nat} {bs : List (Nat × Blk)} {k : IntKind} {zs : List Int} {cs : List AV} (hc : c ≤ n) (hl : zs.length = len) (ht : cs.take len = Abs.ints k zs) (hn : cs.length = cap) (hle : len ≤ cap) :
    Own c ((n, { cells := cs, ch := n, wr := true }) :: bs) k (.sl n 0 len (some cap) 1) zs := by
  subst hl
  exact .inr ⟨n, { cells := cs, ch := n, wr := true }, some cap, rfl, by simp only [lkB, Nat.beq_refl, cond_true], ht, hc, hc, rfl, hn, hle⟩

theorem setB_app {old : List (Nat × Blk)} {id : Nat} {v : Blk} (ho : ∀ x ∈ old, x.1 ≠ id) : ∀ new : List (Nat × Blk), setB (new ++ old) id v = setB new id v ++ old
  | [] => by
    simp only [List.nil_append, setB]
    induction old with
    | nil => rfl
    | cons x r ih =>
      obtain ⟨j, b⟩ := x
      simp only [setB, nb (ho (j, b) (by simp)), cond_false, ih fun x hx => ho x (by simp [hx])]
  | (j, b) :: r => by
    simp only [List.cons_append, setB]
    cases hb : Nat.beq j id
    · simp only [cond_false, setB_app ho r, List.cons_append]
    · simp only [cond_true, List.cons_append]

theorem trunc_app {c s n lim : Nat} {old : List (Nat × Blk)} (ho : ∀ x ∈ old, x.1 < lim) (hl : lim ≤ c) : ∀ new : List (Nat × Blk), (∀ x ∈ new, lim ≤ x.1) → ∃ new', trunc (new ++ old) c s n = new' ++ old ∧ (∀ x ∈ new', lim ≤ x.1) ∧ (∀ lim', (∀ x ∈ new, x.1 < lim') → ∀ x ∈ new', x.1 < lim')
  | [], _ => ⟨[], by simpa using trunc_old (fun x hx => Nat.lt_of_lt_of_le (ho x hx) hl), by simp, by simp⟩
  | (j, b) :: r, h => by
    obtain ⟨new', e, h1, h2⟩ := trunc_app (s := s) (n := n) ho hl r fun x hx => h x (by simp [hx])
    simp only [List.cons_append, trunc]
    cases hb : Nat.blt j c
    · refine ⟨_ :: new', by simp only [cond_false, e, List.cons_append]; rfl, fun x hx => ?_, fun lim' hlim x hx => ?_⟩
      · rcases List.mem_cons.1 hx with rfl | hx
        · exact h (j, b) (by simp)
        · exact h1 x hx
      · rcases List.mem_cons.1 hx with rfl | hx
        · exact hlim (j, b) (by simp)
        · exact h2 lim' (fun x hx => hlim x (by simp [hx])) x hx
    · refine ⟨(j, b) :: r, by simp, h, fun lim' hlim => hlim⟩

theorem all_cell_ints {k : IntKind} {zs : List Int} : (ints k zs).all AV.isCell = true := by
  simp [ints, AV.isCell]

theorem Grown.add {h0 h : Hp} (ho : Hok h0) (g : Grown h0 h) {b : Blk} {bs : List (Nat × Blk)} {ba : Nat} {es : Bool} (hb : ∃ new, bs = new ++ h0.blks ∧ (∀ x ∈ new, h0.next ≤ x.1) ∧ (Hok h → ∀ x ∈ bs, x.1 < h.next)) :
    Grown h0 { next := h.next + 1, blks := (h.next, b) :: bs, loops := h.loops, base := ba, esc := es } := by
  obtain ⟨new, e, h1, h2⟩ := hb
  refine ⟨⟨(h.next, b) :: new, by rw [e]; rfl, fun x hx => ?_⟩, Nat.le_succ_of_le g.next, fun ho' x hx => ?_, g.loops⟩
  · rcases List.mem_cons.1 hx with rfl | hx
    · exact g.next
    · exact h1 x hx
  · rcases List.mem_cons.1 hx with rfl | hx
    · exact Nat.lt_succ_self _
    · exact Nat.lt_succ_of_lt (h2 (g.ok ho) x hx)

/-- A write to a block of one's own. -/
theorem own_write {h0 h : Hp} (ho : Hok h0) (g : Grown h0 h) {id off : Nat} {b : Blk} {vs : List AV} (hb : Abs.lkB h.blks id = some b) (hid : h0.next ≤ id) (hch : h0.next ≤ b.ch) (hw : b.wr = true) (hoff : off + vs.length ≤ b.cells.length) (hc : vs.all AV.isCell = true) :
    ∃ h', h.write id off vs = some h' ∧ Abs.lkB h'.blks id = some { b with cells := splice b.cells off vs } ∧ Grown h0 h' ∧ h'.next = h.next := by
  obtain ⟨new, en, fn⟩ := g.blks
  obtain ⟨new', en', f1, f2⟩ := @trunc_app b.ch id off h0.next h0.blks (fun x hx => ho x hx) hch new fn
  have e1 : (b.wr && Nat.ble (off + vs.length) b.cells.length && vs.all AV.isCell) = true := by rw [hw, Nat.ble_eq_true_of_le hoff, hc]; rfl
  have hlk := lkB_trunc_some b.ch id off hb (.inr rfl)
  refine ⟨{ h with blks := setB (trunc h.blks b.ch id off) id { b with cells := splice b.cells off vs }, esc := h.esc || (Nat.blt id h.base && vs.any AV.hasRef) }, by simp only [Hp.write, hb, e1, cond_true], lkB_setB_same _ _ _ _ hlk, ⟨⟨setB new' id { b with cells := splice b.cells off vs }, ?_, fun x hx => ?_⟩, g.next, fun _ x hx => ?_, g.loops⟩, rfl⟩
  · simp only
    rw [en, en', setB_app fun x hx => by have := ho x hx; omega]
  · rcases setB_mem hx with hx | ⟨rfl, d, _⟩
    · exact f1 x hx
    · exact hid
  · simp only at hx
    have hk := g.ok ho
    rcases setB_mem hx with hx | ⟨e, d, _⟩
    · obtain ⟨y, hy, e, _⟩ := trunc_mem hx
      rw [← e]
      exact hk y hy
    · rw [e]
      exact hk (id, b) (lkB_mem' hb)

theorem splice_take {cs vs : List AV} {n : Nat} (h : n + vs.length ≤ cs.length) : (splice cs n vs).take (n + vs.length) = cs.take n ++ vs := by
  unfold splice
  rw [List.take_append_of_le_length (by simp; omega)]
  exact List.take_of_length_le (by simp; omega)

theorem splice_len {cs vs : List AV} {n : Nat} (h : n + vs.length ≤ cs.length) : (splice cs n vs).length = cs.length := by
  simp [splice]
  omega

/-- append to a slice of one's own. -/
theorem own_app {h0 h : Hp} {k : IntKind} {s x : AV} {zs xs : List Int} (ho : Hok h0) (g : Grown h0 h) (O : Own h0.next h.blks k s zs) (hx : Ints h.blks k x xs) (hl : zs.length + xs.length ≤ 1073741824) :
    ∃ s' h', sApp true 1 h s x = some (s', h') ∧ Own h0.next h'.blks k s' (zs ++ xs) ∧ Grown h0 h' ∧ (xs ≠ [] → s' ≠ .nilsl) := by
  have hsrc := hx.src h rfl
  simp only [sApp, hsrc]
  cases xs with
  | nil =>
    rw [List.append_nil]
    rcases O with ⟨rfl, rfl⟩ | ⟨id, b, cap, rfl, h2⟩
    · exact ⟨_, _, rfl, .inl ⟨rfl, rfl⟩, g, fun h => absurd rfl h⟩
    · exact ⟨_, _, rfl, .inr ⟨id, b, cap, rfl, h2⟩, g, fun h => absurd rfl h⟩
  | cons y ys =>
    have nz : Nat.beq (y :: ys).length 0 = false := (Eq.refl _).trans rfl
    have fresh : ∃ new, h.blks = new ++ h0.blks ∧ (∀ x ∈ new, h0.next ≤ x.1) ∧ (Hok h → ∀ x ∈ h.blks, x.1 < h.next) := by
      obtain ⟨new, e, f⟩ := g.blks
      exact ⟨new, e, f, fun h => h⟩
    have mk : ∀ (cs : List Int) (c : Nat) (bs), h0.next ≤ c → cs ≠ [] → Own h0.next ((h.next, { cells := ints k cs, ch := c, wr := true }) :: bs) k (.sl h.next 0 cs.length none 1) cs := fun cs c bs hc hne =>
      .inr ⟨h.next, { cells := ints k cs, ch := c, wr := true }, none, rfl, by simp only [lkB, Nat.beq_refl, cond_true], List.take_of_length_le (by simp [ints]), g.next, hc, rfl, hne, by simp [ints]⟩
    rcases O with ⟨rfl, rfl⟩ | ⟨id, b, cap, rfl, h2, h3, h4, h5, h6, h7⟩
    · simp only [List.length_nil, Nat.zero_add] at hl
      simp only [sAppend, nz, cond_false, Nat.ble_eq_true_of_le hl, all_cell_ints, Bool.and_self, cond_true, Hp.new]
      exact ⟨_, _, rfl, mk _ _ _ g.next (by simp), g.add ho fresh, fun _ e => by cases e⟩
    · have e1 : Nat.ble (zs.length + (y :: ys).length) 1073741824 = true := Nat.ble_eq_true_of_le hl
      have hlen : (ints k (y :: ys)).length = (y :: ys).length := by simp [ints]
      have e5 : zs.length + (y :: ys).length = (zs ++ y :: ys).length := by simp
      have e6 : ints k zs ++ ints k (y :: ys) = ints k (zs ++ y :: ys) := by simp [ints]
      cases cap with
      | none =>
        obtain ⟨hne, h7⟩ := h7
        have e2 : Nat.ble (0 + (zs.length + (y :: ys).length) * 1) b.cells.length = false := by
          rw [h7]
          cases hb : Nat.ble (0 + (zs.length + (y :: ys).length) * 1) zs.length
          · rfl
          · have := Nat.le_of_ble_eq_true hb
            simp at this
            omega
        have e3 : Nat.ble (zs.length * 1) b.cells.length = true := by rw [h7]; exact Nat.ble_eq_true_of_le (by omega)
        have e4 : b.cells.take (zs.length * 1) = ints k zs := by rw [Nat.mul_one]; exact h3
        simp only [sAppend, Nat.beq_refl, Bool.not_true, cond_false, nz, e1, all_cell_ints, Bool.and_self, h2, e2, Bool.and_false, h6, e3, cond_true, e4]
        obtain ⟨new, en, fn⟩ := g.blks
        have hf := @trunc_app b.ch h.next (zs.length * 1) h0.next h0.blks (fun x hx => ho x hx) h5 new fn
        obtain ⟨new', en', f1, f2⟩ := hf
        refine ⟨_, _, rfl, ?_, g.add ho ⟨new', by rw [en, en'], f1, fun hk x hx => ?_⟩, fun _ e => by cases e⟩
        · rw [e6, e5]
          exact mk _ _ _ h5 (by simp)
        · rw [en, en', List.mem_append] at hx
          rcases hx with hx | hx
          · exact f2 h.next (fun x hx => hk x (by rw [en]; simp [hx])) x hx
          · exact Nat.lt_of_lt_of_le (ho x hx) g.next
      | some n =>
        obtain ⟨h7, h8⟩ := h7
        simp only [sAppend, Nat.beq_refl, Bool.not_true, cond_false, nz, e1, all_cell_ints, Bool.and_self, h2]
        cases hf : Nat.ble (zs.length + (y :: ys).length) n
        · have e3 : slice? b.cells 0 (zs.length * 1) = some (ints k zs) := by
            simp only [slice?, Nat.mul_one, Nat.ble_eq_true_of_le (show 0 + zs.length ≤ b.cells.length by omega), cond_true, List.drop_zero, h3]
          simp only [cond_false, e3, Hp.new, e6, e5]
          exact ⟨_, _, rfl, mk _ _ _ g.next (by simp), g.add ho fresh, fun _ e => by cases e⟩
        · have hfit := Nat.le_of_ble_eq_true hf
          have hle : 0 + zs.length * 1 + (ints k (y :: ys)).length ≤ b.cells.length := by rw [hlen]; omega
          obtain ⟨h', w1, w2, w3, w4⟩ := own_write ho g h2 h4 h5 h6 hle all_cell_ints
          simp only [cond_true, w1, Option.map_some]
          refine ⟨_, _, rfl, .inr ⟨id, _, some n, by rw [e5], w2, ?_, h4, h5, h6, ?_, by rw [← e5]; exact hfit⟩, w3, fun _ e => by cases e⟩
          · rw [← e5, ← hlen, ← e6, show (0 + zs.length * 1) = zs.length by omega, ← h3]
            exact splice_take (by omega)
          · simp only
            rw [splice_len hle]
            exact h7

/-- A write to an element of a slice of one's own. -/
theorem own_set {h0 h : Hp} {k : IntKind} {s : AV} {zs : List Int} {i : Nat} {v : Int} (ho : Hok h0) (g : Grown h0 h) (O : Own h0.next h.blks k s zs) (hi : i < zs.length) :
    ∃ h', sStore 1 h (.int k v) (cellAt s i) = some (.any, h') ∧ Own h0.next h'.blks k s (zs.set i v) ∧ Grown h0 h' := by
  rcases O with ⟨rfl, _⟩ | ⟨id, b, cap, rfl, h2, h3, h4, h5, h6, h7⟩
  · simp at hi
  · have hlen : zs.length ≤ b.cells.length := by
      have := congrArg List.length h3
      simp only [List.length_take, ints, List.length_map] at this
      omega
    obtain ⟨h', w1, w2, w3, w4⟩ := own_write (off := 0 + i * 1) (vs := [.int k v]) ho g h2 h4 h5 h6 (by simp; omega) rfl
    refine ⟨h', by simp only [cellAt, sStore_int, w1, Option.map_some], .inr ⟨id, _, cap, by rw [List.length_set], w2, ?_, h4, h5, h6, ?_⟩, w3⟩
    · simp only [List.length_set]
      have hs : splice b.cells (0 + i * 1) [.int k v] = b.cells.set i (.int k v) := by
        rw [Nat.zero_add, Nat.mul_one]
        simp only [splice, List.length_singleton]
        rw [List.set_eq_take_append_cons_drop, if_pos (by omega)]
        simp
      rw [hs, List.take_set, h3, ints, ints, List.map_set]
    · have hl : (splice b.cells (0 + i * 1) [.int k v]).length = b.cells.length := splice_len (by simp; omega)
      cases cap with
      | none => exact ⟨fun e => h7.1 (by have := congrArg List.length e; simp at this; exact this), by simp only [hl, List.length_set]; exact h7.2⟩
      | some n => exact ⟨by simp only [hl]; exact h7.1, by simp only [List.length_set]; exact h7.2⟩

/-- append of one number. -/
theorem own_app1 {h0 h : Hp} {k : IntKind} {s : AV} {zs : List Int} {v : Int} (ho : Hok h0) (g : Grown h0 h) (O : Own h0.next h.blks k s zs) (hl : zs.length + 1 ≤ 1073741824) :
    ∃ s' h', sApp true 1 { next := h.next + 1, blks := (h.next, { cells := ints k [v], ch := h.next, wr := true }) :: h.blks, loops := h.loops, base := h.base, esc := h.esc } s (.sl h.next 0 1 (some 1) 1) = some (s', h') ∧
      Own h0.next h'.blks k s' (zs ++ [v]) ∧ Grown h0 h' ∧ s' ≠ .nilsl := by
  have g1 : Grown h { next := h.next + 1, blks := (h.next, { cells := ints k [v], ch := h.next, wr := true }) :: h.blks, loops := h.loops, base := h.base, esc := h.esc } := Grown.push
  obtain ⟨s', h', e, o, g', n⟩ := own_app (x := .sl h.next 0 1 (some 1) 1) (xs := [v]) ho (g.trans g1) (O.grown (g.ok ho) g1) (Ints.top rfl) (by simpa using hl)
  exact ⟨s', h', e, o, g', n (by simp)⟩

end Go.Abs

namespace Go.Abs
open Go

/-- As Own, with the chain's number. -/
def OwnC (ch c : Nat) (bs : List (Nat × Blk)) (k : IntKind) (s : AV) (zs : List Int) : Prop :=
  (zs = [] ∧ s = .nilsl) ∨
  (∃ id b cap, s = .sl id 0 zs.length cap 1 ∧ lkB bs id = some b ∧ b.cells.take zs.length = ints k zs ∧ c ≤ id ∧ b.ch = ch ∧ b.wr = true ∧ (match cap with | none => zs ≠ [] ∧ b.cells.length = zs.length | some n => b.cells.length = n ∧ zs.length ≤ n))

/-- What an operation on the chain ch leaves. -/
def Keeps (ch : Nat) (bs bs' : List (Nat × Blk)) : Prop := ∀ id b, lkB bs id = some b → b.ch ≠ ch → lkB bs' id = some b

theorem OwnC.own {ch c : Nat} {bs : List (Nat × Blk)} {k : IntKind} {s : AV} {zs : List Int} (O : OwnC ch c bs k s zs) (h : c ≤ ch) : Own c bs k s zs := by
  rcases O with h1 | ⟨id, b, cap, h1, h2, h3, h4, h5, h6⟩
  · exact .inl h1
  · exact .inr ⟨id, b, cap, h1, h2, h3, h4, by omega, h6⟩

theorem OwnC.keep {ch ch' c : Nat} {bs bs' : List (Nat × Blk)} {k : IntKind} {s : AV} {zs : List Int} (O : OwnC ch c bs k s zs) (K : Keeps ch' bs bs') (h : ch ≠ ch') : OwnC ch c bs' k s zs := by
  rcases O with h1 | ⟨id, b, cap, h1, h2, h3, h4, h5, h6⟩
  · exact .inl h1
  · exact .inr ⟨id, b, cap, h1, K id b h2 (by rw [h5]; exact h), h3, h4, h5, h6⟩

theorem OwnC.grown {ch c : Nat} {h h' : Hp} {k : IntKind} {s : AV} {zs : List Int} (O : OwnC ch c h.blks k s zs) (hok : Hok h) (g : Grown h h') : OwnC ch c h'.blks k s zs := by
  rcases O with h1 | ⟨id, b, cap, h1, h2, h3⟩
  · exact .inl h1
  · exact .inr ⟨id, b, cap, h1, by rw [g.lkB (hok _ (lkB_mem' h2)), h2], h3⟩

theorem OwnC.nil {ch c : Nat} {bs : List (Nat × Blk)} {k : IntKind} : OwnC ch c bs k .nilsl [] := .inl ⟨rfl, rfl⟩

theorem OwnC.fresh {c n len cap : Nat} {bs : List (Nat × Blk)} {k : IntKind} {zs : List Int} {cs : List AV} (hc : c ≤ n) (hl : zs.length = len) (ht : cs.take len = Abs.ints k zs) (hn : cs.length = cap) (hle : len ≤ cap) :
    OwnC n c ((n, { cells := cs, ch := n, wr := true }) :: bs) k (.sl n 0 len (some cap) 1) zs := by
  subst hl
  exact .inr ⟨n, { cells := cs, ch := n, wr := true }, some cap, rfl, by simp only [lkB, Nat.beq_refl, cond_true], ht, hc, rfl, rfl, hn, hle⟩

theorem lkB_push {bs : List (Nat × Blk)} {n id : Nat} {b : Blk} (h : id ≠ n) : lkB ((n, b) :: bs) id = lkB bs id := by
  simp only [lkB, nb (fun e => h e.symm), cond_false]

theorem Hok.ne {h : Hp} (ho : Hok h) {id : Nat} {b : Blk} (hb : Abs.lkB h.blks id = some b) : id < h.next := ho _ (lkB_mem' hb)

theorem write_keeps {h h' : Hp} {id off : Nat} {b : Blk} {vs : List AV} (hb : Abs.lkB h.blks id = some b) (hw : h.write id off vs = some h') : Keeps b.ch h.blks h'.blks := by
  intro id2 b2 h2 hne
  simp only [Hp.write, hb] at hw
  cases hcc : (b.wr && Nat.ble (off + vs.length) b.cells.length && vs.all AV.isCell)
  · rw [hcc] at hw; cases hw
  · rw [hcc] at hw
    cases hw
    simp only
    have hid : id2 ≠ id := fun e => by subst e; rw [hb] at h2; cases h2; exact hne rfl
    rw [lkB_setB_other _ _ _ _ hid]
    exact lkB_trunc_some _ _ _ h2 (.inl hne)

/-- append to a slice of one's own: what other chains have stays. -/
theorem ownC_app {h0 h : Hp} {k : IntKind} {s x : AV} {zs xs : List Int} {ch : Nat} (ho : Hok h0) (g : Grown h0 h) (O : OwnC ch h0.next h.blks k s zs) (hch : h0.next ≤ ch) (hlt : ch < h.next) (hx : Ints h.blks k x xs) (hl : zs.length + xs.length ≤ 1073741824) :
    ∃ s' h' ch', sApp true 1 h s x = some (s', h') ∧ OwnC ch' h0.next h'.blks k s' (zs ++ xs) ∧ Grown h0 h' ∧ (ch' = ch ∨ h.next ≤ ch') ∧ h.next ≤ h'.next ∧ h0.next ≤ ch' ∧ ch' < h'.next ∧ Keeps ch h.blks h'.blks := by
  have hok := g.ok ho
  have hsrc := hx.src h rfl
  simp only [sApp, hsrc]
  cases xs with
  | nil =>
    rw [List.append_nil]
    rcases O with ⟨rfl, rfl⟩ | ⟨id, b, cap, rfl, h2⟩
    · exact ⟨_, _, ch, rfl, .inl ⟨rfl, rfl⟩, g, .inl rfl, Nat.le_refl _, hch, hlt, fun _ _ h _ => h⟩
    · exact ⟨_, _, ch, rfl, .inr ⟨id, b, cap, rfl, h2⟩, g, .inl rfl, Nat.le_refl _, hch, hlt, fun _ _ h _ => h⟩
  | cons y ys =>
    have nz : Nat.beq (y :: ys).length 0 = false := (Eq.refl _).trans rfl
    have fresh : ∃ new, h.blks = new ++ h0.blks ∧ (∀ x ∈ new, h0.next ≤ x.1) ∧ (Hok h → ∀ x ∈ h.blks, x.1 < h.next) := by
      obtain ⟨new, e, f⟩ := g.blks
      exact ⟨new, e, f, fun h => h⟩
    have mk : ∀ (cs : List Int) (c : Nat) (bs), cs ≠ [] → OwnC c h0.next ((h.next, { cells := ints k cs, ch := c, wr := true }) :: bs) k (.sl h.next 0 cs.length none 1) cs := fun cs c bs hne =>
      .inr ⟨h.next, { cells := ints k cs, ch := c, wr := true }, none, rfl, by simp only [lkB, Nat.beq_refl, cond_true], List.take_of_length_le (by simp [ints]), g.next, rfl, rfl, hne, by simp [ints]⟩
    have push : ∀ (bs : List (Nat × Blk)) (b : Blk), Keeps ch h.blks bs → Keeps ch h.blks ((h.next, b) :: bs) := fun bs b K id b' hb hne => by
      rw [lkB_push (Nat.ne_of_lt (hok.ne hb))]
      exact K id b' hb hne
    have all : Keeps ch h.blks h.blks := fun _ _ h _ => h
    rcases O with ⟨rfl, rfl⟩ | ⟨id, b, cap, rfl, h2, h3, h4, h5, h6, h7⟩
    · simp only [List.length_nil, Nat.zero_add] at hl
      simp only [sAppend, nz, cond_false, Nat.ble_eq_true_of_le hl, all_cell_ints, Bool.and_self, cond_true, Hp.new]
      exact ⟨_, _, h.next, rfl, mk _ _ _ (by simp), g.add ho fresh, .inr (Nat.le_refl _), Nat.le_succ _, g.next, Nat.lt_succ_self _, push _ _ all⟩
    · have e1 : Nat.ble (zs.length + (y :: ys).length) 1073741824 = true := Nat.ble_eq_true_of_le hl
      have hlen : (ints k (y :: ys)).length = (y :: ys).length := by simp [ints]
      have e5 : zs.length + (y :: ys).length = (zs ++ y :: ys).length := by simp
      have e6 : ints k zs ++ ints k (y :: ys) = ints k (zs ++ y :: ys) := by simp [ints]
      cases cap with
      | none =>
        obtain ⟨hne, h7⟩ := h7
        have e2 : Nat.ble (0 + (zs.length + (y :: ys).length) * 1) b.cells.length = false := by
          rw [h7]
          cases hb : Nat.ble (0 + (zs.length + (y :: ys).length) * 1) zs.length
          · rfl
          · have := Nat.le_of_ble_eq_true hb
            simp at this
            omega
        have e3 : Nat.ble (zs.length * 1) b.cells.length = true := by rw [h7]; exact Nat.ble_eq_true_of_le (by omega)
        have e4 : b.cells.take (zs.length * 1) = ints k zs := by rw [Nat.mul_one]; exact h3
        simp only [sAppend, Nat.beq_refl, Bool.not_true, cond_false, nz, e1, all_cell_ints, Bool.and_self, h2, e2, Bool.and_false, h6, e3, cond_true, e4]
        obtain ⟨new, en, fn⟩ := g.blks
        have hf := @trunc_app b.ch h.next (zs.length * 1) h0.next h0.blks (fun x hx => ho x hx) (by omega) new fn
        obtain ⟨new', en', f1, f2⟩ := hf
        refine ⟨_, _, b.ch, rfl, ?_, g.add ho ⟨new', by rw [en, en'], f1, fun hk x hx => ?_⟩, .inl h5, Nat.le_succ _, by omega, Nat.lt_succ_of_lt (by omega), push _ _ ?_⟩
        · rw [e6, e5]
          exact mk _ _ _ (by simp)
        · rw [en, en', List.mem_append] at hx
          rcases hx with hx | hx
          · exact f2 h.next (fun x hx => hk x (by rw [en]; simp [hx])) x hx
          · exact Nat.lt_of_lt_of_le (ho x hx) g.next
        · intro id2 b2 hb2 hne2
          exact lkB_trunc_some _ _ _ hb2 (.inl (by rw [h5]; exact hne2))
      | some n =>
        obtain ⟨h7, h8⟩ := h7
        simp only [sAppend, Nat.beq_refl, Bool.not_true, cond_false, nz, e1, all_cell_ints, Bool.and_self, h2]
        cases hf : Nat.ble (zs.length + (y :: ys).length) n
        · have e3 : slice? b.cells 0 (zs.length * 1) = some (ints k zs) := by
            simp only [slice?, Nat.mul_one, Nat.ble_eq_true_of_le (show 0 + zs.length ≤ b.cells.length by omega), cond_true, List.drop_zero, h3]
          simp only [cond_false, e3, Hp.new, e6, e5]
          exact ⟨_, _, h.next, rfl, mk _ _ _ (by simp), g.add ho fresh, .inr (Nat.le_refl _), Nat.le_succ _, g.next, Nat.lt_succ_self _, push _ _ all⟩
        · have hfit := Nat.le_of_ble_eq_true hf
          have hle : 0 + zs.length * 1 + (ints k (y :: ys)).length ≤ b.cells.length := by rw [hlen]; omega
          obtain ⟨h', w1, w2, w3, w4⟩ := own_write ho g h2 h4 (by omega) h6 hle all_cell_ints
          have kp := write_keeps h2 w1
          rw [h5] at kp
          simp only [cond_true, w1, Option.map_some]
          refine ⟨_, _, b.ch, rfl, .inr ⟨id, _, some n, by rw [e5], w2, ?_, h4, rfl, h6, ?_, by rw [← e5]; exact hfit⟩, w3, .inl h5, by omega, by omega, by omega, kp⟩
          · rw [← e5, ← hlen, ← e6, show (0 + zs.length * 1) = zs.length by omega, ← h3]
            exact splice_take (by omega)
          · simp only
            rw [splice_len hle]
            exact h7

/-- append of one number. -/
theorem ownC_app1 {h0 h : Hp} {k : IntKind} {s : AV} {zs : List Int} {ch : Nat} {v : Int} (ho : Hok h0) (g : Grown h0 h) (O : OwnC ch h0.next h.blks k s zs) (hch : h0.next ≤ ch) (hlt : ch < h.next) (hl : zs.length + 1 ≤ 1073741824) :
    ∃ s' h' ch', sApp true 1 { next := h.next + 1, blks := (h.next, { cells := ints k [v], ch := h.next, wr := true }) :: h.blks, loops := h.loops, base := h.base, esc := h.esc } s (.sl h.next 0 1 (some 1) 1) = some (s', h') ∧
      OwnC ch' h0.next h'.blks k s' (zs ++ [v]) ∧ Grown h0 h' ∧ (ch' = ch ∨ h.next ≤ ch') ∧ h.next ≤ h'.next ∧ h0.next ≤ ch' ∧ ch' < h'.next ∧ Keeps ch h.blks h'.blks := by
  have g1 : Grown h { next := h.next + 1, blks := (h.next, { cells := ints k [v], ch := h.next, wr := true }) :: h.blks, loops := h.loops, base := h.base, esc := h.esc } := Grown.push
  have hok := g.ok ho
  obtain ⟨s', h', ch', e, o, g', c1, c2, c3, c4, c5⟩ := ownC_app (x := .sl h.next 0 1 (some 1) 1) (xs := [v]) ho (g.trans g1) (O.grown hok g1) hch (Nat.lt_succ_of_lt hlt) (Ints.top rfl) (by simpa using hl)
  refine ⟨s', h', ch', e, o, g', ?_, Nat.le_of_succ_le c2, c3, c4, fun id b hb hne => c5 id b ?_ hne⟩
  · rcases c1 with c | c
    · exact .inl c
    · exact .inr (Nat.le_of_succ_le c)
  · rw [lkB_push (Nat.ne_of_lt (hok.ne hb))]
    exact hb

end Go.Abs
