/- Cells by name; calls that leave the heap. -/
import Derived.Test.YtogfojkjocbahaaSL
namespace Go.Abs
open Go

/-- The place of an element. -/
def cellAt (a : AV) (i : Nat) : AV := match a with
  | .sl id off _ _ sz => .ptr id (off + i * sz)
  | _ => .any

def cellV (bs : List (Nat × Blk)) (a : AV) (i : Nat) : Option AV := match cellAt a i with
  | .ptr id off => cellB bs id off
  | _ => none

theorem sIxS_at {n : Nat} {h h' : Hp} {i : Nat} {a v : AV} (e : sIxS n h (some i) a = some (v, h')) (hz : ∀ id off len cap sz, a = .sl id off len cap sz → sz = n) : v = cellAt a i := by
  cases a <;> simp only [sIxS] at e <;> try (cases e; done)
  rename_i id off len cap sz
  cases hb : Nat.blt i len <;> rw [hb] at e <;> simp only [cond_true, cond_false] at e <;> cases e
  simp only [cellAt, hz id off len cap sz rfl]

theorem sLoad_cell {h : Hp} {a : AV} {i : Nat} : sLoad none h (cellAt a i) = (cellV h.blks a i).map fun v => (v, h) := by
  cases a <;> try (simp [cellAt, cellV, sLoad]; done)
  simp only [cellAt, cellV, sLoad_ptr]

theorem sStore_cell {n : Nat} {h : Hp} {v : AV} {id off len sz i : Nat} {cap : Option Nat} : sStore n h v (cellAt (.sl id off len cap sz) i) = sStore n h v (.ptr id (off + i * sz)) := (Eq.refl _).trans rfl

def Ints (bs : List (Nat × Blk)) (k : IntKind) (a : AV) (zs : List Int) : Prop :=
  (a = .nilsl ∧ zs = []) ∨ (a = .esl ∧ zs = []) ∨ ∃ id off cap, a = .sl id off zs.length cap 1 ∧ ∀ i, i < zs.length → cellB bs id (off + i) = some (.int k (zs.getD i 0))

section
variable {bs : List (Nat × Blk)} {k : IntKind} {a : AV} {zs : List Int}

theorem Ints.nil : Ints bs k .nilsl [] := .inl ⟨rfl, rfl⟩
theorem Ints.esl : Ints bs k .esl [] := .inr (.inl ⟨rfl, rfl⟩)
theorem Ints.sl {id off len : Nat} {cap : Option Nat} (hl : zs.length = len) (hc : ∀ i, i < len → cellB bs id (off + i) = some (.int k (zs.getD i 0))) : Ints bs k (.sl id off len cap 1) zs := by
  subst hl
  exact .inr (.inr ⟨id, off, cap, rfl, hc⟩)

theorem Ints.len (H : Ints bs k a zs) : ∀ h, sLen h a = some (.int .i64 zs.length, h) := by
  rcases H with ⟨rfl, rfl⟩ | ⟨rfl, rfl⟩ | ⟨id, off, cap, rfl, _⟩ <;> intro h <;> rfl

theorem Ints.ix (H : Ints bs k a zs) {i : Nat} (h : Hp) (hi : i < zs.length) : sIxS 1 h (some i) a = some (cellAt a i, h) := by
  rcases H with ⟨rfl, rfl⟩ | ⟨rfl, rfl⟩ | ⟨id, off, cap, rfl, _⟩
  · simp at hi
  · simp at hi
  · exact sIxS_sl hi

theorem Ints.ld (H : Ints bs k a zs) {i : Nat} (hi : i < zs.length) : cellV bs a i = some (.int k (zs.getD i 0)) := by
  rcases H with ⟨rfl, rfl⟩ | ⟨rfl, rfl⟩ | ⟨id, off, cap, rfl, hc⟩
  · simp at hi
  · simp at hi
  · simp only [cellV, cellAt, Nat.mul_one]
    exact hc i hi

theorem Ints.src (H : Ints bs k a zs) : ∀ h : Hp, h.blks = bs → srcCells h 1 a = some (ints k zs, zs.length) := by
  rcases H with ⟨rfl, rfl⟩ | ⟨rfl, rfl⟩ | ⟨id, off, cap, rfl, hc⟩
  · exact fun _ _ => rfl
  · exact fun _ _ => rfl
  · intro h e
    subst e
    simp only [srcCells]
    cases zs with
    | nil => rfl
    | cons z r =>
      have hb : Nat.beq (z :: r).length 0 = false := (Eq.refl _).trans rfl
      simp only [hb, cond_false, Nat.mul_one]
      have h0 := hc 0 (by simp)
      unfold cellB at h0
      cases hd : Abs.lkB h.blks id with
      | none => simp [hd] at h0
      | some b =>
        have hg : ∀ i, i < (z :: r).length → b.cells[off + i]? = some (.int k ((z :: r).getD i 0)) := fun i hi => by
          have := hc i hi
          simpa [cellB, hd] using this
        have hle : off + (z :: r).length ≤ b.cells.length := by
          have := (List.getElem?_eq_some_iff.1 (hg r.length (by simp))).1
          simp only [List.length_cons]
          omega
        simp only [slice?, Nat.ble_eq_true_of_le hle, cond_true, Option.map_some, Option.some.injEq, Prod.mk.injEq, and_true]
        refine List.ext_getElem? fun i => ?_
        by_cases hi : i < (z :: r).length
        · rw [List.getElem?_take_of_lt hi, List.getElem?_drop, hg i hi, ints, List.getElem?_map, List.getElem?_eq_getElem hi, List.getD_eq_getElem?_getD, List.getElem?_eq_getElem hi]
          rfl
        · rw [List.getElem?_eq_none (by simp only [List.length_take, List.length_drop]; omega), List.getElem?_eq_none (by simp only [ints, List.length_map]; omega)]

theorem Ints.old (H : Ints bs k a zs) : IsInts bs k a zs := by
  rcases H with ⟨rfl, rfl⟩ | ⟨rfl, rfl⟩ | ⟨id, off, cap, rfl, hc⟩
  · exact IsInts.nil
  · exact IsInts.esl
  · exact ⟨fun _ => rfl, fun i hi => ⟨id, off + i * 1, fun h => sIxS_sl hi, by rw [Nat.mul_one]; exact hc i hi⟩⟩

theorem Ints.of_old (H : IsInts bs k a zs) (hz : ∀ id off len cap sz, a = .sl id off len cap sz → sz = 1) : Ints bs k a zs := by
  have h0 := H.len ⟨0, [], [], 0, false⟩
  cases a <;> try (simp only [sLen] at h0; cases h0; done)
  case nilsl =>
    simp only [sLen, Option.some.injEq, Prod.mk.injEq, AV.int.injEq, true_and, and_true] at h0
    have : zs = [] := List.length_eq_zero_iff.1 (by omega)
    subst this
    exact Ints.nil
  case esl =>
    simp only [sLen, Option.some.injEq, Prod.mk.injEq, AV.int.injEq, true_and, and_true] at h0
    have : zs = [] := List.length_eq_zero_iff.1 (by omega)
    subst this
    exact Ints.esl
  case sl id off len cap sz =>
    have := hz _ _ _ _ _ rfl
    subst this
    simp only [sLen, Option.some.injEq, Prod.mk.injEq, AV.int.injEq, true_and, and_true] at h0
    have hl : zs.length = len := by omega
    refine Ints.sl hl fun i hi => ?_
    obtain ⟨id', off', h1, h2⟩ := H.get i (by omega)
    have := sIxS_at (h1 ⟨0, [], [], 0, false⟩) hz
    simp only [cellAt, AV.ptr.injEq, Nat.mul_one] at this
    obtain ⟨rfl, rfl⟩ := this
    exact h2

theorem Ints.top {n len : Nat} {cap : Option Nat} {c : Nat} {w : Bool} (hl : zs.length = len) : Ints ((n, { cells := ints k zs, ch := c, wr := w }) :: bs) k (.sl n 0 len cap 1) zs :=
  Ints.of_old (IsInts.top hl) fun _ _ _ _ _ e => by cases e; rfl

theorem Ints.mono {bs' : List (Nat × Blk)} (H : Ints bs k a zs) (hm : ∀ id off v, cellB bs id off = some v → cellB bs' id off = some v) : Ints bs' k a zs := by
  rcases H with h | h | ⟨id, off, cap, rfl, hc⟩
  · exact .inl h
  · exact .inr (.inl h)
  · exact .inr (.inr ⟨id, off, cap, rfl, fun i hi => hm _ _ _ (hc i hi)⟩)

/-- The first elements. -/
theorem Ints.pre (H : Ints bs k a zs) {n m : Nat} {cap : Option Nat} {id off : Nat} (ha : a = .sl id off n cap 1) (hm : m ≤ n) (cap' : Option Nat) : Ints bs k (.sl id off m cap' 1) (zs.take m) := by
  rcases H with ⟨rfl, rfl⟩ | ⟨rfl, rfl⟩ | ⟨id', off', cap'', rfl, hc⟩
  · cases ha
  · cases ha
  · cases ha
    refine Ints.sl (by simp; omega) fun i hi => ?_
    rw [hc i (by omega)]
    simp [List.getD_eq_getElem?_getD, List.getElem?_take_of_lt hi]

end

theorem cellB_grown {h h' : Hp} (hok : Hok h) (g : Grown h h') {id off : Nat} {v : AV} (e : cellB h.blks id off = some v) : cellB h'.blks id off = some v := by
  unfold cellB at e ⊢
  cases hb : Abs.lkB h.blks id with
  | none => simp [hb] at e
  | some b => rw [g.lkB (hok _ (lkB_mem' hb)), ← e]

theorem Ints.grown {h h' : Hp} {k : IntKind} {a : AV} {zs : List Int} (H : Ints h.blks k a zs) (hok : Hok h) (g : Grown h h') : Ints h'.blks k a zs :=
  H.mono fun _ _ _ => cellB_grown hok g

theorem evals_pure {P : Program} {T : Tab} {f : Nat} {sf : SFun} (hc : compF P f = some sf) {args : List AV} {h : Hp} {v : AV} (hlen : Nat.ble args.length sf.nt = true)
    (H : wp (Evals P T false) sf.body { fr := initS sf.slots args, hp := { h with base := h.next, esc := false } } fun e s => (match e with | .exit _ => False | _ => True) ∧ ∃ vs, sresVs s.fr s.hp sf.res = some vs ∧ resOf vs = v ∧ s.hp = { h with base := h.next, esc := false }) (hT : T f args = none := by rfl) :
    Evals P T false (.func f) args h (v, h) := by
  obtain ⟨v', h', e, rfl, rfl⟩ := evals_func (Q := fun v' h' => v' = v ∧ h' = h) hc hlen (wp_mono (fun e s Hs => by
    obtain ⟨h1, vs, h2, h3, h4⟩ := Hs
    refine ⟨h1, vs, h2, h3, ?_⟩
    rw [h4]
    simp [leave]) H) hT
  exact e

theorem wpOp_app {C : Spec} {f : Nat → AV} {h : Hp} {z : Bool} {n : Nat} {s x : SX} {K : AV → Hp → Prop} : wpOp C f h (.app z n s x) K = andT (sApp z n h (sev f s) (sev f x)) K .mk := (Eq.refl _).trans rfl
/-- A bound of a slice expression. -/
def sb (f : Nat → AV) : Option SX → Option (Option Nat)
  | some e => some (idx? (sev f e))
  | none => none
theorem sb_none {f : Nat → AV} : sb f none = none := (Eq.refl _).trans rfl
theorem sb_some {f : Nat → AV} {e : SX} : sb f (some e) = some (idx? (sev f e)) := (Eq.refl _).trans rfl

def bndV (d : Nat) : Option (Option Nat) → Option Nat
  | some e => e
  | none => some d

def sSl (m : Nat) (h : Hp) (lo hi : Option (Option Nat)) : AV → Option (AV × Hp)
  | .sl id off len cap sz =>
    match bndV len hi, bndV 0 lo with
    | some hv, some lv =>
      bif Nat.ble lv hv && Nat.beq m sz then
        match cap with
        | some c => bif Nat.ble hv c then
            bif Nat.beq c lv then some (.sl id off (hv - lv) (some 0) sz, h) else some (.sl id (off + lv * sz) (hv - lv) (some (c - lv)) sz, h)
          else none
        | none => bif Nat.ble hv len then bif Nat.blt lv len then some (.sl id (off + lv * sz) (hv - lv) none sz, h) else some (.esl, h) else none
      else none
    | _, _ => none
  | .nilsl =>
    match bndV 0 hi, bndV 0 lo with
    | some 0, some 0 => some (.nilsl, h)
    | _, _ => none
  | .esl =>
    match bndV 0 hi, bndV 0 lo with
    | some 0, some 0 => some (.esl, h)
    | _, _ => none
  | _ => none

theorem wpOp_slice {C : Spec} {f : Nat → AV} {h : Hp} {n : Nat} {x : SX} {lo hi : Option SX} {K : AV → Hp → Prop} : wpOp C f h (.slice n x lo hi) K = andT (sSl n h (sb f lo) (sb f hi) (sev f x)) K .mk := by
  unfold andT
  simp only [wpOp, sexec]
  congr 1
  cases lo <;> cases hi <;> cases sev f x <;> rfl

theorem wpOp_slice3 {C : Spec} {f : Nat → AV} {h : Hp} {n : Nat} {x hi mx : SX} {lo : Option SX} {K : AV → Hp → Prop} : wpOp C f h (.slice3 n x lo hi mx) K = andT (sSl3 n h (idx? (sev f mx)) (idx? (sev f hi)) (bndV 0 (sb f lo)) (sev f x)) K .mk := by
  unfold andT
  simp only [wpOp, sexec]
  congr 1
  cases lo <;> rfl

theorem sSl_nil {m : Nat} {h : Hp} {lo hi : Option (Option Nat)} (h1 : lo = none ∨ lo = some (some 0)) (h2 : hi = none ∨ hi = some (some 0)) : sSl m h lo hi .nilsl = some (.nilsl, h) := by
  rcases h1 with rfl | rfl <;> rcases h2 with rfl | rfl <;> rfl
theorem sSl_esl {m : Nat} {h : Hp} {lo hi : Option (Option Nat)} (h1 : lo = none ∨ lo = some (some 0)) (h2 : hi = none ∨ hi = some (some 0)) : sSl m h lo hi .esl = some (.esl, h) := by
  rcases h1 with rfl | rfl <;> rcases h2 with rfl | rfl <;> rfl
/-- The beginning of a slice whose capacity is known. -/
theorem sSl_pre {h : Hp} {m c id off n sz : Nat} (hm : m ≤ c) (hc : 0 < c) : sSl sz h none (some (some m)) (.sl id off n (some c) sz) = some (.sl id off m (some c) sz, h) := by
  have h1 : Nat.beq c 0 = false := by
    cases hb : Nat.beq c 0
    · rfl
    · exact absurd (Nat.eq_of_beq_eq_true hb) (by omega)
  have h2 : Nat.ble 0 m = true := Nat.ble_eq_true_of_le (Nat.zero_le _)
  simp only [sSl, bndV, h2, Nat.beq_refl, Bool.and_self, cond_true, Nat.ble_eq_true_of_le hm, h1, cond_false, Nat.zero_mul, Nat.add_zero, Nat.sub_zero]
theorem wpOp_mn {C : Spec} {f : Nat → AV} {h : Hp} {x y : SX} {K : AV → Hp → Prop} : wpOp C f h (.mn x y) K = andT ((sMin (sev f x) (sev f y)).map fun v => (v, h)) K .mk := (Eq.refl _).trans rfl
theorem wpOp_mx {C : Spec} {f : Nat → AV} {h : Hp} {x y : SX} {K : AV → Hp → Prop} : wpOp C f h (.mx x y) K = andT ((sMax (sev f x) (sev f y)).map fun v => (v, h)) K .mk := (Eq.refl _).trans rfl
theorem sMin_int {k : IntKind} {a b : Int} : sMin (.int k a) (.int k b) = some (.int k (if b < a then b else a)) := by simp [sMin]
theorem sMax_int {k : IntKind} {a b : Int} : sMax (.int k a) (.int k b) = some (.int k (if a < b then b else a)) := by simp [sMax]
theorem sBS_0 {h : Hp} {z : List AV} : sBS z 0 1 h [] = some (.sl h.next 0 0 (some 0) 1, { next := h.next + 1, blks := (h.next, { cells := [], ch := h.next, wr := true }) :: h.blks, loops := h.loops, base := h.base, esc := h.esc }) := (Eq.refl _).trans rfl
theorem sBS_1 {h : Hp} {k : IntKind} {a : Int} : sBS [.int k 0] 1 1 h [(0, .int k a)] =
    some (.sl h.next 0 1 (some 1) 1, { next := h.next + 1, blks := (h.next, { cells := ints k [a], ch := h.next, wr := true }) :: h.blks, loops := h.loops, base := h.base, esc := h.esc }) := (Eq.refl _).trans rfl
theorem sBin_nil {c : EqC} (hc : c = .slice) : sBin .eql c .nilsl .nilsl = some (.bool true) := by subst hc; rfl
theorem sBin_sl {c : EqC} (hc : c = .slice) {id off len sz : Nat} {cap : Option Nat} : sBin .eql c (.sl id off len cap sz) .nilsl = some (.bool false) := by subst hc; rfl


theorem callT {P : Program} {T : Tab} {g : Bool} {f : Nat} {args : List AV} {h h' : Hp} {v : AV} {K : AV → Hp → Prop} (e : Evals P T g (.func f) args h (v, h')) {tk : Tag K} :
    callT' (Evals P T g) (.fn (.func f) [] []) args h K tk = K v h' := by
  unfold callT'
  rw [callThen_eq (by simpa using e)]

/-- A call that only reads. -/
theorem callR {P : Program} {T : Tab} {g : Bool} {f : Nat} {args : List AV} {h : Hp} {bs : List (Nat × Blk)} {v : AV} {K : AV → Hp → Prop} (e : ∀ h : Hp, h.blks = bs → Evals P T g (.func f) args h (v, h)) (hb : h.blks = bs) {tk : Tag K} :
    callT' (Evals P T g) (.fn (.func f) [] []) args h K tk = K v h := callT (e h hb)

end Go.Abs
