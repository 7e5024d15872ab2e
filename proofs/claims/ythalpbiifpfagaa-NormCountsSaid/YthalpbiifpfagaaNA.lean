/- Quaternions: mathematics. Slices of quaternions. Variables of several cells, read and written below other blocks. -/
import Derived.Test.YthalpbiifpfagaaSR
import Derived.Test.YthalpbiifpfagaaSW
set_option linter.unusedSimpArgs false
set_option linter.unusedVariables false

namespace Go.Nm

structure Qt where
  a : Int
  b : Int
  c : Int
  d : Int
  deriving DecidableEq
/-- All coordinates are even, or all are odd. -/
def Qt.int (x : Qt) : Prop := x.b % 2 = x.a % 2 ∧ x.c % 2 = x.a % 2 ∧ x.d % 2 = x.a % 2
instance (x : Qt) : Decidable x.int := by unfold Qt.int; infer_instance
def Qt.bd (m : Int) (x : Qt) : Prop := (-m ≤ x.a ∧ x.a ≤ m) ∧ (-m ≤ x.b ∧ x.b ≤ m) ∧ (-m ≤ x.c ∧ x.c ≤ m) ∧ (-m ≤ x.d ∧ x.d ≤ m)
def Qt.sa (x y : Qt) : Int := x.a * y.a - x.b * y.b - x.c * y.c - x.d * y.d
def Qt.sb (x y : Qt) : Int := x.a * y.b + x.b * y.a + x.c * y.d - x.d * y.c
def Qt.sc (x y : Qt) : Int := x.a * y.c - x.b * y.d + x.c * y.a + x.d * y.b
def Qt.sd (x y : Qt) : Int := x.a * y.d + x.b * y.c - x.c * y.b + x.d * y.a
def Qt.mul (x y : Qt) : Qt := ⟨(x.sa y) / 2, (x.sb y) / 2, (x.sc y) / 2, (x.sd y) / 2⟩
def Qt.sq (x : Qt) : Int := x.a * x.a + x.b * x.b + x.c * x.c + x.d * x.d
def Qt.nrm (x : Qt) : Int := x.sq / 4
def Qt.conj (x : Qt) : Qt := ⟨x.a, -x.b, -x.c, -x.d⟩
def Qt.at (x : Qt) : Nat → Int
  | 0 => x.a
  | 1 => x.b
  | 2 => x.c
  | _ => x.d
theorem mul_bd {x y : Int} (A B : Int) (hx : -A ≤ x ∧ x ≤ A) (hy : -B ≤ y ∧ y ≤ B) : -(A * B) ≤ x * y ∧ x * y ≤ A * B := by
  have hA : 0 ≤ A := by omega
  have hB : 0 ≤ B := by omega
  have h1 : x.natAbs ≤ A.natAbs := by omega
  have h2 : y.natAbs ≤ B.natAbs := by omega
  have h3 := Nat.mul_le_mul h1 h2
  rw [← Int.natAbs_mul, ← Int.natAbs_mul] at h3
  have h4 : 0 ≤ A * B := Int.mul_nonneg hA hB
  omega
theorem tdiv_even {a b : Int} (h : a % b = 0) : a.tdiv b = a / b := Int.tdiv_eq_ediv_of_dvd (Int.dvd_of_emod_eq_zero h)
/-- Halves. -/
theorem Qt.int.ex {x : Qt} (h : x.int) : ∃ p i j k l : Int, (p = 0 ∨ p = 1) ∧ x = ⟨p + 2 * i, p + 2 * j, p + 2 * k, p + 2 * l⟩ := by
  obtain ⟨a, b, c, d⟩ := x
  obtain ⟨h1, h2, h3⟩ := h
  simp only at h1 h2 h3
  refine ⟨a % 2, a / 2, b / 2, c / 2, d / 2, by omega, ?_⟩
  simp only [Qt.mk.injEq]
  omega
theorem prod2 (p q i j : Int) (hp : p = 0 ∨ p = 1) (hq : q = 0 ∨ q = 1) : (p + 2 * i) * (q + 2 * j) = p * q + 2 * (p * j) + 2 * (q * i) + 4 * (i * j) := by grind
theorem Qt.mul_int {x y : Qt} (hx : x.int) (hy : y.int) : x.sa y % 2 = 0 ∧ x.sb y % 2 = 0 ∧ x.sc y % 2 = 0 ∧ x.sd y % 2 = 0 ∧ (x.mul y).int := by
  obtain ⟨p, i, j, k, l, hp, rfl⟩ := hx.ex
  obtain ⟨q, i', j', k', l', hq, rfl⟩ := hy.ex
  simp only [Qt.int, Qt.mul, Qt.sa, Qt.sb, Qt.sc, Qt.sd, prod2 p q _ _ hp hq]
  rcases hp with rfl | rfl <;> rcases hq with rfl | rfl <;> simp only [Int.zero_mul, Int.mul_zero, Int.one_mul, Int.mul_one] <;> omega
theorem Qt.mul_two {x y : Qt} (hx : x.int) (hy : y.int) : 2 * (x.mul y).a = x.sa y ∧ 2 * (x.mul y).b = x.sb y ∧ 2 * (x.mul y).c = x.sc y ∧ 2 * (x.mul y).d = x.sd y := by
  obtain ⟨h1, h2, h3, h4, _⟩ := Qt.mul_int hx hy
  simp only [Qt.mul]
  omega
theorem Qt.sq_four {x : Qt} (hx : x.int) : x.sq = 4 * x.nrm := by
  obtain ⟨p, i, j, k, l, hp, rfl⟩ := hx.ex
  simp only [Qt.nrm, Qt.sq, prod2 p p _ _ hp hp]
  rcases hp with rfl | rfl <;> simp only [Int.zero_mul, Int.mul_zero, Int.one_mul, Int.mul_one] <;> omega
theorem four_sq (x y : Qt) : x.sa y * x.sa y + x.sb y * x.sb y + x.sc y * x.sc y + x.sd y * x.sd y = x.sq * y.sq := by
  simp only [Qt.sa, Qt.sb, Qt.sc, Qt.sd, Qt.sq]
  grind
theorem Qt.nrm_mul {x y : Qt} (hx : x.int) (hy : y.int) : (x.mul y).nrm = x.nrm * y.nrm := by
  obtain ⟨h1, h2, h3, h4⟩ := Qt.mul_two hx hy
  have h5 := four_sq x y
  rw [← h1, ← h2, ← h3, ← h4, Qt.sq_four hx, Qt.sq_four hy] at h5
  have h6 := Qt.sq_four (Qt.mul_int hx hy).2.2.2.2
  generalize x.mul y = m at *
  have h7 : 4 * m.sq = 16 * (x.nrm * y.nrm) := by
    rw [Qt.sq]
    grind
  omega
theorem Qt.conj_int {x : Qt} (h : x.int) : x.conj.int := by
  obtain ⟨a, b, c, d⟩ := x
  simp only [Qt.int, Qt.conj] at *
  omega
theorem Qt.conj_mul {x y : Qt} : (y.conj).mul x.conj = ⟨x.sa y / 2, -x.sb y / 2, -x.sc y / 2, -x.sd y / 2⟩ := by
  simp only [Qt.mul, Qt.sa, Qt.sb, Qt.sc, Qt.sd, Qt.conj, Qt.mk.injEq]
  refine ⟨?_, ?_, ?_, ?_⟩ <;> congr 1 <;> grind
theorem Qt.conj_mul' {x y : Qt} (hx : x.int) (hy : y.int) : (x.mul y).conj = (y.conj).mul x.conj := by
  obtain ⟨h1, h2, h3, h4, _⟩ := Qt.mul_int hx hy
  rw [Qt.conj_mul]
  simp only [Qt.mul, Qt.conj, Qt.mk.injEq, true_and]
  omega
theorem Qt.mul_conj {x : Qt} (hx : x.int) : x.mul x.conj = ⟨2 * x.nrm, 0, 0, 0⟩ := by
  have h := Qt.sq_four hx
  have e1 : x.sa x.conj = x.sq := by simp only [Qt.sa, Qt.conj, Qt.sq]; grind
  have e2 : x.sb x.conj = 0 := by simp only [Qt.sb, Qt.conj]; grind
  have e3 : x.sc x.conj = 0 := by simp only [Qt.sc, Qt.conj]; grind
  have e4 : x.sd x.conj = 0 := by simp only [Qt.sd, Qt.conj]; grind
  simp only [Qt.mul, e1, e2, e3, e4, Qt.mk.injEq]
  omega

end Go.Nm


set_option linter.unusedSimpArgs false
set_option linter.unusedVariables false
set_option maxHeartbeats 1000000

namespace Go.Abs

open Go Go.Nm

instance : Inhabited Qt := ⟨⟨0, 0, 0, 0⟩⟩
def quads (l : List Qt) : List AV := l.flatMap fun p => [.int .i64 p.a, .int .i64 p.b, .int .i64 p.c, .int .i64 p.d]
theorem quads_len : ∀ {l : List Qt}, (quads l).length = l.length * 4
  | [] => rfl
  | p :: r => by
    have := quads_len (l := r)
    simp only [quads, List.flatMap_cons, List.length_append, List.length_cons, List.length_nil] at this ⊢
    omega
theorem quads_cons {p : Qt} {r : List Qt} : quads (p :: r) = .int .i64 p.a :: .int .i64 p.b :: .int .i64 p.c :: .int .i64 p.d :: quads r := by simp [quads]
theorem quads_append {l m : List Qt} : quads (l ++ m) = quads l ++ quads m := by simp [quads]
theorem quads_at : ∀ {l : List Qt} {i : Nat}, i < l.length → ((quads l).drop (i * 4)).take 4 = [.int .i64 (l.getD i default).a, .int .i64 (l.getD i default).b, .int .i64 (l.getD i default).c, .int .i64 (l.getD i default).d]
  | [], i, h => by simp at h
  | p :: r, 0, _ => by simp [quads_cons]
  | p :: r, i + 1, h => by
    have := quads_at (l := r) (i := i) (by simpa using h)
    rw [quads_cons, show (i + 1) * 4 = i * 4 + 1 + 1 + 1 + 1 by omega, List.drop_succ_cons, List.drop_succ_cons, List.drop_succ_cons, List.drop_succ_cons, this]
    simp
theorem quads_get {l : List Qt} {i j : Nat} (hi : i < l.length) (hj : j < 4) : (quads l)[i * 4 + j]? = some (.int .i64 ((l.getD i default).at j)) := by
  have h := quads_at hi
  have h2 := congrArg (fun x => x[j]?) h
  simp only [List.getElem?_take, List.getElem?_drop, if_pos hj] at h2
  rw [h2]
  rcases (by omega : j = 0 ∨ j = 1 ∨ j = 2 ∨ j = 3) with rfl | rfl | rfl | rfl <;> rfl
theorem all_cell_quads {l : List Qt} : (quads l).all AV.isCell = true := by
  simp only [quads, List.all_flatMap, List.all_eq_true]
  intro p _ x hx
  simp at hx
  rcases hx with rfl | rfl | rfl | rfl <;> rfl
theorem refsOK_quads {n : Nat} {l : List Qt} : refsOK n (quads l) = true := refsOK_iff.2 fun a ha => by
  simp only [quads, List.mem_flatMap] at ha
  obtain ⟨p, _, ha⟩ := ha
  simp at ha
  rcases ha with rfl | rfl | rfl | rfl <;> rfl

def Quads (bs : List (Nat × Blk)) (a : AV) (l : List Qt) : Prop := Arr bs 4 a l.length (quads l)
section
variable {bs bs' : List (Nat × Blk)} {a : AV} {l : List Qt}
theorem Quads.nil : Quads bs .nilsl [] := Arr.nil
theorem Quads.esl : Quads bs .esl [] := Arr.esl
theorem Quads.sub (H : Quads bs a l) (s : Sub bs bs') : Quads bs' a l := Arr.sub H s
theorem Quads.len (H : Quads bs a l) : ∀ h, sLen h a = some (.int .i64 l.length, h) := Arr.len H
theorem Quads.ix (H : Quads bs a l) {i : Nat} (h : Hp) (hi : i < l.length) : sIxS 4 h (some i) a = some (cellAt a i, h) := Arr.ix H h hi
theorem Quads.fa (H : Quads bs a l) {i j : Nat} (hi : i < l.length) : sFa j (cellAt a i) = some (cellF a i j) := Arr.fa H hi
theorem Quads.ld (H : Quads bs a l) (s : Sub bs bs') {i j : Nat} (hi : i < l.length) (hj : j < 4) : cellV bs' a i j = some (.int .i64 ((l.getD i default).at j)) := by
  rw [Arr.ld H s hi (by omega), quads_get hi hj]
theorem Quads.lda (H : Quads bs a l) (s : Sub bs bs') {i : Nat} (hi : i < l.length) : aggV bs' a i 4 = some (AV.ag [.int .i64 ((l.getD i default)).a, .int .i64 ((l.getD i default)).b, .int .i64 ((l.getD i default)).c, .int .i64 ((l.getD i default)).d]) := by
  rw [Arr.lda H s hi (by omega), quads_at hi]
theorem Quads.top {n len c : Nat} {cap : Option Nat} {w : Bool} (hl : l.length = len) (hcap : capOK len cap) : Quads ((n, { cells := quads l, ch := c, wr := w }) :: bs) (.sl n 0 len cap 4) l := by
  subst hl
  exact ⟨by simp [quads_len], .inr ⟨n, 0, cap, rfl, hcap, fun j hj => by rw [cellB_hit, Nat.zero_add]⟩⟩
end

def OwnQ (c : Nat) (bs : List (Nat × Blk)) (s : AV) (l : List Qt) : Prop := OwnA 4 c bs s l.length (quads l)
section
variable {c : Nat} {bs bs' : List (Nat × Blk)} {s : AV} {l : List Qt}
theorem OwnQ.quads (O : OwnQ c bs s l) : Quads bs s l := OwnA.arr O
theorem OwnQ.sub (O : OwnQ c bs s l) (t : Sub bs bs') : OwnQ c bs' s l := OwnA.sub O t
theorem OwnQ.nil : OwnQ c bs .nilsl [] := OwnA.nil
theorem OwnQ.ref {m : Nat} {ls : List (Nat × LoopA)} (O : OwnQ c bs s l) (hk : HokR m bs ls) : refOK m s = true := OwnA.ref O hk
theorem OwnQ.leave {h h1 : Hp} (O : OwnQ h.next h1.blks s l) : (refOK h.next s = true → OwnQ h.next h.blks s l) ∧ (refOK h.next s = false → OwnQ h.next h1.blks s l) := OwnA.leave O
theorem OwnQ.le {c' : Nat} (O : OwnQ c bs s l) (h : c' ≤ c) : OwnQ c' bs s l := OwnA.le O h
theorem OwnQ.fresh {n len cap : Nat} {cs : List AV} (hc : c ≤ n) (hl : l.length = len) (ht : cs.take (len * 4) = Abs.quads l) (hn : cs.length = cap * 4) (hle : len ≤ cap) :
    OwnQ c ((n, { cells := cs, ch := n, wr := true }) :: bs) (.sl n 0 len (some cap) 4) l := by
  subst hl
  exact OwnA.fresh hc quads_len ht hn hle
end

theorem own_appQ {h0 h : Hp} {s x : AV} {l m : List Qt} (ho : Hok h0) (g : Grown h0 h) (O : OwnQ h0.next h.blks s l) (hx : Quads h.blks x m) (hl : l.length + m.length ≤ 1073741824) :
    ∃ s' h', sApp true 4 h s x = some (s', h') ∧ OwnQ h0.next h'.blks s' (l ++ m) ∧ Grown h0 h' ∧ (0 < m.length → s' ≠ .nilsl) := by
  obtain ⟨s', h', e, o, g', n⟩ := own_app ho g O hx (by omega) all_cell_quads hl
  refine ⟨s', h', e, ?_, g', n⟩
  unfold OwnQ
  rw [List.length_append, quads_append]
  exact o

theorem own_appQ1 {h0 h : Hp} {s : AV} {l : List Qt} {q : Qt} (ho : Hok h0) (g : Grown h0 h) (O : OwnQ h0.next h.blks s l) (hl : l.length + 1 ≤ 1073741824) :
    ∃ s' h', sApp true 4 { next := h.next + 1, blks := (h.next, { cells := [.int .i64 q.a, .int .i64 q.b, .int .i64 q.c, .int .i64 q.d], ch := h.next, wr := true }) :: h.blks, loops := h.loops, base := h.base, esc := h.esc } s (.sl h.next 0 1 (some 1) 4) = some (s', h') ∧
      OwnQ h0.next h'.blks s' (l ++ [q]) ∧ Grown h0 h' ∧ s' ≠ .nilsl := by
  have g1 : Grown h0 { next := h.next + 1, blks := (h.next, { cells := [.int .i64 q.a, .int .i64 q.b, .int .i64 q.c, .int .i64 q.d], ch := h.next, wr := true }) :: h.blks, loops := h.loops, base := h.base, esc := h.esc } := GrownR.push g rfl (Nat.le_refl _)
  have hx : Quads ((h.next, { cells := [.int .i64 q.a, .int .i64 q.b, .int .i64 q.c, .int .i64 q.d], ch := h.next, wr := true }) :: h.blks) (.sl h.next 0 1 (some 1) 4) [q] := by
    have := Quads.top (bs := h.blks) (n := h.next) (len := 1) (c := h.next) (cap := some 1) (w := true) (l := [q]) rfl (Nat.le_refl 1)
    rwa [show quads [q] = [.int .i64 q.a, .int .i64 q.b, .int .i64 q.c, .int .i64 q.d] from rfl] at this
  obtain ⟨s', h', e, o, g', n⟩ := own_appQ (x := .sl h.next 0 1 (some 1) 4) (m := [q]) ho g1 (O.sub (Sub.push (Sub.refl _) (HokR.fresh (g.ok ho)))) hx (by simpa using hl)
  exact ⟨s', h', e, o, g', n (by simp)⟩

/-- A call that is known, up to unification. -/
theorem callP {P : Program} {T : Tab} {g : Bool} {f : Nat} {args : List AV} {h h' : Hp} {v : AV} {K : AV → Hp → Prop} (e : Evals P T g (.func f) args h (v, h')) (k : K v h') {tk : Tag K} :
    callT' (Evals P T g) (.fn (.func f) [] []) args h K tk := by rw [callT e]; exact k

end Go.Abs


set_option linter.unusedSimpArgs false
set_option linter.unusedVariables false
set_option maxHeartbeats 1000000

namespace Go.Abs

open Go

theorem lkB_truncs {c s n id : Nat} : ∀ {l : List (Nat × Blk)} {b : Blk}, lkB l id = some b → ∃ b', lkB (trunc l c s n) id = some b' ∧ (b' = b ∨ (b.ch = c ∧ b' = { b with cells := b.cells.take n }))
  | [], b, h => by simp [lkB] at h
  | (j, d) :: r, b, h => by
    simp only [trunc]
    cases hj : Nat.blt j c
    · simp only [cond_false]
      simp only [lkB] at h ⊢
      cases he : Nat.beq j id
      · rw [he] at h
        simp only [cond_false] at h ⊢
        exact lkB_truncs h
      · rw [he] at h
        simp only [cond_true, Option.some.injEq] at h ⊢
        subst h
        cases hq : (Nat.beq d.ch c && !Nat.beq j s)
        · exact ⟨_, rfl, .inl rfl⟩
        · simp only [Bool.and_eq_true] at hq
          exact ⟨_, rfl, .inr ⟨Nat.eq_of_beq_eq_true hq.1, rfl⟩⟩
    · exact ⟨b, h, .inl rfl⟩
theorem lkB_trunc_ne {c s n id : Nat} {l : List (Nat × Blk)} {b : Blk} (h : lkB l id = some b) (hc : b.ch ≠ c) : lkB (trunc l c s n) id = some b := by
  obtain ⟨b', e, hb⟩ := lkB_truncs (c := c) (s := s) (n := n) h
  rcases hb with rfl | ⟨hch, _⟩
  · exact e
  · exact absurd hch hc
theorem lkB_setB_ne {id j : Nat} {v : Blk} (hne : j ≠ id) : ∀ {l : List (Nat × Blk)}, lkB (setB l id v) j = lkB l j
  | [] => rfl
  | (i, b) :: r => by
    simp only [setB]
    cases hi : Nat.beq i id
    · simp only [cond_false, lkB]
      rw [lkB_setB_ne hne]
    · have := Nat.eq_of_beq_eq_true hi
      subst this
      simp only [cond_true, lkB, nb (Ne.symm hne), cond_false]

/-- A variable's block. -/
def Var (bs : List (Nat × Blk)) (id : Nat) (cs : List AV) : Prop := lkB bs id = some { cells := cs, ch := id, wr := true }
theorem Var.top {bs : List (Nat × Blk)} {id : Nat} {cs : List AV} : Var ((id, { cells := cs, ch := id, wr := true }) :: bs) id cs := lkB_top
theorem Var.push {bs : List (Nat × Blk)} {id n : Nat} {cs : List AV} {b : Blk} (V : Var bs id cs) (h : id < n) : Var ((n, b) :: bs) id cs := by
  unfold Var; rw [lkB_push (by omega)]; exact V
theorem Var.sub {bs bs' : List (Nat × Blk)} {id : Nat} {cs : List AV} (V : Var bs id cs) (s : Sub bs bs') : Var bs' id cs := s _ _ V
theorem Var.ld {bs : List (Nat × Blk)} {id off k : Nat} {cs : List AV} (V : Var bs id cs) : aggB bs id off k = (slice? cs off k).map .ag := by
  unfold aggB; rw [V]; rfl
theorem Var.ld1 {bs : List (Nat × Blk)} {id off : Nat} {cs : List AV} (V : Var bs id cs) : cellB bs id off = cs[off]? := by
  unfold cellB; rw [V]; rfl

/-- What a store to a variable leaves. -/
structure Kept (id : Nat) (bs bs' : List (Nat × Blk)) : Prop where
  k : ∀ j d, j ≠ id → lkB bs j = some d → d.ch ≠ id → lkB bs' j = some d
theorem Kept.var {id j : Nat} {bs bs' : List (Nat × Blk)} {cs : List AV} (K : Kept id bs bs') (V : Var bs j cs) (h : j ≠ id) : Var bs' j cs := K.k j _ h V h
theorem Kept.arr {id sz n c : Nat} {bs bs' : List (Nat × Blk)} {s : AV} {cs : List AV} (K : Kept id bs bs') (O : OwnA sz c bs s n cs) (h : id < c) : OwnA sz c bs' s n cs := by
  obtain ⟨hl, O | ⟨i, b, cap, rfl, h1, h2, h3, h4, h5⟩⟩ := O
  · exact ⟨hl, .inl O⟩
  · exact ⟨hl, .inr ⟨i, b, cap, rfl, K.k i b (by omega) h1 (by omega), h2, h3, h4, h5⟩⟩

theorem stV {h0 : Hp} {id off n nx m bb : Nat} {e : Bool} {bs : List (Nat × Blk)} {ls : List (Nat × LoopA)} {v : AV} {cs vs : List AV} {K : AV → Hp → Prop} {tk : Tag K} (ho : Hok h0) (g : GrownR h0 m bs ls) (V : Var bs id cs) (hid : h0.next ≤ id)
    (hp : v.parts = some vs) (hn : vs.length = n) (hl : off + n ≤ cs.length) (hc : vs.all AV.isCell = true) (hr : vs.any AV.hasRef = false) (hf : refsOK m vs = true)
    (H : ∀ bs', Var bs' id (splice cs off vs) → GrownR h0 m bs' ls → Kept id bs bs' → Sub h0.blks bs' → K .any { next := nx, blks := bs', loops := ls, base := bb, esc := e }) :
    andT (sStore n { next := nx, blks := bs, loops := ls, base := bb, esc := e } v (.ptr id off)) K tk := by
  have gg : Grown h0 { next := m, blks := bs, loops := ls, base := bb, esc := e } := g
  have hV : lkB bs id = some { cells := cs, ch := id, wr := true } := V
  obtain ⟨h', w1, w2, w3, w4⟩ := own_write (off := off) (vs := vs) ho gg hV hid hid rfl (by simp only; omega) hc hf
  have hb : Nat.ble (off + vs.length) cs.length = true := Nat.ble_eq_true_of_le (by omega)
  have e0 : ∀ nx, Hp.write { next := nx, blks := bs, loops := ls, base := bb, esc := e } id off vs = some { next := nx, blks := setB (trunc bs id id off) id { cells := splice cs off vs, ch := id, wr := true }, loops := ls, base := bb, esc := e } := by
    intro nx
    simp only [Hp.write, hV, hb, hc, hr, Bool.and_self, cond_true, Bool.and_false, Bool.or_false]
  have e1 := e0 nx
  rw [e0 m] at w1
  obtain ⟨rfl⟩ : _ = h' := Option.some.inj w1
  have es : sStore n { next := nx, blks := bs, loops := ls, base := bb, esc := e } v (.ptr id off) = some (.any, { next := nx, blks := setB (trunc bs id id off) id { cells := splice cs off vs, ch := id, wr := true }, loops := ls, base := bb, esc := e }) := by
    simp only [sStore, hp, hn, Nat.beq_refl, cond_true, e1, Option.map_some]
  rw [es]
  refine H _ w2 w3 ⟨fun j d hj hd hdc => ?_⟩ (w3.sub ho)
  rw [lkB_setB_ne hj]
  exact lkB_trunc_ne hd hdc

theorem stA {h0 : Hp} {id n nx m bb : Nat} {e : Bool} {bs : List (Nat × Blk)} {ls : List (Nat × LoopA)} {cs vs : List AV} {K : AV → Hp → Prop} {tk : Tag K} (ho : Hok h0) (g : GrownR h0 m bs ls) (V : Var bs id cs) (hid : h0.next ≤ id)
    (hn : vs.length = n) (hl : cs.length = n) (hc : vs.all AV.isCell = true) (hr : vs.any AV.hasRef = false) (hf : refsOK m vs = true)
    (H : ∀ bs', Var bs' id vs → GrownR h0 m bs' ls → Kept id bs bs' → Sub h0.blks bs' → K .any { next := nx, blks := bs', loops := ls, base := bb, esc := e }) :
    andT (sStore n { next := nx, blks := bs, loops := ls, base := bb, esc := e } (.ag vs) (.ptr id 0)) K tk := by
  have hs : splice cs 0 vs = vs := by simp [splice, hn, ← hl]
  refine stV ho g V hid rfl hn (by omega) hc hr hf ?_
  rw [hs]
  exact H

theorem stI {h0 : Hp} {id nx m bb : Nat} {e : Bool} {bs : List (Nat × Blk)} {ls : List (Nat × LoopA)} {w : AV} {k : IntKind} {x : Int} {K : AV → Hp → Prop} {tk : Tag K} (ho : Hok h0) (g : GrownR h0 m bs ls) (V : Var bs id [w]) (hid : h0.next ≤ id)
    (H : ∀ bs', Var bs' id [.int k x] → GrownR h0 m bs' ls → Kept id bs bs' → Sub h0.blks bs' → K .any { next := nx, blks := bs', loops := ls, base := bb, esc := e }) :
    andT (sStore 1 { next := nx, blks := bs, loops := ls, base := bb, esc := e } (.int k x) (.ptr id 0)) K tk := by
  have hs : splice [w] 0 [.int k x] = [.int k x] := by simp [splice]
  refine stV ho g V hid rfl rfl (by simp) rfl rfl rfl ?_
  rw [hs]
  exact H

/-- Off one's own slices. -/
theorem slice?_4' {k : IntKind} {a b c d : Int} : slice? [.int k a, .int k b, .int k c, .int k d] 0 4 = some [.int k a, .int k b, .int k c, .int k d] := rfl

end Go.Abs


namespace Go.Abs

theorem GrownR.up {h : Hp} {n m : Nat} {bs : List (Nat × Blk)} {ls : List (Nat × LoopA)} (g : GrownR h n bs ls) (hm : n ≤ m) : GrownR h m bs ls :=
  ⟨g.blks, Nat.le_trans g.next hm, fun hk => (g.ok hk).up hm, g.loops⟩
theorem andT_pushB {x : Nat × Blk} {r : Option (AV × Hp)} {K : AV → Hp → Prop} {tk : Tag K} :
    andT (pushB x r) K tk = andT r (fun v h => K v { next := h.next, blks := x :: h.blks, loops := h.loops, base := h.base, esc := h.esc }) .mk := by
  cases r <;> rfl
theorem agz_t {x : Go.Nm.Qt} (h : x = ⟨0, 0, 0, 0⟩) : (x.a == 0 && (x.b == 0 && (x.c == 0 && x.d == 0))) = true := by subst h; rfl
theorem agz_f {x : Go.Nm.Qt} (h : x ≠ ⟨0, 0, 0, 0⟩) : (x.a == 0 && (x.b == 0 && (x.c == 0 && x.d == 0))) = false := by
  cases hb : (x.a == 0 && (x.b == 0 && (x.c == 0 && x.d == 0)))
  · rfl
  · exfalso
    simp only [Bool.and_eq_true, beq_iff_eq] at hb
    apply h
    cases x
    simp only at hb
    obtain ⟨rfl, rfl, rfl, rfl⟩ := hb
    rfl

end Go.Abs

