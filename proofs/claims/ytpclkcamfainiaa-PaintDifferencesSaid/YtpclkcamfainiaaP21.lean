/- Colourings that are counted. -/
import Derived.Test.YtpclkcamfainiaaP20
set_option linter.unusedSimpArgs false
set_option linter.unusedVariables false
set_option maxHeartbeats 4000000
set_option maxRecDepth 20000
namespace Go.Abs
/-- The blocks when a variable was written s times. -/
def cntW (W : List (Nat × Blk)) (c : Nat) (cv : Nat → AV) : Nat → List (Nat × Blk)
  | 0 => W
  | s + 1 => setB (trunc (cntW W c cv s) c c 0) c { cells := [cv (s + 1)], ch := c, wr := true }
section
variable {W : List (Nat × Blk)} {c : Nat} {cv : Nat → AV}
theorem cntW_keys : ∀ s, (cntW W c cv s).map (·.1) = W.map (·.1)
  | 0 => rfl
  | s + 1 => by rw [cntW, setB_keys, trunc_keys, cntW_keys s]
theorem cntW_len (s : Nat) : (cntW W c cv s).length = W.length := by
  have := congrArg List.length (cntW_keys (W := W) (c := c) (cv := cv) s)
  simpa using this
theorem cntW_at (h : lkB W c = some { cells := [cv 0], ch := c, wr := true }) : ∀ s, lkB (cntW W c cv s) c = some { cells := [cv s], ch := c, wr := true }
  | 0 => h
  | s + 1 => lkB_setB_same _ _ _ _ (lkB_trunc_some c c 0 (cntW_at h s) (.inr rfl))
theorem cntW_ne {i : Nat} {d : Blk} (hi : i ≠ c) (hd : d.ch ≠ c) (h : lkB W i = some d) : ∀ s, lkB (cntW W c cv s) i = some d
  | 0 => h
  | s + 1 => by rw [cntW, lkB_setB_ne hi]; exact lkB_trunc_ne (cntW_ne hi hd h s) hd
theorem cntW_ok {n : Nat} {ls : List (Nat × LoopA)} (H : HokR n W ls) (hc : c < n) (hr : ∀ s, refOK n (cv s) = true) : ∀ s, HokR n (cntW W c cv s) ls
  | 0 => H
  | s + 1 => HokR.mk' (fun x hx => by
      rcases setB_mem hx with hx | ⟨rfl, _⟩
      · exact (cntW_ok H hc hr s).trunc.blk hx
      · exact ⟨hc, Nat.le_refl _, by simp only [refsOK_cons, refsOK_nil, Bool.and_true]; exact hr _⟩) fun x hx => H.lps hx
theorem cntW_over {lim : Nat} {old : List (Nat × Blk)} (ho : ∀ x ∈ old, x.1 < lim) (hc : lim ≤ c) (H : Over lim old W) : ∀ s, Over lim old (cntW W c cv s)
  | 0 => H
  | s + 1 => by
    obtain ⟨new, en, fn⟩ := cntW_over ho hc H s
    obtain ⟨new', en', f1⟩ := @trunc_app c c 0 lim old ho hc new fn
    refine ⟨setB new' c { cells := [cv (s + 1)], ch := c, wr := true }, ?_, fun x hx => ?_⟩
    · rw [cntW, en, en', setB_app fun x hx => by have := ho x hx; omega]
    · rcases setB_mem hx with hx | ⟨rfl, _⟩
      · exact f1 x hx
      · exact hc
end
theorem trunc_new {W : List (Nat × Blk)} {c s n : Nat} : ∀ new : List (Nat × Blk), (∀ x ∈ new, c ≤ x.1) → ∃ new', trunc (new ++ W) c s n = new' ++ trunc W c s n ∧ new'.map (·.1) = new.map (·.1)
  | [], _ => ⟨[], rfl, rfl⟩
  | (j, b) :: r, h => by
    obtain ⟨new', e, m⟩ := trunc_new (W := W) (s := s) (n := n) r fun x hx => h x (by simp [hx])
    have hj : Nat.blt j c = false := by
      cases hb : Nat.blt j c
      · rfl
      · rw [Nat.blt_eq] at hb
        have := h (j, b) (by simp)
        simp only at this
        omega
    refine ⟨_ :: new', by simp only [List.cons_append, trunc, hj, cond_false, e]; rfl, by simp [m]⟩
theorem setB_new {W : List (Nat × Blk)} {id : Nat} {v : Blk} : ∀ new : List (Nat × Blk), (∀ x ∈ new, x.1 ≠ id) → setB (new ++ W) id v = new ++ setB W id v
  | [], _ => rfl
  | (j, b) :: r, h => by
    simp only [List.cons_append, setB, nb (h (j, b) (by simp)), cond_false, setB_new r fun x hx => h x (by simp [hx])]
/-- A write to an elder variable, with new blocks on top. -/
theorem store_lit {h : Hp} {new W : List (Nat × Blk)} {c : Nat} {v w : AV} (hb : h.blks = new ++ W) (hn : ∀ x ∈ new, c < x.1) (hl : lkB W c = some { cells := [w], ch := c, wr := true }) (hp : v.parts = some [v] ∧ v.isCell = true) :
    ∃ h', sStore 1 h v (.ptr c 0) = some (.any, h') ∧ ∃ new', h'.blks = new' ++ setB (trunc W c c 0) c { cells := [v], ch := c, wr := true } ∧ new'.map (·.1) = new.map (·.1) := by
  have h1 : lkB h.blks c = some { cells := [w], ch := c, wr := true } := by rw [hb, lkB_app (fun x hx => by have := hn x hx; omega)]; exact hl
  have h3 : Nat.ble (0 + [v].length) [w].length = true := rfl
  obtain ⟨new', e, m⟩ := trunc_new (W := W) (c := c) (s := c) (n := 0) new (fun x hx => by have := hn x hx; omega)
  refine ⟨{ h with blks := setB (trunc h.blks c c 0) c { cells := [v], ch := c, wr := true }, esc := h.esc || (Nat.blt c h.base && [v].any AV.hasRef) }, ?_, new', ?_, m⟩
  · simp only [sStore, hp.1, List.length_singleton, Nat.beq_refl, cond_true, Hp.write, h1, List.all_cons, List.all_nil, hp.2, Bool.and_true, Bool.true_and, Option.map_some]
    rfl
  · simp only
    rw [hb, e, setB_new]
    intro x hx
    have : x.1 ∈ new.map (·.1) := by rw [← m]; exact List.mem_map_of_mem hx
    obtain ⟨y, hy, ey⟩ := List.mem_map.1 this
    have := hn y hy
    omega
end Go.Abs
namespace Go.Pt
open Go Go.Abs
/-- The counter's value. -/
def cvN : Nat → Int
  | 0 => 0
  | s + 1 => IntKind.wrap .i64 (cvN s + 1)
theorem cvN_eq : ∀ s, s ≤ 1000000 → cvN s = s
  | 0, _ => rfl
  | s + 1, h => by
    rw [cvN, cvN_eq s (by omega), wrap_i64 (by omega) (by omega)]
    rfl
def cvA (s : Nat) : AV := .int .i64 (cvN s)
theorem runC_count : ∀ {l : List (List Int)} {s : Nat}, runC' (fun (s : Nat) _ => some (s + 1)) s l = .inl (s + l.length)
  | [], s => rfl
  | z :: l, s => by
    simp only [runC']
    rw [runC_count]
    simp only [List.length_cons]
    congr 1
    omega
end Go.Pt
namespace Go.Proofs.Ytpclkcamfainiaa
open Go Go.Abs Go.Pt

theorem rc_ps : (rfAt Try.prog 33 0).1 = #[22] := by kernel_rfl
theorem rc_a : compC Try.prog 6422983 26 (rfAt Try.prog 33 0).2.1 = some .skip := by kernel_rfl
theorem rc_b : compC Try.prog 6422983 26 (rfAt Try.prog 33 0).2.2 = some (.block 1 (.ops [⟨(some 23), none, .load none (.t 8)⟩, ⟨(some 24), none, .bin .add .no (.t 23) (.c (.int .i64 1))⟩, ⟨none, none, .store 1 (.t 8) (.t 24)⟩] [])) := by kernel_rfl

@[reducible] noncomputable def cntE (n k l : Int) (clo : AV) (c : Nat) : LoopA := { st := 0, jump := none, ps := (rfAt Try.prog 33 0).1, assign := (rfAt Try.prog 33 0).2.1, body := (rfAt Try.prog 33 0).2.2, keep := 6422983, n := 26, fr := [(0, .int .i64 n), (1, .int .i64 k), (2, .int .i64 l), (6, .int .i64 0), (7, .int .i64 0), (8, .ptr c 0), (17, .bool false), (21, clo), (22, .any)] }
/-- The heap in the loop, after some rounds. -/
@[reducible] noncomputable def cntB (hR : Hp) (c : Nat) (e : LoopA) (s : Nat) : Hp := { next := hR.next + 1, blks := cntW hR.blks c cvA s, loops := (hR.next, e) :: hR.loops, base := hR.base, esc := hR.esc }

/-- A round counts. -/
theorem count_round (n k l : Int) (clo : AV) (c : Nat) (hR h : Hp) (a : AV) (s : Nat) (ho : ∃ h0 : Hp, Hok h0 ∧ Over h0.next h0.blks hR.blks ∧ c = h0.next) (hc : lkB hR.blks c = some { cells := [cvA 0], ch := c, wr := true }) (hcn : c < hR.next)
    (hB : Hok (cntB hR c (cntE n k l clo c) s)) (g : Grown (cntB hR c (cntE n k l clo c) s) h) :
    ∃ b h', Evals Try.prog tab false (.yield hR.next) [a] h (b, h') ∧ (Elder h h' ∧ b = .bool true ∧ Grown (cntB hR c (cntE n k l clo c) (s + 1)) h' ∧ (∀ i d, hR.next + 1 ≤ i → hR.next + 1 ≤ d.ch → lkB h.blks i = some d → lkB h'.blks i = some d)) := by
  have hl : lkL h.loops hR.next = some (cntE n k l clo c) := by rw [g.loops]; exact lkL_top
  have hk := g.ok hB
  refine evals_yield (a := .skip) (fr := [(0, .int .i64 n), (1, .int .i64 k), (2, .int .i64 l), (6, .int .i64 0), (7, .int .i64 0), (8, .ptr c 0), (17, .bool false), (21, clo), (22, a)]) hl rfl (by rw [show (cntE n k l clo c).ps = #[22] from rc_ps]; show (#[22].toList.all fun t => Nat.testBit 6422983 t && Nat.blt t 26) = true; decide) rc_a rc_b (by rw [show (cntE n k l clo c).ps = #[22] from rc_ps]; rfl) ?_
  have hls : h.loops = (hR.next, cntE n k l clo c) :: hR.loops := g.loops
  obtain ⟨new, eb, fb⟩ := g.blks
  simp only at eb fb
  obtain ⟨h0, hk0, ov0, e0⟩ := ho
  have hlt : ∀ x ∈ h0.blks, x.1 < h0.next := fun x hx => (hk0.blk hx).1
  obtain ⟨newW, eW, fW⟩ := cntW_over (cv := cvA) (c := c) hlt (by omega) ov0 s
  have hat := cntW_at (cv := cvA) hc s
  obtain ⟨hA, eA⟩ : ∃ hA : Hp, hA = { next := h.next, blks := h.blks, loops := (hR.next, { cntE n k l clo c with st := 1 }) :: hR.loops, base := h.base, esc := h.esc } := ⟨_, rfl⟩
  have kA : Hok hA := by
    rw [eA]
    have : HokR h.next h.blks ((hR.next, cntE n k l clo c) :: hR.loops) := by rw [← hls]; exact hk
    exact Hok.loop this rfl
  have bA : hA.blks = new ++ cntW hR.blks c cvA s := by rw [eA]; exact eb
  have nA : hA.next = h.next := by rw [eA]
  have lA : hA.loops = (hR.next, { cntE n k l clo c with st := 1 }) :: hR.loops := by rw [eA]
  have hnc : ∀ x ∈ new, c < x.1 := fun x hx => by have := fb x hx; omega
  have cA : lkB hA.blks c = some { cells := [cvA s], ch := c, wr := true } := by rw [bA, lkB_app (fun x hx => by have := hnc x hx; omega)]; exact hat
  have ov : Over h0.next h0.blks hA.blks := ⟨new ++ newW, by rw [bA, eW, List.append_assoc], fun x hx => by
    rcases List.mem_append.1 hx with hx | hx
    · have := hnc x hx; omega
    · exact fW x hx⟩
  obtain ⟨h1, w1, l1, o1, k1, n1, ls1, x1, r1⟩ := store_old (id := c) (v := cvA (s + 1)) kA ov hlt cA (by omega) ⟨rfl, rfl⟩ rfl
  obtain ⟨h1', w1', new', b1, m1⟩ := store_lit (v := cvA (s + 1)) bA hnc hat ⟨rfl, rfl⟩
  rw [w1] at w1'
  cases w1'
  have hcell : cellB hA.blks c 0 = some (.int .i64 (cvN s)) := by simp only [cellB, cA, Option.bind_some]; rfl
  have e2 : h1.loops = (hR.next, { cntE n k l clo c with st := 1 }) :: hR.loops := by rw [ls1, lA]
  have sl : setL h.loops hR.next { cntE n k l clo c with st := 1 } = (hR.next, { cntE n k l clo c with st := 1 }) :: hR.loops := by rw [hls, setL_top]
  have xA : Elder h hA := by rw [eA]; exact ⟨⟨[], h.blks, rfl, rfl, by simp⟩, Nat.le_refl _⟩
  have w2 : sStore 1 hA (.int .i64 (IntKind.wrap .i64 (cvN s + 1))) (.ptr c 0) = some (.any, h1) := w1
  rw [Go.Abs.wp_skip]
  refine ⟨rfl, _, hl, rfl, ?_⟩
  simp only [sl, ← eA]
  simp (disch := first | (simp only [Nat.reduceBEq, elem_hit, elem_miss, elem_nil]; done) | ((repeat' (first | assumption | exact Sub.refl _ | refine Sub.push ?_ ?_ | exact HokR.fresh (by assumption) | refine Fresh.push ?_ | refine HokR.push ?_ ?_ ?_ | exact Grown.refl | refine GrownR.push ?_ ?_ ?_ | exact refsOK_ints | exact refsOK_pairs | exact Nat.le_refl _ | (simp only [wM, Nat.reduceAdd, Nat.reduceLT, Nat.reduceLeDiff]; done))); done) | omega | decide) only [hcell, w2, wrap_i64, idx?_pos, Int.toNat_natCast, ↓wA, wB, resOf, Option.map_some, Option.map_none, List.map_cons, List.map_nil, List.nil_append, List.append_nil, List.cons_append, Nat.reduceBEq, List.getElem?_cons_zero, List.getElem?_cons_succ, List.getElem?_nil, Option.getD_some, Option.getD_none, cond_false, cond_true, and_true, true_and, Nat.zero_add, Nat.mul_one, Int.reduceBEq, Int.reduceBNe, Int.reduceLT, Int.reduceLE, Int.reduceAdd, Int.reduceSub, Int.reduceMul, decide_true, decide_false, Bool.not_true, Bool.not_false, beq_self_eq_true, bne_self_eq_false, and_self, List.isEmpty_nil, List.isEmpty_cons, Bool.true_or, Bool.false_or, List.set_cons_zero, List.set_cons_succ, List.length_cons, List.length_nil, Option.bind_some, List.all_cons, List.all_nil, Bool.or_true, Bool.true_and, Bool.and_true, Int.reduceToNat]
  refine ⟨{ cntE n k l clo c with st := 1 }, by rw [e2, lkL_top], ?_⟩
  have ef : setL h1.loops hR.next { cntE n k l clo c with st := 0, jump := none } = (hR.next, cntE n k l clo c) :: hR.loops := by rw [e2, setL_top]
  have kf : HokR h1.next h1.blks ((hR.next, cntE n k l clo c) :: hR.loops) := by
    have : HokR h1.next h1.blks ((hR.next, { cntE n k l clo c with st := 1 }) :: hR.loops) := by rw [← e2]; exact k1
    exact Hok.loop this rfl
  refine ⟨⟨(xA.trans x1).blks, (xA.trans x1).next⟩, rfl, ⟨⟨new', by simp only; rw [b1]; rfl, fun x hx => ?_⟩, ?_, fun _ => ?_, ef⟩, fun i d hi hd hx => r1 i d (by omega) (by rw [eA]; exact hx) (by omega)⟩
  · have : x.1 ∈ new.map (·.1) := by rw [← m1]; exact List.mem_map_of_mem hx
    obtain ⟨y, hy, ey⟩ := List.mem_map.1 this
    have := fb y hy
    simp only at ey ⊢
    omega
  · have := g.next
    simp only at this ⊢
    rw [n1, nA]
    exact this
  · rw [ef]
    exact kf
end Go.Proofs.Ytpclkcamfainiaa
