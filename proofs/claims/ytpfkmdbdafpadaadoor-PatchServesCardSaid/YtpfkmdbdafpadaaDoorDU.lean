/- Slices of one's own that shrink: the block may be longer. -/
import Derived.Test.YtpfkmdbdafpadaaDoorSN
import Derived.Test.YtpfkmdbdafpadaaDoorSX
set_option linter.unusedSimpArgs false
set_option linter.unusedVariables false
set_option maxHeartbeats 4000000
namespace Go.Abs
/-- The beginning of a block that was made at c or later, of unknown capacity. -/
def OwnD (sz c : Nat) (bs : List (Nat × Blk)) (s : AV) (n : Nat) (cs : List AV) : Prop :=
  cs.length = n * sz ∧ ((n = 0 ∧ s = .nilsl) ∨
  (∃ id b, s = .sl id 0 n none sz ∧ lkB bs id = some b ∧ b.cells.take (n * sz) = cs ∧ n * sz ≤ b.cells.length ∧ c ≤ id ∧ c ≤ b.ch ∧ b.wr = true))
section
variable {sz c n : Nat} {bs bs' : List (Nat × Blk)} {s : AV} {cs : List AV}
theorem OwnD.nil : OwnD sz c bs .nilsl 0 [] := ⟨by simp, .inl ⟨rfl, rfl⟩⟩
theorem OwnD.arr (O : OwnD sz c bs s n cs) : Arr bs sz s n cs := by
  obtain ⟨hl, ⟨rfl, rfl⟩ | ⟨id, b, rfl, h1, h2, h3, h4, h5, h6⟩⟩ := O
  · exact ⟨hl, .inl ⟨rfl, .inl rfl⟩⟩
  · refine ⟨hl, .inr ⟨id, 0, none, rfl, trivial, fun j hj => ?_⟩⟩
    rw [Nat.zero_add]
    simp only [cellB, h1, Option.bind_some]
    rw [← h2, List.getElem?_take_of_lt hj]
theorem OwnD.sub (O : OwnD sz c bs s n cs) (t : Sub bs bs') : OwnD sz c bs' s n cs := by
  obtain ⟨hl, O | ⟨id, b, h1, h2, h3⟩⟩ := O
  · exact ⟨hl, .inl O⟩
  · exact ⟨hl, .inr ⟨id, b, h1, t _ _ h2, h3⟩⟩
theorem OwnD.le {c' : Nat} (O : OwnD sz c bs s n cs) (h : c' ≤ c) : OwnD sz c' bs s n cs := by
  obtain ⟨hl, O | ⟨id, b, h1, h2, h3, h4, h5, h6, h7⟩⟩ := O
  · exact ⟨hl, .inl O⟩
  · exact ⟨hl, .inr ⟨id, b, h1, h2, h3, h4, by omega, by omega, h7⟩⟩
theorem OwnD.ref {m : Nat} {ls : List (Nat × LoopA)} (O : OwnD sz c bs s n cs) (hk : HokR m bs ls) : refOK m s = true := by
  obtain ⟨hl, ⟨rfl, rfl⟩ | ⟨id, b, rfl, h1, h2⟩⟩ := O
  · rfl
  · simp only [refOK, Nat.blt_eq]
    exact (hk.get h1).1
/-- Its chain: the slice is nil, or its block lies in this chain. -/
def InCh (bs : List (Nat × Blk)) (s : AV) (ch : Nat) : Prop := ∀ id off n cap sz, s = .sl id off n cap sz → ∃ b, lkB bs id = some b ∧ b.ch = ch
end
/-- append to it; ch is its chain, or that of the block which the append makes. -/
theorem ownD_app {h0 h : Hp} {sz n m : Nat} {s x : AV} {cs xs : List AV} (ho : Hok h0) (g : Grown h0 h) (O : OwnD sz h0.next h.blks s n cs) (hx : Arr h.blks sz x (m + 1) xs) (h0' : 0 < sz) (hc : xs.all AV.isCell = true) (hl : n + (m + 1) ≤ 1073741824) :
    ∃ s' h', sApp true sz h s x = some (s', h') ∧ OwnD sz h0.next h'.blks s' (n + (m + 1)) (cs ++ xs) ∧ Grown h0 h' ∧ Elder h h' ∧ (chOf h'.blks s' = chOf h.blks s ∨ ∃ k, chOf h'.blks s' = some k ∧ h.next ≤ k) ∧
      ∀ j d, lkB h.blks j = some d → (∀ id off n cap sz b, s = .sl id off n cap sz → lkB h.blks id = some b → d.ch ≠ b.ch) → lkB h'.blks j = some d := by
  have hsrc := hx.src h0' h rfl
  have hk := g.ok ho
  have hr := hx.refs hk
  have hxl := hx.1
  have hcl := O.1
  simp only [sApp, hsrc]
  have nz : Nat.beq (m + 1) 0 = false := rfl
  have hlen : (cs ++ xs).length = (n + (m + 1)) * sz := by rw [List.length_append, hxl, hcl, ← Nat.add_mul]
  have mk : ∀ (c : Nat) (bs), h0.next ≤ c → OwnD sz h0.next ((h.next, { cells := cs ++ xs, ch := c, wr := true }) :: bs) (.sl h.next 0 (n + (m + 1)) none sz) (n + (m + 1)) (cs ++ xs) := fun c bs hc =>
    ⟨hlen, .inr ⟨h.next, { cells := cs ++ xs, ch := c, wr := true }, rfl, lkB_top, List.take_of_length_le (Nat.le_of_eq hlen), Nat.le_of_eq hlen.symm, g.next, hc, rfl⟩⟩
  obtain ⟨hl', ⟨rfl, rfl⟩ | ⟨id, b, rfl, h2, h3, h7, h4, h5, h6⟩⟩ := O
  · have : cs = [] := List.length_eq_zero_iff.1 (by simpa using hcl)
    subst this
    simp only [Nat.zero_add] at hl
    simp only [sAppend, nz, cond_false, Nat.ble_eq_true_of_le hl, hc, Bool.and_self, cond_true, Hp.new]
    have := mk h.next h.blks g.next
    simp only [List.nil_append, Nat.zero_add] at this ⊢
    exact ⟨_, _, rfl, this, GrownR.push g (refsOK_mono (Nat.le_succ _) hr) (Nat.le_refl _), ⟨⟨[_], h.blks, rfl, rfl, by simp⟩, Nat.le_succ _⟩, .inr ⟨h.next, by simp only [chOf, lkB_top, Option.map_some], Nat.le_refl _⟩, fun j d hd _ => Sub.push (Sub.refl _) (HokR.fresh hk) _ _ hd⟩
  · have e1 : Nat.ble (n + (m + 1)) 1073741824 = true := Nat.ble_eq_true_of_le hl
    have hcs : refsOK h.next cs = true := by
      rw [← h3]
      exact refsOK_sub (hk.get h2).2.2 fun a ha => List.mem_of_mem_take ha
    have es : Nat.blt 0 sz = true := by rw [Nat.blt_eq]; exact h0'
    cases hf : Nat.ble (0 + (n + (m + 1)) * sz) b.cells.length
    · have e3 : Nat.ble (n * sz) b.cells.length = true := Nat.ble_eq_true_of_le h7
      simp only [sAppend, Nat.beq_refl, Bool.not_true, cond_false, nz, e1, hc, Bool.and_self, h2, hf, Bool.and_false, h6, e3, cond_true, h3]
      obtain ⟨new, en, fn⟩ := g.blks
      obtain ⟨new', en', f1⟩ := @trunc_app b.ch h.next (n * sz) h0.next h0.blks (fun x hx => (ho.blk hx).1) (by omega) new fn
      have gt : GrownR h0 h.next (Abs.trunc h.blks b.ch h.next (n * sz)) h.loops := ⟨⟨new', by rw [en, en'], f1⟩, g.next, fun _ => hk.trunc, g.loops⟩
      refine ⟨_, _, rfl, mk _ _ h5, gt.push (refsOK_mono (Nat.le_succ _) (refsOK_append hcs hr)) (by have := hk.get h2; omega), ⟨⟨[_], _, rfl, by rw [trunc_keys], by simp⟩, Nat.le_succ _⟩, .inl (by simp only [chOf, lkB_top, h2, Option.map_some]), fun j d hd hne => ?_⟩
      rw [lkB_push (Nat.ne_of_lt (hk.get hd).1)]
      obtain ⟨d', e, hb⟩ := lkB_truncs (c := b.ch) (s := h.next) (n := n * sz) hd
      rcases hb with rfl | ⟨q, _⟩
      · exact e
      · exact absurd q (hne _ _ _ _ _ _ rfl h2)
    · have hle : 0 + n * sz + xs.length ≤ b.cells.length := by
        have := Nat.le_of_ble_eq_true hf
        rw [hxl]
        rw [Nat.add_mul] at this
        omega
      obtain ⟨h', w1, w2, w3, w4, w5, w6, w7⟩ := write_old (off := 0 + n * sz) (vs := xs) hk g.blks (fun x hx => (ho.blk hx).1) h2 h4 h5 h6 hle hc hr
      simp only [sAppend, Nat.beq_refl, Bool.not_true, cond_false, nz, e1, hc, Bool.and_self, h2, hf, es, cond_true, w1, Option.map_some]
      refine ⟨_, _, rfl, ⟨hlen, .inr ⟨id, _, rfl, w2, ?_, ?_, h4, h5, h6⟩⟩, ⟨w3, by rw [w5]; exact g.next, fun _ => w4, by rw [w6]; exact g.loops⟩, write_elder w1, .inl (by simp only [chOf, w2, h2, Option.map_some]), fun j d hd hne => ?_⟩
      · simp only
        rw [Nat.zero_add, Nat.add_mul, ← hxl, splice_take (by omega), h3]
      · simp only
        rw [splice_len hle]
        rw [Nat.add_mul, ← hxl]; omega
      · by_cases hj : j = id
        · subst hj
          rw [h2] at hd
          cases hd
          exact absurd rfl (hne _ _ _ _ _ _ rfl h2)
        · exact w7 j d hj hd (hne _ _ _ _ _ _ rfl h2)
/-- Delete of one element. -/
theorem ownD_del {h0 h : Hp} {sz n i id : Nat} {cs z : List AV} {b : Blk} (ho : Hok h0) (g : Grown h0 h) (h2 : lkB h.blks id = some b) (h3 : b.cells.take (n * sz) = cs) (h7 : n * sz ≤ b.cells.length) (h4 : h0.next ≤ id) (h5 : h0.next ≤ b.ch) (h6 : b.wr = true)
    (hs : 0 < sz) (hi : i < n) (hcl : cs.all AV.isCell = true) (hz : z.length = sz) (hzc : z.all AV.isCell = true) (hzr : ∀ m, refsOK m z = true) :
    ∃ h', delA sz z h id 0 n i = some h' ∧ OwnD sz h0.next h'.blks (.sl id 0 (n - 1) none sz) (n - 1) (cs.take (i * sz) ++ cs.drop ((i + 1) * sz)) ∧ Grown h0 h' ∧ h'.next = h.next ∧ chOf h'.blks (.sl id 0 (n - 1) none sz) = some b.ch ∧
      ∀ j d, lkB h.blks j = some d → d.ch ≠ b.ch → lkB h'.blks j = some d := by
  have hk := g.ok ho
  have hn1 : n * sz = (n - 1) * sz + sz := by
    obtain ⟨p, rfl⟩ : ∃ p, n = p + 1 := ⟨n - 1, by omega⟩
    rw [Nat.succ_mul]; rfl
  have hi1 : (i + 1) * sz = i * sz + sz := Nat.succ_mul _ _
  have hin : (i + 1) * sz ≤ n * sz := Nat.mul_le_mul_right sz hi
  have lcs : cs.length = n * sz := by rw [← h3, List.length_take]; omega
  have hlt : ∀ x ∈ h0.blks, x.1 < h0.next := fun x hx => (ho.blk hx).1
  have tk : ∀ a, a ≤ n * sz → b.cells.take a = cs.take a := fun a ha => by rw [← h3, List.take_take, Nat.min_eq_left ha]
  -- the last write
  have last : ∀ (h1 : Hp) (b1 : Blk), Hok h1 → Over h0.next h0.blks h1.blks → lkB h1.blks id = some b1 → b1.ch = b.ch → b1.wr = true → b1.cells.length = b.cells.length → b1.cells.take ((n - 1) * sz) = cs.take (i * sz) ++ cs.drop ((i + 1) * sz) → h1.next = h.next → h1.loops = h.loops →
      (∀ j d, lkB h.blks j = some d → d.ch ≠ b.ch → lkB h1.blks j = some d) →
      ∃ h', (h1.write id (0 + (n - 1) * sz) z).map (fun h2 => { h2 with base := h.base, esc := h.esc }) = some h' ∧ OwnD sz h0.next h'.blks (.sl id 0 (n - 1) none sz) (n - 1) (cs.take (i * sz) ++ cs.drop ((i + 1) * sz)) ∧ Grown h0 h' ∧ h'.next = h.next ∧ chOf h'.blks (.sl id 0 (n - 1) none sz) = some b.ch ∧
        ∀ j d, lkB h.blks j = some d → d.ch ≠ b.ch → lkB h'.blks j = some d := fun h1 b1 k1 ov l1 q1 q2 q3 q4 q5 q6 q7 => by
    have hle : 0 + (n - 1) * sz + z.length ≤ b1.cells.length := by rw [hz, q3]; omega
    obtain ⟨h', w1, w2, w3, w4, w5, w6, w7⟩ := write_old (off := 0 + (n - 1) * sz) (vs := z) k1 ov hlt l1 h4 (by rw [q1]; exact h5) q2 hle hzc (hzr _)
    refine ⟨{ h' with base := h.base, esc := h.esc }, by rw [w1]; rfl, ⟨?_, .inr ⟨id, _, rfl, w2, ?_, ?_, h4, by simp only [q1]; exact h5, q2⟩⟩, ⟨w3, ?_, fun _ => HokR.mk' (fun x hx => w4.blk hx) fun x hx => w4.lps hx, ?_⟩, ?_, by simp only [chOf, w2, Option.map_some, q1], fun j d hd hne => ?_⟩
    · rw [List.length_append, List.length_take, List.length_drop, lcs]; omega
    · simp only
      rw [← q4]
      unfold splice
      rw [List.append_assoc, List.take_append_of_le_length (by simp; omega), List.take_take, Nat.zero_add, Nat.min_self]
    · simp only
      rw [splice_len hle, q3]; omega
    · show h0.next ≤ h'.next
      rw [w5, q5]; exact g.next
    · show h'.loops = h0.loops
      rw [w6, q6]; exact g.loops
    · show h'.next = h.next
      rw [w5, q5]
    · by_cases hj : j = id
      · subst hj
        rw [h2] at hd
        cases hd
        exact absurd rfl hne
      · exact w7 j d hj (q7 j d hd hne) (by rw [q1]; exact hne)
  unfold delA
  by_cases hin' : i + 1 = n
  · have es : srcCells h.en sz (.sl id (0 + (i + 1) * sz) (n - (i + 1)) none sz) = some ([], 0) := by
      simp only [srcCells, show n - (i + 1) = 0 by omega, Nat.beq_refl, cond_true]
    rw [es]
    simp only [show Nat.beq (i + 1) n = true by rw [hin', Nat.beq_refl], cond_true]
    refine last h.en b hk g.blks h2 rfl h6 rfl ?_ rfl rfl fun j d hd _ => hd
    rw [tk _ (by omega), show n - 1 = i by omega, List.drop_of_length_le (by rw [lcs, hin']; omega), List.append_nil]
  · have es : srcCells h.en sz (.sl id (0 + (i + 1) * sz) (n - (i + 1)) none sz) = some (cs.drop ((i + 1) * sz), n - (i + 1)) := by
      have n0 : Nat.beq (n - (i + 1)) 0 = false := nb (by omega)
      have hm : (n - (i + 1)) * sz = n * sz - (i + 1) * sz := Nat.sub_mul _ _ _
      have hsl : slice? b.cells (0 + (i + 1) * sz) ((n - (i + 1)) * sz) = some (cs.drop ((i + 1) * sz)) := by
        have hle : Nat.ble (0 + (i + 1) * sz + (n - (i + 1)) * sz) b.cells.length = true := Nat.ble_eq_true_of_le (by omega)
        simp only [slice?, hle, cond_true]
        rw [← h3, List.drop_take, hm, Nat.zero_add]
      have h2' : lkB h.en.blks id = some b := h2
      simp only [srcCells, n0, cond_false, h2', hsl, Option.map_some]
    rw [es]
    have hvl : (cs.drop ((i + 1) * sz)).length = n * sz - (i + 1) * sz := by rw [List.length_drop, lcs]
    have hle : 0 + i * sz + (cs.drop ((i + 1) * sz)).length ≤ b.cells.length := by rw [hvl]; omega
    have hvc : (cs.drop ((i + 1) * sz)).all AV.isCell = true := List.all_eq_true.2 fun x hx => List.all_eq_true.1 hcl x (List.mem_of_mem_drop hx)
    have hcr : refsOK h.next cs = true := by rw [← h3]; exact refsOK_sub (hk.get h2).2.2 fun a ha => List.mem_of_mem_take ha
    obtain ⟨h1, w1, w2, w3, w4, w5, w6, w7⟩ := write_old (h := h.en) (off := 0 + i * sz) (vs := cs.drop ((i + 1) * sz)) hk g.blks hlt h2 h4 h5 h6 hle hvc (refsOK_sub hcr fun a ha => List.mem_of_mem_drop ha)
    simp only [nb hin', cond_false, w1]
    refine last h1 _ w4 w3 w2 rfl h6 (splice_len hle) ?_ w5 w6 fun j d hd hne => ?_
    · simp only
      have e : (n - 1) * sz = 0 + i * sz + (cs.drop ((i + 1) * sz)).length := by rw [hvl]; omega
      rw [e, splice_take hle, Nat.zero_add, tk _ (by omega)]
    · by_cases hj : j = id
      · subst hj
        rw [h2] at hd
        cases hd
        exact absurd rfl hne
      · exact w7 j d hj hd hne
end Go.Abs
