/- Slices and variables in a loop over a function. -/
import Derived.Test.YtelalpohbodolaaDoorD1
set_option linter.unusedSimpArgs false
set_option linter.unusedVariables false
set_option maxHeartbeats 4000000
set_option maxRecDepth 20000
namespace Go.Abs
open Go
/-- append to a slice of one's own, over blocks that don't change: what is of other chains stays. -/
theorem app_over {h : Hp} {old : List (Nat × Blk)} {lim c sz n m : Nat} {s x : AV} {cs xs : List AV} (hk : Hok h) (ov : Over lim old h.blks) (hlt : ∀ x ∈ old, x.1 < lim) (hlc : lim ≤ c) (hcn : c ≤ h.next)
    (O : OwnA sz c h.blks s n cs) (hx : Arr h.blks sz x (m + 1) xs) (h0' : 0 < sz) (hc : xs.all AV.isCell = true) (hl : n + (m + 1) ≤ 1073741824) :
    ∃ s' h', sApp true sz h s x = some (s', h') ∧ OwnA sz c h'.blks s' (n + (m + 1)) (cs ++ xs) ∧ Over lim old h'.blks ∧ Hok h' ∧ h.next ≤ h'.next ∧ h'.loops = h.loops ∧ Elder h h' ∧ s' ≠ .nilsl ∧
      ∀ j d, d.ch < c → lkB h.blks j = some d → lkB h'.blks j = some d := by
  have hsrc := hx.src h0' h rfl
  have hr := hx.refs hk
  have hxl := hx.1
  have hcl := O.1
  simp only [sApp, hsrc]
  have nz : Nat.beq (m + 1) 0 = false := rfl
  have hp : 0 < (m + 1) * sz := Nat.mul_pos (Nat.succ_pos m) h0'
  have hlen : (cs ++ xs).length = (n + (m + 1)) * sz := by rw [List.length_append, hxl, hcl, ← Nat.add_mul]
  have mk : ∀ (ch : Nat) (bs), c ≤ ch → OwnA sz c ((h.next, { cells := cs ++ xs, ch := ch, wr := true }) :: bs) (.sl h.next 0 (n + (m + 1)) none sz) (n + (m + 1)) (cs ++ xs) := fun ch bs hch =>
    ⟨hlen, .inr ⟨h.next, { cells := cs ++ xs, ch := ch, wr := true }, none, rfl, lkB_top, List.take_of_length_le (Nat.le_of_eq hlen), hcn, hch, rfl, by omega, hlen⟩⟩
  obtain ⟨new, en, fn⟩ := ov
  have push : ∀ {bs : List (Nat × Blk)} {b : Blk}, (∃ new', bs = new' ++ old ∧ ∀ x ∈ new', lim ≤ x.1) → Over lim old ((h.next, b) :: bs) := fun {bs b} ⟨n', e', f'⟩ =>
    ⟨(h.next, b) :: n', by rw [e']; rfl, fun y hy => by
      rcases List.mem_cons.1 hy with rfl | hy
      · simp only; omega
      · exact f' y hy⟩
  obtain ⟨hl', ⟨rfl, rfl⟩ | ⟨id, b, cap, rfl, h2, h3, h4, h5, h6, h7⟩⟩ := O
  · have : cs = [] := List.length_eq_zero_iff.1 (by simpa using hcl)
    subst this
    simp only [Nat.zero_add] at hl
    simp only [sAppend, nz, cond_false, Nat.ble_eq_true_of_le hl, hc, Bool.and_self, cond_true, Hp.new]
    have := mk h.next h.blks hcn
    simp only [List.nil_append, Nat.zero_add] at this ⊢
    refine ⟨_, _, rfl, this, push ⟨new, en, fn⟩, HokR.push hk (refsOK_mono (Nat.le_succ _) hr) (Nat.le_refl _), Nat.le_succ _, rfl, ⟨⟨[_], h.blks, rfl, rfl, by simp⟩, Nat.le_succ _⟩, (by intro e; cases e), fun j d _ hd => Sub.push (Sub.refl _) (HokR.fresh hk) _ _ hd⟩
  · have e1 : Nat.ble (n + (m + 1)) 1073741824 = true := Nat.ble_eq_true_of_le hl
    have hcs : refsOK h.next cs = true := by
      rw [← h3]
      exact refsOK_sub (hk.get h2).2.2 fun a ha => List.mem_of_mem_take ha
    cases cap with
    | none =>
      obtain ⟨hne, h7⟩ := h7
      have e2 : Nat.ble (0 + (n + (m + 1)) * sz) b.cells.length = false := by
        rw [h7]
        cases hb : Nat.ble (0 + (n + (m + 1)) * sz) (n * sz)
        · rfl
        · have := Nat.le_of_ble_eq_true hb
          rw [Nat.add_mul] at this
          omega
      have e3 : Nat.ble (n * sz) b.cells.length = true := by rw [h7]; exact Nat.ble_eq_true_of_le (by omega)
      simp only [sAppend, Nat.beq_refl, Bool.not_true, cond_false, nz, e1, hc, Bool.and_self, h2, e2, Bool.and_false, h6, e3, cond_true, h3]
      obtain ⟨new', en', f1⟩ := @trunc_app b.ch h.next (n * sz) lim old hlt (by omega) new fn
      refine ⟨_, _, rfl, mk _ _ h5, push ⟨new', by rw [en, en'], f1⟩, HokR.push hk.trunc (refsOK_mono (Nat.le_succ _) (refsOK_append hcs hr)) (by have := hk.get h2; omega), Nat.le_succ _, rfl, ⟨⟨[_], _, rfl, by rw [trunc_keys], by simp⟩, Nat.le_succ _⟩, (by intro e; cases e), fun j d hd hj => ?_⟩
      rw [lkB_push (Nat.ne_of_lt (hk.get hj).1)]
      exact lkB_trunc_ne hj (by omega)
    | some k =>
      obtain ⟨h7, h8⟩ := h7
      simp only [sAppend, Nat.beq_refl, Bool.not_true, cond_false, nz, e1, hc, Bool.and_self, h2]
      have hnk : n * sz ≤ k * sz := Nat.mul_le_mul_right sz h8
      cases hf : Nat.ble (n + (m + 1)) k
      · have e3 : slice? b.cells 0 (n * sz) = some cs := by
          simp only [slice?, Nat.ble_eq_true_of_le (show 0 + n * sz ≤ b.cells.length by omega), cond_true, List.drop_zero, h3]
        simp only [cond_false, e3, Hp.new]
        exact ⟨_, _, rfl, mk _ _ hcn, push ⟨new, en, fn⟩, HokR.push hk (refsOK_mono (Nat.le_succ _) (refsOK_append hcs hr)) (Nat.le_refl _), Nat.le_succ _, rfl, ⟨⟨[_], h.blks, rfl, rfl, by simp⟩, Nat.le_succ _⟩, (by intro e; cases e), fun j d _ hd => Sub.push (Sub.refl _) (HokR.fresh hk) _ _ hd⟩
      · have hfit := Nat.le_of_ble_eq_true hf
        have hfs : (n + (m + 1)) * sz ≤ k * sz := Nat.mul_le_mul_right sz hfit
        have hle : 0 + n * sz + xs.length ≤ b.cells.length := by rw [hxl, h7]; rw [Nat.add_mul] at hfs; omega
        obtain ⟨h', w1, w2, w3, w4, w5, w6, w7⟩ := write_old (off := 0 + n * sz) (vs := xs) hk ⟨new, en, fn⟩ hlt h2 (by omega) (by omega) h6 hle hc hr
        have w8 := write_elder w1
        simp only [cond_true, w1, Option.map_some]
        refine ⟨_, _, rfl, ⟨hlen, .inr ⟨id, _, some k, rfl, w2, ?_, h4, h5, h6, ?_, hfit⟩⟩, w3, w4, by rw [w5]; exact Nat.le_refl _, w6, w8, (by intro e; cases e), fun j d hd hj => ?_⟩
        · rw [Nat.zero_add, Nat.add_mul, ← hxl]
          simp only
          rw [splice_take (by omega), h3]
        · simp only
          rw [splice_len hle]
          exact h7
        · by_cases e : j = id
          · subst e
            rw [h2] at hj
            cases hj
            omega
          · exact w7 j d e hj (by omega)

/-- The state of affairs in a loop over a function: record l, over the heap h0 of the function's beginning. -/
structure LI (h0 : Hp) (l : Nat) (e : LoopA) (V : Nat → List (Nat × Blk) → Prop) (k : Nat) (h : Hp) : Prop where
  over : Over h0.next h0.blks h.blks
  ok : Hok h
  nx : l + 1 ≤ h.next
  lps : h.loops = (l, e) :: h0.loops
  v : V k h.blks
/-- What is said of blocks survives when a call leaves. -/
def Keepy (N0 : Nat) (V : Nat → List (Nat × Blk) → Prop) : Prop := ∀ k d bs bs' ls, V k bs → N0 ≤ d → HokR d bs' ls → (∀ id, id < d → lkB bs' id = lkB bs id) → V k bs'
theorem LI.leave {h0 h h1 : Hp} {l : Nat} {e e1 : LoopA} {V V1 : Nat → List (Nat × Blk) → Prop} {j k : Nat} {v : AV} (K : Keepy (l + 1) V1) (H : LI h0 l e V j h) (H1 : LI h0 l e1 V1 k h1) (hf : e1.fr = e.fr) (h5 : e1.st < 4) (x : Elder h h1) : LI h0 l e1 V1 k (leave false h v h1) := by
  rcases leave_two (v := v) x with eq | ⟨_, new, old, hb, hm, hn, hk, eq⟩ <;> rw [eq]
  · exact ⟨H1.over, H1.ok, H1.nx, H1.lps, H1.v⟩
  · have hll : lowL h.next h1.loops = (l, e1) :: h0.loops := by
      rw [H1.lps]
      refine lowL_same fun x hx => ?_
      have ho := H.ok
      have hls := H.lps
      have ho : HokR h.next h.blks ((l, e) :: h0.loops) := by rw [← hls]; exact ho
      have ho : HokR h.next h.blks ((l, e1) :: h0.loops) := Hok.loop ho hf h5
      exact HokR.lps ho hx
    refine ⟨?_, hk, H.nx, hll, K k h.next h1.blks old _ H1.v H.nx hk fun id hid => by rw [hb]; exact (keys_split H.ok hm hn id hid)⟩
    obtain ⟨N, eN, fN⟩ := H1.over
    obtain ⟨M, eM, fM⟩ := H.over
    obtain ⟨m, em, hm2⟩ := drop_base (B := h0.blks) (N := N) (new := new) (old := old) (by rw [← eN, hb]) (by
      have := congrArg List.length hm
      simp only [List.length_map] at this
      rw [this, eM, List.length_append]
      omega)
    exact ⟨m, em, fun y hy => fN y (hm2 y hy)⟩
theorem LI.en {h0 h : Hp} {l : Nat} {e : LoopA} {V : Nat → List (Nat × Blk) → Prop} {k : Nat} (H : LI h0 l e V k h) : LI h0 l e V k h.en := ⟨H.over, H.ok, H.nx, H.lps, H.v⟩
/-- A value that was put away survives, if its block does. -/
theorem own_keep {sz c d cc id : Nat} {w : Bool} {bs bs' : List (Nat × Blk)} {ls : List (Nat × LoopA)} {a : AV} {n : Nat} {cs : List AV} (O : OwnA sz c bs a n cs) (hb : lkB bs' id = some { cells := [a], ch := cc, wr := w }) (hk : HokR d bs' ls) (lk : ∀ id, id < d → lkB bs' id = lkB bs id) : OwnA sz c bs' a n cs := by
  have := (hk.get hb).2.2
  simp only [refsOK_cons, refsOK_nil, Bool.and_true] at this
  exact OwnA.lk O this lk
end Go.Abs
namespace Go.Wg
theorem Ln.at {n : Nat} : ∀ {l : List Nat} {o : Option Nat}, Ln n o l none → ∀ k s, l[k]? = some s → nxt n s = l[k + 1]?
  | [], _, _, k, s, h => by simp at h
  | t :: l, o, H, k, s, h => by
    cases k with
    | zero =>
      simp only [List.getElem?_cons_zero, Option.some.injEq] at h
      subst h
      cases l with
      | nil => exact H.2
      | cons u l => exact H.2.1
    | succ k =>
      rw [List.getElem?_cons_succ] at h ⊢
      exact Ln.at H.2 k s h
theorem nxt_at {n k s : Nat} (hn : 0 < n) (h : (LL n)[k]? = some s) : nxt n s = (LL n)[k + 1]? := (ln_LL hn).at k s h
theorem LL_get {n k : Nat} (h : k < 2 ^ n) : ∃ s, (LL n)[k]? = some s ∧ s < 2 ^ n := by
  have hl : k < (LL n).length := by rw [LL_len]; exact h
  exact ⟨_, List.getElem?_eq_getElem hl, mem_LL.1 (List.getElem_mem hl)⟩
end Go.Wg
