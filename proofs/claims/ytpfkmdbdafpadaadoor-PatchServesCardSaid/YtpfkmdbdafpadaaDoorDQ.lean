/- The reference of serving as mathematics; slices of one's own that grow beside each other. -/
import Derived.Test.YtpfkmdbdafpadaaDoorDZ
section
/- Requests served by the reference: lines with their middle switches, taken ones, the least that is free. -/
set_option linter.unusedSimpArgs false
set_option linter.unusedVariables false
namespace Go.Pa

def trip (b : Bd) : List (Int × Int × Int) := (b.1.zip b.2).map fun q => (q.1.1, q.1.2, q.2)
theorem trip_len {b : Bd} (h : b.2.length = b.1.length) : (trip b).length = b.1.length := by
  simp [trip, h]
theorem trip_at {b : Bd} (h : b.2.length = b.1.length) {k : Nat} (hk : k < b.1.length) : (trip b).getD k (0, 0, 0) = ((eg b.1 k).1, (eg b.1 k).2, cl b.2 k) := by
  have h2 : k < b.2.length := by omega
  simp [trip, eg, cl, List.getD_eq_getElem?_getD, List.getElem?_eq_getElem hk, List.getElem?_eq_getElem h2, List.getElem?_zip_eq_some, List.zip, List.getElem?_zipWith]
theorem trip_add {E : List (Int × Int)} {zs : List Int} {p : Int × Int} {k : Int} (h : zs.length = E.length) : trip (E ++ [p], zs ++ [k]) = trip (E, zs) ++ [(p.1, p.2, k)] := by
  simp only [trip]
  rw [List.zip_append h.symm]
  simp
theorem trip_erase : ∀ {E : List (Int × Int)} {zs : List Int} {i : Nat}, trip (E.eraseIdx i, zs.eraseIdx i) = (trip (E, zs)).eraseIdx i
  | [], zs, i => by simp [trip]
  | E, [], i => by simp [trip]
  | c :: E, z :: zs, 0 => by simp [trip]
  | c :: E, z :: zs, i + 1 => by
    have := trip_erase (E := E) (zs := zs) (i := i)
    simp only [trip] at this
    simp [trip, this]

/- Where the last line of an input is. -/
def atR (E : List (Int × Int)) (x : Int) (k : Nat) : Int := match (E.take k).findIdx? (fun c => decide (c.1 = x)) with
  | none => -1
  | some i => (i : Int)
theorem atR_zero {E : List (Int × Int)} {x : Int} : atR E x 0 = -1 := by simp [atR]
theorem atR_step {E : List (Int × Int)} {x : Int} {k : Nat} (hn : (E.map (·.1)).Nodup) (hk : k < E.length) : atR E x (k + 1) = if (eg E k).1 = x then (k : Int) else atR E x k := by
  have e : eg E k = E[k] := by simp [eg, List.getD_eq_getElem?_getD, List.getElem?_eq_getElem hk]
  unfold atR
  rw [List.take_succ_eq_append_getElem hk, List.findIdx?_append, e]
  by_cases c : E[k].1 = x
  · have : (E.take k).findIdx? (fun c => decide (c.1 = x)) = none := by
      rw [List.findIdx?_eq_none_iff]
      intro y hy
      obtain ⟨j, hj, rfl⟩ := List.mem_iff_getElem.1 hy
      rw [List.length_take] at hj
      rw [List.getElem_take]
      refine decide_eq_false fun h => ?_
      have h2 := (List.pairwise_iff_getElem.1 hn) j k (by simp; omega) (by simpa using hk) (by omega)
      simp only [List.getElem_map] at h2
      exact h2 (by rw [h, c])
    rw [this, if_pos c]
    simp [List.findIdx?_cons, c]
    omega
  · rw [if_neg c]
    simp [List.findIdx?_cons, c]
theorem atR_all {E : List (Int × Int)} {x : Int} : atR E x E.length = match E.findIdx? (fun c => decide (c.1 = x)) with
  | none => -1
  | some i => (i : Int) := by simp [atR]

def busyR (E : List (Int × Int)) (p : Int × Int) (k : Nat) : Bool := (E.take k).any fun c => decide (c.1 = p.1) || decide (c.2 = p.2)
theorem busyR_step {E : List (Int × Int)} {p : Int × Int} {k : Nat} (hk : k < E.length) : busyR E p (k + 1) = (busyR E p k || (decide ((eg E k).1 = p.1) || decide ((eg E k).2 = p.2))) := by
  have e : eg E k = E[k] := by simp [eg, List.getD_eq_getElem?_getD, List.getElem?_eq_getElem hk]
  simp only [busyR]
  rw [List.take_succ_eq_append_getElem hk, e, List.any_append]
  simp

/- Numbers that are taken. -/
def tkQ (n : Nat) (E : List (Int × Int)) (p : Int × Int) (i : Nat) : Prop := (eg E i).1 / (n : Int) = p.1 / n ∨ (0 ≤ p.2 ∧ (eg E i).2 / (n : Int) = p.2 / n)
instance {n : Nat} {E : List (Int × Int)} {p : Int × Int} {i : Nat} : Decidable (tkQ n E p i) := by unfold tkQ; infer_instance
def tkP (n : Nat) (b : Bd) (p : Int × Int) (k j : Nat) : Bool := (List.range k).any fun i => decide (cl b.2 i = (j : Int) ∧ tkQ n b.1 p i)
def tkL (n m : Nat) (b : Bd) (p : Int × Int) (k : Nat) : List Bool := (List.range m).map (tkP n b p k)
theorem tkL_len {n m : Nat} {b : Bd} {p : Int × Int} {k : Nat} : (tkL n m b p k).length = m := by simp [tkL]
theorem tkL_at {n m : Nat} {b : Bd} {p : Int × Int} {k j : Nat} (h : j < m) : (tkL n m b p k).getD j false = tkP n b p k j := by simp [tkL, List.getD_eq_getElem?_getD, h]
theorem tkL_zero {n m : Nat} {b : Bd} {p : Int × Int} : tkL n m b p 0 = List.replicate m false := by
  refine List.ext_getElem (by simp [tkL]) fun j h1 h2 => ?_
  simp [tkL, tkP]
theorem tkP_succ {n : Nat} {b : Bd} {p : Int × Int} {k j : Nat} : tkP n b p (k + 1) j = (tkP n b p k j || decide (cl b.2 k = (j : Int) ∧ tkQ n b.1 p k)) := by
  simp [tkP, List.range_succ]
theorem tkL_step {n m : Nat} {b : Bd} {p : Int × Int} {k : Nat} (h0 : 0 ≤ cl b.2 k) : tkL n m b p (k + 1) = if tkQ n b.1 p k then (tkL n m b p k).set (cl b.2 k).toNat true else tkL n m b p k := by
  by_cases c : tkQ n b.1 p k
  · rw [if_pos c]
    refine List.ext_getElem (by simp [tkL]) fun j h1 h2 => ?_
    rw [List.getElem_set]
    simp only [tkL, List.getElem_map, List.getElem_range, tkP_succ, c, and_true]
    by_cases e : (cl b.2 k).toNat = j
    · rw [if_pos e]
      have : cl b.2 k = (j : Int) := by omega
      simp [this]
    · rw [if_neg e]
      have : ¬ cl b.2 k = (j : Int) := by omega
      simp [this]
  · rw [if_neg c]
    refine List.ext_getElem (by simp [tkL]) fun j h1 h2 => ?_
    simp only [tkL, List.getElem_map, List.getElem_range, tkP_succ, c, and_false, decide_false, Bool.or_false]

/- The least one that is free, from above. -/
def freeR (n m : Nat) (b : Bd) (p : Int × Int) (k : Nat) : Int := match firstS (fun j => if tkP n b p b.1.length j = true then none else some j) (m - k) k with
  | none => -1
  | some j => (j : Int)
theorem freeR_top {n m : Nat} {b : Bd} {p : Int × Int} : freeR n m b p m = -1 := by simp [freeR, firstS]
theorem freeR_step {n m : Nat} {b : Bd} {p : Int × Int} {k : Nat} (h : k < m) : freeR n m b p k = if tkP n b p b.1.length k = true then freeR n m b p (k + 1) else (k : Int) := by
  unfold freeR
  rw [show m - k = (m - (k + 1)) + 1 by omega]
  simp only [firstS]
  by_cases c : tkP n b p b.1.length k = true
  · rw [if_pos c, if_pos c]
  · rw [if_neg c, if_neg c]
theorem freeR_zero {n m : Nat} {b : Bd} {p : Int × Int} (hl : b.2.length = b.1.length) (hp : 0 ≤ p.2) : freeR n m b p 0 = match least (b.1.map (eOf n)) b.2 (eOf n p) m with
  | none => -1
  | some j => (j : Int) := by
  unfold freeR least
  rw [Nat.sub_zero, firstS_congr (g := fun k => if Fr (b.1.map (eOf n)) b.2 (k : Int) (eOf n p) then some k else none) fun j => ?_]
  have e : ∀ i, i < b.1.length → (adj (eg (b.1.map (eOf n)) i) (eOf n p) ↔ tkQ n b.1 p i) := fun i hi => by
    have : eg (b.1.map (eOf n)) i = eOf n (eg b.1 i) := by simp [eg, List.getD_eq_getElem?_getD, List.getElem?_eq_getElem hi]
    rw [this]
    simp only [adj, tkQ, eOf, hp, true_and]
  by_cases c : tkP n b p b.1.length j = true
  · rw [if_pos c]
    simp only [tkP, List.any_eq_true, List.mem_range, decide_eq_true_eq] at c
    obtain ⟨i, hi, h1, h2⟩ := c
    rw [if_neg fun h => h i (by omega) ⟨h1, (e i hi).2 h2⟩]
  · rw [if_neg c, if_pos]
    rintro i hi ⟨h1, h2⟩
    refine c ?_
    simp only [tkP, List.any_eq_true, List.mem_range, decide_eq_true_eq]
    exact ⟨i, by omega, h1, (e i (by omega)).1 h2⟩

/- What a request does. -/
theorem step_off {n m : Nat} {b : Bd} {p : Int × Int} (h : p.2 = -1) : (atR b.1 p.1 b.1.length < 0 → stepC n m b p = (-2, b)) ∧
    (∀ i : Nat, atR b.1 p.1 b.1.length = i → i < b.1.length ∧ stepC n m b p = (cl b.2 i, (b.1.eraseIdx i, b.2.eraseIdx i))) := by
  rw [atR_all]
  cases hf : b.1.findIdx? (fun c => decide (c.1 = p.1)) with
  | none =>
    simp only
    exact ⟨fun _ => by simp only [stepC, if_pos h, hf], fun i hi => absurd hi (by omega)⟩
  | some i =>
    simp only
    refine ⟨fun h => absurd h (by omega), fun j hj => ?_⟩
    have : i = j := by omega
    subst this
    exact ⟨(List.findIdx?_eq_some_iff_getElem.1 hf).1, by simp only [stepC, if_pos h, hf]⟩
theorem step_on {n m : Nat} {b : Bd} {p : Int × Int} (hl : b.2.length = b.1.length) (h : 0 ≤ p.2) : (busyR b.1 p b.1.length = true → stepC n m b p = (-2, b)) ∧
    (busyR b.1 p b.1.length = false → (freeR n m b p 0 < 0 → stepC n m b p = (-1, b)) ∧ (∀ k : Nat, freeR n m b p 0 = k → stepC n m b p = ((k : Int), (b.1 ++ [p], b.2 ++ [(k : Int)])))) := by
  rw [freeR_zero hl h]
  simp only [busyR, List.take_length]
  have hp : ¬ p.2 = -1 := by omega
  refine ⟨fun e => by simp only [stepC, if_neg hp, if_pos e], fun e => ?_⟩
  have e' : ¬ (b.1.any fun c => decide (c.1 = p.1) || decide (c.2 = p.2)) = true := by rw [e]; simp
  cases hf : least (b.1.map (eOf n)) b.2 (eOf n p) m with
  | none =>
    simp only
    exact ⟨fun _ => by simp only [stepC, if_neg hp, if_neg e', hf], fun i hi => absurd hi (by omega)⟩
  | some i =>
    simp only
    refine ⟨fun h => absurd h (by omega), fun j hj => ?_⟩
    have : i = j := by omega
    subst this
    simp only [stepC, if_neg hp, if_neg e', hf]
end Go.Pa
end
/- Slices of one's own that grow beside each other; lines of three numbers. -/
set_option linter.unusedSimpArgs false
set_option linter.unusedVariables false
set_option maxHeartbeats 4000000
set_option maxRecDepth 20000
namespace Go.Abs
/-- append to a slice of one's own: what is of other chains stays. -/
theorem own_appO {h0 h : Hp} {sz n m : Nat} {s x : AV} {cs xs : List AV} (ho : Hok h0) (g : Grown h0 h) (O : OwnA sz h0.next h.blks s n cs) (hx : Arr h.blks sz x (m + 1) xs) (h0' : 0 < sz) (hc : xs.all AV.isCell = true) (hl : n + (m + 1) ≤ 1073741824) :
    ∃ s' h', sApp true sz h s x = some (s', h') ∧ OwnA sz h0.next h'.blks s' (n + (m + 1)) (cs ++ xs) ∧ Grown h0 h' ∧ (chOf h'.blks s' = chOf h.blks s ∨ ∃ k, chOf h'.blks s' = some k ∧ h.next ≤ k) ∧
      ∀ j d, lkB h.blks j = some d → some d.ch ≠ chOf h.blks s → lkB h'.blks j = some d := by
  have hsrc := hx.src h0' h rfl
  have hk := g.ok ho
  have hr := hx.refs hk
  have hxl := hx.1
  have hcl := O.1
  simp only [sApp, hsrc]
  have nz : Nat.beq (m + 1) 0 = false := rfl
  have hp : 0 < (m + 1) * sz := Nat.mul_pos (Nat.succ_pos m) h0'
  have hlen : (cs ++ xs).length = (n + (m + 1)) * sz := by rw [List.length_append, hxl, hcl, ← Nat.add_mul]
  have mk : ∀ (c : Nat) (bs), h0.next ≤ c → OwnA sz h0.next ((h.next, { cells := cs ++ xs, ch := c, wr := true }) :: bs) (.sl h.next 0 (n + (m + 1)) none sz) (n + (m + 1)) (cs ++ xs) := fun c bs hc =>
    ⟨hlen, .inr ⟨h.next, { cells := cs ++ xs, ch := c, wr := true }, none, rfl, lkB_top, List.take_of_length_le (Nat.le_of_eq hlen), g.next, hc, rfl, by omega, hlen⟩⟩
  obtain ⟨hl', ⟨rfl, rfl⟩ | ⟨id, b, cap, rfl, h2, h3, h4, h5, h6, h7⟩⟩ := O
  · have : cs = [] := List.length_eq_zero_iff.1 (by simpa using hcl)
    subst this
    simp only [Nat.zero_add] at hl
    simp only [sAppend, nz, cond_false, Nat.ble_eq_true_of_le hl, hc, Bool.and_self, cond_true, Hp.new]
    have := mk h.next h.blks g.next
    simp only [List.nil_append, Nat.zero_add] at this ⊢
    exact ⟨_, _, rfl, this, GrownR.push g (refsOK_mono (Nat.le_succ _) hr) (Nat.le_refl _), .inr ⟨h.next, by simp only [chOf, lkB_top, Option.map_some], Nat.le_refl _⟩, fun j d hd _ => Sub.push (Sub.refl _) (HokR.fresh hk) _ _ hd⟩
  · have e1 : Nat.ble (n + (m + 1)) 1073741824 = true := Nat.ble_eq_true_of_le hl
    have hco : chOf h.blks (.sl id 0 n cap sz) = some b.ch := by simp only [chOf, h2, Option.map_some]
    have hcs : refsOK h.next cs = true := by
      rw [← h3]
      exact refsOK_sub (hk.get h2).2.2 fun a ha => List.mem_of_mem_take ha
    cases cap with
    | none =>
      obtain ⟨hne, h7⟩ := h7
      have e2 : Nat.ble (0 + (n + (m + 1)) * sz) b.cells.length = false := by
        rw [h7]
        cases hb : Nat.ble (0 + (n + (m + 1)) * sz) (n * sz)
        · rfl
        · have := Nat.le_of_ble_eq_true hb
          rw [Nat.add_mul] at this
          omega
      have e3 : Nat.ble (n * sz) b.cells.length = true := by rw [h7]; exact Nat.ble_eq_true_of_le (by omega)
      simp only [sAppend, Nat.beq_refl, Bool.not_true, cond_false, nz, e1, hc, Bool.and_self, h2, e2, Bool.and_false, h6, e3, cond_true, h3]
      obtain ⟨new, en, fn⟩ := g.blks
      obtain ⟨new', en', f1⟩ := @trunc_app b.ch h.next (n * sz) h0.next h0.blks (fun x hx => (ho.blk hx).1) (by omega) new fn
      have gt : GrownR h0 h.next (Abs.trunc h.blks b.ch h.next (n * sz)) h.loops := ⟨⟨new', by rw [en, en'], f1⟩, g.next, fun _ => hk.trunc, g.loops⟩
      refine ⟨_, _, rfl, mk _ _ h5, gt.push (refsOK_mono (Nat.le_succ _) (refsOK_append hcs hr)) (by have := hk.get h2; omega), .inl (by simp only [chOf, lkB_top, h2, Option.map_some]), fun j d hd hne => ?_⟩
      rw [lkB_push (Nat.ne_of_lt (hk.get hd).1)]
      obtain ⟨d', e, hb⟩ := lkB_truncs (c := b.ch) (s := h.next) (n := n * sz) hd
      rcases hb with rfl | ⟨q, _⟩
      · exact e
      · exact absurd (by rw [hco, q]) hne
    | some k =>
      obtain ⟨h7, h8⟩ := h7
      simp only [sAppend, Nat.beq_refl, Bool.not_true, cond_false, nz, e1, hc, Bool.and_self, h2]
      have hnk : n * sz ≤ k * sz := Nat.mul_le_mul_right sz h8
      cases hf : Nat.ble (n + (m + 1)) k
      · have e3 : slice? b.cells 0 (n * sz) = some cs := by
          simp only [slice?, Nat.ble_eq_true_of_le (show 0 + n * sz ≤ b.cells.length by omega), cond_true, List.drop_zero, h3]
        simp only [cond_false, e3, Hp.new]
        exact ⟨_, _, rfl, mk _ _ g.next, GrownR.push g (refsOK_mono (Nat.le_succ _) (refsOK_append hcs hr)) (Nat.le_refl _), .inr ⟨h.next, by simp only [chOf, lkB_top, Option.map_some], Nat.le_refl _⟩, fun j d hd _ => Sub.push (Sub.refl _) (HokR.fresh hk) _ _ hd⟩
      · have hfit := Nat.le_of_ble_eq_true hf
        have hfs : (n + (m + 1)) * sz ≤ k * sz := Nat.mul_le_mul_right sz hfit
        have hle : 0 + n * sz + xs.length ≤ b.cells.length := by rw [hxl, h7]; rw [Nat.add_mul] at hfs; omega
        obtain ⟨h', w1, w2, w3, w4, w5, w6, w7⟩ := write_old (off := 0 + n * sz) (vs := xs) hk g.blks (fun x hx => (ho.blk hx).1) h2 h4 h5 h6 hle hc hr
        simp only [cond_true, w1, Option.map_some]
        refine ⟨_, _, rfl, ⟨hlen, .inr ⟨id, _, some k, rfl, w2, ?_, h4, h5, h6, ?_, hfit⟩⟩, ⟨w3, by rw [w5]; exact g.next, fun _ => w4, by rw [w6]; exact g.loops⟩, .inl (by simp only [chOf, w2, h2, Option.map_some]), fun j d hd hne => ?_⟩
        · rw [Nat.zero_add, Nat.add_mul, ← hxl]
          simp only
          rw [splice_take (by omega), h3]
        · simp only
          rw [splice_len hle]
          exact h7
        · rw [hco] at hne
          by_cases hj : j = id
          · subst hj
            rw [h2] at hd
            cases hd
            exact absurd rfl hne
          · exact w7 j d hj hd fun hh => hne (by rw [hh])
theorem OwnA.keep {sz c n : Nat} {k : Option Nat} {bs bs' : List (Nat × Blk)} {s : AV} {cs : List AV} (O : OwnA sz c bs s n cs) (f : ∀ j d, lkB bs j = some d → some d.ch ≠ k → lkB bs' j = some d) (hne : ∀ x, chOf bs s = some x → some x ≠ k) : OwnA sz c bs' s n cs ∧ chOf bs' s = chOf bs s := by
  obtain ⟨hl', ⟨rfl, rfl⟩ | ⟨id, b, cap, rfl, h2, h3⟩⟩ := O
  · exact ⟨⟨hl', .inl ⟨rfl, rfl⟩⟩, rfl⟩
  · have e := f id b h2 (hne b.ch (by simp only [chOf, h2, Option.map_some]))
    exact ⟨⟨hl', .inr ⟨id, b, cap, rfl, e, h3⟩⟩, by simp only [chOf, h2, e]⟩
theorem OwnA.chSub {sz c n : Nat} {bs bs' : List (Nat × Blk)} {s : AV} {cs : List AV} (O : OwnA sz c bs s n cs) (t : Sub bs bs') : chOf bs' s = chOf bs s := by
  obtain ⟨hl', ⟨rfl, rfl⟩ | ⟨id, b, cap, rfl, h2, h3⟩⟩ := O
  · rfl
  · simp only [chOf, h2, t _ _ h2]
theorem OwnA.chLt {sz c n : Nat} {h : Hp} {s : AV} {cs : List AV} (hk : Hok h) (O : OwnA sz c h.blks s n cs) : ∀ x, chOf h.blks s = some x → x < h.next := fun x hx => by
  obtain ⟨hl', ⟨rfl, rfl⟩ | ⟨id, b, cap, rfl, h2, h3⟩⟩ := O
  · simp [chOf] at hx
  · simp only [chOf, h2, Option.map_some, Option.some.injEq] at hx
    have := hk.get h2
    omega
theorem OwnA.chGe {sz c n : Nat} {bs : List (Nat × Blk)} {s : AV} {cs : List AV} (O : OwnA sz c bs s n cs) : ∀ x, chOf bs s = some x → c ≤ x := fun x hx => by
  obtain ⟨hl', ⟨rfl, rfl⟩ | ⟨id, b, cap, rfl, h2, h3, h4, h5, _⟩⟩ := O
  · simp [chOf] at hx
  · simp only [chOf, h2, Option.map_some, Option.some.injEq] at hx
    omega
/-- Lines of three numbers. -/
def tri (l : List (Int × Int × Int)) : List AV := l.flatMap fun t => [.int .i64 t.1, .int .i64 t.2.1, .int .i64 t.2.2]
theorem tri_cons {p : Int × Int × Int} {r : List (Int × Int × Int)} : tri (p :: r) = .int .i64 p.1 :: .int .i64 p.2.1 :: .int .i64 p.2.2 :: tri r := by simp [tri]
theorem tri_append {l m : List (Int × Int × Int)} : tri (l ++ m) = tri l ++ tri m := by simp [tri]
theorem tri_len : ∀ {l : List (Int × Int × Int)}, (tri l).length = l.length * 3
  | [] => rfl
  | p :: r => by
    have := tri_len (l := r)
    rw [tri_cons]
    simp only [List.length_cons] at this ⊢
    omega
theorem tri_at : ∀ {l : List (Int × Int × Int)} {i : Nat}, i < l.length → ((tri l).drop (i * 3)).take 3 = [.int .i64 (l.getD i (0, 0, 0)).1, .int .i64 (l.getD i (0, 0, 0)).2.1, .int .i64 (l.getD i (0, 0, 0)).2.2]
  | [], i, h => by simp at h
  | p :: r, 0, _ => by simp [tri_cons]
  | p :: r, i + 1, h => by
    have := tri_at (l := r) (i := i) (by simpa using h)
    rw [tri_cons, show (i + 1) * 3 = i * 3 + 1 + 1 + 1 by omega, List.drop_succ_cons, List.drop_succ_cons, List.drop_succ_cons, this]
    simp
theorem tri_get2 : ∀ {l : List (Int × Int × Int)} {i : Nat}, i < l.length → (tri l)[i * 3 + 2]? = some (.int .i64 (l.getD i (0, 0, 0)).2.2)
  | [], i, h => by simp at h
  | p :: r, 0, _ => by simp [tri_cons]
  | p :: r, i + 1, h => by
    have := tri_get2 (l := r) (i := i) (by simpa using h)
    rw [tri_cons, show (i + 1) * 3 + 2 = (i * 3 + 2) + 1 + 1 + 1 by omega, List.getElem?_cons_succ, List.getElem?_cons_succ, List.getElem?_cons_succ, this]
    simp
theorem tri_take : ∀ {l : List (Int × Int × Int)} {i : Nat}, (tri l).take (i * 3) = tri (l.take i)
  | [], i => by simp [tri]
  | p :: r, 0 => by simp [tri]
  | p :: r, i + 1 => by
    rw [tri_cons, show (i + 1) * 3 = i * 3 + 1 + 1 + 1 by omega, List.take_succ_cons, List.take_succ_cons, List.take_succ_cons, tri_take (l := r), List.take_succ_cons, tri_cons]
theorem tri_drop : ∀ {l : List (Int × Int × Int)} {i : Nat}, (tri l).drop (i * 3) = tri (l.drop i)
  | [], i => by simp [tri]
  | p :: r, 0 => by simp
  | p :: r, i + 1 => by
    rw [tri_cons, show (i + 1) * 3 = i * 3 + 1 + 1 + 1 by omega, List.drop_succ_cons, List.drop_succ_cons, List.drop_succ_cons, tri_drop (l := r), List.drop_succ_cons]
theorem all_cell_tri {l : List (Int × Int × Int)} : (tri l).all AV.isCell = true := by
  simp only [tri, List.all_flatMap, List.all_eq_true]
  intro p _ x hx
  simp at hx
  rcases hx with rfl | rfl | rfl <;> rfl
theorem refsOK_tri {n : Nat} {l : List (Int × Int × Int)} : refsOK n (tri l) = true := refsOK_iff.2 fun a ha => by
  simp only [tri, List.mem_flatMap] at ha
  obtain ⟨p, _, ha⟩ := ha
  simp at ha
  rcases ha with rfl | rfl | rfl <;> rfl
def Tri (bs : List (Nat × Blk)) (a : AV) (l : List (Int × Int × Int)) : Prop := Arr bs 3 a l.length (tri l)
theorem Tri.lda {bs bs' : List (Nat × Blk)} {a : AV} {l : List (Int × Int × Int)} (H : Tri bs a l) (s : Sub bs bs') {i : Nat} (hi : i < l.length) : aggV bs' a i 3 = some (.ag [.int .i64 (l.getD i (0, 0, 0)).1, .int .i64 (l.getD i (0, 0, 0)).2.1, .int .i64 (l.getD i (0, 0, 0)).2.2]) := by
  rw [Arr.lda H s hi (by omega), tri_at hi]
theorem Tri.ld2 {bs bs' : List (Nat × Blk)} {a : AV} {l : List (Int × Int × Int)} (H : Tri bs a l) (s : Sub bs bs') {i : Nat} (hi : i < l.length) : cellV bs' a i 2 = some (.int .i64 (l.getD i (0, 0, 0)).2.2) := by
  rw [Arr.ld H s hi (by omega), tri_get2 hi]
def OwnL (c : Nat) (bs : List (Nat × Blk)) (s : AV) (l : List (Int × Int × Int)) : Prop := OwnA 3 c bs s l.length (tri l)
theorem own_appL {h0 h : Hp} {s x : AV} {l m : List (Int × Int × Int)} (ho : Hok h0) (g : Grown h0 h) (O : OwnL h0.next h.blks s l) (hx : Tri h.blks x m) (hl : l.length + m.length ≤ 1073741824) :
    ∃ s' h', sApp true 3 h s x = some (s', h') ∧ OwnL h0.next h'.blks s' (l ++ m) ∧ Grown h0 h' := by
  obtain ⟨s', h', e, o, g', n⟩ := own_app ho g O hx (by omega) all_cell_tri hl
  refine ⟨s', h', e, ?_, g'⟩
  unfold OwnL
  rw [List.length_append, tri_append]
  exact o
end Go.Abs
