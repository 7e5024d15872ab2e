/- slices.Sort at numbers: what the library's own text does, by the shelf's theorem. -/
import Derived.Test.YtelalpohbodolaaDoorU
import Derived.Test.YtelalpohbodolaaDoorKT
import Derived.Shelf.Sort.Plain
import Derived.Shelf.Slices.CompactI
set_option linter.unusedSimpArgs false
set_option linter.unusedVariables false
namespace Go.Abs
open Go Go.RowKit
section
variable {P : Program} {base : Prot} {σ : Env} {w : World} {h : Hp}
theorem ints_map {zs : List Int} {ms : List Value} (h : Rs σ (zs.map (.int .i64)) ms) : ms = zs.map (Value.int .i64) := by
  induction zs generalizing ms with
  | nil => simpa [Rs] using h
  | cons a zs ih =>
    rw [List.map_cons] at h
    simp only [Rs] at h
    obtain ⟨v, m', rfl, r, h⟩ := h
    simp only [R] at r
    rw [r, ih h]
    rfl
theorem Rs_ints (σ : Env) : ∀ zs : List Int, Rs σ (zs.map (.int .i64)) (zs.map (Value.int .i64))
  | [] => by simp [Rs]
  | a :: zs => by
    simp only [List.map_cons, Rs]
    exact ⟨_, _, rfl, by simp [R], Rs_ints σ zs⟩
/-- The cells of a block from a place on. -/
theorem HR.cellsG (H : HR σ base h w) {id off n : Nat} {b : Blk} (hb : lkB h.blks id = some b) {c : Loc} (hc : σ id = some c) (hn : off + n ≤ b.cells.length) :
    ∃ cs e fz, w.heap[c.blk]? = some (.cells cs e fz) ∧ (b.wr = true → fz = (0, 0) ∧ base.fr c.blk) ∧ cs.size = c.off + c.tot ∧ b.cells.length ≤ c.tot ∧
      Rs σ ((b.cells.drop off).take n) ((cs.toList.drop (c.off + off)).take n) ∧ ((cs.toList.drop (c.off + off)).take n).length = n ∧
      (∀ j v, ((cs.toList.drop (c.off + off)).take n)[j]? = some v → w.cell? ⟨c.blk, c.off + off + j, none⟩ = some v) := by
  obtain ⟨c', cs, e, fz, a1, a2, a3, a4, a5, a6⟩ := H.cel id b hb
  rw [hc] at a1
  cases a1
  refine ⟨cs, e, fz, a2, a6.1, a3, a4, Rs.mk (by simp; omega) fun j a v ha hv => ?_, by simp; omega, fun j m hm => ?_⟩
  · rw [List.getElem?_take] at ha hv
    split at ha
    · rw [if_pos ‹_›, List.getElem?_drop] at hv
      rw [List.getElem?_drop] at ha
      obtain ⟨u', hu', hru⟩ := a5 _ _ ha
      rw [show c.off + (off + j) = c.off + off + j by omega] at hu'
      simp only [Array.getElem?_toList] at hv
      rw [hu'] at hv
      cases hv
      exact hru
    · cases ha
  · rw [List.getElem?_take] at hm
    split at hm
    · rw [List.getElem?_drop] at hm
      simp only [Array.getElem?_toList] at hm
      simp [World.cell?, a2, hm]
    · cases hm

/-- A row of numbers is put in the place of another. -/
theorem row_sound {id off n : Nat} {b : Blk} (hd : lkB h.blks id = some b) {zs d : List Int} (hcells : (b.cells.drop off).take n = zs.map (AV.int .i64)) (c1 : zs.length = n) (hls : d.length = zs.length)
    {h1 : Hp} (hw : h.write id off (d.map (AV.int .i64)) = some h1) (H : HR σ base h w) (hb : base.fit w.heap.size) {c : Loc} (hc : σ id = some c) :
    Go.Sort.Holds (Value.int .i64) w c.blk (c.off + off) zs.toArray ∧ c.blk < w.heap.size ∧ ∀ nn os, HR σ base h1 (Go.Sort.grow (Go.Sort.putRow (Value.int .i64) (Go.Sort.ahead w nn) c.blk (c.off + off) d.toArray) os) ∧
      Fw base w (Go.Sort.grow (Go.Sort.putRow (Value.int .i64) (Go.Sort.ahead w nn) c.blk (c.off + off) d.toArray) os) := by
  have hfit : off + n ≤ b.cells.length := by
    obtain ⟨b', q1, q2, q3, _⟩ := write_spec hw
    rw [hd] at q1
    cases q1
    simp at q3
    omega
  obtain ⟨cs, e, fz, a1, a2, a3, a4, a5, a6, a7⟩ := H.cellsG hd hc hfit
  obtain ⟨cur, e', hcur, hsz, hfr, _, H1, F1⟩ := H.write hw (Rs_ints σ d) hc
  rw [a1] at hcur
  cases hcur
  rw [hcells] at a5
  have hms := ints_map a5
  have hrow : Go.Sort.Holds (Value.int .i64) w c.blk (c.off + off) zs.toArray := by
    intro j hj
    have hj : j < zs.length := by simpa using hj
    refine ⟨?_, by simp [World.frozen?, a1]⟩
    have := a7 j (Value.int .i64 (zs.toArray[j]!)) (by rw [hms]; simp [hj])
    rw [Nat.add_assoc] at this ⊢
    exact this
  refine ⟨hrow, lt_of_heap a1, fun nn os => ?_⟩
  have heap : (Go.Sort.putRow (Value.int .i64) w c.blk (c.off + off) d.toArray).heap = (putRow w c cs off (d.map (Value.int .i64))).heap := by
    apply Array.ext_getElem?
    intro i
    by_cases hi : i = c.blk
    · subst hi
      unfold putRow
      rw [setRow_heap _ _ _ _ _ _ a1]
      unfold Go.Sort.putRow Go.Sort.mapBlock
      simp only [Array.getElem?_modify, if_pos, a1, Option.map_some, Go.Sort.onCells]
      congr 2
      apply Array.ext_getElem?
      intro j
      unfold Go.Sort.putCells
      simp only [Array.getElem?_mapIdx, List.getElem?_toArray, List.size_toArray]
      rw [vsplice_get cs.toList (d.map (Value.int .i64)) (c.off + off) (by simp; omega)]
      simp only [Array.getElem?_toList, List.length_map]
      have hcl : c.off + off + n ≤ cs.size := by omega
      by_cases g1 : j < c.off + off
      · rw [if_pos g1]
        cases cs[j]? <;> simp [show ¬ c.off + off ≤ j by omega]
      · rw [if_neg g1]
        by_cases g2 : j < c.off + off + d.length
        · rw [if_pos g2, Array.getElem?_eq_getElem (by omega)]
          simp [show c.off + off ≤ j by omega, g2, show j - (c.off + off) < d.length by omega]
        · rw [if_neg g2]
          cases cs[j]? <;> simp [g2]
    · unfold putRow
      rw [setRow_other _ _ _ _ hi]
      unfold Go.Sort.putRow Go.Sort.mapBlock
      simp only [Array.getElem?_modify, if_neg (Ne.symm hi)]
  have hsz2 : ∀ i, i < (putRow w c cs off (d.map (Value.int .i64))).heap.size → (Go.Sort.grow (Go.Sort.putRow (Value.int .i64) (Go.Sort.ahead w nn) c.blk (c.off + off) d.toArray) os).heap[i]? = (putRow w c cs off (d.map (Value.int .i64))).heap[i]? := by
    intro i hi
    rw [← heap] at hi ⊢
    exact Go.Sort.heap_grow_old _ _ hi
  have B1 : BelowS (below (putRow w c cs off (d.map (Value.int .i64))).heap.size) (putRow w c cs off (d.map (Value.int .i64))) (Go.Sort.grow (Go.Sort.putRow (Value.int .i64) (Go.Sort.ahead w nn) c.blk (c.off + off) d.toArray) os) :=
    ⟨rfl, rfl, rfl, by rw [← heap, Go.Sort.size_grow]; exact Nat.le_add_right _ _, fun k hk => hsz2 k (hk.elim (fun g => g) fun g => H1.lps.glo.lt g)⟩
  refine ⟨H1.keep B1, F1.trans (Fw.lower (hb.le F1.bel.size) ⟨B1, fun i ds hi => ?_, fun i x hi => ⟨x, ?_⟩⟩)⟩
  · rw [hsz2 i (lt_of_heap hi)]; exact hi
  · rw [hsz2 i (lt_of_heap hi)]; exact hi
open Go.Proofs Go.Shelf in
theorem sortT_sound {ρ : Ren} (L : Lays.n189 P ρ) {args : List AV} {h' : Hp} {v : AV} (hs : sortT args h = some (v, h')) {vs : Array Value}
    (H : HR σ base h w) (hb : base.fit w.heap.size) (hv : Rs σ args vs.toList) : Calls P (ρ.f 189) vs w (Post base σ v h' w) := by
  unfold sortT at hs
  split at hs
  · rename_i id off n cap
    cases hd : lkB h.blks id with
    | none => simp [hd] at hs
    | some b =>
      simp only [hd] at hs
      cases hu : unI ((b.cells.drop off).take n) with
      | none => simp [hu] at hs
      | some zs =>
        simp only [hu] at hs
        cases hcc : (Nat.beq zs.length n && Nat.ble n 1073741824)
        · simp [hcc] at hs
        · simp only [hcc, cond_true, Option.map_eq_some_iff, Prod.mk.injEq] at hs
          obtain ⟨h1, hw, rfl, rfl⟩ := hs
          simp only [Bool.and_eq_true] at hcc
          have c1 := Nat.eq_of_beq_eq_true hcc.1
          have c2 := Nat.le_of_ble_eq_true hcc.2
          simp only [Rs] at hv
          obtain ⟨v0, l0, e0, r0, rfl⟩ := hv
          simp only [R] at r0
          obtain ⟨c, k, hc, rfl, hk, _⟩ := r0
          obtain ⟨rfl⟩ : vs = #[.slice (some ⟨c.blk, c.off + off, none⟩) n k] := by
            apply Array.ext'
            simpa using e0
          obtain ⟨r1, r2, r3⟩ := row_sound hd (unI_spec hu) c1 (isortI_perm zs).length_eq hw H hb hc
          have run := Any.slices_Sort_int L c.blk (c.off + off) k zs w r1 r2 (by omega)
          rw [c1, ← isortI_eq] at run
          refine run.mono fun ee w' he => ?_
          obtain ⟨rfl, nn, os, rfl⟩ := he
          exact ⟨_, σ, rfl, by simp [R, Rs], Ext.refl _, (r3 nn os).1, (r3 nn os).2⟩
  · cases hs
/-- Compact's list, as Lean has it in the library. -/
theorem cmpI_eq : ∀ zs : List Int, cmpI zs = Lib.compact zs := by
  suffices h : ∀ (n : Nat) (zs : List Int), zs.length = n → cmpI zs = Lib.compact zs from fun zs => h _ zs rfl
  have last : ∀ (l : List Int) (a : Int), Lib.compact (l ++ [a]) = Lib.compact l ++ (if l = [] ∨ l.getLast? ≠ some a then [a] else []) := by
    intro l a
    unfold Lib.compact Lib.compactUpTo
    rw [List.length_append, List.length_singleton, List.range_succ, List.filter_append, List.map_append]
    congr 1
    · have e1 : (List.range l.length).filter (Lib.keeps (l ++ [a]).toArray) = (List.range l.length).filter (Lib.keeps l.toArray) := by
        apply List.filter_congr
        intro j hj
        have hj := List.mem_range.1 hj
        unfold Lib.keeps
        have x1 : (l ++ [a]).toArray[j]! = l.toArray[j]! := by simp [List.getElem?_append_left hj]
        have x2 : (l ++ [a]).toArray[j - 1]! = l.toArray[j - 1]! := by simp [List.getElem?_append_left (show j - 1 < l.length by omega)]
        rw [x1, x2]
      rw [e1]
      apply List.map_congr_left
      intro j hj
      have hj := List.mem_range.1 (List.mem_filter.1 hj).1
      simp [List.getElem?_append_left hj]
    · have x1 : (l ++ [a]).toArray[l.length]! = a := by simp
      by_cases h0 : l = []
      · subst h0
        simp [Lib.keeps]
      · have hp : 0 < l.length := List.length_pos_iff.2 h0
        have x2 : (l ++ [a]).toArray[l.length - 1]! = l[l.length - 1] := by simp [List.getElem?_append_left (show l.length - 1 < l.length by omega), List.getElem?_eq_getElem (show l.length - 1 < l.length by omega)]
        have x3 : l.getLast? = some l[l.length - 1] := by rw [List.getLast?_eq_getElem?, List.getElem?_eq_getElem (show l.length - 1 < l.length by omega)]
        rw [List.filter_cons]
        unfold Lib.keeps
        rw [x1, x2, x3]
        have hne : l.length ≠ 0 := by omega
        by_cases e : a = l[l.length - 1]
        · have hc : decide (l.length = 0 ∨ a ≠ l[l.length - 1]) = false := decide_eq_false (fun hh => hh.elim hne fun h => h e)
          rw [hc, if_neg (by simp), if_neg (fun hh => hh.elim h0 fun h => h (by rw [← e]))]
          simp
        · have hc : decide (l.length = 0 ∨ a ≠ l[l.length - 1]) = true := decide_eq_true (.inr e)
          rw [hc, if_pos rfl, if_pos (.inr fun h => e (by injection h with h; exact h.symm))]
          simp
  have lastI : ∀ (l : List Int) (a : Int), cmpI (l ++ [a]) = cmpI l ++ (if l = [] ∨ l.getLast? ≠ some a then [a] else []) := by
    intro l a
    induction l with
    | nil => simp [cmpI]
    | cons b l ih =>
      cases l with
      | nil =>
        simp only [List.cons_append, List.nil_append, cmpI]
        by_cases e : b = a
        · simp [e]
        · have e' : decide (b = a) = false := decide_eq_false e
          rw [e']
          simp [e]
      | cons c l =>
        have ih := ih
        simp only [List.cons_append, cmpI] at ih ⊢
        have hl : (b :: c :: l).getLast? = (c :: l).getLast? := by simp [List.getLast?_cons_cons]
        rw [hl]
        cases decide (b = c)
        · simp only [cond_false]
          rw [ih]
          simp
        · simp only [cond_true]
          rw [ih]
          simp
  intro n
  induction n with
  | zero =>
    intro zs h
    have := List.length_eq_zero_iff.1 h
    subst this
    rfl
  | succ n ih =>
    intro zs h
    have hne : zs ≠ [] := fun e => by rw [e] at h; cases h
    rw [← List.dropLast_concat_getLast hne, last, lastI, ih _ (by simp; omega)]
open Go.Proofs Go.Shelf in
theorem cmpT_sound {ρ : Ren} (L : Lays2.n20 P ρ) {args : List AV} {h' : Hp} {v : AV} (hs : cmpT args h = some (v, h')) {vs : Array Value}
    (H : HR σ base h w) (hb : base.fit w.heap.size) (hv : Rs σ args vs.toList) : Calls P (ρ.f 20) vs w (Post base σ v h' w) := by
  unfold cmpT at hs
  split at hs
  · rename_i id off n cap
    cases hd : lkB h.blks id with
    | none => simp [hd] at hs
    | some b =>
      simp only [hd] at hs
      cases hu : unI ((b.cells.drop off).take n) with
      | none => simp [hu] at hs
      | some zs =>
        simp only [hu] at hs
        cases hcc : (Nat.beq zs.length n && Nat.ble n 1073741824 && Nat.ble (cmpI zs).length zs.length)
        · simp [hcc] at hs
        · simp only [hcc, cond_true, Option.map_eq_some_iff, Prod.mk.injEq] at hs
          obtain ⟨h1, hw, rfl, rfl⟩ := hs
          simp only [Bool.and_eq_true] at hcc
          have c1 := Nat.eq_of_beq_eq_true hcc.1.1
          have c2 := Nat.le_of_ble_eq_true hcc.1.2
          have c3 := Nat.le_of_ble_eq_true hcc.2
          simp only [Rs] at hv
          obtain ⟨v0, l0, e0, r0, rfl⟩ := hv
          simp only [R] at r0
          obtain ⟨c, k, hc, rfl, hk, hk2⟩ := r0
          obtain ⟨rfl⟩ : vs = #[.slice (some ⟨c.blk, c.off + off, none⟩) n k] := by
            apply Array.ext'
            simpa using e0
          obtain ⟨r1, r2, r3⟩ := row_sound (d := cmpI zs ++ List.replicate (zs.length - (cmpI zs).length) 0) hd (unI_spec hu) c1 (by simp; omega) hw H hb hc
          have run := Any.slices_Compact_int L c.blk (c.off + off) k zs w r1 (by omega) (by omega)
          rw [c1, ← cmpI_eq, ← c1] at run
          rw [← c1]
          refine run.mono fun ee w' he => ?_
          obtain ⟨rfl, nn, rfl⟩ := he
          have := r3 nn #[]
          rw [Go.Sort.grow_empty] at this
          exact ⟨_, σ, rfl, by simp only [R]; exact ⟨c, k, hc, rfl, by omega, hk2⟩, Ext.refl _, this.1, this.2⟩
  · cases hs
end
end Go.Abs
