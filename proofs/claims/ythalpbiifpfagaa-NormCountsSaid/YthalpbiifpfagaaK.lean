/- slices.Insert at numbers: what the library's own text does, by the shelf's theorems. -/
import Derived.Test.YthalpbiifpfagaaU
import Derived.Shelf.Spec.SlicesInsertGrow
set_option linter.unusedSimpArgs false
set_option linter.unusedVariables false

namespace Go.Abs

open Go Go.RowKit

/-- What a call of Insert does: a new block over the elder one's chain, and what lies in the elder ones from the place on is forgotten. -/
def insA (args : List AV) (h : Hp) : Option (AV × Hp) :=
  match args with
  | [.nilsl, .int .i64 0, .sl vid voff m vcap 1] =>
    match lkB h.blks vid with
    | some d =>
      bif Nat.blt 0 m && Nat.ble m 1048576 && Nat.ble (voff + m) d.cells.length && d.cells.all AV.isCell then
        some (.sl h.next 0 m none 1, { h with next := h.next + 1, blks := (h.next, { cells := (d.cells.drop voff).take m, ch := h.next, wr := true }) :: h.blks })
      else none
    | none => none
  | [.sl id 0 n none 1, .int .i64 i, .sl vid voff m vcap 1] =>
    match lkB h.blks id, lkB h.blks vid with
    | some b, some d =>
      bif decide (0 ≤ i) && Nat.blt i.toNat n && Nat.blt 0 m && Nat.ble (n + m) 1048576 && b.wr && d.wr && !Nat.beq b.ch d.ch && Nat.ble n b.cells.length && Nat.ble (voff + m) d.cells.length && b.cells.all AV.isCell && d.cells.all AV.isCell then
        some (.sl h.next 0 (n + m) none 1, { h with next := h.next + 1, blks := (h.next, { cells := (b.cells.take n).take i.toNat ++ (d.cells.drop voff).take m ++ (b.cells.take n).drop i.toNat, ch := b.ch, wr := true }) :: trunc h.blks b.ch h.next i.toNat })
      else none
    | _, _ => none
  | _ => none

section
variable {P : Program} {base : Prot} {σ : Env} {w : World} {h : Hp}

/-- Cells of a block, one by one, as a row. -/
theorem setCells_row (P : Program) {w : World} {g o : Nat} {cur : Array Value} {e : TypeId} {vs : List Value} (hg : w.heap[g]? = some (.cells cur e (0, 0))) (hfit : o + vs.length ≤ cur.size) (h1 : ∀ v ∈ vs, v.oneCell' = true) :
    w.setCells g o vs = w.setRow g (cur.toList.take o ++ vs ++ cur.toList.drop (o + vs.length)).toArray := by
  have a := run_storeCells_at P g o e vs 0 cur w hg (by simpa using hfit) h1
  have b := run_storeCells_cells (P := P) g o vs 0 w (fun j hj => by
    simp only [World.cell?, hg, Option.isSome_none, Bool.false_eq_true, if_false]
    rw [Array.getElem?_eq_getElem (by omega)]; rfl) (fun j hj => by simp [World.frozen?, hg]) h1
  simp only [Nat.add_zero] at a b
  rw [a] at b
  have := congrArg (fun r => match r with | Result.ok _ w => some w | _ => none) b
  simpa using this.symm

/-- A row is changed from a place on: what lies behind it in the blocks of this chain is forgotten. -/
theorem HR.retail (H : HR σ base h w) {id i : Nat} {b : Blk} (hb : lkB h.blks id = some b) (hw : b.wr = true) {c : Loc} (hc : σ id = some c)
    {cur row : Array Value} {e : TypeId} {fz : Nat × Nat} (hg : w.heap[c.blk]? = some (.cells cur e fz)) (hi : c.off + i ≤ cur.size) (hrow : row.size = cur.size) (htk : row.toList.take (c.off + i) = cur.toList.take (c.off + i)) :
    HR σ base { h with blks := Abs.trunc h.blks b.ch h.next i } (w.setRow c.blk row) := by
  have hT := H.put hb hw hc hg (ms := row.toList.drop (c.off + i)) (off := i) (by simp; omega) (l := Abs.trunc h.blks b.ch h.next i) (trunc_Srt _ _ _ H.srt) (trunc_Chn H.chn) (fun j d hd => by
    obtain ⟨b0, t1, t2, t3, t4⟩ := lkB_trunc H.srt H.chn hd
    have hne : j ≠ h.next := by have := lkB_lt H.chn t1; omega
    refine ⟨b0, t1, t2, t3, ?_, fun _ => ?_, fun ej j' a' ha' => ?_⟩
    · rcases t4 with ⟨_, rfl⟩ | ⟨_, t4⟩
      · exact Nat.le_refl _
      · rw [t4, List.length_take]; omega
    · rcases t4 with ⟨t4, rfl⟩ | ⟨_, t4⟩
      · refine ⟨⟨d.cells.length, by simp⟩, fun ech => ?_⟩
        rcases t4 with t4 | t4
        · exact absurd ech t4
        · exact absurd t4 hne
      · exact ⟨⟨_, t4⟩, fun _ => by rw [t4, List.length_take]; omega⟩
    · subst ej
      rw [hb] at t1
      cases t1
      rcases t4 with ⟨t4, _⟩ | ⟨_, t4⟩
      · rcases t4 with t4 | t4
        · exact absurd rfl t4
        · exact absurd t4 hne
      · rw [t4, List.getElem?_take] at ha'
        split at ha'
        · rw [if_pos ‹_›]; exact ha'
        · cases ha')
  have e1 : putRow w c cur i (row.toList.drop (c.off + i)) = w.setRow c.blk row := by
    unfold putRow
    congr 1
    rw [← htk, List.take_append_drop, List.drop_of_length_le (by simp; omega)]
    simp
  rw [e1] at hT
  exact hT

theorem Rs.one' {l : List AV} {m : List Value} (h : Rs σ l m) (hc : l.all AV.isCell = true) : ∀ v ∈ m, v.oneCell' = true := by
  intro v hv
  obtain ⟨j, hj⟩ := List.getElem?_of_mem hv
  have hl := h.length
  have hlt : j < l.length := by
    rcases Nat.lt_or_ge j m.length with h | h
    · omega
    · rw [List.getElem?_eq_none h] at hj; cases hj
  obtain ⟨u, hu, hru⟩ := h.get (List.getElem?_eq_getElem hlt)
  rw [hj] at hu
  cases hu
  exact R.oneCell (List.all_eq_true.1 hc _ (List.getElem_mem hlt)) hru

theorem Rs_cons {a : AV} {r : List AV} {m : List Value} : Rs σ (a :: r) m ↔ ∃ v m', m = v :: m' ∧ R σ a v ∧ Rs σ r m' := by simp only [Rs]

/-- The cells of a block from a place on. -/
theorem HR.cellsF (H : HR σ base h w) {id off n : Nat} {b : Blk} (hb : lkB h.blks id = some b) {c : Loc} (hc : σ id = some c) (hn : off + n ≤ b.cells.length) :
    ∃ cs e fz, w.heap[c.blk]? = some (.cells cs e fz) ∧ (b.wr = true → fz = (0, 0) ∧ base.fr c.blk) ∧ cs.size = c.off + c.tot ∧ b.cells.length ≤ c.tot ∧
      Rs σ ((b.cells.drop off).take n) ((cs.toList.drop (c.off + off)).take n) ∧ ((cs.toList.drop (c.off + off)).take n).length = n ∧
      (∀ j v, ((cs.toList.drop (c.off + off)).take n)[j]? = some v → w.cell? ⟨c.blk, c.off + off + j, none⟩ = some v) := by
  obtain ⟨c', cs, e, fz, a1, a2, a3, a4, a5, a6⟩ := H.cel id b hb
  rw [hc] at a1
  cases a1
  refine ⟨cs, e, fz, a2, a6.1, a3, a4, Rs.mk (by simp; omega) fun j a v ha hv => ?_, by simp; omega, fun j m hm => ?_⟩
  · rw [List.getElem?_take] at ha hv
    split at ha
    · rw [if_pos ‹_›, List.getElem?_drop] at hv
      rw [List.getElem?_drop] at ha
      obtain ⟨u', hu', hru⟩ := a5 _ _ ha
      rw [show c.off + (off + j) = c.off + off + j by omega] at hu'
      simp only [Array.getElem?_toList] at hv
      rw [hu'] at hv
      cases hv
      exact hru
    · cases ha
  · rw [List.getElem?_take] at hm
    split at hm
    · rw [List.getElem?_drop] at hm
      simp only [Array.getElem?_toList] at hm
      simp [World.cell?, a2, hm]
    · cases hm

theorem all_drop_take {l : List AV} {p : AV → Bool} (h : l.all p = true) (a b : Nat) : ((l.drop a).take b).all p = true :=
  List.all_eq_true.2 fun x hx => List.all_eq_true.1 h x (List.mem_of_mem_drop (List.mem_of_mem_take hx))

theorem setRow_alloc (w : World) (cs row : Array Value) (e : TypeId) : (w.alloc (.cells cs e)).setRow w.heap.size row = w.alloc (.cells row e) := by
  unfold World.setRow World.alloc
  congr 1
  apply Array.ext
  · simp
  · intro k h1 h2
    simp only [Array.getElem_modify]
    split
    · rename_i hk
      subst hk
      simp
    · rename_i hk
      have hk' : k < w.heap.size := by simp at h1; omega
      simp [Array.getElem_push, hk']


open Go.Proofs Go.Shelf in
set_option maxHeartbeats 1000000 in
theorem insA_sound {ρ : Ren} (L : Lays2.n21 P ρ) {args : List AV} {h' : Hp} {v : AV} (hs : insA args h = some (v, h')) {vs : Array Value}
    (H : HR σ base h w) (hb : base.fit w.heap.size) (hv : Rs σ args vs.toList) : Calls P (ρ.f 21) vs w (Post base σ v h' w) := by
  unfold insA at hs
  split at hs
  · -- the empty list
    rename_i vid voff m vcap
    cases hd : lkB h.blks vid with
    | none => simp [hd] at hs
    | some d =>
      simp only [hd] at hs
      cases hcc : (Nat.blt 0 m && Nat.ble m 1048576 && Nat.ble (voff + m) d.cells.length && d.cells.all AV.isCell)
      · simp [hcc] at hs
      · simp only [hcc, cond_true, Option.some.injEq, Prod.mk.injEq] at hs
        obtain ⟨rfl, rfl⟩ := hs
        simp only [Bool.and_eq_true] at hcc
        obtain ⟨⟨⟨c1, c2⟩, c3⟩, c4⟩ := hcc
        have c1 : 0 < m := by simpa [Nat.blt_eq] using c1
        have c2 := Nat.le_of_ble_eq_true c2
        have c3 := Nat.le_of_ble_eq_true c3
        simp only [Rs] at hv
        obtain ⟨v0, l0, e0, r0, v1, l1, e1, r1, v2, l2, e2, r2, e3⟩ := hv
        simp only [R] at r0 r1 r2
        subst r0 r1 e3 e2 e1
        obtain ⟨c, k, hc, rfl, hk, _⟩ := r2
        obtain ⟨rfl⟩ : vs = #[.slice none 0 0, .int .i64 0, .slice (some ⟨c.blk, c.off + voff, none⟩) m k] := by
          apply Array.ext'
          simpa using e0
        obtain ⟨cs, e, fz, a1, a2, a3, a4, a5, a6, a7⟩ := H.cellsF hd hc c3
        have h1v := Rs.one' a5 (all_drop_take c4 voff m)
        have run := Any2.slices_Insert_int_end_grow L none 0 0 c.blk (c.off + voff) m k [] ((cs.toList.drop (c.off + voff)).take m) w c1 (Nat.le_refl _) (by omega) (by omega) rfl a6 (fun _ => rfl)
          (fun a ha => by cases ha) a7 h1v
        refine run.mono fun ee w' he => ?_
        obtain ⟨rfl, rfl⟩ := he
        obtain ⟨cs', hcs, hsz, k1, k2, k3⟩ := H.grown hb Rs.nil a5 (z := (Value.int .i64 0).cells) (size := 1) (need := m) (cap := grownCap w (0 + m) 0 (ρ.t 3)) (ρ.t 3) h.next (Nat.le_refl _) rfl (by simp only [List.length_nil, a6]; omega) (by have := grownCap_ge w (0 + m) 0 (ρ.t 3); omega)
        rw [hcs] at k1 k2 k3
        refine ⟨_, _, rfl, ?_, k2, ?_, ?_⟩
        · simp only [R]
          refine ⟨_, grownCap w (0 + m) 0 (ρ.t 3), upd_same _ _ _, by simp, by have := grownCap_ge w (0 + m) 0 (ρ.t 3); omega, ?_, grownCap_le_maxLen _ _ _ _ (by unfold maxLen; omega)⟩
          rw [← hcs, hsz]
          show 0 + grownCap w (0 + m) 0 (ρ.t 3) * 1 = grownCap w (0 + m) 0 (ρ.t 3) * 1
          omega
        · simpa [List.nil_append] using k1
        · simpa using k3
  · -- a list of one's own
    rename_i id n i vid voff m vcap
    cases hbk : lkB h.blks id with
    | none => simp [hbk] at hs
    | some b =>
      cases hd : lkB h.blks vid with
      | none => simp [hbk, hd] at hs
      | some d =>
        simp only [hbk, hd] at hs
        cases hcc : (decide (0 ≤ i) && Nat.blt i.toNat n && Nat.blt 0 m && Nat.ble (n + m) 1048576 && b.wr && d.wr && !Nat.beq b.ch d.ch && Nat.ble n b.cells.length && Nat.ble (voff + m) d.cells.length && b.cells.all AV.isCell && d.cells.all AV.isCell)
        · simp [hcc] at hs
        · simp only [hcc, cond_true, Option.some.injEq, Prod.mk.injEq] at hs
          obtain ⟨rfl, rfl⟩ := hs
          simp only [Bool.and_eq_true, decide_eq_true_eq, Bool.not_eq_true'] at hcc
          obtain ⟨⟨⟨⟨⟨⟨⟨⟨⟨⟨c1, c2⟩, c3⟩, c4⟩, c5⟩, c6⟩, c7⟩, c8⟩, c9⟩, c10⟩, c11⟩ := hcc
          have c2 : i.toNat < n := by simpa [Nat.blt_eq] using c2
          have c3 : 0 < m := by simpa [Nat.blt_eq] using c3
          have c4 := Nat.le_of_ble_eq_true c4
          have c8 := Nat.le_of_ble_eq_true c8
          have c9 := Nat.le_of_ble_eq_true c9
          obtain ⟨j, rfl⟩ : ∃ j : Nat, i = (j : Int) := ⟨i.toNat, by omega⟩
          simp only [Int.toNat_natCast] at c2 ⊢
          simp only [Rs] at hv
          obtain ⟨v0, l0, e0, r0, v1, l1, e1, r1, v2, l2, e2, r2, e3⟩ := hv
          simp only [R] at r0 r1 r2
          subst r1 e3 e2 e1
          obtain ⟨q, k, hq, rfl, hk, htot, hkm⟩ := r0
          obtain ⟨c, kk, hc, rfl, hkk, _⟩ := r2
          obtain ⟨rfl⟩ : vs = #[.slice (some ⟨q.blk, q.off + 0, none⟩) n k, .int .i64 j, .slice (some ⟨c.blk, c.off + voff, none⟩) m kk] := by
            apply Array.ext'
            simpa using e0
          obtain ⟨cs, e, fz, a1, a2, a3, a4, a5, a6, a7⟩ := H.cellsF hd hc c9
          obtain ⟨rw', e', fz', b1, b2, b3, b4, b5, b6, b7⟩ := H.cellsF (off := 0) (n := n) hbk hq (by omega)
          obtain ⟨rfl, hfr⟩ := b2 c5
          obtain ⟨rfl, _⟩ := a2 c6
          have hne : c.blk ≠ q.blk := fun e => by
            have hidv : vid ≠ id := fun e => by
              subst e
              rw [hbk] at hd
              cases hd
              rw [Nat.beq_refl] at c7
              cases c7
            have := (H.al vid id d b c q hidv hd hbk hc hq e c6).1
            rw [this, Nat.beq_refl] at c7
            cases c7
          have h1v := Rs.one' a5 (all_drop_take c11 voff m)
          have h1c := Rs.one' b5 (all_drop_take c10 0 n)
          obtain ⟨VS, hVS⟩ : ∃ l, l = (cs.toList.drop (c.off + voff)).take m := ⟨_, rfl⟩
          obtain ⟨CS, hCS⟩ : ∃ l, l = (rw'.toList.drop (q.off + 0)).take n := ⟨_, rfl⟩
          rw [← hVS] at a5 a6 a7 h1v
          rw [← hCS] at b5 b6 b7 h1c
          simp only [Nat.add_zero] at b7 ⊢
          have hkt : k = q.tot := by omega
          have hchl : b.ch ≤ h.next := by have := H.chn _ (lkB_mem hbk); simp only at this; omega
          have hrel : Rs σ (((b.cells.take n).take j) ++ (d.cells.drop voff).take m ++ (b.cells.take n).drop j) (CS.take j ++ VS ++ CS.drop j) := by
            have b5' : Rs σ (b.cells.take n) CS := by simpa using b5
            exact ((b5'.take j).append a5).append (b5'.drop j)
          by_cases hin : n + m ≤ k
          · -- in place
            have run := Any2.slices_Insert_int_shift L q.blk q.off n k j c.blk (c.off + voff) m kk CS VS w c2 c3 hin (by unfold maxLen at hkm; omega) hne b6 a6 b7
              (fun t ht => by
                simp only [World.cell?, b1, Option.isSome_none, Bool.false_eq_true, if_false]
                rw [Array.getElem?_eq_getElem (by omega)]; rfl)
              (fun t ht => by simp [World.frozen?, b1]) a7 h1c h1v e e' cs.size rw'.size (by simp [World.shape?, a1]) (by simp [World.shape?, b1]) (by omega) (by simp [World.frozen?, a1]) (by simp [World.frozen?, a1])
            refine run.mono fun ee w' he => ?_
            obtain ⟨rfl, hw'⟩ := he
            have hlc : (CS.drop j).length = n - j := by simp [b6]
            have s1 := setCells_row P (w := w.drew) (g := q.blk) (o := q.off + (j + m)) (cur := rw') (e := e') (vs := CS.drop j) b1 (by omega) (fun x hx => h1c x (List.mem_of_mem_drop hx))
            obtain ⟨R1, hR1⟩ : ∃ r : Array Value, r = (rw'.toList.take (q.off + (j + m)) ++ CS.drop j ++ rw'.toList.drop (q.off + (j + m) + (CS.drop j).length)).toArray := ⟨_, rfl⟩
            rw [← hR1] at s1
            have hR1s : R1.size = rw'.size := by rw [hR1]; simp [b6]; omega
            have g1 : (w.drew.setRow q.blk R1).heap[q.blk]? = some (.cells R1 e' (0, 0)) := setRow_heap _ _ _ _ _ _ b1
            have s2 := setCells_row P (w := w.drew.setRow q.blk R1) (g := q.blk) (o := q.off + j) (cur := R1) (e := e') (vs := VS) g1 (by omega) h1v
            obtain ⟨R2, hR2⟩ : ∃ r : Array Value, r = (R1.toList.take (q.off + j) ++ VS ++ R1.toList.drop (q.off + j + VS.length)).toArray := ⟨_, rfl⟩
            rw [← hR2, setRow_setRow] at s2
            rw [s1, s2] at hw'
            subst hw'
            have hR2s : R2.size = rw'.size := by rw [hR2]; simp [a6]; omega
            have get1 := vsplice_get rw'.toList (CS.drop j) (q.off + (j + m)) (by simp [b6]; omega)
            have get2 := vsplice_get R1.toList VS (q.off + j) (by simp [a6]; omega)
            have htk : R2.toList.take (q.off + j) = rw'.toList.take (q.off + j) := by
              rw [hR2, hR1]
              simp only [List.append_assoc]
              rw [List.take_left' (by simp; omega), List.take_append_of_le_length (by simp; omega), List.take_take, Nat.min_eq_left (by omega)]
            have H1 := H.drew.retail hbk c5 hq (cur := rw') (row := R2) b1 (by omega) hR2s htk
            obtain ⟨b1', i1, i2, i3⟩ := lkB_trunc_has b.ch h.next j hbk c5
            have hrow : (w.drew.setRow q.blk R2).heap[q.blk]? = some (.cells R2 e' (0, 0)) := setRow_heap _ _ _ _ _ _ b1
            obtain ⟨k1, k2⟩ := H1.alias i1 i3 hq (b' := { cells := ((b.cells.take n).take j) ++ (d.cells.drop voff).take m ++ (b.cells.take n).drop j, ch := b.ch, wr := true }) i2.symm rfl (cs := R2) hrow
              (by simp; omega)
              (fun t a' ha' => by
                obtain ⟨u, hu, hru⟩ := hrel.get ha'
                refine ⟨u, ?_, hru⟩
                rw [hR2]
                simp only [List.getElem?_toArray]
                rw [get2]
                have hlt : t < n + m := by
                  rcases Nat.lt_or_ge t (n + m) with h | h
                  · exact h
                  · rw [List.getElem?_eq_none (by simp [b6, a6]; omega)] at hu; cases hu
                rw [List.append_assoc] at hu
                by_cases t1 : t < j
                · rw [if_pos (by omega), hR1]
                  simp only [List.getElem?_toArray] 
                  rw [get1, if_pos (by omega)]
                  rw [List.getElem?_append_left (by simp [b6]; omega), List.getElem?_take, if_pos t1] at hu
                  rw [hCS, List.getElem?_take, if_pos (by omega), List.getElem?_drop] at hu
                  simpa using hu
                · rw [if_neg (by omega)]
                  rw [List.getElem?_append_right (by simp [b6]; omega)] at hu
                  have hl1 : (CS.take j).length = j := by simp [b6]; omega
                  rw [hl1] at hu
                  by_cases t2 : t < j + m
                  · rw [if_pos (by omega)]
                    rw [List.getElem?_append_left (by omega)] at hu
                    rw [show q.off + t - (q.off + j) = t - j by omega]
                    exact hu
                  · rw [if_neg (by omega), hR1]
                    simp only [List.getElem?_toArray]
                    rw [get1, if_neg (by omega), if_pos (by omega)]
                    rw [List.getElem?_append_right (by omega), a6] at hu
                    rw [show q.off + t - (q.off + (j + m)) = t - j - m by omega]
                    exact hu)
            refine ⟨_, _, rfl, ?_, k2, k1, (Fw.drew _ _).trans (Fw.row (w := w.drew) b1 hfr _)⟩
            simp only [R]
            exact ⟨q, k, upd_same _ _ _, by simp, hin, htot, hkm⟩
          · -- a new row
            have run := Any2.slices_Insert_int_grow L q.blk q.off n k j c.blk (c.off + voff) m kk CS VS w c2 c3 hk (by omega) (by omega) b6 a6 b7 a7 h1c h1v
            refine run.mono fun ee w' he => ?_
            obtain ⟨rfl, hw'⟩ := he
            obtain ⟨G, hG⟩ : ∃ G, G = grownCap w (n + m) k (ρ.t 3) := ⟨_, rfl⟩
            have hGn : n + m ≤ G := by rw [hG]; exact grownCap_ge w _ _ _
            have hGm : G ≤ maxLen := by rw [hG]; exact grownCap_le_maxLen w _ _ _ (by unfold maxLen; omega)
            rw [← hG] at hw' ⊢
            obtain ⟨ROW, hROW⟩ : ∃ r : Array Value, r = (CS.take j).toArray ++ Builtin.zeroCells (Value.int .i64 0).cells (n + m - j) ++ Builtin.zeroCells (Value.int .i64 0).cells (G - (n + m)) := ⟨_, rfl⟩
            rw [← hROW] at hw'
            have hRs : ROW.size = G := by
              rw [hROW]
              simp only [Array.size_append, List.size_toArray, size_zeroCells, List.length_take, b6]
              have : (Value.int .i64 0).cells.size = 1 := rfl
              rw [this]
              omega
            have hlc : (CS.drop j).length = n - j := by simp [b6]
            have g0 : (w.alloc (.cells ROW (ρ.t 3))).drew.heap[w.heap.size]? = some (.cells ROW (ρ.t 3) (0, 0)) := heap_alloc_new w _
            have s1 := setCells_row P (w := (w.alloc (.cells ROW (ρ.t 3))).drew) (g := w.heap.size) (o := j) (cur := ROW) (vs := VS) g0 (by omega) h1v
            obtain ⟨R1, hR1⟩ : ∃ r : Array Value, r = (ROW.toList.take j ++ VS ++ ROW.toList.drop (j + VS.length)).toArray := ⟨_, rfl⟩
            rw [← hR1] at s1
            have hR1s : R1.size = G := by rw [hR1]; simp [a6]; omega
            have g1 : ((w.alloc (.cells ROW (ρ.t 3))).drew.setRow w.heap.size R1).drew.heap[w.heap.size]? = some (.cells R1 (ρ.t 3) (0, 0)) := setRow_heap _ _ _ _ _ _ g0
            have s2 := setCells_row P (w := ((w.alloc (.cells ROW (ρ.t 3))).drew.setRow w.heap.size R1).drew) (g := w.heap.size) (o := j + m) (cur := R1) (vs := CS.drop j) g1 (by omega) (fun x hx => h1c x (List.mem_of_mem_drop hx))
            obtain ⟨R2, hR2⟩ : ∃ r : Array Value, r = (R1.toList.take (j + m) ++ CS.drop j ++ R1.toList.drop (j + m + (CS.drop j).length)).toArray := ⟨_, rfl⟩
            rw [← hR2] at s2
            rw [s1, s2] at hw'
            have hR2s : R2.size = G := by rw [hR2]; simp [b6]; omega
            have hfin : (((w.alloc (.cells ROW (ρ.t 3))).drew.setRow w.heap.size R1).drew.setRow w.heap.size R2) = (w.alloc (.cells R2 (ρ.t 3))).drew.drew := by
              have x1 : (w.alloc (.cells ROW (ρ.t 3))).drew.setRow w.heap.size R1 = ((w.alloc (.cells ROW (ρ.t 3))).setRow w.heap.size R1).drew := rfl
              rw [x1, setRow_alloc]
              have x2 : (w.alloc (.cells R1 (ρ.t 3))).drew.drew.setRow w.heap.size R2 = ((w.alloc (.cells R1 (ρ.t 3))).setRow w.heap.size R2).drew.drew := rfl
              rw [x2, setRow_alloc]
            rw [hfin] at hw'
            subst hw'
            have get1 := vsplice_get ROW.toList VS j (by simp [a6]; omega)
            have get2 := vsplice_get R1.toList (CS.drop j) (j + m) (by simp [b6]; omega)
            have H1 := H.trunc b.ch h.next j
            obtain ⟨k1, k2⟩ := H1.add hb (b := { cells := ((b.cells.take n).take j) ++ (d.cells.drop voff).take m ++ (b.cells.take n).drop j, ch := b.ch, wr := true }) (cs := R2) (ρ.t 3) (by simp; omega)
              (fun t a' ha' => by
                obtain ⟨u, hu, hru⟩ := hrel.get ha'
                refine ⟨u, ?_, hru⟩
                rw [hR2]
                simp only [List.getElem?_toArray]
                rw [get2]
                have hlt : t < n + m := by
                  rcases Nat.lt_or_ge t (n + m) with h | h
                  · exact h
                  · rw [List.getElem?_eq_none (by simp [b6, a6]; omega)] at hu; cases hu
                rw [List.append_assoc] at hu
                have hl1 : (CS.take j).length = j := by simp [b6]; omega
                by_cases t1 : t < j
                · rw [if_pos (by omega), hR1]
                  simp only [List.getElem?_toArray]
                  rw [get1, if_pos (by omega), hROW]
                  rw [List.getElem?_append_left (by omega)] at hu
                  rw [Array.toList_append, Array.toList_append, List.append_assoc, List.getElem?_append_left (by simpa using (by omega : t < (CS.take j).length))]
                  simpa using hu
                · rw [List.getElem?_append_right (by omega), hl1] at hu
                  by_cases t2 : t < j + m
                  · rw [if_pos (by omega), hR1]
                    simp only [List.getElem?_toArray]
                    rw [get1, if_neg (by omega), if_pos (by omega)]
                    rw [List.getElem?_append_left (by omega)] at hu
                    exact hu
                  · rw [if_neg (by omega), if_pos (by omega)]
                    rw [List.getElem?_append_right (by omega), a6] at hu
                    rw [show t - (j + m) = t - j - m by omega]
                    exact hu)
              hchl rfl
            refine ⟨_, _, rfl, ?_, k2, k1.drew.drew, (Fw.alloc hb _).trans ((Fw.drew _ _).trans (Fw.drew _ _))⟩
            simp only [R]
            exact ⟨_, G, upd_same _ _ _, by simp, hGn, by simp [hR2s], hGm⟩
  · cases hs
end

end Go.Abs

