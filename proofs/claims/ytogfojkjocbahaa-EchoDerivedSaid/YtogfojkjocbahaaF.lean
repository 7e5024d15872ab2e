/- Each operation does to a world what the abstract operation says (1): memory. -/
import Derived.Test.YtogfojkjocbahaaE
import Derived.ChangeKeysEq
import Derived.Laws.Append
namespace Go.Abs
open Go Go.RowKit

def nextVal : Next → Option Value
  | .value v => some v
  | .skip => some undef
  | _ => none

/-- An operation's outcome. -/
def OkS (P : Program) (base : Nat) (σ : Env) (w : World) (s : Sem Next) (v : AV) (h' : Hp) : Prop :=
  ∃ x u w' τ, s.run P w = .ok x w' ∧ nextVal x = some u ∧ R τ v u ∧ Ext σ τ ∧ HR τ base h' w' ∧ Fw base w w'

def OkV (P : Program) (base : Nat) (σ : Env) (w : World) (s : Sem Value) (v : AV) (h' : Hp) : Prop :=
  ∃ u w' τ, s.run P w = .ok u w' ∧ R τ v u ∧ Ext σ τ ∧ HR τ base h' w' ∧ Fw base w w'

section
variable {P : Program} {base : Nat} {σ : Env} {w : World} {h : Hp}

theorem OkV.toS {s : Sem Value} {v : AV} {h' : Hp} (k : OkV P base σ w s v h') : OkS P base σ w (do pure (.value (← s))) v h' := by
  obtain ⟨u, w', τ, h1, h2, h3, h4, h5⟩ := k
  exact ⟨.value u, u, w', τ, by simp [h1], rfl, h2, h3, h4, h5⟩

theorem OkV.pure {s : Sem Value} {v : AV} {u : Value} (H : HR σ base h w) (h1 : s.run P w = .ok u w) (h2 : R σ v u) : OkV P base σ w s v h :=
  ⟨u, w, σ, h1, h2, .refl _, H, .refl _ _⟩

theorem OkS.pure {s : Sem Next} {v : AV} {u : Value} (H : HR σ base h w) (h1 : s.run P w = .ok (.value u) w) (h2 : R σ v u) : OkS P base σ w s v h :=
  ⟨.value u, u, w, σ, h1, rfl, h2, .refl _, H, .refl _ _⟩

theorem zeroCells_spec {t : TypeId} {cs : List AV} (hz : zeroCells P t = some cs) : ∃ i z, P.info? t = some i ∧ i.zero = some z ∧ ∀ σ, Rs σ cs z.cells.toList := by
  unfold zeroCells at hz
  split at hz
  · rename_i i hi
    split at hz
    · rename_i z hz'
      exact ⟨i, z, hi, hz', fun σ => (R_ofV σ z).parts hz⟩
    · cases hz
  · cases hz

theorem szOf_spec {t : TypeId} {n : Nat} (hn : szOf P t = some n) : ∃ i, P.info? t = some i ∧ i.size = n := by
  unfold szOf at hn
  cases hi : P.info? t with
  | none => simp [hi] at hn
  | some i => simp [hi] at hn; exact ⟨i, rfl, hn⟩

theorem run_sizeOf' {t : TypeId} {n : Nat} (hn : szOf P t = some n) (w : World) : (sizeOf t).run P w = .ok n w := by
  obtain ⟨i, hi, rfl⟩ := szOf_spec hn
  simp [sizeOf, run_typeInfo w hi]

theorem run_isAgg' {t : TypeId} {b : Bool} (hb : isAggT P t = some b) (w : World) : (isAgg t).run P w = .ok b w := by
  unfold isAggT at hb
  unfold isAgg
  cases hu : P.underlying t with
  | none => simp [hu] at hb
  | some d =>
    simp only [Sem.run_bind, run_underlying hu, Result.andThen_ok]
    cases d <;> simp [hu] at hb <;> subst hb <;> simp

/-- What is read of a row of related cells. -/
theorem run_part' {t : TypeId} {off : Nat} {cs : List AV} {xs : Array Value} {v : AV} (hr : rdVar P cs t off = some v) (hx : Rs σ cs xs.toList) :
    ∃ u, (part t xs off).run P w = .ok u w ∧ R σ v u := by
  unfold rdVar at hr
  unfold part
  cases ha : isAggT P t with
  | none => simp [ha] at hr
  | some b =>
    cases b
    · simp only [ha] at hr
      obtain ⟨u, hu, hru⟩ := hx.get hr
      refine ⟨u, ?_, hru⟩
      have hu' : xs[off]? = some u := by simpa using hu
      simp [run_isAgg' ha, hu']
    · simp only [ha] at hr
      cases hn : szOf P t with
      | none => simp [hn] at hr
      | some n =>
        simp only [hn, slice?] at hr
        cases hle : Nat.ble (off + n) cs.length
        · simp [hle] at hr
        · simp only [hle, cond_true, Option.map_some, Option.some.injEq] at hr
          subst hr
          refine ⟨.agg (xs.extract off (off + n)), by simp [run_isAgg' ha, run_sizeOf' hn], ?_⟩
          simp only [R]
          refine ⟨_, rfl, ?_⟩
          have := (hx.drop off).take n
          simpa [Array.toList_extract, List.extract] using this

theorem run_loadVar' (H : HR σ base h w) {id off : Nat} {b : Blk} (hb : lkB h.blks id = some b) {c : Loc} (hc : σ id = some c) {t : TypeId} {v : AV}
    (hr : rdVar P b.cells t off = some v) : ∃ u, (loadVar t ⟨c.blk, c.off + off, none⟩).run P w = .ok u w ∧ R σ v u := by
  obtain ⟨c', cs, e, fz, a1, a2, a3, a4, a5, a6⟩ := H.cel id b hb
  rw [hc] at a1
  cases a1
  have cell : ∀ j a, b.cells[j]? = some a → ∃ u, w.cell? ⟨c.blk, c.off + j, none⟩ = some u ∧ R σ a u := fun j a ha => by
    obtain ⟨u, hu, hru⟩ := a5 j a ha
    exact ⟨u, by simp [World.cell?, a2, hu], hru⟩
  unfold rdVar at hr
  unfold loadVar
  cases ha : isAggT P t with
  | none => simp [ha] at hr
  | some x =>
    cases x
    · simp only [ha] at hr
      obtain ⟨u, hu, hru⟩ := cell off v hr
      exact ⟨u, by simp [run_isAgg' ha, hu], hru⟩
    · simp only [ha] at hr
      cases hn : szOf P t with
      | none => simp [hn] at hr
      | some n =>
        simp only [hn, slice?] at hr
        cases hle : Nat.ble (off + n) b.cells.length
        · simp [hle] at hr
        · simp only [hle, cond_true, Option.map_some, Option.some.injEq] at hr
          subst hr
          have hle' : off + n ≤ b.cells.length := Nat.le_of_ble_eq_true hle
          have hsub : Rs σ ((b.cells.drop off).take n) ((cs.toList.drop (c.off + off)).take n) := by
            refine Rs.mk (by simp; omega) fun j a u ha hu => ?_
            rw [List.getElem?_take] at ha hu
            split at ha
            · rw [if_pos ‹_›, List.getElem?_drop] at hu
              rw [List.getElem?_drop] at ha
              obtain ⟨u', hu', hru⟩ := a5 _ _ ha
              rw [show c.off + (off + j) = c.off + off + j by omega] at hu'
              simp only [Array.getElem?_toList] at hu
              rw [hu'] at hu
              cases hu
              exact hru
            · cases ha
          have hlen : ((cs.toList.drop (c.off + off)).take n).length = n := by simp; omega
          have hl := run_loadCells_list (P := P) w ⟨c.blk, c.off + off, none⟩ ((cs.toList.drop (c.off + off)).take n) (fun j u hu => by
            rw [add_none]
            rw [List.getElem?_take] at hu
            split at hu
            · rw [List.getElem?_drop] at hu
              simp only [Array.getElem?_toList] at hu
              simp [World.cell?, a2, hu]
            · cases hu)
          rw [hlen] at hl
          refine ⟨.agg ((cs.toList.drop (c.off + off)).take n).toArray, by simp [run_isAgg' ha, run_sizeOf' hn, hl], ?_⟩
          simp only [R]
          exact ⟨_, rfl, by simpa using hsub⟩

theorem write_spec {id off : Nat} {vs : List AV} {h' : Hp} (hw : h.write id off vs = some h') :
    ∃ b, lkB h.blks id = some b ∧ b.wr = true ∧ off + vs.length ≤ b.cells.length ∧ vs.all AV.isCell = true ∧
      h' = { h with blks := setB (trunc h.blks b.ch id off) id { b with cells := splice b.cells off vs }, esc := h.esc || (Nat.blt id h.base && vs.any AV.hasRef) } := by
  unfold Hp.write at hw
  split at hw
  · rename_i b hb
    cases hc : (b.wr && Nat.ble (off + vs.length) b.cells.length && vs.all AV.isCell)
    · simp [hc] at hw
    · simp only [hc, cond_true, Option.some.injEq] at hw
      simp only [Bool.and_eq_true] at hc
      exact ⟨b, hb, hc.1.1, Nat.le_of_ble_eq_true hc.1.2, hc.2, hw.symm⟩
  · cases hw

/-- A write, in the heap and in the world. -/
theorem HR.write (H : HR σ base h w) {id off : Nat} {vs : List AV} {h' : Hp} (hw : h.write id off vs = some h') {ms : List Value} (hm : Rs σ vs ms) {c : Loc} (hc : σ id = some c) :
    ∃ cur e, w.heap[c.blk]? = some (.cells cur e (0, 0)) ∧ c.off + off + ms.length ≤ cur.size ∧ base ≤ c.blk ∧ (∀ m ∈ ms, m.oneCell' = true) ∧
      HR σ base h' (putRow w c cur off ms) ∧ Fw base w (putRow w c cur off ms) := by
  obtain ⟨b, hb, hwr, hfit, hall, rfl⟩ := write_spec hw
  obtain ⟨c', cur, e, fz, a1, a2, a3, a4, a5, a6⟩ := H.cel id b hb
  rw [hc] at a1
  cases a1
  obtain ⟨rfl, hbase⟩ := a6 hwr
  have hl := hm.length
  have hone : ∀ m ∈ ms, m.oneCell' = true := by
    intro m hmem
    obtain ⟨j, hj⟩ := List.getElem?_of_mem hmem
    have hlt : j < vs.length := by
      rcases Nat.lt_or_ge j ms.length with h | h
      · omega
      · rw [List.getElem?_eq_none h] at hj; cases hj
    obtain ⟨u, hu, hru⟩ := hm.get (List.getElem?_eq_getElem hlt)
    rw [hj] at hu
    cases hu
    exact R.oneCell (List.all_eq_true.1 hall _ (List.getElem_mem hlt)) hru
  refine ⟨cur, e, a2, by omega, hbase, hone, ?_, Fw.row a2 hbase _⟩
  have hT : lkB (trunc h.blks b.ch id off) id = some b := lkB_trunc_some _ _ _ hb (.inr rfl)
  have key := HR.put H hb hwr hc a2 (ms := ms) (off := off) (by omega) (l := setB (trunc h.blks b.ch id off) id { b with cells := splice b.cells off vs })
    (setB_Srt _ _ (trunc_Srt _ _ _ H.srt))
    (fun x hx => by
      rcases setB_mem hx with hx | ⟨rfl, d, hd⟩
      · exact trunc_Chn H.chn x hx
      · have := H.chn _ (lkB_mem hb); exact this)
    (fun i d hd => by
      by_cases hi : i = id
      · subst hi
        rw [lkB_setB_same _ _ _ _ hT] at hd
        cases hd
        refine ⟨b, hb, rfl, rfl, by simp [splice]; omega, fun hne => absurd rfl hne, fun _ j a ha => ?_⟩
        rw [splice_get _ _ _ hfit] at ha
        by_cases h1 : j < off
        · simpa [h1] using ha
        · by_cases h2 : j < off + vs.length
          · rw [if_neg h1, if_pos h2] at ha
            rw [if_neg h1, if_pos (by omega)]
            exact hm.get ha
          · rw [if_neg h1, if_neg h2] at ha
            rw [if_neg h1, if_neg (by omega)]
            exact ha
      · rw [lkB_setB_other _ _ _ _ hi] at hd
        obtain ⟨b0, h1, h2, h3, h4⟩ := lkB_trunc H.srt H.chn hd
        refine ⟨b0, h1, h2, h3, ?_, fun _ => ?_, fun e => absurd e hi⟩
        · rcases h4 with ⟨_, rfl⟩ | ⟨_, h4⟩
          · exact Nat.le_refl _
          · rw [h4, List.length_take]; omega
        · rcases h4 with ⟨h4, rfl⟩ | ⟨_, h4⟩
          · refine ⟨⟨d.cells.length, by simp⟩, fun e => ?_⟩
            rcases h4 with h4 | h4
            · exact absurd e h4
            · exact absurd h4 hi
          · exact ⟨⟨off, h4⟩, fun _ => by rw [h4, List.length_take]; omega⟩)
  exact ⟨key.dom, key.srt, key.chn, key.cel, key.al, key.lps, key.lal⟩

theorem run_storeVar' (H : HR σ base h w) {id off : Nat} {x : AV} {vs : List AV} {h' : Hp} {t : TypeId} {n : Nat} (hp : x.parts = some vs) (hn : szOf P t = some n) (hl : vs.length = n)
    (hw : h.write id off vs = some h') {c : Loc} (hc : σ id = some c) {v : Value} (hv : R σ x v) :
    ∃ w', (storeVar t ⟨c.blk, c.off + off, none⟩ v).run P w = .ok () w' ∧ HR σ base h' w' ∧ Fw base w w' := by
  have hm := R.parts hp hv
  obtain ⟨cur, e, h1, h2, h3, h4, h5, h6⟩ := H.write hw hm hc
  have hst := run_storeCells_at P c.blk (c.off + off) e v.cells.toList 0 cur w h1 (by simpa using h2) h4
  refine ⟨_, ?_, h5, h6⟩
  have hsz : v.cells.size = n := by have := hm.length; simp at this; omega
  unfold storeVar
  simp only [Sem.run_bind, run_sizeOf' hn, Result.andThen_ok, hsz, ne_eq, not_true_eq_false, if_false, Sem.run_ite]
  simp only [Nat.add_zero] at hst
  simpa [putRow] using hst

end
end Go.Abs
