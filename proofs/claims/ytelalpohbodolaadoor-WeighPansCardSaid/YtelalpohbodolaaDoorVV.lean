/- Arguments of laws: slices whose elements are rows of numbers (numbers, arrays and structs of numbers). Arguments of laws: arrays of numbers. Arguments of laws: arrays and structs of four numbers. -/
import Derived.Test.YtelalpohbodolaaDoorSR
import Derived.Test.YtelalpohbodolaaDoorU
import Derived.Deep.Slices
import Derived.OpenShut
set_option linter.unusedSimpArgs false
set_option linter.unusedVariables false
namespace Go.Abs
open Go Go.RowKit Go.WideShapes Go.ChangeShapes Go.Deep

/-- A number's value. -/
def toV : AV → Value
  | .int k n => .int k n
  | _ => undef

def IsNum (a : AV) : Prop := ∃ k n, a = .int k n

/-- A type whose values are rows of numbers of the kinds ks. -/
def RowT (P : Program) (e : TypeId) (ks : List IntKind) : Prop :=
  P.cellsOf e = ks.length ∧ ∀ (H : Type) (enc : TypeId × Value → H) (w : World) (base : Nat) (sp : Nat → Bool) (hd : Bool) (n : Nat) (cs : List Value) (x : DataW H × List MemPlace), DataW.trod enc P w base sp hd n e cs = some x →
    ∃ zs : List Int, zs.length = ks.length ∧ (∀ (j : Nat) (k : IntKind) (z : Int), ks[j]? = some k → zs[j]? = some z → cs[j]? = some (Value.int k z) ∧ (Lit.int k z).wf = true)

theorem RowT.int {P : Program} {e : TypeId} {k : IntKind} (he : P.underlying e = some (.int k)) (hc : P.cellsOf e = 1) : RowT P e [k] :=
  ⟨hc, fun H enc w base sp hd n cs x h => by
    obtain ⟨z, rfl, _, hw⟩ := DataW.trod_int he h
    refine ⟨[z], rfl, fun j k' z' h1 h2 => ?_⟩
    cases j with
    | zero => simp at h1 h2; subst h1 h2; exact ⟨rfl, hw⟩
    | succ j => simp at h1⟩

theorem RowT.pair {P : Program} {e : TypeId} {f0 f1 : Field} {k0 k1 : IntKind} (he : P.underlying e = some (.struct #[f0, f1])) (ce : P.cellsOf e = 2) (o0 : f0.offset = 0) (o1 : f1.offset = 1) (c0 : P.cellsOf f0.type = 1) (c1 : P.cellsOf f1.type = 1)
    (h0 : P.underlying f0.type = some (.int k0)) (h1 : P.underlying f1.type = some (.int k1)) : RowT P e [k0, k1] :=
  ⟨ce, fun H enc w base sp hd n cs x h => by
    obtain ⟨xs, m, _, _, hl, hxl, hf⟩ := DataW.trod_struct he h
    rw [ce] at hl
    match xs, hxl, cs, hl with
    | [y0, y1], _, [v0, v1], _ =>
      have g0 := hf 0 f0 rfl
      have g1 := hf 1 f1 rfl
      simp [o0, o1, c0, c1] at g0 g1
      obtain ⟨z0, e0, _, w0⟩ := DataW.trod_int h0 g0
      obtain ⟨z1, e1, _, w1⟩ := DataW.trod_int h1 g1
      cases e0
      cases e1
      refine ⟨[z0, z1], rfl, fun j k' z' a b => ?_⟩
      match j with
      | 0 => simp at a b; subst a b; exact ⟨rfl, w0⟩
      | 1 => simp at a b; subst a b; exact ⟨rfl, w1⟩
      | j + 2 => simp at a⟩

theorem RowT.array {P : Program} {t e : TypeId} {n : Nat} {k : IntKind} (ht : P.underlying t = some (.array n e)) (he : P.underlying e = some (.int k)) (hc : P.cellsOf e = 1) (ct : P.cellsOf t = n) : RowT P t (List.replicate n k) :=
  ⟨by simpa using ct, fun H enc w base sp hd m cs x h => by
    obtain ⟨xs, m', _, _, hl, hxl, hf⟩ := DataW.trod_array ht h
    rw [ct] at hl
    have each : ∀ i, i < n → ∃ z, cs[i]? = some (.int k z) ∧ (Lit.int k z).wf = true := fun i hi => by
      have g := hf i hi
      rw [hc, Nat.mul_one, List.getElem?_eq_getElem (by omega)] at g
      obtain ⟨z, e1, _, w1⟩ := DataW.trod_int he g
      refine ⟨z, ?_, w1⟩
      have := congrArg (fun l => l[0]?) e1
      simpa [List.getElem?_take, List.getElem?_drop] using this
    obtain ⟨Z, hZ⟩ := choose_lt each
    refine ⟨(List.range n).map Z, by simp, fun j k' z' a b => ?_⟩
    have hj : j < n := by
      have := (List.getElem?_eq_some_iff.1 a).1
      simpa using this
    simp [List.getElem?_replicate, hj] at a
    simp [List.getElem?_map, List.getElem?_range hj] at b
    subst a b
    exact hZ j hj⟩

/-- The rows as cells. -/
def rowsOf (ks : List IntKind) (Z : Nat → List Int) : Nat → List AV
  | 0 => []
  | n + 1 => rowsOf ks Z n ++ (ks.zip (Z n)).map fun p => .int p.1 p.2

theorem rowsOf_len {ks : List IntKind} {Z : Nat → List Int} : ∀ {n : Nat}, (∀ i, i < n → (Z i).length = ks.length) → (rowsOf ks Z n).length = n * ks.length
  | 0, _ => by simp [rowsOf]
  | n + 1, h => by
    rw [rowsOf, List.length_append, rowsOf_len fun i hi => h i (by omega), List.length_map, List.length_zip, h n (by omega), Nat.succ_mul]
    omega

theorem rowsOf_num {ks : List IntKind} {Z : Nat → List Int} : ∀ {n : Nat}, ∀ a ∈ rowsOf ks Z n, IsNum a
  | 0, a, h => by simp [rowsOf] at h
  | n + 1, a, h => by
    rw [rowsOf, List.mem_append] at h
    rcases h with h | h
    · exact rowsOf_num a h
    · simp only [List.mem_map] at h
      obtain ⟨p, _, rfl⟩ := h
      exact ⟨p.1, p.2, rfl⟩

theorem rowsOf_get {ks : List IntKind} {Z : Nat → List Int} : ∀ {n : Nat}, (∀ i, i < n → (Z i).length = ks.length) → ∀ {i j : Nat} {k : IntKind} {z : Int}, i < n → ks[j]? = some k → (Z i)[j]? = some z → (rowsOf ks Z n)[i * ks.length + j]? = some (.int k z)
  | 0, _, i, j, k, z, hi, _, _ => by omega
  | n + 1, h, i, j, k, z, hi, hk, hz => by
    have hj : j < ks.length := (List.getElem?_eq_some_iff.1 hk).1
    have hl := rowsOf_len (ks := ks) (Z := Z) (n := n) fun i hi => h i (by omega)
    rw [rowsOf]
    by_cases e : i = n
    · subst e
      rw [List.getElem?_append_right (by omega), hl, Nat.add_sub_cancel_left, List.getElem?_map, (List.getElem?_zip_eq_some (z := (k, z))).2 ⟨hk, hz⟩]
      rfl
    · have hin : i < n := by omega
      have : i * ks.length + j < n * ks.length := by
        have := Nat.mul_le_mul_right ks.length hin
        rw [Nat.succ_mul] at this
        omega
      rw [List.getElem?_append_left (by omega)]
      exact rowsOf_get (fun i hi => h i (by omega)) hin hk hz

/-- A slice of rows that came in. -/
theorem open_rows {P : Program} {H : Type} {enc : TypeId × Value → H} {w : World} {base : Nat} {hd : Bool} {t e : TypeId} {ks : List IntKind} {fuel : Nat} {a0 : Option Addr} {len cap : Nat} {x : DataW H × List MemPlace}
    (ht : P.underlying t = some (.slice e)) (hr : RowT P e ks) (h : DataW.trod enc P w base (fun _ => true) hd fuel t [.slice a0 len cap] = some x) :
    (a0 = none ∧ len = 0 ∧ cap = 0) ∨ ∃ (a : Addr) (Z : Nat → List Int), a0 = some a ∧ len ≤ cap ∧ cap ≤ maxLen ∧ (∀ i, i < cap → (Z i).length = ks.length) ∧
      (∀ (i j : Nat) (k : IntKind) (z : Int), i < cap → ks[j]? = some k → (Z i)[j]? = some z → w.cell? (a.add (i * ks.length + j)) = some (Value.int k z) ∧ (Lit.int k z).wf = true) := by
  rcases open_slice ht h with ⟨h0, _⟩ | ⟨a, len', cap', m, n, D, Pl, h1, _, hl, hm, hmm, _, hx⟩
  · cases h0
    exact .inl ⟨rfl, rfl, rfl⟩
  · right
    cases h1
    simp only [if_true] at hmm
    subst hmm
    have each : ∀ i, i < m → ∃ zs : List Int, zs.length = ks.length ∧ ∀ (j : Nat) (k : IntKind) (z : Int), ks[j]? = some k → zs[j]? = some z → w.cell? (a.add (i * ks.length + j)) = some (Value.int k z) ∧ (Lit.int k z).wf = true := fun i hi => by
      obtain ⟨cs', c1, c2⟩ := hx i hi
      obtain ⟨zs, hz, hzz⟩ := hr.2 _ _ _ _ _ _ _ _ _ c2
      rw [hr.1] at c1
      obtain ⟨_, hlen, hcell⟩ := World.cells?_some c1
      refine ⟨zs, hz, fun j k z hk hzj => ?_⟩
      obtain ⟨d1, d2⟩ := hzz j k z hk hzj
      have hj : j < ks.length := (List.getElem?_eq_some_iff.1 hk).1
      have := hcell j hj
      rw [add_add, d1] at this
      exact ⟨this, d2⟩
    obtain ⟨Z, hZ⟩ := choose_lt each
    exact ⟨a, Z, rfl, hl, hm, fun i hi => (hZ i hi).1, fun i j k z hi hk hz => (hZ i hi).2 j k z hk hz⟩

/-- Cells that came in, as a block that is only read. -/
theorem HR.cells {σ : Env} {base : Prot} {h : Hp} {w : World} (H : HR σ base h w) {a : Addr} {len cap sz : Nat} {cs : List AV} (hlen : len ≤ cap) (hz : cs.length = cap * sz) (h0 : 0 < cap * sz) (hn : ∀ x ∈ cs, IsNum x)
    (hcell : ∀ i, i < cs.length → w.cell? (a.add i) = some (toV (cs.getD i .any))) (hb : ∀ j b, lkB h.blks j = some b → b.wr = false) (hra : ∀ k, base.ro k) :
    ∃ c, HR (upd σ h.next c) base { h with next := h.next + 1, blks := (h.next, { cells := cs, ch := h.next, wr := false }) :: h.blks } w ∧ Ext σ (upd σ h.next c) ∧
      R (upd σ h.next c) (.sl h.next 0 len (some cap) sz) (.slice (some a) len cap) := by
  obtain ⟨b, o, sp⟩ := a
  have num : ∀ i, i < cs.length → ∃ k n, cs[i]? = some (.int k n) ∧ toV (cs.getD i .any) = .int k n := fun i hi => by
    obtain ⟨k, n, e⟩ := hn _ (List.getElem_mem hi)
    exact ⟨k, n, by rw [List.getElem?_eq_getElem hi, e], by rw [List.getD_eq_getElem?_getD, List.getElem?_eq_getElem hi, e]; rfl⟩
  have hsp : sp = none := by
    obtain ⟨k, n, _, e⟩ := num 0 (by omega)
    have := hcell 0 (by omega)
    rw [e] at this
    have := World.cell?_spot this
    simpa [Addr.add] using this
  subst hsp
  have cell0 := hcell 0 (by omega)
  rw [add_none] at cell0
  -- the block
  obtain ⟨vs, e, fz, hg⟩ : ∃ vs e fz, w.heap[b]? = some (.cells vs e fz) := by
    simp only [World.cell?] at cell0
    split at cell0
    · rename_i cs e fz hg
      exact ⟨cs, e, _, hg⟩
    · cases cell0
  have cells : ∀ i, i < cs.length → vs[o + i]? = some (toV (cs.getD i .any)) := fun i hi => by
    have := hcell i hi
    rw [add_none] at this
    simpa [World.cell?, hg] using this
  have hsz : o + cs.length ≤ vs.size := by
    have := cells (cs.length - 1) (by omega)
    have := (Array.getElem?_eq_some_iff.1 this).1
    omega
  have hx : Ext σ (upd σ h.next ⟨b, o, vs.size - o⟩) := .upd _ (H.dom _ (Nat.le_refl _))
  refine ⟨⟨b, o, vs.size - o⟩, ⟨fun i hi => ?_, ?_, ?_, fun i d hd => ?_, fun i j d d' c c' hij hd hd' hc hc' hbk hw => ?_, H.lps.step hx (fun _ _ _ _ _ _ h _ _ _ => h) (fun _ _ h => h) (fun _ _ _ => rfl)⟩, hx, ?_⟩
  · have hi' : h.next + 1 ≤ i := hi
    rw [upd_other _ _ _ _ (by omega)]; exact H.dom i (by omega)
  · simp only [Srt, List.pairwise_cons]
    exact ⟨fun x hx => (H.chn x hx).2, H.srt⟩
  · intro x hx
    simp only [List.mem_cons] at hx
    rcases hx with rfl | hx
    · exact ⟨Nat.le_refl _, Nat.lt_succ_self _⟩
    · have := H.chn x hx; exact ⟨this.1, Nat.lt_succ_of_lt this.2⟩
  · by_cases hi : h.next = i
    · subst hi
      simp only [lkB, Nat.beq_refl, cond_true, Option.some.injEq] at hd
      subst hd
      refine ⟨_, vs, e, fz, upd_same _ _ _, hg, by simp only; omega, by simp only; omega, fun j x hj => ?_, ⟨fun hw => (by cases hw), fun _ => .inl (hra _)⟩⟩
      have hjl : j < cs.length := (List.getElem?_eq_some_iff.1 hj).1
      obtain ⟨k, n, e1, e2⟩ := num j hjl
      simp only at hj
      rw [e1] at hj
      cases hj
      have := cells j hjl
      rw [e2] at this
      exact ⟨_, this, by simp [R]⟩
    · simp only [lkB, nb hi, cond_false] at hd
      obtain ⟨c', cs', e', fz', b1, b2, b3, b4, b5, b6⟩ := H.cel i d hd
      refine ⟨c', cs', e', fz', hx _ _ b1, b2, b3, b4, fun j a ha => ?_, b6⟩
      obtain ⟨v, h1, h2⟩ := b5 j a ha
      exact ⟨v, h1, h2.ext hx⟩
  · by_cases hi : h.next = i
    · subst hi
      simp only [lkB, Nat.beq_refl, cond_true, Option.some.injEq] at hd
      subst hd
      cases hw
    · simp only [lkB, nb hi, cond_false] at hd
      rw [hb i d hd] at hw
      cases hw
  · simp only [R]
    exact ⟨_, cap, upd_same _ _ _, by simp, hlen, rfl⟩

theorem refsOK_num {n : Nat} {cs : List AV} (h : ∀ x ∈ cs, IsNum x) : refsOK n cs = true := refsOK_iff.2 fun a ha => by
  obtain ⟨k, z, rfl⟩ := h a ha
  rfl

/-- An argument: a slice of rows. What is known of its rows: Z, their count. -/
structure ArgR (bs : List (Nat × Blk)) (ks : List IntKind) (a : AV) (n : Nat) (Z : Nat → List Int) : Prop where
  arr : Arr bs ks.length a n (rowsOf ks Z n)
  len : ∀ i, i < n → (Z i).length = ks.length
  wf : ∀ (i j : Nat) (k : IntKind) (z : Int), i < n → ks[j]? = some k → (Z i)[j]? = some z → (Lit.int k z).wf = true
  small : n ≤ maxLen

theorem ArgR.sub {bs bs' : List (Nat × Blk)} {ks : List IntKind} {a : AV} {n : Nat} {Z : Nat → List Int} (A : ArgR bs ks a n Z) (s : Sub bs bs') : ArgR bs' ks a n Z := ⟨A.arr.sub s, A.len, A.wf, A.small⟩

/-- A heap of arguments. -/
structure ArgH (σ : Env) (base : Prot) (h : Hp) (w : World) : Prop where
  hr : HR σ base h w
  ok : Hok h
  ro : ∀ j b, lkB h.blks j = some b → b.wr = false
  any : ∀ k, base.ro k

theorem ArgH.empty (w : World) (hg : GloW w) : ArgH (fun _ => none) (below w.heap.size) ⟨0, [], [], 0, false⟩ w := ⟨HR.empty w hg, rfl, fun j b h => by simp [lkB] at h, fun _ => trivial⟩

/-- One more argument. -/
theorem ArgH.rows {P : Program} {H : Type} {enc : TypeId × Value → H} {w : World} {b0 : Nat} {base : Prot} {hd : Bool} {t e : TypeId} {ks : List IntKind} {fuel : Nat} {a0 : Option Addr} {len cap : Nat} {x : DataW H × List MemPlace}
    (ht : P.underlying t = some (.slice e)) (hr : RowT P e ks) (h0 : 0 < ks.length) (hf : DataW.trod enc P w b0 (fun _ => true) hd fuel t [.slice a0 len cap] = some x) {σ : Env} {h : Hp} (A : ArgH σ base h w) :
    ∃ (τ : Env) (h' : Hp) (a : AV) (Z : Nat → List Int), ArgH τ base h' w ∧ Ext σ τ ∧ Sub h.blks h'.blks ∧ R τ a (.slice a0 len cap) ∧ ArgR h'.blks ks a len Z := by
  rcases open_rows ht hr hf with ⟨rfl, rfl, rfl⟩ | ⟨ad, Z, rfl, hl, hm, hZ, hc⟩
  · exact ⟨σ, h, .nilsl, fun _ => [], A, Ext.refl _, Sub.refl _, by simp [R], ⟨by simp [rowsOf, Arr], fun i hi => by omega, fun i j k z hi => by omega, Nat.zero_le _⟩⟩
  · by_cases hc0 : cap = 0
    · subst hc0
      have : len = 0 := by omega
      subst this
      exact ⟨σ, h, .esl, fun _ => [], A, Ext.refl _, Sub.refl _, by simp only [R]; exact ⟨ad, 0, rfl⟩, ⟨by simp [rowsOf, Arr], fun i hi => by omega, fun i j k z hi => by omega, Nat.zero_le _⟩⟩
    · have hlen := rowsOf_len hZ
      have hpos : 0 < cap * ks.length := Nat.mul_pos (by omega) h0
      have cell : ∀ i, i < (rowsOf ks Z cap).length → w.cell? (ad.add i) = some (toV ((rowsOf ks Z cap).getD i .any)) := fun i hi => by
        rw [hlen] at hi
        have hd1 : i / ks.length < cap := Nat.div_lt_of_lt_mul (by rw [Nat.mul_comm]; exact hi)
        have hm1 : i % ks.length < ks.length := Nat.mod_lt _ h0
        have he : i / ks.length * ks.length + i % ks.length = i := by rw [Nat.mul_comm]; exact Nat.div_add_mod _ _
        have hz1 : i % ks.length < (Z (i / ks.length)).length := by rw [hZ _ hd1]; exact hm1
        have g := rowsOf_get hZ hd1 (List.getElem?_eq_getElem hm1) (List.getElem?_eq_getElem hz1)
        have c := (hc _ _ _ _ hd1 (List.getElem?_eq_getElem hm1) (List.getElem?_eq_getElem hz1)).1
        rw [he] at g c
        rw [List.getD_eq_getElem?_getD, g]
        exact c
      obtain ⟨c, k1, k2, k3⟩ := A.hr.cells hl hlen hpos (fun x hx => rowsOf_num x hx) cell A.ro A.any
      refine ⟨_, _, _, Z, ⟨k1, HokR.push A.ok (refsOK_num fun x hx => rowsOf_num x hx) (Nat.le_refl _), fun j b hb => ?_, A.any⟩, k2, Sub.push (Sub.refl _) (HokR.fresh A.ok), k3, ⟨?_, fun i hi => hZ i (by omega), fun i j k z hi hk hz => (hc i j k z (by omega) hk hz).2, by omega⟩⟩
      · simp only at hb
        by_cases e : j = h.next
        · subst e
          rw [lkB_top] at hb
          cases hb
          rfl
        · rw [lkB_push e] at hb
          exact A.ro j b hb
      · have hl2 := rowsOf_len (n := len) fun i hi => hZ i (by omega)
        refine ⟨hl2, .inr ⟨h.next, 0, some cap, rfl, hl, fun j hj => ?_⟩⟩
        rw [Nat.zero_add]
        simp only [cellB, lkB_top, Option.bind_some]
        have hd1 : j / ks.length < len := Nat.div_lt_of_lt_mul (by rw [Nat.mul_comm]; exact hj)
        have hm1 : j % ks.length < ks.length := Nat.mod_lt _ h0
        have he : j / ks.length * ks.length + j % ks.length = j := by rw [Nat.mul_comm]; exact Nat.div_add_mod _ _
        have hz1 : j % ks.length < (Z (j / ks.length)).length := by rw [hZ _ (by omega)]; exact hm1
        have g := rowsOf_get hZ (show j / ks.length < cap by omega) (List.getElem?_eq_getElem hm1) (List.getElem?_eq_getElem hz1)
        have g' := rowsOf_get (n := len) (fun i hi => hZ i (by omega)) hd1 (List.getElem?_eq_getElem hm1) (List.getElem?_eq_getElem hz1)
        rw [he] at g g'
        rw [g, g']

/- What the rows are. -/
theorem ArgR.ints {bs : List (Nat × Blk)} {k : IntKind} {a : AV} {n : Nat} {Z : Nat → List Int} (A : ArgR bs [k] a n Z) : ∃ zs : List Int, Ints bs k a zs ∧ (∀ z ∈ zs, (Lit.int k z).wf = true) ∧ zs.length ≤ maxLen := by
  have hz : ∀ i, i < n → Z i = [(Z i).getD 0 0] := fun i hi => by
    have := A.len i hi
    match h : Z i, this with
    | [z], _ => simp
  have key : ∀ m, m ≤ n → rowsOf [k] Z m = Go.Abs.ints k ((List.range m).map fun i => (Z i).getD 0 0) := fun m hm => by
    induction m with
    | zero => simp [rowsOf, Go.Abs.ints]
    | succ m ih =>
      rw [rowsOf, ih (by omega), List.range_succ, List.map_append, ← ints_append]
      congr 1
      rw [hz m (by omega)]
      simp [Go.Abs.ints]
  refine ⟨(List.range n).map fun i => (Z i).getD 0 0, ?_, fun z hz' => ?_, by simpa using A.small⟩
  · have := A.arr
    rw [key n (Nat.le_refl _)] at this
    simpa [Ints] using this
  · simp only [List.mem_map, List.mem_range] at hz'
    obtain ⟨i, hi, rfl⟩ := hz'
    refine A.wf i 0 k _ hi rfl ?_
    rw [hz i hi]
    simp

theorem ArgR.two {bs : List (Nat × Blk)} {k0 k1 : IntKind} {a : AV} {n : Nat} {Z : Nat → List Int} (A : ArgR bs [k0, k1] a n Z) :
    ∃ l : List (Int × Int), Arr bs 2 a l.length (l.flatMap fun p => [.int k0 p.1, .int k1 p.2]) ∧ (∀ p ∈ l, (Lit.int k0 p.1).wf = true ∧ (Lit.int k1 p.2).wf = true) ∧ l.length ≤ maxLen := by
  have hz : ∀ i, i < n → Z i = [(Z i).getD 0 0, (Z i).getD 1 0] := fun i hi => by
    have := A.len i hi
    match h : Z i, this with
    | [z, y], _ => simp
  have key : ∀ m, m ≤ n → rowsOf [k0, k1] Z m = ((List.range m).map fun i => ((Z i).getD 0 0, (Z i).getD 1 0)).flatMap fun p => [.int k0 p.1, .int k1 p.2] := fun m hm => by
    induction m with
    | zero => simp [rowsOf]
    | succ m ih =>
      rw [rowsOf, ih (by omega), List.range_succ, List.map_append, List.flatMap_append]
      congr 1
      rw [hz m (by omega)]
      simp
  refine ⟨(List.range n).map fun i => ((Z i).getD 0 0, (Z i).getD 1 0), ?_, fun p hp => ?_, by simpa using A.small⟩
  · have := A.arr
    rw [key n (Nat.le_refl _)] at this
    simpa using this
  · simp only [List.mem_map, List.mem_range] at hp
    obtain ⟨i, hi, rfl⟩ := hp
    constructor
    · refine A.wf i 0 k0 _ hi rfl ?_
      rw [hz i hi]
      simp
    · refine A.wf i 1 k1 _ hi rfl ?_
      rw [hz i hi]
      simp

theorem ArgR.pairs {bs : List (Nat × Blk)} {a : AV} {n : Nat} {Z : Nat → List Int} (A : ArgR bs [.i64, .i64] a n Z) : ∃ l : List (Int × Int), Pairs bs a l ∧ l.length ≤ maxLen := by
  obtain ⟨l, h, _, hl⟩ := A.two
  exact ⟨l, h, hl⟩

theorem wf_u16 {z : Int} (h : (Lit.int .u16 z).wf = true) : 0 ≤ z ∧ z ≤ 65535 := by
  simp [Lit.wf, IntKind.min, IntKind.max, IntKind.bits, IntKind.signed] at h
  omega
theorem wf_u8 {z : Int} (h : (Lit.int .u8 z).wf = true) : 0 ≤ z ∧ z ≤ 255 := by
  simp [Lit.wf, IntKind.min, IntKind.max, IntKind.bits, IntKind.signed] at h
  omega

theorem ArgR.pairs16 {bs : List (Nat × Blk)} {a : AV} {n : Nat} {Z : Nat → List Int} (A : ArgR bs [.u16, .u16] a n Z) : ∃ l : List (Int × Int), Pairs16 bs a l ∧ (∀ p ∈ l, 0 ≤ p.1 ∧ p.1 ≤ 65535 ∧ 0 ≤ p.2 ∧ p.2 ≤ 65535) ∧ l.length ≤ maxLen := by
  obtain ⟨l, h, hw, hl⟩ := A.two
  exact ⟨l, h, fun p hp => by have h1 := wf_u16 (hw p hp).1; have h2 := wf_u16 (hw p hp).2; omega, hl⟩
end Go.Abs

set_option linter.unusedSimpArgs false
set_option linter.unusedVariables false
namespace Go.Abs
open Go Go.RowKit Go.WideShapes Go.ChangeShapes Go.Deep

theorem open_arr {P : Program} {H : Type} {enc : TypeId × Value → H} {w : World} {base b0 : Nat} {spare : Nat → Bool} {held : Bool} {t e : TypeId} {n : Nat} {k : IntKind} {r : Reach} {v : Value} {d : DataW H} {ps : List MemPlace}
    (ht : P.underlying t = some (.array n e)) (hr : RowT P t (List.replicate n k)) (hval : Value.okWide P w r b0 t v) (hd : DataW.Trod enc P w base spare held t v d ps) :
    ∃ zs : List Int, zs.length = n ∧ v = .agg (zs.map (Value.int k)).toArray ∧ ∀ z ∈ zs, (Lit.int k z).wf = true := by
  simp only [Value.okWide, ht] at hval
  obtain ⟨cs, rfl, hsz, _⟩ := hval
  obtain ⟨fuel, hf⟩ := hd
  have hf' : DataW.trod enc P w base spare held fuel t cs.toList = some (d, ps) := hf
  obtain ⟨zs, hl, hz⟩ := hr.2 _ _ _ _ _ _ _ _ _ hf'
  rw [List.length_replicate] at hl
  rw [hr.1, List.length_replicate] at hsz
  have hrep : ∀ j, j < n → (List.replicate n k)[j]? = some k := fun j hj => by simp [List.getElem?_replicate, hj]
  refine ⟨zs, hl, ?_, fun z hm => ?_⟩
  · congr 1
    apply Array.ext'
    rw [List.toList_toArray]
    refine List.ext_getElem? fun j => ?_
    by_cases hj : j < n
    · have hj2 : j < zs.length := by omega
      have := (hz j k zs[j] (hrep j hj) (List.getElem?_eq_getElem hj2)).1
      rw [this, List.getElem?_map, List.getElem?_eq_getElem hj2]
      rfl
    · rw [List.getElem?_eq_none (by simp; omega), List.getElem?_eq_none (by simp; omega)]
  · obtain ⟨j, hj, rfl⟩ := List.mem_iff_getElem.1 hm
    exact (hz j k zs[j] (hrep j (by omega)) (List.getElem?_eq_getElem hj)).2

theorem open_arr2 {P : Program} {H : Type} {enc : TypeId × Value → H} {w : World} {base b0 : Nat} {spare : Nat → Bool} {held : Bool} {t e : TypeId} {k : IntKind} {r : Reach} {v : Value} {d : DataW H} {ps : List MemPlace}
    (ht : P.underlying t = some (.array 2 e)) (hr : RowT P t (List.replicate 2 k)) (hval : Value.okWide P w r b0 t v) (hd : DataW.Trod enc P w base spare held t v d ps) :
    ∃ x y : Int, v = .agg #[.int k x, .int k y] ∧ (Lit.int k x).wf = true ∧ (Lit.int k y).wf = true := by
  obtain ⟨zs, hl, rfl, hw⟩ := open_arr ht hr hval hd
  match zs, hl, hw with
  | [x, y], _, hw => exact ⟨x, y, rfl, hw x (by simp), hw y (by simp)⟩

theorem open_arr3 {P : Program} {H : Type} {enc : TypeId × Value → H} {w : World} {base b0 : Nat} {spare : Nat → Bool} {held : Bool} {t e : TypeId} {k : IntKind} {r : Reach} {v : Value} {d : DataW H} {ps : List MemPlace}
    (ht : P.underlying t = some (.array 3 e)) (hr : RowT P t (List.replicate 3 k)) (hval : Value.okWide P w r b0 t v) (hd : DataW.Trod enc P w base spare held t v d ps) :
    ∃ x y z : Int, v = .agg #[.int k x, .int k y, .int k z] ∧ (Lit.int k x).wf = true ∧ (Lit.int k y).wf = true ∧ (Lit.int k z).wf = true := by
  obtain ⟨zs, hl, rfl, hw⟩ := open_arr ht hr hval hd
  match zs, hl, hw with
  | [x, y, z], _, hw => exact ⟨x, y, z, rfl, hw x (by simp), hw y (by simp), hw z (by simp)⟩
end Go.Abs

set_option linter.unusedSimpArgs false
set_option linter.unusedVariables false
namespace Go.Abs
open Go Go.RowKit Go.WideShapes Go.ChangeShapes Go.Deep

theorem open_arr4 {P : Program} {H : Type} {enc : TypeId × Value → H} {w : World} {base b0 : Nat} {spare : Nat → Bool} {held : Bool} {t e : TypeId} {k : IntKind} {r : Reach} {v : Value} {d : DataW H} {ps : List MemPlace}
    (ht : P.underlying t = some (.array 4 e)) (hr : RowT P t (List.replicate 4 k)) (hval : Value.okWide P w r b0 t v) (hd : DataW.Trod enc P w base spare held t v d ps) :
    ∃ x y z u : Int, v = .agg #[.int k x, .int k y, .int k z, .int k u] ∧ (Lit.int k x).wf = true ∧ (Lit.int k y).wf = true ∧ (Lit.int k z).wf = true ∧ (Lit.int k u).wf = true := by
  obtain ⟨zs, hl, rfl, hw⟩ := open_arr ht hr hval hd
  match zs, hl, hw with
  | [x, y, z, u], _, hw => exact ⟨x, y, z, u, rfl, hw x (by simp), hw y (by simp), hw z (by simp), hw u (by simp)⟩

theorem RowT.quad {P : Program} {e : TypeId} {f0 f1 f2 f3 : Field} {k0 k1 k2 k3 : IntKind} (he : P.underlying e = some (.struct #[f0, f1, f2, f3])) (ce : P.cellsOf e = 4) (o0 : f0.offset = 0) (o1 : f1.offset = 1) (o2 : f2.offset = 2) (o3 : f3.offset = 3)
    (c0 : P.cellsOf f0.type = 1) (c1 : P.cellsOf f1.type = 1) (c2 : P.cellsOf f2.type = 1) (c3 : P.cellsOf f3.type = 1)
    (h0 : P.underlying f0.type = some (.int k0)) (h1 : P.underlying f1.type = some (.int k1)) (h2 : P.underlying f2.type = some (.int k2)) (h3 : P.underlying f3.type = some (.int k3)) : RowT P e [k0, k1, k2, k3] :=
  ⟨ce, fun H enc w base sp hd n cs x h => by
    obtain ⟨xs, m, _, _, hl, hxl, hf⟩ := DataW.trod_struct he h
    rw [ce] at hl
    match xs, hxl, cs, hl with
    | [y0, y1, y2, y3], _, [v0, v1, v2, v3], _ =>
      have g0 := hf 0 f0 rfl
      have g1 := hf 1 f1 rfl
      have g2 := hf 2 f2 rfl
      have g3 := hf 3 f3 rfl
      simp [o0, o1, o2, o3, c0, c1, c2, c3] at g0 g1 g2 g3
      obtain ⟨z0, e0, _, w0⟩ := DataW.trod_int h0 g0
      obtain ⟨z1, e1, _, w1⟩ := DataW.trod_int h1 g1
      obtain ⟨z2, e2, _, w2⟩ := DataW.trod_int h2 g2
      obtain ⟨z3, e3, _, w3⟩ := DataW.trod_int h3 g3
      cases e0
      cases e1
      cases e2
      cases e3
      refine ⟨[z0, z1, z2, z3], rfl, fun j k' z' a b => ?_⟩
      match j with
      | 0 => simp at a b; subst a b; exact ⟨rfl, w0⟩
      | 1 => simp at a b; subst a b; exact ⟨rfl, w1⟩
      | 2 => simp at a b; subst a b; exact ⟨rfl, w2⟩
      | 3 => simp at a b; subst a b; exact ⟨rfl, w3⟩
      | j + 4 => simp at a⟩

theorem open_quad {P : Program} {H : Type} {enc : TypeId × Value → H} {w : World} {base b0 : Nat} {spare : Nat → Bool} {held : Bool} {t : TypeId} {fs : Array Field} {k : IntKind} {r : Reach} {v : Value} {d : DataW H} {ps : List MemPlace}
    (ht : P.underlying t = some (.struct fs)) (hr : RowT P t [k, k, k, k]) (hval : Value.okWide P w r b0 t v) (hd : DataW.Trod enc P w base spare held t v d ps) :
    ∃ x y z u : Int, v = .agg #[.int k x, .int k y, .int k z, .int k u] ∧ (Lit.int k x).wf = true ∧ (Lit.int k y).wf = true ∧ (Lit.int k z).wf = true ∧ (Lit.int k u).wf = true := by
  simp only [Value.okWide, ht] at hval
  obtain ⟨cs, rfl, hsz, _⟩ := hval
  obtain ⟨fuel, hf⟩ := hd
  have hf' : DataW.trod enc P w base spare held fuel t cs.toList = some (d, ps) := hf
  obtain ⟨zs, hl, hz⟩ := hr.2 _ _ _ _ _ _ _ _ _ hf'
  rw [hr.1] at hsz
  match zs, hl, hz with
  | [x, y, z, u], _, hz =>
    have a0 := hz 0 k x rfl rfl
    have a1 := hz 1 k y rfl rfl
    have a2 := hz 2 k z rfl rfl
    have a3 := hz 3 k u rfl rfl
    refine ⟨x, y, z, u, ?_, a0.2, a1.2, a2.2, a3.2⟩
    congr 1
    apply Array.ext'
    refine List.ext_getElem? fun j => ?_
    match j with
    | 0 => exact a0.1
    | 1 => exact a1.1
    | 2 => exact a2.1
    | 3 => exact a3.1
    | j + 4 =>
      rw [List.getElem?_eq_none (by simp at hsz ⊢; omega), List.getElem?_eq_none (by simp)]
end Go.Abs
