/- Each operation does to a world what the abstract operation says (6): len, min, max, append, copy. Each operation does to a world what the abstract operation says (7): the builtins, whole. -/
import Derived.Test.YtbomimhfldmlbaaDoorJ
set_option linter.unusedSimpArgs false
set_option linter.unusedVariables false
namespace Go.Abs
open Go Go.RowKit

section
variable {P : Program} {base : Prot} {σ : Env} {w : World} {h : Hp}

/-- A second block over the same memory as a block of the call's own. -/
theorem HR.alias (H : HR σ base h w) {id : Nat} {b b' : Blk} (hb : lkB h.blks id = some b) (hw : b.wr = true) {c : Loc} (hc : σ id = some c) (hch : b'.ch = b.ch) (hbw : b'.wr = true)
    {cs : Array Value} {e : TypeId} {fz : Nat × Nat} (hg : w.heap[c.blk]? = some (.cells cs e fz)) (hl : b'.cells.length ≤ c.tot)
    (hr : ∀ (j : Nat) (a : AV), b'.cells[j]? = some a → ∃ v : Value, cs[c.off + j]? = some v ∧ R σ a v) :
    HR (upd σ h.next c) base { h with next := h.next + 1, blks := (h.next, b') :: h.blks } w ∧ Ext σ (upd σ h.next c) := by
  have hx : Ext σ (upd σ h.next c) := .upd _ (H.dom _ (Nat.le_refl _))
  obtain ⟨c0, cs0, e0, fz0, a1, a2, a3, a4, a5, a6⟩ := H.cel id b hb
  rw [hc] at a1
  cases a1
  rw [hg] at a2
  cases a2
  have same : ∀ j d c', lkB h.blks j = some d → σ j = some c' → c.blk = c'.blk → b.ch = d.ch ∧ c = c' := fun j d c' hd hc' hbk => by
    by_cases hj : id = j
    · subst hj
      rw [hb] at hd
      rw [hc] at hc'
      cases hd
      cases hc'
      exact ⟨rfl, rfl⟩
    · exact H.al id j b d c c' hj hb hd hc hc' hbk hw
  refine ⟨⟨fun i hi => ?_, ?_, ?_, fun i d hd => ?_, fun i j d d' c1 c2 hij hd hd' hc1 hc2 hbk hw' => ?_, H.lps.step hx (fun _ _ _ _ _ _ h _ _ _ => h) (fun _ _ h => h)⟩, hx⟩
  · have hi' : h.next + 1 ≤ i := hi
    rw [upd_other _ _ _ _ (by omega)]; exact H.dom i (by omega)
  · simp only [Srt, List.pairwise_cons]
    exact ⟨fun x hx => (H.chn x hx).2, H.srt⟩
  · intro x hx
    simp only [List.mem_cons] at hx
    rcases hx with rfl | hx
    · have := H.chn _ (lkB_mem hb)
      simp only at this ⊢
      exact ⟨by rw [hch]; omega, Nat.lt_succ_self _⟩
    · have := H.chn x hx; exact ⟨this.1, Nat.lt_succ_of_lt this.2⟩
  · by_cases hi : h.next = i
    · subst hi
      simp only [lkB, Nat.beq_refl, cond_true, Option.some.injEq] at hd
      subst hd
      refine ⟨c, cs, e, fz, upd_same _ _ _, hg, a3, hl, fun j a ha => ?_, ⟨fun _ => a6.1 hw, fun hw' => by rw [hbw] at hw'; cases hw'⟩⟩
      obtain ⟨v, h1, h2⟩ := hr j a ha
      exact ⟨v, h1, h2.ext hx⟩
    · simp only [lkB, nb hi, cond_false] at hd
      obtain ⟨c', cs', e', fz', b1, b2, b3, b4, b5, b6⟩ := H.cel i d hd
      refine ⟨c', cs', e', fz', hx _ _ b1, b2, b3, b4, fun j a ha => ?_, b6⟩
      obtain ⟨v, h1, h2⟩ := b5 j a ha
      exact ⟨v, h1, h2.ext hx⟩
  · by_cases hi : h.next = i
    · subst hi
      have hj : h.next ≠ j := fun e => hij e
      simp only [lkB, Nat.beq_refl, cond_true, Option.some.injEq] at hd
      subst hd
      simp only [lkB, nb hj, cond_false] at hd'
      rw [upd_same] at hc1
      rw [upd_other _ _ _ _ (by omega)] at hc2
      cases hc1
      rw [hch]
      exact same j d' c2 hd' hc2 hbk
    · simp only [lkB, nb hi, cond_false] at hd
      rw [upd_other _ _ _ _ (by omega)] at hc1
      by_cases hj : h.next = j
      · subst hj
        simp only [lkB, Nat.beq_refl, cond_true, Option.some.injEq] at hd'
        subst hd'
        rw [upd_same] at hc2
        cases hc2
        have := same i d c1 hd hc1 hbk.symm
        exact ⟨by rw [hch]; exact this.1.symm, this.2.symm⟩
      · simp only [lkB, nb hj, cond_false] at hd'
        rw [upd_other _ _ _ _ (by omega)] at hc2
        exact H.al i j d d' c1 c2 hij hd hd' hc1 hc2 hbk hw'

theorem HR.trunc (H : HR σ base h w) (c s n : Nat) : HR σ base { h with blks := trunc h.blks c s n } w :=
  H.sub (trunc_Srt _ _ _ H.srt) (trunc_Chn H.chn) fun _ _ hd => lkB_trunc_take H.srt H.chn hd

/-- The cells that a slice brings. -/
theorem src_spec (H : HR σ base h w) {size n : Nat} {x : AV} {vs : List AV} (hs : srcCells h size x = some (vs, n)) {u : Value} (hu : R σ x u) :
    ∃ ms, Rs σ vs ms ∧ ms.length = n * size ∧ ((u = .slice none 0 0 ∧ n = 0) ∨ ∃ a k, u = .slice (some a) n k ∧ ∀ j m, ms[j]? = some m → w.cell? (a.add j) = some m) := by
  cases x <;> simp only [srcCells] at hs
  case nilsl =>
    cases hs
    simp only [R] at hu
    exact ⟨[], Rs.nil, by simp, .inl ⟨hu, rfl⟩⟩
  case esl =>
    cases hs
    simp only [R] at hu
    obtain ⟨b, q, rfl⟩ := hu
    exact ⟨[], Rs.nil, by simp, .inr ⟨b, q, rfl, fun j m hm => by simp at hm⟩⟩
  case sl id off len cap sz =>
    by_cases hl0 : len = 0
    · subst hl0
      simp only [Nat.beq_refl, cond_true, Option.some.injEq, Prod.mk.injEq] at hs
      obtain ⟨rfl, rfl⟩ := hs
      simp only [R] at hu
      obtain ⟨c, k, hc, rfl, _⟩ := hu
      exact ⟨[], Rs.nil, by simp, .inr ⟨_, k, rfl, fun j m hm => by simp at hm⟩⟩
    rw [nb hl0] at hs
    simp only [cond_false] at hs
    split at hs
    · rename_i b hb
      simp only [slice?] at hs
      cases hle : Nat.ble (off + len * size) b.cells.length
      · simp [hle] at hs
      · simp only [hle, cond_true, Option.map_some, Option.some.injEq, Prod.mk.injEq] at hs
        obtain ⟨rfl, rfl⟩ := hs
        have hle' := Nat.le_of_ble_eq_true hle
        simp only [R] at hu
        obtain ⟨c, k, hc, rfl, hk, _⟩ := hu
        obtain ⟨c', cs, e, fz, a1, a2, a3, a4, a5, a6⟩ := H.cel id b hb
        rw [hc] at a1
        cases a1
        refine ⟨(cs.toList.drop (c.off + off)).take (len * size), Rs.mk (by simp; omega) fun j a v ha hv => ?_, by simp; omega, .inr ⟨_, k, rfl, fun j m hm => ?_⟩⟩
        · rw [List.getElem?_take] at ha hv
          split at ha
          · rw [if_pos ‹_›, List.getElem?_drop] at hv
            rw [List.getElem?_drop] at ha
            obtain ⟨u', hu', hru⟩ := a5 _ _ ha
            rw [show c.off + (off + j) = c.off + off + j by omega] at hu'
            simp only [Array.getElem?_toList] at hv
            rw [hu'] at hv
            cases hv
            exact hru
          · cases ha
        · rw [add_none]
          rw [List.getElem?_take] at hm
          split at hm
          · rw [List.getElem?_drop] at hm
            simp only [Array.getElem?_toList] at hm
            simp [World.cell?, a2, hm]
          · cases hm
    · cases hs
  all_goals cases hs

theorem lkB_trunc_has : ∀ {l : List (Nat × Blk)} (c s n : Nat) {i : Nat} {b : Blk}, lkB l i = some b → b.wr = true → ∃ d, lkB (Abs.trunc l c s n) i = some d ∧ d.ch = b.ch ∧ d.wr = true
  | [], c, s, n, i, b, h, _ => by simp [lkB] at h
  | (j, d) :: r, c, s, n, i, b, h, hw => by
    simp only [Abs.trunc]
    cases hb : Nat.blt j c
    · simp only [cond_false]
      by_cases hj : j = i
      · subst hj
        simp only [lkB, Nat.beq_refl, cond_true, Option.some.injEq] at h ⊢
        subst h
        refine ⟨_, rfl, ?_⟩
        cases (Nat.beq d.ch c && !Nat.beq j s) <;> simp [hw]
      · simp only [lkB, nb hj, cond_false] at h ⊢
        exact lkB_trunc_has c s n h hw
    · exact ⟨b, by simpa only [cond_true] using h, rfl, hw⟩

theorem run_append_zero {t e : TypeId} {i : TypeInfo} (ty : TypeId) (ht : P.underlying t = some (.slice e)) (hi : P.info? e = some i) (b : Option Addr) {len k : Nat} (hk : len ≤ k) (x : Option Addr) (c : Nat) :
    (Builtin.append_ #[t, t] ty #[.slice b len k, .slice x 0 c]).run P w = .ok (.slice b len k) w := by
  have hf : (Builtin.firstCells i.size 0 (.slice x 0 c)).run P w = .ok #[] w := by
    cases x with
    | none => simp [Builtin.firstCells]
    | some a => simp [Builtin.firstCells, loadCells, loadCellsFrom]
  cases b with
  | none => simp [Builtin.append_, run_underlying ht, sizeOf, typeInfo, hi, Builtin.lenOf, hk, hf]
  | some a => simp [Builtin.append_, run_underlying ht, sizeOf, typeInfo, hi, Builtin.lenOf, hk, hf, storeCells]

theorem run_append_room' {t e e' : TypeId} {i : TypeInfo} (ty : TypeId) (ht : P.underlying t = some (.slice e)) (hi : P.info? e = some i)
    (g o sLen sCap : Nat) (cur : Array Value) (hg : w.heap[g]? = some (.cells cur e' (0, 0)))
    (a : Addr) (m c : Nat) (news : List Value) (hl : news.length = m * i.size) (hnews : ∀ j u, news[j]? = some u → w.cell? (a.add j) = some u) (h1 : ∀ u ∈ news, u.oneCell' = true)
    (hroom : sLen + m ≤ sCap) (hfit : o + sLen * i.size + news.length ≤ cur.size) :
    (Builtin.append_ #[t, t] ty #[.slice (some ⟨g, o, none⟩) sLen sCap, .slice (some a) m c]).run P w =
      .ok (.slice (some ⟨g, o, none⟩) (sLen + m) sCap) (w.setRow g (cur.toList.take (o + sLen * i.size) ++ news ++ cur.toList.drop (o + sLen * i.size + news.length)).toArray) := by
  have hf := run_firstCells_some (P := P) w i.size m a m c news hl hnews
  have hst := run_storeCells_at P g (o + sLen * i.size) e' news 0 cur w hg (by simpa using hfit) h1
  simp only [Nat.add_zero] at hst
  simp [Builtin.append_, run_underlying ht, sizeOf, typeInfo, hi, Builtin.lenOf, hroom, hf, add_none, hst]

theorem okGrow_spec {e size need : Nat} (hg : okGrow P e size need = true) : need ≤ 1073741824 ∧ (∃ i z, P.info? e = some i ∧ i.zero = some z ∧ z.cells.size = size ∧ i.bytes ≤ 4096) := by
  simp only [okGrow, Bool.and_eq_true] at hg
  obtain ⟨⟨h1, h2⟩, h3⟩ := hg
  refine ⟨Nat.le_of_ble_eq_true h1, ?_⟩
  split at h3
  · rename_i zc hz
    obtain ⟨i, z, hi, hz', hr⟩ := zeroCells_spec hz
    refine ⟨i, z, hi, hz', ?_, ?_⟩
    · have := (hr (fun _ => none)).length
      simp only [Array.length_toList] at this
      rw [this]
      exact Nat.eq_of_beq_eq_true h3
    · simp only [bytesOf, hi, Option.map_some, Option.any_some] at h2
      exact Nat.le_of_ble_eq_true h2
  · cases h3

/-- A grown block, as the model makes it. -/
theorem HR.grown (H : HR σ base h w) (hb : base.fit w.heap.size) {old vs : List AV} {os ms : List Value} (ho : Rs σ old os) (hm : Rs σ vs ms) {z : Array Value} {size need cap : Nat} (e : TypeId) (ch : Nat) (hch : ch ≤ h.next)
    (hz : z.size = size) (hl : os.length + ms.length = need * size) (hcap : need ≤ cap) :
    ∃ cs : Array Value, cs = os.toArray ++ ms.toArray ++ Builtin.zeroCells z (cap - need) ∧ cs.size = cap * size ∧
      HR (upd σ h.next ⟨w.heap.size, 0, cs.size⟩) base { h with next := h.next + 1, blks := (h.next, { cells := old ++ vs, ch := ch, wr := true }) :: h.blks } (w.drew.alloc (.cells cs e)) ∧
      Ext σ (upd σ h.next ⟨w.heap.size, 0, cs.size⟩) ∧ Fw base w (w.drew.alloc (.cells cs e)) := by
  refine ⟨_, rfl, ?_, ?_⟩
  · simp only [Array.size_append, List.size_toArray, size_zeroCells, hz]
    rw [hl, ← Nat.add_mul]
    congr 1
    omega
  · have hap := ho.append hm
    have hlen := hap.length
    have key := HR.add (H := H.drew) (w := w.drew) hb (b := { cells := old ++ vs, ch := ch, wr := true }) (cs := os.toArray ++ ms.toArray ++ Builtin.zeroCells z (cap - need)) e
      (by simp only [Array.size_append, List.size_toArray]; simp only [List.length_append] at hlen ⊢; omega)
      (fun j a ha => by
        obtain ⟨v, hv, hr⟩ := hap.get ha
        refine ⟨v, ?_, hr⟩
        have hj : j < (os ++ ms).length := by
          rcases Nat.lt_or_ge j (os ++ ms).length with h | h
          · exact h
          · rw [List.getElem?_eq_none h] at hv; cases hv
        rw [Array.getElem?_append_left (by simpa using hj)]
        simpa using hv) hch rfl
    exact ⟨key.1, key.2, (Fw.drew _ _).trans (Fw.alloc (w := w.drew) hb _)⟩

theorem append1_sound (H : HR σ base h w) (hb : base.fit w.heap.size) {t e : TypeId} {size n : Nat} {s x v : AV} {vs : List AV} {h' : Hp} (ty : TypeId) (ht : P.underlying t = some (.slice e))
    (hm : szOf P e = some size) (hsrc : srcCells h size x = some (vs, n)) (ha : append1 P h e size vs n s = some (v, h')) {us ux : Value} (hus : R σ s us) (hux : R σ x ux) :
    OkV P base σ w (Builtin.append_ #[t, t] ty #[us, ux]) v h' := by
  obtain ⟨i, hi, rfl⟩ := szOf_spec hm
  obtain ⟨ms, hms, hml, hcase⟩ := src_spec H hsrc hux
  -- nothing to append
  have zero : n = 0 → ∃ a c, ux = .slice a 0 c := fun h0 => by
    rcases hcase with ⟨rfl, _⟩ | ⟨a, k, rfl, _⟩
    · exact ⟨none, 0, rfl⟩
    · exact ⟨some a, k, by rw [h0]⟩
  have some' : n ≠ 0 → ∃ a k, ux = .slice (some a) n k ∧ ∀ j m, ms[j]? = some m → w.cell? (a.add j) = some m := fun h0 => by
    rcases hcase with ⟨_, h1⟩ | h1
    · exact absurd h1 h0
    · exact h1
  cases s <;> simp only [append1] at ha
  case nilsl =>
    simp only [R] at hus
    subst hus
    by_cases h0 : n = 0
    · obtain ⟨a, c, rfl⟩ := zero h0
      subst h0
      simp only [Nat.beq_refl, cond_true, Option.some.injEq, Prod.mk.injEq] at ha
      obtain ⟨rfl, rfl⟩ := ha
      exact .pure H (run_append_zero ty ht hi none (Nat.le_refl _) a c) (by simp [R])
    · rw [nb h0] at ha
      simp only [cond_false] at ha
      cases hg : (okGrow P e i.size n && vs.all AV.isCell)
      · simp [hg] at ha
      · simp only [hg, cond_true, Option.some.injEq, Prod.mk.injEq] at ha
        obtain ⟨rfl, rfl⟩ := ha
        simp only [Bool.and_eq_true] at hg
        obtain ⟨hneed, i', z, hi', hz, hzs, hby⟩ := okGrow_spec hg.1
        rw [hi] at hi'
        cases hi'
        obtain ⟨a, k, rfl, hcell⟩ := some' h0
        have hbytes : n * i.bytes ≤ 281474976710656 := by
          have := Nat.mul_le_mul hneed hby
          omega
        have hrun := run_append_nil (P := P) w t ty e i z ht hi hz a n k ms hml hcell (by omega) (by omega) hbytes
        obtain ⟨cs, hcs, hsz, k1, k2, k3⟩ := H.grown hb Rs.nil hms (z := z.cells) (need := n) (cap := grownCap w n 0 e) e h.next (Nat.le_refl _) hzs (by simpa using hml) (grownCap_ge _ _ _ _)
        have hcs' : cs = ms.toArray ++ Builtin.zeroCells z.cells (grownCap w n 0 e - n) := by rw [hcs]; simp
        rw [← hcs'] at hrun
        refine ⟨_, _, _, hrun, ?_, k2, k1, k3⟩
        simp only [R]
        exact ⟨_, grownCap w n 0 e, upd_same _ _ _, by simp, grownCap_ge _ _ _ _, by simp [hsz], grownCap_le_maxLen _ _ _ _ (by unfold maxLen; omega)⟩
  case esl =>
    simp only [R] at hus
    obtain ⟨b0, q0, rfl⟩ := hus
    by_cases h0 : n = 0
    · obtain ⟨a, c, rfl⟩ := zero h0
      subst h0
      simp only [Nat.beq_refl, cond_true, Option.some.injEq, Prod.mk.injEq] at ha
      obtain ⟨rfl, rfl⟩ := ha
      exact .pure H (run_append_zero ty ht hi (some b0) (Nat.zero_le _) a c) (by simp only [R]; exact ⟨b0, q0, rfl⟩)
    · rw [nb h0] at ha
      simp only [cond_false] at ha
      cases ha
  case sl id off len cap sz =>
    by_cases hsz : sz = i.size
    · subst hsz
      simp only [Nat.beq_refl, Bool.not_true, cond_false] at ha
      have hus' := hus
      simp only [R] at hus
      obtain ⟨c, k, hc, rfl, hk, hcap⟩ := hus
      by_cases h0 : n = 0
      · obtain ⟨a, q, rfl⟩ := zero h0
        subst h0
        simp only [Nat.beq_refl, cond_true, Option.some.injEq, Prod.mk.injEq] at ha
        obtain ⟨rfl, rfl⟩ := ha
        exact .pure H (run_append_zero ty ht hi _ hk a q) hus'
      · rw [nb h0] at ha
        simp only [cond_false] at ha
        cases hg : (okGrow P e i.size (len + n) && vs.all AV.isCell)
        · simp [hg] at ha
        · simp only [hg, Bool.not_true, cond_false] at ha
          simp only [Bool.and_eq_true] at hg
          obtain ⟨hneed, i', z, hi', hz, hzs, hby⟩ := okGrow_spec hg.1
          rw [hi] at hi'
          cases hi'
          obtain ⟨a, q, rfl, hcell⟩ := some' h0
          have hmul : (len + n) * i.bytes ≤ 140737488355328 := by
            have := Nat.mul_le_mul hneed hby
            omega
          have h63 : ((len + n : Nat) : Int) ≤ 9223372036854775807 := by omega
          -- within the capacity
          have room : ∀ {h1 : Hp}, h.write id (off + len * i.size) vs = some h1 → len + n ≤ k →
              (Builtin.append_ #[t, t] ty #[.slice (some ⟨c.blk, c.off + off, none⟩) len k, .slice (some a) n q]).run P w =
                .ok (.slice (some ⟨c.blk, c.off + off, none⟩) (len + n) k) (putRow w c ((w.heap[c.blk]?).elim #[] fun | .cells x _ _ => x | _ => #[]) (off + len * i.size) ms) ∧
              HR σ base h1 (putRow w c ((w.heap[c.blk]?).elim #[] fun | .cells x _ _ => x | _ => #[]) (off + len * i.size) ms) ∧
              Fw base w (putRow w c ((w.heap[c.blk]?).elim #[] fun | .cells x _ _ => x | _ => #[]) (off + len * i.size) ms) := fun hw hle => by
            obtain ⟨cur, e', g1, g2, g3, g4, g5, g6⟩ := H.write hw hms hc
            rw [g1]
            refine ⟨?_, g5, g6⟩
            have := run_append_room' (P := P) ty ht hi c.blk (c.off + off) len k cur g1 a n q ms hml hcell g4 hle (by omega)
            simpa [putRow, Nat.add_assoc] using this
          -- beyond it
          have grow : ∀ {old : List AV} {os : List Value}, Rs σ old os → os.length = len * i.size → (∀ j u, os[j]? = some u → w.cell? (⟨c.blk, c.off + off + j, none⟩) = some u) → ¬ (len + n ≤ k) →
              ∀ (h0 : Hp), HR σ base h0 w → ∀ ch, ch ≤ h0.next →
              OkV P base σ w (Builtin.append_ #[t, t] ty #[.slice (some ⟨c.blk, c.off + off, none⟩) len k, .slice (some a) n q]) (.sl h0.next 0 (len + n) none i.size)
                { h0 with next := h0.next + 1, blks := (h0.next, { cells := old ++ vs, ch := ch, wr := true }) :: h0.blks } := fun ho hol hoc hlt h0 H0 ch hch => by
            have hrun := run_append_grow (P := P) w t ty e i z ht hi hz ⟨c.blk, c.off + off, none⟩ len k _ hol (fun j u hu => by rw [add_none]; exact hoc j u hu) a n q ms hml hcell (by omega) h63
              (growslice_fits (by omega) hmul)
            obtain ⟨cs, hcs, hsz, k1, k2, k3⟩ := H0.grown hb ho hms (z := z.cells) (need := len + n) (cap := grownCap w (len + n) k e) e ch hch hzs (by rw [hol, hml, ← Nat.add_mul]) (grownCap_ge _ _ _ _)
            rw [← hcs] at hrun
            refine ⟨_, _, _, hrun, ?_, k2, k1, k3⟩
            simp only [R]
            exact ⟨_, grownCap w (len + n) k e, upd_same _ _ _, by simp, grownCap_ge _ _ _ _, by simp [hsz], grownCap_le_maxLen _ _ _ _ (by unfold maxLen; omega)⟩
          -- the old cells
          have olds : ∀ {b : Blk}, lkB h.blks id = some b → off + len * i.size ≤ b.cells.length →
              ∃ os, Rs σ ((b.cells.drop off).take (len * i.size)) os ∧ os.length = len * i.size ∧ (∀ j u, os[j]? = some u → w.cell? (⟨c.blk, c.off + off + j, none⟩) = some u) := fun {b} hbk hle => by
            have hs2 : srcCells h i.size (.sl id off len cap i.size) = some ((b.cells.drop off).take (len * i.size), len) := by
              by_cases hl0 : len = 0
              · subst hl0
                simp [srcCells]
              · simp only [srcCells, hbk, slice?, nb hl0, cond_false]
                have : Nat.ble (off + len * i.size) b.cells.length = true := Nat.ble_eq_true_of_le hle
                simp [this]
            obtain ⟨os, o1, o2, o3⟩ := src_spec H hs2 hus'
            refine ⟨os, o1, o2, fun j u hu => ?_⟩
            rcases o3 with ⟨o3, _⟩ | ⟨a', k', o3, o4⟩
            · cases o3
            · cases o3
              have := o4 j u hu
              rwa [add_none] at this
          cases hbk : lkB h.blks id with
          | none => simp [hbk] at ha
          | some b =>
            cases cap with
            | some cc =>
              simp only at hcap
              subst hcap
              simp only [hbk] at ha
              cases hle : Nat.ble (len + n) k
              · simp only [hle, cond_false] at ha
                simp only [slice?] at ha
                cases hle2 : Nat.ble (off + len * i.size) b.cells.length
                · simp [hle2] at ha
                · simp only [hle2, cond_true, Option.some.injEq, Prod.mk.injEq] at ha
                  obtain ⟨rfl, rfl⟩ := ha
                  obtain ⟨os, o1, o2, o3⟩ := olds hbk (Nat.le_of_ble_eq_true hle2)
                  exact grow o1 o2 o3 (fun hh => by rw [Nat.ble_eq_true_of_le hh] at hle; cases hle) h H h.next (Nat.le_refl _)
              · simp only [hle, cond_true] at ha
                cases hw : h.write id (off + len * i.size) vs with
                | none => simp [hw] at ha
                | some h1 =>
                  simp only [hw, Option.map_some, Option.some.injEq, Prod.mk.injEq] at ha
                  obtain ⟨rfl, rfl⟩ := ha
                  obtain ⟨r1, r2, r3⟩ := room hw (Nat.le_of_ble_eq_true hle)
                  refine ⟨_, _, σ, r1, ?_, .refl _, r2, r3⟩
                  simp only [R]
                  exact ⟨c, k, hc, rfl, Nat.le_of_ble_eq_true hle, rfl⟩
            | none =>
              simp only at hcap
              have hcap2 := hcap.2
              replace hcap := hcap.1
              simp only [hbk] at ha
              obtain ⟨c', cs, e', fz, a1, a2, a3, a4, a5, a6⟩ := H.cel id b hbk
              rw [hc] at a1
              cases a1
              cases hle : (Nat.blt 0 i.size && Nat.ble (off + (len + n) * i.size) b.cells.length)
              · simp only [hle, cond_false] at ha
                cases hcd : (Nat.beq off 0 && b.wr && Nat.ble (len * i.size) b.cells.length)
                · simp [hcd] at ha
                · simp only [hcd, cond_true, Option.some.injEq, Prod.mk.injEq] at ha
                  obtain ⟨rfl, rfl⟩ := ha
                  simp only [Bool.and_eq_true] at hcd
                  obtain ⟨⟨ho0, hwr⟩, hlen⟩ := hcd
                  have ho0 := Nat.eq_of_beq_eq_true ho0
                  subst ho0
                  have hlen := Nat.le_of_ble_eq_true hlen
                  obtain ⟨rfl, hbase⟩ := a6.1 hwr
                  obtain ⟨os, o1, o2, o3⟩ := olds hbk (by omega)
                  have o1' : Rs σ (b.cells.take (len * i.size)) os := by simpa using o1
                  have hchl : b.ch ≤ h.next := by have := H.chn _ (lkB_mem hbk); simp only at this; omega
                  by_cases hin : len + n ≤ k
                  · -- in place: the new block lies over the old one
                    have hfit : c.off + len * i.size + ms.length ≤ cs.size := by
                      have h5 := Nat.mul_le_mul_right i.size hin
                      rw [Nat.add_mul] at h5
                      omega
                    have hone : ∀ m ∈ ms, m.oneCell' = true := by
                      intro m hmem
                      obtain ⟨j, hj⟩ := List.getElem?_of_mem hmem
                      have hl := hms.length
                      have hlt : j < vs.length := by
                        rcases Nat.lt_or_ge j ms.length with h | h
                        · omega
                        · rw [List.getElem?_eq_none h] at hj; cases hj
                      obtain ⟨u, hu, hru⟩ := hms.get (List.getElem?_eq_getElem hlt)
                      rw [hj] at hu
                      cases hu
                      exact R.oneCell (List.all_eq_true.1 hg.2 _ (List.getElem_mem hlt)) hru
                    have hrun := run_append_room' (P := P) ty ht hi c.blk (c.off + 0) len k cs a2 a n q ms hml hcell hone hin (by simpa using hfit)
                    have hrun' : (Builtin.append_ #[t, t] ty #[.slice (some ⟨c.blk, c.off + 0, none⟩) len k, .slice (some a) n q]).run P w = .ok (.slice (some ⟨c.blk, c.off + 0, none⟩) (len + n) k) (putRow w c cs (len * i.size) ms) := by
                      simpa [putRow] using hrun
                    have hT := H.put hbk hwr hc a2 (ms := ms) (off := len * i.size) hfit (l := trunc h.blks b.ch h.next (len * i.size)) (trunc_Srt _ _ _ H.srt) (trunc_Chn H.chn) (fun j d hd => by
                      obtain ⟨b0, t1, t2, t3, t4⟩ := lkB_trunc H.srt H.chn hd
                      have hne : j ≠ h.next := by have := lkB_lt H.chn t1; omega
                      refine ⟨b0, t1, t2, t3, ?_, fun _ => ?_, fun ej j' a' ha' => ?_⟩
                      · rcases t4 with ⟨_, rfl⟩ | ⟨_, t4⟩
                        · exact Nat.le_refl _
                        · rw [t4, List.length_take]; omega
                      · rcases t4 with ⟨t4, rfl⟩ | ⟨_, t4⟩
                        · refine ⟨⟨d.cells.length, by simp⟩, fun ech => ?_⟩
                          rcases t4 with t4 | t4
                          · exact absurd ech t4
                          · exact absurd t4 hne
                        · exact ⟨⟨_, t4⟩, fun _ => by rw [t4, List.length_take]; omega⟩
                      · subst ej
                        rw [hbk] at t1
                        cases t1
                        rcases t4 with ⟨t4, _⟩ | ⟨_, t4⟩
                        · rcases t4 with t4 | t4
                          · exact absurd rfl t4
                          · exact absurd t4 hne
                        · rw [t4, List.getElem?_take] at ha'
                          split at ha'
                          · rw [if_pos ‹_›]; exact ha'
                          · cases ha')
                    have hid : ∃ b1, lkB (trunc h.blks b.ch h.next (len * i.size)) id = some b1 ∧ b1.ch = b.ch ∧ b1.wr = true := by
                      have hne : id ≠ h.next := by have := lkB_lt H.chn hbk; omega
                      exact lkB_trunc_has _ _ _ hbk hwr
                    obtain ⟨b1, i1, i2, i3⟩ := hid
                    have hrow := setRow_heap w c.blk cs (cs.toList.take (c.off + len * i.size) ++ ms ++ cs.toList.drop (c.off + len * i.size + ms.length)).toArray e' (0, 0) a2
                    obtain ⟨k1, k2⟩ := hT.alias i1 i3 hc (b' := { cells := b.cells.take (len * i.size) ++ vs, ch := b.ch, wr := true }) i2.symm rfl (cs := _) hrow
                      (by
                        have h5 := Nat.mul_le_mul_right i.size hin
                        rw [Nat.add_mul] at h5
                        have hl := hms.length
                        simp only [List.length_append, List.length_take]
                        omega)
                      (fun j a' ha' => by
                        have hl := hms.length
                        have hol := o1'.length
                        simp only [List.getElem?_toArray]
                        rw [vsplice_get cs.toList ms (c.off + len * i.size) (by simpa using hfit)]
                        have htl : (b.cells.take (len * i.size)).length = len * i.size := by simp; omega
                        by_cases hj : j < len * i.size
                        · rw [if_pos (by omega)]
                          rw [List.getElem?_append_left (by omega), List.getElem?_take, if_pos hj] at ha'
                          obtain ⟨u, hu, hru⟩ := a5 j a' ha'
                          exact ⟨u, by simpa using hu, hru⟩
                        · rw [List.getElem?_append_right (by omega), htl] at ha'
                          obtain ⟨u, hu, hru⟩ := hms.get ha'
                          have hlt : j - len * i.size < ms.length := by
                            rcases Nat.lt_or_ge (j - len * i.size) ms.length with h | h
                            · exact h
                            · rw [List.getElem?_eq_none h] at hu; cases hu
                          rw [if_neg (by omega), if_pos (by omega)]
                          exact ⟨u, by rw [show c.off + j - (c.off + len * i.size) = j - len * i.size by omega]; exact hu, hru⟩)
                    refine ⟨_, _, _, hrun', ?_, k2, k1, Fw.row a2 hbase _⟩
                    simp only [R]
                    exact ⟨c, k, upd_same _ _ _, by simp, hin, hcap, hcap2⟩
                  · exact grow o1' o2 (fun j u hu => o3 j u hu) hin { h with blks := trunc h.blks b.ch h.next (len * i.size) } (H.trunc _ _ _) b.ch hchl
              · simp only [hle, cond_true] at ha
                cases hw : h.write id (off + len * i.size) vs with
                | none => simp [hw] at ha
                | some h1 =>
                  simp only [hw, Option.map_some, Option.some.injEq, Prod.mk.injEq] at ha
                  obtain ⟨rfl, rfl⟩ := ha
                  simp only [Bool.and_eq_true] at hle
                  have hpos : 0 < i.size := Nat.le_of_ble_eq_true hle.1
                  have hle' := Nat.le_of_ble_eq_true hle.2
                  have hin : len + n ≤ k := Nat.le_of_mul_le_mul_right (by omega) hpos
                  obtain ⟨r1, r2, r3⟩ := room hw hin
                  refine ⟨_, _, σ, r1, ?_, .refl _, r2, r3⟩
                  simp only [R]
                  exact ⟨c, k, hc, rfl, hin, hcap, hcap2⟩
    · rw [nb hsz] at ha
      simp at ha
  all_goals cases ha

end
end Go.Abs

namespace Go.Abs
open Go Go.RowKit

section
variable {P : Program} {base : Prot} {σ : Env} {w : World} {h : Hp}

theorem bind_some {α β : Type} {x : Option α} {f : α → Option β} {y : β} (h : x.bind f = some y) : ∃ z, x = some z ∧ f z = some y := by
  cases x with
  | none => simp at h
  | some z => exact ⟨z, rfl, by simpa using h⟩

theorem copy_sound (H : HR σ base h w) {ts : Array TypeId} {t e : TypeId} {size n id off len sz : Nat} {cap : Option Nat} {x : AV} {vs : List AV} {h' : Hp} (ty : TypeId) (h0 : ts[0]? = some t) (ht : P.underlying t = some (.slice e))
    (hm : szOf P e = some size) (hsrc : srcCells h size x = some (vs, n)) (hw : h.write id off (vs.take (Nat.min n len * size)) = some h') {us ux : Value} (hus : R σ (.sl id off len cap sz) us) (hux : R σ x ux) :
    OkV P base σ w (Builtin.copy_ ts ty #[us, ux]) (.int .i64 (Nat.min n len : Nat)) h' := by
  obtain ⟨ms, hms, hml, hcase⟩ := src_spec H hsrc hux
  simp only [R] at hus
  obtain ⟨c, k, hc, rfl, _⟩ := hus
  obtain ⟨cur, e', g1, g2, g3, g4, g5, g6⟩ := H.write hw (hms.take _) hc
  have hle : Nat.min n len * size ≤ ms.length := by rw [hml]; exact Nat.mul_le_mul_right _ (Nat.min_le_left _ _)
  have hf : (Builtin.firstCells size (Nat.min n len) ux).run P w = .ok (ms.take (Nat.min n len * size)).toArray w := by
    rcases hcase with ⟨rfl, rfl⟩ | ⟨a, q, rfl, hcell⟩
    · have : ms = [] := List.eq_nil_of_length_eq_zero (by rw [hml]; simp)
      subst this
      simp [Builtin.firstCells]
    · exact run_firstCells_some (P := P) w size _ a _ q _ (by rw [List.length_take]; omega) fun j m hj => by
        rw [List.getElem?_take] at hj
        split at hj
        · exact hcell j m hj
        · cases hj
  have hlen : (Builtin.lenOf ux).run P w = .ok n w := by
    rcases hcase with ⟨rfl, rfl⟩ | ⟨a, q, rfl, hcell⟩ <;> simp [Builtin.lenOf]
  have hst := run_storeCells_at P c.blk (c.off + off) e' (ms.take (Nat.min n len * size)) 0 cur w g1 (by simpa using g2) g4
  simp only [Nat.add_zero] at hst
  refine ⟨.int .i64 (Nat.min n len : Nat), _, σ, ?_, by simp [R], .refl _, g5, g6⟩
  unfold Builtin.copy_
  simp only [h0, List.getElem?_toArray, List.getElem?_cons_zero, List.getElem?_cons_succ, Sem.run_bind, run_underlying ht, Result.andThen_ok, hlen, run_sizeOf' hm, hf, hst, Sem.run_pure, goInt, putRow]

theorem clear_sound (H : HR σ base h w) {ts : Array TypeId} {t e : TypeId} {id off len sz : Nat} {cap : Option Nat} {z : List AV} {h' : Hp} (ty : TypeId) (h0 : ts[0]? = some t) (ht : P.underlying t = some (.slice e))
    (hz : zeroCells P e = some z) (hw : h.write id off (repl z len) = some h') (hl : 0 < len) {us : Value} (hus : R σ (.sl id off len cap sz) us) :
    OkV P base σ w (Builtin.clear_ ts ty #[us]) .any h' := by
  obtain ⟨i, zv, hi, hz', hr⟩ := zeroCells_spec hz
  have hms : Rs σ (repl z len) (Builtin.zeroCells zv.cells len).toList := by
    unfold Builtin.zeroCells
    have := (hr σ).length
    exact repl_sound (hr σ) len _ (by have := (hr σ).length; simp only [Array.length_toList] at this; rw [this])
  simp only [R] at hus
  obtain ⟨c, k, hc, rfl, _⟩ := hus
  obtain ⟨cur, e', g1, g2, g3, g4, g5, g6⟩ := H.write hw hms hc
  have hst := run_storeCells_at P c.blk (c.off + off) e' (Builtin.zeroCells zv.cells len).toList 0 cur w g1 (by simpa using g2) g4
  simp only [Nat.add_zero] at hst
  obtain ⟨n, rfl⟩ : ∃ n, len = n + 1 := ⟨len - 1, by omega⟩
  refine ⟨.tuple #[], _, σ, ?_, R_any, .refl _, g5, g6⟩
  unfold Builtin.clear_
  simp only [h0, List.getElem?_toArray, List.getElem?_cons_zero, Sem.run_bind, run_underlying ht, Result.andThen_ok, run_zeroValue' hi hz', hst, Sem.run_pure, putRow]

theorem builtin1_sound (H : HR σ base h w) (hb : base.fit w.heap.size) {b : Builtin} {ts : Array TypeId} {args : List AV} {v : AV} {h' : Hp} {vs : Array Value} (hv : Rs σ args vs.toList)
    (hs : builtin1 P h b ts args = some (v, h')) (ty : TypeId) (consts : Array Bool) : OkS P base σ w (builtin b ts ty consts vs) v h' := by
  unfold builtin
  cases b <;> simp only [builtin1] at hs ⊢
  case len =>
    split at hs
    · rename_i e id off len cap sz ht
      cases hs
      obtain ⟨t, h0, ht⟩ := bind_some ht
      have hv' := hv
      simp only [Rs, R] at hv'
      obtain ⟨u, m, he, ⟨c, k, hc, rfl, _⟩, rfl⟩ := hv'
      have hvs : vs = #[.slice (some ⟨c.blk, c.off + off, none⟩) len k] := by cases vs; simp_all
      subst hvs
      refine (OkV.pure H (u := .int .i64 len) ?_ (by simp [R])).toS
      simp [Builtin.len_, h0, run_underlying ht, goInt]
    · rename_i e ht
      cases hs
      obtain ⟨t, h0, ht⟩ := bind_some ht
      have hv' := hv
      simp only [Rs, R] at hv'
      obtain ⟨u, m, he, rfl, rfl⟩ := hv'
      have hvs : vs = #[.slice none 0 0] := by cases vs; simp_all
      subst hvs
      refine (OkV.pure H (u := .int .i64 0) ?_ (by simp [R])).toS
      simp [Builtin.len_, h0, run_underlying ht, goInt]
    · rename_i e ht
      cases hs
      obtain ⟨t, h0, ht⟩ := bind_some ht
      have hv' := hv
      simp only [Rs, R] at hv'
      obtain ⟨u, m, he, ⟨b0, q0, rfl⟩, rfl⟩ := hv'
      have hvs : vs = #[.slice (some b0) 0 q0] := by cases vs; simp_all
      subst hvs
      refine (OkV.pure H (u := .int .i64 0) ?_ (by simp [R])).toS
      simp [Builtin.len_, h0, run_underlying ht, goInt]
    · rename_i l ht
      cases hs
      obtain ⟨t, h0, ht⟩ := bind_some ht
      have hv' := hv
      simp only [Rs, R] at hv'
      obtain ⟨u, m, he, rfl, rfl⟩ := hv'
      have hvs : vs = #[.string ⟨l.toArray⟩] := by cases vs; simp_all
      subst hvs
      refine (OkV.pure H (u := .int .i64 l.length) ?_ (by simp [R])).toS
      have hsz : (⟨l.toArray⟩ : ByteArray).size = l.length := by show l.toArray.size = _; simp
      simp only [Builtin.len_, h0, List.getElem?_toArray, List.getElem?_cons_zero, Sem.run_bind, run_underlying ht, Result.andThen_ok, Sem.run_pure, goInt, hsz]
    · rename_i n e x ht
      cases hs
      obtain ⟨t, h0, ht⟩ := bind_some ht
      have hv' := hv
      simp only [Rs] at hv'
      obtain ⟨u, m, he, hu, rfl⟩ := hv'
      have hvs : vs = #[u] := by cases vs; simp_all
      subst hvs
      refine (OkV.pure H (u := .int .i64 n) ?_ (by simp [R])).toS
      simp [Builtin.len_, h0, run_underlying ht, goInt]
    · rename_i k e x ht
      obtain ⟨t, h0, ht⟩ := bind_some ht
      have hv' := hv
      simp only [Rs] at hv'
      obtain ⟨u, m, he, hu, rfl⟩ := hv'
      have hvs : vs = #[u] := by cases vs; simp_all
      subst hvs
      exact (len_sound H h0 ht hs hu ty).toS
    · cases hs
  case cap =>
    split at hs
    · rename_i e id off len c0 sz ht
      cases hs
      obtain ⟨t, h0, ht⟩ := bind_some ht
      have hv' := hv
      simp only [Rs, R] at hv'
      obtain ⟨u, m, he, ⟨c, k, hc, rfl, _, hk⟩, rfl⟩ := hv'
      subst hk
      have hvs : vs = #[.slice (some ⟨c.blk, c.off + off, none⟩) len k] := by cases vs; simp_all
      subst hvs
      refine (OkV.pure H (u := .int .i64 k) ?_ (by simp [R])).toS
      simp [Builtin.cap_, h0, run_underlying ht, goInt]
    · rename_i e ht
      cases hs
      obtain ⟨t, h0, ht⟩ := bind_some ht
      have hv' := hv
      simp only [Rs, R] at hv'
      obtain ⟨u, m, he, rfl, rfl⟩ := hv'
      have hvs : vs = #[.slice none 0 0] := by cases vs; simp_all
      subst hvs
      refine (OkV.pure H (u := .int .i64 0) ?_ (by simp [R])).toS
      simp [Builtin.cap_, h0, run_underlying ht, goInt]
    · cases hs
  case delete =>
    split at hs
    · rename_i k e m a ht
      obtain ⟨t, h0, ht⟩ := bind_some ht
      have hv' := hv
      simp only [Rs] at hv'
      obtain ⟨u1, l1, he, hu1, u2, l2, rfl, hu2, rfl⟩ := hv'
      have hvs : vs = #[u1, u2] := by cases vs; simp_all
      subst hvs
      obtain ⟨rfl, w', h1, h2, h3⟩ := delete_sound H h0 ht hs hu2 hu1 ty
      exact ⟨.value (.tuple #[]), _, w', σ, by simp [h1], rfl, R_any, .refl _, h2, h3⟩
    · cases hs
  case min =>
    split at hs
    · rename_i k a k' b
      by_cases hk : k = k'
      · subst hk
        simp only [if_true, Option.some.injEq, Prod.mk.injEq] at hs
        obtain ⟨rfl, rfl⟩ := hs
        simp only [Rs, R] at hv
        obtain ⟨u, m, he, rfl, u', m', rfl, rfl, rfl⟩ := hv
        refine (OkV.pure H (u := .int k (if b < a then b else a)) ?_ (by simp [R])).toS
        simp [Builtin.min_, he, Builtin.min2]
      · simp [hk] at hs
    · cases hs
  case max =>
    split at hs
    · rename_i k a k' b
      by_cases hk : k = k'
      · subst hk
        simp only [if_true, Option.some.injEq, Prod.mk.injEq] at hs
        obtain ⟨rfl, rfl⟩ := hs
        simp only [Rs, R] at hv
        obtain ⟨u, m, he, rfl, u', m', rfl, rfl, rfl⟩ := hv
        refine (OkV.pure H (u := .int k (if a < b then b else a)) ?_ (by simp [R])).toS
        simp [Builtin.max_, he, Builtin.max2]
      · simp [hk] at hs
    · rename_i k a k' b k'' c
      by_cases hk : k = k' ∧ k = k''
      · obtain ⟨rfl, rfl⟩ := hk
        simp only [and_self, if_true, Option.some.injEq, Prod.mk.injEq] at hs
        obtain ⟨rfl, rfl⟩ := hs
        simp only [Rs, R] at hv
        obtain ⟨u, m, he, rfl, u', m', rfl, rfl, u'', m'', rfl, rfl, rfl⟩ := hv
        refine (OkV.pure H (u := .int k (if (if a < b then b else a) < c then c else (if a < b then b else a))) ?_ (by simp [R])).toS
        simp [Builtin.max_, he, Builtin.max2]
      · simp [hk] at hs
    · cases hs
  case clear =>
    split at hs
    · rename_i e id off len cap sz ht
      split at hs
      · rename_i size z hm hz
        cases hb3 : (Nat.beq sz size && Nat.beq z.length size && Nat.blt 0 len)
        · simp [hb3] at hs
        · simp only [hb3, cond_true] at hs
          cases hw : h.write id off (repl z len) with
          | none => simp [hw] at hs
          | some h1 =>
            simp only [hw, Option.map_some, Option.some.injEq, Prod.mk.injEq] at hs
            obtain ⟨rfl, rfl⟩ := hs
            simp only [Bool.and_eq_true, Nat.blt_eq] at hb3
            obtain ⟨t, h0, ht⟩ := bind_some ht
            simp only [Rs] at hv
            obtain ⟨u, m, he, hu, rfl⟩ := hv
            have hvs : vs = #[u] := by cases vs; simp_all
            subst hvs
            exact (clear_sound H ty h0 ht hz hw hb3.2 hu).toS
      · cases hs
    · cases hs
  case append =>
    split at hs
    · rename_i t t' s x hts
      by_cases htt : t = t'
      · subst htt
        simp only [Nat.beq_refl, Bool.not_true, cond_false] at hs
        split at hs
        · rename_i e ht
          split at hs
          · rename_i size hm
            split at hs
            · rename_i ws n hsrc
              simp only [Rs] at hv
              obtain ⟨u, m, he, hu, u', m', rfl, hu', rfl⟩ := hv
              have hvs : vs = #[u, u'] := by cases vs; simp_all
              have hts' : ts = #[t, t] := by cases ts; simp_all
              subst hvs hts'
              exact (append1_sound H hb ty ht hm hsrc hs hu hu').toS
            · cases hs
          · cases hs
        · cases hs
      · rw [nb htt] at hs
        simp at hs
    · cases hs
  case copy =>
    split at hs
    · rename_i e id off len cap sz x ht
      split at hs
      · rename_i size hm
        split at hs
        · rename_i ws n hsrc
          cases hsz : Nat.beq sz size
          · simp [hsz] at hs
          · simp only [hsz, cond_true] at hs
            cases hw : h.write id off (ws.take (Nat.min n len * size)) with
            | none => simp [hw] at hs
            | some h1 =>
              simp only [hw, Option.map_some, Option.some.injEq, Prod.mk.injEq] at hs
              obtain ⟨rfl, rfl⟩ := hs
              obtain ⟨t, h0, ht⟩ := bind_some ht
              simp only [Rs] at hv
              obtain ⟨u, m, he, hu, u', m', rfl, hu', rfl⟩ := hv
              have hvs : vs = #[u, u'] := by cases vs; simp_all
              subst hvs
              exact (copy_sound H ty h0 ht hm hsrc hw hu hu').toS
        · cases hs
      · cases hs
    · cases hs
  all_goals cases hs

end
end Go.Abs
