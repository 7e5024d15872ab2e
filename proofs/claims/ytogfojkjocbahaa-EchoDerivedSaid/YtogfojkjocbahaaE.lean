/- Steps of the heap: a new block, a write, what is forgotten. -/
import Derived.Test.YtogfojkjocbahaaD
namespace Go.Abs
open Go Go.RowKit

def upd (σ : Env) (i : Nat) (c : Loc) : Env := fun j => if j = i then some c else σ j

theorem Ext.upd {σ : Env} {i : Nat} (c : Loc) (h : σ i = none) : Ext σ (upd σ i c) := fun j d hd => by
  unfold Abs.upd
  split
  · rename_i e; rw [e, h] at hd; cases hd
  · exact hd

theorem upd_same (σ : Env) (i : Nat) (c : Loc) : upd σ i c i = some c := by simp [upd]
theorem upd_other (σ : Env) (i j : Nat) (c : Loc) (h : j ≠ i) : upd σ i c j = σ j := by simp [upd, h]

theorem lkB_lt {l : List (Nat × Blk)} {next i : Nat} {b : Blk} (hc : Chn l next) (h : lkB l i = some b) : i < next := (hc _ (lkB_mem h)).2

/-- Less is said of the same world. -/
theorem HR.sub {σ : Env} {base : Nat} {h : Hp} {w : World} (H : HR σ base h w) {l : List (Nat × Blk)} (hs : Srt l) (hc : Chn l h.next)
    (hl : ∀ i d, lkB l i = some d → ∃ b, lkB h.blks i = some b ∧ d.ch = b.ch ∧ d.wr = b.wr ∧ ∃ n, d.cells = b.cells.take n) : HR σ base { h with blks := l } w := by
  refine ⟨H.dom, hs, hc, fun i d hd => ?_, fun i j d d' c c' hij hd hd' hc hc' hb hw => ?_, H.lps, H.lal⟩
  · obtain ⟨b, hb, h1, h2, n, h3⟩ := hl i d hd
    obtain ⟨c, cs, e, fz, a1, a2, a3, a4, a5, a6⟩ := H.cel i b hb
    refine ⟨c, cs, e, fz, a1, a2, a3, ?_, fun j a ha => ?_, fun hw => a6 (h2 ▸ hw)⟩
    · rw [h3, List.length_take]; omega
    · rw [h3, List.getElem?_take] at ha
      split at ha
      · exact a5 j a ha
      · cases ha
  · obtain ⟨b, hb, h1, h2, _⟩ := hl i d hd
    obtain ⟨b', hb', h1', _, _⟩ := hl j d' hd'
    have := H.al i j b b' c c' hij hb hb' hc hc' ‹_› (h2 ▸ hw)
    exact ⟨by rw [h1, h1']; exact this.1, this.2⟩

theorem lkB_trunc_take {l : List (Nat × Blk)} {c s n next : Nat} (hs : Srt l) (hc : Chn l next) {i : Nat} {d : Blk} (h : lkB (trunc l c s n) i = some d) :
    ∃ b, lkB l i = some b ∧ d.ch = b.ch ∧ d.wr = b.wr ∧ ∃ k, d.cells = b.cells.take k := by
  obtain ⟨b, h1, h2, h3, h4⟩ := lkB_trunc hs hc h
  refine ⟨b, h1, h2, h3, ?_⟩
  rcases h4 with ⟨_, rfl⟩ | ⟨_, h4⟩
  · exact ⟨d.cells.length, by simp⟩
  · exact ⟨n, h4⟩

theorem trunc_Chn {l : List (Nat × Blk)} {c s n next : Nat} (hc : Chn l next) : Chn (trunc l c s n) next := fun x hx => by
  obtain ⟨y, hy, h1, h2, _⟩ := trunc_mem hx
  have := hc y hy
  rw [h1, h2] at this
  exact this

/-- A block more, newly made: nobody else lies where it lies. -/
theorem HR.add {σ : Env} {base : Nat} {h : Hp} {w : World} (H : HR σ base h w) (hb : base ≤ w.heap.size) {b : Blk} {cs : Array Value} (e : TypeId) (hl : b.cells.length ≤ cs.size)
    (hr : ∀ (j : Nat) (a : AV), b.cells[j]? = some a → ∃ v : Value, cs[j]? = some v ∧ R σ a v) (hch : b.ch ≤ h.next) :
    HR (upd σ h.next ⟨w.heap.size, 0, cs.size⟩) base { h with next := h.next + 1, blks := (h.next, b) :: h.blks } (w.alloc (.cells cs e)) ∧ Ext σ (upd σ h.next ⟨w.heap.size, 0, cs.size⟩) := by
  have hx : Ext σ (upd σ h.next ⟨w.heap.size, 0, cs.size⟩) := .upd _ (H.dom _ (Nat.le_refl _))
  have old : ∀ k, k < w.heap.size → (w.alloc (.cells cs e)).heap[k]? = w.heap[k]? := fun k hk => Below.heap_alloc _ _ _ hk
  refine ⟨⟨fun i hi => ?_, ?_, ?_, fun i d hd => ?_, fun i j d d' c c' hij hd hd' hc hc' hbk hw => ?_, fun l r hlr => ?_, fun l l' r r' c c' hne hl hl' hc hc' => ?_⟩, hx⟩
  · have hi' : h.next + 1 ≤ i := hi
    rw [upd_other _ _ _ _ (by omega)]; exact H.dom i (by omega)
  · simp only [Srt, List.pairwise_cons]
    exact ⟨fun x hx => (H.chn x hx).2, H.srt⟩
  · intro x hx
    simp only [List.mem_cons] at hx
    rcases hx with rfl | hx
    · exact ⟨hch, Nat.lt_succ_self _⟩
    · have := H.chn x hx; exact ⟨this.1, Nat.lt_succ_of_lt this.2⟩
  · by_cases hi : h.next = i
    · subst hi
      simp only [lkB, Nat.beq_refl, cond_true, Option.some.injEq] at hd
      subst hd
      refine ⟨_, cs, e, (0, 0), upd_same _ _ _, heap_alloc_new w _, by simp, by simpa using hl, fun j a ha => ?_, fun _ => ⟨rfl, hb⟩⟩
      obtain ⟨v, h1, h2⟩ := hr j a ha
      exact ⟨v, by simpa using h1, h2.ext hx⟩
    · simp only [lkB, nb hi, cond_false] at hd
      obtain ⟨c, cs', e', fz, a1, a2, a3, a4, a5, a6⟩ := H.cel i d hd
      refine ⟨c, cs', e', fz, hx _ _ a1, by rw [old _ (lt_of_heap a2)]; exact a2, a3, a4, fun j a ha => ?_, a6⟩
      obtain ⟨v, h1, h2⟩ := a5 j a ha
      exact ⟨v, h1, h2.ext hx⟩
  · by_cases hi : h.next = i
    · subst hi
      have hj : h.next ≠ j := fun e => hij e
      simp only [lkB, nb hj, cond_false] at hd'
      rw [upd_same] at hc
      rw [upd_other _ _ _ _ (by omega)] at hc'
      cases hc
      have := H.inb hd' hc'
      simp at hbk
      omega
    · simp only [lkB, nb hi, cond_false] at hd
      rw [upd_other _ _ _ _ (by omega)] at hc
      by_cases hj : h.next = j
      · subst hj
        rw [upd_same] at hc'
        cases hc'
        have := H.inb hd hc
        simp at hbk
        omega
      · simp only [lkB, nb hj, cond_false] at hd'
        rw [upd_other _ _ _ _ (by omega)] at hc'
        exact H.al i j d d' c c' hij hd hd' hc hc' hbk hw
  · obtain ⟨c, x, a1, a2, a3, a4, a5, a6, a7, a8, a9, a10⟩ := H.lps l r hlr
    exact ⟨c, x, hx _ _ a1, by rw [old _ (lt_of_heap a2)]; exact a2, a3, a4, a5, a6, a7, a8.ext hx, a9, a10⟩
  · obtain ⟨c0, _, a1, _⟩ := H.lps l r hl
    obtain ⟨c1, _, b1, _⟩ := H.lps l' r' hl'
    rw [hx _ _ a1] at hc
    rw [hx _ _ b1] at hc'
    cases hc
    cases hc'
    exact H.lal l l' r r' _ _ hne hl hl' a1 b1

theorem Fw.alloc {base : Nat} {w : World} (hb : base ≤ w.heap.size) (o : Obj) : Fw base w (w.alloc o) :=
  ⟨(Below.refl _ _).alloc hb o, fun k ds hk => by
    have : k < w.heap.size := by
      rcases Nat.lt_or_ge k w.heap.size with h | h
      · exact h
      · simp [Array.getElem?_eq_none h] at hk
    rw [Below.heap_alloc _ _ _ this]; exact hk, fun k x hk => by
    have : k < w.heap.size := by
      rcases Nat.lt_or_ge k w.heap.size with h | h
      · exact h
      · simp [Array.getElem?_eq_none h] at hk
    exact ⟨x, by rw [Below.heap_alloc _ _ _ this]; exact hk⟩⟩

theorem Fw.row {base : Nat} {w : World} {g : Nat} {cur : Array Value} {e : TypeId} {fz : Nat × Nat} (hg : w.heap[g]? = some (.cells cur e fz)) (hb : base ≤ g) (cs : Array Value) : Fw base w (w.setRow g cs) :=
  ⟨⟨rfl, rfl, rfl, by simp, fun k hk => setRow_other _ _ _ _ (by omega)⟩, fun k ds hk => by
    rw [setRow_other _ _ _ _ (fun e => by rw [e, hg] at hk; cases hk)]; exact hk, fun k x hk =>
    ⟨x, by rw [setRow_other _ _ _ _ (fun e => by rw [e, hg] at hk; cases hk)]; exact hk⟩⟩

/-- 'new' as the interpreter has it. -/
theorem HR.new {σ : Env} {base : Nat} {h : Hp} {w : World} (H : HR σ base h w) (hb : base ≤ w.heap.size) {cells : List AV} {vs : Array Value} (e : TypeId) (hr : Rs σ cells vs.toList) :
    HR (upd σ h.next ⟨w.heap.size, 0, vs.size⟩) base (h.new cells).2 (w.alloc (.cells vs e)) ∧ Ext σ (upd σ h.next ⟨w.heap.size, 0, vs.size⟩) := by
  have hl := hr.length
  refine HR.add H hb (b := { cells, ch := h.next, wr := true }) e (by simp at hl ⊢; omega) (fun j a ha => ?_) (Nat.le_refl _)
  obtain ⟨v, h1, h2⟩ := hr.get ha
  exact ⟨v, by simpa using h1, h2⟩

theorem splice_get (cs : List AV) (off : Nat) (vs : List AV) (h : off + vs.length ≤ cs.length) (j : Nat) :
    (splice cs off vs)[j]? = if j < off then cs[j]? else if j < off + vs.length then vs[j - off]? else cs[j]? := by
  unfold splice
  rw [List.append_assoc]
  by_cases h1 : j < off
  · rw [List.getElem?_append_left (by simp; omega), List.getElem?_take, if_pos h1, if_pos h1]
  · rw [if_neg h1, List.getElem?_append_right (by simp; omega)]
    simp only [List.length_take, Nat.min_eq_left (show off ≤ cs.length by omega)]
    by_cases h2 : j < off + vs.length
    · rw [if_pos h2, List.getElem?_append_left (by omega)]
    · rw [if_neg h2, List.getElem?_append_right (by omega), List.getElem?_drop]
      congr 1
      omega

theorem vsplice_get (cs vs : List Value) (off : Nat) (h : off + vs.length ≤ cs.length) (j : Nat) :
    (cs.take off ++ vs ++ cs.drop (off + vs.length))[j]? = if j < off then cs[j]? else if j < off + vs.length then vs[j - off]? else cs[j]? := by
  rw [List.append_assoc]
  by_cases h1 : j < off
  · rw [List.getElem?_append_left (by simp; omega), List.getElem?_take, if_pos h1, if_pos h1]
  · rw [if_neg h1, List.getElem?_append_right (by simp; omega)]
    simp only [List.length_take, Nat.min_eq_left (show off ≤ cs.length by omega)]
    by_cases h2 : j < off + vs.length
    · rw [if_pos h2, List.getElem?_append_left (by omega)]
    · rw [if_neg h2, List.getElem?_append_right (by omega), List.getElem?_drop]
      congr 1
      omega

/-- The world behind a write of 'ms' at the place that stands for cell 'off' of a block at c. -/
def putRow (w : World) (c : Loc) (cur : Array Value) (off : Nat) (ms : List Value) : World :=
  w.setRow c.blk (cur.toList.take (c.off + off) ++ ms ++ cur.toList.drop (c.off + off + ms.length)).toArray

theorem putRow_size (w : World) (c : Loc) (cur : Array Value) (off : Nat) (ms : List Value) : (putRow w c cur off ms).heap.size = w.heap.size := by simp [putRow]

/-- What a write does, for whatever is said of the blocks behind it. -/
theorem HR.put {σ : Env} {base : Nat} {h : Hp} {w : World} (H : HR σ base h w) {id off : Nat} {b : Blk} (hb : lkB h.blks id = some b) (hw : b.wr = true) {c : Loc} (hc : σ id = some c)
    {cur : Array Value} {e : TypeId} {fz : Nat × Nat} (hg : w.heap[c.blk]? = some (.cells cur e fz)) {ms : List Value} (hfit : c.off + off + ms.length ≤ cur.size)
    {l : List (Nat × Blk)} (hs : Srt l) (hch : Chn l h.next)
    (hl : ∀ i d, lkB l i = some d → ∃ b0, lkB h.blks i = some b0 ∧ d.ch = b0.ch ∧ d.wr = b0.wr ∧ d.cells.length ≤ b0.cells.length ∧
      (i ≠ id → (∃ n, d.cells = b0.cells.take n) ∧ (b0.ch = b.ch → d.cells.length ≤ off)) ∧
      (i = id → ∀ j a, d.cells[j]? = some a → if j < off then b0.cells[j]? = some a else if j < off + ms.length then ∃ v, ms[j - off]? = some v ∧ R σ a v else b0.cells[j]? = some a)) :
    HR σ base { h with blks := l } (putRow w c cur off ms) := by
  have hsz : cur.size = cur.toList.length := by simp
  have get := vsplice_get cur.toList ms (c.off + off) (by omega)
  have hlen : (cur.toList.take (c.off + off) ++ ms ++ cur.toList.drop (c.off + off + ms.length)).length = cur.size := by
    simp; omega
  have other : ∀ k, k ≠ c.blk → (putRow w c cur off ms).heap[k]? = w.heap[k]? := fun k hk => setRow_other _ _ _ _ hk
  have here : (putRow w c cur off ms).heap[c.blk]? = some (.cells (cur.toList.take (c.off + off) ++ ms ++ cur.toList.drop (c.off + off + ms.length)).toArray e fz) := setRow_heap _ _ _ _ _ _ hg
  refine ⟨H.dom, hs, hch, fun i d hd => ?_, fun i j d d' c c' hij hd hd' hc hc' hbk hw => ?_, fun l r hlr => ?_, H.lal⟩
  · obtain ⟨b0, h0, h1, h2, h3, h4, h5⟩ := hl i d hd
    obtain ⟨c0, cs, e0, fz0, a1, a2, a3, a4, a5, a6⟩ := H.cel i b0 h0
    by_cases hi : i = id
    · subst hi
      rw [hc] at a1
      cases a1
      rw [hg] at a2
      cases a2
      refine ⟨c, _, e, fz, hc, here, by simp only [List.size_toArray, hlen]; exact a3, by omega, fun j a ha => ?_, fun hw => a6 (h2 ▸ hw)⟩
      have h6 := h5 rfl j a ha
      have hg' := get (c.off + j)
      simp only [List.getElem?_toArray]
      rw [hg']
      by_cases h7 : j < off
      · rw [if_pos h7] at h6
        rw [if_pos (by omega)]
        obtain ⟨v, hv, hr⟩ := a5 j a h6
        exact ⟨v, by simpa using hv, hr⟩
      · rw [if_neg h7] at h6
        rw [if_neg (by omega)]
        by_cases h8 : j < off + ms.length
        · rw [if_pos h8] at h6
          rw [if_pos (by omega)]
          obtain ⟨v, hv, hr⟩ := h6
          exact ⟨v, by rw [show c.off + j - (c.off + off) = j - off by omega]; exact hv, hr⟩
        · rw [if_neg h8] at h6
          rw [if_neg (by omega)]
          obtain ⟨v, hv, hr⟩ := a5 j a h6
          exact ⟨v, by simpa using hv, hr⟩
    · obtain ⟨⟨n, hn⟩, h4'⟩ := h4 hi
      by_cases hbk : c.blk = c0.blk
      · have hal := H.al id i b b0 c c0 (fun e => hi e.symm) hb h0 hc a1 hbk hw
        obtain ⟨hch0, rfl⟩ := hal
        rw [hg] at a2
        cases a2
        have hle := h4' hch0.symm
        refine ⟨c, _, e, fz, a1, here, by simp only [List.size_toArray, hlen]; exact a3, by omega, fun j a ha => ?_, fun hw => a6 (h2 ▸ hw)⟩
        have hj : j < d.cells.length := by
          rcases Nat.lt_or_ge j d.cells.length with h | h
          · exact h
          · rw [List.getElem?_eq_none h] at ha; cases ha
        simp only [List.getElem?_toArray]
        rw [get (c.off + j), if_pos (by omega)]
        rw [hn, List.getElem?_take] at ha
        split at ha
        · obtain ⟨v, hv, hr⟩ := a5 j a ha
          exact ⟨v, by simpa using hv, hr⟩
        · cases ha
      · refine ⟨c0, cs, e0, fz0, a1, by rw [other _ (fun e => hbk e.symm)]; exact a2, a3, by omega, fun j a ha => ?_, fun hw => a6 (h2 ▸ hw)⟩
        rw [hn, List.getElem?_take] at ha
        split at ha
        · exact a5 j a ha
        · cases ha
  · obtain ⟨b0, h0, h1, h2, _⟩ := hl i d hd
    obtain ⟨b1, h0', h1', _⟩ := hl j d' hd'
    have := H.al i j b0 b1 c c' hij h0 h0' hc hc' hbk (h2 ▸ hw)
    exact ⟨by rw [h1, h1']; exact this.1, this.2⟩
  · obtain ⟨c1, x, a1, a2, a3⟩ := H.lps l r hlr
    refine ⟨c1, x, a1, ?_, a3⟩
    rw [other _ (fun e => by rw [e, hg] at a2; cases a2)]
    exact a2

end Go.Abs
