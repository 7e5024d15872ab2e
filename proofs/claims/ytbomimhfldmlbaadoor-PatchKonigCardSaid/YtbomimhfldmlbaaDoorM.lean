/- Regions in the order of their text. -/
import Derived.Test.YtbomimhfldmlbaaDoorL
set_option linter.unusedSimpArgs false
set_option linter.unusedVariables false
namespace Go.Abs
open Go Go.RowKit

/-- No bound on functions or depth; in a round of loop r, or in none. -/
def Wd (r : Option Nat) : Fence := { Fence.wide with round := r }

/-- What a call leaves. -/
def Post (base : Prot) (σ : Env) (v : AV) (h' : Hp) (w : World) : Ending → World → Prop :=
  fun e w' => ∃ u τ, e = .returned u ∧ R τ v u ∧ Ext σ τ ∧ HR τ base h' w' ∧ Fw base w w'

/-- The calls are what the abstract calls say. -/
structure CallOK (P : Program) (call : CallF) : Prop where
  func : ∀ {f args h v h'}, call (.func f) args h = some (v, h') → ∀ {σ base w} {vs : Array Value}, HR σ base h w → base.fit w.heap.size → Rs σ args vs.toList →
    (callFunc f vs).run P w = .ok (.enter f vs) w ∧ Calls P f vs w (Post base σ v h' w)
  yield : ∀ {l args h v h'}, call (.yield l) args h = some (v, h') → ∀ {σ base w} {vs : Array Value} {c : Loc}, HR σ base h w → base.fit w.heap.size → Rs σ args vs.toList → σ l = some c →
    ∃ f tmps assign body, (Instr.yield c.blk vs).run P w = .ok (.round c.blk f tmps assign body) w ∧ RoundIn Fence.wide 0 P c.blk f tmps assign body w (Post base σ v h' w)

section
variable {P : Program} {base : Prot} {σ : Env} {w : World} {h : Hp}

theorem look_cons (d : Nat) (v : AV) (tm fr : Fr) (t : Nat) : look ((d, v) :: tm) fr t = if t = d then v else look tm fr t := by
  unfold look
  by_cases e : d = t
  · subst e; simp [lkO]
  · rw [if_neg (fun h => e h.symm)]
    simp only [lkO, nb e, cond_false]

theorem FR.put {n d : Nat} {f g : Nat → AV} {a : Act} (hf : FR σ n f a.tmps) {v : AV} {u : Value} (hu : R σ v u) (hd : d < n) (hg : ∀ t, g t = if t = d then v else f t) : FR σ n g (a.put (some d) u).tmps := by
  refine ⟨by simp [Act.put, hf.1], fun t => ?_⟩
  rw [hg]
  by_cases e : t = d
  · subst e
    rw [if_pos rfl]
    simp only [Act.put, Array.getD_eq_getD_getElem?]
    rw [Array.getElem?_setIfInBounds_self_of_lt (by rw [hf.1]; exact hd)]
    simpa using hu
  · rw [if_neg e]
    simp only [Act.put, Array.getD_eq_getD_getElem?]
    rw [Array.getElem?_setIfInBounds_ne (by omega)]
    have := hf.2 t
    simpa [Array.getD_eq_getD_getElem?] using this

theorem putT_spec {n : Nat} {d : Option Nat} {v : AV} {tm tm' fr : Fr} (h : putT n d v tm = some tm') {a : Act} (hf : FR σ n (look tm fr) a.tmps) {u : Value} (hu : R σ v u) :
    FR σ n (look tm' fr) (a.put d u).tmps := by
  unfold putT at h
  cases d with
  | none => cases h; exact hf
  | some d =>
    simp only at h
    cases hd : Nat.blt d n
    · simp [hd] at h
    · simp only [hd, cond_true, Option.some.injEq] at h
      subst h
      exact hf.put hu (Nat.le_of_ble_eq_true hd) (look_cons d v tm fr)

theorem Act.put_defers (a : Act) (d : Option Nat) (u : Value) : (a.put d u).defers = a.defers := by cases d <;> rfl

theorem R_undef {σ : Env} : R σ (.tu []) undef := by simp only [R]; exact ⟨#[], rfl, by simp [Rs]⟩

theorem want_spec {n : Nat} {ops : Array Oper} {f : Nat → AV} {o : Oper} {b : Bool} (h : want? ops f o = some b) {tmps : Array Value} (hf : FR σ n f tmps) : Region.wanted o (yielded ops tmps) = b := by
  unfold want? at h
  unfold Region.wanted
  split at h
  · rename_i hg
    cases h
    simp [hg]
  · rename_i j q hg
    simp only [hg]
    split at h
    · rename_i d hd
      split at h
      · rename_i t ht
        cases h
        have hr := hf.2 d
        rw [ht] at hr
        have hv := R_bool hr
        have hlt : d < tmps.size := by
          rcases Nat.lt_or_ge d tmps.size with h | h
          · exact h
          · simp [Array.getD, Nat.not_lt.2 h, undef] at hv
        have hy : yielded ops tmps j = some t := by
          unfold yielded
          have : tmps[d]? = some (.bool t) := by
            rw [Array.getElem?_eq_getElem hlt]
            simp only [Array.getD, hlt, dif_pos, Array.getInternal_eq_getElem] at hv
            rw [hv]
          simp [hd, this]
        rw [hy]
        cases t <;> cases q <;> rfl
      · rename_i l ht
        cases h
        have hr := hf.2 d
        rw [ht] at hr
        simp only [R] at hr
        obtain ⟨x, hv, _⟩ := hr
        have hy : yielded ops tmps j = none := by
          unfold yielded
          simp only [hd, Option.bind_some]
          rcases Nat.lt_or_ge d tmps.size with h | h
          · simp only [Array.getD, h, dif_pos, Array.getInternal_eq_getElem] at hv
            rw [Array.getElem?_eq_getElem h, hv]
          · rw [Array.getElem?_eq_none h]
        rw [hy]
        cases q <;> rfl
      · cases h
    · cases h

/-- One operation, carried out. -/
theorem exec1_sound {call : CallF} (hcall : CallOK P call) {n : Nat} {f : Nat → AV} {a : Act} (H : HR σ base h w) (hb : base.fit w.heap.size) (hf : FR σ n f a.tmps) {o : Oper} {v : AV} {h' : Hp}
    (hs : exec1 P call f h o = some (v, h')) {r : Option Nat} {N : Nat} {K : Act → World → Prop} {Q : Exit → Act → World → Prop}
    (hK : ∀ u w' τ, R τ v u → Ext σ τ → HR τ base h' w' → Fw base w w' → K (a.put o.dst u) w') : o.wpIn (Wd r) N P a w K Q := by
  refine ⟨fun _ _ => trivial, ?_⟩
  have ofS : (∀ c, o.op ≠ .defer c) → OkS P base σ w (execOp a.eval o) v h' → o.uponIn (Wd r) N P a K Q ((o.semAt (Wd r).round a.eval).run P w) := fun hd k => by
    obtain ⟨x, u, w', τ, h1, h2, h3, h4, h5, h6⟩ := k
    rw [Oper.semAt_eq _ _ _ hd, h1]
    cases x <;> simp only [nextVal, Option.some.injEq] at h2
    case value y => subst h2; exact hK _ _ _ h3 h4 h5 h6
    case skip => subst h2; exact hK _ _ _ h3 h4 h5 h6
    all_goals cases h2
  unfold exec1 at hs
  split at hs
  · rename_i c hop
    have hd : ∀ d, o.op ≠ .defer d := fun d e => by rw [hop] at e; cases e
    have hex : execOp a.eval o = (do let d ← resolve a.eval c o.type; invoke d.target d.args) := by unfold execOp; rw [hop]
    have hargs : Rs σ (c.args.toList.map (ev f)) (c.args.map a.eval).toList := by
      rw [Array.toList_map]
      exact Rs.map _ _ fun x _ => ev_sound hf x
    split at hs
    · rename_i b hcal
      refine ofS hd ?_
      have hk := builtin1_sound H hb hargs hs o.type (c.args.map fun | .const _ => true | _ => false)
      obtain ⟨x, u, w', τ, h1, h2⟩ := hk
      refine ⟨x, u, w', τ, ?_, h2⟩
      rw [hex]
      simp only [resolve, hcal, Sem.run_bind, Sem.run_pure, Result.andThen_ok, invoke]
      exact h1
    · rename_i g hcal
      have hg := ev_sound hf g
      split at hs
      · rename_i gf fs cs hev
        rw [hev] at hg
        simp only [R] at hg
        obtain ⟨x, y, hgv, hx, hy⟩ := hg
        have hall : Rs σ (fs ++ c.args.toList.map (ev f) ++ cs) ((x ++ c.args.map a.eval) ++ y).toList := by
          rw [Array.toList_append, Array.toList_append]
          exact (hx.append hargs).append hy
        obtain ⟨k1, k2⟩ := hcall.func hs H hb hall
        rw [Oper.semAt_eq _ _ _ hd, hex]
        simp only [resolve, hcal, hgv, Deferred.ofValue, Sem.run_bind, Sem.run_pure, Result.andThen_ok, invoke, k1, Oper.uponIn]
        refine ⟨fun hh => by simp [Wd, Fence.wide] at hh, ?_⟩
        have k3 : CallsIn (Wd r) (N - 1) P gf ((x ++ c.args.map a.eval) ++ y) w (Post base σ v h' w) := (callsIn_wide (n := N - 1)).2 k2
        refine k3.mono fun e w' he => ?_
        obtain ⟨u, τ, rfl, q1, q2, q3, q4⟩ := he
        exact hK u w' τ q1 q2 q3 q4
      · rename_i l hev
        rw [hev] at hg
        simp only [R] at hg
        obtain ⟨c', hc', hgv⟩ := hg
        obtain ⟨fn, tmps, assign, body, k1, k2⟩ := hcall.yield hs H hb hargs hc'
        rw [Oper.semAt_eq _ _ _ hd, hex]
        simp only [resolve, hcal, hgv, Deferred.ofValue, Sem.run_bind, Sem.run_pure, Result.andThen_ok, invoke, Array.empty_append, k1, Oper.uponIn]
        refine ⟨fun hh => by simp [Wd, Fence.wide] at hh, ?_⟩
        have k3 : RoundIn (Wd r) (N - 1) P c'.blk fn tmps assign body w (Post base σ v h' w) := ⟨trivial, fun c cs _ => k2.2 c cs (room_wide _)⟩
        refine k3.mono fun e w' he => ?_
        obtain ⟨u, τ, rfl, q1, q2, q3, q4⟩ := he
        exact hK u w' τ q1 q2 q3 q4
      · cases hs
    · cases hs
  · rename_i hnc
    refine ofS (fun c e => ?_) (step1_sound H hb hf o hs)
    rw [e] at hs
    simp [step1] at hs

theorem bytesC_spec : ∀ {cs : List AV} {l : List UInt8} {ms : List Value}, bytesC cs = some l → Rs σ cs ms → ∃ ns : List Int, ms = ns.map (Value.int .u8) ∧ ns.map (fun n => UInt8.ofNat n.toNat) = l
  | [], l, ms, h, hr => by
    simp only [bytesC, Option.some.injEq] at h
    simp only [Rs] at hr
    subst h hr
    exact ⟨[], rfl, rfl⟩
  | a :: r, l, ms, h, hr => by
    have hx : ∃ n l', a = .int .u8 n ∧ bytesC r = some l' ∧ l = UInt8.ofNat n.toNat :: l' := by
      unfold bytesC at h
      split at h
      · rename_i e; cases e
      · rename_i n r' e
        cases e
        rw [Option.map_eq_some_iff] at h
        obtain ⟨l', h1, rfl⟩ := h
        exact ⟨_, l', rfl, h1, rfl⟩
      · cases h
    obtain ⟨n, l', rfl, h1, rfl⟩ := hx
    simp only [Rs, R] at hr
    obtain ⟨v, m, rfl, rfl, hm⟩ := hr
    obtain ⟨ns, h2, h3⟩ := bytesC_spec h1 hm
    exact ⟨n :: ns, by rw [h2]; rfl, by rw [List.map_cons, h3]⟩

theorem foldl_bytes : ∀ (ns : List Int) (s : ByteArray), ns.foldl (fun r n => r.push (UInt8.ofNat n.toNat)) s = ⟨s.data ++ (ns.map fun n => UInt8.ofNat n.toNat).toArray⟩
  | [], s => by simp
  | n :: ns, s => by
    rw [List.foldl_cons, foldl_bytes ns]
    simp [ByteArray.push]

/-- A block that the program does not change, newly made. -/
theorem HR.addRO (H : HR σ base h w) (hb : base.fit w.heap.size) {cells : List AV} {cs : Array Value} (e : TypeId) (fz : Nat × Nat) (hl : cells.length ≤ cs.size)
    (hr : ∀ (j : Nat) (a : AV), cells[j]? = some a → ∃ v : Value, cs[j]? = some v ∧ R σ a v) :
    HR (upd σ h.next ⟨w.heap.size, 0, cs.size⟩) base { h with next := h.next + 1, blks := (h.next, { cells, ch := h.next, wr := false }) :: h.blks } (w.alloc (.cells cs e fz)) ∧ Ext σ (upd σ h.next ⟨w.heap.size, 0, cs.size⟩) := by
  have hx : Ext σ (upd σ h.next ⟨w.heap.size, 0, cs.size⟩) := .upd _ (H.dom _ (Nat.le_refl _))
  have old : ∀ k, k < w.heap.size → (w.alloc (.cells cs e fz)).heap[k]? = w.heap[k]? := fun k hk => Below.heap_alloc _ _ _ hk
  refine ⟨⟨fun i hi => ?_, ?_, ?_, fun i d hd => ?_, fun i j d d' c c' hij hd hd' hc hc' hbk hw => ?_, H.lps.step hx (fun l r c o _ _ h1 _ _ _ => by rw [old _ (lt_of_heap h1)]; exact h1) (fun _ _ h => h)⟩, hx⟩
  · have hi' : h.next + 1 ≤ i := hi
    rw [upd_other _ _ _ _ (by omega)]; exact H.dom i (by omega)
  · simp only [Srt, List.pairwise_cons]
    exact ⟨fun x hx => (H.chn x hx).2, H.srt⟩
  · intro x hx
    simp only [List.mem_cons] at hx
    rcases hx with rfl | hx
    · exact ⟨Nat.le_refl _, Nat.lt_succ_self _⟩
    · have := H.chn x hx; exact ⟨this.1, Nat.lt_succ_of_lt this.2⟩
  · by_cases hi : h.next = i
    · subst hi
      simp only [lkB, Nat.beq_refl, cond_true, Option.some.injEq] at hd
      subst hd
      refine ⟨_, cs, e, fz, upd_same _ _ _, heap_alloc_new w _, by simp, by simpa using hl, fun j a ha => ?_, fun hw => (by cases hw), fun _ => .inr hb.fr⟩
      obtain ⟨v, h1, h2⟩ := hr j a ha
      exact ⟨v, by simpa using h1, h2.ext hx⟩
    · simp only [lkB, nb hi, cond_false] at hd
      obtain ⟨c, cs', e', fz', a1, a2, a3, a4, a5, a6⟩ := H.cel i d hd
      refine ⟨c, cs', e', fz', hx _ _ a1, by rw [old _ (lt_of_heap a2)]; exact a2, a3, a4, fun j a ha => ?_, a6⟩
      obtain ⟨v, h1, h2⟩ := a5 j a ha
      exact ⟨v, h1, h2.ext hx⟩
  · by_cases hi : h.next = i
    · subst hi
      simp only [lkB, Nat.beq_refl, cond_true, Option.some.injEq] at hd
      subst hd
      cases hw
    · simp only [lkB, nb hi, cond_false] at hd
      rw [upd_other _ _ _ _ (by omega)] at hc
      by_cases hj : h.next = j
      · subst hj
        rw [upd_same] at hc'
        cases hc'
        have := H.inb hd hc
        simp at hbk
        omega
      · simp only [lkB, nb hj, cond_false] at hd'
        rw [upd_other _ _ _ _ (by omega)] at hc'
        exact H.al i j d d' c c' hij hd hd' hc hc' hbk hw

theorem s2b_sound (H : HR σ base h w) (hb : base.fit w.heap.size) {src dst : TypeId} (hc : cvOf P src dst = .s2b) {x v : AV} {h' : Hp} (hs : aS2B h x = some (v, h')) {u : Value} (hx : R σ x u) : OkV P base σ w (convert src dst u) v h' := by
  unfold cvOf at hc
  split at hc
  · rename_i e h1 h2
    split at hc
    · rename_i h3
      cases x <;> simp only [aS2B] at hs <;> try (cases hs; done)
      rename_i l
      cases hll : Nat.ble l.length 1073741824
      · simp [hll] at hs
      simp only [hll, cond_true, Option.some.injEq, Prod.mk.injEq] at hs
      obtain ⟨rfl, rfl⟩ := hs
      have hll := Nat.le_of_ble_eq_true hll
      simp only [R] at hx
      subst hx
      have run := run_bytes_of_string (P := P) w src dst e ⟨l.toArray⟩ h1 h2 h3
      have hsz : (⟨l.toArray⟩ : ByteArray).size = l.length := rfl
      rw [hsz] at run
      obtain ⟨G, hG⟩ : ∃ G, G = grownCap w l.length 0 e := ⟨_, rfl⟩
      rw [← hG] at run
      have hge : l.length ≤ G := by rw [hG]; exact grownCap_ge _ _ _ _
      have hrs : (bytesRow ⟨l.toArray⟩ G).size = G := by
        simp only [bytesRow, Array.size_append, Array.size_map, Array.size_replicate, List.size_toArray, hsz]
        omega
      have key := HR.addRO (H := H.drew) (w := w.drew) hb (cells := l.map fun b => .int .u8 b.toNat) (cs := bytesRow ⟨l.toArray⟩ G) e ((bytesRow ⟨l.toArray⟩ G).size, (bytesRow ⟨l.toArray⟩ G).size + 1) (by simp; omega) (fun j a ha => by
        rw [List.getElem?_map, Option.map_eq_some_iff] at ha
        obtain ⟨b, hb1, rfl⟩ := ha
        have hlt : j < l.length := by
          rcases Nat.lt_or_ge j l.length with h | h
          · exact h
          · rw [List.getElem?_eq_none h] at hb1; cases hb1
        refine ⟨.int .u8 b.toNat, ?_, by simp [R]⟩
        unfold bytesRow
        rw [Array.getElem?_append_left (by simpa using hlt)]
        simp [hb1])
      refine ⟨_, _, _, run, ?_, key.2, key.1, (Fw.drew _ _).trans (Fw.alloc (w := w.drew) hb _)⟩
      simp only [R]
      refine ⟨_, G, upd_same _ _ _, rfl, hge, ?_, ?_⟩
      · simp only [hrs]; omega
      · rw [hG]
        exact grownCap_le_maxLen _ _ _ _ (by unfold maxLen; omega)
    · cases hc
  · split at hc <;> cases hc
  · cases hc

theorem b2s_sound (H : HR σ base h w) {src dst : TypeId} (hc : cvOf P src dst = .b2s) {x v : AV} {h' : Hp} (hs : aB2S h x = some (v, h')) {u : Value} (hx : R σ x u) : OkV P base σ w (convert src dst u) v h' := by
  unfold cvOf at hc
  split at hc
  · split at hc <;> cases hc
  · rename_i e h1 h2
    split at hc
    · rename_i h3
      cases x <;> simp only [aB2S] at hs <;> try (cases hs; done)
      · rename_i id off len cap sz
        split at hs
        · rename_i cs q hsrc
          cases hz : Nat.beq sz 1
          · simp [hz] at hs
          · simp only [hz, cond_true] at hs
            rw [Option.map_eq_some_iff] at hs
            obtain ⟨l, hl, hs⟩ := hs
            cases hs
            obtain ⟨ms, hms, hml, hcase⟩ := src_spec H hsrc hx
            obtain ⟨ns, hn1, hn2⟩ := bytesC_spec hl hms
            rcases hcase with ⟨hu, _⟩ | ⟨a, k, rfl, hcell⟩
            · exfalso
              simp only [R] at hx
              obtain ⟨c, k, hc, he, _⟩ := hx
              rw [hu] at he
              cases he
            · have run := run_convert_bytes_string (P := P) w src dst e (some a) q k h1 h3 h2
              have hload : (loadCells a q).run P w = .ok (ns.map (Value.int .u8)).toArray w := by
                have := run_loadCells_list (P := P) w a ms hcell
                rw [hml, Nat.mul_one] at this
                rw [this, hn1]
              have run2 := run_bytesToString (P := P) w a q k ns hload
              refine .pure H (run.trans run2) ?_
              simp only [R]
              rw [foldl_bytes, hn2]
              congr 2
              apply Array.ext'
              simp
        · cases hs
      · cases hs
        simp only [R] at hx
        subst hx
        refine .pure H (u := .string .empty) ?_ (by simp only [R]; rfl)
        rw [run_convert_bytes_string (P := P) w src dst e none 0 0 h1 h3 h2]
        simp [Conv.bytesToString]
    · cases hc
  · cases hc

/-- One operation where the order is that of the text. -/
theorem execS_sound {call : CallF} (hcall : CallOK P call) {n : Nat} {f : Nat → AV} {a : Act} (H : HR σ base h w) (hb : base.fit w.heap.size) (hf : FR σ n f a.tmps) {o : Oper} {v : AV} {h' : Hp}
    (hs : execS P call f h o = some (v, h')) {r : Option Nat} {N : Nat} {K : Act → World → Prop} {Q : Exit → Act → World → Prop}
    (hK : ∀ u w' τ, R τ v u → Ext σ τ → HR τ base h' w' → Fw base w w' → K (a.put o.dst u) w') : o.wpIn (Wd r) N P a w K Q := by
  unfold execS at hs
  split at hs
  · rename_i src dst x hop
    have ofV : OkV P base σ w (convert src dst (a.eval x)) v h' → o.wpIn (Wd r) N P a w K Q := fun k => by
      refine ⟨fun _ _ => trivial, ?_⟩
      obtain ⟨u, w', τ, h1, h3, h4, h5, h6⟩ := k
      have hex : (execOp a.eval o).run P w = .ok (.value u) w' := by
        unfold execOp
        rw [hop]
        simp [h1]
      rw [Oper.semAt_eq _ _ _ (fun c e => by rw [hop] at e; cases e), hex]
      exact hK _ _ _ h3 h4 h5 h6
    split at hs
    · rename_i hc
      exact ofV (s2b_sound H hb hc hs (ev_sound hf x))
    · rename_i hc
      exact ofV (b2s_sound H hc hs (ev_sound hf x))
    · exact exec1_sound hcall H hb hf hs hK
  · exact exec1_sound hcall H hb hf hs hK

theorem runOps_sound {call : CallF} (hcall : CallOK P call) {n : Nat} {ops : Array Oper} {fr : Fr} {r : Option Nat} {N : Nat} {tm' : Fr} {h' : Hp} {Q : Exit → Act → World → Prop} :
    ∀ (l : List Oper) (i : Nat) (tm : Fr) (h : Hp) (σ : Env) (w : World) (a : Act), l = ops.toList.drop i →
    HR σ base h w → base.fit w.heap.size → FR σ n (look tm fr) a.tmps → runOps P call n ops fr l tm h = some (tm', h') →
    (∀ a' w' τ, a'.defers = a.defers → Ext σ τ → HR τ base h' w' → FR τ n (look tm' fr) a'.tmps → Fw base w w' → Q .normal a' w') →
    wpOpsIn (Wd r) N P ops Q (List.range' i l.length) a w
  | [], i, tm, h, σ, w, a, _, H, _, hf, hs, hQ => by
    simp only [runOps, Option.some.injEq, Prod.mk.injEq] at hs
    obtain ⟨rfl, rfl⟩ := hs
    simp only [List.length_nil, List.range'_zero, wpOpsIn]
    exact hQ a w σ rfl (.refl _) H hf (.refl _ _)
  | o :: rest, i, tm, h, σ, w, a, hl, H, hb, hf, hs, hQ => by
    have ho : ops[i]? = some o := by
      have := congrArg List.head? hl
      simpa [List.head?_drop] using this.symm
    have hrest : rest = ops.toList.drop (i + 1) := by
      have := congrArg List.tail hl
      simpa [List.tail_drop] using this
    simp only [List.length_cons, List.range'_succ, wpOpsIn, ho]
    -- what comes behind this operation
    have next : ∀ tm1 h1 u w' τ, Ext σ τ → HR τ base h1 w' → Fw base w w' → FR τ n (look tm1 fr) (a.put o.dst u).tmps → runOps P call n ops fr rest tm1 h1 = some (tm', h') →
        wpOpsIn (Wd r) N P ops Q (List.range' (i + 1) rest.length) (a.put o.dst u) w' := fun tm1 h1 u w' τ e1 e2 e3 e4 e5 =>
      runOps_sound hcall rest (i + 1) tm1 h1 τ w' (a.put o.dst u) hrest e2 (hb.le e3.bel.size) e4 e5 fun a' w'' τ' q1 q2 q3 q4 q5 =>
        hQ a' w'' τ' (by rw [q1, Act.put_defers]) (e1.trans q2) q3 q4 (e3.trans q5)
    simp only [runOps] at hs
    split at hs
    · rename_i hw
      rw [if_pos (want_spec hw hf)]
      split at hs
      · rename_i v h1 hex
        split at hs
        · rename_i tm1 hp
          exact execS_sound hcall H hb hf hex fun u w' τ q1 q2 q3 q4 => next tm1 h1 u w' τ q2 q3 q4 (putT_spec hp (hf.ext q2) q1) hs
        · cases hs
      · cases hs
    · rename_i hw
      rw [if_neg (by rw [want_spec hw hf]; simp)]
      split at hs
      · rename_i tm1 hp
        exact ⟨fun _ _ => trivial, next tm1 h undef w σ (.refl _) H (.refl _ _) (putT_spec hp hf R_undef) hs⟩
      · cases hs
    · cases hs

end
end Go.Abs
