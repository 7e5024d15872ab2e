/- New variables that come up early: what is needed of the heap. -/
import Derived.Test.YtbomimhfldmlbaaDoorO
set_option linter.unusedSimpArgs false
set_option linter.unusedVariables false
namespace Go.Abs
open Go Go.RowKit

section
variable {P : Program} {base : Prot} {σ : Env} {w : World} {h : Hp}

/-- Other blocks that nobody may change. -/
theorem HR.prot {base' : Prot} (H : HR σ base h w) (hf : ∀ k, k < w.heap.size → base.fr k → base'.fr k) (hr : ∀ k, k < w.heap.size → base.ro k → base'.ro k) : HR σ base' h w := by
  refine ⟨H.dom, H.srt, H.chn, fun i d hd => ?_, H.al, H.lps.step (.refl _) (fun _ _ _ _ _ _ h _ _ _ => h) hf⟩
  obtain ⟨c, cs, e, fz, a1, a2, a3, a4, a5, a6⟩ := H.cel i d hd
  exact ⟨c, cs, e, fz, a1, a2, a3, a4, a5, fun hw => ⟨(a6.1 hw).1, hf _ (lt_of_heap a2) (a6.1 hw).2⟩, fun hw => (a6.2 hw).imp (hr _ (lt_of_heap a2)) (hf _ (lt_of_heap a2))⟩

/-- A block that was made before joins. -/
theorem HR.adopt {base' : Prot} (H : HR σ base h w) {k : Nat} {vs : Array Value} {e : TypeId} (hg : w.heap[k]? = some (.cells vs e (0, 0))) (hk : base'.fr k) (hp : base.s k) (hnr : ¬ base.ro k)
    (hsub : ∀ x, base.fr x → base'.fr x) (hro : ∀ x, base.ro x → base'.ro x) {cells : List AV} (hr : Rs σ cells vs.toList) :
    HR (upd σ h.next ⟨k, 0, vs.size⟩) base' (h.new cells).2 w ∧ Ext σ (upd σ h.next ⟨k, 0, vs.size⟩) := by
  have hx : Ext σ (upd σ h.next ⟨k, 0, vs.size⟩) := .upd _ (H.dom _ (Nat.le_refl _))
  have hl := hr.length
  have away : ∀ i d c, lkB h.blks i = some d → σ i = some c → c.blk ≠ k := fun i d c hd hc e => by
    obtain ⟨c', _, _, _, a1, _, _, _, _, a6⟩ := H.cel i d hd
    rw [hc] at a1
    cases a1
    cases hw : d.wr
    · rcases a6.2 hw with h1 | h1
      · exact hnr (e ▸ h1)
      · exact h1 (e ▸ hp)
    · exact (a6.1 hw).2 (e ▸ hp)
  refine ⟨⟨fun i hi => ?_, ?_, ?_, fun i d hd => ?_, fun i j d d' c c' hij hd hd' hc hc' hbk hw => ?_, H.lps.step hx (fun _ _ _ _ _ _ h _ _ _ => h) (fun k _ h => hsub k h)⟩, hx⟩
  · have hi' : h.next + 1 ≤ i := hi
    rw [upd_other _ _ _ _ (by omega)]; exact H.dom i (by omega)
  · simp only [Hp.new, Srt, List.pairwise_cons]
    exact ⟨fun x hx => (H.chn x hx).2, H.srt⟩
  · intro x hx
    simp only [Hp.new, List.mem_cons] at hx
    rcases hx with rfl | hx
    · exact ⟨Nat.le_refl _, Nat.lt_succ_self _⟩
    · have := H.chn x hx; exact ⟨this.1, Nat.lt_succ_of_lt this.2⟩
  · by_cases hi : h.next = i
    · subst hi
      simp only [Hp.new, lkB, Nat.beq_refl, cond_true, Option.some.injEq] at hd
      subst hd
      refine ⟨_, vs, e, (0, 0), upd_same _ _ _, hg, by simp, by simp at hl ⊢; omega, fun j a ha => ?_, fun _ => ⟨rfl, hk⟩, fun hw => by cases hw⟩
      obtain ⟨v, h1, h2⟩ := hr.get ha
      exact ⟨v, by simpa using h1, h2.ext hx⟩
    · simp only [Hp.new, lkB, nb hi, cond_false] at hd
      obtain ⟨c, cs', e', fz, a1, a2, a3, a4, a5, a6⟩ := H.cel i d hd
      refine ⟨c, cs', e', fz, hx _ _ a1, a2, a3, a4, fun j a ha => ?_, fun hw => ⟨(a6.1 hw).1, hsub _ (a6.1 hw).2⟩, fun hw => (a6.2 hw).imp (hro _) (hsub _)⟩
      obtain ⟨v, h1, h2⟩ := a5 j a ha
      exact ⟨v, h1, h2.ext hx⟩
  · by_cases hi : h.next = i
    · subst hi
      have hj : h.next ≠ j := fun e => hij e
      simp only [Hp.new, lkB, nb hj, cond_false] at hd'
      rw [upd_same] at hc
      rw [upd_other _ _ _ _ (by omega)] at hc'
      cases hc
      exact absurd hbk.symm (away _ _ _ hd' hc')
    · simp only [Hp.new, lkB, nb hi, cond_false] at hd
      rw [upd_other _ _ _ _ (by omega)] at hc
      by_cases hj : h.next = j
      · subst hj
        rw [upd_same] at hc'
        cases hc'
        exact absurd hbk (away _ _ _ hd hc)
      · simp only [Hp.new, lkB, nb hj, cond_false] at hd'
        rw [upd_other _ _ _ _ (by omega)] at hc'
        exact H.al i j d d' c c' hij hd hd' hc hc' hbk hw

/-- What a new variable does, whatever the heap. -/
theorem float_sound {call : CallF} {n : Nat} {f : Nat → AV} {a : Act} (hf : FR σ n f a.tmps) {o : Oper} {v : AV} {h' : Hp} (hfl : isFloat o = true) (hs : exec1 P call f h o = some (v, h')) (w : World) :
    ∃ (cells : List AV) (vs : Array Value) (u : Value) (e : TypeId), h' = (h.new cells).2 ∧ Rs σ cells vs.toList ∧ (execOp a.eval o).run P w = .ok (.value u) (w.alloc (.cells vs e)) ∧
      ∀ τ : Env, τ h.next = some ⟨w.heap.size, 0, vs.size⟩ → R τ v u := by
  have ptr : ∀ (τ : Env) (k : Nat), τ h.next = some ⟨w.heap.size, 0, k⟩ → R τ (.ptr h.next 0) (.pointer (some ⟨w.heap.size, 0, none⟩)) := fun τ k h => by
    simp only [R]
    exact ⟨_, h, by simp⟩
  unfold isFloat at hfl
  unfold execOp
  cases hop : o.op <;> rw [hop] at hfl <;> simp only at hfl <;> first | (cases hfl; done) | skip
  case alloc t =>
    simp only [exec1, hop, step1] at hs
    split at hs
    · rename_i cs hz
      cases hs
      obtain ⟨i, z, hi, hz', hr⟩ := zeroCells_spec hz
      exact ⟨cs, z.cells, _, t, rfl, hr σ, by simp [Instr.alloc, run_zeroValue' hi hz', newVar, newRow], fun τ => ptr τ _⟩
    · cases hs
  case box t x =>
    simp only [exec1, hop, step1] at hs
    split at hs
    · rename_i cs hp
      cases hs
      exact ⟨cs, (a.eval x).cells, _, t, rfl, R.parts hp (ev_sound hf x), by simp [Instr.box, newVar, newRow], fun τ => ptr τ _⟩
    · cases hs
  case buildSlice t len ps =>
    simp only [exec1, hop, step1] at hs
    split at hs
    · rename_i e hu
      split at hs
      · rename_i m z hm hz
        cases hcc : (Nat.ble (len * m) 16777216 && Nat.beq z.length m)
        · simp [hcc] at hs
        · simp only [hcc, cond_true] at hs
          simp only [Bool.and_eq_true] at hcc
          split at hs
          · rename_i cs hc
            cases hs
            have hle := Nat.le_of_ble_eq_true hcc.1
            have hl := Nat.eq_of_beq_eq_true hcc.2
            obtain ⟨i, zv, hi, hz', hr⟩ := zeroCells_spec hz
            obtain ⟨e1, e2⟩ := parts_eval' (σ := σ) hf ps
            have hz0 : Rs σ (repl z len) ((Array.range (len * m)).map ((if len * m = 0 then #[] else zv.cells)[· % (if len * m = 0 then #[] else zv.cells).size]!)).toList := by
              by_cases h0 : len * m = 0
              · have : repl z len = [] := List.eq_nil_of_length_eq_zero (by rw [repl_length, hl, h0])
                rw [this, h0]
                simp [Rs]
              · simp only [h0, if_false]
                exact repl_sound (hr σ) len (len * m) (by rw [hl])
            obtain ⟨r, h2, h3⟩ := fill_sound (pa := fun i => some (i * m, m)) (pl := fun i => some (i * m, m)) (fun i x hx => hx) e1 e2 hz0 hc
            refine ⟨cs, r, .slice (some ⟨w.heap.size, 0, none⟩) len len, e, rfl, h3, ?_, fun τ hτ => ?_⟩
            · have hng : ¬ (len * m > 2 ^ 24) := by omega
              have key : (Instr.buildSlice t len (ps.map fun (i, x) => (i, a.eval x))).run P w = .ok (.slice (some ⟨w.heap.size, 0, none⟩) len len) (w.alloc (.cells r e)) := by
                by_cases h0 : len * m = 0
                · have hng0 : ¬ (0 > 2 ^ 24) := by omega
                  simp only [h0, if_true] at h2
                  simp only [Instr.buildSlice, Sem.run_bind, run_underlying hu, Result.andThen_ok, run_sizeOf' hm, h0, hng0, if_false, Sem.run_pure, newRow, run_newObj, if_true, h2]
                  rfl
                · simp only [h0, if_false] at h2
                  simp only [Instr.buildSlice, Sem.run_bind, run_underlying hu, Result.andThen_ok, run_sizeOf' hm, hng, if_false, Sem.run_pure, newRow, run_newObj, h0, run_zeroValue' hi hz', h2]
                  rfl
              simp [key]
            · simp only [R]
              exact ⟨_, len, hτ, by simp, Nat.le_refl _, rfl⟩
          · cases hs
      · cases hs
    · cases hs
  case makeSlice t l c =>
    simp only [exec1, hop, step1] at hs
    split at hs
    · rename_i e lv cv hu hl hc
      split at hs
      · rename_i m z hm hz
        split at hs
        · rename_i hcond
          cases hs
          obtain ⟨h0, h1, h2, hlz, hby⟩ := hcond
          obtain ⟨kl, el⟩ := int?_spec hl (ev_sound hf l)
          obtain ⟨kc, ec⟩ := int?_spec hc (ev_sound hf c)
          obtain ⟨i, zv, hi, hz', hr⟩ := zeroCells_spec hz
          obtain ⟨i', hi', rfl⟩ := szOf_spec hm
          rw [hi] at hi'
          cases hi'
          have hby' : i.bytes ≤ 1048576 := by simpa [bytesOf, hi] using hby
          have hwl : IntKind.i64.wrap lv = lv := by simp [IntKind.wrap, IntKind.bits, IntKind.signed]; omega
          have hwc : IntKind.i64.wrap cv = cv := by simp [IntKind.wrap, IntKind.bits, IntKind.signed]; omega
          have hz0 : Rs σ (repl z cv.toNat) ((Array.range (cv.toNat * i.size)).map ((if cv.toNat * i.size = 0 then #[] else zv.cells)[· % (if cv.toNat * i.size = 0 then #[] else zv.cells).size]!)).toList := by
            by_cases h0 : cv.toNat * i.size = 0
            · have : repl z cv.toNat = [] := List.eq_nil_of_length_eq_zero (by rw [repl_length, hlz, h0])
              rw [this, h0]
              simp [Rs]
            · simp only [h0, if_false]
              exact repl_sound (hr σ) cv.toNat _ (by rw [hlz])
          refine ⟨repl z cv.toNat, _, .slice (some ⟨w.heap.size, 0, none⟩) lv.toNat cv.toNat, e, rfl, hz0, ?_, fun τ hτ => ?_⟩
          · have hbig : ¬ ((i.bytes : Int) * cv > 281474976710656) := by
              have hcc : cv = (cv.toNat : Int) := by omega
              have h3 : i.bytes * cv.toNat ≤ 1048576 * 1048576 := Nat.mul_le_mul hby' (by omega)
              rw [hcc, ← Int.natCast_mul]
              omega
            have hneg : ¬ (cv < 0) := by omega
            have hl0 : ¬ (lv < 0) := by omega
            have hlc : ¬ (lv > cv) := by omega
            have ht : ((decide (cv < 0) || decide ((i.bytes : Int) * cv > 2 ^ 48)) || decide (lv < 0) || decide (lv > cv)) = false := by
              simp [hneg, hl0]
              omega
            have key : (Instr.makeSlice t (a.eval l) (a.eval c)).run P w = .ok (.slice (some ⟨w.heap.size, 0, none⟩) lv.toNat cv.toNat) (w.alloc (.cells ((Array.range (cv.toNat * i.size)).map ((if cv.toNat * i.size = 0 then #[] else zv.cells)[· % (if cv.toNat * i.size = 0 then #[] else zv.cells).size]!)) e)) := by
              rw [el, ec]
              by_cases h0 : cv.toNat * i.size = 0
              · simp only [Instr.makeSlice, Sem.run_bind, run_underlying hu, Result.andThen_ok, asInt, asIntOf, Sem.run_pure, run_typeInfo w hi, hwl, hwc, ht, Bool.false_eq_true, if_false, run_askRoom,
                  run_sizeOf' hm, h0, if_true, newRow, run_newObj]
                rfl
              · simp only [Instr.makeSlice, Sem.run_bind, run_underlying hu, Result.andThen_ok, asInt, asIntOf, Sem.run_pure, run_typeInfo w hi, hwl, hwc, ht, Bool.false_eq_true, if_false, run_askRoom,
                  run_sizeOf' hm, h0, run_zeroValue' hi hz', newRow, run_newObj]
                rfl
            simp [key]
          · simp only [R]
            exact ⟨_, cv.toNat, hτ, by simp, by omega, rfl⟩
        · cases hs
      · cases hs
    · cases hs

theorem float_eff {o : Oper} (hf : isFloat o = true) : isEff o = true := by
  unfold isFloat at hf
  unfold isEff
  cases hop : o.op <;> rw [hop] at hf <;> simp only at hf <;> first | (cases hf; done) | rfl

/-- What it does to the world. -/
theorem float_run {a : Act} {o : Oper} {u : Value} {w' : World} (hfl : isFloat o = true) (he : (execOp a.eval o).run P w = .ok (.value u) w') {r : Option Nat} {N : Nat} {K : Act → World → Prop} {Q : Exit → Act → World → Prop}
    (hK : K (a.put o.dst u) w') : o.wpIn (Wd r) N P a w K Q := by
  refine ⟨fun _ _ => trivial, ?_⟩
  rw [Oper.semAt_eq _ _ _ (fun c e => by simp [isFloat, e] at hfl), he]
  exact hK

/-- An object of no concern is made. -/
theorem HR.other {σ : Env} {h : Hp} {w : World} (H : HR σ base h w) (o : Obj) : HR σ base h (w.alloc o) := by
  have old : ∀ k, k < w.heap.size → (w.alloc o).heap[k]? = w.heap[k]? := fun k hk => Below.heap_alloc _ _ _ hk
  refine ⟨H.dom, H.srt, H.chn, fun i d hd => ?_, H.al, H.lps.step (.refl _) (fun l r c o _ _ h1 _ _ _ => by rw [old _ (lt_of_heap h1)]; exact h1) (fun _ _ h => h)⟩
  obtain ⟨c, cs, e, fz, a1, a2, a3⟩ := H.cel i d hd
  exact ⟨c, cs, e, fz, a1, by rw [old _ (lt_of_heap a2)]; exact a2, a3⟩

end
end Go.Abs
