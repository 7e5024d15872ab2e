/- Regions whose order is drawn (3): whatever the order, the outcome is that of the text. -/
import Derived.Test.YtogfojkjocbahaaO
namespace Go.Abs
open Go Go.RowKit

section
variable {P : Program} {call : CallF} {n : Nat} {ops : Array Oper} {fr : Fr} {rs : List Rec} {tm' : Fr} {h' : Hp}

/-- The order of the text, recorded. -/
structure Tr (P : Program) (call : CallF) (n : Nat) (ops : Array Oper) (fr : Fr) (h0 : Hp) (rs : List Rec) (tm' : Fr) (h' : Hp) : Prop where
  len : rs.length = ops.size
  tm0 : TM rs tm' 0 = []
  ha0 : HA rs h' 0 = h0
  step : ∀ (k : Nat) (r : Rec), rs[k]? = some r → Step1 P call n ops fr rs tm' h' 0 k r

theorem Tr.mk' {h0 : Hp} (hs : traceOps P call n ops fr ops.toList [] h0 = some (rs, tm', h')) : Tr P call n ops fr h0 rs tm' h' := by
  obtain ⟨h1, h2, h3, h4⟩ := trace_spec ops.toList 0 [] h0 rs tm' h' (by simp) hs
  exact ⟨by simpa using h1, h2, h3, h4⟩

variable {h0 : Hp}

theorem Tr.get (T : Tr P call n ops fr h0 rs tm' h') {i : Nat} (hi : i < ops.size) : ∃ r, rs[i]? = some r ∧ ops[i]? = some r.o := by
  have hl : i < rs.length := by rw [T.len]; exact hi
  refine ⟨rs[i], List.getElem?_eq_getElem hl, ?_⟩
  have := (T.step i rs[i] (List.getElem?_eq_getElem hl)).op
  simpa using this

theorem Tr.op (T : Tr P call n ops fr h0 rs tm' h') {i : Nat} {r : Rec} (hr : rs[i]? = some r) : ops[i]? = some r.o := by
  simpa using (T.step i r hr).op

theorem HA_of {i : Nat} {r : Rec} (hr : rs[i]? = some r) : HA rs h' i = r.h := by simp [HA, hr]
theorem TM_of {i : Nat} {r : Rec} (hr : rs[i]? = some r) : TM rs tm' i = r.tm := by simp [TM, hr]

theorem Tr.quiet (T : Tr P call n ops fr h0 rs tm' h') {i : Nat} {r : Rec} (hr : rs[i]? = some r) (he : isEff r.o = false) : HA rs h' (i + 1) = HA rs h' i := by
  rw [HA_of hr]
  cases hw : r.w
  · exact ((T.step i r hr).no hw).2.2
  · exact exec1_quiet r.o he ((T.step i r hr).yes hw).2

/-- No operation that may change the heap between a and b. -/
def Calm (rs : List Rec) (a b : Nat) : Prop := ∀ d r, a ≤ d → d < b → rs[d]? = some r → isEff r.o = false

theorem Tr.calm (T : Tr P call n ops fr h0 rs tm' h') : ∀ (k a : Nat), a + k ≤ ops.size → Calm rs a (a + k) → HA rs h' (a + k) = HA rs h' a
  | 0, a, _, _ => rfl
  | k + 1, a, hk, hc => by
    have ih := T.calm k a (by omega) (fun d r h1 h2 => hc d r h1 (by omega))
    obtain ⟨r, hr, _⟩ := T.get (i := a + k) (by omega)
    rw [← ih, ← T.quiet hr (hc _ r (by omega) (by omega) hr)]
    rfl

theorem Tr.calm' (T : Tr P call n ops fr h0 rs tm' h') {a b : Nat} (h1 : a ≤ b) (h2 : b ≤ ops.size) (hc : Calm rs a b) : HA rs h' b = HA rs h' a := by
  have := T.calm (b - a) a (by omega) (by rw [show a + (b - a) = b by omega]; exact hc)
  rw [show a + (b - a) = b by omega] at this
  exact this

/-- The next operation that may change the heap, from j on, or the end. -/
theorem next_eff (hl : rs.length = ops.size) : ∀ (k j : Nat), j + k = ops.size → ∃ q, j ≤ q ∧ q ≤ ops.size ∧ Calm rs j q ∧ (q = ops.size ∨ ∃ r, rs[q]? = some r ∧ isEff r.o = true)
  | 0, j, h => ⟨j, Nat.le_refl _, by omega, fun d r h1 h2 => by omega, .inl (by omega)⟩
  | k + 1, j, h => by
    have hj : j < rs.length := by omega
    cases he : isEff rs[j].o
    · obtain ⟨q, h1, h2, h3, h4⟩ := next_eff hl k (j + 1) (by omega)
      refine ⟨q, by omega, h2, fun d r g1 g2 hr => ?_, h4⟩
      by_cases hd : d = j
      · subst hd
        rw [List.getElem?_eq_getElem hj] at hr
        cases hr
        exact he
      · exact h3 d r (by omega) g2 hr
    · exact ⟨j, Nat.le_refl _, by omega, fun d r h1 h2 => by omega, .inr ⟨_, List.getElem?_eq_getElem hj, he⟩⟩

theorem effHeaps_mem : ∀ (l : List Rec) (i k : Nat) (r : Rec), l[k]? = some r → isEff r.o = true → (i + k, r.h) ∈ effHeaps l i
  | [], i, k, r, h, _ => by simp at h
  | x :: l, i, k, r, h, he => by
    cases k with
    | zero =>
      simp only [List.getElem?_cons_zero, Option.some.injEq] at h
      subst h
      simp [effHeaps, he]
    | succ k =>
      simp only [List.getElem?_cons_succ] at h
      have := effHeaps_mem l (i + 1) k r h he
      rw [show i + 1 + k = i + (k + 1) by omega] at this
      cases hx : isEff x.o <;> simp [effHeaps, hx, this]

theorem readsOK_at {cl : List Nat} {hs : List (Nat × Hp)} : ∀ (l : List Rec) (i k : Nat) (r : Rec), readsOK P call ops fr cl hs l i = true → l[k]? = some r → r.w = true → isRead r.o = true →
    ∀ x ∈ hs, Nat.testBit (cl.getD (i + k) 0) x.1 = true ∨ ∃ h1, exec1 P call (msk (reads ops r.o) (look r.tm fr)) x.2 r.o = some (r.v, h1)
  | [], i, k, r, _, h, _, _ => by simp at h
  | y :: l, i, k, r, hok, h, hw, hr => by
    simp only [readsOK, Bool.and_eq_true] at hok
    cases k with
    | zero =>
      simp only [List.getElem?_cons_zero, Option.some.injEq] at h
      subst h
      intro x hx
      have h1 := hok.1
      simp only [hw, hr, Bool.and_self, Bool.not_true, Bool.false_or, List.all_eq_true] at h1
      have h2 := h1 x hx
      simp only [Bool.or_eq_true] at h2
      rcases h2 with h2 | h2
      · exact .inl h2
      · right
        split at h2
        · rename_i v h3 he
          rw [AV.beq_eq h2] at he
          exact ⟨h3, he⟩
        · cases h2
    | succ k =>
      simp only [List.getElem?_cons_succ] at h
      have := readsOK_at l (i + 1) k r hok.2 h hw hr
      rw [show i + 1 + k = i + (k + 1) by omega] at this
      exact this

/-- What a slot holds in the order of the text before operation k. -/
theorem Tr.text (T : Tr P call n ops fr h0 rs tm' h') (t : Nat) : ∀ k, k ≤ ops.size →
    (∃ d r, d < k ∧ rs[d]? = some r ∧ r.o.dst = some t ∧ look (TM rs tm' k) fr t = r.v) ∨ ((∀ d r, d < k → rs[d]? = some r → r.o.dst ≠ some t) ∧ look (TM rs tm' k) fr t = lkF fr t)
  | 0, _ => .inr ⟨fun d r h => by omega, by rw [T.tm0]; rfl⟩
  | k + 1, hk => by
    obtain ⟨r, hr, _⟩ := T.get (i := k) (by omega)
    have hs := (T.step k r hr).tm t
    have ht := TM_of (tm' := tm') hr
    by_cases hd : r.o.dst = some t
    · rw [if_pos hd] at hs
      exact .inl ⟨k, r, by omega, hr, hd, hs⟩
    · rw [if_neg hd, ← ht] at hs
      rcases T.text t k (by omega) with ⟨d, r', h1, h2, h3, h4⟩ | ⟨h1, h2⟩
      · exact .inl ⟨d, r', by omega, h2, h3, by rw [hs, h4]⟩
      · refine .inr ⟨fun d r' hlt hr' => ?_, by rw [hs, h2]⟩
        by_cases e : d = k
        · subst e
          rw [hr] at hr'
          cases hr'
          exact hd
        · exact h1 d r' (by omega) hr'

/-- What a slot holds when the operations in L have been carried out. -/
def Val (rs : List Rec) (fr : Fr) (L : Nat → Bool) (t : Nat) (v : AV) : Prop :=
  (∃ d r, rs[d]? = some r ∧ L d = true ∧ r.o.dst = some t ∧ v = r.v) ∨ ((∀ d r, rs[d]? = some r → r.o.dst = some t → L d = false) ∧ v = lkF fr t)

/-- The state of affairs when the operations in L have been carried out. -/
structure Inv (base : Nat) (σ0 : Env) (n : Nat) (ops : Array Oper) (cl : List Nat) (fr : Fr) (rs : List Rec) (h' : Hp) (w0 : World) (df : List Deferred) (L : Nat → Bool) (σ : Env) (a : Act) (w : World) : Prop where
  clo : ∀ i, i < ops.size → L i = true → ∀ j, Nat.testBit (cl.getD i 0) j = true → L j = true
  size : a.tmps.size = n
  val : ∀ t v, Val rs fr L t v → R σ v (a.tmps.getD t undef)
  stage : ∃ j, j ≤ ops.size ∧ (∀ d r, rs[d]? = some r → isEff r.o = true → (L d = true ↔ d < j)) ∧ HR σ base (HA rs h' j) w
  ext : Ext σ0 σ
  fw : Fw base w0 w
  dfs : a.defers = df

theorem FR_msk {σ : Env} {l : List Nat} {f : Nat → AV} {tmps : Array Value} (hs : tmps.size = n) (h : ∀ t ∈ l, R σ (f t) (tmps.getD t undef)) : FR σ n (msk l f) tmps := by
  refine ⟨hs, fun t => ?_⟩
  unfold msk
  cases he : l.elem t
  · simp [R_any]
  · simp only [cond_true]
    exact h t (List.mem_of_elem_eq_true he)

section
variable {cl : List Nat} {base : Nat} {σ0 : Env} {w0 : World} {df : List Deferred}

/-- One operation in some order. -/
theorem draw_step (hcall : CallOK P call) (O : Ord ops cl) (T : Tr P call n ops fr h0 rs tm' h') (hro : (∀ (d : Nat) (r : Rec), rs[d]? = some r → isEff r.o = false) ∨ readsOK P call ops fr cl (effHeaps rs 0 ++ [(ops.size, h')]) rs 0 = true)
    {L : Nat → Bool} {σ : Env} {a : Act} {w : World} (hb : base ≤ w0.heap.size) (I : Inv base σ0 n ops cl fr rs h' w0 df L σ a w) {i : Nat} (hi : i < ops.size) (hL : L i = false)
    (hready : ∀ o, ops[i]? = some o → ∀ e ∈ o.after.toList, Region.binds .any e = true → L e.on = true) {r : Option Nat} {N : Nat} {K : Act → World → Prop} {Q : Exit → Act → World → Prop}
    (hK : ∀ τ a' w', Inv base σ0 n ops cl fr rs h' w0 df (fun d => L d || d == i) τ a' w' → K a' w') : wpOpIn (Wd r) N P ops Q i K a w := by
  obtain ⟨rc, hrc, ho⟩ := T.get hi
  have S := T.step i rc hrc
  -- all that must come before has come
  have before : ∀ j, Nat.testBit (cl.getD i 0) j = true → L j = true := fun j hj => by
    obtain ⟨e, he, hbd, h⟩ := O.clo ho hj
    have h1 := hready rc.o ho e he hbd
    rcases h with h | h
    · rw [← h]; exact h1
    · exact I.clo e.on (by have := O.edge ho e he hbd; omega) h1 j h
  have notBefore : ∀ d rd, rs[d]? = some rd → Nat.testBit (cl.getD d 0) i = true → L d = false := fun d rd hd hbit => by
    cases hLd : L d
    · rfl
    · have hds : d < ops.size := by
        have := (Array.getElem?_eq_some_iff.1 (T.op hd)).1
        exact this
      rw [I.clo d hds hLd i hbit] at hL
      cases hL
  -- what it reads is there
  have hval : ∀ t ∈ reads ops rc.o, R σ (look rc.tm fr t) (a.tmps.getD t undef) := fun t ht => by
    refine I.val t _ ?_
    have htx := T.text t i (by omega)
    rw [TM_of hrc] at htx
    rcases htx with ⟨d, rd, h1, h2, h3, h4⟩ | ⟨h1, h2⟩
    · refine .inl ⟨d, rd, h2, ?_, h3, h4⟩
      have hone := (O.one ho (T.op h2) (by omega) h3).2 ht
      rcases hone with h5 | h5
      · exact before d h5
      · have := O.lt d (T.op h2) h5
        omega
    · refine .inr ⟨fun d rd hd hdst => ?_, h2⟩
      by_cases hdi : d = i
      · subst hdi; exact hL
      · have hge : ¬ d < i := fun hlt => h1 d rd hlt hd hdst
        have hone := (O.one ho (T.op hd) (fun e => hdi e.symm) hdst).2 ht
        rcases hone with h5 | h5
        · have := O.lt i ho h5
          omega
        · exact notBefore d rd hd h5
  have hf : FR σ n (msk (reads ops rc.o) (look rc.tm fr)) a.tmps := FR_msk I.size hval
  -- what comes behind
  have go : ∀ u τ w' j', R τ rc.v u → Ext σ τ → Fw base w w' → j' ≤ ops.size → (∀ d rd, rs[d]? = some rd → isEff rd.o = true → ((L d || d == i) = true ↔ d < j')) → HR τ base (HA rs h' j') w' → K (a.put rc.o.dst u) w' :=
    fun u τ w' j' hu hx hfw hj hst hH => hK τ _ w' {
      clo := fun k hk hLk j hj => by
        simp only [Bool.or_eq_true, beq_iff_eq] at hLk ⊢
        rcases hLk with hLk | rfl
        · exact .inl (I.clo k hk hLk j hj)
        · exact .inl (before j hj)
      size := by
        cases hd : rc.o.dst with
        | none => exact I.size
        | some d => simp [Act.put, I.size]
      val := fun t v hv => by
        by_cases hd : rc.o.dst = some t
        · -- the slot that it writes
          have htn := S.dst t hd
          have hv' : v = rc.v := by
            rcases hv with ⟨d, rd, h1, h2, h3, h4⟩ | ⟨h1, _⟩
            · by_cases hdi : d = i
              · subst hdi
                rw [hrc] at h1
                cases h1
                exact h4
              · exact absurd hd (O.one ho (T.op h1) (fun e => hdi e.symm) h3).1
            · have := h1 i rc hrc hd
              simp at this
          subst hv'
          rw [hd]
          simp only [Act.put, Array.getD_eq_getD_getElem?]
          rw [Array.getElem?_setIfInBounds_self_of_lt (by rw [I.size]; exact htn)]
          simpa using hu
        · have hold : Val rs fr L t v := by
            rcases hv with ⟨d, rd, h1, h2, h3, h4⟩ | ⟨h1, h2⟩
            · refine .inl ⟨d, rd, h1, ?_, h3, h4⟩
              simp only [Bool.or_eq_true, beq_iff_eq] at h2
              rcases h2 with h2 | rfl
              · exact h2
              · rw [hrc] at h1
                cases h1
                exact absurd h3 hd
            · refine .inr ⟨fun d rd g1 g2 => ?_, h2⟩
              have := h1 d rd g1 g2
              simp only [Bool.or_eq_false_iff] at this
              exact this.1
          have := (I.val t v hold).ext hx
          cases hdd : rc.o.dst with
          | none => exact this
          | some d =>
            have hne : d ≠ t := fun e => hd (by rw [hdd, e])
            simp only [Act.put, Array.getD_eq_getD_getElem?]
            rw [Array.getElem?_setIfInBounds_ne hne]
            simpa [Array.getD_eq_getD_getElem?] using this
      stage := ⟨j', hj, hst, hH⟩
      ext := I.ext.trans hx
      fw := I.fw.trans hfw
      dfs := by rw [Act.put_defers]; exact I.dfs }
  obtain ⟨j, hj, hst, hH⟩ := I.stage
  have hbw : base ≤ w.heap.size := Nat.le_trans hb I.fw.bel.size
  unfold wpOpIn
  rw [ho]
  simp only
  cases heff : isEff rc.o
  · -- it leaves the heap alone
    have hst' : ∀ d rd, rs[d]? = some rd → isEff rd.o = true → ((L d || d == i) = true ↔ d < j) := fun d rd hd he => by
      have hdi : d ≠ i := fun e => by subst e; rw [hrc] at hd; cases hd; rw [heff] at he; cases he
      simp only [Bool.or_eq_true, beq_iff_eq, hdi, or_false]
      exact hst d rd hd he
    cases hw : rc.w
    · obtain ⟨h1, h2, h3⟩ := S.no hw
      rw [if_neg (by rw [want_spec h1 hf]; simp)]
      exact ⟨fun _ _ => trivial, go undef σ w j (by rw [h2]; exact R_undef) (.refl _) (.refl _ _) hj hst' hH⟩
    · obtain ⟨h1, h2⟩ := S.yes hw
      rw [if_pos (want_spec h1 hf)]
      -- its value at the heap that lies there now
      have hex : exec1 P call (msk (reads ops rc.o) (look rc.tm fr)) (HA rs h' j) rc.o = some (rc.v, HA rs h' j) := by
        rcases hro with hno | hok
        · have e1 : HA rs h' j = rc.h := by
            rw [← HA_of (h' := h') hrc]
            rcases Nat.le_total i j with h | h
            · exact T.calm' h hj fun d rd _ _ hd => hno d rd hd
            · exact (T.calm' h (by omega) fun d rd _ _ hd => hno d rd hd).symm
          have e2 : HA rs h' (0 + i + 1) = rc.h := by
            rw [show 0 + i + 1 = i + 1 by omega, T.quiet hrc heff, HA_of hrc]
          rw [e1]
          have h2' : exec1 P call (msk (reads ops rc.o) (look rc.tm fr)) rc.h rc.o = some (rc.v, HA rs h' (i + 1)) := h2
          rw [T.quiet hrc heff, HA_of hrc] at h2'
          exact h2'
        · cases hrd : isRead rc.o
          · exact exec1_indep rc.o heff hrd h2 _
          · obtain ⟨q, q1, q2, q3, q4⟩ := next_eff T.len (ops.size - j) j (by omega)
            have e1 : HA rs h' q = HA rs h' j := T.calm' q1 q2 q3
            have hmem : (q, HA rs h' q) ∈ effHeaps rs 0 ++ [(ops.size, h')] := by
              rcases q4 with rfl | ⟨rq, g1, g2⟩
              · have : HA rs h' ops.size = h' := by simp [HA, List.getElem?_eq_none (show rs.length ≤ ops.size by rw [T.len]; exact Nat.le_refl _)]
                rw [this]
                simp
              · rw [HA_of g1]
                have := effHeaps_mem rs 0 q rq g1 g2
                rw [Nat.zero_add] at this
                simp [this]
            have hnb : ¬ Nat.testBit (cl.getD (0 + i) 0) q = true := fun hbit => by
              rw [Nat.zero_add] at hbit
              rcases q4 with rfl | ⟨rq, g1, g2⟩
              · have := O.lt i ho hbit
                omega
              · have := (hst q rq g1 g2).1 (before q hbit)
                omega
            rcases readsOK_at rs 0 i rc hok hrc hw hrd _ hmem with h3 | ⟨h1', h3⟩
            · exact absurd h3 hnb
            · have := exec1_quiet rc.o heff h3
              subst this
              rw [← e1]
              exact h3
      exact exec1_sound hcall hH hbw hf hex fun u w' τ q1 q2 q3 q4 => go u τ w' j q1 q2 q4 hj hst' q3
  · -- it may change the heap: those before it have come, those behind it have not
    have hLd : ∀ d rd, rs[d]? = some rd → isEff rd.o = true → d < i → L d = true := fun d rd hd he hlt =>
      before d (O.eff ho (T.op hd) heff he hlt)
    have hLd' : ∀ d rd, rs[d]? = some rd → isEff rd.o = true → i < d → L d = false := fun d rd hd he hlt =>
      notBefore d rd hd (O.eff (T.op hd) ho he heff hlt)
    have hji : j ≤ i := by
      rcases Nat.lt_or_ge i j with h | h
      · have := (hst i rc hrc heff).2 h
        rw [hL] at this
        cases this
      · exact h
    have hcalm : Calm rs j i := fun d rd g1 g2 hd => by
      cases he : isEff rd.o
      · rfl
      · have := (hst d rd hd he).1 (hLd d rd hd he g2)
        omega
    have e1 : HA rs h' j = rc.h := by rw [← HA_of (h' := h') hrc]; exact (T.calm' hji (by omega) hcalm).symm
    rw [e1] at hH
    have hst' : ∀ d rd, rs[d]? = some rd → isEff rd.o = true → ((L d || d == i) = true ↔ d < i + 1) := fun d rd hd he => by
      simp only [Bool.or_eq_true, beq_iff_eq]
      constructor
      · rintro (h | h)
        · rcases Nat.lt_or_ge i d with h1 | h1
          · rw [hLd' d rd hd he h1] at h; cases h
          · omega
        · omega
      · intro h
        rcases Nat.lt_or_ge d i with h1 | h1
        · exact .inl (hLd d rd hd he h1)
        · exact .inr (by omega)
    cases hw : rc.w
    · obtain ⟨h1, h2, h3⟩ := S.no hw
      rw [if_neg (by rw [want_spec h1 hf]; simp)]
      refine ⟨fun _ _ => trivial, go undef σ w (i + 1) (by rw [h2]; exact R_undef) (.refl _) (.refl _ _) (by omega) hst' ?_⟩
      rw [h3]
      exact hH
    · obtain ⟨h1, h2⟩ := S.yes hw
      rw [if_pos (want_spec h1 hf)]
      exact exec1_sound hcall hH hbw hf h2 fun u w' τ q1 q2 q3 q4 => go u τ w' (i + 1) q1 q2 q4 (by omega) hst' q3

end
end
end Go.Abs
