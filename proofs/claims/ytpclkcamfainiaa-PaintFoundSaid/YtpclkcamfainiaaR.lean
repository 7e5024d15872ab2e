/- Regions whose order is drawn (3): whatever the order, the outcome is that of the text. Regions whose order is drawn (4): the whole region. Statements, calls, rounds: the interpreter is sound. -/
import Derived.Test.YtpclkcamfainiaaO
set_option linter.unusedSimpArgs false
set_option linter.unusedVariables false
namespace Go.Abs
open Go Go.RowKit

section
variable {P : Program} {call : CallF} {n : Nat} {ops : Array Oper} {fr : Fr} {rs : List Rec} {tm' : Fr} {h' : Hp}

/-- The order of the text, recorded. -/
structure Tr (P : Program) (call : CallF) (n : Nat) (ops : Array Oper) (fr : Fr) (h0 : Hp) (rs : List Rec) (tm' : Fr) (h' : Hp) : Prop where
  len : rs.length = ops.size
  tm0 : TM rs tm' 0 = []
  ha0 : HA rs h' 0 = h0
  step : ∀ (k : Nat) (r : Rec), rs[k]? = some r → Step1 P call n ops fr rs tm' h' 0 k r

theorem Tr.mk' {h0 : Hp} (hs : traceOps P call n ops fr ops.toList [] h0 = some (rs, tm', h')) : Tr P call n ops fr h0 rs tm' h' := by
  obtain ⟨h1, h2, h3, h4⟩ := trace_spec ops.toList 0 [] h0 rs tm' h' (by simp) hs
  exact ⟨by simpa using h1, h2, h3, h4⟩

variable {h0 : Hp}

theorem Tr.get (T : Tr P call n ops fr h0 rs tm' h') {i : Nat} (hi : i < ops.size) : ∃ r, rs[i]? = some r ∧ ops[i]? = some r.o := by
  have hl : i < rs.length := by rw [T.len]; exact hi
  refine ⟨rs[i], List.getElem?_eq_getElem hl, ?_⟩
  have := (T.step i rs[i] (List.getElem?_eq_getElem hl)).op
  simpa using this

theorem Tr.op (T : Tr P call n ops fr h0 rs tm' h') {i : Nat} {r : Rec} (hr : rs[i]? = some r) : ops[i]? = some r.o := by
  simpa using (T.step i r hr).op

theorem HA_of {i : Nat} {r : Rec} (hr : rs[i]? = some r) : HA rs h' i = r.h := by simp [HA, hr]
theorem TM_of {i : Nat} {r : Rec} (hr : rs[i]? = some r) : TM rs tm' i = r.tm := by simp [TM, hr]

theorem Tr.quiet (T : Tr P call n ops fr h0 rs tm' h') {i : Nat} {r : Rec} (hr : rs[i]? = some r) (he : isEff r.o = false) : HA rs h' (i + 1) = HA rs h' i := by
  rw [HA_of hr]
  cases hw : r.w
  · exact ((T.step i r hr).no hw).2.2
  · exact exec1_quiet r.o he ((T.step i r hr).yes hw).2

/-- No operation that may change the heap between a and b. -/
def Calm (rs : List Rec) (a b : Nat) : Prop := ∀ d r, a ≤ d → d < b → rs[d]? = some r → isEff r.o = false

theorem Tr.calm (T : Tr P call n ops fr h0 rs tm' h') : ∀ (k a : Nat), a + k ≤ ops.size → Calm rs a (a + k) → HA rs h' (a + k) = HA rs h' a
  | 0, a, _, _ => rfl
  | k + 1, a, hk, hc => by
    have ih := T.calm k a (by omega) (fun d r h1 h2 => hc d r h1 (by omega))
    obtain ⟨r, hr, _⟩ := T.get (i := a + k) (by omega)
    rw [← ih, ← T.quiet hr (hc _ r (by omega) (by omega) hr)]
    rfl

theorem Tr.calm' (T : Tr P call n ops fr h0 rs tm' h') {a b : Nat} (h1 : a ≤ b) (h2 : b ≤ ops.size) (hc : Calm rs a b) : HA rs h' b = HA rs h' a := by
  have := T.calm (b - a) a (by omega) (by rw [show a + (b - a) = b by omega]; exact hc)
  rw [show a + (b - a) = b by omega] at this
  exact this

/-- The next operation that may change the heap, from j on, or the end. -/
theorem next_eff (hl : rs.length = ops.size) : ∀ (k j : Nat), j + k = ops.size → ∃ q, j ≤ q ∧ q ≤ ops.size ∧ Calm rs j q ∧ (q = ops.size ∨ ∃ r, rs[q]? = some r ∧ isEff r.o = true)
  | 0, j, h => ⟨j, Nat.le_refl _, by omega, fun d r h1 h2 => by omega, .inl (by omega)⟩
  | k + 1, j, h => by
    have hj : j < rs.length := by omega
    cases he : isEff rs[j].o
    · obtain ⟨q, h1, h2, h3, h4⟩ := next_eff hl k (j + 1) (by omega)
      refine ⟨q, by omega, h2, fun d r g1 g2 hr => ?_, h4⟩
      by_cases hd : d = j
      · subst hd
        rw [List.getElem?_eq_getElem hj] at hr
        cases hr
        exact he
      · exact h3 d r (by omega) g2 hr
    · exact ⟨j, Nat.le_refl _, by omega, fun d r h1 h2 => by omega, .inr ⟨_, List.getElem?_eq_getElem hj, he⟩⟩

theorem effHeaps_mem : ∀ (l : List Rec) (i k : Nat) (r : Rec), l[k]? = some r → isEff r.o = true → (i + k, r.h) ∈ effHeaps l i
  | [], i, k, r, h, _ => by simp at h
  | x :: l, i, k, r, h, he => by
    cases k with
    | zero =>
      simp only [List.getElem?_cons_zero, Option.some.injEq] at h
      subst h
      simp [effHeaps, he]
    | succ k =>
      simp only [List.getElem?_cons_succ] at h
      have := effHeaps_mem l (i + 1) k r h he
      rw [show i + 1 + k = i + (k + 1) by omega] at this
      cases hx : isEff x.o <;> simp [effHeaps, hx, this]

theorem effHeaps_of : ∀ (l : List Rec) (i : Nat) (x : Nat × Hp), x ∈ effHeaps l i → ∃ k r, x.1 = i + k ∧ l[k]? = some r ∧ isEff r.o = true
  | [], i, x, h => by simp [effHeaps] at h
  | y :: l, i, x, h => by
    simp only [effHeaps] at h
    cases hy : isEff y.o
    · simp only [hy, cond_false] at h
      obtain ⟨k, r, e1, e2, e3⟩ := effHeaps_of l (i + 1) x h
      exact ⟨k + 1, r, by omega, by simpa using e2, e3⟩
    · simp only [hy, cond_true] at h
      rcases List.mem_cons.1 h with rfl | h
      · exact ⟨0, y, rfl, rfl, hy⟩
      · obtain ⟨k, r, e1, e2, e3⟩ := effHeaps_of l (i + 1) x h
        exact ⟨k + 1, r, by omega, by simpa using e2, e3⟩

theorem readsOK_at {cl : List Nat} {hs : List (Nat × Hp)} : ∀ (l : List Rec) (i k : Nat) (r : Rec), readsOK P call ops fr cl hs l i = true → l[k]? = some r → r.w = true → isRead r.o = true →
    ∀ x ∈ hs, rdSkip cl (hs.map (·.1)) (i + k) x.1 = true ∨ ∃ h1, exec1 P call (msk (reads ops r.o) (look r.tm fr)) x.2 r.o = some (r.v, h1)
  | [], i, k, r, _, h, _, _ => by simp at h
  | y :: l, i, k, r, hok, h, hw, hr => by
    simp only [readsOK, Bool.and_eq_true] at hok
    cases k with
    | zero =>
      simp only [List.getElem?_cons_zero, Option.some.injEq] at h
      subst h
      intro x hx
      have h1 := hok.1
      simp only [hw, hr, Bool.and_self, Bool.not_true, Bool.false_or, List.all_eq_true] at h1
      have h2 := h1 x hx
      simp only [Bool.or_eq_true] at h2
      rcases h2 with h2 | h2
      · exact .inl h2
      · right
        split at h2
        · rename_i v h3 he
          rw [AV.beq_eq h2] at he
          exact ⟨h3, he⟩
        · cases h2
    | succ k =>
      simp only [List.getElem?_cons_succ] at h
      have := readsOK_at l (i + 1) k r hok.2 h hw hr
      rw [show i + 1 + k = i + (k + 1) by omega] at this
      exact this

/-- What a slot holds in the order of the text before operation k. -/
theorem Tr.text (T : Tr P call n ops fr h0 rs tm' h') (t : Nat) : ∀ k, k ≤ ops.size →
    (∃ d r, d < k ∧ rs[d]? = some r ∧ r.o.dst = some t ∧ look (TM rs tm' k) fr t = r.v) ∨ ((∀ d r, d < k → rs[d]? = some r → r.o.dst ≠ some t) ∧ look (TM rs tm' k) fr t = lkF fr t)
  | 0, _ => .inr ⟨fun d r h => by omega, by rw [T.tm0]; rfl⟩
  | k + 1, hk => by
    obtain ⟨r, hr, _⟩ := T.get (i := k) (by omega)
    have hs := (T.step k r hr).tm t
    have ht := TM_of (tm' := tm') hr
    by_cases hd : r.o.dst = some t
    · rw [if_pos hd] at hs
      exact .inl ⟨k, r, by omega, hr, hd, hs⟩
    · rw [if_neg hd, ← ht] at hs
      rcases T.text t k (by omega) with ⟨d, r', h1, h2, h3, h4⟩ | ⟨h1, h2⟩
      · exact .inl ⟨d, r', by omega, h2, h3, by rw [hs, h4]⟩
      · refine .inr ⟨fun d r' hlt hr' => ?_, by rw [hs, h2]⟩
        by_cases e : d = k
        · subst e
          rw [hr] at hr'
          cases hr'
          exact hd
        · exact h1 d r' (by omega) hr'

/-- What a slot holds when the operations in L have been carried out. -/
def Val (rs : List Rec) (fr : Fr) (L : Nat → Bool) (t : Nat) (v : AV) : Prop :=
  (∃ d r, rs[d]? = some r ∧ L d = true ∧ r.o.dst = some t ∧ v = r.v) ∨ ((∀ d r, rs[d]? = some r → r.o.dst = some t → L d = false) ∧ v = lkF fr t)

/-- The state of affairs when the operations in L have been carried out. -/
structure Inv (base : Nat) (σ0 : Env) (n : Nat) (ops : Array Oper) (cl : List Nat) (fr : Fr) (rs : List Rec) (h' : Hp) (w0 : World) (df : List Deferred) (L : Nat → Bool) (σ : Env) (a : Act) (w : World) : Prop where
  clo : ∀ i, i < ops.size → L i = true → ∀ j, Nat.testBit (cl.getD i 0) j = true → L j = true
  size : a.tmps.size = n
  val : ∀ t v, Val rs fr L t v → R σ v (a.tmps.getD t undef)
  stage : ∃ j, j ≤ ops.size ∧ (∀ d r, rs[d]? = some r → isEff r.o = true → (L d = true ↔ d < j)) ∧ HR σ base (HA rs h' j) w
  ext : Ext σ0 σ
  fw : Fw base w0 w
  dfs : a.defers = df

theorem FR_msk {σ : Env} {l : List Nat} {f : Nat → AV} {tmps : Array Value} (hs : tmps.size = n) (h : ∀ t ∈ l, R σ (f t) (tmps.getD t undef)) : FR σ n (msk l f) tmps := by
  refine ⟨hs, fun t => ?_⟩
  unfold msk
  cases he : l.elem t
  · simp [R_any]
  · simp only [cond_true]
    exact h t (List.mem_of_elem_eq_true he)

section
variable {cl : List Nat} {base : Nat} {σ0 : Env} {w0 : World} {df : List Deferred}

/-- One operation in some order. -/
theorem draw_step (hcall : CallOK P call) (O : Ord ops cl) (T : Tr P call n ops fr h0 rs tm' h') (hro : (∀ (d : Nat) (r : Rec), rs[d]? = some r → isEff r.o = false) ∨ readsOK P call ops fr cl (effHeaps rs 0 ++ [(ops.size, h')]) rs 0 = true)
    {L : Nat → Bool} {σ : Env} {a : Act} {w : World} (hb : base ≤ w0.heap.size) (I : Inv base σ0 n ops cl fr rs h' w0 df L σ a w) {i : Nat} (hi : i < ops.size) (hL : L i = false)
    (hready : ∀ o, ops[i]? = some o → ∀ e ∈ o.after.toList, Region.binds .any e = true → L e.on = true) {r : Option Nat} {N : Nat} {K : Act → World → Prop} {Q : Exit → Act → World → Prop}
    (hK : ∀ τ a' w', Inv base σ0 n ops cl fr rs h' w0 df (fun d => L d || d == i) τ a' w' → K a' w') : wpOpIn (Wd r) N P ops Q i K a w := by
  obtain ⟨rc, hrc, ho⟩ := T.get hi
  have S := T.step i rc hrc
  -- all that must come before has come
  have before : ∀ j, Nat.testBit (cl.getD i 0) j = true → L j = true := fun j hj => by
    obtain ⟨e, he, hbd, h⟩ := O.clo ho hj
    have h1 := hready rc.o ho e he hbd
    rcases h with h | h
    · rw [← h]; exact h1
    · exact I.clo e.on (by have := O.edge ho e he hbd; omega) h1 j h
  have notBefore : ∀ d rd, rs[d]? = some rd → Nat.testBit (cl.getD d 0) i = true → L d = false := fun d rd hd hbit => by
    cases hLd : L d
    · rfl
    · have hds : d < ops.size := by
        have := (Array.getElem?_eq_some_iff.1 (T.op hd)).1
        exact this
      rw [I.clo d hds hLd i hbit] at hL
      cases hL
  -- what it reads is there
  have hval : ∀ t ∈ reads ops rc.o, R σ (look rc.tm fr t) (a.tmps.getD t undef) := fun t ht => by
    refine I.val t _ ?_
    have htx := T.text t i (by omega)
    rw [TM_of hrc] at htx
    rcases htx with ⟨d, rd, h1, h2, h3, h4⟩ | ⟨h1, h2⟩
    · refine .inl ⟨d, rd, h2, ?_, h3, h4⟩
      have hone := (O.one ho (T.op h2) (by omega) h3).2 ht
      rcases hone with h5 | h5
      · exact before d h5
      · have := O.lt d (T.op h2) h5
        omega
    · refine .inr ⟨fun d rd hd hdst => ?_, h2⟩
      by_cases hdi : d = i
      · subst hdi; exact hL
      · have hge : ¬ d < i := fun hlt => h1 d rd hlt hd hdst
        have hone := (O.one ho (T.op hd) (fun e => hdi e.symm) hdst).2 ht
        rcases hone with h5 | h5
        · have := O.lt i ho h5
          omega
        · exact notBefore d rd hd h5
  have hf : FR σ n (msk (reads ops rc.o) (look rc.tm fr)) a.tmps := FR_msk I.size hval
  -- what comes behind
  have go : ∀ u τ w' j', R τ rc.v u → Ext σ τ → Fw base w w' → j' ≤ ops.size → (∀ d rd, rs[d]? = some rd → isEff rd.o = true → ((L d || d == i) = true ↔ d < j')) → HR τ base (HA rs h' j') w' → K (a.put rc.o.dst u) w' :=
    fun u τ w' j' hu hx hfw hj hst hH => hK τ _ w' {
      clo := fun k hk hLk j hj => by
        simp only [Bool.or_eq_true, beq_iff_eq] at hLk ⊢
        rcases hLk with hLk | rfl
        · exact .inl (I.clo k hk hLk j hj)
        · exact .inl (before j hj)
      size := by
        cases hd : rc.o.dst with
        | none => exact I.size
        | some d => simp [Act.put, I.size]
      val := fun t v hv => by
        by_cases hd : rc.o.dst = some t
        · -- the slot that it writes
          have htn := S.dst t hd
          have hv' : v = rc.v := by
            rcases hv with ⟨d, rd, h1, h2, h3, h4⟩ | ⟨h1, _⟩
            · by_cases hdi : d = i
              · subst hdi
                rw [hrc] at h1
                cases h1
                exact h4
              · exact absurd hd (O.one ho (T.op h1) (fun e => hdi e.symm) h3).1
            · have := h1 i rc hrc hd
              simp at this
          subst hv'
          rw [hd]
          simp only [Act.put, Array.getD_eq_getD_getElem?]
          rw [Array.getElem?_setIfInBounds_self_of_lt (by rw [I.size]; exact htn)]
          simpa using hu
        · have hold : Val rs fr L t v := by
            rcases hv with ⟨d, rd, h1, h2, h3, h4⟩ | ⟨h1, h2⟩
            · refine .inl ⟨d, rd, h1, ?_, h3, h4⟩
              simp only [Bool.or_eq_true, beq_iff_eq] at h2
              rcases h2 with h2 | rfl
              · exact h2
              · rw [hrc] at h1
                cases h1
                exact absurd h3 hd
            · refine .inr ⟨fun d rd g1 g2 => ?_, h2⟩
              have := h1 d rd g1 g2
              simp only [Bool.or_eq_false_iff] at this
              exact this.1
          have := (I.val t v hold).ext hx
          cases hdd : rc.o.dst with
          | none => exact this
          | some d =>
            have hne : d ≠ t := fun e => hd (by rw [hdd, e])
            simp only [Act.put, Array.getD_eq_getD_getElem?]
            rw [Array.getElem?_setIfInBounds_ne hne]
            simpa [Array.getD_eq_getD_getElem?] using this
      stage := ⟨j', hj, hst, hH⟩
      ext := I.ext.trans hx
      fw := I.fw.trans hfw
      dfs := by rw [Act.put_defers]; exact I.dfs }
  obtain ⟨j, hj, hst, hH⟩ := I.stage
  have hbw : base ≤ w.heap.size := Nat.le_trans hb I.fw.bel.size
  unfold wpOpIn
  rw [ho]
  simp only
  cases heff : isEff rc.o
  · -- it leaves the heap alone
    have hst' : ∀ d rd, rs[d]? = some rd → isEff rd.o = true → ((L d || d == i) = true ↔ d < j) := fun d rd hd he => by
      have hdi : d ≠ i := fun e => by subst e; rw [hrc] at hd; cases hd; rw [heff] at he; cases he
      simp only [Bool.or_eq_true, beq_iff_eq, hdi, or_false]
      exact hst d rd hd he
    cases hw : rc.w
    · obtain ⟨h1, h2, h3⟩ := S.no hw
      rw [if_neg (by rw [want_spec h1 hf]; simp)]
      exact ⟨fun _ _ => trivial, go undef σ w j (by rw [h2]; exact R_undef) (.refl _) (.refl _ _) hj hst' hH⟩
    · obtain ⟨h1, h2⟩ := S.yes hw
      rw [if_pos (want_spec h1 hf)]
      -- its value at the heap that lies there now
      have hex : exec1 P call (msk (reads ops rc.o) (look rc.tm fr)) (HA rs h' j) rc.o = some (rc.v, HA rs h' j) := by
        rcases hro with hno | hok
        · have e1 : HA rs h' j = rc.h := by
            rw [← HA_of (h' := h') hrc]
            rcases Nat.le_total i j with h | h
            · exact T.calm' h hj fun d rd _ _ hd => hno d rd hd
            · exact (T.calm' h (by omega) fun d rd _ _ hd => hno d rd hd).symm
          have e2 : HA rs h' (0 + i + 1) = rc.h := by
            rw [show 0 + i + 1 = i + 1 by omega, T.quiet hrc heff, HA_of hrc]
          rw [e1]
          have h2' : exec1 P call (msk (reads ops rc.o) (look rc.tm fr)) rc.h rc.o = some (rc.v, HA rs h' (i + 1)) := h2
          rw [T.quiet hrc heff, HA_of hrc] at h2'
          exact h2'
        · cases hrd : isRead rc.o
          · exact exec1_indep rc.o heff hrd h2 _
          · obtain ⟨q, q1, q2, q3, q4⟩ := next_eff T.len (ops.size - j) j (by omega)
            have e1 : HA rs h' q = HA rs h' j := T.calm' q1 q2 q3
            have hmem : (q, HA rs h' q) ∈ effHeaps rs 0 ++ [(ops.size, h')] := by
              rcases q4 with rfl | ⟨rq, g1, g2⟩
              · have : HA rs h' ops.size = h' := by simp [HA, List.getElem?_eq_none (show rs.length ≤ ops.size by rw [T.len]; exact Nat.le_refl _)]
                rw [this]
                simp
              · rw [HA_of g1]
                have := effHeaps_mem rs 0 q rq g1 g2
                rw [Nat.zero_add] at this
                simp [this]
            have hnb : ¬ Nat.testBit (cl.getD (0 + i) 0) q = true := fun hbit => by
              rw [Nat.zero_add] at hbit
              rcases q4 with rfl | ⟨rq, g1, g2⟩
              · have := O.lt i ho hbit
                omega
              · have := (hst q rq g1 g2).1 (before q hbit)
                omega
            rcases readsOK_at rs 0 i rc hok hrc hw hrd _ hmem with h3 | ⟨h1', h3⟩
            · simp only [rdSkip, Bool.or_eq_true] at h3
              rcases h3 with h3 | h3
              · exact absurd h3 hnb
              · exfalso
                rw [Nat.zero_add] at h3
                obtain ⟨d, hd, hd2⟩ := List.any_eq_true.1 h3
                simp only [Bool.and_eq_true, Nat.blt_eq] at hd2
                obtain ⟨x, hx, rfl⟩ := List.mem_map.1 hd
                rcases List.mem_append.1 hx with hx | hx
                · obtain ⟨k, rk, k1, k2, k3⟩ := effHeaps_of rs 0 x hx
                  rw [Nat.zero_add] at k1
                  rw [k1] at hd2
                  have hkj : k < j := by
                    rcases Nat.lt_or_ge k j with h | h
                    · exact h
                    · rw [q3 k rk h hd2.1 k2] at k3
                      cases k3
                  have := (hst k rk k2 k3).2 hkj
                  rw [notBefore k rk k2 hd2.2] at this
                  cases this
                · simp only [List.mem_singleton] at hx
                  subst hx
                  have := hd2.1
                  simp only at this
                  omega
            · have := exec1_quiet rc.o heff h3
              subst this
              rw [← e1]
              exact h3
      exact exec1_sound hcall hH hbw hf hex fun u w' τ q1 q2 q3 q4 => go u τ w' j q1 q2 q4 hj hst' q3
  · -- it may change the heap: those before it have come, those behind it have not
    have hLd : ∀ d rd, rs[d]? = some rd → isEff rd.o = true → d < i → L d = true := fun d rd hd he hlt =>
      before d (O.eff ho (T.op hd) heff he hlt)
    have hLd' : ∀ d rd, rs[d]? = some rd → isEff rd.o = true → i < d → L d = false := fun d rd hd he hlt =>
      notBefore d rd hd (O.eff (T.op hd) ho he heff hlt)
    have hji : j ≤ i := by
      rcases Nat.lt_or_ge i j with h | h
      · have := (hst i rc hrc heff).2 h
        rw [hL] at this
        cases this
      · exact h
    have hcalm : Calm rs j i := fun d rd g1 g2 hd => by
      cases he : isEff rd.o
      · rfl
      · have := (hst d rd hd he).1 (hLd d rd hd he g2)
        omega
    have e1 : HA rs h' j = rc.h := by rw [← HA_of (h' := h') hrc]; exact (T.calm' hji (by omega) hcalm).symm
    rw [e1] at hH
    have hst' : ∀ d rd, rs[d]? = some rd → isEff rd.o = true → ((L d || d == i) = true ↔ d < i + 1) := fun d rd hd he => by
      simp only [Bool.or_eq_true, beq_iff_eq]
      constructor
      · rintro (h | h)
        · rcases Nat.lt_or_ge i d with h1 | h1
          · rw [hLd' d rd hd he h1] at h; cases h
          · omega
        · omega
      · intro h
        rcases Nat.lt_or_ge d i with h1 | h1
        · exact .inl (hLd d rd hd he h1)
        · exact .inr (by omega)
    cases hw : rc.w
    · obtain ⟨h1, h2, h3⟩ := S.no hw
      rw [if_neg (by rw [want_spec h1 hf]; simp)]
      refine ⟨fun _ _ => trivial, go undef σ w (i + 1) (by rw [h2]; exact R_undef) (.refl _) (.refl _ _) (by omega) hst' ?_⟩
      rw [h3]
      exact hH
    · obtain ⟨h1, h2⟩ := S.yes hw
      rw [if_pos (want_spec h1 hf)]
      exact exec1_sound hcall hH hbw hf h2 fun u w' τ q1 q2 q3 q4 => go u τ w' (i + 1) q1 q2 q4 (by omega) hst' q3

end
end
end Go.Abs

namespace Go.Abs
open Go Go.RowKit

section
variable {P : Program} {call : CallF} {n : Nat} {ops : Array Oper} {fr : Fr} {rs : List Rec} {tm' : Fr} {h' h0 : Hp} {cl : List Nat} {base : Nat} {σ0 : Env} {w0 : World} {df : List Deferred}

theorem Inv.congr {L L' : Nat → Bool} {σ : Env} {a : Act} {w : World} (hL : ∀ d, d < ops.size → L d = L' d) (hcl : ∀ i, i < ops.size → ∀ j, Nat.testBit (cl.getD i 0) j = true → j < ops.size) (hlen : rs.length = ops.size)
    (I : Inv base σ0 n ops cl fr rs h' w0 df L σ a w) : Inv base σ0 n ops cl fr rs h' w0 df L' σ a w := by
  have lt : ∀ d (r : Rec), rs[d]? = some r → d < ops.size := fun d r h => by
    rw [← hlen]
    exact (List.getElem?_eq_some_iff.1 h).1
  refine ⟨fun i hi hLi j hj => ?_, I.size, fun t v hv => I.val t v ?_, ?_, I.ext, I.fw, I.dfs⟩
  · rw [← hL j (hcl i hi j hj)]
    exact I.clo i hi (by rw [hL i hi]; exact hLi) j hj
  · rcases hv with ⟨d, r, h1, h2, h3, h4⟩ | ⟨h1, h2⟩
    · exact .inl ⟨d, r, h1, by rw [hL d (lt d r h1)]; exact h2, h3, h4⟩
    · exact .inr ⟨fun d r g1 g2 => by rw [hL d (lt d r g1)]; exact h1 d r g1 g2, h2⟩
  · obtain ⟨j, hj, h1, h2⟩ := I.stage
    exact ⟨j, hj, fun d r hd he => by rw [← hL d (lt d r hd)]; exact h1 d r hd he, h2⟩

theorem ready_of {listed : Array Bool} {i : Nat} (h : i ∈ Region.ready .any ops listed) : i < ops.size ∧ listed.getD i true = false ∧ ∀ o, ops[i]? = some o → ∀ e ∈ o.after.toList, Region.binds .any e = true → listed.getD e.on false = true := by
  unfold Region.ready at h
  rw [List.mem_filter, List.mem_range] at h
  obtain ⟨h1, h2⟩ := h
  simp only [Bool.and_eq_true, Bool.not_eq_true'] at h2
  refine ⟨h1, h2.1, fun o ho e he hb => ?_⟩
  have h3 := h2.2
  simp only [ho, Option.map_some, Option.getD_some, Array.all_eq_true', Bool.or_eq_true, Bool.not_eq_true'] at h3
  rcases h3 e (by simpa using he) with h | h
  · rw [hb] at h; cases h
  · exact h

theorem all_listed (O : Ord ops cl) {listed : Array Bool} (hs : listed.size = ops.size) (hr : Region.ready .any ops listed = []) : ∀ i, i < ops.size → listed.getD i false = true := by
  intro i
  induction i using Nat.strongRecOn with
  | _ i ih =>
    intro hi
    cases hl : listed.getD i false
    · exfalso
      have : i ∈ Region.ready .any ops listed := by
        unfold Region.ready
        rw [List.mem_filter, List.mem_range]
        refine ⟨hi, ?_⟩
        have h1 : listed.getD i true = false := by
          rw [Array.getD_eq_getD_getElem?] at hl ⊢
          rw [Array.getElem?_eq_getElem (by omega)] at hl ⊢
          simpa using hl
        simp only [h1, Bool.not_false, Bool.true_and, Array.getElem?_eq_getElem hi, Option.map_some, Option.getD_some, Array.all_eq_true', Bool.or_eq_true, Bool.not_eq_true']
        intro e he
        cases hb : Region.binds .any e
        · exact .inl rfl
        · have := O.edge (Array.getElem?_eq_getElem hi) e (by simpa using he) hb
          exact .inr (ih e.on this (by omega))
      rw [hr] at this
      cases this
    · rfl

theorem draw_all (hcall : CallOK P call) (O : Ord ops cl) (T : Tr P call n ops fr h0 rs tm' h') (hro : (∀ (d : Nat) (r : Rec), rs[d]? = some r → isEff r.o = false) ∨ readsOK P call ops fr cl (effHeaps rs 0 ++ [(ops.size, h')]) rs 0 = true)
    (hb : base ≤ w0.heap.size) {r : Option Nat} {N : Nat} {Q : Exit → Act → World → Prop}
    (hQ : ∀ a' w' τ, a'.defers = df → Ext σ0 τ → HR τ base h' w' → FR τ n (look tm' fr) a'.tmps → Fw base w0 w' → Q .normal a' w') :
    ∀ (fuel : Nat) (listed : Array Bool) (σ : Env) (a : Act) (w : World), listed.size = ops.size → listed.toList.countP (!·) ≤ fuel →
      Inv base σ0 n ops cl fr rs h' w0 df (fun d => listed.getD d false) σ a w → wpAnyIn (Wd r) N P .any ops Q fuel listed a w := by
  have fin : ∀ (listed : Array Bool) (σ : Env) (a : Act) (w : World), (∀ i, i < ops.size → listed.getD i false = true) →
      Inv base σ0 n ops cl fr rs h' w0 df (fun d => listed.getD d false) σ a w → Q .normal a w := fun listed σ a w hall I => by
    have lt : ∀ d (r : Rec), rs[d]? = some r → d < ops.size := fun d r h => by
      rw [← T.len]
      exact (List.getElem?_eq_some_iff.1 h).1
    have hTM : TM rs tm' ops.size = tm' := by simp [TM, List.getElem?_eq_none (show rs.length ≤ ops.size by rw [T.len]; exact Nat.le_refl _)]
    have hHA : HA rs h' ops.size = h' := by simp [HA, List.getElem?_eq_none (show rs.length ≤ ops.size by rw [T.len]; exact Nat.le_refl _)]
    obtain ⟨j, hj, hst, hH⟩ := I.stage
    have e : HA rs h' ops.size = HA rs h' j := T.calm' hj (Nat.le_refl _) fun d rd g1 g2 hd => by
      cases he : isEff rd.o
      · rfl
      · have := (hst d rd hd he).1 (hall d g2)
        omega
    rw [hHA] at e
    rw [← e] at hH
    refine hQ a w σ I.dfs I.ext hH ⟨I.size, fun t => I.val t _ ?_⟩ I.fw
    have := T.text t ops.size (Nat.le_refl _)
    rw [hTM] at this
    rcases this with ⟨d, rd, h1, h2, h3, h4⟩ | ⟨h1, h2⟩
    · exact .inl ⟨d, rd, h2, hall d h1, h3, h4⟩
    · exact .inr ⟨fun d rd g1 g2 => absurd g2 (h1 d rd (lt d rd g1) g1), h2⟩
  have hcl : ∀ i, i < ops.size → ∀ j, Nat.testBit (cl.getD i 0) j = true → j < ops.size := fun i hi j hj => by
    have := O.lt i (Array.getElem?_eq_getElem hi) hj
    omega
  intro fuel
  induction fuel with
  | zero =>
    intro listed σ a w hs hc I
    have hall : ∀ i, i < ops.size → listed.getD i false = true := fun i hi => by
      have h1 : listed.toList.countP (!·) = 0 := by omega
      rw [List.countP_eq_zero] at h1
      have hlt : i < listed.size := by omega
      have := h1 listed[i] (by simp)
      rw [Array.getD_eq_getD_getElem?, Array.getElem?_eq_getElem hlt]
      simpa using this
    have hrd : Region.ready .any ops listed = [] := by
      cases hr : Region.ready .any ops listed with
      | nil => rfl
      | cons i l =>
        obtain ⟨h1, h2, _⟩ := ready_of (ops := ops) (listed := listed) (i := i) (by rw [hr]; simp)
        have := hall i h1
        rw [Array.getD_eq_getD_getElem?, Array.getElem?_eq_getElem (by omega)] at this h2
        simp at this h2
        rw [this] at h2
        cases h2
    exact ⟨hrd, fin listed σ a w hall I⟩
  | succ fuel ih =>
    intro listed σ a w hs hc I
    refine ⟨fun hr => fin listed σ a w (all_listed O hs hr) I, fun i hi => ?_⟩
    obtain ⟨h1, h2, h3⟩ := ready_of hi
    have hLi : listed.getD i false = false := by
      rw [Array.getD_eq_getD_getElem?, Array.getElem?_eq_getElem (by omega)] at h2 ⊢
      simpa using h2
    refine draw_step hcall O T hro hb I h1 hLi (fun o ho e he hbd => h3 o ho e he hbd) fun τ a' w' I' => ?_
    refine ih _ τ a' w' (by simp [hs]) ?_ (I'.congr (fun d hd => ?_) hcl T.len)
    · have hlt : i < listed.toList.length := by simp; omega
      rw [Array.toList_setIfInBounds, List.countP_set hlt]
      have : (!listed.toList[i]) = true := by
        rw [Array.getD_eq_getD_getElem?, Array.getElem?_eq_getElem (by omega)] at h2
        simpa using h2
      simp only [this, if_true, Bool.not_true, Bool.false_eq_true, if_false]
      omega
    · simp only [Array.getD_eq_getD_getElem?, Array.getElem?_setIfInBounds]
      by_cases hdi : i = d
      · subst hdi
        simp [show i < listed.size by omega]
      · have : (d == i) = false := by simp; omega
        simp [hdi, this]

theorem effHeaps_empty : ∀ (l : List Rec) (i : Nat), (effHeaps l i).isEmpty = true → ∀ (d : Nat) (r : Rec), l[d]? = some r → isEff r.o = false
  | [], i, _, d, r, h => by simp at h
  | x :: l, i, he, d, r, h => by
    cases hx : isEff x.o
    · simp only [effHeaps, hx, cond_false] at he
      cases d with
      | zero => simp at h; subst h; exact hx
      | succ d => simp at h; exact effHeaps_empty l (i + 1) he d r h
    · simp [effHeaps, hx] at he

/-- **A region whose order is drawn.** -/
theorem runDraw_sound (hcall : CallOK P call) (hm : P.follows .mixedOrders = true) {σ : Env} {w : World} {a : Act} {h : Hp} {tm : Fr} {h1 : Hp} (hs : runDraw P call n ops fr h = some (tm, h1)) (H : HR σ base h w) (hb : base ≤ w.heap.size)
    (hf : FR σ n (lkF fr) a.tmps) {r : Option Nat} {N id : Nat} {Q : Exit → Act → World → Prop}
    (hQ : ∀ a' w' τ, a'.defers = a.defers → Ext σ τ → HR τ base h1 w' → FR τ n (look tm fr) a'.tmps → Fw base w w' → Q .normal a' w') : (Code.region id ops true).wpIn (Wd r) N P Q a w := by
  unfold runDraw at hs
  split at hs
  · rename_i rs tm2 h2 ht
    cases hc : (orderOK ops (clos ops.toList []) && ((effHeaps rs 0).isEmpty || readsOK P call ops fr (clos ops.toList []) (effHeaps rs 0 ++ [(ops.size, h2)]) rs 0))
    · simp only [hc, cond_false] at hs
      cases hs
    · simp only [hc, cond_true, Option.some.injEq, Prod.mk.injEq] at hs
      obtain ⟨rfl, rfl⟩ := hs
      simp only [Bool.and_eq_true, Bool.or_eq_true] at hc
      have O := orderOK_spec hc.1
      have T := Tr.mk' ht
      refine wpIn_region_any hm ?_
      have hro := hc.2.imp (effHeaps_empty rs 0) fun h => h
      refine draw_all hcall O T hro (w0 := w.drew) hb (fun a' w' τ q1 q2 q3 q4 q5 => hQ a' w' τ q1 q2 q3 q4 ((Fw.drew _ _).trans q5)) ops.size _ σ a w.drew (by simp) ?_ ?_
      · refine Nat.le_trans (List.countP_le_length) (by simp)
      · have hfalse : ∀ d, (Array.replicate ops.size false).getD d false = false := fun d => by
          rw [Array.getD_eq_getD_getElem?, Array.getElem?_replicate]
          split <;> rfl
        refine ⟨fun i _ hL => (by rw [hfalse] at hL; cases hL), hf.1, fun t v hv => ?_, ⟨0, Nat.zero_le _, fun d r _ _ => by rw [hfalse]; simp, by rw [T.ha0]; exact H.drew⟩, .refl _, .refl _ _, rfl⟩
        rcases hv with ⟨d, rd, h1, h2, h3, h4⟩ | ⟨_, rfl⟩
        · have h2' := h2
          simp only [hfalse] at h2'
          cases h2'
        · exact hf.2 t
  · cases hs

end
end Go.Abs

namespace Go.Abs
open Go Go.RowKit

section
variable {P : Program} {base : Nat} {σ : Env} {w : World} {h : Hp}

/-- Only the slots that are kept are spoken of. -/
def KP (keep : Nat) (fr : Fr) : Prop := ∀ t, keep.testBit t = false → lkF fr t = .any

theorem commit_spec (keep : Nat) : ∀ (tm fr : Fr), KP keep fr → KP keep (commit keep tm fr) ∧ ∀ t, lkF (commit keep tm fr) t = if keep.testBit t = true then look tm fr t else .any
  | [], fr, h => ⟨h, fun t => by
      simp only [commit, look, lkO]
      cases ht : keep.testBit t
      · simp [h t ht]
      · simp⟩
  | (d, v) :: r, fr, h => by
    obtain ⟨h1, h2⟩ := commit_spec keep r fr h
    simp only [commit]
    cases hd : keep.testBit d
    · simp only [cond_false]
      refine ⟨h1, fun t => ?_⟩
      rw [h2, look_cons]
      by_cases e : t = d
      · subst e; simp [hd]
      · rw [if_neg e]
    · simp only [cond_true]
      have key : ∀ t, lkF (setF (commit keep r fr) d v) t = if keep.testBit t = true then look ((d, v) :: r) fr t else .any := fun t => by
        rw [lkF_setF, look_cons]
        by_cases e : t = d
        · subst e; simp [hd]
        · rw [if_neg e, if_neg e, h2]
      refine ⟨fun t ht => ?_, key⟩
      rw [key, ht]
      simp

theorem FR.commit {n keep : Nat} {tm fr : Fr} {tmps : Array Value} (hk : KP keep fr) (hf : FR σ n (look tm fr) tmps) : FR σ n (lkF (commit keep tm fr)) tmps := by
  refine ⟨hf.1, fun t => ?_⟩
  rw [(commit_spec keep tm fr hk).2]
  split
  · exact hf.2 t
  · exact R_any

def Ex.out : Ex → Exit
  | .normal => .normal
  | .exit id => .exit id
  | .ret => .ret

/-- The marks of loops over functions among the deferred calls: each its own block, from lo on, with no call. -/
def Mk (lo : Nat) (ds : List Deferred) (w : World) : Prop :=
  (∀ d ∈ ds, ∃ b, d.target = .collected b ∧ lo ≤ b ∧ w.heap[b]? = some (.deferred (some []))) ∧ ds.Pairwise fun x y => ∀ a b, x.target = .collected a → y.target = .collected b → a ≠ b

theorem Mk.fw {lo : Nat} {ds : List Deferred} {w' : World} (h : Mk lo ds w) (hf : Fw base w w') : Mk lo ds w' :=
  ⟨fun d hd => let ⟨b, h1, h2, h3⟩ := h.1 d hd; ⟨b, h1, h2, hf.dfr b _ h3⟩, h.2⟩

/-- What a statement leaves. -/
def PostC (base lo : Nat) (σ : Env) (keep n : Nat) (e : Ex) (s : St) (w : World) : Exit → Act → World → Prop :=
  fun x a' w' => x = e.out ∧ ∃ τ, Ext σ τ ∧ HR τ base s.hp w' ∧ FR τ n (lkF s.fr) a'.tmps ∧ KP keep s.fr ∧ Fw base w w' ∧ Mk lo a'.defers w'

theorem PostC.trans {lo keep n : Nat} {τ : Env} {e : Ex} {s : St} {w1 : World} (hx : Ext σ τ) (hf : Fw base w w1) {x : Exit} {a : Act} {w2 : World} (h : PostC base lo τ keep n e s w1 x a w2) : PostC base lo σ keep n e s w x a w2 := by
  obtain ⟨h1, υ, h2, h3, h4, h5, h6, h7⟩ := h
  exact ⟨h1, υ, hx.trans h2, h3, h4, h5, hf.trans h6, h7⟩

/-- In a round: its loop is there. -/
def InR (r : Option Nat) (w : World) : Prop := ∀ l, r = some l → ∃ x, w.heap[l]? = some (Obj.loop x)

theorem InR.fw {r : Option Nat} {w' : World} (h : InR r w) (hf : Fw base w w') : InR r w' := fun l hl => let ⟨x, hx⟩ := h l hl; hf.lop l x hx

theorem lkL_cons {l : List (Nat × LoopA)} {i j : Nat} {b : LoopA} : lkL ((i, b) :: l) j = if j = i then some b else lkL l j := by
  by_cases e : i = j
  · subst e; simp [lkL]
  · rw [if_neg (fun h => e h.symm)]
    simp [lkL, nb e]

/-- A loop is entered. -/
theorem HR.addLoop (H : HR σ base h w) (hb : base ≤ w.heap.size) {rc : LoopA} {x : Loop} (h1 : x.params = rc.ps) (h2 : x.assign = rc.assign) (h3 : x.body = rc.body) (h4 : x.state = (match rc.st with | 0 => .ready | 1 => .busy | 2 => .done | _ => .exhausted))
    (h5 : x.pending = rc.jump.map (fun j => match j with | none => .ret | some id => .exit id)) (h6 : FR σ rc.n (lkF rc.fr) x.tmps) (h7 : KP rc.keep rc.fr) :
    HR (upd σ h.next ⟨w.heap.size, 0, 0⟩) base { h with next := h.next + 1, loops := (h.next, rc) :: h.loops } (w.alloc (.loop x)) ∧ Ext σ (upd σ h.next ⟨w.heap.size, 0, 0⟩) := by
  have hx : Ext σ (upd σ h.next ⟨w.heap.size, 0, 0⟩) := .upd _ (H.dom _ (Nat.le_refl _))
  have old : ∀ k, k < w.heap.size → (w.alloc (.loop x)).heap[k]? = w.heap[k]? := fun k hk => Below.heap_alloc _ _ _ hk
  have σold : ∀ i c c', σ i = some c → upd σ h.next ⟨w.heap.size, 0, 0⟩ i = some c' → c' = c := fun i c c' h1 h2 => by
    rw [hx _ _ h1] at h2
    cases h2
    rfl
  refine ⟨⟨fun i hi => ?_, H.srt, fun y hy => ?_, fun i d hd => ?_, fun i j d d' c c' hij hd hd' hc hc' hbk hw => ?_, fun l r hlr => ?_, fun l l' r r' c c' hne hl hl' hc hc' => ?_⟩, hx⟩
  · have hi' : h.next + 1 ≤ i := hi
    rw [upd_other _ _ _ _ (by omega)]; exact H.dom i (by omega)
  · have := H.chn y hy
    exact ⟨this.1, Nat.lt_succ_of_lt this.2⟩
  · obtain ⟨c, cs, e, fz, a1, a2, a3, a4, a5, a6⟩ := H.cel i d hd
    refine ⟨c, cs, e, fz, hx _ _ a1, by rw [old _ (lt_of_heap a2)]; exact a2, a3, a4, fun j a ha => ?_, a6⟩
    obtain ⟨v, g1, g2⟩ := a5 j a ha
    exact ⟨v, g1, g2.ext hx⟩
  · obtain ⟨c1, _, _, _, a1, _⟩ := H.cel i d hd
    obtain ⟨c2, _, _, _, b1, _⟩ := H.cel j d' hd'
    obtain rfl := σold _ _ _ a1 hc
    obtain rfl := σold _ _ _ b1 hc'
    exact H.al i j d d' _ _ hij hd hd' a1 b1 hbk hw
  · have hlr' := hlr
    rw [lkL_cons] at hlr'
    split at hlr'
    · rename_i e
      subst e
      cases hlr'
      exact ⟨_, x, upd_same _ _ _, heap_alloc_new w _, h1, h2, h3, h4, h5, h6.ext hx, hb, h7⟩
    · obtain ⟨c, y, a1, a2, a3, a4, a5, a6, a7, a8, a9, a10⟩ := H.lps l r hlr'
      exact ⟨c, y, hx _ _ a1, by rw [old _ (lt_of_heap a2)]; exact a2, a3, a4, a5, a6, a7, a8.ext hx, a9, a10⟩
  · have g1 := hl
    have g2 := hl'
    rw [lkL_cons] at g1 g2
    split at g1
    · rename_i e
      subst e
      rw [if_neg (fun e => hne e.symm)] at g2
      obtain ⟨c2, _, b1, b2, _⟩ := H.lps l' r' g2
      obtain rfl := σold _ _ _ b1 hc'
      rw [upd_same] at hc
      cases hc
      have := lt_of_heap b2
      simp only
      omega
    · obtain ⟨c1, _, a1, a2, _⟩ := H.lps l r g1
      obtain rfl := σold _ _ _ a1 hc
      split at g2
      · rename_i e
        subst e
        rw [upd_same] at hc'
        cases hc'
        have := lt_of_heap a2
        simp only
        omega
      · obtain ⟨c2, _, b1, _⟩ := H.lps l' r' g2
        obtain rfl := σold _ _ _ b1 hc'
        exact H.lal l l' r r' _ _ hne g1 g2 a1 b1

/-- The world with another object in a block. -/
def World.setO (w : World) (b : Nat) (o : Obj) : World := { w with heap := w.heap.setIfInBounds b o }

theorem setO_size (w : World) (b : Nat) (o : Obj) : (World.setO w b o).heap.size = w.heap.size := by simp [World.setO]
theorem setO_same (w : World) (b : Nat) (o : Obj) (h : b < w.heap.size) : (World.setO w b o).heap[b]? = some o := by simp [World.setO, Array.getElem?_setIfInBounds_self_of_lt h]
theorem setO_other (w : World) (b k : Nat) (o : Obj) (h : k ≠ b) : (World.setO w b o).heap[k]? = w.heap[k]? := by simp [World.setO, Array.getElem?_setIfInBounds_ne (fun e => h e.symm)]

theorem lkL_setL : ∀ (l : List (Nat × LoopA)) (i : Nat) (b : LoopA) (j : Nat), lkL (setL l i b) j = if j = i then (if (lkL l i).isSome then some b else none) else lkL l j
  | [], i, b, j => by simp [setL, lkL]
  | (k, x) :: r, i, b, j => by
    by_cases hk : k = i
    · subst hk
      simp only [setL, Nat.beq_refl, cond_true, lkL_cons]
      by_cases hj : j = k
      · simp [hj]
      · simp [hj]
    · simp only [setL, nb hk, cond_false, lkL_cons, lkL_setL r i b j]
      by_cases hj : j = k
      · subst hj; simp [hk]
      · by_cases hji : j = i
        · subst hji; simp [hj]
        · simp [hj, hji]

theorem lkL_delL : ∀ (l : List (Nat × LoopA)) (i j : Nat), lkL (delL l i) j = if j = i then none else lkL l j
  | [], i, j => by simp [delL, lkL]
  | (k, x) :: r, i, j => by
    by_cases hk : k = i
    · subst hk
      simp only [delL, Nat.beq_refl, cond_true, lkL_cons, lkL_delL r k j]
      by_cases hj : j = k <;> simp [hj]
    · simp only [delL, nb hk, cond_false, lkL_cons, lkL_delL r i j]
      by_cases hj : j = k
      · subst hj; simp [hk]
      · rw [if_neg hj, if_neg hj]

/-- A loop's record turns; or it is forgotten. -/
theorem HR.setLoop (H : HR σ base h w) {l : Nat} {r : LoopA} (hl : lkL h.loops l = some r) {c : Loc} (hc : σ l = some c) {x : Loop} (hx : w.heap[c.blk]? = some (.loop x)) {y : Loop} {ls : List (Nat × LoopA)}
    (hls : ∀ j r', lkL ls j = some r' → (j ≠ l ∧ lkL h.loops j = some r') ∨ (j = l ∧ y.params = r'.ps ∧ y.assign = r'.assign ∧ y.body = r'.body ∧ y.state = (match r'.st with | 0 => .ready | 1 => .busy | 2 => .done | _ => .exhausted) ∧
      y.pending = r'.jump.map (fun j => match j with | none => .ret | some id => .exit id) ∧ FR σ r'.n (lkF r'.fr) y.tmps ∧ KP r'.keep r'.fr)) :
    HR σ base { h with loops := ls } (World.setO w c.blk (.loop y)) ∧ Fw base w (World.setO w c.blk (.loop y)) := by
  obtain ⟨c0, x0, b1, b2, _, _, _, _, _, _, b9, _⟩ := H.lps l r hl
  rw [hc] at b1
  cases b1
  have hlt := lt_of_heap hx
  refine ⟨⟨H.dom, H.srt, H.chn, fun i d hd => ?_, H.al, fun j r' hj => ?_, fun j j' r1 r2 c1 c2 hne h1 h2 hc1 hc2 => ?_⟩, ⟨rfl, rfl, rfl, by rw [setO_size]; exact Nat.le_refl _, fun k hk => setO_other _ _ _ _ (by omega)⟩, fun k ds hk => ?_, fun k z hk => ?_⟩
  · obtain ⟨c1, cs, e, fz, a1, a2, a3⟩ := H.cel i d hd
    exact ⟨c1, cs, e, fz, a1, by rw [setO_other _ _ _ _ (fun e => by rw [e, hx] at a2; cases a2)]; exact a2, a3⟩
  · rcases hls j r' hj with ⟨h1, h2⟩ | ⟨rfl, h1, h2, h3, h4, h5, h6, h7⟩
    · obtain ⟨c1, x1, a1, a2, a3⟩ := H.lps j r' h2
      refine ⟨c1, x1, a1, ?_, a3⟩
      rw [setO_other _ _ _ _ (H.lal j l r' r c1 c h1 h2 hl a1 hc)]
      exact a2
    · exact ⟨c, y, hc, setO_same _ _ _ hlt, h1, h2, h3, h4, h5, h6, b9, h7⟩
  · have g1 : ∃ q, lkL h.loops j = some q := by
      rcases hls j r1 h1 with ⟨_, h⟩ | ⟨rfl, _⟩
      · exact ⟨_, h⟩
      · exact ⟨_, hl⟩
    have g2 : ∃ q, lkL h.loops j' = some q := by
      rcases hls j' r2 h2 with ⟨_, h⟩ | ⟨rfl, _⟩
      · exact ⟨_, h⟩
      · exact ⟨_, hl⟩
    obtain ⟨q1, g1⟩ := g1
    obtain ⟨q2, g2⟩ := g2
    exact H.lal j j' q1 q2 c1 c2 hne g1 g2 hc1 hc2
  · rw [setO_other _ _ _ _ (fun e => by rw [e, hx] at hk; cases hk)]
    exact hk
  · by_cases e : k = c.blk
    · subst e; exact ⟨y, setO_same _ _ _ hlt⟩
    · exact ⟨z, by rw [setO_other _ _ _ _ e]; exact hk⟩

end
end Go.Abs
