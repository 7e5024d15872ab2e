/- Regions whose order is drawn (3): whatever the order, the outcome is that of the text. Regions whose order is drawn (4): the whole region. Statements, calls, rounds: the interpreter is sound. -/
import Derived.Test.YtbomimhfldmlbaaDoorP
set_option linter.unusedSimpArgs false
set_option linter.unusedVariables false
namespace Go.Abs
open Go Go.RowKit

section
variable {P : Program} {call : CallF} {n : Nat} {ops : Array Oper} {fr : Fr} {rs : List Rec} {tm' : Fr} {h' : Hp}

/-- The order of the text, recorded. -/
structure Tr (P : Program) (call : CallF) (n : Nat) (ops : Array Oper) (fr : Fr) (h0 : Hp) (rs : List Rec) (tm' : Fr) (h' : Hp) : Prop where
  len : rs.length = ops.size
  tm0 : TM rs tm' 0 = []
  ha0 : HA rs h' 0 = h0
  step : ∀ (k : Nat) (r : Rec), rs[k]? = some r → Step1 P call n ops fr rs tm' h' 0 k r

theorem Tr.mk' {h0 : Hp} (hs : traceOps P call n ops fr ops.toList [] h0 = some (rs, tm', h')) : Tr P call n ops fr h0 rs tm' h' := by
  obtain ⟨h1, h2, h3, h4⟩ := trace_spec ops.toList 0 [] h0 rs tm' h' (by simp) hs
  exact ⟨by simpa using h1, h2, h3, h4⟩

variable {h0 : Hp}

theorem Tr.get (T : Tr P call n ops fr h0 rs tm' h') {i : Nat} (hi : i < ops.size) : ∃ r, rs[i]? = some r ∧ ops[i]? = some r.o := by
  have hl : i < rs.length := by rw [T.len]; exact hi
  refine ⟨rs[i], List.getElem?_eq_getElem hl, ?_⟩
  have := (T.step i rs[i] (List.getElem?_eq_getElem hl)).op
  simpa using this

theorem Tr.op (T : Tr P call n ops fr h0 rs tm' h') {i : Nat} {r : Rec} (hr : rs[i]? = some r) : ops[i]? = some r.o := by
  simpa using (T.step i r hr).op

theorem HA_of {i : Nat} {r : Rec} (hr : rs[i]? = some r) : HA rs h' i = r.h := by simp [HA, hr]
theorem TM_of {i : Nat} {r : Rec} (hr : rs[i]? = some r) : TM rs tm' i = r.tm := by simp [TM, hr]

theorem Tr.quiet (T : Tr P call n ops fr h0 rs tm' h') {i : Nat} {r : Rec} (hr : rs[i]? = some r) (he : isEff r.o = false) : HA rs h' (i + 1) = HA rs h' i := by
  rw [HA_of hr]
  cases hw : r.w
  · exact ((T.step i r hr).no hw).2.2
  · exact exec1_quiet r.o he ((T.step i r hr).yes hw).2

/-- No operation that may change the heap between a and b. -/
def Calm (rs : List Rec) (a b : Nat) : Prop := ∀ d r, a ≤ d → d < b → rs[d]? = some r → isEff r.o = false

theorem Tr.calm (T : Tr P call n ops fr h0 rs tm' h') : ∀ (k a : Nat), a + k ≤ ops.size → Calm rs a (a + k) → HA rs h' (a + k) = HA rs h' a
  | 0, a, _, _ => rfl
  | k + 1, a, hk, hc => by
    have ih := T.calm k a (by omega) (fun d r h1 h2 => hc d r h1 (by omega))
    obtain ⟨r, hr, _⟩ := T.get (i := a + k) (by omega)
    rw [← ih, ← T.quiet hr (hc _ r (by omega) (by omega) hr)]
    rfl

theorem Tr.calm' (T : Tr P call n ops fr h0 rs tm' h') {a b : Nat} (h1 : a ≤ b) (h2 : b ≤ ops.size) (hc : Calm rs a b) : HA rs h' b = HA rs h' a := by
  have := T.calm (b - a) a (by omega) (by rw [show a + (b - a) = b by omega]; exact hc)
  rw [show a + (b - a) = b by omega] at this
  exact this

/-- The next operation that may change the heap, from j on, or the end. -/
theorem next_eff (hl : rs.length = ops.size) : ∀ (k j : Nat), j + k = ops.size → ∃ q, j ≤ q ∧ q ≤ ops.size ∧ Calm rs j q ∧ (q = ops.size ∨ ∃ r, rs[q]? = some r ∧ isEff r.o = true)
  | 0, j, h => ⟨j, Nat.le_refl _, by omega, fun d r h1 h2 => by omega, .inl (by omega)⟩
  | k + 1, j, h => by
    have hj : j < rs.length := by omega
    cases he : isEff rs[j].o
    · obtain ⟨q, h1, h2, h3, h4⟩ := next_eff hl k (j + 1) (by omega)
      refine ⟨q, by omega, h2, fun d r g1 g2 hr => ?_, h4⟩
      by_cases hd : d = j
      · subst hd
        rw [List.getElem?_eq_getElem hj] at hr
        cases hr
        exact he
      · exact h3 d r (by omega) g2 hr
    · exact ⟨j, Nat.le_refl _, by omega, fun d r h1 h2 => by omega, .inr ⟨_, List.getElem?_eq_getElem hj, he⟩⟩

theorem effHeaps_mem : ∀ (l : List Rec) (i k : Nat) (r : Rec), l[k]? = some r → isEff r.o = true → (i + k, r.h) ∈ effHeaps l i
  | [], i, k, r, h, _ => by simp at h
  | x :: l, i, k, r, h, he => by
    cases k with
    | zero =>
      simp only [List.getElem?_cons_zero, Option.some.injEq] at h
      subst h
      simp [effHeaps, he]
    | succ k =>
      simp only [List.getElem?_cons_succ] at h
      have := effHeaps_mem l (i + 1) k r h he
      rw [show i + 1 + k = i + (k + 1) by omega] at this
      cases hx : isEff x.o <;> simp [effHeaps, hx, this]

theorem effHeaps_of : ∀ (l : List Rec) (i : Nat) (x : Nat × Hp), x ∈ effHeaps l i → ∃ k r, x.1 = i + k ∧ l[k]? = some r ∧ isEff r.o = true
  | [], i, x, h => by simp [effHeaps] at h
  | y :: l, i, x, h => by
    simp only [effHeaps] at h
    cases hy : isEff y.o
    · simp only [hy, cond_false] at h
      obtain ⟨k, r, e1, e2, e3⟩ := effHeaps_of l (i + 1) x h
      exact ⟨k + 1, r, by omega, by simpa using e2, e3⟩
    · simp only [hy, cond_true] at h
      rcases List.mem_cons.1 h with rfl | h
      · exact ⟨0, y, rfl, rfl, hy⟩
      · obtain ⟨k, r, e1, e2, e3⟩ := effHeaps_of l (i + 1) x h
        exact ⟨k + 1, r, by omega, by simpa using e2, e3⟩

theorem readsOK_at {cl : List Nat} {hs : List (Nat × Hp)} : ∀ (l : List Rec) (i k : Nat) (r : Rec), readsOK P call ops fr cl hs l i = true → l[k]? = some r → r.w = true → isRead r.o = true →
    ∀ x ∈ hs, rdSkip cl (hs.map (·.1)) (i + k) x.1 = true ∨ ∃ h1, exec1 P call (msk (reads ops r.o) (look r.tm fr)) x.2 r.o = some (r.v, h1)
  | [], i, k, r, _, h, _, _ => by simp at h
  | y :: l, i, k, r, hok, h, hw, hr => by
    simp only [readsOK, Bool.and_eq_true] at hok
    cases k with
    | zero =>
      simp only [List.getElem?_cons_zero, Option.some.injEq] at h
      subst h
      intro x hx
      have h1 := hok.1
      simp only [hw, hr, Bool.and_self, Bool.not_true, Bool.false_or, List.all_eq_true] at h1
      have h2 := h1 x hx
      simp only [Bool.or_eq_true] at h2
      rcases h2 with h2 | h2
      · exact .inl h2
      · right
        split at h2
        · rename_i v h3 he
          rw [AV.beq_eq h2] at he
          exact ⟨h3, he⟩
        · cases h2
    | succ k =>
      simp only [List.getElem?_cons_succ] at h
      have := readsOK_at l (i + 1) k r hok.2 h hw hr
      rw [show i + 1 + k = i + (k + 1) by omega] at this
      exact this

/-- What a slot holds in the order of the text before operation k. -/
theorem Tr.text (T : Tr P call n ops fr h0 rs tm' h') (t : Nat) : ∀ k, k ≤ ops.size →
    (∃ d r, d < k ∧ rs[d]? = some r ∧ r.o.dst = some t ∧ look (TM rs tm' k) fr t = r.v) ∨ ((∀ d r, d < k → rs[d]? = some r → r.o.dst ≠ some t) ∧ look (TM rs tm' k) fr t = lkF fr t)
  | 0, _ => .inr ⟨fun d r h => by omega, by rw [T.tm0]; rfl⟩
  | k + 1, hk => by
    obtain ⟨r, hr, _⟩ := T.get (i := k) (by omega)
    have hs := (T.step k r hr).tm t
    have ht := TM_of (tm' := tm') hr
    by_cases hd : r.o.dst = some t
    · rw [if_pos hd] at hs
      exact .inl ⟨k, r, by omega, hr, hd, hs⟩
    · rw [if_neg hd, ← ht] at hs
      rcases T.text t k (by omega) with ⟨d, r', h1, h2, h3, h4⟩ | ⟨h1, h2⟩
      · exact .inl ⟨d, r', by omega, h2, h3, by rw [hs, h4]⟩
      · refine .inr ⟨fun d r' hlt hr' => ?_, by rw [hs, h2]⟩
        by_cases e : d = k
        · subst e
          rw [hr] at hr'
          cases hr'
          exact hd
        · exact h1 d r' (by omega) hr'

/-- What a slot holds when the operations in L have been carried out. -/
def Val (rs : List Rec) (fr : Fr) (L : Nat → Bool) (t : Nat) (v : AV) : Prop :=
  (∃ d r, rs[d]? = some r ∧ L d = true ∧ r.o.dst = some t ∧ v = r.v) ∨ ((∀ d r, rs[d]? = some r → r.o.dst = some t → L d = false) ∧ v = lkF fr t)

/-- A new variable that has come up before its place in the text. -/
def Pd (rs : List Rec) (L : Nat → Bool) (j d : Nat) (r : Rec) : Prop := rs[d]? = some r ∧ r.w = true ∧ isEff r.o = true ∧ j ≤ d ∧ L d = true

/-- Nobody may change it. -/
def pend (base : Prot) (rs : List Rec) (L : Nat → Bool) (A : Nat → Nat) (j : Nat) : Prot := ⟨fun k => base.s k ∨ ∃ d r, Pd rs L j d r ∧ A d = k, base.ro⟩

/-- Of those that may change the heap, the ones before j have been carried out; behind it only new variables. -/
structure Stg (base : Prot) (fr : Fr) (rs : List Rec) (h' : Hp) (b0 : Nat) (L : Nat → Bool) (σ : Env) (a : Act) (w : World) (sz j : Nat) (A : Nat → Nat) : Prop where
  le : j ≤ sz
  bef : ∀ d r, rs[d]? = some r → isEff r.o = true → d < j → L d = true
  aft : ∀ d r, rs[d]? = some r → isEff r.o = true → j ≤ d → L d = true → isFloat r.o = true
  hr : HR σ (pend base rs L A j) (HA rs h' j) w
  pen : ∀ d r, Pd rs L j d r → b0 ≤ A d ∧ ∃ vs e cells, w.heap[A d]? = some (.cells vs e (0, 0)) ∧ Rs σ cells vs.toList ∧ HA rs h' (d + 1) = ((HA rs h' d).new cells).2 ∧
    ∀ t, r.o.dst = some t → ∀ τ : Env, τ (HA rs h' d).next = some ⟨A d, 0, vs.size⟩ → R τ r.v (a.tmps.getD t undef)
  inj : ∀ d r d' r', Pd rs L j d r → Pd rs L j d' r' → A d = A d' → d = d'
  val : ∀ t v, (∀ d r, Pd rs L j d r → r.o.dst ≠ some t) → Val rs fr L t v → R σ v (a.tmps.getD t undef)

/-- The state of affairs when the operations in L have been carried out. -/
structure Inv (base : Prot) (σ0 : Env) (n : Nat) (ops : Array Oper) (cl : List Nat) (fr : Fr) (rs : List Rec) (h' : Hp) (w0 : World) (df : List Deferred) (L : Nat → Bool) (σ : Env) (a : Act) (w : World) : Prop where
  clo : ∀ i, i < ops.size → L i = true → ∀ j, Nat.testBit (cl.getD i 0) j = true → L j = true
  size : a.tmps.size = n
  stage : ∃ j A, Stg base fr rs h' w0.heap.size L σ a w ops.size j A
  ext : Ext σ0 σ
  fw : Fw base w0 w
  dfs : a.defers = df

theorem Pd.up {L : Nat → Bool} {j d : Nat} {r : Rec} (h : Pd rs L (j + 1) d r) : Pd rs L j d r := ⟨h.1, h.2.1, h.2.2.1, by have := h.2.2.2.1; omega, h.2.2.2.2⟩

theorem pend_fr {base : Prot} {L : Nat → Bool} {A : Nat → Nat} {j k : Nat} (h : (pend base rs L A j).fr k) : (pend base rs L A (j + 1)).fr k := fun hs => h (hs.imp id fun ⟨d, r, hp, e⟩ => ⟨d, r, hp.up, e⟩)

/-- The new variables whose turn has come join, up to the first operation that may change the heap and hasn't been carried out. -/
theorem Stg.adv {cl : List Nat} {base : Prot} {b0 : Nat} {L : Nat → Bool} {a : Act} {w : World} {A : Nat → Nat} (O : Ord ops cl) (T : Tr P call n ops fr h0 rs tm' h') (hbr : ∀ k, base.ro k → k < b0) (hbf : base.fit b0) :
    ∀ (k j : Nat) (σ : Env), j + k = ops.size → Stg base fr rs h' b0 L σ a w ops.size j A →
    ∃ q τ, Ext σ τ ∧ Stg base fr rs h' b0 L τ a w ops.size q A ∧ (q = ops.size ∨ ∃ r, rs[q]? = some r ∧ isEff r.o = true ∧ L q = false)
  | 0, j, σ, hj, S => ⟨j, σ, .refl _, S, .inl (by omega)⟩
  | k + 1, j, σ, hj, S => by
    obtain ⟨r, hr, ho⟩ := T.get (i := j) (by omega)
    -- nothing happens here
    have pass : (∀ d rd, Pd rs L j d rd → d ≠ j) → HA rs h' (j + 1) = HA rs h' j → (isEff r.o = true → L j = true) →
        ∃ q τ, Ext σ τ ∧ Stg base fr rs h' b0 L τ a w ops.size q A ∧ (q = ops.size ∨ ∃ r, rs[q]? = some r ∧ isEff r.o = true ∧ L q = false) := fun ne hq hLj => by
      have S' : Stg base fr rs h' b0 L σ a w ops.size (j + 1) A := {
        le := by omega
        bef := fun d rd hd hed hlt => by
          by_cases e : d = j
          · subst e; rw [hr] at hd; cases hd; exact hLj hed
          · exact S.bef d rd hd hed (by omega)
        aft := fun d rd h1 h2 h3 h4 => S.aft d rd h1 h2 (by omega) h4
        hr := by rw [hq]; exact S.hr.prot (fun _ _ h => pend_fr h) (fun _ _ h => h)
        pen := fun d rd hp => S.pen d rd hp.up
        inj := fun d rd d' rd' hp hp' => S.inj d rd d' rd' hp.up hp'.up
        val := fun t v hno hv => S.val t v (fun d rd hp => hno d rd ⟨hp.1, hp.2.1, hp.2.2.1, by have := hp.2.2.2.1; have := ne d rd hp; omega, hp.2.2.2.2⟩) hv }
      exact S'.adv O T hbr hbf k (j + 1) σ (by omega)
    cases he : isEff r.o
    · refine pass (fun d rd hp e => ?_) (T.quiet hr he) (fun h => by rw [he] at h; cases h)
      subst e
      have := hp.1
      rw [hr] at this
      cases this
      have h2 := hp.2.2.1
      rw [he] at h2
      cases h2
    · cases hL : L j
      · exact ⟨j, σ, .refl _, S, .inr ⟨r, hr, he, hL⟩⟩
      · cases hw : r.w
        · refine pass (fun d rd hp e => ?_) (by rw [HA_of hr]; exact ((T.step j r hr).no hw).2.2) (fun _ => hL)
          subst e
          have := hp.1
          rw [hr] at this
          cases this
          have h2 := hp.2.1
          rw [hw] at h2
          cases h2
        have hp : Pd rs L j j r := ⟨hr, hw, he, Nat.le_refl _, hL⟩
        obtain ⟨hb, vs, e, cells, hg, hrs, hh, htm⟩ := S.pen j r hp
        obtain ⟨H', hx⟩ := S.hr.adopt (base' := pend base rs L A (j + 1)) hg (fun hs => by
          rcases hs with hs | ⟨d, rd, hd, e⟩
          · have := hbf _ hs; omega
          · have := S.inj d rd j r hd.up hp e
            have := hd.2.2.2.1
            omega) (.inr ⟨j, r, hp, rfl⟩) (fun h => by have := hbr _ h; omega) (fun _ h => pend_fr h) (fun _ h => h) hrs
        rw [← hh] at H'
        have S' : Stg base fr rs h' b0 L (upd σ (HA rs h' j).next ⟨A j, 0, vs.size⟩) a w ops.size (j + 1) A := {
          le := by omega
          bef := fun d rd hd hed hlt => by
            by_cases e : d = j
            · subst e; exact hL
            · exact S.bef d rd hd hed (by omega)
          aft := fun d rd h1 h2 h3 h4 => S.aft d rd h1 h2 (by omega) h4
          hr := H'
          pen := fun d rd hp => by
            obtain ⟨p1, vs', e', cells', p2, p3, p4⟩ := S.pen d rd hp.up
            exact ⟨p1, vs', e', cells', p2, p3.ext hx, p4⟩
          inj := fun d rd d' rd' hp hp' => S.inj d rd d' rd' hp.up hp'.up
          val := fun t v hno hvv => by
            by_cases hd : r.o.dst = some t
            · have : v = r.v := by
                rcases hvv with ⟨d, rd, h1, h2, h3, h4⟩ | ⟨h1, _⟩
                · by_cases hdj : d = j
                  · subst hdj; rw [hr] at h1; cases h1; exact h4
                  · exact absurd hd (O.one ho (T.op h1) (fun e => hdj e.symm) h3).1
                · have := h1 j r hr hd
                  rw [hL] at this
                  cases this
              rw [this]
              exact htm t hd _ (upd_same _ _ _)
            · refine (S.val t v (fun d rd hpd => ?_) hvv).ext hx
              by_cases hdj : d = j
              · subst hdj
                have := hpd.1
                rw [hr] at this
                cases this
                exact hd
              · exact hno d rd ⟨hpd.1, hpd.2.1, hpd.2.2.1, by have := hpd.2.2.2.1; omega, hpd.2.2.2.2⟩ }
        obtain ⟨q, τ, h1, h2, h3⟩ := S'.adv O T hbr hbf k (j + 1) _ (by omega)
        exact ⟨q, τ, hx.trans h1, h2, h3⟩

theorem FR_msk {σ : Env} {l : List Nat} {f : Nat → AV} {tmps : Array Value} (hs : tmps.size = n) (h : ∀ t ∈ l, R σ (f t) (tmps.getD t undef)) : FR σ n (msk l f) tmps := by
  refine ⟨hs, fun t => ?_⟩
  unfold msk
  cases he : l.elem t
  · simp [R_any]
  · simp only [cond_true]
    exact h t (List.mem_of_elem_eq_true he)

section
variable {cl : List Nat} {base : Prot} {σ0 : Env} {w0 : World} {df : List Deferred}

/-- One operation in some order. -/
theorem draw_step (hcall : CallOK P call) (O : Ord ops cl) (T : Tr P call n ops fr h0 rs tm' h') (hro : (∀ (d : Nat) (r : Rec), rs[d]? = some r → isEff r.o = false) ∨ readsOK P call ops fr cl (effHeaps rs 0 ++ [(ops.size, h')]) rs 0 = true)
    {L : Nat → Bool} {σ : Env} {a : Act} {w : World} (hb : base.fit w0.heap.size) (hbr : ∀ k, base.ro k → k < w0.heap.size) (I : Inv base σ0 n ops cl fr rs h' w0 df L σ a w) {i : Nat} (hi : i < ops.size) (hL : L i = false)
    (hready : ∀ o, ops[i]? = some o → ∀ e ∈ o.after.toList, Region.binds .any e = true → L e.on = true) {r : Option Nat} {N : Nat} {K : Act → World → Prop} {Q : Exit → Act → World → Prop}
    (hK : ∀ τ a' w', Inv base σ0 n ops cl fr rs h' w0 df (fun d => L d || d == i) τ a' w' → K a' w') : wpOpIn (Wd r) N P ops Q i K a w := by
  obtain ⟨rc, hrc, ho⟩ := T.get hi
  have S := T.step i rc hrc
  have lts : ∀ d (rd : Rec), rs[d]? = some rd → d < ops.size := fun d rd h => by
    rw [← T.len]
    exact (List.getElem?_eq_some_iff.1 h).1
  -- all that must come before has come
  have before : ∀ j, Nat.testBit (cl.getD i 0) j = true → L j = true := fun j hj => by
    obtain ⟨e, he, hbd, h⟩ := O.clo ho hj
    have h1 := hready rc.o ho e he hbd
    rcases h with h | h
    · rw [← h]; exact h1
    · exact I.clo e.on (by have := O.edge ho e he hbd; omega) h1 j h
  have notBefore : ∀ d rd, rs[d]? = some rd → Nat.testBit (cl.getD d 0) i = true → L d = false := fun d rd hd hbit => by
    cases hLd : L d
    · rfl
    · rw [I.clo d (lts d rd hd) hLd i hbit] at hL
      cases hL
  obtain ⟨j0, A, Sg0⟩ := I.stage
  obtain ⟨q, σ1, hx1, Sg, hq⟩ := Sg0.adv O T hbr hb (ops.size - j0) j0 σ (by have := Sg0.le; omega)
  -- no slot that it reads is pending
  have nopend : ∀ t ∈ reads ops rc.o, ∀ d rd, Pd rs L q d rd → rd.o.dst ≠ some t := fun t ht d rd hp hdst => by
    rcases hq with rfl | ⟨rq, g1, g2, g3⟩
    · have := lts d rd hp.1
      have := hp.2.2.2.1
      omega
    · have hne : q ≠ d := fun e => by
        rw [e, hp.2.2.2.2] at g3
        cases g3
      have := before q (O.flo (T.op hp.1) (T.op g1) ho (Sg.aft d rd hp.1 hp.2.2.1 hp.2.2.2.1 hp.2.2.2.2) hdst ht g2 (by have := hp.2.2.2.1; omega))
      rw [g3] at this
      cases this
  -- what it reads is there
  have hval : ∀ t ∈ reads ops rc.o, R σ1 (look rc.tm fr t) (a.tmps.getD t undef) := fun t ht => by
    refine Sg.val t _ (nopend t ht) ?_
    have htx := T.text t i (by omega)
    rw [TM_of hrc] at htx
    rcases htx with ⟨d, rd, h1, h2, h3, h4⟩ | ⟨h1, h2⟩
    · refine .inl ⟨d, rd, h2, ?_, h3, h4⟩
      have hone := (O.one ho (T.op h2) (by omega) h3).2 ht
      rcases hone with h5 | h5
      · exact before d h5
      · have := O.lt d (T.op h2) h5
        omega
    · refine .inr ⟨fun d rd hd hdst => ?_, h2⟩
      by_cases hdi : d = i
      · subst hdi; exact hL
      · have hge : ¬ d < i := fun hlt => h1 d rd hlt hd hdst
        have hone := (O.one ho (T.op hd) (fun e => hdi e.symm) hdst).2 ht
        rcases hone with h5 | h5
        · have := O.lt i ho h5
          omega
        · exact notBefore d rd hd h5
  have hf : FR σ1 n (msk (reads ops rc.o) (look rc.tm fr)) a.tmps := FR_msk I.size hval
  -- what comes behind
  have go : ∀ u τ w' j' A', Ext σ1 τ → Fw base w w' → Stg base fr rs h' w0.heap.size (fun d => L d || d == i) τ (a.put rc.o.dst u) w' ops.size j' A' → K (a.put rc.o.dst u) w' :=
    fun u τ w' j' A' hx hfw hS => hK τ _ w' {
      clo := fun k hk hLk j hj => by
        simp only [Bool.or_eq_true, beq_iff_eq] at hLk ⊢
        rcases hLk with hLk | rfl
        · exact .inl (I.clo k hk hLk j hj)
        · exact .inl (before j hj)
      size := by
        cases hd : rc.o.dst with
        | none => exact I.size
        | some d => simp [Act.put, I.size]
      stage := ⟨j', A', hS⟩
      ext := (I.ext.trans hx1).trans hx
      fw := I.fw.trans hfw
      dfs := by rw [Act.put_defers]; exact I.dfs }
  have putval : ∀ u τ, Ext σ1 τ → ∀ t v, (rc.o.dst = some t → R τ rc.v u) → (∀ d rd, Pd rs L q d rd → rd.o.dst ≠ some t) → Val rs fr (fun d => L d || d == i) t v → R τ v ((a.put rc.o.dst u).tmps.getD t undef) :=
    fun u τ hx t v hu hno hv => by
        by_cases hd : rc.o.dst = some t
        · -- the slot that it writes
          have htn := S.dst t hd
          have hv' : v = rc.v := by
            rcases hv with ⟨d, rd, h1, h2, h3, h4⟩ | ⟨h1, _⟩
            · by_cases hdi : d = i
              · subst hdi
                rw [hrc] at h1
                cases h1
                exact h4
              · exact absurd hd (O.one ho (T.op h1) (fun e => hdi e.symm) h3).1
            · have := h1 i rc hrc hd
              simp at this
          subst hv'
          have hu := hu hd
          rw [hd]
          simp only [Act.put, Array.getD_eq_getD_getElem?]
          rw [Array.getElem?_setIfInBounds_self_of_lt (by rw [I.size]; exact htn)]
          simpa using hu
        · have hold : Val rs fr L t v := by
            rcases hv with ⟨d, rd, h1, h2, h3, h4⟩ | ⟨h1, h2⟩
            · refine .inl ⟨d, rd, h1, ?_, h3, h4⟩
              simp only [Bool.or_eq_true, beq_iff_eq] at h2
              rcases h2 with h2 | rfl
              · exact h2
              · rw [hrc] at h1
                cases h1
                exact absurd h3 hd
            · refine .inr ⟨fun d rd g1 g2 => ?_, h2⟩
              have := h1 d rd g1 g2
              simp only [Bool.or_eq_false_iff] at this
              exact this.1
          have := (Sg.val t v hno hold).ext hx
          cases hdd : rc.o.dst with
          | none => exact this
          | some d =>
            have hne : d ≠ t := fun e => hd (by rw [hdd, e])
            simp only [Act.put, Array.getD_eq_getD_getElem?]
            rw [Array.getElem?_setIfInBounds_ne hne]
            simpa [Array.getD_eq_getD_getElem?] using this
  have pdi : ∀ d rd, Pd rs L q d rd → d ≠ i := fun d rd hp e => by
    have := hp.2.2.2.2
    rw [e, hL] at this
    cases this
  have putpen : ∀ u d rd, Pd rs L q d rd → ∀ t, rd.o.dst = some t → (a.put rc.o.dst u).tmps.getD t undef = a.tmps.getD t undef := fun u d rd hp t ht => by
    have h1 := (O.one ho (T.op hp.1) (fun e => pdi d rd hp e.symm) ht).1
    cases hdd : rc.o.dst with
    | none => rfl
    | some x =>
      have hne : x ≠ t := fun e => h1 (by rw [hdd, e])
      simp only [Act.put, Array.getD_eq_getD_getElem?]
      rw [Array.getElem?_setIfInBounds_ne hne]
  have hbw : base.fit w.heap.size := hb.le I.fw.bel.size
  have hpw : (pend base rs L A q).fit w.heap.size := fun k hk => by
    rcases hk with hk | ⟨d, rd, hp, rfl⟩
    · exact hbw k hk
    · obtain ⟨_, vs, e, cells, hg, _⟩ := Sg.pen d rd hp
      exact lt_of_heap hg
  have down : ∀ {w'}, Fw (pend base rs L A q) w w' → Fw base w w' := fun h => ⟨h.bel.mono fun _ h => .inl h, h.dfr, h.lop⟩
  -- when nothing becomes pending
  have stay : ∀ u τ w' j', R τ rc.v u → Ext σ1 τ → Fw (pend base rs L A q) w w' → j' ≤ ops.size → (∀ d rd, Pd rs (fun d => L d || d == i) j' d rd ↔ Pd rs L q d rd) →
      (∀ d rd, rs[d]? = some rd → isEff rd.o = true → d < j' → (L d || d == i) = true) → (∀ d rd, rs[d]? = some rd → isEff rd.o = true → j' ≤ d → (L d || d == i) = true → isFloat rd.o = true) →
      HR τ (pend base rs L A q) (HA rs h' j') w' → K (a.put rc.o.dst u) w' := fun u τ w' j' hu hx hfw hj hiff hbef haft hH =>
    go u τ w' j' A hx (down hfw) {
      le := hj
      bef := hbef
      aft := haft
      hr := hH.prot (fun k _ h hs => h (hs.imp id fun ⟨d, rd, hp, e⟩ => ⟨d, rd, (hiff d rd).1 hp, e⟩)) (fun _ _ h => h)
      pen := fun d rd hp => by
        have hp := (hiff d rd).1 hp
        obtain ⟨p1, vs, e, cells, p2, p3, p4, p6⟩ := Sg.pen d rd hp
        exact ⟨p1, vs, e, cells, by rw [hfw.bel.block _ (.inr ⟨d, rd, hp, rfl⟩)]; exact p2, p3.ext hx, p4, fun t ht => by rw [putpen u d rd hp t ht]; exact p6 t ht⟩
      inj := fun d rd d' rd' hp hp' => Sg.inj d rd d' rd' ((hiff d rd).1 hp) ((hiff d' rd').1 hp')
      val := fun t v hno hv => putval u τ hx t v (fun _ => hu) (fun d rd hp => hno d rd ((hiff d rd).2 hp)) hv }
  unfold wpOpIn
  rw [ho]
  simp only
  cases heff : isEff rc.o
  · -- it leaves the heap alone
    have hiff : ∀ d rd, Pd rs (fun d => L d || d == i) q d rd ↔ Pd rs L q d rd := fun d rd => by
      constructor
      · rintro ⟨p1, p0, p2, p3, p4⟩
        have hdi : d ≠ i := fun e => by subst e; rw [hrc] at p1; cases p1; rw [heff] at p2; cases p2
        exact ⟨p1, p0, p2, p3, by simpa [hdi] using p4⟩
      · rintro ⟨p1, p0, p2, p3, p4⟩
        exact ⟨p1, p0, p2, p3, by simp [p4]⟩
    have haft : ∀ d rd, rs[d]? = some rd → isEff rd.o = true → q ≤ d → (L d || d == i) = true → isFloat rd.o = true := fun d rd p1 p2 p3 p4 => by
      have hdi : d ≠ i := fun e => by subst e; rw [hrc] at p1; cases p1; rw [heff] at p2; cases p2
      exact Sg.aft d rd p1 p2 p3 (by simpa [hdi] using p4)
    have hbef : ∀ d rd, rs[d]? = some rd → isEff rd.o = true → d < q → (L d || d == i) = true := fun d rd h1 h2 h3 => by simp [Sg.bef d rd h1 h2 h3]
    cases hw : rc.w
    · obtain ⟨h1, h2, h3⟩ := S.no hw
      rw [if_neg (by rw [want_spec h1 hf]; simp)]
      exact ⟨fun _ _ => trivial, stay undef σ1 w q (by rw [h2]; exact R_undef) (.refl _) (.refl _ _) Sg.le hiff hbef haft Sg.hr⟩
    · obtain ⟨h1, h2⟩ := S.yes hw
      rw [if_pos (want_spec h1 hf)]
      -- its value at the heap that lies there now
      have hex : exec1 P call (msk (reads ops rc.o) (look rc.tm fr)) (HA rs h' q) rc.o = some (rc.v, HA rs h' q) := by
        rcases hro with hno | hok
        · have e1 : HA rs h' q = rc.h := by
            rw [← HA_of (h' := h') hrc]
            rcases Nat.le_total i q with h | h
            · exact T.calm' h Sg.le fun d rd _ _ hd => hno d rd hd
            · exact (T.calm' h (by omega) fun d rd _ _ hd => hno d rd hd).symm
          rw [e1]
          have h2' : exec1 P call (msk (reads ops rc.o) (look rc.tm fr)) rc.h rc.o = some (rc.v, HA rs h' (i + 1)) := h2
          rw [T.quiet hrc heff, HA_of hrc] at h2'
          exact h2'
        · cases hrd : isRead rc.o
          · exact exec1_indep rc.o heff hrd h2 _
          · have hmem : (q, HA rs h' q) ∈ effHeaps rs 0 ++ [(ops.size, h')] := by
              rcases hq with rfl | ⟨rq, g1, g2, _⟩
              · have : HA rs h' ops.size = h' := by simp [HA, List.getElem?_eq_none (show rs.length ≤ ops.size by rw [T.len]; exact Nat.le_refl _)]
                rw [this]
                simp
              · rw [HA_of g1]
                have := effHeaps_mem rs 0 q rq g1 g2
                rw [Nat.zero_add] at this
                simp [this]
            have hnb : ¬ Nat.testBit (cl.getD (0 + i) 0) q = true := fun hbit => by
              rw [Nat.zero_add] at hbit
              rcases hq with rfl | ⟨rq, g1, g2, g3⟩
              · have := O.lt i ho hbit
                omega
              · rw [before q hbit] at g3
                cases g3
            rcases readsOK_at rs 0 i rc hok hrc hw hrd _ hmem with h3 | ⟨h1', h3⟩
            · simp only [rdSkip, Bool.or_eq_true] at h3
              rcases h3 with h3 | h3
              · exact absurd h3 hnb
              · exfalso
                rw [Nat.zero_add] at h3
                obtain ⟨d, hd, hd2⟩ := List.any_eq_true.1 h3
                simp only [Bool.and_eq_true, Nat.blt_eq] at hd2
                obtain ⟨x, hx, rfl⟩ := List.mem_map.1 hd
                rcases List.mem_append.1 hx with hx | hx
                · obtain ⟨k, rk, k1, k2, k3⟩ := effHeaps_of rs 0 x hx
                  rw [Nat.zero_add] at k1
                  rw [k1] at hd2
                  have := Sg.bef k rk k2 k3 hd2.1
                  rw [notBefore k rk k2 hd2.2] at this
                  cases this
                · simp only [List.mem_singleton] at hx
                  subst hx
                  have := hd2.1
                  have := Sg.le
                  simp only at this hd2
                  omega
            · have := exec1_quiet rc.o heff h3
              subst this
              exact h3
      exact exec1_sound hcall Sg.hr hpw hf hex fun u w' τ q1 q2 q3 q4 => stay u τ w' q q1 q2 q4 Sg.le hiff hbef haft q3
  · -- it may change the heap
    have hqi : q ≤ i := by
      rcases Nat.lt_or_ge i q with h | h
      · have := Sg.bef i rc hrc heff h
        rw [hL] at this
        cases this
      · exact h
    cases hfl : isFloat rc.o
    · -- those before it have come, and those behind it have not, but for new variables
      have hiq : q = i := by
        rcases hq with rfl | ⟨rq, g1, g2, g3⟩
        · omega
        · rcases Nat.lt_or_ge q i with h | h
          · have := before q (O.eff ho (T.op g1) heff g2 h hfl)
            rw [g3] at this
            cases this
          · omega
      have e1 : HA rs h' q = rc.h := by rw [hiq]; exact HA_of hrc
      have hH := Sg.hr
      rw [e1] at hH
      have hiff : ∀ d rd, Pd rs (fun d => L d || d == i) (i + 1) d rd ↔ Pd rs L q d rd := fun d rd => by
        constructor
        · rintro ⟨p1, p0, p2, p3, p4⟩
          have hdi : d ≠ i := by omega
          exact ⟨p1, p0, p2, by omega, by simpa [hdi] using p4⟩
        · intro hp
          have := pdi d rd hp
          have := hp.2.2.2.1
          exact ⟨hp.1, hp.2.1, hp.2.2.1, by omega, by simp [hp.2.2.2.2]⟩
      have haft : ∀ d rd, rs[d]? = some rd → isEff rd.o = true → i + 1 ≤ d → (L d || d == i) = true → isFloat rd.o = true := fun d rd p1 p2 p3 p4 => by
        have hdi : d ≠ i := by omega
        exact Sg.aft d rd p1 p2 (by omega) (by simpa [hdi] using p4)
      have hbef : ∀ d rd, rs[d]? = some rd → isEff rd.o = true → d < i + 1 → (L d || d == i) = true := fun d rd h1 h2 h3 => by
        by_cases e : d = i
        · simp [e]
        · simp [Sg.bef d rd h1 h2 (by omega)]
      cases hw : rc.w
      · obtain ⟨h1, h2, h3⟩ := S.no hw
        rw [if_neg (by rw [want_spec h1 hf]; simp)]
        refine ⟨fun _ _ => trivial, stay undef σ1 w (i + 1) (by rw [h2]; exact R_undef) (.refl _) (.refl _ _) (by omega) hiff hbef haft ?_⟩
        rw [h3]
        exact hH
      · obtain ⟨h1, h2⟩ := S.yes hw
        rw [if_pos (want_spec h1 hf)]
        exact exec1_sound hcall hH hpw hf h2 fun u w' τ q1 q2 q3 q4 => stay u τ w' (i + 1) q1 q2 q4 (by omega) hiff hbef haft q3
    · -- a new variable: it waits
      have hbef : ∀ d rd, rs[d]? = some rd → isEff rd.o = true → d < q → (L d || d == i) = true := fun d rd h1 h2 h3 => by simp [Sg.bef d rd h1 h2 h3]
      have haft : ∀ d rd, rs[d]? = some rd → isEff rd.o = true → q ≤ d → (L d || d == i) = true → isFloat rd.o = true := fun d rd p1 p2 p3 p4 => by
        by_cases e : d = i
        · subst e
          rw [hrc] at p1
          cases p1
          exact hfl
        · exact Sg.aft d rd p1 p2 p3 (by simpa [e] using p4)
      cases hw : rc.w
      · obtain ⟨h1, h2, h3⟩ := S.no hw
        rw [if_neg (by rw [want_spec h1 hf]; simp)]
        refine ⟨fun _ _ => trivial, stay undef σ1 w q (by rw [h2]; exact R_undef) (.refl _) (.refl _ _) Sg.le (fun d rd => ?_) hbef haft Sg.hr⟩
        constructor
        · rintro ⟨p1, p0, p2, p3, p4⟩
          have hdi : d ≠ i := fun e => by subst e; rw [hrc] at p1; cases p1; rw [hw] at p0; cases p0
          exact ⟨p1, p0, p2, p3, by simpa [hdi] using p4⟩
        · rintro ⟨p1, p0, p2, p3, p4⟩
          exact ⟨p1, p0, p2, p3, by simp [p4]⟩
      obtain ⟨h1, h2⟩ := S.yes hw
      rw [if_pos (want_spec h1 hf)]
      obtain ⟨cells, vs, u, ty, hh, hvs, hrun, hu⟩ := float_sound hf hfl h2 w
      have hsp : ∀ d rd, Pd rs (fun d => L d || d == i) q d rd → (d = i ∧ rd = rc) ∨ (d ≠ i ∧ Pd rs L q d rd) := fun d rd ⟨p1, p0, p2, p3, p4⟩ => by
        by_cases e : d = i
        · subst e
          rw [hrc] at p1
          cases p1
          exact .inl ⟨rfl, rfl⟩
        · exact .inr ⟨e, p1, p0, p2, p3, by simpa [e] using p4⟩
      have hin : ∀ d rd, Pd rs L q d rd → A d < w.heap.size := fun d rd hp => by
        obtain ⟨_, vs, e, cells, hg, _⟩ := Sg.pen d rd hp
        exact lt_of_heap hg
      refine float_run hfl hrun <| go u σ1 (w.alloc (.cells vs ty)) q (fun d => if d = i then w.heap.size else A d) (.refl _) (Fw.alloc hbw _) {
        le := Sg.le
        bef := hbef
        aft := haft
        hr := (Sg.hr.prot (base' := pend base rs (fun d => L d || d == i) (fun d => if d = i then w.heap.size else A d) q) (fun k hk h hs => by
          rcases hs with hs | ⟨d, rd, hp, e⟩
          · exact h (.inl hs)
          · rcases hsp d rd hp with ⟨rfl, rfl⟩ | ⟨hne, hp⟩
            · simp only [if_true] at e
              omega
            · simp only [if_neg hne] at e
              exact h (.inr ⟨d, rd, hp, e⟩)) (fun _ _ h => h)).other _
        pen := fun d rd hp => by
          rcases hsp d rd hp with ⟨rfl, rfl⟩ | ⟨hne, hp⟩
          · simp only [if_true]
            refine ⟨I.fw.bel.size, vs, ty, cells, heap_alloc_new w _, hvs, by rw [HA_of hrc]; exact (by simpa using hh), fun t ht τ hτ => ?_⟩
            rw [HA_of hrc] at hτ
            have hu := hu τ hτ
            rw [ht]
            simp only [Act.put, Array.getD_eq_getD_getElem?]
            rw [Array.getElem?_setIfInBounds_self_of_lt (by rw [I.size]; exact S.dst t ht)]
            exact hu
          · simp only [if_neg hne]
            obtain ⟨p1, vs', e, cells', p2, p3, p4, p6⟩ := Sg.pen d rd hp
            exact ⟨p1, vs', e, cells', by rw [Below.heap_alloc _ _ _ (lt_of_heap p2)]; exact p2, p3, p4, fun t ht => by rw [putpen _ d rd hp t ht]; exact p6 t ht⟩
        inj := fun d rd d' rd' hp hp' e => by
          rcases hsp d rd hp with ⟨rfl, rfl⟩ | ⟨hne, hp2⟩
          · rcases hsp d' rd' hp' with ⟨rfl, rfl⟩ | ⟨hne', hp3⟩
            · rfl
            · simp only [if_true, if_neg hne'] at e
              have := hin d' rd' hp3
              omega
          · rcases hsp d' rd' hp' with ⟨rfl, rfl⟩ | ⟨hne', hp3⟩
            · simp only [if_true, if_neg hne] at e
              have := hin d rd hp2
              omega
            · simp only [if_neg hne, if_neg hne'] at e
              exact Sg.inj d rd d' rd' hp2 hp3 e
        val := fun t v hno hv => putval _ σ1 (.refl _) t v (fun e => absurd e (hno i rc ⟨hrc, hw, heff, hqi, by simp⟩)) (fun d rd hp => hno d rd ⟨hp.1, hp.2.1, hp.2.2.1, hp.2.2.2.1, by simp [hp.2.2.2.2]⟩) hv }

end
end
end Go.Abs

namespace Go.Abs
open Go Go.RowKit

section
variable {P : Program} {call : CallF} {n : Nat} {ops : Array Oper} {fr : Fr} {rs : List Rec} {tm' : Fr} {h' h0 : Hp} {cl : List Nat} {base : Prot} {σ0 : Env} {w0 : World} {df : List Deferred}

theorem Inv.congr {L L' : Nat → Bool} {σ : Env} {a : Act} {w : World} (hL : ∀ d, d < ops.size → L d = L' d) (hcl : ∀ i, i < ops.size → ∀ j, Nat.testBit (cl.getD i 0) j = true → j < ops.size) (hlen : rs.length = ops.size)
    (I : Inv base σ0 n ops cl fr rs h' w0 df L σ a w) : Inv base σ0 n ops cl fr rs h' w0 df L' σ a w := by
  have lt : ∀ d (r : Rec), rs[d]? = some r → d < ops.size := fun d r h => by
    rw [← hlen]
    exact (List.getElem?_eq_some_iff.1 h).1
  refine ⟨fun i hi hLi j hj => ?_, I.size, ?_, I.ext, I.fw, I.dfs⟩
  · rw [← hL j (hcl i hi j hj)]
    exact I.clo i hi (by rw [hL i hi]; exact hLi) j hj
  · obtain ⟨j, A, S⟩ := I.stage
    have pd : ∀ d r, Pd rs L' j d r ↔ Pd rs L j d r := fun d r => by
      unfold Pd
      constructor
      · rintro ⟨h1, h0, h2, h3, h4⟩
        exact ⟨h1, h0, h2, h3, by rw [hL d (lt d r h1)]; exact h4⟩
      · rintro ⟨h1, h0, h2, h3, h4⟩
        exact ⟨h1, h0, h2, h3, by rw [← hL d (lt d r h1)]; exact h4⟩
    exact ⟨j, A, {
      le := S.le
      bef := fun d r h1 h2 h3 => by rw [← hL d (lt d r h1)]; exact S.bef d r h1 h2 h3
      aft := fun d r h1 h2 h3 h4 => S.aft d r h1 h2 h3 (by rw [hL d (lt d r h1)]; exact h4)
      hr := S.hr.prot (fun k _ h hs => h (hs.imp id fun ⟨d, r, hp, e⟩ => ⟨d, r, (pd d r).1 hp, e⟩)) (fun _ _ h => h)
      pen := fun d r hp => S.pen d r ((pd d r).1 hp)
      inj := fun d r d' r' hp hp' => S.inj d r d' r' ((pd d r).1 hp) ((pd d' r').1 hp')
      val := fun t v hno hv => S.val t v (fun d r hp => hno d r ((pd d r).2 hp)) (by
        rcases hv with ⟨d, r, h1, h2, h3, h4⟩ | ⟨h1, h2⟩
        · exact .inl ⟨d, r, h1, by rw [hL d (lt d r h1)]; exact h2, h3, h4⟩
        · exact .inr ⟨fun d r g1 g2 => by rw [hL d (lt d r g1)]; exact h1 d r g1 g2, h2⟩) }⟩

theorem ready_of {listed : Array Bool} {i : Nat} (h : i ∈ Region.ready .any ops listed) : i < ops.size ∧ listed.getD i true = false ∧ ∀ o, ops[i]? = some o → ∀ e ∈ o.after.toList, Region.binds .any e = true → listed.getD e.on false = true := by
  unfold Region.ready at h
  rw [List.mem_filter, List.mem_range] at h
  obtain ⟨h1, h2⟩ := h
  simp only [Bool.and_eq_true, Bool.not_eq_true'] at h2
  refine ⟨h1, h2.1, fun o ho e he hb => ?_⟩
  have h3 := h2.2
  simp only [ho, Option.map_some, Option.getD_some, Array.all_eq_true', Bool.or_eq_true, Bool.not_eq_true'] at h3
  rcases h3 e (by simpa using he) with h | h
  · rw [hb] at h; cases h
  · exact h

theorem all_listed (O : Ord ops cl) {listed : Array Bool} (hs : listed.size = ops.size) (hr : Region.ready .any ops listed = []) : ∀ i, i < ops.size → listed.getD i false = true := by
  intro i
  induction i using Nat.strongRecOn with
  | _ i ih =>
    intro hi
    cases hl : listed.getD i false
    · exfalso
      have : i ∈ Region.ready .any ops listed := by
        unfold Region.ready
        rw [List.mem_filter, List.mem_range]
        refine ⟨hi, ?_⟩
        have h1 : listed.getD i true = false := by
          rw [Array.getD_eq_getD_getElem?] at hl ⊢
          rw [Array.getElem?_eq_getElem (by omega)] at hl ⊢
          simpa using hl
        simp only [h1, Bool.not_false, Bool.true_and, Array.getElem?_eq_getElem hi, Option.map_some, Option.getD_some, Array.all_eq_true', Bool.or_eq_true, Bool.not_eq_true']
        intro e he
        cases hb : Region.binds .any e
        · exact .inl rfl
        · have := O.edge (Array.getElem?_eq_getElem hi) e (by simpa using he) hb
          exact .inr (ih e.on this (by omega))
      rw [hr] at this
      cases this
    · rfl

theorem draw_all (hcall : CallOK P call) (O : Ord ops cl) (T : Tr P call n ops fr h0 rs tm' h') (hro : (∀ (d : Nat) (r : Rec), rs[d]? = some r → isEff r.o = false) ∨ readsOK P call ops fr cl (effHeaps rs 0 ++ [(ops.size, h')]) rs 0 = true)
    (hb : base.fit w0.heap.size) (hbr : ∀ k, base.ro k → k < w0.heap.size) {r : Option Nat} {N : Nat} {Q : Exit → Act → World → Prop}
    (hQ : ∀ a' w' τ, a'.defers = df → Ext σ0 τ → HR τ base h' w' → FR τ n (look tm' fr) a'.tmps → Fw base w0 w' → Q .normal a' w') :
    ∀ (fuel : Nat) (listed : Array Bool) (σ : Env) (a : Act) (w : World), listed.size = ops.size → listed.toList.countP (!·) ≤ fuel →
      Inv base σ0 n ops cl fr rs h' w0 df (fun d => listed.getD d false) σ a w → wpAnyIn (Wd r) N P .any ops Q fuel listed a w := by
  have fin : ∀ (listed : Array Bool) (σ : Env) (a : Act) (w : World), (∀ i, i < ops.size → listed.getD i false = true) →
      Inv base σ0 n ops cl fr rs h' w0 df (fun d => listed.getD d false) σ a w → Q .normal a w := fun listed σ a w hall I => by
    have lt : ∀ d (r : Rec), rs[d]? = some r → d < ops.size := fun d r h => by
      rw [← T.len]
      exact (List.getElem?_eq_some_iff.1 h).1
    have hTM : TM rs tm' ops.size = tm' := by simp [TM, List.getElem?_eq_none (show rs.length ≤ ops.size by rw [T.len]; exact Nat.le_refl _)]
    have hHA : HA rs h' ops.size = h' := by simp [HA, List.getElem?_eq_none (show rs.length ≤ ops.size by rw [T.len]; exact Nat.le_refl _)]
    obtain ⟨j, A, S0⟩ := I.stage
    obtain ⟨q, τ, hx, S, hq⟩ := S0.adv O T hbr hb (ops.size - j) j σ (by have := S0.le; omega)
    have e : q = ops.size := by
      rcases hq with h | ⟨rq, g1, g2, g3⟩
      · exact h
      · have := hall q (lt q rq g1)
        rw [this] at g3
        cases g3
    subst e
    have hH := S.hr
    rw [hHA] at hH
    have none' : ∀ d rd, ¬ Pd rs (fun d => listed.getD d false) ops.size d rd := fun d rd hp => by
      have := lt d rd hp.1
      have := hp.2.2.2.1
      omega
    refine hQ a w τ I.dfs (I.ext.trans hx) (hH.prot (fun k _ h hs => h (.inl hs)) (fun _ _ h => h)) ⟨I.size, fun t => S.val t _ (fun d rd hp => absurd hp (none' d rd)) ?_⟩ I.fw
    have := T.text t ops.size (Nat.le_refl _)
    rw [hTM] at this
    rcases this with ⟨d, rd, h1, h2, h3, h4⟩ | ⟨h1, h2⟩
    · exact .inl ⟨d, rd, h2, hall d h1, h3, h4⟩
    · exact .inr ⟨fun d rd g1 g2 => absurd g2 (h1 d rd (lt d rd g1) g1), h2⟩
  have hcl : ∀ i, i < ops.size → ∀ j, Nat.testBit (cl.getD i 0) j = true → j < ops.size := fun i hi j hj => by
    have := O.lt i (Array.getElem?_eq_getElem hi) hj
    omega
  intro fuel
  induction fuel with
  | zero =>
    intro listed σ a w hs hc I
    have hall : ∀ i, i < ops.size → listed.getD i false = true := fun i hi => by
      have h1 : listed.toList.countP (!·) = 0 := by omega
      rw [List.countP_eq_zero] at h1
      have hlt : i < listed.size := by omega
      have := h1 listed[i] (by simp)
      rw [Array.getD_eq_getD_getElem?, Array.getElem?_eq_getElem hlt]
      simpa using this
    have hrd : Region.ready .any ops listed = [] := by
      cases hr : Region.ready .any ops listed with
      | nil => rfl
      | cons i l =>
        obtain ⟨h1, h2, _⟩ := ready_of (ops := ops) (listed := listed) (i := i) (by rw [hr]; simp)
        have := hall i h1
        rw [Array.getD_eq_getD_getElem?, Array.getElem?_eq_getElem (by omega)] at this h2
        simp at this h2
        rw [this] at h2
        cases h2
    exact ⟨hrd, fin listed σ a w hall I⟩
  | succ fuel ih =>
    intro listed σ a w hs hc I
    refine ⟨fun hr => fin listed σ a w (all_listed O hs hr) I, fun i hi => ?_⟩
    obtain ⟨h1, h2, h3⟩ := ready_of hi
    have hLi : listed.getD i false = false := by
      rw [Array.getD_eq_getD_getElem?, Array.getElem?_eq_getElem (by omega)] at h2 ⊢
      simpa using h2
    refine draw_step hcall O T hro hb hbr I h1 hLi (fun o ho e he hbd => h3 o ho e he hbd) fun τ a' w' I' => ?_
    refine ih _ τ a' w' (by simp [hs]) ?_ (I'.congr (fun d hd => ?_) hcl T.len)
    · have hlt : i < listed.toList.length := by simp; omega
      rw [Array.toList_setIfInBounds, List.countP_set hlt]
      have : (!listed.toList[i]) = true := by
        rw [Array.getD_eq_getD_getElem?, Array.getElem?_eq_getElem (by omega)] at h2
        simpa using h2
      simp only [this, if_true, Bool.not_true, Bool.false_eq_true, if_false]
      omega
    · simp only [Array.getD_eq_getD_getElem?, Array.getElem?_setIfInBounds]
      by_cases hdi : i = d
      · subst hdi
        simp [show i < listed.size by omega]
      · have : (d == i) = false := by simp; omega
        simp [hdi, this]

theorem effHeaps_empty : ∀ (l : List Rec) (i : Nat), (effHeaps l i).isEmpty = true → ∀ (d : Nat) (r : Rec), l[d]? = some r → isEff r.o = false
  | [], i, _, d, r, h => by simp at h
  | x :: l, i, he, d, r, h => by
    cases hx : isEff x.o
    · simp only [effHeaps, hx, cond_false] at he
      cases d with
      | zero => simp at h; subst h; exact hx
      | succ d => simp at h; exact effHeaps_empty l (i + 1) he d r h
    · simp [effHeaps, hx] at he

/-- **A region whose order is drawn.** -/
theorem runDraw_sound (hcall : CallOK P call) (hm : P.follows .mixedOrders = true) {σ : Env} {w : World} {a : Act} {h : Hp} {tm : Fr} {h1 : Hp} (hs : runDraw P call n ops fr h = some (tm, h1)) (H : HR σ base h w) (hb : base.fit w.heap.size)
    (hf : FR σ n (lkF fr) a.tmps) {r : Option Nat} {N id : Nat} {Q : Exit → Act → World → Prop}
    (hQ : ∀ a' w' τ, a'.defers = a.defers → Ext σ τ → HR τ base h1 w' → FR τ n (look tm fr) a'.tmps → Fw base w w' → Q .normal a' w') : (Code.region id ops true).wpIn (Wd r) N P Q a w := by
  unfold runDraw at hs
  split at hs
  · rename_i rs tm2 h2 ht
    cases hc : (orderOK ops (clos ops.toList []) && ((effHeaps rs 0).isEmpty || readsOK P call ops fr (clos ops.toList []) (effHeaps rs 0 ++ [(ops.size, h2)]) rs 0))
    · simp only [hc, cond_false] at hs
      cases hs
    · simp only [hc, cond_true, Option.some.injEq, Prod.mk.injEq] at hs
      obtain ⟨rfl, rfl⟩ := hs
      simp only [Bool.and_eq_true, Bool.or_eq_true] at hc
      have O := orderOK_spec hc.1
      have T := Tr.mk' ht
      refine wpIn_region_any hm ?_
      have hro := hc.2.imp (effHeaps_empty rs 0) fun h => h
      have back : ∀ {w'}, Fw (Prot.mk base.s fun k => base.ro k ∧ k < w.heap.size) w.drew w' → Fw base w.drew w' := fun h => ⟨h.bel.mono fun _ h => h, h.dfr, h.lop⟩
      refine draw_all (base := ⟨base.s, fun k => base.ro k ∧ k < w.heap.size⟩) hcall O T hro (w0 := w.drew) hb (fun k h => h.2) (fun a' w' τ q1 q2 q3 q4 q5 => hQ a' w' τ q1 q2 (q3.prot (fun _ _ h => h) (fun _ _ h => h.1)) q4 ((Fw.drew _ _).trans (back q5))) ops.size _ σ a w.drew (by simp) ?_ ?_
      · refine Nat.le_trans (List.countP_le_length) (by simp)
      · have hfalse : ∀ d, (Array.replicate ops.size false).getD d false = false := fun d => by
          rw [Array.getD_eq_getD_getElem?, Array.getElem?_replicate]
          split <;> rfl
        have none' : ∀ d rd, ¬ Pd rs (fun d => (Array.replicate ops.size false).getD d false) 0 d rd := fun d rd hp => by
          have := hp.2.2.2.2
          simp only [hfalse] at this
          cases this
        refine ⟨fun i _ hL => (by rw [hfalse] at hL; cases hL), hf.1, ⟨0, fun _ => 0, ?_⟩, .refl _, .refl _ _, rfl⟩
        exact {
          le := Nat.zero_le _
          bef := fun d r _ _ h => absurd h (Nat.not_lt_zero _)
          aft := fun d r _ _ _ h => by
            simp only [hfalse] at h
            cases h
          hr := by
            rw [T.ha0]
            exact H.drew.prot (fun k _ h hs => by
              rcases hs with hs | ⟨d, r, hp, _⟩
              · exact h hs
              · exact none' d r hp) (fun k hk h => ⟨h, hk⟩)
          pen := fun d r hp => absurd hp (none' d r)
          inj := fun d r d' r' hp => absurd hp (none' d r)
          val := fun t v _ hv => by
            rcases hv with ⟨d, rd, h1, h2, h3, h4⟩ | ⟨_, rfl⟩
            · have h2' := h2
              simp only [hfalse] at h2'
              cases h2'
            · exact hf.2 t }
  · cases hs

end
end Go.Abs

namespace Go.Abs
open Go Go.RowKit

section
variable {P : Program} {base : Prot} {σ : Env} {w : World} {h : Hp}

/-- Only the slots that are kept are spoken of. -/
def KP (keep : Nat) (fr : Fr) : Prop := ∀ t, keep.testBit t = false → lkF fr t = .any

theorem commit_spec (keep : Nat) : ∀ (tm fr : Fr), KP keep fr → KP keep (commit keep tm fr) ∧ ∀ t, lkF (commit keep tm fr) t = if keep.testBit t = true then look tm fr t else .any
  | [], fr, h => ⟨h, fun t => by
      simp only [commit, look, lkO]
      cases ht : keep.testBit t
      · simp [h t ht]
      · simp⟩
  | (d, v) :: r, fr, h => by
    obtain ⟨h1, h2⟩ := commit_spec keep r fr h
    simp only [commit]
    cases hd : keep.testBit d
    · simp only [cond_false]
      refine ⟨h1, fun t => ?_⟩
      rw [h2, look_cons]
      by_cases e : t = d
      · subst e; simp [hd]
      · rw [if_neg e]
    · simp only [cond_true]
      have key : ∀ t, lkF (setF (commit keep r fr) d v) t = if keep.testBit t = true then look ((d, v) :: r) fr t else .any := fun t => by
        rw [lkF_setF, look_cons]
        by_cases e : t = d
        · subst e; simp [hd]
        · rw [if_neg e, if_neg e, h2]
      refine ⟨fun t ht => ?_, key⟩
      rw [key, ht]
      simp

theorem FR.commit {n keep : Nat} {tm fr : Fr} {tmps : Array Value} (hk : KP keep fr) (hf : FR σ n (look tm fr) tmps) : FR σ n (lkF (commit keep tm fr)) tmps := by
  refine ⟨hf.1, fun t => ?_⟩
  rw [(commit_spec keep tm fr hk).2]
  split
  · exact hf.2 t
  · exact R_any

def Ex.out : Ex → Exit
  | .normal => .normal
  | .exit id => .exit id
  | .ret => .ret

/-- The marks of loops over functions among the deferred calls: each its own block, from lo on, with no call. -/
def Mk (lo : Nat) (ds : List Deferred) (w : World) : Prop :=
  (∀ d ∈ ds, ∃ b, d.target = .collected b ∧ lo ≤ b ∧ w.heap[b]? = some (.deferred (some []))) ∧ ds.Pairwise fun x y => ∀ a b, x.target = .collected a → y.target = .collected b → a ≠ b

theorem Mk.fw {lo : Nat} {ds : List Deferred} {w' : World} (h : Mk lo ds w) (hf : Fw base w w') : Mk lo ds w' :=
  ⟨fun d hd => let ⟨b, h1, h2, h3⟩ := h.1 d hd; ⟨b, h1, h2, hf.dfr b _ h3⟩, h.2⟩

/-- What a statement leaves. -/
def PostC (base : Prot) (lo : Nat) (σ : Env) (keep n : Nat) (e : Ex) (s : St) (w : World) : Exit → Act → World → Prop :=
  fun x a' w' => x = e.out ∧ ∃ τ, Ext σ τ ∧ HR τ base s.hp w' ∧ FR τ n (lkF s.fr) a'.tmps ∧ KP keep s.fr ∧ Fw base w w' ∧ Mk lo a'.defers w'

theorem PostC.trans {lo keep n : Nat} {τ : Env} {e : Ex} {s : St} {w1 : World} (hx : Ext σ τ) (hf : Fw base w w1) {x : Exit} {a : Act} {w2 : World} (h : PostC base lo τ keep n e s w1 x a w2) : PostC base lo σ keep n e s w x a w2 := by
  obtain ⟨h1, υ, h2, h3, h4, h5, h6, h7⟩ := h
  exact ⟨h1, υ, hx.trans h2, h3, h4, h5, hf.trans h6, h7⟩

/-- In a round: its loop is there. -/
def InR (r : Option Nat) (w : World) : Prop := ∀ l, r = some l → ∃ x, w.heap[l]? = some (Obj.loop x)

theorem InR.fw {r : Option Nat} {w' : World} (h : InR r w) (hf : Fw base w w') : InR r w' := fun l hl => let ⟨x, hx⟩ := h l hl; hf.lop l x hx

/-- A loop is entered. -/
theorem HR.addLoop (H : HR σ base h w) (hb : base.fit w.heap.size) {rc : LoopA} {x : Loop} (h0 : rc.st < 4) (h1 : x.params = rc.ps) (h2 : x.assign = rc.assign) (h3 : x.body = rc.body) (h4 : x.state = (match rc.st with | 0 => .ready | 1 => .busy | 2 => .done | _ => .exhausted))
    (h5 : x.pending = rc.jump.map (fun j => match j with | none => .ret | some id => .exit id)) (h6 : FR σ rc.n (lkF rc.fr) x.tmps) (h7 : KP rc.keep rc.fr) :
    HR (upd σ h.next ⟨w.heap.size, 0, 0⟩) base { h with next := h.next + 1, loops := (h.next, rc) :: h.loops } (w.alloc (.loop x)) ∧ Ext σ (upd σ h.next ⟨w.heap.size, 0, 0⟩) :=
  H.addObj hb (fun τ hx => .inl ⟨h0, x, rfl, h1, h2, h3, h4, h5, h6.ext hx, h7⟩) (fun m seen ents cm e => by rw [e] at h0; simp [itObj] at h0)

theorem lkL_delL : ∀ (l : List (Nat × LoopA)) (i j : Nat), lkL (delL l i) j = if j = i then none else lkL l j
  | [], i, j => by simp [delL, lkL]
  | (k, x) :: r, i, j => by
    by_cases hk : k = i
    · subst hk
      simp only [delL, Nat.beq_refl, cond_true, lkL_cons, lkL_delL r k j]
      by_cases hj : j = k <;> simp [hj]
    · simp only [delL, nb hk, cond_false, lkL_cons, lkL_delL r i j]
      by_cases hj : j = k
      · subst hj; simp [hk]
      · rw [if_neg hj, if_neg hj]

/-- A loop's record turns. -/
theorem HR.setLoop (H : HR σ base h w) {l : Nat} {r r1 : LoopA} (hl : lkL h.loops l = some r) {c : Loc} (hc : σ l = some c) {x : Loop} (hx : w.heap[c.blk]? = some (.loop x)) {y : Loop} {ls : List (Nat × LoopA)} (h0 : r1.st < 4) (hL : LoopR σ r1 y)
    (hls : ∀ j r', lkL ls j = some r' → (j ≠ l ∧ lkL h.loops j = some r') ∨ (j = l ∧ r' = r1)) :
    HR σ base { h with loops := ls } (World.setO w c.blk (.loop y)) ∧ Fw base w (World.setO w c.blk (.loop y)) :=
  H.setObj hl hc hx (r := r1) (.inl ⟨h0, y, rfl, hL⟩) (fun d e => by cases e) (fun _ _ => ⟨y, rfl⟩) (fun j r' hj => (hls j r' hj).imp id .inl)
    (fun i seen ents ci e => by rw [e] at h0; simp [mapObj] at h0) (fun m seen ents cm e => by rw [e] at h0; simp [itObj] at h0)

end
end Go.Abs
