/- Code whose way isn't fixed: a range over a map. -/
import Derived.Test.YtelalpohbodolaaDoorSI
import Derived.Test.YtelalpohbodolaaDoorIM
set_option linter.unusedSimpArgs false
set_option linter.unusedVariables false
set_option maxHeartbeats 2000000
namespace Go.Abs
open Go

section
variable {P : Program} {keep n m : Nat} {call : CallF} {T : Tab} {g : Bool}

/-- From a state: whatever the code does, it ends so. -/
def SemC (P : Program) (keep n : Nat) (c : Code) (s : St) (Q : Ex → St → Prop) : Prop :=
  ∀ (base : Prot) (lo : Nat) (r : Option Nat) (N : Nat) (σ : Env) (w : World) (a : Act), Rel base lo keep n σ s a w r →
    c.wpIn (Wd r) N P (fun x a' w' => ∃ e s', Q e s' ∧ PostC base lo σ keep n e s' w x a' w') a w

theorem SemC.wp (hm : P.follows .mixedOrders = true) (hT : TabOK P T) {c : Code} {sc : SC} (hc : compC P keep n c = some sc) {s : St} {Q : Ex → St → Prop} (H : Abs.wp (Evals P T g) sc s Q) : SemC P keep n c s Q := by
  obtain ⟨N, e, s', hN, hQ⟩ := wp_run H
  have e1 := compC_sound (m := N) hc (hN N (Nat.le_refl _))
  intro base lo r M σ w a R0
  exact wpIn_mono (runC_sound (callN_sound hm hT N) hm c e1 R0) fun x a' w' hp => ⟨e, s', hQ, hp⟩

theorem SemC.seq {x y : Code} {s : St} {Q : Ex → St → Prop} (H : SemC P keep n x s fun e t => onEx e t (fun t => SemC P keep n y t Q) Q) : SemC P keep n (.seq x y) s Q := by
  intro base lo r N σ w a R0
  refine wpIn_seq (wpIn_mono (H base lo r N σ w a R0) fun ex a' w' hp => ?_)
  obtain ⟨e, t, q, hp⟩ := hp
  cases e with
  | normal =>
    obtain ⟨rfl, τ, hx, R1, hf⟩ := R0.of_post hp
    refine wpIn_mono (q base lo r N τ w' a' R1) fun ex2 a2 w2 hp2 => ?_
    obtain ⟨e2, s2, q2, hp2⟩ := hp2
    exact ⟨e2, s2, q2, hp2.trans hx hf⟩
  | exit id => have h1 := hp.1; subst h1; exact ⟨_, _, q, hp⟩
  | ret => have h1 := hp.1; subst h1; exact ⟨_, _, q, hp⟩

theorem SemC.cond {c : Operand} {x y : Code} {s : St} {Q : Ex → St → Prop} {t : Bool} (ht : ev (lkF s.fr) c = .bool t) (H : SemC P keep n (bif t then x else y) s Q) : SemC P keep n (.cond c x y) s Q := by
  intro base lo r N σ w a R0
  have hc := ev_sound R0.fr c
  rw [ht] at hc
  refine wpIn_cond (R_bool hc) ?_
  cases t
  · exact H base lo r N σ w a R0
  · exact H base lo r N σ w a R0

theorem SemC.block {id : Nat} {b : Code} {s : St} {Q : Ex → St → Prop} (H : SemC P keep n b s fun e t => onBlk id e t Q) : SemC P keep n (.block id b) s Q := by
  intro base lo r N σ w a R0
  refine wpIn_block ?_
  refine wpIn_mono (H base lo r N σ w a R0) fun ex a' w' hp => ?_
  obtain ⟨e, t, q, hp⟩ := hp
  have h2 := hp.1
  subst h2
  cases e with
  | normal => exact ⟨_, _, q, hp⟩
  | ret => exact ⟨_, _, q, hp⟩
  | exit j =>
    simp only [onBlk] at q
    by_cases hj : j = id
    · rw [if_pos hj] at q
      simp only [Ex.out, Exit.inBlock, hj, if_true]
      exact ⟨_, _, q, rfl, hp.2⟩
    · rw [if_neg hj] at q
      simp only [Ex.out, Exit.inBlock, hj, if_false]
      exact ⟨_, _, q, hp⟩

theorem SemC.scope {b : Code} {s : St} {Q : Ex → St → Prop} (H : SemC P keep n b s Q) : SemC P keep n (.scope b) s Q := by
  intro base lo r N σ w a R0
  refine wpIn_scope_straight (wpIn_mono (H base lo r N σ w a R0) fun ex a' w' hp => ?_)
  obtain ⟨e, t, q, hp⟩ := hp
  have h2 := hp.1
  subst h2
  cases e with
  | normal => exact ⟨_, _, q, hp⟩
  | ret => exact ⟨_, _, q, hp⟩
  | exit j => exact ⟨_, _, q, hp⟩

theorem SemC.loop {b : Code} {Q : Ex → St → Prop} (J : Nat → St → Prop) (step : ∀ k s, J k s → SemC P keep n b s fun e t => onEx e t (fun t => ∃ j, j < k ∧ J j t) Q) {k : Nat} {s : St} (h : J k s) : SemC P keep n (.loop b) s Q := by
  intro base lo r N σ w a R0
  refine wpIn_loop_count (J := fun k a1 w1 => ∃ j s1 τ, j < k ∧ J j s1 ∧ Ext σ τ ∧ Rel base lo keep n τ s1 a1 w1 r ∧ Fw base w w1) ?_ ?_ (k := k + 1) ⟨k, s, σ, Nat.lt_succ_self _, h, .refl _, R0, .refl _ _⟩
  · rintro a1 w1 ⟨j, s1, τ, h1, _⟩
    omega
  · rintro k a1 w1 ⟨j, s1, τ, h1, hj, hx, R1, hf⟩
    refine wpIn_mono (step j s1 hj base lo r N τ w1 a1 R1) fun ex a' w' hp => ?_
    obtain ⟨e, t, q, hp⟩ := hp
    cases e with
    | normal =>
      obtain ⟨rfl, υ, hx2, R2, hf2⟩ := R1.of_post hp
      obtain ⟨j2, hlt, hJ⟩ := q
      exact ⟨j2, t, υ, by omega, hJ, hx.trans hx2, R2, hf.trans hf2⟩
    | exit id => have h2 := hp.1; subst h2; exact ⟨_, _, q, hp.trans hx hf⟩
    | ret => have h2 := hp.1; subst h2; exact ⟨_, _, q, hp.trans hx hf⟩

/-- An iterator's step in a region of its own. -/
def nxtC (ks : List Nat) (a b : Nat) (x : SX) (s : St) (Q : Ex → St → Prop) : Prop :=
  ∃ i mm seen ents, sev (lkF s.fr) x = .ptr i 0 ∧ lkL s.hp.loops i = some (itObj mm seen) ∧ lkL s.hp.loops mm = some (mapObj ents) ∧
    ((∀ e ∈ ents, e.1 ∈ seen) → Q .normal { fr := commitS ks [(b, .bool false), (a, .tu [.bool false])] s.fr, hp := s.hp }) ∧
    (∀ k v, (k, v) ∈ ents → k ∉ seen → Q .normal { fr := commitS ks [(b, .bool true), (a, .tu [.bool true, k, v])] s.fr, hp := { s.hp with loops := setL s.hp.loops i (itObj mm (k :: seen)) } })

def isNx : List SOper → Bool
  | ⟨_, _, .nxt _⟩ :: _ => true
  | _ => false
def wpNx (ks : List Nat) : List SOper → St → (Ex → St → Prop) → Prop
  | [⟨some a, none, .nxt x⟩, ⟨some b, none, .ext (.t a') 0⟩], s, Q => a' = a ∧ nxtC ks a b x s Q
  | _, _, _ => False

/-- The precondition, with iterators' steps. -/
def wpN (C : Spec) : SC → St → (Ex → St → Prop) → Prop
  | .ops l ks, s, Q => bif isNx l then wpNx ks l s Q else wp C (.ops l ks) s Q
  | .seq a b, s, Q => wpN C a s fun e s' => onEx e s' (fun s' => wpN C b s' Q) Q
  | .cond c a b, s, Q => ifThen (sev (lkF s.fr) c) (wpN C a s Q) (wpN C b s Q)
  | .block id b, s, Q => wpN C b s fun e s' => onBlk id e s' Q
  | .loop b, s, Q => ∃ J : Nat → St → Prop, (∃ k, J k s) ∧ ∀ k s', J k s' → wpN C b s' fun e t => onEx e t (fun t => ∃ j, j < k ∧ J j t) Q
  | .skip, s, Q => wp C .skip s Q
  | .draw l cl ks, s, Q => wp C (.draw l cl ks) s Q
  | .rangeF f ps assign body keep n, s, Q => wp C (.rangeF f ps assign body keep n) s Q
  | .exit id, s, Q => wp C (.exit id) s Q
  | .ret, s, Q => wp C .ret s Q

theorem cOpers_two {ops : Array Oper} {os : List Oper} {l : List DOper} (hc : cOpers P n ops os = some l) {p q : SOper} (hl : l.map (·.o) = [p, q]) : ∃ o1 o2 d1 d2, os = [o1, o2] ∧ l = [d1, d2] ∧ d1.o = p ∧ d2.o = q ∧ cOper P n ops o1 = some d1 ∧ cOpers P n ops [o2] = some [d2] := by
  match os, hc with
  | [], hc => simp [cOpers] at hc; subst hc; simp at hl
  | [o1], hc =>
    simp only [cOpers] at hc
    split at hc
    · rename_i d l' h1 h2; cases hc; cases h2; simp at hl
    · cases hc
  | o1 :: o2 :: r, hc =>
    rw [cOpers] at hc
    split at hc
    · rename_i d l' h1 h2
      cases hc
      have h2' := h2
      rw [cOpers] at h2
      split at h2
      · rename_i d2 l2 h3 h4
        cases h2
        simp only [List.map_cons, List.cons.injEq, List.map_eq_nil_iff] at hl
        obtain ⟨hp, hq, rfl⟩ := hl
        cases r with
        | nil => exact ⟨o1, o2, d, d2, rfl, rfl, hp, hq, h1, h2'⟩
        | cons o3 r =>
          rw [cOpers] at h4
          split at h4 <;> cases h4
      · cases h2
    · cases hc

theorem comp1B_nxt {op : Op} {x : SX} (h : comp1B P op = .nxt x) : ∃ y, op = .next y false ∧ cX y = x := by
  have h' : comp1 P op = some (.nxt x) := by
    unfold comp1B at h
    cases e : comp1 P op with
    | none => rw [e] at h; cases h
    | some o => rw [e] at h; simp only [Option.getD_some] at h; rw [h]
  clear h
  unfold comp1 compCall at h'
  (repeat' split at h') <;> first
    | (cases h'; done)
    | (simp only [Option.some.injEq, SOp.nxt.injEq] at h'; exact ⟨_, rfl, h'⟩)
    | (simp [Option.map_eq_some_iff] at h'; done)
    | (simp only [Bool.cond_eq_ite] at h'; (repeat' split at h') <;> first | (cases h'; done) | (simp [Option.map_eq_some_iff] at h'; done))

theorem cOper_guard {ops : Array Oper} {o : Oper} {d : DOper} (hc : cOper P n ops o = some d) (hg : d.o.guard = none) : o.guard = none := by
  have h7 := (cOper_spec hc).2.2.2.2.2.2.1
  cases e : o.guard with
  | none => rfl
  | some p =>
    have := h7 fun _ => .any
    rw [hg] at this
    obtain ⟨j, w⟩ := p
    simp only [want?, e, swant] at this
    split at this <;> simp at this

theorem wpIn_value {o : Oper} {a : Act} {w w' : World} {u : Value} {r : Option Nat} {N : Nat} {K : Act → World → Prop} {Q : Exit → Act → World → Prop} (hd : ∀ c, o.op ≠ .defer c)
    (hex : (execOp a.eval o).run P w = .ok (.value u) w') (hK : K (a.put o.dst u) w') : o.wpIn (Wd r) N P a w K Q :=
  ⟨fun _ _ => trivial, by rw [Oper.semAt_eq _ _ _ hd, hex]; exact hK⟩

theorem semC_nx (hcall : CallOK P call) {ops : Array Oper} {l : List DOper} (hc : cOpers P n ops ops.toList = some l) {a b : Nat} {x : SX}
    (hl : l.map (·.o) = [⟨some a, none, .nxt x⟩, ⟨some b, none, .ext (.t a) 0⟩]) {s : St} {Q : Ex → St → Prop} (H : nxtC (keptD keep l) a b x s Q) {id : Nat} : SemC P keep n (.region id ops false) s Q := by
  intro base lo r N σ w act R0
  refine wpIn_region ?_
  obtain ⟨o1, o2, d1, d2, hos, rfl, e1, e2, c1, c2⟩ := cOpers_two hc hl
  have s1 := cOper_spec c1
  rw [e1] at s1
  obtain ⟨y, hop, rfl⟩ := comp1B_nxt s1.1
  have hg : o1.guard = none := cOper_guard c1 (by rw [e1])
  have hdst : o1.dst = some a := s1.2.2.1.symm
  have hsz : ops.size = 2 := by rw [← Array.length_toList, hos]; rfl
  have h0 : ops[0]? = some o1 := by rw [← Array.getElem?_toList, hos]; rfl
  obtain ⟨i, mm, seen, ents, q1, q2, q3, q4, q5⟩ := H
  have hx := ev_sound R0.fr y
  rw [sev_cX] at q1
  rw [q1] at hx
  rw [hsz, List.range_eq_range']
  simp only [List.range'_succ, wpOpsIn, h0]
  have hw : want? ops (lkF s.fr) o1 = some true := by simp [want?, hg]
  rw [if_pos (want_spec hw R0.fr)]
  have fin : ∀ (t : Bool) (v : AV) (rest : List AV) (h1 : Hp) (u : Value) (w' : World), v = .tu (.bool t :: rest) → HR σ base h1 w' → Fw base w w' → R σ v u →
      Q .normal { fr := commitS (keptD keep [d1, d2]) [(b, .bool t), (a, v)] s.fr, hp := h1 } →
      wpOpsIn (Wd r) N P ops (fun x a' w' => ∃ e s', Q e s' ∧ PostC base lo σ keep n e s' w x a' w') (List.range' 1 1) (act.put o1.dst u) w' := fun t v rest h1 u w' hv H1 f1 hu hQ => by
    have hf1 : FR σ n (look [(a, v)] s.fr) (act.put o1.dst u).tmps := by
      have hp := s1.2.2.2.1 v []
      rw [hdst] at hp ⊢
      exact putT_spec (fr := s.fr) hp (show FR σ n (look [] s.fr) act.tmps from R0.fr) hu
    have hrun : runOps P call n ops s.fr [o2] [(a, v)] h1 = some ([(b, .bool t), (a, v)], h1) := by
      refine sOps_run c2 ?_
      subst hv
      simp [e2, sOps, swant, sexec, sev, look, lkO, sput]
    have ec : commit keep [(b, .bool t), (a, v)] s.fr = commitS (keptD keep [d1, d2]) [(b, .bool t), (a, v)] s.fr := commitS_eq fun p hp => by
      refine kept_elem ?_
      simp only [List.mem_cons, List.not_mem_nil, or_false] at hp
      rcases hp with rfl | rfl
      · simp [e1, e2]
      · simp [e1, e2]
    rw [← ec] at hQ
    exact runOps_sound hcall [o2] 1 [(a, v)] h1 σ w' (act.put o1.dst u) (by rw [hos]; rfl) H1 (R0.base.le f1.bel.size) hf1 hrun fun a' w'' τ p1 p2 p3 p4 p5 =>
      ⟨.normal, _, hQ, rfl, τ, p2, p3, FR.commit R0.kp p4, (commit_spec keep _ s.fr R0.kp).1, f1.trans p5, by rw [p1, Act.put_defers]; exact R0.mks.fw (f1.trans p5)⟩
  have hd : ∀ c, o1.op ≠ .defer c := fun c e => by rw [hop] at e; cases e
  rcases next_sound (P := P) R0.hr q2 q3 hx o1.type with ⟨w', r1, r2, r3, r4⟩ | ⟨k, v, uk, uv, w', r1, r2, r3, r4, r5, r6, r7⟩
  · refine wpIn_value hd (u := .tuple #[.bool false]) (w' := w') ?_ (fin false _ [] s.hp _ w' rfl r2 r3 ?_ (q4 r4))
    · unfold execOp
      rw [hop]
      simp [r1]
    · simp [R, Rs]
  · refine wpIn_value hd (u := .tuple #[.bool true, uk, uv]) (w' := w') ?_ (fin true _ [k, v] _ _ w' rfl r6 r7 ?_ (q5 k v r1 r2))
    · unfold execOp
      rw [hop]
      simp [r5]
    · simp only [R, Rs]
      exact ⟨_, rfl, _, _, rfl, rfl, _, _, rfl, r3, _, _, rfl, r4, rfl⟩

theorem isNx_cv {l : List DOper} (h : isNx (l.map (·.o)) = true) : l.all (fun d => !d.o.op.isCv) = false := by
  cases l with
  | nil => simp [isNx] at h
  | cons d r =>
    obtain ⟨⟨dst, gd, op⟩, rd, eff⟩ := d
    cases op <;> simp [isNx, SOp.isCv] at h ⊢

theorem wpN_mkSeq {C : Spec} {a b : SC} {s : St} {Q : Ex → St → Prop} (H : wpN C (mkSeq a b) s Q) : wpN C a s fun e t => onEx e t (fun t => wpN C b t Q) Q := by
  unfold mkSeq at H
  split at H
  · exact H
  · have : (fun e t => onEx e t (fun t => wpN C .skip t Q) Q) = Q := by
      funext e t
      cases e <;> rfl
    rw [this]
    exact H
  · exact H

/-- What the precondition promises comes about. -/
theorem wpN_sound (hm : P.follows .mixedOrders = true) (hT : TabOK P T) : ∀ (c : Code) {sc : SC}, compC P keep n c = some sc → ∀ {s : St} {Q : Ex → St → Prop}, wpN (Evals P T g) sc s Q → SemC P keep n c s Q
  | .skip, sc, hc, s, Q, H => by
    have hc' := hc
    cases hc
    exact SemC.wp hm hT hc' H
  | .label _, sc, hc, s, Q, H => by
    have hc' := hc
    cases hc
    exact SemC.wp hm hT hc' H
  | .exit _, sc, hc, s, Q, H => by
    have hc' := hc
    cases hc
    exact SemC.wp hm hT hc' H
  | .ret, sc, hc, s, Q, H => by
    have hc' := hc
    cases hc
    exact SemC.wp hm hT hc' H
  | .rangeFunc .., sc, hc, s, Q, H => by
    have hc' := hc
    cases hc
    exact SemC.wp hm hT hc' H
  | .region id ops false, sc, hc, s, Q, H => by
    have hc' := hc
    simp only [compC] at hc
    cases hl : cOpers P n ops ops.toList with
    | none => simp [hl] at hc
    | some l =>
      simp only [hl, Option.map_some, Option.some.injEq] at hc
      subst hc
      simp only [wpN] at H
      cases hx : isNx (l.map (·.o))
      · rw [hx] at H
        exact SemC.wp hm hT hc' H
      · rw [hx] at H
        simp only [cond_true] at H
        generalize hq : l.map (·.o) = q at H
        unfold wpNx at H
        split at H
        · obtain ⟨rfl, H⟩ := H
          exact semC_nx (callN_sound (g := g) (m := 0) hm hT 0) hl hq H
        · exact H.elim
  | .region id ops true, sc, hc, s, Q, H => by
    have hc' := hc
    simp only [compC] at hc
    split at hc
    · rename_i l hl
      cases ho : (orderOK ops (clos ops.toList []) && l.all (fun d => !d.o.op.isCv))
      · simp [ho] at hc
      · simp only [ho, cond_true] at hc
        rw [Bool.and_eq_true] at ho
        cases hq : (l.all (fun d => !d.eff) || l.all (fun d => !d.rd))
        · simp only [hq, cond_false, Option.some.injEq] at hc
          subst hc
          exact SemC.wp hm hT hc' H
        · simp only [hq, cond_true, Option.some.injEq] at hc
          subst hc
          simp only [wpN] at H
          cases hx : isNx (l.map (·.o))
          · rw [hx] at H
            exact SemC.wp hm hT hc' H
          · rw [isNx_cv hx] at ho
            simp at ho
    · cases hc
  | .seq a b, sc, hc, s, Q, H => by
    simp only [compC] at hc
    split at hc
    · rename_i a' b' h1 h2
      cases hc
      refine SemC.seq ?_
      have H' := wpN_mkSeq H
      have : (fun e t => onEx e t (fun t => wpN (Evals P T g) b' t Q) Q) = (fun e t => onEx e t (fun t => wpN (Evals P T g) b' t Q) Q) := rfl
      have key := wpN_sound hm hT a h1 H'
      intro base lo r N σ w act R0
      refine wpIn_mono (key base lo r N σ w act R0) fun x a' w' hp => ?_
      obtain ⟨e, t, q, hp⟩ := hp
      refine ⟨e, t, ?_, hp⟩
      cases e with
      | normal => exact wpN_sound hm hT b h2 q
      | exit _ => exact q
      | ret => exact q
    · cases hc
  | .cond c a b, sc, hc, s, Q, H => by
    simp only [compC] at hc
    split at hc
    · rename_i a' b' h1 h2
      cases hc
      simp only [wpN, ifThen] at H
      split at H
      · rename_i t e
        rw [sev_cX] at e
        refine SemC.cond e ?_
        cases t
        · exact wpN_sound hm hT b h2 (H.2 rfl)
        · exact wpN_sound hm hT a h1 (H.1 rfl)
      · exact H.elim
    · cases hc
  | .block id b, sc, hc, s, Q, H => by
    simp only [compC] at hc
    cases h1 : compC P keep n b with
    | none => simp [h1] at hc
    | some b' =>
      simp only [h1, Option.map_some, Option.some.injEq] at hc
      subst hc
      exact SemC.block (wpN_sound hm hT b h1 H)
  | .loop b, sc, hc, s, Q, H => by
    simp only [compC] at hc
    cases h1 : compC P keep n b with
    | none => simp [h1] at hc
    | some b' =>
      simp only [h1, Option.map_some, Option.some.injEq] at hc
      subst hc
      obtain ⟨J, ⟨k, hk⟩, step⟩ := H
      exact SemC.loop J (fun k s hj => wpN_sound hm hT b h1 (step k s hj)) hk
  | .scope b, sc, hc, s, Q, H => by
    simp only [compC] at hc
    exact SemC.scope (wpN_sound hm hT b hc H)
  | .goto _, sc, hc, s, Q, H => by cases hc
  | .refuse _, sc, hc, s, Q, H => by cases hc


theorem leaves_marksK {fn : Func} {tmps : Array Value} {σ τ : Env} {w0 : World} {v : AV} {fr : Fr} {n : Nat} {vs : List AV} {N : Nat} {base : Prot} {hq : Hp} {K : Ending → World → Prop} (hK : ∀ e w, Post base σ v hq w0 e w → K e w) (hb0 : base.fit w0.heap.size) (hx : Ext σ τ) (hf : FR τ n (lkF fr) tmps)
    {hp : Hp} (hs : resVs P fr hp fn.results.toList = some vs) (hv : v = resOf vs) (hq' : ∀ w, HR τ base hp w → ∀ u, R τ v u → ∃ τ', R τ' v u ∧ Ext σ τ' ∧ HR τ' base hq w) : ∀ (ds : List Deferred) (w : World), HR τ base hp w → Fw base w0 w → Mk w0.heap.size ds w →
      LeavesInM Fence.wide N P fn tmps K ds .returning w
  | [], w, H, hfw, _ => by
    obtain ⟨u, h1, h2⟩ := results_sound (P := P) H hf hs
    obtain ⟨τ', r, x, H'⟩ := hq' w H u (by rw [hv]; exact h2)
    exact ⟨u, h1, hK _ _ ⟨u, τ', rfl, r, x, H', hfw⟩⟩
  | d :: ds, w, H, hfw, hm => by
    obtain ⟨b, e1, e2, e3⟩ := hm.1 d (by simp)
    have hlt : b < w.heap.size := (Array.getElem?_eq_some_iff.1 e3).1
    have htake : (Instr.takeDeferred b).run P w = .ok [] (World.setO w b (.deferred none)) := by
      simp [Instr.takeDeferred, getObj, setObj, Sem.run, e3, World.setO]
    refine ⟨by simp, .inl ⟨b, _, e1, htake, ?_⟩⟩
    have old : ∀ k, k ≠ b → (World.setO w b (.deferred none)).heap[k]? = w.heap[k]? := fun k hk => setO_other _ _ _ _ hk
    refine leaves_marksK hK hb0 hx hf hs hv hq' ds _ ?_ ?_ ⟨fun d' hd' => ?_, (List.pairwise_cons.1 hm.2).2⟩
    · refine ⟨H.dom, H.srt, H.chn, fun i dd hd => ?_, H.al, H.lps.step (.refl _) (fun l r c o _ _ h1 _ _ h2 => by rw [old _ (fun e => by rw [e, e3] at h1; cases h1; exact h2 _ rfl)]; exact h1) (fun _ _ h => h) (fun k _ hk => old k (fun e => by have := hb0 k hk; have := hfw.bel.size; omega))⟩
      obtain ⟨c, cs, e, fz, a1, a2, a3⟩ := H.cel i dd hd
      exact ⟨c, cs, e, fz, a1, by rw [old _ (fun e => by rw [e, e3] at a2; cases a2)]; exact a2, a3⟩
    · have lt0 : ∀ (k : Nat) (o : Obj), w0.heap[k]? = some o → k < w0.heap.size := fun k o h => (Array.getElem?_eq_some_iff.1 h).1
      refine ⟨hfw.bel.trans ⟨rfl, rfl, rfl, by rw [setO_size]; exact Nat.le_refl _, fun k hk => old k (fun e => by have := hb0 k hk; omega)⟩, fun k x hk => ?_, fun k x hk => ?_⟩
      · rw [old k (by have := lt0 _ _ hk; omega)]
        exact hfw.dfr k x hk
      · rw [old k (by have := lt0 _ _ hk; omega)]
        exact hfw.lop k x hk
    · obtain ⟨b', g1, g2, g3⟩ := hm.1 d' (by simp [hd'])
      refine ⟨b', g1, g2, ?_⟩
      rw [old b' (fun e => (List.pairwise_cons.1 hm.2).1 d' hd' b b' e1 g1 e.symm)]
      exact g3

/-- A call of a function: whatever it does, it ends so. -/
theorem calls_func (hm : P.follows .mixedOrders = true) (hT : TabOK P T) {f : Nat} {sf : SFun} (hc : compF P f = some sf) {args : List AV} {h : Hp} {S : AV → Hp → Prop} (hlen : Nat.ble args.length sf.nt = true)
    (H : wpN (Evals P T g) sf.body { fr := initS sf.slots args, hp := { h with base := h.next, esc := false } } fun e s => (match e with | .exit _ => False | _ => True) ∧ ∃ vs, sresVs s.fr s.hp sf.res = some vs ∧ S (resOf vs) (leave g h (resOf vs) s.hp))
    {base : Prot} {σ : Env} {w : World} {vs : Array Value} (HH : HR σ base h w) (hb : base.fit w.heap.size) (hv : Rs σ args vs.toList) :
    (callFunc f vs).run P w = .ok (.enter f vs) w ∧ Calls P f vs w fun e w' => ∃ v h', S v h' ∧ Post base σ v h' w e w' := by
  unfold compF at hc
  split at hc
  · rename_i fn hfn
    split at hc
    · rename_i c hbody
      cases h3 : fn.name == "runtime.NumGoroutine"
      · simp only [h3, cond_false] at hc
        split at hc
        · rename_i b q h4 h5
          cases hc
          simp only at H hlen
          have hlen := Nat.le_of_ble_eq_true hlen
          have hl := hv.length
          simp only [Array.length_toList] at hl
          constructor
          · have hne : fn.name ≠ "runtime.NumGoroutine" := by simpa using h3
            simp [callFunc, hfn, hne, hbody]
          · have R0 : Rel base w.heap.size (keepOf fn c) fn.ntmps σ { fr := argFr (keepOf fn c) fn.ntmps args 0, hp := { h with base := h.next, esc := false } } { tmps := vs ++ Array.replicate (fn.ntmps - vs.size) undef, defers := [] } w none :=
              ⟨HH.same rfl rfl rfl, hb, FR_args hv hlen, KP_args, ⟨fun d hd => by simp at hd, by simp⟩, Nat.le_refl _, fun l hl => by cases hl⟩
            have e0 : argFr (keepOf fn c) fn.ntmps args 0 = initS ((List.range fn.ntmps).filter (keepOf fn c).testBit) args := by
              rw [argFr_initS]
              simp only [initS, ← List.range_eq_range', Nat.sub_zero]
            rw [← e0] at H
            have key := wpN_sound hm hT c h4 H base w.heap.size none 0 σ w _ R0
            refine (callsIn_wide (n := 0)).1 (callsIn_of_wp_marks hfn hbody trivial (wpIn_mono key fun ex a' w' hp => ?_))
            obtain ⟨e, s, ⟨hne, rvs, hrs, hS⟩, h1, τ, h2, h3', h4', h5', h6, h7⟩ := hp
            rw [← cRes_sound h5] at hrs
            have key := leaves_marksK (P := P) (fn := fn) (N := 0) (v := resOf rvs) (K := fun e w' => ∃ v h', S v h' ∧ Post base σ v h' w e w') (fun e w hp => ⟨_, _, hS, hp⟩) (hq := leave g h (resOf rvs) s.hp) hb h2 h4' hrs rfl (fun w' H' u hu => H'.leave _ hu h2 HH.dom) a'.defers w' h3' h6 h7
            subst h1
            cases e with
            | normal => exact key
            | exit _ => exact hne.elim
            | ret => exact key
        · cases hc
      · simp [h3] at hc
    · cases hc
  · cases hc


/-- A call of a function: whatever it does, it ends so; what it leaves may be more than what was there before. -/
theorem calls_func0 (hm : P.follows .mixedOrders = true) (hT : TabOK P T) {f : Nat} {sf : SFun} (hc : compF P f = some sf) {args : List AV} {h h0 : Hp} (hn0 : h.next ≤ h0.next) {S : AV → Hp → Prop} (hlen : Nat.ble args.length sf.nt = true)
    (H : wpN (Evals P T g) sf.body { fr := initS sf.slots args, hp := { h with base := h.next, esc := false } } fun e s => (match e with | .exit _ => False | _ => True) ∧ ∃ vs, sresVs s.fr s.hp sf.res = some vs ∧ S (resOf vs) (leave g h0 (resOf vs) s.hp))
    {base : Prot} {σ : Env} {w : World} {vs : Array Value} (HH : HR σ base h w) (hb : base.fit w.heap.size) (hv : Rs σ args vs.toList) :
    (callFunc f vs).run P w = .ok (.enter f vs) w ∧ Calls P f vs w fun e w' => ∃ v h', S v h' ∧ Post base σ v h' w e w' := by
  unfold compF at hc
  split at hc
  · rename_i fn hfn
    split at hc
    · rename_i c hbody
      cases h3 : fn.name == "runtime.NumGoroutine"
      · simp only [h3, cond_false] at hc
        split at hc
        · rename_i b q h4 h5
          cases hc
          simp only at H hlen
          have hlen := Nat.le_of_ble_eq_true hlen
          have hl := hv.length
          simp only [Array.length_toList] at hl
          constructor
          · have hne : fn.name ≠ "runtime.NumGoroutine" := by simpa using h3
            simp [callFunc, hfn, hne, hbody]
          · have R0 : Rel base w.heap.size (keepOf fn c) fn.ntmps σ { fr := argFr (keepOf fn c) fn.ntmps args 0, hp := { h with base := h.next, esc := false } } { tmps := vs ++ Array.replicate (fn.ntmps - vs.size) undef, defers := [] } w none :=
              ⟨HH.same rfl rfl rfl, hb, FR_args hv hlen, KP_args, ⟨fun d hd => by simp at hd, by simp⟩, Nat.le_refl _, fun l hl => by cases hl⟩
            have e0 : argFr (keepOf fn c) fn.ntmps args 0 = initS ((List.range fn.ntmps).filter (keepOf fn c).testBit) args := by
              rw [argFr_initS]
              simp only [initS, ← List.range_eq_range', Nat.sub_zero]
            rw [← e0] at H
            have key := wpN_sound hm hT c h4 H base w.heap.size none 0 σ w _ R0
            refine (callsIn_wide (n := 0)).1 (callsIn_of_wp_marks hfn hbody trivial (wpIn_mono key fun ex a' w' hp => ?_))
            obtain ⟨e, s, ⟨hne, rvs, hrs, hS⟩, h1, τ, h2, h3', h4', h5', h6, h7⟩ := hp
            rw [← cRes_sound h5] at hrs
            have key := leaves_marksK (P := P) (fn := fn) (N := 0) (v := resOf rvs) (K := fun e w' => ∃ v h', S v h' ∧ Post base σ v h' w e w') (fun e w hp => ⟨_, _, hS, hp⟩) (hq := leave g h0 (resOf rvs) s.hp) hb h2 h4' hrs rfl (fun w' H' u hu => H'.leave _ hu h2 fun i hi => HH.dom i (Nat.le_trans hn0 hi)) a'.defers w' h3' h6 h7
            subst h1
            cases e with
            | normal => exact key
            | exit _ => exact hne.elim
            | ret => exact key
        · cases hc
      · simp [h3] at hc
    · cases hc
  · cases hc



theorem MapR.perm {σ : Env} {ents ents' : List (AV × AV)} {es : Array MapEntry} {clock : Nat} (M : MapR σ ents es clock) (hp : ents.Perm ents') : MapR σ ents' es clock :=
  ⟨fun e he => M.keys e (hp.mem_iff.2 he), (hp.map _).nodup_iff.1 M.nodup, M.born, M.old, by
    obtain ⟨l, h1, h2⟩ := M.ents
    exact ⟨l, h1.trans hp, h2⟩⟩
theorem ItR.perm {σ : Env} {ents ents' : List (AV × AV)} {seen : List AV} {since : Nat} {sn : Array Nat} {last : Nat} {es : Array MapEntry} {clock : Nat} (I : ItR σ ents seen since sn last es clock) (hp : ents.Perm ents') : ItR σ ents' seen since sn last es clock :=
  ⟨I.esince, I.elast, fun e he a ha => I.sees e he a (hp.mem_iff.2 ha), fun x r hs => by
    obtain ⟨st, h1, h2⟩ := I.top x r hs
    exact ⟨st, h1, fun e he a ha => h2 e he a (hp.mem_iff.2 ha)⟩⟩

/-- Objects that are the same but for the order of maps; iterators may be forgotten. -/
def Likes (ls ls' : List (Nat × LoopA)) : Prop := ∀ j r', lkL ls' j = some r' → lkL ls j = some r' ∨ (∃ ents ents', lkL ls j = some (mapObj ents) ∧ r' = mapObj ents' ∧ ents.Perm ents') ∨ (r' = deadObj ∧ ∃ b, lkL ls j = some b ∧ b.st = 5)
theorem Likes.refl {ls : List (Nat × LoopA)} : Likes ls ls := fun _ _ h => .inl h
theorem ObR.perm {σ : Env} {c : Loc} {ents ents' : List (AV × AV)} {o : Obj} (h : ObR σ c (mapObj ents) o) (hp : ents.Perm ents') : ObR σ c (mapObj ents') o := by
  rcases h with ⟨h1, _⟩ | ⟨e1, es, clock, h1, h2, M⟩ | ⟨m, seen, mb, since, sn, last, h1, _⟩ | ⟨h1, _⟩
  · exact absurd h1 (by simp [mapObj])
  · cases mapObj_inj h1
    exact .inr (.inl ⟨ents', es, clock, rfl, h2, M.perm hp⟩)
  · have := congrArg LoopA.st h1
    simp [mapObj, itObj] at this
  · have := congrArg LoopA.st h1
    simp [mapObj, deadObj] at this
theorem ObR.dead {σ : Env} {c : Loc} {b : LoopA} {o : Obj} (h : ObR σ c b o) (h5 : b.st = 5) : ObR σ c deadObj o := by
  rcases h with ⟨h1, _⟩ | ⟨e1, es, clock, rfl, h2, M⟩ | ⟨m', seen', mb, since, sn, last, rfl, h2, h3, h4⟩ | ⟨h1, h2⟩
  · omega
  · simp [mapObj] at h5
  · exact .inr (.inr (.inr ⟨rfl, _, _, _, _, h4⟩))
  · exact .inr (.inr (.inr ⟨rfl, h2⟩))
theorem HR.likes {base : Prot} {σ : Env} {h : Hp} {w : World} (H : HR σ base h w) {ls : List (Nat × LoopA)} (hl : Likes h.loops ls) : HR σ base { h with loops := ls } w := by
  have has : ∀ {j r'}, lkL ls j = some r' → ∃ r, lkL h.loops j = some r := fun h1 => by
    rcases hl _ _ h1 with h2 | ⟨e, e', h2, _⟩ | ⟨_, b, h2, _⟩
    · exact ⟨_, h2⟩
    · exact ⟨_, h2⟩
    · exact ⟨_, h2⟩
  refine ⟨H.dom, H.srt, H.chn, H.cel, H.al, fun l r h1 => ?_, fun l l' r r' c c' hne h1 h2 h3 h4 => ?_, fun l m seen ents c cm h1 h2 h3 h4 => ?_, H.lps.glo⟩
  · rcases hl _ _ h1 with h2 | ⟨e, e', h2, rfl, hp⟩ | ⟨rfl, b, h2, h5⟩
    · exact H.lps.lps l r h2
    · obtain ⟨c, o, a1, a2, a3, a4⟩ := H.lps.lps l _ h2
      exact ⟨c, o, a1, a2, a3, a4.perm hp⟩
    · obtain ⟨c, o, a1, a2, a3, a4⟩ := H.lps.lps l _ h2
      exact ⟨c, o, a1, a2, a3, a4.dead h5⟩
  · obtain ⟨_, a1⟩ := has h1
    obtain ⟨_, a2⟩ := has h2
    exact H.lps.lal l l' _ _ c c' hne a1 a2 h3 h4
  · have i1 : lkL h.loops l = some (itObj m seen) := by
      rcases hl _ _ h1 with h5 | ⟨e, e', _, h5, _⟩ | ⟨h5, _⟩
      · exact h5
      · have := congrArg LoopA.st h5
        simp [mapObj, itObj] at this
      · have := congrArg LoopA.st h5
        simp [deadObj, itObj] at this
    rcases hl _ _ h2 with h5 | ⟨e, e', h5, h6, hp⟩ | ⟨h5, _⟩
    · exact H.lps.its l m seen ents c cm i1 h5 h3 h4
    · cases mapObj_inj h6
      obtain ⟨since, sn, last, es, clock, b1, b2, b3⟩ := H.lps.its l m seen e c cm i1 h5 h3 h4
      exact ⟨since, sn, last, es, clock, b1, b2, b3.perm hp⟩
    · have := congrArg LoopA.st h5
      simp [deadObj, mapObj] at this

/-- A call whose results are one but for the order of maps. -/
theorem tab_func (hm : P.follows .mixedOrders = true) (hT : TabOK P T) {f : Nat} {sf : SFun} (hc : compF P f = some sf) {args : List AV} {h : Hp} {v : AV} {h' : Hp} (hlen : Nat.ble args.length sf.nt = true)
    (H : wpN (Evals P T g) sf.body { fr := initS sf.slots args, hp := { h with base := h.next, esc := false } } fun e s => (match e with | .exit _ => False | _ => True) ∧ ∃ vs, sresVs s.fr s.hp sf.res = some vs ∧
      resOf vs = v ∧ (leave g h (resOf vs) s.hp).next = h'.next ∧ (leave g h (resOf vs) s.hp).blks = h'.blks ∧ Likes (leave g h (resOf vs) s.hp).loops h'.loops)
    {base : Prot} {σ : Env} {w : World} {vs : Array Value} (HH : HR σ base h w) (hb : base.fit w.heap.size) (hv : Rs σ args vs.toList) :
    (callFunc f vs).run P w = .ok (.enter f vs) w ∧ Calls P f vs w (Post base σ v h' w) := by
  obtain ⟨h1, h2⟩ := calls_func hm hT hc (S := fun v1 h1 => v1 = v ∧ h1.next = h'.next ∧ h1.blks = h'.blks ∧ Likes h1.loops h'.loops) hlen H HH hb hv
  refine ⟨h1, h2.mono fun e w' he => ?_⟩
  obtain ⟨v1, h1, ⟨rfl, e1, e2, e3⟩, u, τ, rfl, q1, q2, q3, q4⟩ := he
  exact ⟨u, τ, rfl, q1, q2, (q3.likes e3).same e1.symm e2.symm rfl, q4⟩

/-- The same, where new objects are left. -/
theorem tab_func0 (hm : P.follows .mixedOrders = true) (hT : TabOK P T) {f : Nat} {sf : SFun} (hc : compF P f = some sf) {args : List AV} {h h0 : Hp} (hn0 : h.next ≤ h0.next) {v : AV} {h' : Hp} (hlen : Nat.ble args.length sf.nt = true)
    (H : wpN (Evals P T g) sf.body { fr := initS sf.slots args, hp := { h with base := h.next, esc := false } } fun e s => (match e with | .exit _ => False | _ => True) ∧ ∃ vs, sresVs s.fr s.hp sf.res = some vs ∧
      resOf vs = v ∧ (leave g h0 (resOf vs) s.hp).next = h'.next ∧ (leave g h0 (resOf vs) s.hp).blks = h'.blks ∧ Likes (leave g h0 (resOf vs) s.hp).loops h'.loops)
    {base : Prot} {σ : Env} {w : World} {vs : Array Value} (HH : HR σ base h w) (hb : base.fit w.heap.size) (hv : Rs σ args vs.toList) :
    (callFunc f vs).run P w = .ok (.enter f vs) w ∧ Calls P f vs w (Post base σ v h' w) := by
  obtain ⟨h1, h2⟩ := calls_func0 hm hT hc hn0 (S := fun v1 h1 => v1 = v ∧ h1.next = h'.next ∧ h1.blks = h'.blks ∧ Likes h1.loops h'.loops) hlen H HH hb hv
  refine ⟨h1, h2.mono fun e w' he => ?_⟩
  obtain ⟨v1, h1, ⟨rfl, e1, e2, e3⟩, u, τ, rfl, q1, q2, q3, q4⟩ := he
  exact ⟨u, τ, rfl, q1, q2, (q3.likes e3).same e1.symm e2.symm rfl, q4⟩

end
end Go.Abs
