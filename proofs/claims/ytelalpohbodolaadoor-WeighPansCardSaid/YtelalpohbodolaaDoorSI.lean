/- More fuel, same answer. Weakest preconditions of compiled code. Evaluation with compiled functions. -/
import Derived.Test.YtelalpohbodolaaDoorSA
set_option linter.unusedSimpArgs false
set_option linter.unusedVariables false
namespace Go.Abs
open Go

def Le (call call' : CallF) : Prop := ∀ t a h r, call t a h = some r → call' t a h = some r

section
variable {P : Program} {call call' : CallF} {n m m' keep : Nat} {ops : Array Oper} {fr : Fr}

theorem exec1_mono (hl : Le call call') {f : Nat → AV} {h : Hp} {o : Oper} {r : AV × Hp} (e : exec1 P call f h o = some r) : exec1 P call' f h o = some r := by
  unfold exec1 at e ⊢
  split at e
  · rename_i c hc
    try simp only [hc]
    split at e
    · rename_i b hb
      try simp only [hb]
      exact e
    · rename_i g hg
      try simp only [hg]
      split at e
      · rename_i hf
        try simp only [hf]
        exact hl _ _ _ _ e
      · rename_i hf
        try simp only [hf]
        exact hl _ _ _ _ e
      · cases e
    · cases e
  · rename_i hne
    exact e

theorem execS_mono (hl : Le call call') {f : Nat → AV} {h : Hp} {o : Oper} {r : AV × Hp} (e : execS P call f h o = some r) : execS P call' f h o = some r := by
  unfold execS at e ⊢
  split at e
  · split at e
    · rename_i hc
      try simp only [hc]
      exact e
    · rename_i hc
      try simp only [hc]
      exact e
    · rename_i hc
      try simp only [hc]
      exact exec1_mono hl e
  · exact exec1_mono hl e

theorem runOps_mono (hl : Le call call') : ∀ {os : List Oper} {tm : Fr} {h : Hp} {r : Fr × Hp}, runOps P call n ops fr os tm h = some r → runOps P call' n ops fr os tm h = some r
  | [], tm, h, r, e => e
  | o :: os, tm, h, r, e => by
    simp only [runOps] at e ⊢
    split at e
    · rename_i hw
      split at e
      · rename_i v h' he
        simp only [hw, execS_mono hl he]
        split at e
        · rename_i tm' ht
          try simp only [ht]
          exact runOps_mono hl e
        · cases e
      · cases e
    · rename_i hw
      try simp only [hw]
      split at e
      · rename_i tm' ht
        try simp only [ht]
        exact runOps_mono hl e
      · cases e
    · cases e

theorem traceOps_mono (hl : Le call call') : ∀ {os : List Oper} {tm : Fr} {h : Hp} {r : List Rec × Fr × Hp}, traceOps P call n ops fr os tm h = some r → traceOps P call' n ops fr os tm h = some r
  | [], tm, h, r, e => e
  | o :: os, tm, h, r, e => by
    simp only [traceOps] at e ⊢
    split at e
    · rename_i hw
      split at e
      · rename_i v h' he
        simp only [hw, exec1_mono hl he]
        split at e
        · rename_i tm' ht
          try simp only [ht]
          split at e
          · rename_i hx
            simp only [traceOps_mono hl hx]
            exact e
          · cases e
        · cases e
      · cases e
    · rename_i hw
      try simp only [hw]
      split at e
      · rename_i tm' ht
        try simp only [ht]
        split at e
        · rename_i hx
          simp only [traceOps_mono hl hx]
          exact e
        · cases e
      · cases e
    · cases e

theorem readsOK_mono (hl : Le call call') {cl : List Nat} {hs : List (Nat × Hp)} : ∀ {rs : List Rec} {i : Nat}, readsOK P call ops fr cl hs rs i = true → readsOK P call' ops fr cl hs rs i = true
  | [], i, e => e
  | r :: rs, i, e => by
    simp only [readsOK, Bool.and_eq_true, Bool.or_eq_true, List.all_eq_true] at e ⊢
    refine ⟨?_, readsOK_mono hl e.2⟩
    rcases e.1 with h | h
    · exact .inl h
    · refine .inr fun x hx => ?_
      rcases h x hx with h | h
      · exact .inl h
      · right
        split at h
        · rename_i he
          simp only [exec1_mono hl he]
          exact h
        · cases h

theorem runDraw_mono (hl : Le call call') {h : Hp} {r : Fr × Hp} (e : runDraw P call n ops fr h = some r) : runDraw P call' n ops fr h = some r := by
  unfold runDraw at e ⊢
  split at e
  · rename_i rs tm h' ht
    simp only [traceOps_mono hl ht]
    cases hc : (orderOK ops (clos ops.toList []) && ((effHeaps rs 0).isEmpty || readsOK P call ops fr (clos ops.toList []) (effHeaps rs 0 ++ [(ops.size, h')]) rs 0))
    · simp [hc] at e
    · simp only [hc, cond_true] at e
      have : (orderOK ops (clos ops.toList []) && ((effHeaps rs 0).isEmpty || readsOK P call' ops fr (clos ops.toList []) (effHeaps rs 0 ++ [(ops.size, h')]) rs 0)) = true := by
        simp only [Bool.and_eq_true, Bool.or_eq_true] at hc ⊢
        exact ⟨hc.1, hc.2.imp id (readsOK_mono hl)⟩
      simp only [this, cond_true]
      exact e
  · cases e

theorem iter_mono {b b' : St → Option (Ex × St)} (hb : ∀ s r, b s = some r → b' s = some r) : ∀ {m m' : Nat} {s : St} {r : Ex × St}, m ≤ m' → iter b m s = some r → iter b' m' s = some r
  | 0, m', s, r, _, e => by cases e
  | m + 1, 0, s, r, h, _ => absurd h (by omega)
  | m + 1, m' + 1, s, r, h, e => by
    simp only [iter] at e ⊢
    cases hs : b s with
    | none => rw [hs] at e; cases e
    | some y =>
      rw [hs] at e
      rw [hb _ _ hs]
      obtain ⟨x, s'⟩ := y
      cases x with
      | normal => exact iter_mono hb (by omega) e
      | exit _ => exact e
      | ret => exact e

theorem runC_mono (hl : Le call call') (hm : m ≤ m') : ∀ {c : Code} {s : St} {r : Ex × St}, runC P call m keep n c s = some r → runC P call' m' keep n c s = some r
  | .skip, s, r, e => e
  | .label _, s, r, e => e
  | .region _ ops false, s, r, e => by
    simp only [runC] at e ⊢
    split at e
    · rename_i h
      simp only [runOps_mono hl h]
      exact e
    · cases e
  | .region _ ops true, s, r, e => by
    simp only [runC] at e ⊢
    split at e
    · rename_i h
      simp only [runDraw_mono hl h]
      exact e
    · cases e
  | .rangeFunc f ps assign body, s, r, e => by
    simp only [runC] at e ⊢
    split at e
    · rename_i hf
      try simp only [hf]
      split at e
      · rename_i h
        simp only [hl _ _ _ _ h]
        exact e
      · cases e
    · cases e
  | .seq a b, s, r, e => by
    simp only [runC] at e ⊢
    cases h : runC P call m keep n a s with
    | none => rw [h] at e; cases e
    | some y =>
      rw [h] at e
      rw [runC_mono hl hm h]
      obtain ⟨x, s'⟩ := y
      cases x with
      | normal => exact runC_mono hl hm e
      | exit _ => exact e
      | ret => exact e
  | .cond c a b, s, r, e => by
    simp only [runC] at e ⊢
    split at e
    · rename_i t ht
      try simp only [ht]
      cases t
      · exact runC_mono hl hm e
      · exact runC_mono hl hm e
    · cases e
  | .block id b, s, r, e => by
    simp only [runC] at e ⊢
    cases h : runC P call m keep n b s with
    | none => rw [h] at e; cases e
    | some y =>
      rw [h] at e
      rw [runC_mono hl hm h]
      exact e
  | .loop b, s, r, e => by
    simp only [runC] at e ⊢
    exact iter_mono (fun s r => runC_mono hl hm) hm e
  | .exit id, s, r, e => e
  | .ret, s, r, e => e
  | .scope b, s, r, e => by
    simp only [runC] at e ⊢
    exact runC_mono hl hm e
  | .goto _, s, r, e => by cases e

theorem enterF_mono (hl : Le call call') (hm : m ≤ m') {g : Bool} {f : Nat} {args : List AV} {h : Hp} {r : AV × Hp} (e : enterF P call g m f args h = some r) : enterF P call' g m' f args h = some r := by
  unfold enterF at e ⊢
  split at e
  · rename_i fn h1
    split at e
    · rename_i c h2
      try simp only [h1, h2]
      cases h3 : (Nat.ble args.length fn.ntmps && !(fn.name == "runtime.NumGoroutine"))
      · rw [h3] at e; cases e
      · rw [h3] at e
        simp only [cond_true] at e ⊢
        split at e
        · rename_i h4
          simp only [runC_mono hl hm h4]
          exact e
        · rename_i h4
          simp only [runC_mono hl hm h4]
          exact e
        · cases e
    · cases e
  · cases e

theorem enterY_mono (hl : Le call call') (hm : m ≤ m') {l : Nat} {args : List AV} {h : Hp} {r : AV × Hp} (e : enterY P call m l args h = some r) : enterY P call' m' l args h = some r := by
  unfold enterY at e ⊢
  split at e
  · rename_i x h1
    try simp only [h1]
    cases h2 : (Nat.beq x.st 0 && x.ps.toList.all (fun t => Nat.testBit x.keep t && Nat.blt t x.n))
    · rw [h2] at e; cases e
    · rw [h2] at e
      simp only [Bool.not_true, cond_false] at e ⊢
      split at e
      · rename_i fr h3
        try simp only [h3]
        split at e
        · rename_i s h4
          simp only [runC_mono hl hm h4]
          split at e
          · rename_i r1 h5
            try simp only [h5]
            cases h6 : Nat.beq r1.st 0
            · rw [h6] at e; cases e
            · rw [h6] at e
              simp only [Bool.not_true, cond_false] at e ⊢
              split at e
              · rename_i h7
                simp only [runC_mono hl hm h7]
                exact e
              · cases e
          · cases e
        · cases e
      · cases e
  · cases e

theorem callN_mono {T : Tab} {g : Bool} : ∀ {n n' m m' : Nat}, n ≤ n' → m ≤ m' → Le (callN P T g m n) (callN P T g m' n')
  | 0, _, _, _, _, _ => fun t a h r e => by cases e
  | n + 1, 0, _, _, h, _ => absurd h (by omega)
  | n + 1, n' + 1, m, m', hn, hm => fun t a h r e => by
    have ih : Le (callN P T g m n) (callN P T g m' n') := callN_mono (by omega) hm
    cases t with
    | func f =>
      simp only [callN] at e ⊢
      split at e
      · exact e
      · exact enterF_mono ih hm e
    | yield l => exact enterY_mono ih hm e

end
end Go.Abs

namespace Go.Abs
open Go

def noCall : CallF := fun _ _ _ => none

abbrev Spec := Tgt → List AV → Hp → AV × Hp → Prop

def andThen (x : Option (AV × Hp)) (K : AV → Hp → Prop) : Prop :=
  match x with
  | some (v, h) => K v h
  | none => False

def callThen (C : Spec) (f : AV) (args : List AV) (h : Hp) (K : AV → Hp → Prop) : Prop :=
  match f with
  | .fn (.func g) fs cs => ∃ v h', C (.func g) (fs ++ args ++ cs) h (v, h') ∧ K v h'
  | .yld l => ∃ v h', C (.yield l) args h (v, h') ∧ K v h'
  | _ => False

def wpOp (C : Spec) (f : Nat → AV) (h : Hp) (o : SOp) (K : AV → Hp → Prop) : Prop :=
  match o with
  | .call g args => callThen C (sev f g) (args.map (sev f)) h K
  | o => andThen (sexec noCall f h o) K

/-- A test: of a guard, or of a statement. -/
def ifThen (b : AV) (A B : Prop) : Prop :=
  match b with
  | .bool t => (t = true → A) ∧ (t = false → B)
  | _ => False

/-- A guard: what was left out wants nothing. -/
def gIf (b : AV) (w : Bool) (A B : Prop) : Prop :=
  match b with
  | .bool t => (t = w → A) ∧ (t = (!w) → B)
  | .tu _ => B
  | _ => False

def wpG (f : Nat → AV) (g : Option (Nat × Bool)) (A B : Prop) : Prop :=
  match g with
  | none => A
  | some (d, w) => gIf (f d) w A B

def wpOps (C : Spec) (fr : Fr) : List SOper → Fr → Hp → (Fr → Hp → Prop) → Prop
  | [], tm, h, Q => Q tm h
  | o :: rest, tm, h, Q => wpG (look tm fr) o.guard (wpOp C (look tm fr) h o.op fun v h' => wpOps C fr rest (sput o.dst v tm) h' Q) (wpOps C fr rest (sput o.dst (.tu []) tm) h Q)

def wpTrace (C : Spec) (fr : Fr) : List DOper → Fr → Hp → (List SRec → Fr → Hp → Prop) → Prop
  | [], tm, h, Q => Q [] tm h
  | d :: rest, tm, h, Q =>
    wpG (look tm fr) d.o.guard
      (wpOp C (look tm fr) h d.o.op fun v h' => wpTrace C fr rest (sput d.o.dst v tm) h' fun rs => Q ({ op := d.o.op, rd := d.rd, eff := d.eff, w := true, v, tm, h } :: rs))
      (wpTrace C fr rest (sput d.o.dst (.tu []) tm) h fun rs => Q ({ op := d.o.op, rd := d.rd, eff := d.eff, w := false, v := .tu [], tm, h } :: rs))

def wpLoop (W : St → (Ex → St → Prop) → Prop) (Q : Ex → St → Prop) : Nat → St → Prop
  | 0, _ => False
  | n + 1, s => W s fun e s' => match e with
    | .normal => wpLoop W Q n s'
    | e => Q e s'

def onEx (e : Ex) (s : St) (N : St → Prop) (Q : Ex → St → Prop) : Prop :=
  match e with
  | .normal => N s
  | e => Q e s

def onBlk (id : Nat) (e : Ex) (s : St) (Q : Ex → St → Prop) : Prop :=
  match e with
  | .exit j => if j = id then Q .normal s else Q (.exit j) s
  | e => Q e s

def wp (C : Spec) : SC → St → (Ex → St → Prop) → Prop
  | .skip, s, Q => Q .normal s
  | .ops l ks, s, Q => wpOps C s.fr l [] s.hp fun tm h => Q .normal { fr := commitS ks tm s.fr, hp := h }
  | .draw l cl ks, s, Q => wpTrace C s.fr l [] s.hp fun rs tm h =>
      ((sEffs rs 0).isEmpty || sReads noCall s.fr cl (sEffs rs 0 ++ [(l.length, h)]) rs 0) = true ∧ Q .normal { fr := commitS ks tm s.fr, hp := h }
  | .rangeF f ps assign body keep n, s, Q => match sev (lkF s.fr) f with
    | .fn (.func g) fs cs => ∃ v h, C (.func g) (fs ++ [.yld s.hp.next] ++ cs) { s.hp with next := s.hp.next + 1, loops := (s.hp.next, { st := 0, jump := none, ps, assign, body, keep, n, fr := s.fr }) :: s.hp.loops } (v, h) ∧
        ∃ r, lkL h.loops s.hp.next = some r ∧ r.st ≠ 1 ∧ (match r.jump with
          | none => Q .normal
          | some none => Q .ret
          | some (some id) => Q (.exit id)) { s with hp := { h with loops := delL h.loops s.hp.next } }
    | _ => False
  | .seq a b, s, Q => wp C a s fun e s' => onEx e s' (fun s' => wp C b s' Q) Q
  | .cond c a b, s, Q => ifThen (sev (lkF s.fr) c) (wp C a s Q) (wp C b s Q)
  | .block id b, s, Q => wp C b s fun e s' => onBlk id e s' Q
  | .loop b, s, Q => ∃ n, wpLoop (wp C b) Q n s
  | .exit id, s, Q => Q (.exit id) s
  | .ret, s, Q => Q .ret s

/-- The calls that end. -/
def Evals (P : Program) (T : Tab) (g : Bool) : Spec := fun t args h r => ∃ N, ∀ M, N ≤ M → callN P T g M M t args h = some r

section
variable {P : Program} {T : Tab} {g : Bool}

theorem noCall_le (call : CallF) : Le noCall call := fun _ _ _ _ h => by cases h

theorem sexec_mono {call call' : CallF} (hl : Le call call') {f : Nat → AV} {h : Hp} {o : SOp} {r : AV × Hp} (e : sexec call f h o = some r) : sexec call' f h o = some r := by
  cases o
  case call x args =>
    simp only [sexec] at e ⊢
    rcases hx : sev f x with _ | _ | _ | _ | _ | _ | _ | _ | _ | _ | _ | ⟨_ | _, _, _⟩ | _ | _ | _ | _ | _ | _ <;> rw [hx] at e <;> simp only [sCall] at e ⊢ <;> first | exact hl _ _ _ _ e | cases e
  all_goals exact e

theorem sReads_mono {call call' : CallF} (hl : Le call call') {fr : Fr} {cl : List Nat} {hs : List (Nat × Hp)} : ∀ {rs : List SRec} {i : Nat}, sReads call fr cl hs rs i = true → sReads call' fr cl hs rs i = true
  | [], i, e => e
  | r :: rs, i, e => by
    simp only [sReads, Bool.and_eq_true, Bool.or_eq_true, List.all_eq_true] at e ⊢
    refine ⟨?_, sReads_mono hl e.2⟩
    rcases e.1 with h | h
    · exact .inl h
    · refine .inr fun x hx => ?_
      rcases h x hx with h | h
      · exact .inl h
      · right
        split at h
        · rename_i he
          simp only [sexec_mono hl he]
          exact h
        · cases h

theorem wpOp_run {f : Nat → AV} {h : Hp} {o : SOp} {K : AV → Hp → Prop} (H : wpOp (Evals P T g) f h o K) : ∃ N v h', (∀ M, N ≤ M → sexec (callN P T g M M) f h o = some (v, h')) ∧ K v h' := by
  have plain : andThen (sexec noCall f h o) K → ∃ N v h', (∀ M, N ≤ M → sexec (callN P T g M M) f h o = some (v, h')) ∧ K v h' := fun H => by
    unfold andThen at H
    split at H
    · rename_i v h' e
      exact ⟨0, v, h', fun M _ => sexec_mono (noCall_le _) e, H⟩
    · exact H.elim
  cases o
  case call x args =>
    simp only [wpOp, callThen] at H
    simp only [sexec]
    split at H
    · rename_i fn fs cs e
      obtain ⟨v, h', ⟨N, hN⟩, hk⟩ := H
      exact ⟨N, v, h', fun M hM => by rw [e]; exact hN M hM, hk⟩
    · rename_i l e
      obtain ⟨v, h', ⟨N, hN⟩, hk⟩ := H
      exact ⟨N, v, h', fun M hM => by rw [e]; exact hN M hM, hk⟩
    · exact H.elim
  all_goals exact plain H

theorem wpG_run {f : Nat → AV} {gd : Option (Nat × Bool)} {A B : Prop} (H : wpG f gd A B) : (swant f gd = some true ∧ A) ∨ (swant f gd = some false ∧ B) := by
  unfold wpG at H
  split at H
  · exact .inl ⟨rfl, H⟩
  · rename_i d w
    unfold gIf at H
    split at H
    · rename_i t e
      by_cases hw : t = w
      · exact .inl ⟨by simp [swant, e, hw], H.1 hw⟩
      · have hw' : t = (!w) := by cases t <;> cases w <;> simp_all
        exact .inr ⟨by simp [swant, e, hw'], H.2 hw'⟩
    · rename_i e
      exact .inr ⟨by simp [swant, e], H⟩
    · exact H.elim

theorem wpOps_run {fr : Fr} : ∀ {l : List SOper} {tm : Fr} {h : Hp} {Q : Fr → Hp → Prop}, wpOps (Evals P T g) fr l tm h Q → ∃ N tm' h', (∀ M, N ≤ M → sOps (callN P T g M M) fr l tm h = some (tm', h')) ∧ Q tm' h'
  | [], tm, h, Q, H => ⟨0, tm, h, fun _ _ => rfl, H⟩
  | o :: rest, tm, h, Q, H => by
    simp only [wpOps] at H
    rcases wpG_run H with ⟨e, H⟩ | ⟨e, H⟩
    · obtain ⟨N, v, h', hN, H⟩ := wpOp_run H
      obtain ⟨N2, tm', h2, hN2, hQ⟩ := wpOps_run H
      exact ⟨max N N2, tm', h2, fun M hM => by simp only [sOps, e, hN M (by omega), hN2 M (by omega)], hQ⟩
    · obtain ⟨N2, tm', h2, hN2, hQ⟩ := wpOps_run H
      exact ⟨N2, tm', h2, fun M hM => by simp only [sOps, e, hN2 M (by omega)], hQ⟩

theorem wpTrace_run {fr : Fr} : ∀ {l : List DOper} {tm : Fr} {h : Hp} {Q : List SRec → Fr → Hp → Prop}, wpTrace (Evals P T g) fr l tm h Q → ∃ N rs tm' h', (∀ M, N ≤ M → sTrace (callN P T g M M) fr l tm h = some (rs, tm', h')) ∧ Q rs tm' h'
  | [], tm, h, Q, H => ⟨0, [], tm, h, fun _ _ => rfl, H⟩
  | o :: rest, tm, h, Q, H => by
    simp only [wpTrace] at H
    rcases wpG_run H with ⟨e, H⟩ | ⟨e, H⟩
    · obtain ⟨N, v, h', hN, H⟩ := wpOp_run H
      obtain ⟨N2, rs, tm', h2, hN2, hQ⟩ := wpTrace_run H
      exact ⟨max N N2, _, tm', h2, fun M hM => by simp only [sTrace, e, hN M (by omega), hN2 M (by omega)], hQ⟩
    · obtain ⟨N2, rs, tm', h2, hN2, hQ⟩ := wpTrace_run H
      exact ⟨N2, _, tm', h2, fun M hM => by simp only [sTrace, e, hN2 M (by omega)], hQ⟩

theorem wpLoop_run {b : SC} (hb : ∀ {s : St} {Q : Ex → St → Prop}, wp (Evals P T g) b s Q → ∃ N e s', (∀ M, N ≤ M → runS (callN P T g M M) M b s = some (e, s')) ∧ Q e s') {Q : Ex → St → Prop} :
    ∀ {n : Nat} {s : St}, wpLoop (wp (Evals P T g) b) Q n s → ∃ N k e s', (∀ M j, N ≤ M → k ≤ j → iter (runS (callN P T g M M) M b) j s = some (e, s')) ∧ Q e s'
  | 0, s, H => H.elim
  | n + 1, s, H => by
    simp only [wpLoop] at H
    obtain ⟨N, e, s', hN, H⟩ := hb H
    cases e with
    | normal =>
      obtain ⟨N2, k, e2, s2, hN2, hQ⟩ := wpLoop_run hb H
      refine ⟨max N N2, k + 1, e2, s2, fun M j hM hj => ?_, hQ⟩
      obtain ⟨j, rfl⟩ : ∃ i, j = i + 1 := ⟨j - 1, by omega⟩
      simp only [iter, hN M (by omega)]
      exact hN2 M j (by omega) (by omega)
    | exit id =>
      refine ⟨N, 1, _, s', fun M j hM hj => ?_, H⟩
      obtain ⟨j, rfl⟩ : ∃ i, j = i + 1 := ⟨j - 1, by omega⟩
      simp only [iter, hN M hM]
    | ret =>
      refine ⟨N, 1, _, s', fun M j hM hj => ?_, H⟩
      obtain ⟨j, rfl⟩ : ∃ i, j = i + 1 := ⟨j - 1, by omega⟩
      simp only [iter, hN M hM]

/-- What the precondition promises comes about. -/
theorem wp_run : ∀ {c : SC} {s : St} {Q : Ex → St → Prop}, wp (Evals P T g) c s Q → ∃ N e s', (∀ M, N ≤ M → runS (callN P T g M M) M c s = some (e, s')) ∧ Q e s'
  | .skip, s, Q, H => ⟨0, _, _, fun _ _ => rfl, H⟩
  | .ops l ks, s, Q, H => by
    obtain ⟨N, tm, h, hN, hQ⟩ := wpOps_run H
    exact ⟨N, _, _, fun M hM => by simp only [runS, hN M hM], hQ⟩
  | .draw l cl ks, s, Q, H => by
    obtain ⟨N, rs, tm, h, hN, hc, hQ⟩ := wpTrace_run H
    refine ⟨N, _, _, fun M hM => ?_, hQ⟩
    have : ((sEffs rs 0).isEmpty || sReads (callN P T g M M) s.fr cl (sEffs rs 0 ++ [(l.length, h)]) rs 0) = true := by
      rw [Bool.or_eq_true] at hc ⊢
      exact hc.imp id (sReads_mono (noCall_le _))
    simp only [runS, sDraw, hN M hM, this, cond_true]
  | .rangeF f ps assign body keep n, s, Q, H => by
    simp only [wp] at H
    split at H
    · rename_i fn fs cs e
      obtain ⟨v, h, ⟨N, hN⟩, r, hr, hst, hQ⟩ := H
      have hst' : Nat.beq r.st 1 = false := by
        cases hb : Nat.beq r.st 1
        · rfl
        · exact absurd (Nat.eq_of_beq_eq_true hb) hst
      cases hj : r.jump with
      | none =>
        rw [hj] at hQ
        exact ⟨N, _, _, fun M hM => by simp only [runS, e, hN M hM, hr, hst', cond_false, hj], hQ⟩
      | some o =>
        rw [hj] at hQ
        cases o with
        | none => exact ⟨N, _, _, fun M hM => by simp only [runS, e, hN M hM, hr, hst', cond_false, hj], hQ⟩
        | some id => exact ⟨N, _, _, fun M hM => by simp only [runS, e, hN M hM, hr, hst', cond_false, hj], hQ⟩
    · exact H.elim
  | .seq a b, s, Q, H => by
    obtain ⟨N, e, s', hN, H⟩ := wp_run (c := a) H
    cases e with
    | normal =>
      obtain ⟨N2, e2, s2, hN2, hQ⟩ := wp_run (c := b) H
      exact ⟨max N N2, e2, s2, fun M hM => by simp only [runS, hN M (by omega), hN2 M (by omega)], hQ⟩
    | exit id => exact ⟨N, _, _, fun M hM => by simp only [runS, hN M hM], H⟩
    | ret => exact ⟨N, _, _, fun M hM => by simp only [runS, hN M hM], H⟩
  | .cond c a b, s, Q, H => by
    simp only [wp, ifThen] at H
    split at H
    · rename_i t e
      cases t with
      | true =>
        obtain ⟨N, x, s', hN, hQ⟩ := wp_run (c := a) (H.1 rfl)
        exact ⟨N, x, s', fun M hM => by simp only [runS, e, cond_true, hN M hM], hQ⟩
      | false =>
        obtain ⟨N, x, s', hN, hQ⟩ := wp_run (c := b) (H.2 rfl)
        exact ⟨N, x, s', fun M hM => by simp only [runS, e, cond_false, hN M hM], hQ⟩
    · exact H.elim
  | .block id b, s, Q, H => by
    obtain ⟨N, e, s', hN, H⟩ := wp_run (c := b) H
    cases e with
    | normal => exact ⟨N, _, _, fun M hM => by simp only [runS, hN M hM], H⟩
    | ret => exact ⟨N, _, _, fun M hM => by simp only [runS, hN M hM], H⟩
    | exit j =>
      simp only [onBlk] at H
      by_cases hj : j = id
      · rw [if_pos hj] at H
        exact ⟨N, _, _, fun M hM => by simp only [runS, hN M hM, hj, Nat.beq_refl, cond_true], H⟩
      · rw [if_neg hj] at H
        exact ⟨N, _, _, fun M hM => by simp only [runS, hN M hM, nb hj, cond_false], H⟩
  | .loop b, s, Q, H => by
    obtain ⟨n, H⟩ := H
    obtain ⟨N, k, e, s', hN, hQ⟩ := wpLoop_run (fun H => wp_run H) H
    exact ⟨max N k, e, s', fun M hM => by simp only [runS]; exact hN M M (by omega) (by omega), hQ⟩
  | .exit id, s, Q, H => ⟨0, _, _, fun _ _ => rfl, H⟩
  | .ret, s, Q, H => ⟨0, _, _, fun _ _ => rfl, H⟩

/-- A call of a function ends as its body does. -/
theorem evals_func {f : Nat} {sf : SFun} (hc : compF P f = some sf) {args : List AV} {h : Hp} {Q : AV → Hp → Prop} (hlen : Nat.ble args.length sf.nt = true)
    (H : wp (Evals P T g) sf.body { fr := initS sf.slots args, hp := { h with base := h.next, esc := false } } fun e s => (match e with | .exit _ => False | _ => True) ∧ ∃ vs, sresVs s.fr s.hp sf.res = some vs ∧ Q (resOf vs) (leave g h (resOf vs) s.hp)) (hT : T f args h = none := by rfl) :
    ∃ v h', Evals P T g (.func f) args h (v, h') ∧ Q v h' := by
  obtain ⟨N, e, s', hN, he, vs, hvs, hQ⟩ := wp_run H
  refine ⟨_, _, ⟨N + 1, fun M hM => ?_⟩, hQ⟩
  obtain ⟨M, rfl⟩ : ∃ i, M = i + 1 := ⟨M - 1, by omega⟩
  have hr := hN M (by omega)
  have step : enterF P (callN P T g M M) g M f args h = some (resOf vs, leave g h (resOf vs) s'.hp) := by
    refine enterF_S hc ?_
    rw [enterS, hlen, hr]
    cases e with
    | normal => simp only [cond_true, exitS, hvs]
    | exit _ => exact he.elim
    | ret => simp only [cond_true, exitS, hvs]
  show (match T f args h with
      | some r => some r
      | none => enterF P (callN P T g (M + 1) M) g (M + 1) f args h) = _
  rw [hT]
  exact enterF_mono (callN_mono (Nat.le_refl _) (by omega)) (by omega) step

/-- A call of the table. -/
theorem evals_tab {f : Nat} {args : List AV} {h h' : Hp} {v : AV} (hT : T f args h = some (v, h')) : Evals P T g (.func f) args h (v, h') :=
  ⟨1, fun M hM => by
    obtain ⟨M, rfl⟩ : ∃ i, M = i + 1 := ⟨M - 1, by omega⟩
    simp only [callN, hT]⟩

end
end Go.Abs

namespace Go.Abs
open Go

/-- The interpreter over compiled functions. -/
def callS (P : Program) (T : Tab) (F : Nat → Option SFun) (g : Bool) (m : Nat) : Nat → CallF
  | 0 => fun _ _ _ => none
  | n + 1 => fun f args h => match f with
    | .func f => match T f args h with
      | some r => some r
      | none => match F f with
        | some sf => enterS (callS P T F g m n) g m sf args h
        | none => none
    | .yield l => enterY P (callS P T F g m n) m l args h

theorem callS_le {P : Program} {T : Tab} {F : Nat → Option SFun} (hF : ∀ f sf, F f = some sf → compF P f = some sf) {g : Bool} {m : Nat} : ∀ {n : Nat}, Le (callS P T F g m n) (callN P T g m n)
  | 0 => fun t a h r e => by cases e
  | n + 1 => fun t a h r e => by
    have ih := callS_le (T := T) hF (g := g) (m := m) (n := n)
    cases t with
    | func f =>
      simp only [callS] at e
      simp only [callN]
      split at e
      · rename_i x ht
        simp only [ht]
        exact e
      · rename_i ht
        simp only [ht]
        split at e
        · rename_i sf hf
          exact enterF_mono ih (Nat.le_refl _) (enterF_S (hF _ _ hf) e)
        · cases e
    | yield l => exact enterY_mono ih (Nat.le_refl _) e

theorem Closed.runS {P : Program} (hm : P.follows .mixedOrders = true) {T : Tab} (hT : TabOK P T) {F : Nat → Option SFun} (hF : ∀ f sf, F f = some sf → compF P f = some sf) {g : Bool} {m k f : Nat} {args : List AV} {v : AV} (ha : args.all plain = true) (hv : plainR v = true)
    (e : (callS P T F g m k (.func f) args ⟨0, [], [], 0, false⟩).map (·.1) = some v) : Closed P f args v := by
  rw [Option.map_eq_some_iff] at e
  obtain ⟨⟨v', h'⟩, e, rfl⟩ := e
  exact Closed.run hm hT ha hv (callS_le hF _ _ _ _ e)

def lkSF : List (Nat × SFun) → Nat → Option SFun
  | [], _ => none
  | (i, s) :: r, f => bif Nat.beq i f then some s else lkSF r f

def AllF (P : Program) (l : List (Nat × SFun)) : Prop := ∀ f sf, lkSF l f = some sf → compF P f = some sf

theorem allF_nil {P : Program} : AllF P [] := fun _ _ h => by cases h
theorem allF_cons {P : Program} {i : Nat} {s : SFun} {r : List (Nat × SFun)} (h : compF P i = some s) (hr : AllF P r) : AllF P ((i, s) :: r) := fun f sf e => by
  simp only [lkSF] at e
  cases hb : Nat.beq i f
  · rw [hb] at e
    exact hr f sf e
  · rw [hb] at e
    cases e
    rw [← Nat.eq_of_beq_eq_true hb]
    exact h
theorem lkSF_ok {P : Program} {l : List (Nat × SFun)} (h : AllF P l) : ∀ f sf, lkSF l f = some sf → compF P f = some sf := h

end Go.Abs
