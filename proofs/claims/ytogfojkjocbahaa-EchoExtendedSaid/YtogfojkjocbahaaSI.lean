/- Weakest preconditions of compiled code. -/
import Derived.Test.YtogfojkjocbahaaSH
namespace Go.Abs
open Go

def noCall : CallF := fun _ _ _ => none

abbrev Spec := Tgt → List AV → Hp → AV × Hp → Prop

def andThen (x : Option (AV × Hp)) (K : AV → Hp → Prop) : Prop :=
  match x with
  | some (v, h) => K v h
  | none => False

def callThen (C : Spec) (f : AV) (args : List AV) (h : Hp) (K : AV → Hp → Prop) : Prop :=
  match f with
  | .fn (.func g) fs cs => ∃ v h', C (.func g) (fs ++ args ++ cs) h (v, h') ∧ K v h'
  | .yld l => ∃ v h', C (.yield l) args h (v, h') ∧ K v h'
  | _ => False

def wpOp (C : Spec) (f : Nat → AV) (h : Hp) (o : SOp) (K : AV → Hp → Prop) : Prop :=
  match o with
  | .call g args => callThen C (sev f g) (args.map (sev f)) h K
  | o => andThen (sexec noCall f h o) K

/-- A test: of a guard, or of a statement. -/
def ifThen (b : AV) (A B : Prop) : Prop :=
  match b with
  | .bool t => (t = true → A) ∧ (t = false → B)
  | _ => False

/-- A guard: what was left out wants nothing. -/
def gIf (b : AV) (w : Bool) (A B : Prop) : Prop :=
  match b with
  | .bool t => (t = w → A) ∧ (t = (!w) → B)
  | .tu _ => B
  | _ => False

def wpG (f : Nat → AV) (g : Option (Nat × Bool)) (A B : Prop) : Prop :=
  match g with
  | none => A
  | some (d, w) => gIf (f d) w A B

def wpOps (C : Spec) (fr : Fr) : List SOper → Fr → Hp → (Fr → Hp → Prop) → Prop
  | [], tm, h, Q => Q tm h
  | o :: rest, tm, h, Q => wpG (look tm fr) o.guard (wpOp C (look tm fr) h o.op fun v h' => wpOps C fr rest (sput o.dst v tm) h' Q) (wpOps C fr rest (sput o.dst (.tu []) tm) h Q)

def wpTrace (C : Spec) (fr : Fr) : List DOper → Fr → Hp → (List SRec → Fr → Hp → Prop) → Prop
  | [], tm, h, Q => Q [] tm h
  | d :: rest, tm, h, Q =>
    wpG (look tm fr) d.o.guard
      (wpOp C (look tm fr) h d.o.op fun v h' => wpTrace C fr rest (sput d.o.dst v tm) h' fun rs => Q ({ op := d.o.op, rd := d.rd, eff := d.eff, w := true, v, tm, h } :: rs))
      (wpTrace C fr rest (sput d.o.dst (.tu []) tm) h fun rs => Q ({ op := d.o.op, rd := d.rd, eff := d.eff, w := false, v := .tu [], tm, h } :: rs))

def wpLoop (W : St → (Ex → St → Prop) → Prop) (Q : Ex → St → Prop) : Nat → St → Prop
  | 0, _ => False
  | n + 1, s => W s fun e s' => match e with
    | .normal => wpLoop W Q n s'
    | e => Q e s'

def onEx (e : Ex) (s : St) (N : St → Prop) (Q : Ex → St → Prop) : Prop :=
  match e with
  | .normal => N s
  | e => Q e s

def onBlk (id : Nat) (e : Ex) (s : St) (Q : Ex → St → Prop) : Prop :=
  match e with
  | .exit j => if j = id then Q .normal s else Q (.exit j) s
  | e => Q e s

def wp (C : Spec) : SC → St → (Ex → St → Prop) → Prop
  | .skip, s, Q => Q .normal s
  | .ops l ks, s, Q => wpOps C s.fr l [] s.hp fun tm h => Q .normal { fr := commitS ks tm s.fr, hp := h }
  | .draw l cl ks, s, Q => wpTrace C s.fr l [] s.hp fun rs tm h =>
      ((sEffs rs 0).isEmpty || sReads noCall s.fr cl (sEffs rs 0 ++ [(l.length, h)]) rs 0) = true ∧ Q .normal { fr := commitS ks tm s.fr, hp := h }
  | .rangeF f ps assign body keep n, s, Q => match sev (lkF s.fr) f with
    | .fn (.func g) fs cs => ∃ v h, C (.func g) (fs ++ [.yld s.hp.next] ++ cs) { s.hp with next := s.hp.next + 1, loops := (s.hp.next, { st := 0, jump := none, ps, assign, body, keep, n, fr := s.fr }) :: s.hp.loops } (v, h) ∧
        ∃ r, lkL h.loops s.hp.next = some r ∧ r.st ≠ 1 ∧ (match r.jump with
          | none => Q .normal
          | some none => Q .ret
          | some (some id) => Q (.exit id)) { s with hp := { h with loops := delL h.loops s.hp.next } }
    | _ => False
  | .seq a b, s, Q => wp C a s fun e s' => onEx e s' (fun s' => wp C b s' Q) Q
  | .cond c a b, s, Q => ifThen (sev (lkF s.fr) c) (wp C a s Q) (wp C b s Q)
  | .block id b, s, Q => wp C b s fun e s' => onBlk id e s' Q
  | .loop b, s, Q => ∃ n, wpLoop (wp C b) Q n s
  | .exit id, s, Q => Q (.exit id) s
  | .ret, s, Q => Q .ret s

/-- The calls that end. -/
def Evals (P : Program) (T : Tab) (g : Bool) : Spec := fun t args h r => ∃ N, ∀ M, N ≤ M → callN P T g M M t args h = some r

section
variable {P : Program} {T : Tab} {g : Bool}

theorem noCall_le (call : CallF) : Le noCall call := fun _ _ _ _ h => by cases h

theorem sexec_mono {call call' : CallF} (hl : Le call call') {f : Nat → AV} {h : Hp} {o : SOp} {r : AV × Hp} (e : sexec call f h o = some r) : sexec call' f h o = some r := by
  cases o
  case call x args =>
    simp only [sexec] at e ⊢
    rcases hx : sev f x with _ | _ | _ | _ | _ | _ | _ | _ | _ | _ | _ | ⟨_ | _, _, _⟩ | _ | _ | _ | _ | _ | _ <;> rw [hx] at e <;> simp only [sCall] at e ⊢ <;> first | exact hl _ _ _ _ e | cases e
  all_goals exact e

theorem sReads_mono {call call' : CallF} (hl : Le call call') {fr : Fr} {cl : List Nat} {hs : List (Nat × Hp)} : ∀ {rs : List SRec} {i : Nat}, sReads call fr cl hs rs i = true → sReads call' fr cl hs rs i = true
  | [], i, e => e
  | r :: rs, i, e => by
    simp only [sReads, Bool.and_eq_true, Bool.or_eq_true, List.all_eq_true] at e ⊢
    refine ⟨?_, sReads_mono hl e.2⟩
    rcases e.1 with h | h
    · exact .inl h
    · refine .inr fun x hx => ?_
      rcases h x hx with h | h
      · exact .inl h
      · right
        split at h
        · rename_i he
          simp only [sexec_mono hl he]
          exact h
        · cases h

theorem wpOp_run {f : Nat → AV} {h : Hp} {o : SOp} {K : AV → Hp → Prop} (H : wpOp (Evals P T g) f h o K) : ∃ N v h', (∀ M, N ≤ M → sexec (callN P T g M M) f h o = some (v, h')) ∧ K v h' := by
  have plain : andThen (sexec noCall f h o) K → ∃ N v h', (∀ M, N ≤ M → sexec (callN P T g M M) f h o = some (v, h')) ∧ K v h' := fun H => by
    unfold andThen at H
    split at H
    · rename_i v h' e
      exact ⟨0, v, h', fun M _ => sexec_mono (noCall_le _) e, H⟩
    · exact H.elim
  cases o
  case call x args =>
    simp only [wpOp, callThen] at H
    simp only [sexec]
    split at H
    · rename_i fn fs cs e
      obtain ⟨v, h', ⟨N, hN⟩, hk⟩ := H
      exact ⟨N, v, h', fun M hM => by rw [e]; exact hN M hM, hk⟩
    · rename_i l e
      obtain ⟨v, h', ⟨N, hN⟩, hk⟩ := H
      exact ⟨N, v, h', fun M hM => by rw [e]; exact hN M hM, hk⟩
    · exact H.elim
  all_goals exact plain H

theorem wpG_run {f : Nat → AV} {gd : Option (Nat × Bool)} {A B : Prop} (H : wpG f gd A B) : (swant f gd = some true ∧ A) ∨ (swant f gd = some false ∧ B) := by
  unfold wpG at H
  split at H
  · exact .inl ⟨rfl, H⟩
  · rename_i d w
    unfold gIf at H
    split at H
    · rename_i t e
      by_cases hw : t = w
      · exact .inl ⟨by simp [swant, e, hw], H.1 hw⟩
      · have hw' : t = (!w) := by cases t <;> cases w <;> simp_all
        exact .inr ⟨by simp [swant, e, hw'], H.2 hw'⟩
    · rename_i e
      exact .inr ⟨by simp [swant, e], H⟩
    · exact H.elim

theorem wpOps_run {fr : Fr} : ∀ {l : List SOper} {tm : Fr} {h : Hp} {Q : Fr → Hp → Prop}, wpOps (Evals P T g) fr l tm h Q → ∃ N tm' h', (∀ M, N ≤ M → sOps (callN P T g M M) fr l tm h = some (tm', h')) ∧ Q tm' h'
  | [], tm, h, Q, H => ⟨0, tm, h, fun _ _ => rfl, H⟩
  | o :: rest, tm, h, Q, H => by
    simp only [wpOps] at H
    rcases wpG_run H with ⟨e, H⟩ | ⟨e, H⟩
    · obtain ⟨N, v, h', hN, H⟩ := wpOp_run H
      obtain ⟨N2, tm', h2, hN2, hQ⟩ := wpOps_run H
      exact ⟨max N N2, tm', h2, fun M hM => by simp only [sOps, e, hN M (by omega), hN2 M (by omega)], hQ⟩
    · obtain ⟨N2, tm', h2, hN2, hQ⟩ := wpOps_run H
      exact ⟨N2, tm', h2, fun M hM => by simp only [sOps, e, hN2 M (by omega)], hQ⟩

theorem wpTrace_run {fr : Fr} : ∀ {l : List DOper} {tm : Fr} {h : Hp} {Q : List SRec → Fr → Hp → Prop}, wpTrace (Evals P T g) fr l tm h Q → ∃ N rs tm' h', (∀ M, N ≤ M → sTrace (callN P T g M M) fr l tm h = some (rs, tm', h')) ∧ Q rs tm' h'
  | [], tm, h, Q, H => ⟨0, [], tm, h, fun _ _ => rfl, H⟩
  | o :: rest, tm, h, Q, H => by
    simp only [wpTrace] at H
    rcases wpG_run H with ⟨e, H⟩ | ⟨e, H⟩
    · obtain ⟨N, v, h', hN, H⟩ := wpOp_run H
      obtain ⟨N2, rs, tm', h2, hN2, hQ⟩ := wpTrace_run H
      exact ⟨max N N2, _, tm', h2, fun M hM => by simp only [sTrace, e, hN M (by omega), hN2 M (by omega)], hQ⟩
    · obtain ⟨N2, rs, tm', h2, hN2, hQ⟩ := wpTrace_run H
      exact ⟨N2, _, tm', h2, fun M hM => by simp only [sTrace, e, hN2 M (by omega)], hQ⟩

theorem wpLoop_run {b : SC} (hb : ∀ {s : St} {Q : Ex → St → Prop}, wp (Evals P T g) b s Q → ∃ N e s', (∀ M, N ≤ M → runS (callN P T g M M) M b s = some (e, s')) ∧ Q e s') {Q : Ex → St → Prop} :
    ∀ {n : Nat} {s : St}, wpLoop (wp (Evals P T g) b) Q n s → ∃ N k e s', (∀ M j, N ≤ M → k ≤ j → iter (runS (callN P T g M M) M b) j s = some (e, s')) ∧ Q e s'
  | 0, s, H => H.elim
  | n + 1, s, H => by
    simp only [wpLoop] at H
    obtain ⟨N, e, s', hN, H⟩ := hb H
    cases e with
    | normal =>
      obtain ⟨N2, k, e2, s2, hN2, hQ⟩ := wpLoop_run hb H
      refine ⟨max N N2, k + 1, e2, s2, fun M j hM hj => ?_, hQ⟩
      obtain ⟨j, rfl⟩ : ∃ i, j = i + 1 := ⟨j - 1, by omega⟩
      simp only [iter, hN M (by omega)]
      exact hN2 M j (by omega) (by omega)
    | exit id =>
      refine ⟨N, 1, _, s', fun M j hM hj => ?_, H⟩
      obtain ⟨j, rfl⟩ : ∃ i, j = i + 1 := ⟨j - 1, by omega⟩
      simp only [iter, hN M hM]
    | ret =>
      refine ⟨N, 1, _, s', fun M j hM hj => ?_, H⟩
      obtain ⟨j, rfl⟩ : ∃ i, j = i + 1 := ⟨j - 1, by omega⟩
      simp only [iter, hN M hM]

/-- What the precondition promises comes about. -/
theorem wp_run : ∀ {c : SC} {s : St} {Q : Ex → St → Prop}, wp (Evals P T g) c s Q → ∃ N e s', (∀ M, N ≤ M → runS (callN P T g M M) M c s = some (e, s')) ∧ Q e s'
  | .skip, s, Q, H => ⟨0, _, _, fun _ _ => rfl, H⟩
  | .ops l ks, s, Q, H => by
    obtain ⟨N, tm, h, hN, hQ⟩ := wpOps_run H
    exact ⟨N, _, _, fun M hM => by simp only [runS, hN M hM], hQ⟩
  | .draw l cl ks, s, Q, H => by
    obtain ⟨N, rs, tm, h, hN, hc, hQ⟩ := wpTrace_run H
    refine ⟨N, _, _, fun M hM => ?_, hQ⟩
    have : ((sEffs rs 0).isEmpty || sReads (callN P T g M M) s.fr cl (sEffs rs 0 ++ [(l.length, h)]) rs 0) = true := by
      rw [Bool.or_eq_true] at hc ⊢
      exact hc.imp id (sReads_mono (noCall_le _))
    simp only [runS, sDraw, hN M hM, this, cond_true]
  | .rangeF f ps assign body keep n, s, Q, H => by
    simp only [wp] at H
    split at H
    · rename_i fn fs cs e
      obtain ⟨v, h, ⟨N, hN⟩, r, hr, hst, hQ⟩ := H
      have hst' : Nat.beq r.st 1 = false := by
        cases hb : Nat.beq r.st 1
        · rfl
        · exact absurd (Nat.eq_of_beq_eq_true hb) hst
      cases hj : r.jump with
      | none =>
        rw [hj] at hQ
        exact ⟨N, _, _, fun M hM => by simp only [runS, e, hN M hM, hr, hst', cond_false, hj], hQ⟩
      | some o =>
        rw [hj] at hQ
        cases o with
        | none => exact ⟨N, _, _, fun M hM => by simp only [runS, e, hN M hM, hr, hst', cond_false, hj], hQ⟩
        | some id => exact ⟨N, _, _, fun M hM => by simp only [runS, e, hN M hM, hr, hst', cond_false, hj], hQ⟩
    · exact H.elim
  | .seq a b, s, Q, H => by
    obtain ⟨N, e, s', hN, H⟩ := wp_run (c := a) H
    cases e with
    | normal =>
      obtain ⟨N2, e2, s2, hN2, hQ⟩ := wp_run (c := b) H
      exact ⟨max N N2, e2, s2, fun M hM => by simp only [runS, hN M (by omega), hN2 M (by omega)], hQ⟩
    | exit id => exact ⟨N, _, _, fun M hM => by simp only [runS, hN M hM], H⟩
    | ret => exact ⟨N, _, _, fun M hM => by simp only [runS, hN M hM], H⟩
  | .cond c a b, s, Q, H => by
    simp only [wp, ifThen] at H
    split at H
    · rename_i t e
      cases t with
      | true =>
        obtain ⟨N, x, s', hN, hQ⟩ := wp_run (c := a) (H.1 rfl)
        exact ⟨N, x, s', fun M hM => by simp only [runS, e, cond_true, hN M hM], hQ⟩
      | false =>
        obtain ⟨N, x, s', hN, hQ⟩ := wp_run (c := b) (H.2 rfl)
        exact ⟨N, x, s', fun M hM => by simp only [runS, e, cond_false, hN M hM], hQ⟩
    · exact H.elim
  | .block id b, s, Q, H => by
    obtain ⟨N, e, s', hN, H⟩ := wp_run (c := b) H
    cases e with
    | normal => exact ⟨N, _, _, fun M hM => by simp only [runS, hN M hM], H⟩
    | ret => exact ⟨N, _, _, fun M hM => by simp only [runS, hN M hM], H⟩
    | exit j =>
      simp only [onBlk] at H
      by_cases hj : j = id
      · rw [if_pos hj] at H
        exact ⟨N, _, _, fun M hM => by simp only [runS, hN M hM, hj, Nat.beq_refl, cond_true], H⟩
      · rw [if_neg hj] at H
        exact ⟨N, _, _, fun M hM => by simp only [runS, hN M hM, nb hj, cond_false], H⟩
  | .loop b, s, Q, H => by
    obtain ⟨n, H⟩ := H
    obtain ⟨N, k, e, s', hN, hQ⟩ := wpLoop_run (fun H => wp_run H) H
    exact ⟨max N k, e, s', fun M hM => by simp only [runS]; exact hN M M (by omega) (by omega), hQ⟩
  | .exit id, s, Q, H => ⟨0, _, _, fun _ _ => rfl, H⟩
  | .ret, s, Q, H => ⟨0, _, _, fun _ _ => rfl, H⟩

/-- A call of a function ends as its body does. -/
theorem evals_func {f : Nat} {sf : SFun} (hc : compF P f = some sf) {args : List AV} {h : Hp} {Q : AV → Hp → Prop} (hlen : Nat.ble args.length sf.nt = true)
    (H : wp (Evals P T g) sf.body { fr := initS sf.slots args, hp := { h with base := h.next, esc := false } } fun e s => (match e with | .exit _ => False | _ => True) ∧ ∃ vs, sresVs s.fr s.hp sf.res = some vs ∧ Q (resOf vs) (leave g h (resOf vs) s.hp)) (hT : T f args = none := by rfl) :
    ∃ v h', Evals P T g (.func f) args h (v, h') ∧ Q v h' := by
  obtain ⟨N, e, s', hN, he, vs, hvs, hQ⟩ := wp_run H
  refine ⟨_, _, ⟨N + 1, fun M hM => ?_⟩, hQ⟩
  obtain ⟨M, rfl⟩ : ∃ i, M = i + 1 := ⟨M - 1, by omega⟩
  have hr := hN M (by omega)
  have step : enterF P (callN P T g M M) g M f args h = some (resOf vs, leave g h (resOf vs) s'.hp) := by
    rw [enterF_S hc, enterS, hlen, hr]
    cases e with
    | normal => simp only [cond_true, exitS, hvs]
    | exit _ => exact he.elim
    | ret => simp only [cond_true, exitS, hvs]
  show (match T f args with
      | some v => some (v, h)
      | none => enterF P (callN P T g (M + 1) M) g (M + 1) f args h) = _
  rw [hT]
  exact enterF_mono (callN_mono (Nat.le_refl _) (by omega)) (by omega) step

/-- A call of the table. -/
theorem evals_tab {f : Nat} {args : List AV} {h : Hp} {v : AV} (hT : T f args = some v) : Evals P T g (.func f) args h (v, h) :=
  ⟨1, fun M hM => by
    obtain ⟨M, rfl⟩ : ∃ i, M = i + 1 := ⟨M - 1, by omega⟩
    simp only [callN, hT]⟩

end
end Go.Abs
