/- Compiled statements and functions. Where a compiled loop over a function finds its pieces. -/
import Derived.Test.YtbomimhfldmlbaaDoorSC
set_option linter.unusedSimpArgs false
set_option linter.unusedVariables false
namespace Go.Abs
open Go

inductive SC where
  | skip
  | ops (l : List SOper) (ks : List Nat)
  | draw (l : List DOper) (cl ks : List Nat)
  | rangeF (f : SX) (ps : Array Nat) (assign body : Code) (keep n : Nat)
  | seq (a b : SC)
  | cond (c : SX) (a b : SC)
  | block (id : Nat) (b : SC)
  | loop (b : SC)
  | exit (id : Nat)
  | ret

def commitS (ks : List Nat) : Fr → Fr → Fr
  | [], fr => fr
  | (t, v) :: r, fr => bif ks.elem t then setF (commitS ks r fr) t v else commitS ks r fr

def runS (call : CallF) (m : Nat) : SC → St → Option (Ex × St)
  | .skip, s => some (.normal, s)
  | .ops l ks, s => match sOps call s.fr l [] s.hp with
    | some (tm, h) => some (.normal, { fr := commitS ks tm s.fr, hp := h })
    | none => none
  | .draw l cl ks, s => match sDraw call s.fr l cl l.length s.hp with
    | some (tm, h) => some (.normal, { fr := commitS ks tm s.fr, hp := h })
    | none => none
  | .rangeF f ps assign body keep n, s => match sev (lkF s.fr) f with
    | .fn (.func g) fs cs =>
      let l := s.hp.next
      match call (.func g) (fs ++ [.yld l] ++ cs) { s.hp with next := l + 1, loops := (l, { st := 0, jump := none, ps, assign, body, keep, n, fr := s.fr }) :: s.hp.loops } with
      | some (_, h) => match lkL h.loops l with
        | some r => bif Nat.beq r.st 1 then none else
          let s' : St := { s with hp := { h with loops := delL h.loops l } }
          match r.jump with
          | none => some (.normal, s')
          | some none => some (.ret, s')
          | some (some id) => some (.exit id, s')
        | none => none
      | none => none
    | _ => none
  | .seq a b, s => match runS call m a s with
    | some (.normal, s') => runS call m b s'
    | r => r
  | .cond c a b, s => match sev (lkF s.fr) c with
    | .bool t => bif t then runS call m a s else runS call m b s
    | _ => none
  | .block id b, s => match runS call m b s with
    | some (.exit j, s') => bif Nat.beq j id then some (.normal, s') else some (.exit j, s')
    | r => r
  | .loop b, s => iter (runS call m b) m s
  | .exit id, s => some (.exit id, s)
  | .ret, s => some (.ret, s)

def keptD (keep : Nat) (l : List DOper) : List Nat := l.filterMap fun d => match d.o.dst with
  | some t => bif Nat.testBit keep t then some t else none
  | none => none

def mkSeq : SC → SC → SC
  | .skip, b => b
  | a, .skip => a
  | a, b => .seq a b

theorem mkSeq_run (call : CallF) (m : Nat) (a b : SC) (s : St) : runS call m (mkSeq a b) s = match runS call m a s with
    | some (.normal, s') => runS call m b s'
    | r => r := by
  unfold mkSeq
  split
  · rfl
  · split
    · rename_i e; rw [e]; rfl
    · rfl
  · rfl

def compC (P : Program) (keep n : Nat) : Code → Option SC
  | .skip => some .skip
  | .label _ => some .skip
  | .region _ ops false => (cOpers P n ops ops.toList).map fun l => .ops (l.map (·.o)) (keptD keep l)
  | .region _ ops true => match cOpers P n ops ops.toList with
    | some l => bif orderOK ops (clos ops.toList []) && l.all (fun d => !d.o.op.isCv) then
        bif l.all (fun d => !d.eff) || l.all (fun d => !d.rd) then some (.ops (l.map (·.o)) (keptD keep l)) else some (.draw l (clos ops.toList []) (keptD keep l))
      else none
    | none => none
  | .rangeFunc f ps assign body => some (.rangeF (cX f) ps assign body keep n)
  | .seq a b => match compC P keep n a, compC P keep n b with
    | some a, some b => some (mkSeq a b)
    | _, _ => none
  | .cond c a b => match compC P keep n a, compC P keep n b with
    | some a, some b => some (.cond (cX c) a b)
    | _, _ => none
  | .block id b => (compC P keep n b).map (.block id)
  | .loop b => (compC P keep n b).map .loop
  | .exit id => some (.exit id)
  | .ret => some .ret
  | _ => none

section
variable {P : Program} {call : CallF} {n m keep : Nat} {ops : Array Oper} {fr : Fr}

theorem sOps_keys : ∀ {l : List SOper} {tm tm' : Fr} {h h' : Hp}, sOps call fr l tm h = some (tm', h') → ∀ p ∈ tm', p ∈ tm ∨ some p.1 ∈ l.map (·.dst)
  | [], tm, tm', h, h', e, p, hp => by cases e; exact .inl hp
  | o :: r, tm, tm', h, h', e, p, hp => by
    have key : ∀ {v : AV} {h1 : Hp}, sOps call fr r (sput o.dst v tm) h1 = some (tm', h') → p ∈ tm ∨ some p.1 ∈ (o :: r).map (·.dst) := fun e => by
      rcases sOps_keys e p hp with h2 | h2
      · unfold sput at h2
        split at h2
        · exact .inl h2
        · rename_i d hd
          rcases List.mem_cons.1 h2 with rfl | h2
          · exact .inr (by simp [hd])
          · exact .inl h2
      · exact .inr (by simp only [List.map_cons, List.mem_cons]; exact .inr h2)
    simp only [sOps] at e
    split at e
    · split at e
      · exact key e
      · cases e
    · exact key e
    · cases e

theorem kept_elem {l : List DOper} {t : Nat} (ht : some t ∈ (l.map (·.o)).map (·.dst)) : (keptD keep l).elem t = keep.testBit t := by
  cases hk : keep.testBit t
  · rw [Bool.eq_false_iff]
    intro h
    have h := List.elem_iff.1 h
    unfold keptD at h
    rw [List.mem_filterMap] at h
    obtain ⟨d, _, h⟩ := h
    split at h
    · rename_i u _
      cases hu : keep.testBit u
      · simp [hu] at h
      · simp only [hu, cond_true, Option.some.injEq] at h
        rw [← h, hu] at hk
        cases hk
    · cases h
  · refine List.elem_iff.2 ?_
    unfold keptD
    rw [List.mem_filterMap]
    rw [List.map_map, List.mem_map] at ht
    obtain ⟨d, hd, e⟩ := ht
    refine ⟨d, hd, ?_⟩
    simp only [Function.comp_apply] at e
    rw [e]
    simp only [hk, cond_true]

theorem commitS_eq {ks : List Nat} : ∀ {tm fr : Fr}, (∀ p ∈ tm, ks.elem p.1 = keep.testBit p.1) → commit keep tm fr = commitS ks tm fr
  | [], fr, _ => rfl
  | (t, v) :: r, fr, h => by
    have h1 := h (t, v) (by simp)
    simp only at h1
    simp only [commit, commitS, h1, commitS_eq fun p hp => h p (List.mem_cons_of_mem _ hp)]

theorem commit_ops {l : List DOper} {h h' : Hp} {tm : Fr} (e : sOps call fr (l.map (·.o)) [] h = some (tm, h')) : commit keep tm fr = commitS (keptD keep l) tm fr :=
  commitS_eq fun p hp => by
    rcases sOps_keys e p hp with h | h
    · cases h
    · exact kept_elem h

theorem sEffs_nil : ∀ {rs : List SRec} {i : Nat}, (∀ r ∈ rs, r.eff = false) → sEffs rs i = []
  | [], i, _ => rfl
  | r :: rs, i, h => by simp only [sEffs, h r (by simp), cond_false]; exact sEffs_nil fun r hr => h r (by simp [hr])

theorem sReads_none {cl : List Nat} {hs : List (Nat × Hp)} : ∀ {rs : List SRec} {i : Nat}, (∀ r ∈ rs, r.rd = false) → sReads call fr cl hs rs i = true
  | [], i, _ => rfl
  | r :: rs, i, h => by
    simp only [sReads, h r (by simp), Bool.and_false, Bool.not_false, Bool.true_or, Bool.true_and]
    exact sReads_none fun r hr => h r (List.mem_cons_of_mem _ hr)

theorem sReads_nil {cl : List Nat} : ∀ {rs : List SRec} {i : Nat}, sReads call fr cl [] rs i = true
  | [], i => rfl
  | r :: rs, i => by simp [sReads, sReads_nil]

/-- Where the records' flags come from. -/
theorem sTrace_flags : ∀ {l : List DOper} {tm : Fr} {h : Hp} {rs : List SRec} {x : Fr × Hp}, sTrace call fr l tm h = some (rs, x) → ∀ r ∈ rs, ∃ d ∈ l, r.rd = d.rd ∧ r.eff = d.eff
  | [], tm, h, rs, x, e, r, hr => by cases e; cases hr
  | d :: l, tm, h, rs, x, e, r, hr => by
    simp only [sTrace] at e
    split at e
    · split at e
      · split at e
        · rename_i e2
          cases e
          rcases List.mem_cons.1 hr with rfl | hr
          · exact ⟨d, by simp, rfl, rfl⟩
          · obtain ⟨d', h1, h2⟩ := sTrace_flags e2 r hr
            exact ⟨d', by simp [h1], h2⟩
        · cases e
      · cases e
    · split at e
      · rename_i e2
        cases e
        rcases List.mem_cons.1 hr with rfl | hr
        · exact ⟨d, by simp, rfl, rfl⟩
        · obtain ⟨d', h1, h2⟩ := sTrace_flags e2 r hr
          exact ⟨d', by simp [h1], h2⟩
      · cases e
    · cases e

theorem cOpers_length : ∀ {os : List Oper} {l : List DOper}, cOpers P n ops os = some l → l.length = os.length
  | [], l, h => by cases h; rfl
  | o :: r, l, h => by
    simp only [cOpers] at h
    split at h
    · rename_i h1 h2
      cases h
      simp [cOpers_length h2]
    · cases h

theorem runDraw_run {l : List DOper} (hc : cOpers P n ops ops.toList = some l) (ho : orderOK ops (clos ops.toList []) = true) (hn : ∀ d ∈ l, d.o.op.isCv = false) {h : Hp} {x : Fr × Hp} :
    (sDraw call fr l (clos ops.toList []) l.length h = some x → runDraw P call n ops fr h = some x ∧ sOps call fr (l.map (·.o)) [] h = some x) ∧
    ((l.all (fun d => !d.eff) || l.all (fun d => !d.rd)) = true → sOps call fr (l.map (·.o)) [] h = some x → runDraw P call n ops fr h = some x) := by
  have hlen : l.length = ops.size := by simpa using cOpers_length hc
  have fin : ∀ {ss : List SRec}, sTrace call fr l [] h = some (ss, x) → ((sEffs ss 0).isEmpty || sReads call fr (clos ops.toList []) (sEffs ss 0 ++ [(ops.size, x.2)]) ss 0) = true → runDraw P call n ops fr h = some x ∧ sOps call fr (l.map (·.o)) [] h = some x := fun {ss} e hr => by
    obtain ⟨rs, h1, h2, h3⟩ := sTrace_run hc hn e
    refine ⟨?_, h3⟩
    obtain ⟨tm, h'⟩ := x
    unfold runDraw
    rw [h1]
    have hE := sEffs_eq h2 0
    have : (orderOK ops (clos ops.toList []) && ((effHeaps rs 0).isEmpty || readsOK P call ops fr (clos ops.toList []) (effHeaps rs 0 ++ [(ops.size, h')]) rs 0)) = true := by
      rw [ho, Bool.true_and, hE]
      rw [Bool.or_eq_true] at hr ⊢
      exact hr.imp id (sReads_run _ _ h2 0)
    simp only [this, cond_true]
  refine ⟨fun e => ?_, fun hq e => ?_⟩
  · unfold sDraw at e
    split at e
    · rename_i ss tm h' e1
      cases hcond : ((sEffs ss 0).isEmpty || sReads call fr (clos ops.toList []) (sEffs ss 0 ++ [(l.length, h')]) ss 0)
      · simp [hcond] at e
      · simp only [hcond, cond_true, Option.some.injEq] at e
        subst e
        exact fin e1 (by rw [← hlen]; exact hcond)
    · cases e
  · obtain ⟨ss, e1⟩ := sOps_trace e
    refine (fin e1 ?_).1
    rw [Bool.or_eq_true] at hq ⊢
    rcases hq with hq | hq
    · left
      rw [sEffs_nil fun r hr => ?_]
      · rfl
      · obtain ⟨d, h5, _, h6⟩ := sTrace_flags e1 r hr
        rw [h6]
        simpa using List.all_eq_true.1 hq d h5
    · right
      refine sReads_none fun r hr => ?_
      obtain ⟨d, h5, h6, _⟩ := sTrace_flags e1 r hr
      rw [h6]
      simpa using List.all_eq_true.1 hq d h5

theorem compC_sound : ∀ {c : Code} {sc : SC}, compC P keep n c = some sc → ∀ {s : St} {r : Ex × St}, runS call m sc s = some r → runC P call m keep n c s = some r
  | .skip, sc, h, s, r, e => by cases h; exact e
  | .label _, sc, h, s, r, e => by cases h; exact e
  | .region _ ops false, sc, h, s, r, e => by
    simp only [compC] at h
    cases hc : cOpers P n ops ops.toList with
    | none => simp [hc] at h
    | some l =>
      simp only [hc, Option.map_some, Option.some.injEq] at h
      subst h
      simp only [runS] at e
      simp only [runC]
      split at e
      · rename_i tm h' e1
        rw [sOps_run hc e1]
        cases e
        simp only [commit_ops e1]
      · cases e
  | .region _ ops true, sc, h, s, r, e => by
    simp only [compC] at h
    split at h
    · rename_i l hc
      cases ho : (orderOK ops (clos ops.toList []) && l.all (fun d => !d.o.op.isCv))
      · simp [ho] at h
      · simp only [ho, cond_true] at h
        simp only [Bool.and_eq_true, List.all_eq_true] at ho
        have hn : ∀ d ∈ l, d.o.op.isCv = false := fun d hd => by simpa using ho.2 d hd
        cases hq : (l.all (fun d => !d.eff) || l.all (fun d => !d.rd))
        · simp only [hq, cond_false, Option.some.injEq] at h
          subst h
          simp only [runS] at e
          simp only [runC]
          split at e
          · rename_i tm h' e1
            obtain ⟨h1, h2⟩ := (runDraw_run (call := call) (fr := s.fr) hc ho.1 hn).1 e1
            rw [h1]
            cases e
            simp only [commit_ops h2]
          · cases e
        · simp only [hq, cond_true, Option.some.injEq] at h
          subst h
          simp only [runS] at e
          simp only [runC]
          split at e
          · rename_i tm h' e1
            rw [(runDraw_run (call := call) (fr := s.fr) hc ho.1 hn).2 hq e1]
            cases e
            simp only [commit_ops e1]
          · cases e
    · cases h
  | .rangeFunc f ps assign body, sc, h, s, r, e => by
    cases h
    simp only [runS, sev_cX] at e
    simp only [runC]
    revert e
    rcases ev (lkF s.fr) f with _ | _ | _ | _ | _ | _ | _ | _ | _ | _ | _ | ⟨_ | _, _, _⟩ | _ | _ | _ | _ | _ | _ <;> exact id
  | .seq a b, sc, h, s, r, e => by
    simp only [compC] at h
    split at h
    · rename_i h1 h2
      cases h
      rw [mkSeq_run] at e
      simp only [runC]
      split at e
      · rename_i s' e1
        rw [compC_sound h1 e1]
        exact compC_sound h2 e
      · rename_i hnn
        have e2 := compC_sound h1 e
        rw [e2]
        obtain ⟨x, s'⟩ := r
        cases x with
        | normal => exact absurd e (hnn s')
        | exit _ => rfl
        | ret => rfl
    · cases h
  | .cond c a b, sc, h, s, r, e => by
    simp only [compC] at h
    split at h
    · rename_i h1 h2
      cases h
      simp only [runS, sev_cX] at e
      simp only [runC]
      split at e
      · rename_i t ht
        rw [ht]
        cases t
        · exact compC_sound h2 e
        · exact compC_sound h1 e
      · cases e
    · cases h
  | .block id b, sc, h, s, r, e => by
    simp only [compC] at h
    cases hb : compC P keep n b with
    | none => simp [hb] at h
    | some b' =>
      simp only [hb, Option.map_some, Option.some.injEq] at h
      subst h
      simp only [runS] at e
      simp only [runC]
      split at e
      · rename_i j s' e1
        rw [compC_sound hb e1]
        exact e
      · rename_i hnn
        rw [compC_sound hb e]
        obtain ⟨x, s'⟩ := r
        cases x with
        | normal => rfl
        | exit j => exact absurd e (hnn j s')
        | ret => rfl
  | .loop b, sc, h, s, r, e => by
    simp only [compC] at h
    cases hb : compC P keep n b with
    | none => simp [hb] at h
    | some b' =>
      simp only [hb, Option.map_some, Option.some.injEq] at h
      subst h
      simp only [runS] at e
      simp only [runC]
      have key : ∀ {k : Nat} {s : St} {r : Ex × St}, iter (runS call m b') k s = some r → iter (runC P call m keep n b) k s = some r := by
        intro k
        induction k with
        | zero => intro s r e; cases e
        | succ k ih =>
          intro s r e
          simp only [iter] at e ⊢
          cases hs : runS call m b' s with
          | none => rw [hs] at e; cases e
          | some y =>
            rw [hs] at e
            rw [compC_sound hb hs]
            obtain ⟨x, s'⟩ := y
            cases x with
            | normal => exact ih e
            | exit _ => exact e
            | ret => exact e
      exact key e
  | .exit id, sc, h, s, r, e => by cases h; exact e
  | .ret, sc, h, s, r, e => by cases h; exact e
  | .scope _, sc, h, s, r, e => by cases h
  | .goto _, sc, h, s, r, e => by cases h

end

/- Functions -/

inductive SRes where
  | tmp (t : Nat)
  | cell (a : Nat) (k : Option Nat)

def sresV (fr : Fr) (h : Hp) : SRes → Option AV
  | .tmp t => some (lkF fr t)
  | .cell a k => match lkF fr a with
    | .ptr id off => match lkB h.blks id with
      | some b => rdC k b.cells off
      | none => none
    | _ => none

def sresVs (fr : Fr) (h : Hp) : List SRes → Option (List AV)
  | [] => some []
  | r :: rs => match sresV fr h r, sresVs fr h rs with
    | some v, some vs => some (v :: vs)
    | _, _ => none

def cRes (P : Program) : List ResultVar → Option (List SRes)
  | [] => some []
  | .tmp t :: r => (cRes P r).map (.tmp t :: ·)
  | .cell a t :: r => match rdK P t, cRes P r with
    | some k, some l => some (.cell a k :: l)
    | _, _ => none

structure SFun where
  slots : List Nat
  nt : Nat
  body : SC
  res : List SRes

def initS (slots : List Nat) (args : List AV) : Fr := slots.map fun t => (t, (args[t]?).getD .any)

def compF (P : Program) (f : Nat) : Option SFun :=
  match P.funcs[f]? with
  | some fn => match fn.body with
    | some c => bif fn.name == "runtime.NumGoroutine" then none else
      match compC P (keepOf fn c) fn.ntmps c, cRes P fn.results.toList with
      | some b, some r => some { slots := (List.range fn.ntmps).filter (keepOf fn c).testBit, nt := fn.ntmps, body := b, res := r }
      | _, _ => none
    | none => none
  | none => none

/-- The way out of a call. -/
def exitS (g : Bool) (h0 : Hp) (res : List SRes) : Option (Ex × St) → Option (AV × Hp)
  | some (.normal, s) | some (.ret, s) => match sresVs s.fr s.hp res with
    | some vs => some (resOf vs, leave g h0 (resOf vs) s.hp)
    | none => none
  | _ => none

def enterS (call : CallF) (g : Bool) (m : Nat) (sf : SFun) (args : List AV) (h : Hp) : Option (AV × Hp) :=
  bif Nat.ble args.length sf.nt then exitS g h sf.res (runS call m sf.body { fr := initS sf.slots args, hp := { h with base := h.next, esc := false } }) else none

theorem cRes_sound {P : Program} {fr : Fr} {h : Hp} : ∀ {l : List ResultVar} {rs : List SRes}, cRes P l = some rs → resVs P fr h l = sresVs fr h rs
  | [], rs, e => by cases e; rfl
  | .tmp t :: r, rs, e => by
    simp only [cRes] at e
    cases hr : cRes P r with
    | none => simp [hr] at e
    | some l =>
      simp only [hr, Option.map_some, Option.some.injEq] at e
      subst e
      simp only [resVs, sresVs, resV, sresV, cRes_sound hr]
      cases sresVs fr h l <;> rfl
  | .cell a t :: r, rs, e => by
    simp only [cRes] at e
    split at e
    · rename_i k l h1 h2
      cases e
      have : resV P fr h (.cell a t) = sresV fr h (.cell a k) := by
        simp only [resV, sresV]
        cases lkF fr a <;> try rfl
        rename_i id off
        simp only [rdC_rdK h1]
        cases lkB h.blks id <;> rfl
      simp only [resVs, sresVs, this, cRes_sound h2]
      cases sresV fr h (.cell a k) <;> cases sresVs fr h l <;> rfl
    · cases e

theorem argFr_initS (keep : Nat) : ∀ (n : Nat) (args : List AV) (i : Nat), argFr keep n args i = ((List.range' i n).filter keep.testBit).map fun t => (t, (args[t - i]?).getD .any)
  | 0, args, i => rfl
  | n + 1, args, i => by
    have ih := argFr_initS keep n args.tail (i + 1)
    have tl : ((List.range' (i + 1) n).filter keep.testBit).map (fun t => (t, (args.tail[t - (i + 1)]?).getD AV.any)) = ((List.range' (i + 1) n).filter keep.testBit).map fun t => (t, (args[t - i]?).getD .any) := by
      refine List.map_congr_left fun t ht => ?_
      have := (List.mem_range'_1.1 (List.mem_filter.1 ht).1).1
      cases args with
      | nil => simp
      | cons v r => rw [show t - i = (t - (i + 1)) + 1 by omega, List.getElem?_cons_succ, List.tail_cons]
    simp only [argFr, ih, List.range'_succ, List.filter_cons]
    cases hk : keep.testBit i
    · simp only [cond_false, Bool.false_eq_true, if_false]
      exact tl
    · simp only [cond_true, if_true, List.map_cons, tl, Nat.sub_self]
      cases args <;> rfl

theorem enterF_S {P : Program} {call : CallF} {g : Bool} {m f : Nat} {sf : SFun} (hc : compF P f = some sf) {args : List AV} {h : Hp} {r : AV × Hp} (e : enterS call g m sf args h = some r) : enterF P call g m f args h = some r := by
  unfold compF at hc
  split at hc
  · rename_i fn h1
    split at hc
    · rename_i c h2
      cases h3 : fn.name == "runtime.NumGoroutine"
      · simp only [h3, cond_false] at hc
        split at hc
        · rename_i b q h4 h5
          cases hc
          unfold enterS at e
          unfold enterF
          simp only [h1, h2, h3, Bool.not_false, Bool.and_true, argFr_initS, initS, ← List.range_eq_range', Nat.sub_zero, cRes_sound h5] at e ⊢
          cases hb : Nat.ble args.length fn.ntmps
          · simp [hb] at e
          · simp only [hb, cond_true] at e ⊢
            revert e
            generalize hq : runS call m b _ = q'
            intro e
            rcases q' with _ | ⟨_ | _ | _, s⟩
            · cases e
            · rw [compC_sound h4 hq]
              exact e
            · cases e
            · rw [compC_sound h4 hq]
              exact e
        · cases hc
      · simp [h3] at hc
    · cases hc
  · cases hc

end Go.Abs

namespace Go.Abs
open Go

def rfs : Code → List (Array Nat × Code × Code)
  | .rangeFunc _ ps a b => [(ps, a, b)]
  | .seq a b | .cond _ a b => rfs a ++ rfs b
  | .block _ b | .loop b => rfs b
  | _ => []

def rfAt (P : Program) (f k : Nat) : Array Nat × Code × Code :=
  match P.funcs[f]? with
  | some fn => match fn.body with
    | some c => (rfs c).getD k (#[], .skip, .skip)
    | none => (#[], .skip, .skip)
  | none => (#[], .skip, .skip)

end Go.Abs
