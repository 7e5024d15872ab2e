/- One compiled operation does what the operation does. -/
import Derived.Test.YtogfojkjocbahaaSA
namespace Go.Abs
open Go

theorem any_ble {o : Option Nat} {m : Nat} (h : o.any (Nat.ble · m) = true) : o.any (fun x => decide (x ≤ m)) = true := by
  cases o with
  | none => cases h
  | some x => simpa using h

theorem okGrow_okZ (P : Program) (e size need : Nat) : okGrow P e size need = (Nat.ble need 1073741824 && okZ P e size) := by
  unfold okGrow okZ
  rw [Bool.and_assoc]
  cases zeroCells P e <;> rfl

theorem append1_eq (P : Program) (h : Hp) (e size : Nat) (vs : List AV) (n : Nat) (s : AV) : append1 P h e size vs n s = sAppend (okZ P e size) h size vs n s := by
  unfold append1 sAppend
  simp only [okGrow_okZ]
  cases s <;> rfl

theorem compCall_sound {P : Program} {h : Hp} {fr : Nat → AV} {call : CallF} {b : Builtin} {ts : Array TypeId} {args : List Operand} {so : SOp} (hc : compCall P b ts args = some so) :
    builtin1 P h b ts (args.map (ev fr)) = sexec call fr h so := by
  unfold compCall at hc
  split at hc
  · rename_i x
    simp only [builtin1, List.map_cons, List.map_nil]
    split at hc
    · rename_i e
      cases hc
      rw [e]
      simp only [sexec, sev_cX]
      cases ev fr x <;> rfl
    · rename_i e
      cases hc
      rw [e]
      simp only [sexec, sev_cX]
      cases ev fr x <;> rfl
    · rename_i e
      cases hc
      rw [e]
      rfl
    · cases hc
  · rename_i x y
    cases hc
    simp only [builtin1, List.map_cons, List.map_nil, sexec, sev_cX]
    cases ev fr x <;> cases ev fr y <;> simp only [sMin] <;> first | rfl | (split <;> rfl)
  · rename_i x y
    cases hc
    simp only [builtin1, List.map_cons, List.map_nil, sexec, sev_cX]
    cases ev fr x <;> cases ev fr y <;> simp only [sMax] <;> first | rfl | (split <;> rfl)
  · rename_i s x
    simp only [builtin1, List.map_cons, List.map_nil]
    split at hc
    · rename_i t t' e
      rw [e]
      simp only
      cases hb : Nat.beq t t'
      · simp [hb] at hc
      · simp only [hb, Bool.not_true, cond_false] at hc ⊢
        split at hc
        · rename_i e' hu
          rw [hu]
          cases hs : szOf P e' with
          | none => simp [hs] at hc
          | some size =>
            simp only [hs, Option.map_some, Option.some.injEq] at hc
            subst hc
            simp only [hs, sexec, sApp, sev_cX, append1_eq]
            rfl
        · cases hc
    · cases hc
  · rename_i s x
    simp only [builtin1, List.map_cons, List.map_nil]
    split at hc
    · rename_i e' hu
      rw [hu]
      cases hs : szOf P e' with
      | none => simp [hs] at hc
      | some size =>
        simp only [hs, Option.map_some, Option.some.injEq] at hc
        subst hc
        simp only [sexec, sev_cX]
        cases ev fr s <;> simp only [sCopy, hs] <;> rfl
    · cases hc
  · cases hc

theorem comp1_sound {P : Program} {h : Hp} {fr : Nat → AV} {call : CallF} {o : Oper} {so : SOp} (hc : comp1 P o.op = some so) : exec1 P call fr h o = sexec call fr h so := by
  unfold exec1
  revert hc
  generalize o.op = op
  intro hc
  cases op <;> simp only [comp1] at hc
  case move x => cases hc; simp only [step1, sexec, sev_cX]
  case assign x => cases hc; simp only [step1, sexec, sev_cX]
  case pick c a b => cases hc; simp only [step1, sexec, sev_cX]; cases ev fr c <;> rfl
  case alloc t =>
    cases hz : zeroCells P t with
    | none => simp [hz] at hc
    | some z =>
      simp only [hz, Option.map_some, Option.some.injEq] at hc
      subst hc
      simp only [step1, sexec, hz]
  case box t x => cases hc; simp only [step1, sexec, sev_cX]; cases (ev fr x).parts <;> rfl
  case build t ps =>
    simp only [step1]
    split at hc
    · rename_i fs z h1 h2
      rw [h1, h2]
      cases h3 : fieldPlaces P fs.toList with
      | none => simp [h3] at hc
      | some pl =>
        simp only [h3, Option.map_some, Option.some.injEq] at hc
        subst hc
        simp only [sexec, evp_cX, h3]
    · rename_i n e z h1 h2
      rw [h1, h2]
      cases h3 : szOf P e with
      | none => simp [h3] at hc
      | some k =>
        simp only [h3, Option.map_some, Option.some.injEq] at hc
        subst hc
        simp only [sexec, evp_cX, h3]
    · cases hc
  case buildSlice t len ps =>
    simp only [step1]
    split at hc
    · rename_i e h1
      rw [h1]
      split at hc
      · rename_i n z h2 h3
        simp only [h2, h3]
        cases h4 : (Nat.ble (len * n) 16777216 && Nat.beq z.length n)
        · simp [h4] at hc
        · simp only [h4, cond_true, Option.some.injEq] at hc
          subst hc
          simp only [sexec, evp_cX, cond_true]
          cases fillA (fun i => some (i * n, n)) (repl z len) (List.map (fun p => (p.fst, ev fr p.snd)) ps.toList) <;> rfl
      · cases hc
    · cases hc
  case load t a =>
    simp only [step1]
    cases h1 : rdK P t with
    | none => simp [h1] at hc
    | some k =>
      simp only [h1, Option.map_some, Option.some.injEq] at hc
      subst hc
      simp only [sexec, sev_cX]
      cases ev fr a <;> simp only [sLoad]
      rename_i id off
      cases lkB h.blks id with
      | none => rfl
      | some b => simp only [rdC_rdK h1]
  case store t a x =>
    simp only [step1]
    cases h1 : szOf P t with
    | none => simp [h1] at hc
    | some k =>
      simp only [h1, Option.map_some, Option.some.injEq] at hc
      subst hc
      simp only [sexec, sev_cX]
      cases ev fr a <;> simp only [sStore]
      cases (ev fr x).parts <;> rfl
  case nilCheck x => cases hc; simp only [step1, sexec, sev_cX]; cases ev fr x <;> rfl
  case binOp op t x y => cases hc; simp only [step1, sexec, sev_cX, sBin_eq]
  case unOp op t x =>
    cases op <;> simp only [comp1] at hc <;> cases hc <;> simp only [step1, sexec, sev_cX] <;> cases ev fr x <;> rfl
  case convert src dst x =>
    simp only [step1]
    split at hc
    · rename_i u k h1 h2
      cases hc
      rw [h1, h2]
      simp only [sexec, sev_cX]
      cases ev fr x <;> rfl
    · cases hc
  case makeFunc f a c =>
    cases f <;> simp only [comp1] at hc <;> cases hc
    simp only [step1, sexec, evs_cX]
  case makeSlice t l c =>
    simp only [step1]
    split at hc
    · rename_i e h1
      rw [h1]
      split at hc
      · rename_i n z h2 h3
        cases h4 : (Nat.beq z.length n && (bytesOf P e).any (Nat.ble · 1048576))
        · simp [h4] at hc
        · simp only [h4, cond_true, Option.some.injEq] at hc
          subst hc
          simp only [Bool.and_eq_true] at h4
          have h5 := Nat.eq_of_beq_eq_true h4.1
          have h6 := any_ble h4.2
          simp only [sexec, sev_cX]
          cases int? (ev fr l) <;> cases int? (ev fr c) <;> simp only [sMks, h2, h3, h5, h6, and_true, true_and]
      · cases hc
    · cases hc
  case slice t x lo hi mx =>
    cases mx with
    | some mx =>
      cases hi with
      | none => simp only [comp1] at hc; cases hc
      | some hi =>
        simp only [comp1] at hc
        simp only [step1]
        split at hc
        · rename_i e h1
          rw [h1]
          cases h2 : szOf P e with
          | none => simp [h2] at hc
          | some k =>
            simp only [h2, Option.map_some, Option.some.injEq] at hc
            subst hc
            simp only [sexec, sev_cX, sbnd_cX]
            cases ev fr x <;> cases idx? (ev fr mx) <;> simp only [sSl3, h2]
            · rename_i id off len cap sz mv
              cases idx? (ev fr hi) <;> cases bnd fr 0 lo <;> rfl
            · rename_i mv
              rcases mv with _ | mv
              · rcases idx? (ev fr hi) with _ | _ | a <;> rcases bnd fr 0 lo with _ | _ | b <;> first | rfl | simp only [h2]
              · rfl
        · cases hc
    | none =>
      simp only [comp1] at hc
      simp only [step1]
      split at hc
      · rename_i e h1
        rw [h1]
        cases h2 : szOf P e with
        | none => simp [h2] at hc
        | some k =>
          simp only [h2, Option.map_some, Option.some.injEq] at hc
          subst hc
          simp only [sexec, sev_cX]
          cases ev fr x <;> simp only [sSlice, sbnd_cX, h2]
          · rename_i id off len cap sz
            cases bnd fr len hi <;> cases bnd fr 0 lo <;> rfl
          · rcases bnd fr 0 hi with _ | _ | a <;> rcases bnd fr 0 lo with _ | _ | b <;> rfl
          · rcases bnd fr 0 hi with _ | _ | a <;> rcases bnd fr 0 lo with _ | _ | b <;> rfl
      · cases hc
  case fieldAddr t x f =>
    simp only [step1]
    split at hc
    · rename_i fs h1
      rw [h1]
      split at hc
      · rename_i fd h2
        split at hc
        · rename_i n h3
          cases h4 : Nat.beq n 0
          · simp only [h4, cond_false, Option.some.injEq] at hc
            subst hc
            simp only [sexec, sev_cX]
            cases ev fr x <;> simp only [h2, h3, h4, cond_false]
          · simp [h4] at hc
        · cases hc
      · cases hc
    · cases hc
  case field t x f =>
    simp only [step1]
    split at hc
    · rename_i fs h1
      rw [h1]
      split at hc
      · rename_i fd h2
        cases h3 : rdK P fd.type with
        | none => simp [h3] at hc
        | some k =>
          simp only [h3, Option.map_some, Option.some.injEq] at hc
          subst hc
          simp only [sexec, sev_cX]
          cases ev fr x <;> simp only [h2, rdC_rdK h3]
      · cases hc
    · cases hc
  case indexAddr t x i =>
    simp only [step1]
    split at hc
    · rename_i e h1
      rw [h1]
      cases h2 : szOf P e with
      | none => simp [h2] at hc
      | some k =>
        simp only [h2, Option.map_some, Option.some.injEq] at hc
        subst hc
        simp only [sexec, sev_cX]
        cases ev fr x <;> simp only [sIxS]
        cases idx? (ev fr i) <;> simp only [h2]
    · rename_i len e h1
      rw [h1]
      cases h2 : szOf P e with
      | none => simp [h2] at hc
      | some k =>
        simp only [h2, Option.map_some, Option.some.injEq] at hc
        subst hc
        simp only [sexec, sev_cX]
        cases ev fr x <;> simp only [sIxA]
        cases idx? (ev fr i) <;> simp only [h2]
    · cases hc
  case index t x i =>
    simp only [step1]
    split at hc
    · rename_i len e h1
      rw [h1]
      split at hc
      · rename_i n k h2 h3
        cases hc
        simp only [sexec, sev_cX]
        cases ev fr x <;> simp only [sIx]
        cases idx? (ev fr i) <;> simp only [h2, rdC_rdK h3]
      · cases hc
    · cases hc
  case extract x i => cases hc; simp only [step1, sexec, sev_cX]; cases ev fr x <;> rfl
  case call c =>
    obtain ⟨cal, args, ats⟩ := c
    cases cal with
    | builtin b =>
      simp only at hc
      exact compCall_sound hc
    | value f =>
      simp only [Option.some.injEq] at hc
      subst hc
      simp only [sexec, sev_cX, evs_cX]
      rcases ev fr f with _ | _ | _ | _ | _ | _ | _ | _ | _ | _ | _ | ⟨_ | _, _, _⟩ | _ | _ | _ | _ | _ | _ <;> rfl
    | invoke _ _ => cases hc
  all_goals cases hc

end Go.Abs
