/- One compiled operation does what the operation does. Compiled regions. -/
import Derived.Test.YtbomimhfldmlbaaDoorSA
set_option linter.unusedSimpArgs false
set_option linter.unusedVariables false
namespace Go.Abs
open Go

theorem any_ble {o : Option Nat} {m : Nat} (h : o.any (Nat.ble · m) = true) : o.any (fun x => decide (x ≤ m)) = true := by
  cases o with
  | none => cases h
  | some x => simpa using h

theorem okGrow_okZ (P : Program) (e size need : Nat) : okGrow P e size need = (Nat.ble need 1073741824 && okZ P e size) := by
  unfold okGrow okZ
  rw [Bool.and_assoc]
  cases zeroCells P e <;> rfl

theorem append1_eq (P : Program) (h : Hp) (e size : Nat) (vs : List AV) (n : Nat) (s : AV) : append1 P h e size vs n s = sAppend (okZ P e size) h size vs n s := by
  unfold append1 sAppend
  simp only [okGrow_okZ]
  cases s <;> rfl

theorem compCall_sound {P : Program} {h : Hp} {fr : Nat → AV} {call : CallF} {b : Builtin} {ts : Array TypeId} {args : List Operand} {so : SOp} (hc : compCall P b ts args = some so) :
    builtin1 P h b ts (args.map (ev fr)) = sexec call fr h so := by
  unfold compCall at hc
  split at hc
  · rename_i x
    simp only [builtin1, List.map_cons, List.map_nil]
    split at hc
    · rename_i e
      cases hc
      rw [e]
      simp only [sexec, sev_cX]
      cases ev fr x <;> rfl
    · rename_i e
      cases hc
      rw [e]
      simp only [sexec, sev_cX]
      cases ev fr x <;> rfl
    · rename_i e
      cases hc
      rw [e]
      rfl
    · rename_i e
      cases hc
      rw [e]
      simp only [sexec, sev_cX]
    · cases hc
  · rename_i x
    simp only [builtin1, List.map_cons, List.map_nil]
    split at hc
    · rename_i e
      cases hc
      rw [e]
      simp only [sexec, sev_cX]
      cases ev fr x <;> simp only [sCap]
      rename_i cap _
      cases cap <;> rfl
    · cases hc
  · rename_i m k
    simp only [builtin1, List.map_cons, List.map_nil]
    split at hc
    · rename_i e
      cases hc
      rw [e]
      simp only [sexec, sev_cX]
    · cases hc
  · rename_i x y
    cases hc
    simp only [builtin1, List.map_cons, List.map_nil, sexec, sev_cX]
    cases ev fr x <;> cases ev fr y <;> simp only [sMin] <;> first | rfl | (split <;> rfl)
  · rename_i x y
    cases hc
    simp only [builtin1, List.map_cons, List.map_nil, sexec, sev_cX]
    cases ev fr x <;> cases ev fr y <;> simp only [sMax] <;> first | rfl | (split <;> rfl)
  · rename_i x y z
    cases hc
    simp only [builtin1, List.map_cons, List.map_nil, sexec, sev_cX]
    cases ev fr x <;> cases ev fr y <;> cases ev fr z <;> simp only [sMax3] <;> first | rfl | (split <;> rfl)
  · rename_i x
    simp only [builtin1, List.map_cons, List.map_nil]
    split at hc
    · rename_i e' hu
      rw [hu]
      split at hc
      · rename_i size z hs hz
        cases hc
        simp only [sexec, sev_cX]
        cases ev fr x <;> simp only [sClr, hs, hz] <;> rfl
      · cases hc
    · cases hc
  · rename_i s x
    simp only [builtin1, List.map_cons, List.map_nil]
    split at hc
    · rename_i t t' e
      rw [e]
      simp only
      cases hb : Nat.beq t t'
      · simp [hb] at hc
      · simp only [hb, Bool.not_true, cond_false] at hc ⊢
        split at hc
        · rename_i e' hu
          rw [hu]
          cases hs : szOf P e' with
          | none => simp [hs] at hc
          | some size =>
            simp only [hs, Option.map_some, Option.some.injEq] at hc
            subst hc
            simp only [hs, sexec, sApp, sev_cX, append1_eq]
            rfl
        · cases hc
    · cases hc
  · rename_i s x
    simp only [builtin1, List.map_cons, List.map_nil]
    split at hc
    · rename_i e' hu
      rw [hu]
      cases hs : szOf P e' with
      | none => simp [hs] at hc
      | some size =>
        simp only [hs, Option.map_some, Option.some.injEq] at hc
        subst hc
        simp only [sexec, sev_cX]
        cases ev fr s <;> simp only [sCopy, hs] <;> rfl
    · cases hc
  · cases hc

theorem comp1_sound {P : Program} {h : Hp} {fr : Nat → AV} {call : CallF} {o : Oper} {so : SOp} (hc : comp1 P o.op = some so) : execS P call fr h o = sexec call fr h so := by
  unfold execS exec1
  revert hc
  generalize o.op = op
  intro hc
  cases op <;> simp only [comp1] at hc
  case move x => cases hc; simp only [step1, sexec, sev_cX]
  case assign x => cases hc; simp only [step1, sexec, sev_cX]
  case pick c a b => cases hc; simp only [step1, sexec, sev_cX]; cases ev fr c <;> rfl
  case alloc t =>
    cases hz : zeroCells P t with
    | none => simp [hz] at hc
    | some z =>
      simp only [hz, Option.map_some, Option.some.injEq] at hc
      subst hc
      simp only [step1, sexec, hz]
  case box t x => cases hc; simp only [step1, sexec, sev_cX]; cases (ev fr x).parts <;> rfl
  case build t ps =>
    simp only [step1]
    split at hc
    · rename_i fs z h1 h2
      rw [h1, h2]
      cases h3 : fieldPlaces P fs.toList with
      | none => simp [h3] at hc
      | some pl =>
        simp only [h3, Option.map_some, Option.some.injEq] at hc
        subst hc
        simp only [sexec, evp_cX, h3]
    · rename_i n e z h1 h2
      rw [h1, h2]
      cases h3 : szOf P e with
      | none => simp [h3] at hc
      | some k =>
        simp only [h3, Option.map_some, Option.some.injEq] at hc
        subst hc
        simp only [sexec, evp_cX, h3]
    · cases hc
  case buildSlice t len ps =>
    simp only [step1]
    split at hc
    · rename_i e h1
      rw [h1]
      split at hc
      · rename_i n z h2 h3
        simp only [h2, h3]
        cases h4 : (Nat.ble (len * n) 16777216 && Nat.beq z.length n)
        · simp [h4] at hc
        · simp only [h4, cond_true, Option.some.injEq] at hc
          subst hc
          simp only [sexec, evp_cX, cond_true]
          cases fillA (fun i => some (i * n, n)) (repl z len) (List.map (fun p => (p.fst, ev fr p.snd)) ps.toList) <;> rfl
      · cases hc
    · cases hc
  case load t a =>
    simp only [step1]
    cases h1 : rdK P t with
    | none => simp [h1] at hc
    | some k =>
      simp only [h1, Option.map_some, Option.some.injEq] at hc
      subst hc
      simp only [sexec, sev_cX]
      cases ev fr a <;> simp only [sLoad]
      rename_i id off
      cases lkB h.blks id with
      | none => rfl
      | some b => simp only [rdC_rdK h1]
  case store t a x =>
    simp only [step1]
    cases h1 : szOf P t with
    | none => simp [h1] at hc
    | some k =>
      simp only [h1, Option.map_some, Option.some.injEq] at hc
      subst hc
      simp only [sexec, sev_cX]
      cases ev fr a <;> simp only [sStore]
      cases (ev fr x).parts <;> rfl
  case nilCheck x => cases hc; simp only [step1, sexec, sev_cX]; cases ev fr x <;> rfl
  case binOp op t x y => cases hc; simp only [step1, sexec, sev_cX, sBin_eq]
  case unOp op t x =>
    cases op <;> simp only [comp1] at hc <;> cases hc <;> simp only [step1, sexec, sev_cX] <;> cases ev fr x <;> rfl
  case convert src dst x =>
    simp only [step1]
    split at hc
    · rename_i e
      cases hc
      simp only [e, sexec, sev_cX]
    · rename_i e
      cases hc
      simp only [e, sexec, sev_cX]
    · rename_i e
      simp only [e]
      split at hc
      · rename_i u k h1 h2
        cases hc
        rw [h1, h2]
        simp only [sexec, sev_cX]
        cases ev fr x <;> rfl
      · cases hc
  case makeFunc f a c =>
    cases f <;> simp only [comp1] at hc <;> cases hc
    simp only [step1, sexec, evs_cX]
  case makeSlice t l c =>
    simp only [step1]
    split at hc
    · rename_i e h1
      rw [h1]
      split at hc
      · rename_i n z h2 h3
        cases h4 : (Nat.beq z.length n && (bytesOf P e).any (Nat.ble · 1048576))
        · simp [h4] at hc
        · simp only [h4, cond_true, Option.some.injEq] at hc
          subst hc
          simp only [Bool.and_eq_true] at h4
          have h5 := Nat.eq_of_beq_eq_true h4.1
          have h6 := any_ble h4.2
          simp only [sexec, sev_cX]
          cases int? (ev fr l) <;> cases int? (ev fr c) <;> simp only [sMks, h2, h3, h5, h6, and_true, true_and]
      · cases hc
    · cases hc
  case slice t x lo hi mx =>
    cases mx with
    | some mx =>
      cases hi with
      | none => simp only [comp1] at hc; cases hc
      | some hi =>
        simp only [comp1] at hc
        simp only [step1]
        split at hc
        · rename_i e h1
          rw [h1]
          cases h2 : szOf P e with
          | none => simp [h2] at hc
          | some k =>
            simp only [h2, Option.map_some, Option.some.injEq] at hc
            subst hc
            simp only [sexec, sev_cX, sbnd_cX]
            cases ev fr x <;> cases idx? (ev fr mx) <;> simp only [sSl3, h2]
            · rename_i id off len cap sz mv
              cases idx? (ev fr hi) <;> cases bnd fr 0 lo <;> rfl
            · rename_i mv
              rcases mv with _ | mv
              · rcases idx? (ev fr hi) with _ | _ | a <;> rcases bnd fr 0 lo with _ | _ | b <;> first | rfl | simp only [h2]
              · rfl
        · cases hc
    | none =>
      simp only [comp1] at hc
      simp only [step1]
      split at hc
      · rename_i e h1
        rw [h1]
        cases h2 : szOf P e with
        | none => simp [h2] at hc
        | some k =>
          simp only [h2, Option.map_some, Option.some.injEq] at hc
          subst hc
          simp only [sexec, sev_cX]
          cases ev fr x <;> simp only [sSlice, sbnd_cX, h2]
          · rename_i id off len cap sz
            cases bnd fr len hi <;> cases bnd fr 0 lo <;> rfl
          · rcases bnd fr 0 hi with _ | _ | a <;> rcases bnd fr 0 lo with _ | _ | b <;> rfl
          · rcases bnd fr 0 hi with _ | _ | a <;> rcases bnd fr 0 lo with _ | _ | b <;> rfl
      · rename_i n e h1
        rw [h1]
        cases h2 : szOf P e with
        | none => simp [h2] at hc
        | some k =>
          simp only [h2, Option.map_some, Option.some.injEq] at hc
          subst hc
          simp only [sexec, sev_cX]
          cases ev fr x <;> simp only [sArr, sbnd_cX, h2]
          cases bnd fr n hi <;> cases bnd fr 0 lo <;> rfl
      · rename_i h1
        rw [h1]
        cases hc
        simp only [sexec, sev_cX]
        cases ev fr x <;> simp only [sSlT, sbnd_cX]
        rename_i l
        cases bnd fr l.length hi <;> cases bnd fr 0 lo <;> rfl
      · cases hc
  case fieldAddr t x f =>
    simp only [step1]
    split at hc
    · rename_i fs h1
      rw [h1]
      split at hc
      · rename_i fd h2
        split at hc
        · rename_i n h3
          cases h4 : Nat.beq n 0
          · simp only [h4, cond_false, Option.some.injEq] at hc
            subst hc
            simp only [sexec, sev_cX]
            cases ev fr x <;> simp only [h2, h3, h4, cond_false]
          · simp [h4] at hc
        · cases hc
      · cases hc
    · cases hc
  case field t x f =>
    simp only [step1]
    split at hc
    · rename_i fs h1
      rw [h1]
      split at hc
      · rename_i fd h2
        cases h3 : rdK P fd.type with
        | none => simp [h3] at hc
        | some k =>
          simp only [h3, Option.map_some, Option.some.injEq] at hc
          subst hc
          simp only [sexec, sev_cX]
          cases ev fr x <;> simp only [h2, rdC_rdK h3]
      · cases hc
    · cases hc
  case indexAddr t x i =>
    simp only [step1]
    split at hc
    · rename_i e h1
      rw [h1]
      cases h2 : szOf P e with
      | none => simp [h2] at hc
      | some k =>
        simp only [h2, Option.map_some, Option.some.injEq] at hc
        subst hc
        simp only [sexec, sev_cX]
        cases ev fr x <;> simp only [sIxS]
        cases idx? (ev fr i) <;> simp only [h2]
    · rename_i len e h1
      rw [h1]
      cases h2 : szOf P e with
      | none => simp [h2] at hc
      | some k =>
        simp only [h2, Option.map_some, Option.some.injEq] at hc
        subst hc
        simp only [sexec, sev_cX]
        cases ev fr x <;> simp only [sIxA]
        cases idx? (ev fr i) <;> simp only [h2]
    · cases hc
  case index t x i =>
    simp only [step1]
    split at hc
    · rename_i len e h1
      rw [h1]
      split at hc
      · rename_i n k h2 h3
        cases hc
        simp only [sexec, sev_cX]
        cases ev fr x <;> simp only [sIx]
        cases idx? (ev fr i) <;> simp only [h2, rdC_rdK h3]
      · cases hc
    · rename_i h1
      rw [h1]
      cases hc
      simp only [sexec, sev_cX]
      cases ev fr x <;> simp only [sIxT]
      cases idx? (ev fr i) <;> rfl
    · cases hc
  case makeMap t r =>
    simp only [step1]
    split at hc
    · rename_i h1
      rw [h1]
      cases hc
      simp only [sexec]
      cases r with
      | none => rfl
      | some x =>
        simp only [Option.map_some, sMkm, sev_cX]
        cases ev fr x <;> rfl
    · cases hc
  case lookup t x i ok =>
    simp only [step1]
    split at hc
    · rename_i h1
      rw [h1]
      rw [Option.map_eq_some_iff] at hc
      obtain ⟨z, hz, rfl⟩ := hc
      simp only [hz, sexec, sev_cX]
    · cases hc
  case mapUpdate t m k v =>
    simp only [step1]
    split at hc
    · rename_i h1
      rw [h1]
      cases hc
      simp only [sexec, sev_cX]
    · cases hc
  case range t x =>
    simp only [step1]
    split at hc
    · rename_i h1
      rw [h1]
      cases hc
      simp only [sexec, sev_cX]
    · cases hc
  case next x b =>
    cases b <;> simp only [comp1] at hc
    · cases hc
      rfl
    · cases hc
  case entry x => cases hc; simp only [step1, sexec, sev_cX]
  case extract x i => cases hc; simp only [step1, sexec, sev_cX]; cases ev fr x <;> rfl
  case call c =>
    obtain ⟨cal, args, ats⟩ := c
    cases cal with
    | builtin b =>
      simp only at hc
      exact compCall_sound hc
    | value f =>
      simp only [Option.some.injEq] at hc
      subst hc
      simp only [sexec, sev_cX, evs_cX]
      rcases ev fr f with _ | _ | _ | _ | _ | _ | _ | _ | _ | _ | _ | ⟨_ | _, _, _⟩ | _ | _ | _ | _ | _ | _ <;> rfl
    | invoke _ _ => cases hc
  all_goals cases hc

end Go.Abs

namespace Go.Abs
open Go

def SX.slots : SX → List Nat
  | .t i => [i]
  | .c _ => []

def SX.slotsO : Option SX → List Nat
  | some x => x.slots
  | none => []

def SOp.slots : SOp → List Nat
  | .mov x | .box x | .nilCheck x | .not x | .neg x | .conv _ x | .fa _ x | .fld _ _ x | .ext x _ | .lenS x | .lenT x | .lenA _ x | .load _ x | .lenM x | .capS x | .rng x | .ent x | .s2b x | .b2s x | .nxt x => x.slots
  | .pick c a b => c.slots ++ a.slots ++ b.slots
  | .new _ => []
  | .build _ _ ps | .buildA _ _ ps | .buildS _ _ _ ps => ps.flatMap fun p => p.2.slots
  | .store _ a x => a.slots ++ x.slots
  | .bin _ _ x y | .mn x y | .mx x y | .app _ _ x y | .cpy _ x y | .mks _ _ x y | .ixS _ x y | .ixA _ _ x y | .ix _ _ _ x y => x.slots ++ y.slots
  | .mkf _ a c => a.flatMap SX.slots ++ c.flatMap SX.slots
  | .slice _ x lo hi => x.slots ++ SX.slotsO lo ++ SX.slotsO hi
  | .slice3 _ x lo hi top => x.slots ++ SX.slotsO lo ++ hi.slots ++ top.slots
  | .call f args => f.slots ++ args.flatMap SX.slots
  | .arr _ _ x lo hi => x.slots ++ SX.slotsO lo ++ SX.slotsO hi
  | .slT x lo hi => x.slots ++ SX.slotsO lo ++ SX.slotsO hi
  | .ixT x i => x.slots ++ i.slots
  | .mkm r => SX.slotsO r
  | .lkp _ _ _ x i => x.slots ++ i.slots
  | .mup _ m k v => m.slots ++ k.slots ++ v.slots
  | .mdel _ m k => m.slots ++ k.slots
  | .mx3 x y z => x.slots ++ y.slots ++ z.slots
  | .clr _ _ x => x.slots
  | .bad => []

def subs (a l : List Nat) : Bool := a.all l.elem

theorem subs_app {a b l : List Nat} : subs (a ++ b) l = true ↔ subs a l = true ∧ subs b l = true := by simp [subs, List.all_append]

theorem sev_msk {l : List Nat} {f : Nat → AV} {x : SX} (h : subs x.slots l = true) : sev (msk l f) x = sev f x := by
  cases x with
  | c v => rfl
  | t i =>
    simp only [SX.slots, subs, List.all_cons, List.all_nil, Bool.and_true] at h
    show (bif l.elem i then f i else .any) = f i
    rw [h]
    rfl

theorem sevs_msk {l : List Nat} {f : Nat → AV} : ∀ {xs : List SX}, subs (xs.flatMap SX.slots) l = true → xs.map (sev (msk l f)) = xs.map (sev f)
  | [], _ => rfl
  | x :: xs, h => by
    rw [List.flatMap_cons, subs_app] at h
    rw [List.map_cons, List.map_cons, sev_msk h.1, sevs_msk h.2]

theorem sevp_msk {l : List Nat} {f : Nat → AV} : ∀ {xs : List (Nat × SX)}, subs (xs.flatMap fun p => p.2.slots) l = true → xs.map (fun p => (p.1, sev (msk l f) p.2)) = xs.map (fun p => (p.1, sev f p.2))
  | [], _ => rfl
  | x :: xs, h => by
    rw [List.flatMap_cons, subs_app] at h
    rw [List.map_cons, List.map_cons, sev_msk h.1, sevp_msk h.2]

theorem sbnd_msk {l : List Nat} {f : Nat → AV} {d : Nat} {x : Option SX} (h : subs (SX.slotsO x) l = true) : sbnd (msk l f) d x = sbnd f d x := by
  cases x with
  | none => rfl
  | some x => simp only [sbnd, sev_msk h]

theorem sexec_msk {call : CallF} {h : Hp} {l : List Nat} {f : Nat → AV} {o : SOp} (hs : subs o.slots l = true) : sexec call (msk l f) h o = sexec call f h o := by
  cases o <;> simp only [SOp.slots, subs_app] at hs
  case pick c a b => simp only [sexec, sev_msk hs.1.1, sev_msk hs.1.2, sev_msk hs.2]
  case build z pl ps => simp only [sexec, sevp_msk hs]
  case buildA z n ps => simp only [sexec, sevp_msk hs]
  case buildS z len n ps => simp only [sexec, sevp_msk hs]
  case mkf g a c => simp only [sexec, sevs_msk hs.1, sevs_msk hs.2]
  case slice m x lo hi =>
    simp only [sexec, sev_msk hs.1.1]
    cases sev f x <;> simp only [sSlice, sbnd_msk hs.1.2, sbnd_msk hs.2]
  case arr n m x lo hi => simp only [sexec, sev_msk hs.1.1, sbnd_msk hs.1.2, sbnd_msk hs.2]
  case slT x lo hi =>
    simp only [sexec, sev_msk hs.1.1]
    cases sev f x <;> simp only [sSlT, sbnd_msk hs.1.2, sbnd_msk hs.2]
  case mkm r =>
    cases r with
    | none => rfl
    | some x => simp only [sexec, sMkm, sev_msk (show subs x.slots l = true from hs)]
  case mup kt m k v => simp only [sexec, sev_msk hs.1.1, sev_msk hs.1.2, sev_msk hs.2]
  case mx3 x y z => simp only [sexec, sev_msk hs.1.1, sev_msk hs.1.2, sev_msk hs.2]
  case slice3 m x lo hi mx => simp only [sexec, sev_msk hs.1.1.1, sbnd_msk hs.1.1.2, sev_msk hs.1.2, sev_msk hs.2]
  case call g args => simp only [sexec, sev_msk hs.1, sevs_msk hs.2]
  all_goals first
    | rfl
    | simp only [sexec, sev_msk hs]
    | simp only [sexec, sev_msk hs.1, sev_msk hs.2]

structure SOper where
  dst : Option Nat
  guard : Option (Nat × Bool)
  op : SOp

def swant (fr : Nat → AV) : Option (Nat × Bool) → Option Bool
  | none => some true
  | some (d, w) => match fr d with
    | .bool t => some (t == w)
    | .tu _ => some false
    | _ => none

def sput (d : Option Nat) (v : AV) (tm : Fr) : Fr :=
  match d with
  | none => tm
  | some d => (d, v) :: tm

def sOps (call : CallF) (fr : Fr) : List SOper → Fr → Hp → Option (Fr × Hp)
  | [], tm, h => some (tm, h)
  | o :: rest, tm, h =>
    match swant (look tm fr) o.guard with
    | some true => match sexec call (look tm fr) h o.op with
      | some (v, h') => sOps call fr rest (sput o.dst v tm) h'
      | none => none
    | some false => sOps call fr rest (sput o.dst (.tu []) tm) h
    | none => none

/-- One operation of a region of free order: does it read, may it change the heap? -/
structure DOper where
  o : SOper
  rd : Bool
  eff : Bool

structure SRec where
  op : SOp
  rd : Bool
  eff : Bool
  w : Bool
  v : AV
  tm : Fr
  h : Hp

def sTrace (call : CallF) (fr : Fr) : List DOper → Fr → Hp → Option (List SRec × Fr × Hp)
  | [], tm, h => some ([], tm, h)
  | d :: rest, tm, h =>
    match swant (look tm fr) d.o.guard with
    | some true => match sexec call (look tm fr) h d.o.op with
      | some (v, h') => match sTrace call fr rest (sput d.o.dst v tm) h' with
        | some (rs, x) => some ({ op := d.o.op, rd := d.rd, eff := d.eff, w := true, v, tm, h } :: rs, x)
        | none => none
      | none => none
    | some false => match sTrace call fr rest (sput d.o.dst (.tu []) tm) h with
      | some (rs, x) => some ({ op := d.o.op, rd := d.rd, eff := d.eff, w := false, v := .tu [], tm, h } :: rs, x)
      | none => none
    | none => none

def sReads (call : CallF) (fr : Fr) (cl : List Nat) (hs : List (Nat × Hp)) : List SRec → Nat → Bool
  | [], _ => true
  | r :: rest, i =>
    (!(r.w && r.rd) || hs.all fun (j, h) => rdSkip cl (hs.map (·.1)) i j || match sexec call (look r.tm fr) h r.op with
      | some (v, _) => AV.beq v r.v
      | none => false) && sReads call fr cl hs rest (i + 1)

def sEffs : List SRec → Nat → List (Nat × Hp)
  | [], _ => []
  | r :: rest, i => bif r.eff then (i, r.h) :: sEffs rest (i + 1) else sEffs rest (i + 1)

def sDraw (call : CallF) (fr : Fr) (l : List DOper) (cl : List Nat) (n : Nat) (h : Hp) : Option (Fr × Hp) :=
  match sTrace call fr l [] h with
  | some (rs, tm, h') => bif (sEffs rs 0).isEmpty || sReads call fr cl (sEffs rs 0 ++ [(n, h')]) rs 0 then some (tm, h') else none
  | none => none

def SOp.isLen : SOp → Bool
  | .lenS _ | .lenT _ | .lenA .. => true
  | _ => false

/-- What is not compiled goes nowhere. -/
def comp1B (P : Program) (op : Op) : SOp := (comp1 P op).getD .bad

def SOp.isCv : SOp → Bool
  | .s2b _ | .b2s _ | .nxt _ => true
  | _ => false

/-- Compilation of one operation in its region. -/
def cOper (P : Program) (n : Nat) (ops : Array Oper) (o : Oper) : Option DOper :=
  match comp1B P o.op with
  | so =>
    bif !(match o.dst with | some d => Nat.blt d n | none => true) then none else
    bif !subs so.slots (reads ops o) then none else
    match o.guard with
    | none => some { o := { dst := o.dst, guard := none, op := so }, rd := isRead o && !so.isLen, eff := isEff o }
    | some (j, w) => match (ops[j]?).bind (·.dst) with
      | some d => bif (reads ops o).elem d then some { o := { dst := o.dst, guard := some (d, w), op := so }, rd := isRead o && !so.isLen, eff := isEff o } else none
      | none => none

def cOpers (P : Program) (n : Nat) (ops : Array Oper) : List Oper → Option (List DOper)
  | [] => some []
  | o :: r => match cOper P n ops o, cOpers P n ops r with
    | some d, some l => some (d :: l)
    | _, _ => none

section
variable {P : Program} {call : CallF} {n : Nat} {ops : Array Oper} {fr : Fr}

theorem cOper_spec {o : Oper} {d : DOper} (hc : cOper P n ops o = some d) :
    comp1B P o.op = d.o.op ∧ subs d.o.op.slots (reads ops o) = true ∧ d.o.dst = o.dst ∧ (∀ v tm, putT n o.dst v tm = some (sput o.dst v tm)) ∧ d.rd = (isRead o && !d.o.op.isLen) ∧ d.eff = isEff o ∧
      (∀ f, want? ops f o = swant f d.o.guard) ∧ (∀ f, swant (msk (reads ops o) f) d.o.guard = swant f d.o.guard) := by
  unfold cOper at hc
  simp only at hc
  generalize h1 : comp1B P o.op = so at hc
  · cases h2 : (match o.dst with | some d => Nat.blt d n | none => true)
    · simp [h2] at hc
    · cases h3 : subs so.slots (reads ops o)
      · simp [h2, h3] at hc
      · simp only [h2, h3, Bool.not_true, cond_false] at hc
        have h4 : ∀ v tm, putT n o.dst v tm = some (sput o.dst v tm) := fun v tm => by
          unfold putT sput
          cases hd : o.dst with
          | none => rfl
          | some d => simp only [hd] at h2; simp [h2]
        split at hc
        · rename_i hg
          cases hc
          exact ⟨rfl, h3, rfl, h4, rfl, rfl, fun f => by simp [want?, hg, swant], fun f => rfl⟩
        · rename_i j w hg
          split at hc
          · rename_i s hs
            cases h5 : (reads ops o).elem s
            · simp only [h5, cond_false] at hc; cases hc
            · simp only [h5, cond_true] at hc
              cases hc
              exact ⟨rfl, h3, rfl, h4, rfl, rfl, fun f => by simp only [want?, hg, hs, swant]; cases f s <;> rfl, fun f => by simp only [swant, msk, h5, cond_true]⟩
          · cases hc

theorem comp1B_sound {h : Hp} {fr : Nat → AV} {o : Oper} {r : AV × Hp} (e : sexec call fr h (comp1B P o.op) = some r) : execS P call fr h o = some r := by
  unfold comp1B at e
  cases hc : comp1 P o.op with
  | none => simp [hc, sexec] at e
  | some so =>
    rw [hc] at e
    rw [comp1_sound hc]
    exact e

theorem comp1B_sound1 {h : Hp} {fr : Nat → AV} {o : Oper} {r : AV × Hp} (hn : (comp1B P o.op).isCv = false) (e : sexec call fr h (comp1B P o.op) = some r) : exec1 P call fr h o = some r := by
  have h1 := comp1B_sound e
  unfold execS at h1
  split at h1
  · rename_i src dst x hop
    split at h1
    · rename_i hc
      simp [comp1B, hop, comp1, hc, SOp.isCv] at hn
    · rename_i hc
      simp [comp1B, hop, comp1, hc, SOp.isCv] at hn
    · exact h1
  · exact h1

theorem sOps_run : ∀ {os : List Oper} {l : List DOper}, cOpers P n ops os = some l → ∀ {tm : Fr} {h : Hp} {x : Fr × Hp}, sOps call fr (l.map (·.o)) tm h = some x → runOps P call n ops fr os tm h = some x
  | [], l, hc, tm, h, x, e => by cases hc; exact e
  | o :: r, l, hc, tm, h, x, e => by
    simp only [cOpers] at hc
    split at hc
    · rename_i d l' h1 h2
      cases hc
      obtain ⟨a1, a2, a3, a4, a5, a6, a7, a8⟩ := cOper_spec h1
      simp only [List.map_cons, sOps] at e
      simp only [runOps, a7, a4]
      split at e
      · rename_i e1
        rw [e1]
        simp only
        split at e
        · rename_i v h' e'
          rw [← a1] at e'
          rw [comp1B_sound e']
          rw [a3] at e
          exact sOps_run h2 e
        · cases e
      · rename_i e1
        rw [e1]
        rw [a3] at e
        exact sOps_run h2 e
      · cases e
    · cases hc

/-- A record and its compiled one. -/
def RecOK (P : Program) (call : CallF) (ops : Array Oper) (fr : Fr) (r : Rec) (s : SRec) : Prop :=
  comp1B P r.o.op = s.op ∧ s.op.isCv = false ∧ subs s.op.slots (reads ops r.o) = true ∧ s.rd = (isRead r.o && !s.op.isLen) ∧ s.eff = isEff r.o ∧ s.w = r.w ∧ s.v = r.v ∧ s.tm = r.tm ∧ s.h = r.h ∧
    (r.w = true → ∃ h', sexec call (look r.tm fr) r.h s.op = some (r.v, h'))

def RecsOK (P : Program) (call : CallF) (ops : Array Oper) (fr : Fr) : List Rec → List SRec → Prop
  | [], [] => True
  | r :: rs, s :: ss => RecOK P call ops fr r s ∧ RecsOK P call ops fr rs ss
  | _, _ => False

theorem sTrace_run : ∀ {os : List Oper} {l : List DOper}, cOpers P n ops os = some l → (∀ d ∈ l, d.o.op.isCv = false) → ∀ {tm : Fr} {h : Hp} {ss : List SRec} {x : Fr × Hp}, sTrace call fr l tm h = some (ss, x) →
    ∃ rs, traceOps P call n ops fr os tm h = some (rs, x) ∧ RecsOK P call ops fr rs ss ∧ sOps call fr (l.map (·.o)) tm h = some x
  | [], l, hc, _, tm, h, ss, x, e => by cases hc; cases e; exact ⟨[], rfl, trivial, rfl⟩
  | o :: r, l, hc, hn, tm, h, ss, x, e => by
    simp only [cOpers] at hc
    split at hc
    · rename_i d l' h1 h2
      cases hc
      obtain ⟨a1, a2, a3, a4, a5, a6, a7, a8⟩ := cOper_spec h1
      have hnd := hn d (by simp)
      have hnl : ∀ d ∈ l', d.o.op.isCv = false := fun d hd => hn d (by simp [hd])
      simp only [sTrace] at e
      simp only [traceOps, List.map_cons, sOps, a7, a8, a4]
      split at e
      · rename_i e1
        rw [e1]
        simp only
        split at e
        · rename_i v h' e'
          split at e
          · rename_i rs' x' e2
            cases e
            rw [a3] at e2
            obtain ⟨rs, b1, b2, b3⟩ := sTrace_run h2 hnl e2
            have e3 : sexec call (msk (reads ops o) (look tm fr)) h d.o.op = some (v, h') := by rw [sexec_msk a2]; exact e'
            rw [← a1] at e3
            rw [comp1B_sound1 (by rw [a1]; exact hnd) e3]
            simp only [b1, e', a3, b3]
            exact ⟨_, rfl, ⟨⟨a1, hnd, a2, a5, a6, rfl, rfl, rfl, rfl, fun _ => ⟨h', e'⟩⟩, b2⟩, trivial⟩
          · cases e
        · cases e
      · rename_i e1
        rw [e1]
        simp only
        split at e
        · rename_i rs' x' e2
          cases e
          rw [a3] at e2
          obtain ⟨rs, b1, b2, b3⟩ := sTrace_run h2 hnl e2
          simp only [b1, a3, b3]
          exact ⟨_, rfl, ⟨⟨a1, hnd, a2, a5, a6, rfl, rfl, rfl, rfl, fun h => by cases h⟩, b2⟩, trivial⟩
        · cases e
      · cases e
    · cases hc

theorem sOps_trace : ∀ {l : List DOper} {tm : Fr} {h : Hp} {x : Fr × Hp}, sOps call fr (l.map (·.o)) tm h = some x → ∃ ss, sTrace call fr l tm h = some (ss, x)
  | [], tm, h, x, e => by cases e; exact ⟨[], rfl⟩
  | d :: l, tm, h, x, e => by
    simp only [List.map_cons, sOps] at e
    simp only [sTrace]
    split at e
    · split at e
      · rename_i v h' e'
        obtain ⟨ss, h1⟩ := sOps_trace e
        simp_all
      · cases e
    · obtain ⟨ss, h1⟩ := sOps_trace e
      simp_all
    · cases e

theorem sEffs_eq : ∀ {rs : List Rec} {ss : List SRec}, RecsOK P call ops fr rs ss → ∀ i, effHeaps rs i = sEffs ss i
  | [], [], _, i => rfl
  | r :: rs, s :: ss, h, i => by
    obtain ⟨⟨_, _, _, _, h1, _, _, _, h2, _⟩, h3⟩ := h
    simp only [effHeaps, sEffs, h1, h2, sEffs_eq h3]
  | [], _ :: _, h, _ => h.elim
  | _ :: _, [], h, _ => h.elim

theorem len_any {f : Nat → AV} {h h1 h2 : Hp} {o : SOp} {v : AV} (hl : o.isLen = true) (he : sexec call f h o = some (v, h1)) : ∃ h', sexec call f h2 o = some (v, h') ∧ AV.beq v v = true := by
  cases o <;> simp only [SOp.isLen] at hl <;> try (cases hl; done)
  · rename_i x
    simp only [sexec] at he ⊢
    cases hx : sev f x <;> rw [hx] at he <;> simp only [sLen] at he <;> cases he <;> exact ⟨_, rfl, by simp [AV.beq]⟩
  · rename_i x
    simp only [sexec] at he ⊢
    cases hx : sev f x <;> rw [hx] at he <;> simp only at he <;> cases he <;> exact ⟨_, rfl, by simp [AV.beq]⟩
  · simp only [sexec] at he ⊢
    cases he
    exact ⟨_, rfl, by simp [AV.beq]⟩

theorem sReads_run (cl : List Nat) (hs : List (Nat × Hp)) : ∀ {rs : List Rec} {ss : List SRec}, RecsOK P call ops fr rs ss → ∀ i, sReads call fr cl hs ss i = true → readsOK P call ops fr cl hs rs i = true
  | [], [], _, i, _ => rfl
  | [], _ :: _, h, _, _ => h.elim
  | _ :: _, [], h, _, _ => h.elim
  | r :: rs, s :: ss, h, i, e => by
    obtain ⟨⟨a1, an, a2, a3, _, a5, a6, a7, _, a9⟩, h3⟩ := h
    simp only [sReads, Bool.and_eq_true] at e
    simp only [readsOK, Bool.and_eq_true]
    refine ⟨?_, sReads_run cl hs h3 _ e.2⟩
    have e1 := e.1
    rw [a3, a5, a6, a7] at e1
    cases hw : r.w
    · simp
    · cases hr : isRead r.o
      · simp
      · have conv : ∀ {h : Hp} {v : AV} {h1 : Hp}, sexec call (look r.tm fr) h s.op = some (v, h1) → exec1 P call (msk (reads ops r.o) (look r.tm fr)) h r.o = some (v, h1) := fun {h v h1} he => by
          refine comp1B_sound1 (by rw [a1]; exact an) ?_
          rw [a1, sexec_msk a2]
          exact he
        simp only [Bool.and_self, Bool.not_true, Bool.false_or]
        rw [List.all_eq_true]
        intro ⟨j, h⟩ hj
        simp only
        cases hl : s.op.isLen
        · simp only [hw, hr, hl, Bool.not_false, Bool.and_self, Bool.not_true, Bool.false_or, List.all_eq_true] at e1
          have := e1 (j, h) hj
          simp only [Bool.or_eq_true] at this ⊢
          rcases this with h0 | h0
          · exact .inl h0
          · right
            split at h0
            · rename_i v h1 he
              rw [conv he]
              exact h0
            · cases h0
        · obtain ⟨h', e'⟩ := a9 hw
          obtain ⟨h2, e2, e3⟩ := len_any (h2 := h) hl e'
          rw [conv e2]
          simp only [e3, Bool.or_true]

end
end Go.Abs
