/- Compiled code: the operations with their types resolved, and what they do. -/
import Derived.Test.YtbomimhfldmlbaaDoorV
set_option linter.unusedSimpArgs false
set_option linter.unusedVariables false
namespace Go.Abs
open Go

inductive SX where
  | t (i : Nat)
  | c (v : AV)

/-- Which equality is asked: of bools, slices, maps, pointers, functions. -/
inductive EqC where
  | no | bool | slice | map | ptr | func | flat (n : Nat) | str
  deriving DecidableEq

inductive SOp where
  | mov (x : SX)
  | pick (c a b : SX)
  | new (cs : List AV)
  | box (x : SX)
  | build (z : List AV) (pl : List (Nat × Nat)) (ps : List (Nat × SX))
  | buildA (z : List AV) (n : Nat) (ps : List (Nat × SX))
  | buildS (z : List AV) (len n : Nat) (ps : List (Nat × SX))
  | load (k : Option Nat) (a : SX)
  | store (n : Nat) (a x : SX)
  | nilCheck (x : SX)
  | bin (op : BinOp) (c : EqC) (x y : SX)
  | not (x : SX)
  | neg (x : SX)
  | conv (k : IntKind) (x : SX)
  | mkf (g : Nat) (a c : List SX)
  | mks (z : List AV) (n : Nat) (l c : SX)
  | slice (m : Nat) (x : SX) (lo hi : Option SX)
  | slice3 (m : Nat) (x : SX) (lo : Option SX) (hi mx : SX)
  | arr (n m : Nat) (x : SX) (lo hi : Option SX)
  | fa (off : Nat) (x : SX)
  | fld (k : Option Nat) (off : Nat) (x : SX)
  | ixS (n : Nat) (x i : SX)
  | ixA (len n : Nat) (x i : SX)
  | ix (len n : Nat) (k : Option Nat) (x i : SX)
  | ext (x : SX) (i : Nat)
  | lenS (x : SX)
  | lenT (x : SX)
  | lenA (n : Nat) (x : SX)
  | mn (x y : SX)
  | mx (x y : SX)
  | mx3 (x y z : SX)
  | clr (size : Nat) (z : List AV) (x : SX)
  | app (z : Bool) (size : Nat) (s x : SX)
  | cpy (size : Nat) (s x : SX)
  | call (f : SX) (args : List SX)
  | slT (x : SX) (lo hi : Option SX)
  | ixT (x i : SX)
  | mkm (r : Option SX)
  | lkp (kt : KT) (z : AV) (ok : Bool) (x i : SX)
  | mup (kt : KT) (m k v : SX)
  | mdel (kt : KT) (m k : SX)
  | lenM (x : SX)
  | capS (x : SX)
  | rng (x : SX)
  | ent (x : SX)
  | s2b (x : SX)
  | b2s (x : SX)
  | nxt (x : SX)
  | bad

def sev (fr : Nat → AV) : SX → AV
  | .t i => fr i
  | .c v => v

def sbnd (fr : Nat → AV) (d : Nat) : Option SX → Option Nat
  | some e => idx? (sev fr e)
  | none => some d

def rdC (k : Option Nat) (cs : List AV) (off : Nat) : Option AV :=
  match k with
  | some n => (slice? cs off n).map .ag
  | none => cs[off]?

def eqFitsC (c : EqC) (a : AV) : Bool :=
  match c, a with
  | .bool, .bool _ => true
  | .slice, .sl .. | .slice, .nilsl | .slice, .esl => true
  | .map, .mp _ | .map, .nilmp => true
  | .ptr, .ptr .. | .ptr, .nilptr => true
  | .func, .fn .. | .func, .nilfn => true
  | .flat n, .ag cs => Nat.beq n cs.length
  | _, _ => false

def sBin (op : BinOp) (c : EqC) (x y : AV) : Option AV :=
  match x, y with
  | .int k a, .int k' b =>
    match op with
    | .shl | .shr => abShift op k a b
    | _ => if k = k' then abInt op k a b else none
  | .str a, .str b => bif c == .str then strBin op a b else none
  | x, y =>
    match op with
    | .eql => bif eqFitsC c x then (abEq x y).map .bool else none
    | .neq => bif eqFitsC c x then (abEq x y).map (fun b => .bool (!b)) else none
    | _ => none

def sLoad (k : Option Nat) (h : Hp) : AV → Option (AV × Hp)
  | .ptr id off => match lkB h.blks id with
    | some b => (rdC k b.cells off).map fun v => (v, h)
    | none => none
  | _ => none

def sStore (n : Nat) (h : Hp) (x : AV) : AV → Option (AV × Hp)
  | .ptr id off => match x.parts with
    | some vs => bif Nat.beq vs.length n then (h.write id off vs).map fun h' => (.any, h') else none
    | none => none
  | _ => none

def sMks (z : List AV) (n : Nat) (h : Hp) (l c : Option Int) : Option (AV × Hp) :=
  match l, c with
  | some l, some c =>
    if 0 ≤ l ∧ l ≤ c ∧ c ≤ 1048576 then
      let (i, h') := h.new (repl z c.toNat); some (.sl i 0 l.toNat (some c.toNat) n, h')
    else none
  | _, _ => none

def sSlice (m : Nat) (fr : Nat → AV) (h : Hp) (lo hi : Option SX) : AV → Option (AV × Hp)
  | .sl id off len cap sz =>
    match sbnd fr len hi, sbnd fr 0 lo with
    | some hv, some lv =>
      bif Nat.ble lv hv && Nat.beq m sz then
        match cap with
        | some c => bif Nat.ble hv c then
            bif Nat.beq c lv then some (.sl id off (hv - lv) (some 0) sz, h) else some (.sl id (off + lv * sz) (hv - lv) (some (c - lv)) sz, h)
          else none
        | none => bif Nat.ble hv len then bif Nat.blt lv len then some (.sl id (off + lv * sz) (hv - lv) none sz, h) else some (.esl, h) else none
      else none
    | _, _ => none
  | .nilsl =>
    match sbnd fr 0 hi, sbnd fr 0 lo with
    | some 0, some 0 => some (.nilsl, h)
    | _, _ => none
  | .esl =>
    match sbnd fr 0 hi, sbnd fr 0 lo with
    | some 0, some 0 => some (.esl, h)
    | _, _ => none
  | _ => none

def sSl3 (m : Nat) (h : Hp) (mx hi lo : Option Nat) : AV → Option (AV × Hp)
  | .sl id off len cap sz =>
    match mx, hi, lo with
    | some mv, some hv, some lv =>
      bif Nat.ble lv hv && Nat.beq m sz && Nat.ble hv mv && Nat.ble mv (cap.getD len) then
        bif Nat.beq mv lv then some (.sl id off (hv - lv) (some 0) sz, h) else some (.sl id (off + lv * sz) (hv - lv) (some (mv - lv)) sz, h)
      else none
    | _, _, _ => none
  | .nilsl =>
    match mx, hi, lo with
    | some 0, some 0, some 0 => some (.nilsl, h)
    | _, _, _ => none
  | _ => none

def sIxS (n : Nat) (h : Hp) (k : Option Nat) : AV → Option (AV × Hp)
  | .sl id off len _ _ => match k with
    | some k => bif Nat.blt k len then some (.ptr id (off + k * n), h) else none
    | none => none
  | _ => none

def sIxA (len n : Nat) (h : Hp) (k : Option Nat) : AV → Option (AV × Hp)
  | .ptr id off => match k with
    | some k => bif Nat.blt k len then some (.ptr id (off + k * n), h) else none
    | none => none
  | _ => none

def sIx (len n : Nat) (r : Option Nat) (h : Hp) (k : Option Nat) : AV → Option (AV × Hp)
  | .ag cs => match k with
    | some k => bif Nat.blt k len then (rdC r cs (k * n)).map fun v => (v, h) else none
    | none => none
  | _ => none

def sLen (h : Hp) : AV → Option (AV × Hp)
  | .sl _ _ len _ _ => some (.int .i64 len, h)
  | .nilsl => some (.int .i64 0, h)
  | .esl => some (.int .i64 0, h)
  | _ => none

def sMin : AV → AV → Option AV
  | .int k a, .int k' b => if k = k' then some (.int k (if b < a then b else a)) else none
  | _, _ => none

def sMax : AV → AV → Option AV
  | .int k a, .int k' b => if k = k' then some (.int k (if a < b then b else a)) else none
  | _, _ => none
def sMax3 : AV → AV → AV → Option AV
  | .int k a, .int k' b, .int k'' c => if k = k' ∧ k = k'' then some (.int k (if (if a < b then b else a) < c then c else (if a < b then b else a))) else none
  | _, _, _ => none
def sClr (size : Nat) (z : List AV) (h : Hp) : AV → Option (AV × Hp)
  | .sl id off len _ sz => bif Nat.beq sz size && Nat.beq z.length size && Nat.blt 0 len then (h.write id off (repl z len)).map fun h' => (.any, h') else none
  | _ => none

/-- append, with the type's share of the check. -/
def sAppend (z : Bool) (h : Hp) (size : Nat) (vs : List AV) (n : Nat) : AV → Option (AV × Hp)
  | .nilsl =>
    bif Nat.beq n 0 then some (.nilsl, h) else
    bif Nat.ble n 1073741824 && z && vs.all AV.isCell then
      let (i, h') := h.new vs
      some (.sl i 0 n none size, h')
    else none
  | .esl => bif Nat.beq n 0 then some (.esl, h) else none
  | .sl id off len cap sz =>
    bif !Nat.beq sz size then none else
    bif Nat.beq n 0 then some (.sl id off len cap sz, h) else
    bif !(Nat.ble (len + n) 1073741824 && z && vs.all AV.isCell) then none else
    match lkB h.blks id, cap with
    | some b, some c =>
      bif Nat.ble (len + n) c then (h.write id (off + len * sz) vs).map fun h' => (.sl id off (len + n) (some c) sz, h')
      else match slice? b.cells off (len * sz) with
        | some old => let (i, h') := h.new (old ++ vs); some (.sl i 0 (len + n) none sz, h')
        | none => none
    | some b, none =>
      bif Nat.blt 0 sz && Nat.ble (off + (len + n) * sz) b.cells.length then (h.write id (off + len * sz) vs).map fun h' => (.sl id off (len + n) none sz, h')
      else bif Nat.beq off 0 && b.wr && Nat.ble (len * sz) b.cells.length then
        some (.sl h.next 0 (len + n) none sz,
          { h with next := h.next + 1, blks := (h.next, { cells := b.cells.take (len * sz) ++ vs, ch := b.ch, wr := true }) :: trunc h.blks b.ch h.next (len * sz) })
      else none
    | none, _ => none
  | _ => none

def sApp (z : Bool) (size : Nat) (h : Hp) (s x : AV) : Option (AV × Hp) :=
  match srcCells h size x with
  | some (vs, n) => sAppend z h size vs n s
  | none => none

def sCopy (size : Nat) (h : Hp) (x : AV) : AV → Option (AV × Hp)
  | .sl id off len _ sz => match srcCells h size x with
    | some (vs, n) =>
      bif Nat.beq sz size then (h.write id off (vs.take (Nat.min n len * size))).map fun h' => (.int .i64 (Nat.min n len : Nat), h') else none
    | none => none
  | _ => none

def sArr (n m : Nat) (h : Hp) (lo hi : Option Nat) : AV → Option (AV × Hp)
  | .ptr id off =>
    match hi, lo with
    | some hv, some lv => bif Nat.ble lv hv && Nat.ble hv n then
        bif Nat.beq n lv then some (.sl id off (hv - lv) (some 0) m, h) else some (.sl id (off + lv * m) (hv - lv) (some (n - lv)) m, h) else none
    | _, _ => none
  | _ => none

def sSlT (fr : Nat → AV) (h : Hp) (lo hi : Option SX) : AV → Option (AV × Hp)
  | .str l =>
    match sbnd fr l.length hi, sbnd fr 0 lo with
    | some hv, some lv => bif Nat.ble lv hv && Nat.ble hv l.length then some (.str ((l.drop lv).take (hv - lv)), h) else none
    | _, _ => none
  | _ => none

def sIxT (h : Hp) (k : Option Nat) : AV → Option (AV × Hp)
  | .str l => match k with
    | some k => (l[k]?).map fun b => (.int .u8 b.toNat, h)
    | none => none
  | _ => none

def sMkm (fr : Nat → AV) (h : Hp) : Option SX → Option (AV × Hp)
  | none => some (.mp h.next, { h with next := h.next + 1, loops := (h.next, mapObj []) :: h.loops })
  | some x => match sev fr x with
    | .int _ _ => some (.mp h.next, { h with next := h.next + 1, loops := (h.next, mapObj []) :: h.loops })
    | _ => none

def sCap (h : Hp) : AV → Option (AV × Hp)
  | .sl _ _ _ (some c) _ => some (.int .i64 c, h)
  | .nilsl => some (.int .i64 0, h)
  | _ => none

def sCall (call : CallF) (h : Hp) (args : List AV) : AV → Option (AV × Hp)
  | .fn (.func g) fs cs => call (.func g) (fs ++ args ++ cs) h
  | .yld l => call (.yield l) args h
  | _ => none

def sexec (call : CallF) (fr : Nat → AV) (h : Hp) : SOp → Option (AV × Hp)
  | .mov x => some (sev fr x, h)
  | .pick c a b => match sev fr c with
    | .bool t => some (bif t then sev fr a else sev fr b, h)
    | _ => none
  | .new cs => let (i, h') := h.new cs; some (.ptr i 0, h')
  | .box x => match (sev fr x).parts with
    | some cs => let (i, h') := h.new cs; some (.ptr i 0, h')
    | none => none
  | .build z pl ps => (fillA (pl[·]?) z (ps.map fun p => (p.1, sev fr p.2))).map fun cs => (.ag cs, h)
  | .buildA z n ps => (fillA (fun i => some (i * n, n)) z (ps.map fun p => (p.1, sev fr p.2))).map fun cs => (.ag cs, h)
  | .buildS z len n ps => match fillA (fun i => some (i * n, n)) (repl z len) (ps.map fun p => (p.1, sev fr p.2)) with
    | some cs => let (i, h') := h.new cs; some (.sl i 0 len (some len) n, h')
    | none => none
  | .load k a => sLoad k h (sev fr a)
  | .store n a x => sStore n h (sev fr x) (sev fr a)
  | .nilCheck x => match sev fr x with
    | .ptr i o => some (.ptr i o, h)
    | _ => none
  | .bin op c x y => (sBin op c (sev fr x) (sev fr y)).map fun v => (v, h)
  | .not x => match sev fr x with
    | .bool b => some (.bool (!b), h)
    | _ => none
  | .neg x => match sev fr x with
    | .int k n => some (.int k (k.wrap (0 - n)), h)
    | _ => none
  | .conv k x => match sev fr x with
    | .int _ n => some (.int k (k.wrap n), h)
    | _ => none
  | .mkf g a c => some (.fn (.func g) (a.map (sev fr)) (c.map (sev fr)), h)
  | .mks z n l c => sMks z n h (int? (sev fr l)) (int? (sev fr c))
  | .slice m x lo hi => sSlice m fr h lo hi (sev fr x)
  | .slice3 m x lo hi mx => sSl3 m h (idx? (sev fr mx)) (idx? (sev fr hi)) (sbnd fr 0 lo) (sev fr x)
  | .arr n m x lo hi => sArr n m h (sbnd fr 0 lo) (sbnd fr n hi) (sev fr x)
  | .fa off x => match sev fr x with
    | .ptr id o => some (.ptr id (o + off), h)
    | _ => none
  | .fld k off x => match sev fr x with
    | .ag cs => (rdC k cs off).map fun v => (v, h)
    | _ => none
  | .ixS n x i => sIxS n h (idx? (sev fr i)) (sev fr x)
  | .ixA len n x i => sIxA len n h (idx? (sev fr i)) (sev fr x)
  | .ix len n k x i => sIx len n k h (idx? (sev fr i)) (sev fr x)
  | .ext x i => match sev fr x with
    | .tu vs => (vs[i]?).map fun v => (v, h)
    | _ => none
  | .lenS x => sLen h (sev fr x)
  | .lenT x => match sev fr x with
    | .str l => some (.int .i64 l.length, h)
    | _ => none
  | .lenA n _ => some (.int .i64 n, h)
  | .mn x y => (sMin (sev fr x) (sev fr y)).map fun v => (v, h)
  | .mx x y => (sMax (sev fr x) (sev fr y)).map fun v => (v, h)
  | .mx3 x y z => (sMax3 (sev fr x) (sev fr y) (sev fr z)).map fun v => (v, h)
  | .clr size z x => sClr size z h (sev fr x)
  | .app z size s x => sApp z size h (sev fr s) (sev fr x)
  | .cpy size s x => sCopy size h (sev fr x) (sev fr s)
  | .call f args => sCall call h (args.map (sev fr)) (sev fr f)
  | .slT x lo hi => sSlT fr h lo hi (sev fr x)
  | .ixT x i => sIxT h (idx? (sev fr i)) (sev fr x)
  | .mkm r => sMkm fr h r
  | .lkp kt z ok x i => aLkp kt z ok h (sev fr i) (sev fr x)
  | .mup kt m k v => aMup kt h (sev fr k) (sev fr v) (sev fr m)
  | .mdel kt m k => aMdel kt h (sev fr k) (sev fr m)
  | .lenM x => aLenM h (sev fr x)
  | .capS x => sCap h (sev fr x)
  | .rng x => aRng h (sev fr x)
  | .ent x => aEnt h (sev fr x)
  | .s2b x => aS2B h (sev fr x)
  | .b2s x => aB2S h (sev fr x)
  | .nxt _ => none
  | .bad => none

/- Compilation -/

def cX : Operand → SX
  | .tmp t => .t t
  | .const v => .c (ofV v)
  | .global _ => .c .any
  | .func f => .c (.fn (.func f) [] [])

def rdK (P : Program) (t : TypeId) : Option (Option Nat) :=
  match isAggT P t with
  | some true => (szOf P t).map some
  | some false => some none
  | none => none

def eqK (P : Program) (t : TypeId) : EqC :=
  match P.underlying t with
  | some .bool => .bool
  | some (.slice _) => .slice
  | some (.map _ _) => .map
  | some (.pointer _) => .ptr
  | some (.func _ _ _) => .func
  | some (.struct _) => (match flatN P t with | some n => .flat n | none => .no)
  | some (.array _ _) => (match flatN P t with | some n => .flat n | none => .no)
  | some .string => .str
  | _ => .no

/-- The type's share of append's check. -/
def okZ (P : Program) (e size : Nat) : Bool :=
  (bytesOf P e).any (Nat.ble · 4096) && (match zeroCells P e with | some z => Nat.beq z.length size | none => false)

def compCall (P : Program) (b : Builtin) (ts : Array TypeId) (args : List Operand) : Option SOp :=
  match b, args with
  | .len, [x] => match (ts[0]?).bind P.underlying with
    | some (.slice _) => some (.lenS (cX x))
    | some .string => some (.lenT (cX x))
    | some (.array n _) => some (.lenA n (cX x))
    | some (.map _ _) => some (.lenM (cX x))
    | _ => none
  | .cap, [x] => match (ts[0]?).bind P.underlying with
    | some (.slice _) => some (.capS (cX x))
    | _ => none
  | .delete, [m, k] => match (ts[0]?).bind P.underlying with
    | some (.map kt _) => some (.mdel (ktOf P kt) (cX m) (cX k))
    | _ => none
  | .min, [x, y] => some (.mn (cX x) (cX y))
  | .max, [x, y] => some (.mx (cX x) (cX y))
  | .max, [x, y, z] => some (.mx3 (cX x) (cX y) (cX z))
  | .clear, [x] => match (ts[0]?).bind P.underlying with
    | some (.slice e) => match szOf P e, zeroCells P e with
      | some size, some z => some (.clr size z (cX x))
      | _, _ => none
    | _ => none
  | .append, [s, x] => match ts.toList with
    | [t, t'] => bif !Nat.beq t t' then none else match P.underlying t with
      | some (.slice e) => (szOf P e).map fun size => .app (okZ P e size) size (cX s) (cX x)
      | _ => none
    | _ => none
  | .copy, [s, x] => match (ts[0]?).bind P.underlying with
    | some (.slice e) => (szOf P e).map fun size => .cpy size (cX s) (cX x)
    | _ => none
  | _, _ => none

def cPs (ps : Array (Nat × Operand)) : List (Nat × SX) := ps.toList.map fun p => (p.1, cX p.2)
def cXs (ps : Array Operand) : List SX := ps.toList.map cX

def comp1 (P : Program) : Op → Option SOp
  | .move x => some (.mov (cX x))
  | .assign x => some (.mov (cX x))
  | .pick c a b => some (.pick (cX c) (cX a) (cX b))
  | .alloc t => (zeroCells P t).map .new
  | .box _ x => some (.box (cX x))
  | .build t ps => match P.underlying t, zeroCells P t with
    | some (.struct fs), some z => (fieldPlaces P fs.toList).map fun pl => .build z pl (cPs ps)
    | some (.array _ e), some z => (szOf P e).map fun n => .buildA z n (cPs ps)
    | _, _ => none
  | .buildSlice t len ps => match P.underlying t with
    | some (.slice e) => match szOf P e, zeroCells P e with
      | some n, some z => bif Nat.ble (len * n) 16777216 && Nat.beq z.length n then some (.buildS z len n (cPs ps)) else none
      | _, _ => none
    | _ => none
  | .load t a => (rdK P t).map fun k => .load k (cX a)
  | .store t a x => (szOf P t).map fun n => .store n (cX a) (cX x)
  | .nilCheck x => some (.nilCheck (cX x))
  | .binOp op t x y _ => some (.bin op (eqK P t) (cX x) (cX y))
  | .unOp .not _ x => some (.not (cX x))
  | .unOp .neg _ x => some (.neg (cX x))
  | .convert src dst x => match cvOf P src dst with
    | .s2b => some (.s2b (cX x))
    | .b2s => some (.b2s (cX x))
    | .no => match P.underlying src, P.underlying dst with
      | some _, some (.int k) => some (.conv k (cX x))
      | _, _ => none
  | .makeFunc (.func g) a c => some (.mkf g (cXs a) (cXs c))
  | .makeSlice t l c => match P.underlying t with
    | some (.slice e) => match szOf P e, zeroCells P e with
      | some n, some z => bif Nat.beq z.length n && (bytesOf P e).any (Nat.ble · 1048576) then some (.mks z n (cX l) (cX c)) else none
      | _, _ => none
    | _ => none
  | .slice t x lo hi none => match P.underlying t with
    | some (.slice e) => (szOf P e).map fun m => .slice m (cX x) (lo.map cX) (hi.map cX)
    | some (.array n e) => (szOf P e).map fun m => .arr n m (cX x) (lo.map cX) (hi.map cX)
    | some .string => some (.slT (cX x) (lo.map cX) (hi.map cX))
    | _ => none
  | .slice t x lo (some hi) (some mx) => match P.underlying t with
    | some (.slice e) => (szOf P e).map fun m => .slice3 m (cX x) (lo.map cX) (cX hi) (cX mx)
    | _ => none
  | .fieldAddr t x f => match P.underlying t with
    | some (.struct fs) => match fs[f]? with
      | some fd => match szOf P fd.type with
        | some n => bif Nat.beq n 0 then none else some (.fa fd.offset (cX x))
        | none => none
      | none => none
    | _ => none
  | .field t x f => match P.underlying t with
    | some (.struct fs) => match fs[f]? with
      | some fd => (rdK P fd.type).map fun k => .fld k fd.offset (cX x)
      | none => none
    | _ => none
  | .indexAddr t x i => match P.underlying t with
    | some (.slice e) => (szOf P e).map fun n => .ixS n (cX x) (cX i)
    | some (.array len e) => (szOf P e).map fun n => .ixA len n (cX x) (cX i)
    | _ => none
  | .index t x i => match P.underlying t with
    | some (.array len e) => match szOf P e, rdK P e with
      | some n, some k => some (.ix len n k (cX x) (cX i))
      | _, _ => none
    | some .string => some (.ixT (cX x) (cX i))
    | _ => none
  | .makeMap t r => match P.underlying t with
    | some (.map _ _) => some (.mkm (r.map cX))
    | _ => none
  | .lookup t x i ok => match P.underlying t with
    | some (.map k e) => (zeroAV P e).map fun z => .lkp (ktOf P k) z ok (cX x) (cX i)
    | _ => none
  | .mapUpdate t m k v => match P.underlying t with
    | some (.map kt _) => some (.mup (ktOf P kt) (cX m) (cX k) (cX v))
    | _ => none
  | .range t x => match P.underlying t with
    | some (.map _ _) => some (.rng (cX x))
    | _ => none
  | .entry x => some (.ent (cX x))
  | .next x false => some (.nxt (cX x))
  | .extract x i => some (.ext (cX x) i)
  | .call c => match c.callee with
    | .builtin b => compCall P b c.argTypes c.args.toList
    | .value f => some (.call (cX f) (cXs c.args))
    | .invoke _ _ => none
  | _ => none

theorem sev_cX (fr : Nat → AV) (x : Operand) : sev fr (cX x) = ev fr x := by cases x <;> rfl

theorem rdC_rdK {P : Program} {t : TypeId} {k : Option Nat} (h : rdK P t = some k) (cs : List AV) (off : Nat) : rdVar P cs t off = rdC k cs off := by
  unfold rdK at h
  unfold rdVar
  split at h
  · rename_i e
    rw [e]
    cases hs : szOf P t with
    | none => simp [hs] at h
    | some n => simp only [hs, Option.map_some, Option.some.injEq] at h; subst h; rfl
  · rename_i e
    cases h
    rw [e]
    rfl
  · cases h

theorem eqFits_eqK (P : Program) (t : TypeId) (a : AV) : eqFits P t a = eqFitsC (eqK P t) a := by
  unfold eqFits eqK
  cases P.underlying t with
  | none => cases a <;> rfl
  | some u => cases u <;> cases a <;> first | rfl | (cases flatN P t <;> rfl)

theorem strT_eqK (P : Program) (t : TypeId) : strT P t = (eqK P t == .str) := by
  unfold strT eqK
  cases P.underlying t with
  | none => rfl
  | some u => cases u <;> first | rfl | (cases flatN P t <;> rfl)

theorem sBin_eq (P : Program) (op : BinOp) (t : TypeId) (x y : AV) : abBin P op t x y = sBin op (eqK P t) x y := by
  unfold abBin sBin
  cases x <;> cases y <;> first | rfl | (simp only [eqFits_eqK]; cases op <;> rfl) | (simp only [strT_eqK])

theorem evs_cX (fr : Nat → AV) (l : Array Operand) : (cXs l).map (sev fr) = l.toList.map (ev fr) := by
  unfold cXs
  rw [List.map_map]
  exact List.map_congr_left fun x _ => sev_cX fr x

theorem evp_cX (fr : Nat → AV) (l : Array (Nat × Operand)) : (cPs l).map (fun p => (p.1, sev fr p.2)) = l.toList.map fun p => (p.1, ev fr p.2) := by
  unfold cPs
  rw [List.map_map]
  exact List.map_congr_left fun x _ => by simp [sev_cX]

theorem sbnd_cX (fr : Nat → AV) (d : Nat) (x : Option Operand) : sbnd fr d (x.map cX) = bnd fr d x := by
  cases x <;> simp [sbnd, bnd, sev_cX]

end Go.Abs
