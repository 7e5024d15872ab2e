/- Compiled code: the operations with their types resolved, and what they do. One compiled operation does what the operation does. Compiled regions. Compiled statements and functions. Where a compiled loop over a function finds its pieces. -/
import Derived.Test.YtelalpohbodolaaDoorU
set_option linter.unusedSimpArgs false
set_option linter.unusedVariables false
namespace Go.Abs
open Go

inductive SX where
  | t (i : Nat)
  | c (v : AV)

/-- Which equality is asked: of bools, slices, maps, pointers, functions. -/
inductive EqC where
  | no | bool | slice | map | ptr | func | flat (n : Nat) | str
  deriving DecidableEq

inductive SOp where
  | mov (x : SX)
  | pick (c a b : SX)
  | new (cs : List AV)
  | box (x : SX)
  | build (z : List AV) (pl : List (Nat × Nat)) (ps : List (Nat × SX))
  | buildA (z : List AV) (n : Nat) (ps : List (Nat × SX))
  | buildS (z : List AV) (len n : Nat) (ps : List (Nat × SX))
  | load (k : Option Nat) (a : SX)
  | store (n : Nat) (a x : SX)
  | nilCheck (x : SX)
  | bin (op : BinOp) (c : EqC) (x y : SX)
  | not (x : SX)
  | neg (x : SX)
  | conv (k : IntKind) (x : SX)
  | mkf (g : Nat) (a c : List SX)
  | mks (z : List AV) (n : Nat) (l c : SX)
  | slice (m : Nat) (x : SX) (lo hi : Option SX)
  | slice3 (m : Nat) (x : SX) (lo : Option SX) (hi mx : SX)
  | arr (n m : Nat) (x : SX) (lo hi : Option SX)
  | fa (off : Nat) (x : SX)
  | fld (k : Option Nat) (off : Nat) (x : SX)
  | ixS (n : Nat) (x i : SX)
  | ixA (len n : Nat) (x i : SX)
  | ix (len n : Nat) (k : Option Nat) (x i : SX)
  | ext (x : SX) (i : Nat)
  | lenS (x : SX)
  | lenT (x : SX)
  | lenA (n : Nat) (x : SX)
  | mn (x y : SX)
  | mx (x y : SX)
  | mx3 (x y z : SX)
  | clr (size : Nat) (z : List AV) (x : SX)
  | app (z : Bool) (size : Nat) (s x : SX)
  | cpy (size : Nat) (s x : SX)
  | call (f : SX) (args : List SX)
  | slT (x : SX) (lo hi : Option SX)
  | ixT (x i : SX)
  | mkm (r : Option SX)
  | lkp (kt : KT) (z : AV) (ok : Bool) (x i : SX)
  | mup (kt : KT) (m k v : SX)
  | mdel (kt : KT) (m k : SX)
  | lenM (x : SX)
  | capS (x : SX)
  | rng (x : SX)
  | ent (x : SX)
  | s2b (x : SX)
  | b2s (x : SX)
  | nxt (x : SX)
  | bad

def sev (fr : Nat → AV) : SX → AV
  | .t i => fr i
  | .c v => v

def sbnd (fr : Nat → AV) (d : Nat) : Option SX → Option Nat
  | some e => idx? (sev fr e)
  | none => some d

def rdC (k : Option Nat) (cs : List AV) (off : Nat) : Option AV :=
  match k with
  | some n => (slice? cs off n).map .ag
  | none => cs[off]?

def eqFitsC (c : EqC) (a : AV) : Bool :=
  match c, a with
  | .bool, .bool _ => true
  | .slice, .sl .. | .slice, .nilsl | .slice, .esl => true
  | .map, .mp _ | .map, .nilmp => true
  | .ptr, .ptr .. | .ptr, .nilptr => true
  | .func, .fn .. | .func, .nilfn => true
  | .flat n, .ag cs => Nat.beq n cs.length
  | _, _ => false

def sBin (op : BinOp) (c : EqC) (x y : AV) : Option AV :=
  match x, y with
  | .int k a, .int k' b =>
    match op with
    | .shl | .shr => abShift op k a b
    | _ => if k = k' then abInt op k a b else none
  | .str a, .str b => bif c == .str then strBin op a b else none
  | x, y =>
    match op with
    | .eql => bif eqFitsC c x then (abEq x y).map .bool else none
    | .neq => bif eqFitsC c x then (abEq x y).map (fun b => .bool (!b)) else none
    | _ => none

def sLoad (k : Option Nat) (h : Hp) : AV → Option (AV × Hp)
  | .ptr id off => match lkB h.blks id with
    | some b => (rdC k b.cells off).map fun v => (v, h)
    | none => none
  | _ => none

def sStore (n : Nat) (h : Hp) (x : AV) : AV → Option (AV × Hp)
  | .ptr id off => match x.parts with
    | some vs => bif Nat.beq vs.length n then (h.write id off vs).map fun h' => (.any, h') else none
    | none => none
  | _ => none

def sMks (z : List AV) (n : Nat) (h : Hp) (l c : Option Int) : Option (AV × Hp) :=
  match l, c with
  | some l, some c =>
    if 0 ≤ l ∧ l ≤ c ∧ c ≤ 1048576 then
      let (i, h') := h.new (repl z c.toNat); some (.sl i 0 l.toNat (some c.toNat) n, h')
    else none
  | _, _ => none

def sSlice (m : Nat) (fr : Nat → AV) (h : Hp) (lo hi : Option SX) : AV → Option (AV × Hp)
  | .sl id off len cap sz =>
    match sbnd fr len hi, sbnd fr 0 lo with
    | some hv, some lv =>
      bif Nat.ble lv hv && Nat.beq m sz then
        match cap with
        | some c => bif Nat.ble hv c then
            bif Nat.beq c lv then some (.sl id off (hv - lv) (some 0) sz, h) else some (.sl id (off + lv * sz) (hv - lv) (some (c - lv)) sz, h)
          else none
        | none => bif Nat.ble hv len then bif Nat.blt lv len then some (.sl id (off + lv * sz) (hv - lv) none sz, h) else some (.esl, h) else none
      else none
    | _, _ => none
  | .nilsl =>
    match sbnd fr 0 hi, sbnd fr 0 lo with
    | some 0, some 0 => some (.nilsl, h)
    | _, _ => none
  | .esl =>
    match sbnd fr 0 hi, sbnd fr 0 lo with
    | some 0, some 0 => some (.esl, h)
    | _, _ => none
  | _ => none

def sSl3 (m : Nat) (h : Hp) (mx hi lo : Option Nat) : AV → Option (AV × Hp)
  | .sl id off len cap sz =>
    match mx, hi, lo with
    | some mv, some hv, some lv =>
      bif Nat.ble lv hv && Nat.beq m sz && Nat.ble hv mv && Nat.ble mv (cap.getD len) then
        bif Nat.beq mv lv then some (.sl id off (hv - lv) (some 0) sz, h) else some (.sl id (off + lv * sz) (hv - lv) (some (mv - lv)) sz, h)
      else none
    | _, _, _ => none
  | .nilsl =>
    match mx, hi, lo with
    | some 0, some 0, some 0 => some (.nilsl, h)
    | _, _, _ => none
  | _ => none

def sIxS (n : Nat) (h : Hp) (k : Option Nat) : AV → Option (AV × Hp)
  | .sl id off len _ _ => match k with
    | some k => bif Nat.blt k len then some (.ptr id (off + k * n), h) else none
    | none => none
  | _ => none

def sIxA (len n : Nat) (h : Hp) (k : Option Nat) : AV → Option (AV × Hp)
  | .ptr id off => match k with
    | some k => bif Nat.blt k len then some (.ptr id (off + k * n), h) else none
    | none => none
  | _ => none

def sIx (len n : Nat) (r : Option Nat) (h : Hp) (k : Option Nat) : AV → Option (AV × Hp)
  | .ag cs => match k with
    | some k => bif Nat.blt k len then (rdC r cs (k * n)).map fun v => (v, h) else none
    | none => none
  | _ => none

def sLen (h : Hp) : AV → Option (AV × Hp)
  | .sl _ _ len _ _ => some (.int .i64 len, h)
  | .nilsl => some (.int .i64 0, h)
  | .esl => some (.int .i64 0, h)
  | _ => none

def sMin : AV → AV → Option AV
  | .int k a, .int k' b => if k = k' then some (.int k (if b < a then b else a)) else none
  | _, _ => none

def sMax : AV → AV → Option AV
  | .int k a, .int k' b => if k = k' then some (.int k (if a < b then b else a)) else none
  | _, _ => none
def sMax3 : AV → AV → AV → Option AV
  | .int k a, .int k' b, .int k'' c => if k = k' ∧ k = k'' then some (.int k (if (if a < b then b else a) < c then c else (if a < b then b else a))) else none
  | _, _, _ => none
def sClr (size : Nat) (z : List AV) (h : Hp) : AV → Option (AV × Hp)
  | .sl id off len _ sz => bif Nat.beq sz size && Nat.beq z.length size && Nat.blt 0 len then (h.write id off (repl z len)).map fun h' => (.any, h') else none
  | _ => none

/-- append, with the type's share of the check. -/
def sAppend (z : Bool) (h : Hp) (size : Nat) (vs : List AV) (n : Nat) : AV → Option (AV × Hp)
  | .nilsl =>
    bif Nat.beq n 0 then some (.nilsl, h) else
    bif Nat.ble n 1073741824 && z && vs.all AV.isCell then
      let (i, h') := h.new vs
      some (.sl i 0 n none size, h')
    else none
  | .esl => bif Nat.beq n 0 then some (.esl, h) else none
  | .sl id off len cap sz =>
    bif !Nat.beq sz size then none else
    bif Nat.beq n 0 then some (.sl id off len cap sz, h) else
    bif !(Nat.ble (len + n) 1073741824 && z && vs.all AV.isCell) then none else
    match lkB h.blks id, cap with
    | some b, some c =>
      bif Nat.ble (len + n) c then (h.write id (off + len * sz) vs).map fun h' => (.sl id off (len + n) (some c) sz, h')
      else match slice? b.cells off (len * sz) with
        | some old => let (i, h') := h.new (old ++ vs); some (.sl i 0 (len + n) none sz, h')
        | none => none
    | some b, none =>
      bif Nat.blt 0 sz && Nat.ble (off + (len + n) * sz) b.cells.length then (h.write id (off + len * sz) vs).map fun h' => (.sl id off (len + n) none sz, h')
      else bif Nat.beq off 0 && b.wr && Nat.ble (len * sz) b.cells.length then
        some (.sl h.next 0 (len + n) none sz,
          { h with next := h.next + 1, blks := (h.next, { cells := b.cells.take (len * sz) ++ vs, ch := b.ch, wr := true }) :: trunc h.blks b.ch h.next (len * sz) })
      else none
    | none, _ => none
  | _ => none

def sApp (z : Bool) (size : Nat) (h : Hp) (s x : AV) : Option (AV × Hp) :=
  match srcCells h size x with
  | some (vs, n) => sAppend z h size vs n s
  | none => none

def sCopy (size : Nat) (h : Hp) (x : AV) : AV → Option (AV × Hp)
  | .sl id off len _ sz => match srcCells h size x with
    | some (vs, n) =>
      bif Nat.beq sz size then (h.write id off (vs.take (Nat.min n len * size))).map fun h' => (.int .i64 (Nat.min n len : Nat), h') else none
    | none => none
  | _ => none

def sArr (n m : Nat) (h : Hp) (lo hi : Option Nat) : AV → Option (AV × Hp)
  | .ptr id off =>
    match hi, lo with
    | some hv, some lv => bif Nat.ble lv hv && Nat.ble hv n then
        bif Nat.beq n lv then some (.sl id off (hv - lv) (some 0) m, h) else some (.sl id (off + lv * m) (hv - lv) (some (n - lv)) m, h) else none
    | _, _ => none
  | _ => none

def sSlT (fr : Nat → AV) (h : Hp) (lo hi : Option SX) : AV → Option (AV × Hp)
  | .str l =>
    match sbnd fr l.length hi, sbnd fr 0 lo with
    | some hv, some lv => bif Nat.ble lv hv && Nat.ble hv l.length then some (.str ((l.drop lv).take (hv - lv)), h) else none
    | _, _ => none
  | _ => none

def sIxT (h : Hp) (k : Option Nat) : AV → Option (AV × Hp)
  | .str l => match k with
    | some k => (l[k]?).map fun b => (.int .u8 b.toNat, h)
    | none => none
  | _ => none

def sMkm (fr : Nat → AV) (h : Hp) : Option SX → Option (AV × Hp)
  | none => some (.mp h.next, { h with next := h.next + 1, loops := (h.next, mapObj []) :: h.loops })
  | some x => match sev fr x with
    | .int _ _ => some (.mp h.next, { h with next := h.next + 1, loops := (h.next, mapObj []) :: h.loops })
    | _ => none

def sCap (h : Hp) : AV → Option (AV × Hp)
  | .sl _ _ _ (some c) _ => some (.int .i64 c, h)
  | .nilsl => some (.int .i64 0, h)
  | _ => none

def sCall (call : CallF) (h : Hp) (args : List AV) : AV → Option (AV × Hp)
  | .fn (.func g) fs cs => call (.func g) (fs ++ args ++ cs) h
  | .yld l => call (.yield l) args h
  | _ => none

def sexec (call : CallF) (fr : Nat → AV) (h : Hp) : SOp → Option (AV × Hp)
  | .mov x => some (sev fr x, h)
  | .pick c a b => match sev fr c with
    | .bool t => some (bif t then sev fr a else sev fr b, h)
    | _ => none
  | .new cs => let (i, h') := h.new cs; some (.ptr i 0, h')
  | .box x => match (sev fr x).parts with
    | some cs => let (i, h') := h.new cs; some (.ptr i 0, h')
    | none => none
  | .build z pl ps => (fillA (pl[·]?) z (ps.map fun p => (p.1, sev fr p.2))).map fun cs => (.ag cs, h)
  | .buildA z n ps => (fillA (fun i => some (i * n, n)) z (ps.map fun p => (p.1, sev fr p.2))).map fun cs => (.ag cs, h)
  | .buildS z len n ps => match fillA (fun i => some (i * n, n)) (repl z len) (ps.map fun p => (p.1, sev fr p.2)) with
    | some cs => let (i, h') := h.new cs; some (.sl i 0 len (some len) n, h')
    | none => none
  | .load k a => sLoad k h (sev fr a)
  | .store n a x => sStore n h (sev fr x) (sev fr a)
  | .nilCheck x => match sev fr x with
    | .ptr i o => some (.ptr i o, h)
    | _ => none
  | .bin op c x y => (sBin op c (sev fr x) (sev fr y)).map fun v => (v, h)
  | .not x => match sev fr x with
    | .bool b => some (.bool (!b), h)
    | _ => none
  | .neg x => match sev fr x with
    | .int k n => some (.int k (k.wrap (0 - n)), h)
    | _ => none
  | .conv k x => match sev fr x with
    | .int _ n => some (.int k (k.wrap n), h)
    | _ => none
  | .mkf g a c => some (.fn (.func g) (a.map (sev fr)) (c.map (sev fr)), h)
  | .mks z n l c => sMks z n h (int? (sev fr l)) (int? (sev fr c))
  | .slice m x lo hi => sSlice m fr h lo hi (sev fr x)
  | .slice3 m x lo hi mx => sSl3 m h (idx? (sev fr mx)) (idx? (sev fr hi)) (sbnd fr 0 lo) (sev fr x)
  | .arr n m x lo hi => sArr n m h (sbnd fr 0 lo) (sbnd fr n hi) (sev fr x)
  | .fa off x => match sev fr x with
    | .ptr id o => some (.ptr id (o + off), h)
    | _ => none
  | .fld k off x => match sev fr x with
    | .ag cs => (rdC k cs off).map fun v => (v, h)
    | _ => none
  | .ixS n x i => sIxS n h (idx? (sev fr i)) (sev fr x)
  | .ixA len n x i => sIxA len n h (idx? (sev fr i)) (sev fr x)
  | .ix len n k x i => sIx len n k h (idx? (sev fr i)) (sev fr x)
  | .ext x i => match sev fr x with
    | .tu vs => (vs[i]?).map fun v => (v, h)
    | _ => none
  | .lenS x => sLen h (sev fr x)
  | .lenT x => match sev fr x with
    | .str l => some (.int .i64 l.length, h)
    | _ => none
  | .lenA n _ => some (.int .i64 n, h)
  | .mn x y => (sMin (sev fr x) (sev fr y)).map fun v => (v, h)
  | .mx x y => (sMax (sev fr x) (sev fr y)).map fun v => (v, h)
  | .mx3 x y z => (sMax3 (sev fr x) (sev fr y) (sev fr z)).map fun v => (v, h)
  | .clr size z x => sClr size z h (sev fr x)
  | .app z size s x => sApp z size h (sev fr s) (sev fr x)
  | .cpy size s x => sCopy size h (sev fr x) (sev fr s)
  | .call f args => sCall call h (args.map (sev fr)) (sev fr f)
  | .slT x lo hi => sSlT fr h lo hi (sev fr x)
  | .ixT x i => sIxT h (idx? (sev fr i)) (sev fr x)
  | .mkm r => sMkm fr h r
  | .lkp kt z ok x i => aLkp kt z ok h (sev fr i) (sev fr x)
  | .mup kt m k v => aMup kt h (sev fr k) (sev fr v) (sev fr m)
  | .mdel kt m k => aMdel kt h (sev fr k) (sev fr m)
  | .lenM x => aLenM h (sev fr x)
  | .capS x => sCap h (sev fr x)
  | .rng x => aRng h (sev fr x)
  | .ent x => aEnt h (sev fr x)
  | .s2b x => aS2B h (sev fr x)
  | .b2s x => aB2S h (sev fr x)
  | .nxt _ => none
  | .bad => none

/- Compilation -/

def cX : Operand → SX
  | .tmp t => .t t
  | .const v => .c (ofV v)
  | .global _ => .c .any
  | .func f => .c (.fn (.func f) [] [])

def rdK (P : Program) (t : TypeId) : Option (Option Nat) :=
  match isAggT P t with
  | some true => (szOf P t).map some
  | some false => some none
  | none => none

def eqK (P : Program) (t : TypeId) : EqC :=
  match P.underlying t with
  | some .bool => .bool
  | some (.slice _) => .slice
  | some (.map _ _) => .map
  | some (.pointer _) => .ptr
  | some (.func _ _ _) => .func
  | some (.struct _) => (match flatN P t with | some n => .flat n | none => .no)
  | some (.array _ _) => (match flatN P t with | some n => .flat n | none => .no)
  | some .string => .str
  | _ => .no

/-- The type's share of append's check. -/
def okZ (P : Program) (e size : Nat) : Bool :=
  (bytesOf P e).any (Nat.ble · 4096) && (match zeroCells P e with | some z => Nat.beq z.length size | none => false)

def compCall (P : Program) (b : Builtin) (ts : Array TypeId) (args : List Operand) : Option SOp :=
  match b, args with
  | .len, [x] => match (ts[0]?).bind P.underlying with
    | some (.slice _) => some (.lenS (cX x))
    | some .string => some (.lenT (cX x))
    | some (.array n _) => some (.lenA n (cX x))
    | some (.map _ _) => some (.lenM (cX x))
    | _ => none
  | .cap, [x] => match (ts[0]?).bind P.underlying with
    | some (.slice _) => some (.capS (cX x))
    | _ => none
  | .delete, [m, k] => match (ts[0]?).bind P.underlying with
    | some (.map kt _) => some (.mdel (ktOf P kt) (cX m) (cX k))
    | _ => none
  | .min, [x, y] => some (.mn (cX x) (cX y))
  | .max, [x, y] => some (.mx (cX x) (cX y))
  | .max, [x, y, z] => some (.mx3 (cX x) (cX y) (cX z))
  | .clear, [x] => match (ts[0]?).bind P.underlying with
    | some (.slice e) => match szOf P e, zeroCells P e with
      | some size, some z => some (.clr size z (cX x))
      | _, _ => none
    | _ => none
  | .append, [s, x] => match ts.toList with
    | [t, t'] => bif !Nat.beq t t' then none else match P.underlying t with
      | some (.slice e) => (szOf P e).map fun size => .app (okZ P e size) size (cX s) (cX x)
      | _ => none
    | _ => none
  | .copy, [s, x] => match (ts[0]?).bind P.underlying with
    | some (.slice e) => (szOf P e).map fun size => .cpy size (cX s) (cX x)
    | _ => none
  | _, _ => none

def cPs (ps : Array (Nat × Operand)) : List (Nat × SX) := ps.toList.map fun p => (p.1, cX p.2)
def cXs (ps : Array Operand) : List SX := ps.toList.map cX

def comp1 (P : Program) : Op → Option SOp
  | .move x => some (.mov (cX x))
  | .assign x => some (.mov (cX x))
  | .pick c a b => some (.pick (cX c) (cX a) (cX b))
  | .alloc t => (zeroCells P t).map .new
  | .box _ x => some (.box (cX x))
  | .build t ps => match P.underlying t, zeroCells P t with
    | some (.struct fs), some z => (fieldPlaces P fs.toList).map fun pl => .build z pl (cPs ps)
    | some (.array _ e), some z => (szOf P e).map fun n => .buildA z n (cPs ps)
    | _, _ => none
  | .buildSlice t len ps => match P.underlying t with
    | some (.slice e) => match szOf P e, zeroCells P e with
      | some n, some z => bif Nat.ble (len * n) 16777216 && Nat.beq z.length n then some (.buildS z len n (cPs ps)) else none
      | _, _ => none
    | _ => none
  | .load t a => (rdK P t).map fun k => .load k (cX a)
  | .store t a x => (szOf P t).map fun n => .store n (cX a) (cX x)
  | .nilCheck x => some (.nilCheck (cX x))
  | .binOp op t x y _ => some (.bin op (eqK P t) (cX x) (cX y))
  | .unOp .not _ x => some (.not (cX x))
  | .unOp .neg _ x => some (.neg (cX x))
  | .convert src dst x => match cvOf P src dst with
    | .s2b => some (.s2b (cX x))
    | .b2s => some (.b2s (cX x))
    | .no => match P.underlying src, P.underlying dst with
      | some _, some (.int k) => some (.conv k (cX x))
      | _, _ => none
  | .makeFunc (.func g) a c => some (.mkf g (cXs a) (cXs c))
  | .makeSlice t l c => match P.underlying t with
    | some (.slice e) => match szOf P e, zeroCells P e with
      | some n, some z => bif Nat.beq z.length n && (bytesOf P e).any (Nat.ble · 1048576) then some (.mks z n (cX l) (cX c)) else none
      | _, _ => none
    | _ => none
  | .slice t x lo hi none => match P.underlying t with
    | some (.slice e) => (szOf P e).map fun m => .slice m (cX x) (lo.map cX) (hi.map cX)
    | some (.array n e) => (szOf P e).map fun m => .arr n m (cX x) (lo.map cX) (hi.map cX)
    | some .string => some (.slT (cX x) (lo.map cX) (hi.map cX))
    | _ => none
  | .slice t x lo (some hi) (some mx) => match P.underlying t with
    | some (.slice e) => (szOf P e).map fun m => .slice3 m (cX x) (lo.map cX) (cX hi) (cX mx)
    | _ => none
  | .fieldAddr t x f => match P.underlying t with
    | some (.struct fs) => match fs[f]? with
      | some fd => match szOf P fd.type with
        | some n => bif Nat.beq n 0 then none else some (.fa fd.offset (cX x))
        | none => none
      | none => none
    | _ => none
  | .field t x f => match P.underlying t with
    | some (.struct fs) => match fs[f]? with
      | some fd => (rdK P fd.type).map fun k => .fld k fd.offset (cX x)
      | none => none
    | _ => none
  | .indexAddr t x i => match P.underlying t with
    | some (.slice e) => (szOf P e).map fun n => .ixS n (cX x) (cX i)
    | some (.array len e) => (szOf P e).map fun n => .ixA len n (cX x) (cX i)
    | _ => none
  | .index t x i => match P.underlying t with
    | some (.array len e) => match szOf P e, rdK P e with
      | some n, some k => some (.ix len n k (cX x) (cX i))
      | _, _ => none
    | some .string => some (.ixT (cX x) (cX i))
    | _ => none
  | .makeMap t r => match P.underlying t with
    | some (.map _ _) => some (.mkm (r.map cX))
    | _ => none
  | .lookup t x i ok => match P.underlying t with
    | some (.map k e) => (zeroAV P e).map fun z => .lkp (ktOf P k) z ok (cX x) (cX i)
    | _ => none
  | .mapUpdate t m k v => match P.underlying t with
    | some (.map kt _) => some (.mup (ktOf P kt) (cX m) (cX k) (cX v))
    | _ => none
  | .range t x => match P.underlying t with
    | some (.map _ _) => some (.rng (cX x))
    | _ => none
  | .entry x => some (.ent (cX x))
  | .next x false => some (.nxt (cX x))
  | .extract x i => some (.ext (cX x) i)
  | .call c => match c.callee with
    | .builtin b => compCall P b c.argTypes c.args.toList
    | .value f => some (.call (cX f) (cXs c.args))
    | .invoke _ _ => none
  | _ => none

theorem sev_cX (fr : Nat → AV) (x : Operand) : sev fr (cX x) = ev fr x := by cases x <;> rfl

theorem rdC_rdK {P : Program} {t : TypeId} {k : Option Nat} (h : rdK P t = some k) (cs : List AV) (off : Nat) : rdVar P cs t off = rdC k cs off := by
  unfold rdK at h
  unfold rdVar
  split at h
  · rename_i e
    rw [e]
    cases hs : szOf P t with
    | none => simp [hs] at h
    | some n => simp only [hs, Option.map_some, Option.some.injEq] at h; subst h; rfl
  · rename_i e
    cases h
    rw [e]
    rfl
  · cases h

theorem eqFits_eqK (P : Program) (t : TypeId) (a : AV) : eqFits P t a = eqFitsC (eqK P t) a := by
  unfold eqFits eqK
  cases P.underlying t with
  | none => cases a <;> rfl
  | some u => cases u <;> cases a <;> first | rfl | (cases flatN P t <;> rfl)

theorem strT_eqK (P : Program) (t : TypeId) : strT P t = (eqK P t == .str) := by
  unfold strT eqK
  cases P.underlying t with
  | none => rfl
  | some u => cases u <;> first | rfl | (cases flatN P t <;> rfl)

theorem sBin_eq (P : Program) (op : BinOp) (t : TypeId) (x y : AV) : abBin P op t x y = sBin op (eqK P t) x y := by
  unfold abBin sBin
  cases x <;> cases y <;> first | rfl | (simp only [eqFits_eqK]; cases op <;> rfl) | (simp only [strT_eqK])

theorem evs_cX (fr : Nat → AV) (l : Array Operand) : (cXs l).map (sev fr) = l.toList.map (ev fr) := by
  unfold cXs
  rw [List.map_map]
  exact List.map_congr_left fun x _ => sev_cX fr x

theorem evp_cX (fr : Nat → AV) (l : Array (Nat × Operand)) : (cPs l).map (fun p => (p.1, sev fr p.2)) = l.toList.map fun p => (p.1, ev fr p.2) := by
  unfold cPs
  rw [List.map_map]
  exact List.map_congr_left fun x _ => by simp [sev_cX]

theorem sbnd_cX (fr : Nat → AV) (d : Nat) (x : Option Operand) : sbnd fr d (x.map cX) = bnd fr d x := by
  cases x <;> simp [sbnd, bnd, sev_cX]

end Go.Abs

set_option linter.unusedSimpArgs false
set_option linter.unusedVariables false
namespace Go.Abs
open Go

theorem any_ble {o : Option Nat} {m : Nat} (h : o.any (Nat.ble · m) = true) : o.any (fun x => decide (x ≤ m)) = true := by
  cases o with
  | none => cases h
  | some x => simpa using h

theorem okGrow_okZ (P : Program) (e size need : Nat) : okGrow P e size need = (Nat.ble need 1073741824 && okZ P e size) := by
  unfold okGrow okZ
  rw [Bool.and_assoc]
  cases zeroCells P e <;> rfl

theorem append1_eq (P : Program) (h : Hp) (e size : Nat) (vs : List AV) (n : Nat) (s : AV) : append1 P h e size vs n s = sAppend (okZ P e size) h size vs n s := by
  unfold append1 sAppend
  simp only [okGrow_okZ]
  cases s <;> rfl

theorem compCall_sound {P : Program} {h : Hp} {fr : Nat → AV} {call : CallF} {b : Builtin} {ts : Array TypeId} {args : List Operand} {so : SOp} (hc : compCall P b ts args = some so) :
    builtin1 P h b ts (args.map (ev fr)) = sexec call fr h so := by
  unfold compCall at hc
  split at hc
  · rename_i x
    simp only [builtin1, List.map_cons, List.map_nil]
    split at hc
    · rename_i e
      cases hc
      rw [e]
      simp only [sexec, sev_cX]
      cases ev fr x <;> rfl
    · rename_i e
      cases hc
      rw [e]
      simp only [sexec, sev_cX]
      cases ev fr x <;> rfl
    · rename_i e
      cases hc
      rw [e]
      rfl
    · rename_i e
      cases hc
      rw [e]
      simp only [sexec, sev_cX]
    · cases hc
  · rename_i x
    simp only [builtin1, List.map_cons, List.map_nil]
    split at hc
    · rename_i e
      cases hc
      rw [e]
      simp only [sexec, sev_cX]
      cases ev fr x <;> simp only [sCap]
      rename_i cap _
      cases cap <;> rfl
    · cases hc
  · rename_i m k
    simp only [builtin1, List.map_cons, List.map_nil]
    split at hc
    · rename_i e
      cases hc
      rw [e]
      simp only [sexec, sev_cX]
    · cases hc
  · rename_i x y
    cases hc
    simp only [builtin1, List.map_cons, List.map_nil, sexec, sev_cX]
    cases ev fr x <;> cases ev fr y <;> simp only [sMin] <;> first | rfl | (split <;> rfl)
  · rename_i x y
    cases hc
    simp only [builtin1, List.map_cons, List.map_nil, sexec, sev_cX]
    cases ev fr x <;> cases ev fr y <;> simp only [sMax] <;> first | rfl | (split <;> rfl)
  · rename_i x y z
    cases hc
    simp only [builtin1, List.map_cons, List.map_nil, sexec, sev_cX]
    cases ev fr x <;> cases ev fr y <;> cases ev fr z <;> simp only [sMax3] <;> first | rfl | (split <;> rfl)
  · rename_i x
    simp only [builtin1, List.map_cons, List.map_nil]
    split at hc
    · rename_i e' hu
      rw [hu]
      split at hc
      · rename_i size z hs hz
        cases hc
        simp only [sexec, sev_cX]
        cases ev fr x <;> simp only [sClr, hs, hz] <;> rfl
      · cases hc
    · cases hc
  · rename_i s x
    simp only [builtin1, List.map_cons, List.map_nil]
    split at hc
    · rename_i t t' e
      rw [e]
      simp only
      cases hb : Nat.beq t t'
      · simp [hb] at hc
      · simp only [hb, Bool.not_true, cond_false] at hc ⊢
        split at hc
        · rename_i e' hu
          rw [hu]
          cases hs : szOf P e' with
          | none => simp [hs] at hc
          | some size =>
            simp only [hs, Option.map_some, Option.some.injEq] at hc
            subst hc
            simp only [hs, sexec, sApp, sev_cX, append1_eq]
            rfl
        · cases hc
    · cases hc
  · rename_i s x
    simp only [builtin1, List.map_cons, List.map_nil]
    split at hc
    · rename_i e' hu
      rw [hu]
      cases hs : szOf P e' with
      | none => simp [hs] at hc
      | some size =>
        simp only [hs, Option.map_some, Option.some.injEq] at hc
        subst hc
        simp only [sexec, sev_cX]
        cases ev fr s <;> simp only [sCopy, hs] <;> rfl
    · cases hc
  · cases hc

theorem comp1_sound {P : Program} {h : Hp} {fr : Nat → AV} {call : CallF} {o : Oper} {so : SOp} (hc : comp1 P o.op = some so) : execS P call fr h o = sexec call fr h so := by
  unfold execS exec1
  revert hc
  generalize o.op = op
  intro hc
  cases op <;> simp only [comp1] at hc
  case move x => cases hc; simp only [step1, sexec, sev_cX]
  case assign x => cases hc; simp only [step1, sexec, sev_cX]
  case pick c a b => cases hc; simp only [step1, sexec, sev_cX]; cases ev fr c <;> rfl
  case alloc t =>
    cases hz : zeroCells P t with
    | none => simp [hz] at hc
    | some z =>
      simp only [hz, Option.map_some, Option.some.injEq] at hc
      subst hc
      simp only [step1, sexec, hz]
  case box t x => cases hc; simp only [step1, sexec, sev_cX]; cases (ev fr x).parts <;> rfl
  case build t ps =>
    simp only [step1]
    split at hc
    · rename_i fs z h1 h2
      rw [h1, h2]
      cases h3 : fieldPlaces P fs.toList with
      | none => simp [h3] at hc
      | some pl =>
        simp only [h3, Option.map_some, Option.some.injEq] at hc
        subst hc
        simp only [sexec, evp_cX, h3]
    · rename_i n e z h1 h2
      rw [h1, h2]
      cases h3 : szOf P e with
      | none => simp [h3] at hc
      | some k =>
        simp only [h3, Option.map_some, Option.some.injEq] at hc
        subst hc
        simp only [sexec, evp_cX, h3]
    · cases hc
  case buildSlice t len ps =>
    simp only [step1]
    split at hc
    · rename_i e h1
      rw [h1]
      split at hc
      · rename_i n z h2 h3
        simp only [h2, h3]
        cases h4 : (Nat.ble (len * n) 16777216 && Nat.beq z.length n)
        · simp [h4] at hc
        · simp only [h4, cond_true, Option.some.injEq] at hc
          subst hc
          simp only [sexec, evp_cX, cond_true]
          cases fillA (fun i => some (i * n, n)) (repl z len) (List.map (fun p => (p.fst, ev fr p.snd)) ps.toList) <;> rfl
      · cases hc
    · cases hc
  case load t a =>
    simp only [step1]
    cases h1 : rdK P t with
    | none => simp [h1] at hc
    | some k =>
      simp only [h1, Option.map_some, Option.some.injEq] at hc
      subst hc
      simp only [sexec, sev_cX]
      cases ev fr a <;> simp only [sLoad]
      rename_i id off
      cases lkB h.blks id with
      | none => rfl
      | some b => simp only [rdC_rdK h1]
  case store t a x =>
    simp only [step1]
    cases h1 : szOf P t with
    | none => simp [h1] at hc
    | some k =>
      simp only [h1, Option.map_some, Option.some.injEq] at hc
      subst hc
      simp only [sexec, sev_cX]
      cases ev fr a <;> simp only [sStore]
      cases (ev fr x).parts <;> rfl
  case nilCheck x => cases hc; simp only [step1, sexec, sev_cX]; cases ev fr x <;> rfl
  case binOp op t x y => cases hc; simp only [step1, sexec, sev_cX, sBin_eq]
  case unOp op t x =>
    cases op <;> simp only [comp1] at hc <;> cases hc <;> simp only [step1, sexec, sev_cX] <;> cases ev fr x <;> rfl
  case convert src dst x =>
    simp only [step1]
    split at hc
    · rename_i e
      cases hc
      simp only [e, sexec, sev_cX]
    · rename_i e
      cases hc
      simp only [e, sexec, sev_cX]
    · rename_i e
      simp only [e]
      split at hc
      · rename_i u k h1 h2
        cases hc
        rw [h1, h2]
        simp only [sexec, sev_cX]
        cases ev fr x <;> rfl
      · cases hc
  case makeFunc f a c =>
    cases f <;> simp only [comp1] at hc <;> cases hc
    simp only [step1, sexec, evs_cX]
  case makeSlice t l c =>
    simp only [step1]
    split at hc
    · rename_i e h1
      rw [h1]
      split at hc
      · rename_i n z h2 h3
        cases h4 : (Nat.beq z.length n && (bytesOf P e).any (Nat.ble · 1048576))
        · simp [h4] at hc
        · simp only [h4, cond_true, Option.some.injEq] at hc
          subst hc
          simp only [Bool.and_eq_true] at h4
          have h5 := Nat.eq_of_beq_eq_true h4.1
          have h6 := any_ble h4.2
          simp only [sexec, sev_cX]
          cases int? (ev fr l) <;> cases int? (ev fr c) <;> simp only [sMks, h2, h3, h5, h6, and_true, true_and]
      · cases hc
    · cases hc
  case slice t x lo hi mx =>
    cases mx with
    | some mx =>
      cases hi with
      | none => simp only [comp1] at hc; cases hc
      | some hi =>
        simp only [comp1] at hc
        simp only [step1]
        split at hc
        · rename_i e h1
          rw [h1]
          cases h2 : szOf P e with
          | none => simp [h2] at hc
          | some k =>
            simp only [h2, Option.map_some, Option.some.injEq] at hc
            subst hc
            simp only [sexec, sev_cX, sbnd_cX]
            cases ev fr x <;> cases idx? (ev fr mx) <;> simp only [sSl3, h2]
            · rename_i id off len cap sz mv
              cases idx? (ev fr hi) <;> cases bnd fr 0 lo <;> rfl
            · rename_i mv
              rcases mv with _ | mv
              · rcases idx? (ev fr hi) with _ | _ | a <;> rcases bnd fr 0 lo with _ | _ | b <;> first | rfl | simp only [h2]
              · rfl
        · cases hc
    | none =>
      simp only [comp1] at hc
      simp only [step1]
      split at hc
      · rename_i e h1
        rw [h1]
        cases h2 : szOf P e with
        | none => simp [h2] at hc
        | some k =>
          simp only [h2, Option.map_some, Option.some.injEq] at hc
          subst hc
          simp only [sexec, sev_cX]
          cases ev fr x <;> simp only [sSlice, sbnd_cX, h2]
          · rename_i id off len cap sz
            cases bnd fr len hi <;> cases bnd fr 0 lo <;> rfl
          · rcases bnd fr 0 hi with _ | _ | a <;> rcases bnd fr 0 lo with _ | _ | b <;> rfl
          · rcases bnd fr 0 hi with _ | _ | a <;> rcases bnd fr 0 lo with _ | _ | b <;> rfl
      · rename_i n e h1
        rw [h1]
        cases h2 : szOf P e with
        | none => simp [h2] at hc
        | some k =>
          simp only [h2, Option.map_some, Option.some.injEq] at hc
          subst hc
          simp only [sexec, sev_cX]
          cases ev fr x <;> simp only [sArr, sbnd_cX, h2]
          cases bnd fr n hi <;> cases bnd fr 0 lo <;> rfl
      · rename_i h1
        rw [h1]
        cases hc
        simp only [sexec, sev_cX]
        cases ev fr x <;> simp only [sSlT, sbnd_cX]
        rename_i l
        cases bnd fr l.length hi <;> cases bnd fr 0 lo <;> rfl
      · cases hc
  case fieldAddr t x f =>
    simp only [step1]
    split at hc
    · rename_i fs h1
      rw [h1]
      split at hc
      · rename_i fd h2
        split at hc
        · rename_i n h3
          cases h4 : Nat.beq n 0
          · simp only [h4, cond_false, Option.some.injEq] at hc
            subst hc
            simp only [sexec, sev_cX]
            cases ev fr x <;> simp only [h2, h3, h4, cond_false]
          · simp [h4] at hc
        · cases hc
      · cases hc
    · cases hc
  case field t x f =>
    simp only [step1]
    split at hc
    · rename_i fs h1
      rw [h1]
      split at hc
      · rename_i fd h2
        cases h3 : rdK P fd.type with
        | none => simp [h3] at hc
        | some k =>
          simp only [h3, Option.map_some, Option.some.injEq] at hc
          subst hc
          simp only [sexec, sev_cX]
          cases ev fr x <;> simp only [h2, rdC_rdK h3]
      · cases hc
    · cases hc
  case indexAddr t x i =>
    simp only [step1]
    split at hc
    · rename_i e h1
      rw [h1]
      cases h2 : szOf P e with
      | none => simp [h2] at hc
      | some k =>
        simp only [h2, Option.map_some, Option.some.injEq] at hc
        subst hc
        simp only [sexec, sev_cX]
        cases ev fr x <;> simp only [sIxS]
        cases idx? (ev fr i) <;> simp only [h2]
    · rename_i len e h1
      rw [h1]
      cases h2 : szOf P e with
      | none => simp [h2] at hc
      | some k =>
        simp only [h2, Option.map_some, Option.some.injEq] at hc
        subst hc
        simp only [sexec, sev_cX]
        cases ev fr x <;> simp only [sIxA]
        cases idx? (ev fr i) <;> simp only [h2]
    · cases hc
  case index t x i =>
    simp only [step1]
    split at hc
    · rename_i len e h1
      rw [h1]
      split at hc
      · rename_i n k h2 h3
        cases hc
        simp only [sexec, sev_cX]
        cases ev fr x <;> simp only [sIx]
        cases idx? (ev fr i) <;> simp only [h2, rdC_rdK h3]
      · cases hc
    · rename_i h1
      rw [h1]
      cases hc
      simp only [sexec, sev_cX]
      cases ev fr x <;> simp only [sIxT]
      cases idx? (ev fr i) <;> rfl
    · cases hc
  case makeMap t r =>
    simp only [step1]
    split at hc
    · rename_i h1
      rw [h1]
      cases hc
      simp only [sexec]
      cases r with
      | none => rfl
      | some x =>
        simp only [Option.map_some, sMkm, sev_cX]
        cases ev fr x <;> rfl
    · cases hc
  case lookup t x i ok =>
    simp only [step1]
    split at hc
    · rename_i h1
      rw [h1]
      rw [Option.map_eq_some_iff] at hc
      obtain ⟨z, hz, rfl⟩ := hc
      simp only [hz, sexec, sev_cX]
    · cases hc
  case mapUpdate t m k v =>
    simp only [step1]
    split at hc
    · rename_i h1
      rw [h1]
      cases hc
      simp only [sexec, sev_cX]
    · cases hc
  case range t x =>
    simp only [step1]
    split at hc
    · rename_i h1
      rw [h1]
      cases hc
      simp only [sexec, sev_cX]
    · cases hc
  case next x b =>
    cases b <;> simp only [comp1] at hc
    · cases hc
      rfl
    · cases hc
  case entry x => cases hc; simp only [step1, sexec, sev_cX]
  case extract x i => cases hc; simp only [step1, sexec, sev_cX]; cases ev fr x <;> rfl
  case call c =>
    obtain ⟨cal, args, ats⟩ := c
    cases cal with
    | builtin b =>
      simp only at hc
      exact compCall_sound hc
    | value f =>
      simp only [Option.some.injEq] at hc
      subst hc
      simp only [sexec, sev_cX, evs_cX]
      rcases ev fr f with _ | _ | _ | _ | _ | _ | _ | _ | _ | _ | _ | ⟨_ | _, _, _⟩ | _ | _ | _ | _ | _ | _ <;> rfl
    | invoke _ _ => cases hc
  all_goals cases hc

end Go.Abs

namespace Go.Abs
open Go

def SX.slots : SX → List Nat
  | .t i => [i]
  | .c _ => []

def SX.slotsO : Option SX → List Nat
  | some x => x.slots
  | none => []

def SOp.slots : SOp → List Nat
  | .mov x | .box x | .nilCheck x | .not x | .neg x | .conv _ x | .fa _ x | .fld _ _ x | .ext x _ | .lenS x | .lenT x | .lenA _ x | .load _ x | .lenM x | .capS x | .rng x | .ent x | .s2b x | .b2s x | .nxt x => x.slots
  | .pick c a b => c.slots ++ a.slots ++ b.slots
  | .new _ => []
  | .build _ _ ps | .buildA _ _ ps | .buildS _ _ _ ps => ps.flatMap fun p => p.2.slots
  | .store _ a x => a.slots ++ x.slots
  | .bin _ _ x y | .mn x y | .mx x y | .app _ _ x y | .cpy _ x y | .mks _ _ x y | .ixS _ x y | .ixA _ _ x y | .ix _ _ _ x y => x.slots ++ y.slots
  | .mkf _ a c => a.flatMap SX.slots ++ c.flatMap SX.slots
  | .slice _ x lo hi => x.slots ++ SX.slotsO lo ++ SX.slotsO hi
  | .slice3 _ x lo hi top => x.slots ++ SX.slotsO lo ++ hi.slots ++ top.slots
  | .call f args => f.slots ++ args.flatMap SX.slots
  | .arr _ _ x lo hi => x.slots ++ SX.slotsO lo ++ SX.slotsO hi
  | .slT x lo hi => x.slots ++ SX.slotsO lo ++ SX.slotsO hi
  | .ixT x i => x.slots ++ i.slots
  | .mkm r => SX.slotsO r
  | .lkp _ _ _ x i => x.slots ++ i.slots
  | .mup _ m k v => m.slots ++ k.slots ++ v.slots
  | .mdel _ m k => m.slots ++ k.slots
  | .mx3 x y z => x.slots ++ y.slots ++ z.slots
  | .clr _ _ x => x.slots
  | .bad => []

def subs (a l : List Nat) : Bool := a.all l.elem

theorem subs_app {a b l : List Nat} : subs (a ++ b) l = true ↔ subs a l = true ∧ subs b l = true := by simp [subs, List.all_append]

theorem sev_msk {l : List Nat} {f : Nat → AV} {x : SX} (h : subs x.slots l = true) : sev (msk l f) x = sev f x := by
  cases x with
  | c v => rfl
  | t i =>
    simp only [SX.slots, subs, List.all_cons, List.all_nil, Bool.and_true] at h
    show (bif l.elem i then f i else .any) = f i
    rw [h]
    rfl

theorem sevs_msk {l : List Nat} {f : Nat → AV} : ∀ {xs : List SX}, subs (xs.flatMap SX.slots) l = true → xs.map (sev (msk l f)) = xs.map (sev f)
  | [], _ => rfl
  | x :: xs, h => by
    rw [List.flatMap_cons, subs_app] at h
    rw [List.map_cons, List.map_cons, sev_msk h.1, sevs_msk h.2]

theorem sevp_msk {l : List Nat} {f : Nat → AV} : ∀ {xs : List (Nat × SX)}, subs (xs.flatMap fun p => p.2.slots) l = true → xs.map (fun p => (p.1, sev (msk l f) p.2)) = xs.map (fun p => (p.1, sev f p.2))
  | [], _ => rfl
  | x :: xs, h => by
    rw [List.flatMap_cons, subs_app] at h
    rw [List.map_cons, List.map_cons, sev_msk h.1, sevp_msk h.2]

theorem sbnd_msk {l : List Nat} {f : Nat → AV} {d : Nat} {x : Option SX} (h : subs (SX.slotsO x) l = true) : sbnd (msk l f) d x = sbnd f d x := by
  cases x with
  | none => rfl
  | some x => simp only [sbnd, sev_msk h]

theorem sexec_msk {call : CallF} {h : Hp} {l : List Nat} {f : Nat → AV} {o : SOp} (hs : subs o.slots l = true) : sexec call (msk l f) h o = sexec call f h o := by
  cases o <;> simp only [SOp.slots, subs_app] at hs
  case pick c a b => simp only [sexec, sev_msk hs.1.1, sev_msk hs.1.2, sev_msk hs.2]
  case build z pl ps => simp only [sexec, sevp_msk hs]
  case buildA z n ps => simp only [sexec, sevp_msk hs]
  case buildS z len n ps => simp only [sexec, sevp_msk hs]
  case mkf g a c => simp only [sexec, sevs_msk hs.1, sevs_msk hs.2]
  case slice m x lo hi =>
    simp only [sexec, sev_msk hs.1.1]
    cases sev f x <;> simp only [sSlice, sbnd_msk hs.1.2, sbnd_msk hs.2]
  case arr n m x lo hi => simp only [sexec, sev_msk hs.1.1, sbnd_msk hs.1.2, sbnd_msk hs.2]
  case slT x lo hi =>
    simp only [sexec, sev_msk hs.1.1]
    cases sev f x <;> simp only [sSlT, sbnd_msk hs.1.2, sbnd_msk hs.2]
  case mkm r =>
    cases r with
    | none => rfl
    | some x => simp only [sexec, sMkm, sev_msk (show subs x.slots l = true from hs)]
  case mup kt m k v => simp only [sexec, sev_msk hs.1.1, sev_msk hs.1.2, sev_msk hs.2]
  case mx3 x y z => simp only [sexec, sev_msk hs.1.1, sev_msk hs.1.2, sev_msk hs.2]
  case slice3 m x lo hi mx => simp only [sexec, sev_msk hs.1.1.1, sbnd_msk hs.1.1.2, sev_msk hs.1.2, sev_msk hs.2]
  case call g args => simp only [sexec, sev_msk hs.1, sevs_msk hs.2]
  all_goals first
    | rfl
    | simp only [sexec, sev_msk hs]
    | simp only [sexec, sev_msk hs.1, sev_msk hs.2]

structure SOper where
  dst : Option Nat
  guard : Option (Nat × Bool)
  op : SOp

def swant (fr : Nat → AV) : Option (Nat × Bool) → Option Bool
  | none => some true
  | some (d, w) => match fr d with
    | .bool t => some (t == w)
    | .tu _ => some false
    | _ => none

def sput (d : Option Nat) (v : AV) (tm : Fr) : Fr :=
  match d with
  | none => tm
  | some d => (d, v) :: tm

def sOps (call : CallF) (fr : Fr) : List SOper → Fr → Hp → Option (Fr × Hp)
  | [], tm, h => some (tm, h)
  | o :: rest, tm, h =>
    match swant (look tm fr) o.guard with
    | some true => match sexec call (look tm fr) h o.op with
      | some (v, h') => sOps call fr rest (sput o.dst v tm) h'
      | none => none
    | some false => sOps call fr rest (sput o.dst (.tu []) tm) h
    | none => none

/-- One operation of a region of free order: does it read, may it change the heap? -/
structure DOper where
  o : SOper
  rd : Bool
  eff : Bool

structure SRec where
  op : SOp
  rd : Bool
  eff : Bool
  w : Bool
  v : AV
  tm : Fr
  h : Hp

def sTrace (call : CallF) (fr : Fr) : List DOper → Fr → Hp → Option (List SRec × Fr × Hp)
  | [], tm, h => some ([], tm, h)
  | d :: rest, tm, h =>
    match swant (look tm fr) d.o.guard with
    | some true => match sexec call (look tm fr) h d.o.op with
      | some (v, h') => match sTrace call fr rest (sput d.o.dst v tm) h' with
        | some (rs, x) => some ({ op := d.o.op, rd := d.rd, eff := d.eff, w := true, v, tm, h } :: rs, x)
        | none => none
      | none => none
    | some false => match sTrace call fr rest (sput d.o.dst (.tu []) tm) h with
      | some (rs, x) => some ({ op := d.o.op, rd := d.rd, eff := d.eff, w := false, v := .tu [], tm, h } :: rs, x)
      | none => none
    | none => none

def sReads (call : CallF) (fr : Fr) (cl : List Nat) (hs : List (Nat × Hp)) : List SRec → Nat → Bool
  | [], _ => true
  | r :: rest, i =>
    (!(r.w && r.rd) || hs.all fun (j, h) => rdSkip cl (hs.map (·.1)) i j || match sexec call (look r.tm fr) h r.op with
      | some (v, _) => AV.beq v r.v
      | none => false) && sReads call fr cl hs rest (i + 1)

def sEffs : List SRec → Nat → List (Nat × Hp)
  | [], _ => []
  | r :: rest, i => bif r.eff then (i, r.h) :: sEffs rest (i + 1) else sEffs rest (i + 1)

def sDraw (call : CallF) (fr : Fr) (l : List DOper) (cl : List Nat) (n : Nat) (h : Hp) : Option (Fr × Hp) :=
  match sTrace call fr l [] h with
  | some (rs, tm, h') => bif (sEffs rs 0).isEmpty || sReads call fr cl (sEffs rs 0 ++ [(n, h')]) rs 0 then some (tm, h') else none
  | none => none

def SOp.isLen : SOp → Bool
  | .lenS _ | .lenT _ | .lenA .. => true
  | _ => false

/-- What is not compiled goes nowhere. -/
def comp1B (P : Program) (op : Op) : SOp := (comp1 P op).getD .bad

def SOp.isCv : SOp → Bool
  | .s2b _ | .b2s _ | .nxt _ => true
  | _ => false

/-- Compilation of one operation in its region. -/
def cOper (P : Program) (n : Nat) (ops : Array Oper) (o : Oper) : Option DOper :=
  match comp1B P o.op with
  | so =>
    bif !(match o.dst with | some d => Nat.blt d n | none => true) then none else
    bif !subs so.slots (reads ops o) then none else
    match o.guard with
    | none => some { o := { dst := o.dst, guard := none, op := so }, rd := isRead o && !so.isLen, eff := isEff o }
    | some (j, w) => match (ops[j]?).bind (·.dst) with
      | some d => bif (reads ops o).elem d then some { o := { dst := o.dst, guard := some (d, w), op := so }, rd := isRead o && !so.isLen, eff := isEff o } else none
      | none => none

def cOpers (P : Program) (n : Nat) (ops : Array Oper) : List Oper → Option (List DOper)
  | [] => some []
  | o :: r => match cOper P n ops o, cOpers P n ops r with
    | some d, some l => some (d :: l)
    | _, _ => none

section
variable {P : Program} {call : CallF} {n : Nat} {ops : Array Oper} {fr : Fr}

theorem cOper_spec {o : Oper} {d : DOper} (hc : cOper P n ops o = some d) :
    comp1B P o.op = d.o.op ∧ subs d.o.op.slots (reads ops o) = true ∧ d.o.dst = o.dst ∧ (∀ v tm, putT n o.dst v tm = some (sput o.dst v tm)) ∧ d.rd = (isRead o && !d.o.op.isLen) ∧ d.eff = isEff o ∧
      (∀ f, want? ops f o = swant f d.o.guard) ∧ (∀ f, swant (msk (reads ops o) f) d.o.guard = swant f d.o.guard) := by
  unfold cOper at hc
  simp only at hc
  generalize h1 : comp1B P o.op = so at hc
  · cases h2 : (match o.dst with | some d => Nat.blt d n | none => true)
    · simp [h2] at hc
    · cases h3 : subs so.slots (reads ops o)
      · simp [h2, h3] at hc
      · simp only [h2, h3, Bool.not_true, cond_false] at hc
        have h4 : ∀ v tm, putT n o.dst v tm = some (sput o.dst v tm) := fun v tm => by
          unfold putT sput
          cases hd : o.dst with
          | none => rfl
          | some d => simp only [hd] at h2; simp [h2]
        split at hc
        · rename_i hg
          cases hc
          exact ⟨rfl, h3, rfl, h4, rfl, rfl, fun f => by simp [want?, hg, swant], fun f => rfl⟩
        · rename_i j w hg
          split at hc
          · rename_i s hs
            cases h5 : (reads ops o).elem s
            · simp only [h5, cond_false] at hc; cases hc
            · simp only [h5, cond_true] at hc
              cases hc
              exact ⟨rfl, h3, rfl, h4, rfl, rfl, fun f => by simp only [want?, hg, hs, swant]; cases f s <;> rfl, fun f => by simp only [swant, msk, h5, cond_true]⟩
          · cases hc

theorem comp1B_sound {h : Hp} {fr : Nat → AV} {o : Oper} {r : AV × Hp} (e : sexec call fr h (comp1B P o.op) = some r) : execS P call fr h o = some r := by
  unfold comp1B at e
  cases hc : comp1 P o.op with
  | none => simp [hc, sexec] at e
  | some so =>
    rw [hc] at e
    rw [comp1_sound hc]
    exact e

theorem comp1B_sound1 {h : Hp} {fr : Nat → AV} {o : Oper} {r : AV × Hp} (hn : (comp1B P o.op).isCv = false) (e : sexec call fr h (comp1B P o.op) = some r) : exec1 P call fr h o = some r := by
  have h1 := comp1B_sound e
  unfold execS at h1
  split at h1
  · rename_i src dst x hop
    split at h1
    · rename_i hc
      simp [comp1B, hop, comp1, hc, SOp.isCv] at hn
    · rename_i hc
      simp [comp1B, hop, comp1, hc, SOp.isCv] at hn
    · exact h1
  · exact h1

theorem sOps_run : ∀ {os : List Oper} {l : List DOper}, cOpers P n ops os = some l → ∀ {tm : Fr} {h : Hp} {x : Fr × Hp}, sOps call fr (l.map (·.o)) tm h = some x → runOps P call n ops fr os tm h = some x
  | [], l, hc, tm, h, x, e => by cases hc; exact e
  | o :: r, l, hc, tm, h, x, e => by
    simp only [cOpers] at hc
    split at hc
    · rename_i d l' h1 h2
      cases hc
      obtain ⟨a1, a2, a3, a4, a5, a6, a7, a8⟩ := cOper_spec h1
      simp only [List.map_cons, sOps] at e
      simp only [runOps, a7, a4]
      split at e
      · rename_i e1
        rw [e1]
        simp only
        split at e
        · rename_i v h' e'
          rw [← a1] at e'
          rw [comp1B_sound e']
          rw [a3] at e
          exact sOps_run h2 e
        · cases e
      · rename_i e1
        rw [e1]
        rw [a3] at e
        exact sOps_run h2 e
      · cases e
    · cases hc

/-- A record and its compiled one. -/
def RecOK (P : Program) (call : CallF) (ops : Array Oper) (fr : Fr) (r : Rec) (s : SRec) : Prop :=
  comp1B P r.o.op = s.op ∧ s.op.isCv = false ∧ subs s.op.slots (reads ops r.o) = true ∧ s.rd = (isRead r.o && !s.op.isLen) ∧ s.eff = isEff r.o ∧ s.w = r.w ∧ s.v = r.v ∧ s.tm = r.tm ∧ s.h = r.h ∧
    (r.w = true → ∃ h', sexec call (look r.tm fr) r.h s.op = some (r.v, h'))

def RecsOK (P : Program) (call : CallF) (ops : Array Oper) (fr : Fr) : List Rec → List SRec → Prop
  | [], [] => True
  | r :: rs, s :: ss => RecOK P call ops fr r s ∧ RecsOK P call ops fr rs ss
  | _, _ => False

theorem sTrace_run : ∀ {os : List Oper} {l : List DOper}, cOpers P n ops os = some l → (∀ d ∈ l, d.o.op.isCv = false) → ∀ {tm : Fr} {h : Hp} {ss : List SRec} {x : Fr × Hp}, sTrace call fr l tm h = some (ss, x) →
    ∃ rs, traceOps P call n ops fr os tm h = some (rs, x) ∧ RecsOK P call ops fr rs ss ∧ sOps call fr (l.map (·.o)) tm h = some x
  | [], l, hc, _, tm, h, ss, x, e => by cases hc; cases e; exact ⟨[], rfl, trivial, rfl⟩
  | o :: r, l, hc, hn, tm, h, ss, x, e => by
    simp only [cOpers] at hc
    split at hc
    · rename_i d l' h1 h2
      cases hc
      obtain ⟨a1, a2, a3, a4, a5, a6, a7, a8⟩ := cOper_spec h1
      have hnd := hn d (by simp)
      have hnl : ∀ d ∈ l', d.o.op.isCv = false := fun d hd => hn d (by simp [hd])
      simp only [sTrace] at e
      simp only [traceOps, List.map_cons, sOps, a7, a8, a4]
      split at e
      · rename_i e1
        rw [e1]
        simp only
        split at e
        · rename_i v h' e'
          split at e
          · rename_i rs' x' e2
            cases e
            rw [a3] at e2
            obtain ⟨rs, b1, b2, b3⟩ := sTrace_run h2 hnl e2
            have e3 : sexec call (msk (reads ops o) (look tm fr)) h d.o.op = some (v, h') := by rw [sexec_msk a2]; exact e'
            rw [← a1] at e3
            rw [comp1B_sound1 (by rw [a1]; exact hnd) e3]
            simp only [b1, e', a3, b3]
            exact ⟨_, rfl, ⟨⟨a1, hnd, a2, a5, a6, rfl, rfl, rfl, rfl, fun _ => ⟨h', e'⟩⟩, b2⟩, trivial⟩
          · cases e
        · cases e
      · rename_i e1
        rw [e1]
        simp only
        split at e
        · rename_i rs' x' e2
          cases e
          rw [a3] at e2
          obtain ⟨rs, b1, b2, b3⟩ := sTrace_run h2 hnl e2
          simp only [b1, a3, b3]
          exact ⟨_, rfl, ⟨⟨a1, hnd, a2, a5, a6, rfl, rfl, rfl, rfl, fun h => by cases h⟩, b2⟩, trivial⟩
        · cases e
      · cases e
    · cases hc

theorem sOps_trace : ∀ {l : List DOper} {tm : Fr} {h : Hp} {x : Fr × Hp}, sOps call fr (l.map (·.o)) tm h = some x → ∃ ss, sTrace call fr l tm h = some (ss, x)
  | [], tm, h, x, e => by cases e; exact ⟨[], rfl⟩
  | d :: l, tm, h, x, e => by
    simp only [List.map_cons, sOps] at e
    simp only [sTrace]
    split at e
    · split at e
      · rename_i v h' e'
        obtain ⟨ss, h1⟩ := sOps_trace e
        simp_all
      · cases e
    · obtain ⟨ss, h1⟩ := sOps_trace e
      simp_all
    · cases e

theorem sEffs_eq : ∀ {rs : List Rec} {ss : List SRec}, RecsOK P call ops fr rs ss → ∀ i, effHeaps rs i = sEffs ss i
  | [], [], _, i => rfl
  | r :: rs, s :: ss, h, i => by
    obtain ⟨⟨_, _, _, _, h1, _, _, _, h2, _⟩, h3⟩ := h
    simp only [effHeaps, sEffs, h1, h2, sEffs_eq h3]
  | [], _ :: _, h, _ => h.elim
  | _ :: _, [], h, _ => h.elim

theorem len_any {f : Nat → AV} {h h1 h2 : Hp} {o : SOp} {v : AV} (hl : o.isLen = true) (he : sexec call f h o = some (v, h1)) : ∃ h', sexec call f h2 o = some (v, h') ∧ AV.beq v v = true := by
  cases o <;> simp only [SOp.isLen] at hl <;> try (cases hl; done)
  · rename_i x
    simp only [sexec] at he ⊢
    cases hx : sev f x <;> rw [hx] at he <;> simp only [sLen] at he <;> cases he <;> exact ⟨_, rfl, by simp [AV.beq]⟩
  · rename_i x
    simp only [sexec] at he ⊢
    cases hx : sev f x <;> rw [hx] at he <;> simp only at he <;> cases he <;> exact ⟨_, rfl, by simp [AV.beq]⟩
  · simp only [sexec] at he ⊢
    cases he
    exact ⟨_, rfl, by simp [AV.beq]⟩

theorem sReads_run (cl : List Nat) (hs : List (Nat × Hp)) : ∀ {rs : List Rec} {ss : List SRec}, RecsOK P call ops fr rs ss → ∀ i, sReads call fr cl hs ss i = true → readsOK P call ops fr cl hs rs i = true
  | [], [], _, i, _ => rfl
  | [], _ :: _, h, _, _ => h.elim
  | _ :: _, [], h, _, _ => h.elim
  | r :: rs, s :: ss, h, i, e => by
    obtain ⟨⟨a1, an, a2, a3, _, a5, a6, a7, _, a9⟩, h3⟩ := h
    simp only [sReads, Bool.and_eq_true] at e
    simp only [readsOK, Bool.and_eq_true]
    refine ⟨?_, sReads_run cl hs h3 _ e.2⟩
    have e1 := e.1
    rw [a3, a5, a6, a7] at e1
    cases hw : r.w
    · simp
    · cases hr : isRead r.o
      · simp
      · have conv : ∀ {h : Hp} {v : AV} {h1 : Hp}, sexec call (look r.tm fr) h s.op = some (v, h1) → exec1 P call (msk (reads ops r.o) (look r.tm fr)) h r.o = some (v, h1) := fun {h v h1} he => by
          refine comp1B_sound1 (by rw [a1]; exact an) ?_
          rw [a1, sexec_msk a2]
          exact he
        simp only [Bool.and_self, Bool.not_true, Bool.false_or]
        rw [List.all_eq_true]
        intro ⟨j, h⟩ hj
        simp only
        cases hl : s.op.isLen
        · simp only [hw, hr, hl, Bool.not_false, Bool.and_self, Bool.not_true, Bool.false_or, List.all_eq_true] at e1
          have := e1 (j, h) hj
          simp only [Bool.or_eq_true] at this ⊢
          rcases this with h0 | h0
          · exact .inl h0
          · right
            split at h0
            · rename_i v h1 he
              rw [conv he]
              exact h0
            · cases h0
        · obtain ⟨h', e'⟩ := a9 hw
          obtain ⟨h2, e2, e3⟩ := len_any (h2 := h) hl e'
          rw [conv e2]
          simp only [e3, Bool.or_true]

end
end Go.Abs

set_option linter.unusedSimpArgs false
set_option linter.unusedVariables false
namespace Go.Abs
open Go

inductive SC where
  | skip
  | ops (l : List SOper) (ks : List Nat)
  | draw (l : List DOper) (cl ks : List Nat)
  | rangeF (f : SX) (ps : Array Nat) (assign body : Code) (keep n : Nat)
  | seq (a b : SC)
  | cond (c : SX) (a b : SC)
  | block (id : Nat) (b : SC)
  | loop (b : SC)
  | exit (id : Nat)
  | ret

def commitS (ks : List Nat) : Fr → Fr → Fr
  | [], fr => fr
  | (t, v) :: r, fr => bif ks.elem t then setF (commitS ks r fr) t v else commitS ks r fr

def runS (call : CallF) (m : Nat) : SC → St → Option (Ex × St)
  | .skip, s => some (.normal, s)
  | .ops l ks, s => match sOps call s.fr l [] s.hp with
    | some (tm, h) => some (.normal, { fr := commitS ks tm s.fr, hp := h })
    | none => none
  | .draw l cl ks, s => match sDraw call s.fr l cl l.length s.hp with
    | some (tm, h) => some (.normal, { fr := commitS ks tm s.fr, hp := h })
    | none => none
  | .rangeF f ps assign body keep n, s => match sev (lkF s.fr) f with
    | .fn (.func g) fs cs =>
      let l := s.hp.next
      match call (.func g) (fs ++ [.yld l] ++ cs) { s.hp with next := l + 1, loops := (l, { st := 0, jump := none, ps, assign, body, keep, n, fr := s.fr }) :: s.hp.loops } with
      | some (_, h) => match lkL h.loops l with
        | some r => bif Nat.beq r.st 1 then none else
          let s' : St := { s with hp := { h with loops := delL h.loops l } }
          match r.jump with
          | none => some (.normal, s')
          | some none => some (.ret, s')
          | some (some id) => some (.exit id, s')
        | none => none
      | none => none
    | _ => none
  | .seq a b, s => match runS call m a s with
    | some (.normal, s') => runS call m b s'
    | r => r
  | .cond c a b, s => match sev (lkF s.fr) c with
    | .bool t => bif t then runS call m a s else runS call m b s
    | _ => none
  | .block id b, s => match runS call m b s with
    | some (.exit j, s') => bif Nat.beq j id then some (.normal, s') else some (.exit j, s')
    | r => r
  | .loop b, s => iter (runS call m b) m s
  | .exit id, s => some (.exit id, s)
  | .ret, s => some (.ret, s)

def keptD (keep : Nat) (l : List DOper) : List Nat := l.filterMap fun d => match d.o.dst with
  | some t => bif Nat.testBit keep t then some t else none
  | none => none

def mkSeq : SC → SC → SC
  | .skip, b => b
  | a, .skip => a
  | a, b => .seq a b

theorem mkSeq_run (call : CallF) (m : Nat) (a b : SC) (s : St) : runS call m (mkSeq a b) s = match runS call m a s with
    | some (.normal, s') => runS call m b s'
    | r => r := by
  unfold mkSeq
  split
  · rfl
  · split
    · rename_i e; rw [e]; rfl
    · rfl
  · rfl

def compC (P : Program) (keep n : Nat) : Code → Option SC
  | .skip => some .skip
  | .label _ => some .skip
  | .region _ ops false => (cOpers P n ops ops.toList).map fun l => .ops (l.map (·.o)) (keptD keep l)
  | .region _ ops true => match cOpers P n ops ops.toList with
    | some l => bif orderOK ops (clos ops.toList []) && l.all (fun d => !d.o.op.isCv) then
        bif l.all (fun d => !d.eff) || l.all (fun d => !d.rd) then some (.ops (l.map (·.o)) (keptD keep l)) else some (.draw l (clos ops.toList []) (keptD keep l))
      else none
    | none => none
  | .rangeFunc f ps assign body => some (.rangeF (cX f) ps assign body keep n)
  | .seq a b => match compC P keep n a, compC P keep n b with
    | some a, some b => some (mkSeq a b)
    | _, _ => none
  | .cond c a b => match compC P keep n a, compC P keep n b with
    | some a, some b => some (.cond (cX c) a b)
    | _, _ => none
  | .block id b => (compC P keep n b).map (.block id)
  | .loop b => (compC P keep n b).map .loop
  | .scope b => compC P keep n b
  | .exit id => some (.exit id)
  | .ret => some .ret
  | _ => none

section
variable {P : Program} {call : CallF} {n m keep : Nat} {ops : Array Oper} {fr : Fr}

theorem sOps_keys : ∀ {l : List SOper} {tm tm' : Fr} {h h' : Hp}, sOps call fr l tm h = some (tm', h') → ∀ p ∈ tm', p ∈ tm ∨ some p.1 ∈ l.map (·.dst)
  | [], tm, tm', h, h', e, p, hp => by cases e; exact .inl hp
  | o :: r, tm, tm', h, h', e, p, hp => by
    have key : ∀ {v : AV} {h1 : Hp}, sOps call fr r (sput o.dst v tm) h1 = some (tm', h') → p ∈ tm ∨ some p.1 ∈ (o :: r).map (·.dst) := fun e => by
      rcases sOps_keys e p hp with h2 | h2
      · unfold sput at h2
        split at h2
        · exact .inl h2
        · rename_i d hd
          rcases List.mem_cons.1 h2 with rfl | h2
          · exact .inr (by simp [hd])
          · exact .inl h2
      · exact .inr (by simp only [List.map_cons, List.mem_cons]; exact .inr h2)
    simp only [sOps] at e
    split at e
    · split at e
      · exact key e
      · cases e
    · exact key e
    · cases e

theorem kept_elem {l : List DOper} {t : Nat} (ht : some t ∈ (l.map (·.o)).map (·.dst)) : (keptD keep l).elem t = keep.testBit t := by
  cases hk : keep.testBit t
  · rw [Bool.eq_false_iff]
    intro h
    have h := List.elem_iff.1 h
    unfold keptD at h
    rw [List.mem_filterMap] at h
    obtain ⟨d, _, h⟩ := h
    split at h
    · rename_i u _
      cases hu : keep.testBit u
      · simp [hu] at h
      · simp only [hu, cond_true, Option.some.injEq] at h
        rw [← h, hu] at hk
        cases hk
    · cases h
  · refine List.elem_iff.2 ?_
    unfold keptD
    rw [List.mem_filterMap]
    rw [List.map_map, List.mem_map] at ht
    obtain ⟨d, hd, e⟩ := ht
    refine ⟨d, hd, ?_⟩
    simp only [Function.comp_apply] at e
    rw [e]
    simp only [hk, cond_true]

theorem commitS_eq {ks : List Nat} : ∀ {tm fr : Fr}, (∀ p ∈ tm, ks.elem p.1 = keep.testBit p.1) → commit keep tm fr = commitS ks tm fr
  | [], fr, _ => rfl
  | (t, v) :: r, fr, h => by
    have h1 := h (t, v) (by simp)
    simp only at h1
    simp only [commit, commitS, h1, commitS_eq fun p hp => h p (List.mem_cons_of_mem _ hp)]

theorem commit_ops {l : List DOper} {h h' : Hp} {tm : Fr} (e : sOps call fr (l.map (·.o)) [] h = some (tm, h')) : commit keep tm fr = commitS (keptD keep l) tm fr :=
  commitS_eq fun p hp => by
    rcases sOps_keys e p hp with h | h
    · cases h
    · exact kept_elem h

theorem sEffs_nil : ∀ {rs : List SRec} {i : Nat}, (∀ r ∈ rs, r.eff = false) → sEffs rs i = []
  | [], i, _ => rfl
  | r :: rs, i, h => by simp only [sEffs, h r (by simp), cond_false]; exact sEffs_nil fun r hr => h r (by simp [hr])

theorem sReads_none {cl : List Nat} {hs : List (Nat × Hp)} : ∀ {rs : List SRec} {i : Nat}, (∀ r ∈ rs, r.rd = false) → sReads call fr cl hs rs i = true
  | [], i, _ => rfl
  | r :: rs, i, h => by
    simp only [sReads, h r (by simp), Bool.and_false, Bool.not_false, Bool.true_or, Bool.true_and]
    exact sReads_none fun r hr => h r (List.mem_cons_of_mem _ hr)

theorem sReads_nil {cl : List Nat} : ∀ {rs : List SRec} {i : Nat}, sReads call fr cl [] rs i = true
  | [], i => rfl
  | r :: rs, i => by simp [sReads, sReads_nil]

/-- Where the records' flags come from. -/
theorem sTrace_flags : ∀ {l : List DOper} {tm : Fr} {h : Hp} {rs : List SRec} {x : Fr × Hp}, sTrace call fr l tm h = some (rs, x) → ∀ r ∈ rs, ∃ d ∈ l, r.rd = d.rd ∧ r.eff = d.eff
  | [], tm, h, rs, x, e, r, hr => by cases e; cases hr
  | d :: l, tm, h, rs, x, e, r, hr => by
    simp only [sTrace] at e
    split at e
    · split at e
      · split at e
        · rename_i e2
          cases e
          rcases List.mem_cons.1 hr with rfl | hr
          · exact ⟨d, by simp, rfl, rfl⟩
          · obtain ⟨d', h1, h2⟩ := sTrace_flags e2 r hr
            exact ⟨d', by simp [h1], h2⟩
        · cases e
      · cases e
    · split at e
      · rename_i e2
        cases e
        rcases List.mem_cons.1 hr with rfl | hr
        · exact ⟨d, by simp, rfl, rfl⟩
        · obtain ⟨d', h1, h2⟩ := sTrace_flags e2 r hr
          exact ⟨d', by simp [h1], h2⟩
      · cases e
    · cases e

theorem cOpers_length : ∀ {os : List Oper} {l : List DOper}, cOpers P n ops os = some l → l.length = os.length
  | [], l, h => by cases h; rfl
  | o :: r, l, h => by
    simp only [cOpers] at h
    split at h
    · rename_i h1 h2
      cases h
      simp [cOpers_length h2]
    · cases h

theorem runDraw_run {l : List DOper} (hc : cOpers P n ops ops.toList = some l) (ho : orderOK ops (clos ops.toList []) = true) (hn : ∀ d ∈ l, d.o.op.isCv = false) {h : Hp} {x : Fr × Hp} :
    (sDraw call fr l (clos ops.toList []) l.length h = some x → runDraw P call n ops fr h = some x ∧ sOps call fr (l.map (·.o)) [] h = some x) ∧
    ((l.all (fun d => !d.eff) || l.all (fun d => !d.rd)) = true → sOps call fr (l.map (·.o)) [] h = some x → runDraw P call n ops fr h = some x) := by
  have hlen : l.length = ops.size := by simpa using cOpers_length hc
  have fin : ∀ {ss : List SRec}, sTrace call fr l [] h = some (ss, x) → ((sEffs ss 0).isEmpty || sReads call fr (clos ops.toList []) (sEffs ss 0 ++ [(ops.size, x.2)]) ss 0) = true → runDraw P call n ops fr h = some x ∧ sOps call fr (l.map (·.o)) [] h = some x := fun {ss} e hr => by
    obtain ⟨rs, h1, h2, h3⟩ := sTrace_run hc hn e
    refine ⟨?_, h3⟩
    obtain ⟨tm, h'⟩ := x
    unfold runDraw
    rw [h1]
    have hE := sEffs_eq h2 0
    have : (orderOK ops (clos ops.toList []) && ((effHeaps rs 0).isEmpty || readsOK P call ops fr (clos ops.toList []) (effHeaps rs 0 ++ [(ops.size, h')]) rs 0)) = true := by
      rw [ho, Bool.true_and, hE]
      rw [Bool.or_eq_true] at hr ⊢
      exact hr.imp id (sReads_run _ _ h2 0)
    simp only [this, cond_true]
  refine ⟨fun e => ?_, fun hq e => ?_⟩
  · unfold sDraw at e
    split at e
    · rename_i ss tm h' e1
      cases hcond : ((sEffs ss 0).isEmpty || sReads call fr (clos ops.toList []) (sEffs ss 0 ++ [(l.length, h')]) ss 0)
      · simp [hcond] at e
      · simp only [hcond, cond_true, Option.some.injEq] at e
        subst e
        exact fin e1 (by rw [← hlen]; exact hcond)
    · cases e
  · obtain ⟨ss, e1⟩ := sOps_trace e
    refine (fin e1 ?_).1
    rw [Bool.or_eq_true] at hq ⊢
    rcases hq with hq | hq
    · left
      rw [sEffs_nil fun r hr => ?_]
      · rfl
      · obtain ⟨d, h5, _, h6⟩ := sTrace_flags e1 r hr
        rw [h6]
        simpa using List.all_eq_true.1 hq d h5
    · right
      refine sReads_none fun r hr => ?_
      obtain ⟨d, h5, h6, _⟩ := sTrace_flags e1 r hr
      rw [h6]
      simpa using List.all_eq_true.1 hq d h5

theorem compC_sound : ∀ {c : Code} {sc : SC}, compC P keep n c = some sc → ∀ {s : St} {r : Ex × St}, runS call m sc s = some r → runC P call m keep n c s = some r
  | .skip, sc, h, s, r, e => by cases h; exact e
  | .label _, sc, h, s, r, e => by cases h; exact e
  | .region _ ops false, sc, h, s, r, e => by
    simp only [compC] at h
    cases hc : cOpers P n ops ops.toList with
    | none => simp [hc] at h
    | some l =>
      simp only [hc, Option.map_some, Option.some.injEq] at h
      subst h
      simp only [runS] at e
      simp only [runC]
      split at e
      · rename_i tm h' e1
        rw [sOps_run hc e1]
        cases e
        simp only [commit_ops e1]
      · cases e
  | .region _ ops true, sc, h, s, r, e => by
    simp only [compC] at h
    split at h
    · rename_i l hc
      cases ho : (orderOK ops (clos ops.toList []) && l.all (fun d => !d.o.op.isCv))
      · simp [ho] at h
      · simp only [ho, cond_true] at h
        simp only [Bool.and_eq_true, List.all_eq_true] at ho
        have hn : ∀ d ∈ l, d.o.op.isCv = false := fun d hd => by simpa using ho.2 d hd
        cases hq : (l.all (fun d => !d.eff) || l.all (fun d => !d.rd))
        · simp only [hq, cond_false, Option.some.injEq] at h
          subst h
          simp only [runS] at e
          simp only [runC]
          split at e
          · rename_i tm h' e1
            obtain ⟨h1, h2⟩ := (runDraw_run (call := call) (fr := s.fr) hc ho.1 hn).1 e1
            rw [h1]
            cases e
            simp only [commit_ops h2]
          · cases e
        · simp only [hq, cond_true, Option.some.injEq] at h
          subst h
          simp only [runS] at e
          simp only [runC]
          split at e
          · rename_i tm h' e1
            rw [(runDraw_run (call := call) (fr := s.fr) hc ho.1 hn).2 hq e1]
            cases e
            simp only [commit_ops e1]
          · cases e
    · cases h
  | .rangeFunc f ps assign body, sc, h, s, r, e => by
    cases h
    simp only [runS, sev_cX] at e
    simp only [runC]
    revert e
    rcases ev (lkF s.fr) f with _ | _ | _ | _ | _ | _ | _ | _ | _ | _ | _ | ⟨_ | _, _, _⟩ | _ | _ | _ | _ | _ | _ <;> exact id
  | .seq a b, sc, h, s, r, e => by
    simp only [compC] at h
    split at h
    · rename_i h1 h2
      cases h
      rw [mkSeq_run] at e
      simp only [runC]
      split at e
      · rename_i s' e1
        rw [compC_sound h1 e1]
        exact compC_sound h2 e
      · rename_i hnn
        have e2 := compC_sound h1 e
        rw [e2]
        obtain ⟨x, s'⟩ := r
        cases x with
        | normal => exact absurd e (hnn s')
        | exit _ => rfl
        | ret => rfl
    · cases h
  | .cond c a b, sc, h, s, r, e => by
    simp only [compC] at h
    split at h
    · rename_i h1 h2
      cases h
      simp only [runS, sev_cX] at e
      simp only [runC]
      split at e
      · rename_i t ht
        rw [ht]
        cases t
        · exact compC_sound h2 e
        · exact compC_sound h1 e
      · cases e
    · cases h
  | .block id b, sc, h, s, r, e => by
    simp only [compC] at h
    cases hb : compC P keep n b with
    | none => simp [hb] at h
    | some b' =>
      simp only [hb, Option.map_some, Option.some.injEq] at h
      subst h
      simp only [runS] at e
      simp only [runC]
      split at e
      · rename_i j s' e1
        rw [compC_sound hb e1]
        exact e
      · rename_i hnn
        rw [compC_sound hb e]
        obtain ⟨x, s'⟩ := r
        cases x with
        | normal => rfl
        | exit j => exact absurd e (hnn j s')
        | ret => rfl
  | .loop b, sc, h, s, r, e => by
    simp only [compC] at h
    cases hb : compC P keep n b with
    | none => simp [hb] at h
    | some b' =>
      simp only [hb, Option.map_some, Option.some.injEq] at h
      subst h
      simp only [runS] at e
      simp only [runC]
      have key : ∀ {k : Nat} {s : St} {r : Ex × St}, iter (runS call m b') k s = some r → iter (runC P call m keep n b) k s = some r := by
        intro k
        induction k with
        | zero => intro s r e; cases e
        | succ k ih =>
          intro s r e
          simp only [iter] at e ⊢
          cases hs : runS call m b' s with
          | none => rw [hs] at e; cases e
          | some y =>
            rw [hs] at e
            rw [compC_sound hb hs]
            obtain ⟨x, s'⟩ := y
            cases x with
            | normal => exact ih e
            | exit _ => exact e
            | ret => exact e
      exact key e
  | .exit id, sc, h, s, r, e => by cases h; exact e
  | .ret, sc, h, s, r, e => by cases h; exact e
  | .scope b, sc, h, s, r, e => by
    simp only [compC] at h
    simp only [runC]
    exact compC_sound h e
  | .goto _, sc, h, s, r, e => by cases h

end

/- Functions -/

inductive SRes where
  | tmp (t : Nat)
  | cell (a : Nat) (k : Option Nat)

def sresV (fr : Fr) (h : Hp) : SRes → Option AV
  | .tmp t => some (lkF fr t)
  | .cell a k => match lkF fr a with
    | .ptr id off => match lkB h.blks id with
      | some b => rdC k b.cells off
      | none => none
    | _ => none

def sresVs (fr : Fr) (h : Hp) : List SRes → Option (List AV)
  | [] => some []
  | r :: rs => match sresV fr h r, sresVs fr h rs with
    | some v, some vs => some (v :: vs)
    | _, _ => none

def cRes (P : Program) : List ResultVar → Option (List SRes)
  | [] => some []
  | .tmp t :: r => (cRes P r).map (.tmp t :: ·)
  | .cell a t :: r => match rdK P t, cRes P r with
    | some k, some l => some (.cell a k :: l)
    | _, _ => none

structure SFun where
  slots : List Nat
  nt : Nat
  body : SC
  res : List SRes

def initS (slots : List Nat) (args : List AV) : Fr := slots.map fun t => (t, (args[t]?).getD .any)

def compF (P : Program) (f : Nat) : Option SFun :=
  match P.funcs[f]? with
  | some fn => match fn.body with
    | some c => bif fn.name == "runtime.NumGoroutine" then none else
      match compC P (keepOf fn c) fn.ntmps c, cRes P fn.results.toList with
      | some b, some r => some { slots := (List.range fn.ntmps).filter (keepOf fn c).testBit, nt := fn.ntmps, body := b, res := r }
      | _, _ => none
    | none => none
  | none => none

/-- The way out of a call. -/
def exitS (g : Bool) (h0 : Hp) (res : List SRes) : Option (Ex × St) → Option (AV × Hp)
  | some (.normal, s) | some (.ret, s) => match sresVs s.fr s.hp res with
    | some vs => some (resOf vs, leave g h0 (resOf vs) s.hp)
    | none => none
  | _ => none

def enterS (call : CallF) (g : Bool) (m : Nat) (sf : SFun) (args : List AV) (h : Hp) : Option (AV × Hp) :=
  bif Nat.ble args.length sf.nt then exitS g h sf.res (runS call m sf.body { fr := initS sf.slots args, hp := { h with base := h.next, esc := false } }) else none

theorem cRes_sound {P : Program} {fr : Fr} {h : Hp} : ∀ {l : List ResultVar} {rs : List SRes}, cRes P l = some rs → resVs P fr h l = sresVs fr h rs
  | [], rs, e => by cases e; rfl
  | .tmp t :: r, rs, e => by
    simp only [cRes] at e
    cases hr : cRes P r with
    | none => simp [hr] at e
    | some l =>
      simp only [hr, Option.map_some, Option.some.injEq] at e
      subst e
      simp only [resVs, sresVs, resV, sresV, cRes_sound hr]
      cases sresVs fr h l <;> rfl
  | .cell a t :: r, rs, e => by
    simp only [cRes] at e
    split at e
    · rename_i k l h1 h2
      cases e
      have : resV P fr h (.cell a t) = sresV fr h (.cell a k) := by
        simp only [resV, sresV]
        cases lkF fr a <;> try rfl
        rename_i id off
        simp only [rdC_rdK h1]
        cases lkB h.blks id <;> rfl
      simp only [resVs, sresVs, this, cRes_sound h2]
      cases sresV fr h (.cell a k) <;> cases sresVs fr h l <;> rfl
    · cases e

theorem argFr_initS (keep : Nat) : ∀ (n : Nat) (args : List AV) (i : Nat), argFr keep n args i = ((List.range' i n).filter keep.testBit).map fun t => (t, (args[t - i]?).getD .any)
  | 0, args, i => rfl
  | n + 1, args, i => by
    have ih := argFr_initS keep n args.tail (i + 1)
    have tl : ((List.range' (i + 1) n).filter keep.testBit).map (fun t => (t, (args.tail[t - (i + 1)]?).getD AV.any)) = ((List.range' (i + 1) n).filter keep.testBit).map fun t => (t, (args[t - i]?).getD .any) := by
      refine List.map_congr_left fun t ht => ?_
      have := (List.mem_range'_1.1 (List.mem_filter.1 ht).1).1
      cases args with
      | nil => simp
      | cons v r => rw [show t - i = (t - (i + 1)) + 1 by omega, List.getElem?_cons_succ, List.tail_cons]
    simp only [argFr, ih, List.range'_succ, List.filter_cons]
    cases hk : keep.testBit i
    · simp only [cond_false, Bool.false_eq_true, if_false]
      exact tl
    · simp only [cond_true, if_true, List.map_cons, tl, Nat.sub_self]
      cases args <;> rfl

theorem enterF_S {P : Program} {call : CallF} {g : Bool} {m f : Nat} {sf : SFun} (hc : compF P f = some sf) {args : List AV} {h : Hp} {r : AV × Hp} (e : enterS call g m sf args h = some r) : enterF P call g m f args h = some r := by
  unfold compF at hc
  split at hc
  · rename_i fn h1
    split at hc
    · rename_i c h2
      cases h3 : fn.name == "runtime.NumGoroutine"
      · simp only [h3, cond_false] at hc
        split at hc
        · rename_i b q h4 h5
          cases hc
          unfold enterS at e
          unfold enterF
          simp only [h1, h2, h3, Bool.not_false, Bool.and_true, argFr_initS, initS, ← List.range_eq_range', Nat.sub_zero, cRes_sound h5] at e ⊢
          cases hb : Nat.ble args.length fn.ntmps
          · simp [hb] at e
          · simp only [hb, cond_true] at e ⊢
            revert e
            generalize hq : runS call m b _ = q'
            intro e
            rcases q' with _ | ⟨_ | _ | _, s⟩
            · cases e
            · rw [compC_sound h4 hq]
              exact e
            · cases e
            · rw [compC_sound h4 hq]
              exact e
        · cases hc
      · simp [h3] at hc
    · cases hc
  · cases hc

end Go.Abs

namespace Go.Abs
open Go

def rfs : Code → List (Array Nat × Code × Code)
  | .rangeFunc _ ps a b => [(ps, a, b)]
  | .seq a b | .cond _ a b => rfs a ++ rfs b
  | .block _ b | .loop b => rfs b
  | _ => []

def rfAt (P : Program) (f k : Nat) : Array Nat × Code × Code :=
  match P.funcs[f]? with
  | some fn => match fn.body with
    | some c => (rfs c).getD k (#[], .skip, .skip)
    | none => (#[], .skip, .skip)
  | none => (#[], .skip, .skip)

end Go.Abs
