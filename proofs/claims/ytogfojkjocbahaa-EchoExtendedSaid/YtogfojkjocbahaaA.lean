/- The abstract machine: values without addresses of their own, a heap of numbered blocks, and an interpreter of the translated code over them. -/
import Derived.Below
import Derived.OrdersIn
import Derived.RangeFuncIn
import Derived.RangeFuncLeaves
namespace Go.Abs
open Go

/-- Abstract values. Addresses are pairs of a block's number and a cell's. 'esl': an empty slice that is not nil, of any capacity. -/
inductive AV where
  | any
  | bool (x : Bool)
  | int (k : IntKind) (n : Int)
  | str (l : List UInt8)
  | ptr (id off : Nat)
  | nilptr
  | sl (id off len : Nat) (cap : Option Nat) (sz : Nat)
  | nilsl
  | esl
  | mp (id : Nat)
  | nilmp
  | fn (f : Fn) (first cap : List AV)
  | yld (id : Nat)
  | nilfn
  | ifc (t : TypeId) (v : AV)
  | nilifc
  | ag (cs : List AV)
  | tu (vs : List AV)
  deriving Inhabited

structure Blk where
  cells : List AV
  ch : Nat
  wr : Bool
  deriving Inhabited

abbrev Fr := List (Nat × AV)

/-- A range over a function, under way: 0 ready, 1 busy, 2 done; the jump that its last round has left: none, ret, or an exit. -/
structure LoopA where
  st : Nat
  jump : Option (Option Nat)
  ps : Array Nat
  assign : Code
  body : Code
  keep : Nat
  n : Nat
  fr : Fr
  deriving Inhabited

/-- The heap. 'base' and 'esc' are hints for what may be forgotten. -/
structure Hp where
  next : Nat
  blks : List (Nat × Blk)
  loops : List (Nat × LoopA) := []
  base : Nat := 0
  esc : Bool := false
  deriving Inhabited

structure St where
  fr : Fr
  hp : Hp
  deriving Inhabited

inductive Ex where
  | normal
  | exit (id : Nat)
  | ret
  deriving Inhabited

def lkF : Fr → Nat → AV
  | [], _ => .any
  | (j, v) :: r, i => bif Nat.beq j i then v else lkF r i

def setF : Fr → Nat → AV → Fr
  | [], i, v => [(i, v)]
  | (j, u) :: r, i, v => bif Nat.beq j i then (j, v) :: r else (j, u) :: setF r i v

def lkB : List (Nat × Blk) → Nat → Option Blk
  | [], _ => none
  | (j, b) :: r, i => bif Nat.beq j i then some b else lkB r i

def setB : List (Nat × Blk) → Nat → Blk → List (Nat × Blk)
  | [], _, _ => []
  | (j, b) :: r, i, v => bif Nat.beq j i then (j, v) :: r else (j, b) :: setB r i v

def lkL : List (Nat × LoopA) → Nat → Option LoopA
  | [], _ => none
  | (j, b) :: r, i => bif Nat.beq j i then some b else lkL r i

def setL : List (Nat × LoopA) → Nat → LoopA → List (Nat × LoopA)
  | [], _, _ => []
  | (j, b) :: r, i, v => bif Nat.beq j i then (j, v) :: r else (j, b) :: setL r i v

def delL : List (Nat × LoopA) → Nat → List (Nat × LoopA)
  | [], _ => []
  | (j, b) :: r, i => bif Nat.beq j i then delL r i else (j, b) :: delL r i

/-- What shares its memory with a block may have been written from cell n on: it is forgotten there. -/
def trunc : List (Nat × Blk) → (ch skip n : Nat) → List (Nat × Blk)
  | [], _, _, _ => []
  | (j, b) :: r, c, s, n =>
    bif Nat.blt j c then (j, b) :: r
    else (j, bif Nat.beq b.ch c && !Nat.beq j s then { b with cells := b.cells.take n } else b) :: trunc r c s n

def AV.isCell : AV → Bool
  | .any | .ag _ | .tu _ => false
  | _ => true

def AV.parts : AV → Option (List AV)
  | .any => none
  | .tu _ => none
  | .ag cs => some cs
  | v => some [v]

def ofS : Value → AV
  | .bool b => .bool b
  | .int k n => .int k n
  | .string s => .str s.data.toList
  | .pointer none => .nilptr
  | .slice none 0 0 => .nilsl
  | .map none => .nilmp
  | .nilFunc => .nilfn
  | .nilIface => .nilifc
  | _ => .any

def ofV : Value → AV
  | .agg cs => .ag (cs.toList.map ofS)
  | .iface t v => .ifc t (ofS v)
  | v => ofS v

def ev (fr : Nat → AV) : Operand → AV
  | .tmp t => fr t
  | .const v => ofV v
  | .global _ => .any
  | .func f => .fn (.func f) [] []

/-- The cells of a type's zero value. -/
def zeroCells (P : Program) (t : TypeId) : Option (List AV) :=
  match P.info? t with
  | some i => (match i.zero with | some z => (ofV z).parts | none => none)
  | none => none

def szOf (P : Program) (t : TypeId) : Option Nat := (P.info? t).map (·.size)
def bytesOf (P : Program) (t : TypeId) : Option Nat := (P.info? t).map (·.bytes)

def isAggT (P : Program) (t : TypeId) : Option Bool :=
  match P.underlying t with
  | some (.struct _) | some (.array _ _) => some true
  | some _ => some false
  | none => none

def Hp.new (h : Hp) (cells : List AV) : Nat × Hp := (h.next, { h with next := h.next + 1, blks := (h.next, { cells, ch := h.next, wr := true }) :: h.blks })

def AV.hasRef : AV → Bool
  | .ptr .. | .sl .. | .fn .. | .yld _ | .mp _ | .ifc .. | .ag _ | .tu _ => true
  | _ => false

/-- n cells from off on. -/
def slice? (cs : List AV) (off n : Nat) : Option (List AV) :=
  bif Nat.ble (off + n) cs.length then some ((cs.drop off).take n) else none

def rdVar (P : Program) (cs : List AV) (t : TypeId) (off : Nat) : Option AV :=
  match isAggT P t with
  | some true => (match szOf P t with
    | some n => (slice? cs off n).map .ag
    | none => none)
  | some false => cs[off]?
  | none => none

def splice (cs : List AV) (off : Nat) (vs : List AV) : List AV := cs.take off ++ vs ++ cs.drop (off + vs.length)

/-- vs is written into block id from cell off on. -/
def Hp.write (h : Hp) (id off : Nat) (vs : List AV) : Option Hp :=
  match lkB h.blks id with
  | some b =>
    bif b.wr && Nat.ble (off + vs.length) b.cells.length && vs.all AV.isCell then
      some { h with blks := setB (trunc h.blks b.ch id off) id { b with cells := splice b.cells off vs }, esc := h.esc || (Nat.blt id h.base && vs.any AV.hasRef) }
    else none
  | none => none

def fillA (place : Nat → Option (Nat × Nat)) (cells : List AV) : List (Nat × AV) → Option (List AV)
  | [] => some cells
  | (i, v) :: rest =>
    match place i, v.parts with
    | some (off, size), some vs =>
      bif Nat.beq vs.length size && Nat.ble (off + vs.length) cells.length then fillA place (splice cells off vs) rest else none
    | _, _ => none

def fieldPlaces (P : Program) : List Field → Option (List (Nat × Nat))
  | [] => some []
  | f :: r => match szOf P f.type, fieldPlaces P r with
    | some n, some l => some ((f.offset, n) :: l)
    | _, _ => none

def repl (z : List AV) : Nat → List AV
  | 0 => []
  | n + 1 => z ++ repl z n

def abInt (op : BinOp) (k : IntKind) (a b : Int) : Option AV :=
  match op with
  | .add => some (.int k (k.wrap (a + b)))
  | .sub => some (.int k (k.wrap (a - b)))
  | .mul => some (.int k (k.wrap (a * b)))
  | .quo => if b = 0 then none else some (.int k (k.wrap (a.tdiv b)))
  | .rem => if b = 0 then none else some (.int k (a.tmod b))
  | .and => some (.int k (k.wrap (BitVec.ofInt k.bits a &&& BitVec.ofInt k.bits b).toNat))
  | .or => some (.int k (k.wrap (BitVec.ofInt k.bits a ||| BitVec.ofInt k.bits b).toNat))
  | .xor => some (.int k (k.wrap (BitVec.ofInt k.bits a ^^^ BitVec.ofInt k.bits b).toNat))
  | .andNot => some (.int k (k.wrap (BitVec.ofInt k.bits a &&& ~~~BitVec.ofInt k.bits b).toNat))
  | .eql => some (.bool (a == b))
  | .neq => some (.bool (a != b))
  | .lss => some (.bool (a < b))
  | .leq => some (.bool (a ≤ b))
  | .gtr => some (.bool (a > b))
  | .geq => some (.bool (a ≥ b))
  | .shl => none
  | .shr => none

def abShift (op : BinOp) (k : IntKind) (a b : Int) : Option AV :=
  if b < 0 then none else
  match op with
  | .shl => some (.int k (k.wrap (a * 2 ^ (min b.toNat k.bits))))
  | .shr => some (.int k (a.fdiv (2 ^ (min b.toNat k.bits))))
  | _ => none

/-- Equality of two scalars; none where it is not told. -/
def abEq : AV → AV → Option Bool
  | .int k a, .int k' b => if k = k' then some (a == b) else none
  | .bool a, .bool b => some (a == b)
  | .sl .., .nilsl => some false
  | .nilsl, .sl .. => some false
  | .esl, .nilsl => some false
  | .nilsl, .esl => some false
  | .nilsl, .nilsl => some true
  | .mp _, .nilmp => some false
  | .nilmp, .nilmp => some true
  | .ptr .., .nilptr => some false
  | .nilptr, .ptr .. => some false
  | .nilptr, .nilptr => some true
  | .fn .., .nilfn => some false
  | .nilfn, .nilfn => some true
  | _, _ => none

/-- Does the type's == go by 'abEq'? -/
def eqFits (P : Program) (t : TypeId) (a : AV) : Bool :=
  match P.underlying t, a with
  | some .bool, .bool _ => true
  | some (.slice _), .sl .. | some (.slice _), .nilsl | some (.slice _), .esl => true
  | some (.map _ _), .mp _ | some (.map _ _), .nilmp => true
  | some (.pointer _), .ptr .. | some (.pointer _), .nilptr => true
  | some (.func _ _ _), .fn .. | some (.func _ _ _), .nilfn => true
  | _, _ => false

def abBin (P : Program) (op : BinOp) (t : TypeId) (x y : AV) : Option AV :=
  match x, y with
  | .int k a, .int k' b =>
    match op with
    | .shl | .shr => abShift op k a b
    | _ => if k = k' then abInt op k a b else none
  | x, y =>
    match op with
    | .eql => bif eqFits P t x then (abEq x y).map .bool else none
    | .neq => bif eqFits P t x then (abEq x y).map (fun b => .bool (!b)) else none
    | _ => none

def idx? : AV → Option Nat
  | .int _ n => if 0 ≤ n then some n.toNat else none
  | _ => none

def int? : AV → Option Int
  | .int _ n => some n
  | _ => none

/-- A bound of a slice expression. -/
def bnd (fr : Nat → AV) (d : Nat) : Option Operand → Option Nat
  | some e => idx? (ev fr e)
  | none => some d

/-- The operations that make no call. -/
def step1 (P : Program) (fr : Nat → AV) (h : Hp) : Op → Option (AV × Hp)
  | .move x => some (ev fr x, h)
  | .assign x => some (ev fr x, h)
  | .pick c a b => match ev fr c with
    | .bool t => some (bif t then ev fr a else ev fr b, h)
    | _ => none
  | .alloc t => match zeroCells P t with
    | some cs => let (i, h') := h.new cs; some (.ptr i 0, h')
    | none => none
  | .box _ x => match (ev fr x).parts with
    | some cs => let (i, h') := h.new cs; some (.ptr i 0, h')
    | none => none
  | .build t ps => match P.underlying t, zeroCells P t with
    | some (.struct fs), some z => match fieldPlaces P fs.toList with
      | some pl => (fillA (pl[·]?) z (ps.toList.map fun p => (p.1, ev fr p.2))).map fun cs => (.ag cs, h)
      | none => none
    | some (.array _ e), some z => match szOf P e with
      | some n => (fillA (fun i => some (i * n, n)) z (ps.toList.map fun p => (p.1, ev fr p.2))).map fun cs => (.ag cs, h)
      | none => none
    | _, _ => none
  | .buildSlice t len ps => match P.underlying t with
    | some (.slice e) => match szOf P e, zeroCells P e with
      | some n, some z =>
        bif Nat.ble (len * n) 16777216 && Nat.beq z.length n then
          match fillA (fun i => some (i * n, n)) (repl z len) (ps.toList.map fun p => (p.1, ev fr p.2)) with
          | some cs => let (i, h') := h.new cs; some (.sl i 0 len (some len) n, h')
          | none => none
        else none
      | _, _ => none
    | _ => none
  | .load t a => match ev fr a with
    | .ptr id off => match lkB h.blks id with
      | some b => (rdVar P b.cells t off).map fun v => (v, h)
      | none => none
    | _ => none
  | .store t a x => match ev fr a, (ev fr x).parts, szOf P t with
    | .ptr id off, some vs, some n => bif Nat.beq vs.length n then (h.write id off vs).map fun h' => (.any, h') else none
    | _, _, _ => none
  | .nilCheck x => match ev fr x with
    | .ptr i o => some (.ptr i o, h)
    | _ => none
  | .binOp op t x y _ => (abBin P op t (ev fr x) (ev fr y)).map fun v => (v, h)
  | .unOp op _ x => match op, ev fr x with
    | .not, .bool b => some (.bool (!b), h)
    | .neg, .int k n => some (.int k (k.wrap (0 - n)), h)
    | _, _ => none
  | .convert src dst x => match P.underlying src, P.underlying dst, ev fr x with
    | some _, some (.int k), .int _ n => some (.int k (k.wrap n), h)
    | _, _, _ => none
  | .makeFunc f a c => match f with
    | .func g => some (.fn (.func g) (a.toList.map (ev fr)) (c.toList.map (ev fr)), h)
    | _ => none
  | .makeSlice t l c => match P.underlying t, int? (ev fr l), int? (ev fr c) with
    | some (.slice e), some l, some c => match szOf P e, zeroCells P e with
      | some n, some z =>
        if 0 ≤ l ∧ l ≤ c ∧ c ≤ 1048576 ∧ z.length = n ∧ (bytesOf P e).any (· ≤ 1048576) then
          let (i, h') := h.new (repl z c.toNat); some (.sl i 0 l.toNat (some c.toNat) n, h')
        else none
      | _, _ => none
    | _, _, _ => none
  | .slice t x lo hi none => match P.underlying t, ev fr x with
    | some (.slice e), .sl id off len cap sz =>
      match bnd fr len hi, bnd fr 0 lo, szOf P e with
      | some hv, some lv, some m =>
        bif Nat.ble lv hv && Nat.beq m sz then
          match cap with
          | some c => bif Nat.ble hv c then
              bif Nat.beq c lv then some (.sl id off (hv - lv) (some 0) sz, h) else some (.sl id (off + lv * sz) (hv - lv) (some (c - lv)) sz, h)
            else none
          | none => bif Nat.ble hv len then bif Nat.blt lv len then some (.sl id (off + lv * sz) (hv - lv) none sz, h) else some (.esl, h) else none
        else none
      | _, _, _ => none
    | some (.slice e), .nilsl =>
      match bnd fr 0 hi, bnd fr 0 lo, szOf P e with
      | some 0, some 0, some _ => some (.nilsl, h)
      | _, _, _ => none
    | some (.slice e), .esl =>
      match bnd fr 0 hi, bnd fr 0 lo, szOf P e with
      | some 0, some 0, some _ => some (.esl, h)
      | _, _, _ => none
    | _, _ => none
  | .slice t x lo (some hi) (some mx) => match P.underlying t, ev fr x, idx? (ev fr mx) with
    | some (.slice e), .sl id off len cap sz, some mv =>
      match idx? (ev fr hi), bnd fr 0 lo, szOf P e with
      | some hv, some lv, some m =>
        bif Nat.ble lv hv && Nat.beq m sz && Nat.ble hv mv && Nat.ble mv (cap.getD len) then
          bif Nat.beq mv lv then some (.sl id off (hv - lv) (some 0) sz, h) else some (.sl id (off + lv * sz) (hv - lv) (some (mv - lv)) sz, h)
        else none
      | _, _, _ => none
    | some (.slice e), .nilsl, some 0 =>
      match idx? (ev fr hi), bnd fr 0 lo, szOf P e with
      | some 0, some 0, some _ => some (.nilsl, h)
      | _, _, _ => none
    | _, _, _ => none
  | .fieldAddr t x f => match P.underlying t, ev fr x with
    | some (.struct fs), .ptr id off => match fs[f]? with
      | some fd => match szOf P fd.type with
        | some n => bif Nat.beq n 0 then none else some (.ptr id (off + fd.offset), h)
        | none => none
      | none => none
    | _, _ => none
  | .field t x f => match P.underlying t, ev fr x with
    | some (.struct fs), .ag cs => match fs[f]? with
      | some fd => (rdVar P cs fd.type fd.offset).map fun v => (v, h)
      | none => none
    | _, _ => none
  | .indexAddr t x i => match P.underlying t, ev fr x, idx? (ev fr i) with
    | some (.slice e), .sl id off len _ _, some k => match szOf P e with
      | some n => bif Nat.blt k len then some (.ptr id (off + k * n), h) else none
      | none => none
    | some (.array len e), .ptr id off, some k => match szOf P e with
      | some n => bif Nat.blt k len then some (.ptr id (off + k * n), h) else none
      | none => none
    | _, _, _ => none
  | .index t x i => match P.underlying t, ev fr x, idx? (ev fr i) with
    | some (.array len e), .ag cs, some k => match szOf P e with
      | some n => bif Nat.blt k len then (rdVar P cs e (k * n)).map fun v => (v, h) else none
      | none => none
    | _, _, _ => none
  | .extract x i => match ev fr x with
    | .tu vs => (vs[i]?).map fun v => (v, h)
    | _ => none
  | _ => none


mutual
def AV.beq : AV → AV → Bool
  | .bool x, .bool y => x == y
  | .int k n, .int k' n' => decide (k = k') && n == n'
  | .str l, .str l' => l == l'
  | .ptr i o, .ptr i' o' => Nat.beq i i' && Nat.beq o o'
  | .nilptr, .nilptr => true
  | .sl i o l c s, .sl i' o' l' c' s' => Nat.beq i i' && Nat.beq o o' && Nat.beq l l' && c == c' && Nat.beq s s'
  | .nilsl, .nilsl => true
  | .esl, .esl => true
  | .mp i, .mp j => Nat.beq i j
  | .nilmp, .nilmp => true
  | .fn f a c, .fn f' a' c' => decide (f = f') && AV.beqs a a' && AV.beqs c c'
  | .yld i, .yld j => Nat.beq i j
  | .nilfn, .nilfn => true
  | .ifc t v, .ifc t' v' => Nat.beq t t' && AV.beq v v'
  | .nilifc, .nilifc => true
  | .ag a, .ag b => AV.beqs a b
  | .tu a, .tu b => AV.beqs a b
  | .any, .any => true
  | _, _ => false
def AV.beqs : List AV → List AV → Bool
  | [], [] => true
  | a :: l, b :: m => AV.beq a b && AV.beqs l m
  | _, _ => false
end

end Go.Abs
