/- The abstract machine: values without addresses of their own, a heap of numbered blocks, and an interpreter of the translated code over them. The interpreter of regions, statements and calls over the abstract machine. -/
import Derived.Below
import Derived.Test.YtelalpohbodolaaDoorGL
import Derived.WideKeyRuns
import Derived.Laws.IdiomRangeMap
import Derived.Laws.IdiomStrings
import Derived.OrdersIn
import Derived.RangeFuncIn
import Derived.RangeFuncLeaves
set_option linter.unusedSimpArgs false
set_option linter.unusedVariables false
namespace Go.Abs
open Go

/-- Abstract values. Addresses are pairs of a block's number and a cell's. 'esl': an empty slice that is not nil, of any capacity. -/
inductive AV where
  | any
  | bool (x : Bool)
  | int (k : IntKind) (n : Int)
  | str (l : List UInt8)
  | ptr (id off : Nat)
  | nilptr
  | sl (id off len : Nat) (cap : Option Nat) (sz : Nat)
  | nilsl
  | esl
  | mp (id : Nat)
  | nilmp
  | fn (f : Fn) (first cap : List AV)
  | yld (id : Nat)
  | nilfn
  | ifc (t : TypeId) (v : AV)
  | nilifc
  | ag (cs : List AV)
  | tu (vs : List AV)
  deriving Inhabited

structure Blk where
  cells : List AV
  ch : Nat
  wr : Bool
  deriving Inhabited

abbrev Fr := List (Nat × AV)

/-- A range over a function, under way: 0 ready, 1 busy, 2 done; the jump that its last round has left: none, ret, or an exit. -/
structure LoopA where
  st : Nat
  jump : Option (Option Nat)
  ps : Array Nat
  assign : Code
  body : Code
  keep : Nat
  n : Nat
  fr : Fr
  /-- A map's keys; what an iterator has handed out. -/
  dat : List AV := []
  deriving Inhabited

/-- The heap. 'base' and 'esc' are hints for what may be forgotten. -/
structure Hp where
  next : Nat
  blks : List (Nat × Blk)
  loops : List (Nat × LoopA) := []
  base : Nat := 0
  esc : Bool := false
  deriving Inhabited

structure St where
  fr : Fr
  hp : Hp
  deriving Inhabited

inductive Ex where
  | normal
  | exit (id : Nat)
  | ret
  deriving Inhabited

mutual
def AV.beq : AV → AV → Bool
  | .bool x, .bool y => x == y
  | .int k n, .int k' n' => decide (k = k') && n == n'
  | .str l, .str l' => l == l'
  | .ptr i o, .ptr i' o' => Nat.beq i i' && Nat.beq o o'
  | .nilptr, .nilptr => true
  | .sl i o l c s, .sl i' o' l' c' s' => Nat.beq i i' && Nat.beq o o' && Nat.beq l l' && c == c' && Nat.beq s s'
  | .nilsl, .nilsl => true
  | .esl, .esl => true
  | .mp i, .mp j => Nat.beq i j
  | .nilmp, .nilmp => true
  | .fn f a c, .fn f' a' c' => decide (f = f') && AV.beqs a a' && AV.beqs c c'
  | .yld i, .yld j => Nat.beq i j
  | .nilfn, .nilfn => true
  | .ifc t v, .ifc t' v' => Nat.beq t t' && AV.beq v v'
  | .nilifc, .nilifc => true
  | .ag a, .ag b => AV.beqs a b
  | .tu a, .tu b => AV.beqs a b
  | .any, .any => true
  | _, _ => false
def AV.beqs : List AV → List AV → Bool
  | [], [] => true
  | a :: l, b :: m => AV.beq a b && AV.beqs l m
  | _, _ => false
end

def lkF : Fr → Nat → AV
  | [], _ => .any
  | (j, v) :: r, i => bif Nat.beq j i then v else lkF r i

def setF : Fr → Nat → AV → Fr
  | [], i, v => [(i, v)]
  | (j, u) :: r, i, v => bif Nat.beq j i then (j, v) :: r else (j, u) :: setF r i v

def lkB : List (Nat × Blk) → Nat → Option Blk
  | [], _ => none
  | (j, b) :: r, i => bif Nat.beq j i then some b else lkB r i

def setB : List (Nat × Blk) → Nat → Blk → List (Nat × Blk)
  | [], _, _ => []
  | (j, b) :: r, i, v => bif Nat.beq j i then (j, v) :: r else (j, b) :: setB r i v

def lkL : List (Nat × LoopA) → Nat → Option LoopA
  | [], _ => none
  | (j, b) :: r, i => bif Nat.beq j i then some b else lkL r i

def setL : List (Nat × LoopA) → Nat → LoopA → List (Nat × LoopA)
  | [], _, _ => []
  | (j, b) :: r, i, v => bif Nat.beq j i then (j, v) :: r else (j, b) :: setL r i v

def delL : List (Nat × LoopA) → Nat → List (Nat × LoopA)
  | [], _ => []
  | (j, b) :: r, i => bif Nat.beq j i then delL r i else (j, b) :: delL r i

/-- What shares its memory with a block may have been written from cell n on: it is forgotten there. -/
def trunc : List (Nat × Blk) → (ch skip n : Nat) → List (Nat × Blk)
  | [], _, _, _ => []
  | (j, b) :: r, c, s, n =>
    bif Nat.blt j c then (j, b) :: r
    else (j, bif Nat.beq b.ch c && !Nat.beq j s then { b with cells := b.cells.take n } else b) :: trunc r c s n

def AV.isCell : AV → Bool
  | .any | .ag _ | .tu _ => false
  | _ => true

def AV.parts : AV → Option (List AV)
  | .any => none
  | .tu _ => none
  | .ag cs => some cs
  | v => some [v]

def ofS : Value → AV
  | .bool b => .bool b
  | .int k n => .int k n
  | .string s => .str s.data.toList
  | .pointer none => .nilptr
  | .slice none 0 0 => .nilsl
  | .map none => .nilmp
  | .nilFunc => .nilfn
  | .nilIface => .nilifc
  | _ => .any

def ofV : Value → AV
  | .agg cs => .ag (cs.toList.map ofS)
  | .iface t v => .ifc t (ofS v)
  | v => ofS v

def ev (fr : Nat → AV) : Operand → AV
  | .tmp t => fr t
  | .const v => ofV v
  | .global _ => .any
  | .func f => .fn (.func f) [] []

/-- The cells of a type's zero value. -/
def zeroCells (P : Program) (t : TypeId) : Option (List AV) :=
  match P.info? t with
  | some i => (match i.zero with | some z => (ofV z).parts | none => none)
  | none => none

def szOf (P : Program) (t : TypeId) : Option Nat := (P.info? t).map (·.size)
def bytesOf (P : Program) (t : TypeId) : Option Nat := (P.info? t).map (·.bytes)

def isAggT (P : Program) (t : TypeId) : Option Bool :=
  match P.underlying t with
  | some (.struct _) | some (.array _ _) => some true
  | some _ => some false
  | none => none

def Hp.new (h : Hp) (cells : List AV) : Nat × Hp := (h.next, { h with next := h.next + 1, blks := (h.next, { cells, ch := h.next, wr := true }) :: h.blks })

def AV.hasRef : AV → Bool
  | .ptr .. | .sl .. | .fn .. | .yld _ | .mp _ | .ifc .. | .ag _ | .tu _ => true
  | _ => false

/-- n cells from off on. -/
def slice? (cs : List AV) (off n : Nat) : Option (List AV) :=
  bif Nat.ble (off + n) cs.length then some ((cs.drop off).take n) else none

def rdVar (P : Program) (cs : List AV) (t : TypeId) (off : Nat) : Option AV :=
  match isAggT P t with
  | some true => (match szOf P t with
    | some n => (slice? cs off n).map .ag
    | none => none)
  | some false => cs[off]?
  | none => none

/-- The map's object: state 4; an iterator over a map: state 5. -/
def mapObj (ents : List (AV × AV)) : LoopA := { st := 4, jump := none, ps := #[], assign := .skip, body := .skip, keep := 0, n := 0, fr := ents.map fun e => (0, e.2), dat := ents.map (·.1) }
def itObj (m : Nat) (seen : List AV) : LoopA := { st := 5, jump := none, ps := #[], assign := .skip, body := .skip, keep := 0, n := m, fr := [], dat := seen }
def asMap (r : LoopA) : Option (List (AV × AV)) := bif Nat.beq r.st 4 then some (r.dat.zip (r.fr.map (·.2))) else none
def asIt (r : LoopA) : Option (Nat × List AV) := bif Nat.beq r.st 5 then some (r.n, r.dat) else none

/-- What keys are like. -/
inductive KT where
  | no | bool | int (k : IntKind) | str | flat (ks : List IntKind)

def fitKs : List IntKind → List AV → Bool
  | [], [] => true
  | k :: r, .int k' _ :: s => decide (k = k') && fitKs r s
  | _, _ => false

def keyFit : KT → AV → Bool
  | .bool, .bool _ => true
  | .int k, .int k' _ => decide (k = k')
  | .str, .str _ => true
  | .flat ks, .ag cs => fitKs ks cs
  | _, _ => false

def splice (cs : List AV) (off : Nat) (vs : List AV) : List AV := cs.take off ++ vs ++ cs.drop (off + vs.length)

/-- vs is written into block id from cell off on. -/
def Hp.write (h : Hp) (id off : Nat) (vs : List AV) : Option Hp :=
  match lkB h.blks id with
  | some b =>
    bif b.wr && Nat.ble (off + vs.length) b.cells.length && vs.all AV.isCell then
      some { h with blks := setB (trunc h.blks b.ch id off) id { b with cells := splice b.cells off vs }, esc := h.esc || (Nat.blt id h.base && vs.any AV.hasRef) }
    else none
  | none => none

def fillA (place : Nat → Option (Nat × Nat)) (cells : List AV) : List (Nat × AV) → Option (List AV)
  | [] => some cells
  | (i, v) :: rest =>
    match place i, v.parts with
    | some (off, size), some vs =>
      bif Nat.beq vs.length size && Nat.ble (off + vs.length) cells.length then fillA place (splice cells off vs) rest else none
    | _, _ => none

def fieldPlaces (P : Program) : List Field → Option (List (Nat × Nat))
  | [] => some []
  | f :: r => match szOf P f.type, fieldPlaces P r with
    | some n, some l => some ((f.offset, n) :: l)
    | _, _ => none

def repl (z : List AV) : Nat → List AV
  | 0 => []
  | n + 1 => z ++ repl z n

def abInt (op : BinOp) (k : IntKind) (a b : Int) : Option AV :=
  match op with
  | .add => some (.int k (k.wrap (a + b)))
  | .sub => some (.int k (k.wrap (a - b)))
  | .mul => some (.int k (k.wrap (a * b)))
  | .quo => if b = 0 then none else some (.int k (k.wrap (a.tdiv b)))
  | .rem => if b = 0 then none else some (.int k (a.tmod b))
  | .and => some (.int k (k.wrap (BitVec.ofInt k.bits a &&& BitVec.ofInt k.bits b).toNat))
  | .or => some (.int k (k.wrap (BitVec.ofInt k.bits a ||| BitVec.ofInt k.bits b).toNat))
  | .xor => some (.int k (k.wrap (BitVec.ofInt k.bits a ^^^ BitVec.ofInt k.bits b).toNat))
  | .andNot => some (.int k (k.wrap (BitVec.ofInt k.bits a &&& ~~~BitVec.ofInt k.bits b).toNat))
  | .eql => some (.bool (a == b))
  | .neq => some (.bool (a != b))
  | .lss => some (.bool (a < b))
  | .leq => some (.bool (a ≤ b))
  | .gtr => some (.bool (a > b))
  | .geq => some (.bool (a ≥ b))
  | .shl => none
  | .shr => none

def abShift (op : BinOp) (k : IntKind) (a b : Int) : Option AV :=
  if b < 0 then none else
  match op with
  | .shl => some (.int k (k.wrap (a * 2 ^ (min b.toNat k.bits))))
  | .shr => some (.int k (a.fdiv (2 ^ (min b.toNat k.bits))))
  | _ => none

/-- Equality of the cells of two structs. -/
def agEq : List AV → List AV → Option Bool
  | [], [] => some true
  | .int k a :: r, .int k' b :: s => if k = k' then (match agEq r s with | some e => some ((a == b) && e) | none => none) else none
  | _, _ => none

/-- A field that is a number, at its place. -/
def flatF (P : Program) (x : Field × Nat) : Bool :=
  x.1.name != "_" && Nat.beq x.1.offset x.2 && (match P.underlying x.1.type with | some (.int _) => true | _ => false)

/-- A struct whose fields are all numbers: how many. -/
def flatN (P : Program) (t : TypeId) : Option Nat :=
  match P.underlying t with
  | some (.struct fs) => bif !P.stoodInHeld t && !P.eqGuardType P.depth t && fs.toList.zipIdx.all (flatF P) then some fs.size else none
  | some (.array n e) => bif !P.eqGuardType P.depth t && (match P.underlying e with | some (.int _) => true | _ => false) && (match szOf P e with | some m => Nat.beq m 1 | none => false) then some n else none
  | _ => none

def intKinds (P : Program) : List Field → Option (List IntKind)
  | [] => some []
  | f :: r => match P.underlying f.type, intKinds P r with
    | some (.int k), some l => some (k :: l)
    | _, _ => none

def ktOf (P : Program) (t : TypeId) : KT :=
  match P.underlying t with
  | some .bool => .bool
  | some (.int k) => .int k
  | some .string => .str
  | some (.array n e) => (match flatN P t, P.underlying e with | some _, some (.int k) => .flat (List.replicate n k) | _, _ => .no)
  | some (.struct fs) => (match flatN P t, intKinds P fs.toList with | some _, some l => .flat l | _, _ => .no)
  | _ => .no

def valK (a : AV) (ents : List (AV × AV)) : Option AV := (ents.find? fun e => AV.beq a e.1).map (·.2)
def hasK (a : AV) (ents : List (AV × AV)) : Bool := ents.any fun e => AV.beq a e.1
def putK (a v : AV) (ents : List (AV × AV)) : List (AV × AV) :=
  bif hasK a ents then ents.map fun e => bif AV.beq a e.1 then (e.1, v) else e else (a, v) :: ents
def delK (a : AV) (ents : List (AV × AV)) : List (AV × AV) := ents.filter fun e => !AV.beq a e.1

/-- Iterators over a map are forgotten. -/
def deadObj : LoopA := { st := 6, jump := none, ps := #[], assign := .skip, body := .skip, keep := 0, n := 0, fr := [] }
def dropF (m : Nat) (b : LoopA) : LoopA := bif Nat.beq b.st 5 && Nat.beq b.n m then deadObj else b
def dropIts (m : Nat) : List (Nat × LoopA) → List (Nat × LoopA)
  | [] => []
  | (j, b) :: r => (j, dropF m b) :: dropIts m r

def getM (h : Hp) (id : Nat) : Option (List (AV × AV)) := (lkL h.loops id).bind asMap

def aLkp (kt : KT) (z : AV) (ok : Bool) (h : Hp) (a : AV) : AV → Option (AV × Hp)
  | .nilmp => bif keyFit kt a then some (bif ok then .tu [z, .bool false] else z, h) else none
  | .mp id => match getM h id with
    | some ents => bif keyFit kt a && ents.all (fun e => keyFit kt e.1) then
        some (bif ok then .tu [(valK a ents).getD z, .bool (valK a ents).isSome] else (valK a ents).getD z, h) else none
    | none => none
  | _ => none

def aMup (kt : KT) (h : Hp) (a v : AV) : AV → Option (AV × Hp)
  | .mp id => match getM h id with
    | some ents => bif keyFit kt a && ents.all (fun e => keyFit kt e.1) then
        some (.any, { h with loops := setL (bif hasK a ents then h.loops else dropIts id h.loops) id (mapObj (putK a v ents)) }) else none
    | none => none
  | _ => none

def aMdel (kt : KT) (h : Hp) (a : AV) : AV → Option (AV × Hp)
  | .mp id => match getM h id with
    | some ents => bif keyFit kt a && ents.all (fun e => keyFit kt e.1) then some (.any, { h with loops := setL h.loops id (mapObj (delK a ents)) }) else none
    | none => none
  | _ => none

def aRng (h : Hp) : AV → Option (AV × Hp)
  | .mp id => match getM h id with
    | some _ => some (.ptr h.next 0, { h with next := h.next + 1, loops := (h.next, itObj id []) :: h.loops })
    | none => none
  | _ => none

def aEnt (h : Hp) : AV → Option (AV × Hp)
  | .ptr i 0 => match (lkL h.loops i).bind asIt with
    | some (m, a :: _) => match getM h m with
      | some ents => (valK a ents).map fun v => (.tu [a, v], h)
      | none => none
    | _ => none
  | _ => none

def aLenM (h : Hp) : AV → Option (AV × Hp)
  | .nilmp => some (.int .i64 0, h)
  | .mp id => (getM h id).map fun ents => (.int .i64 ents.length, h)
  | _ => none

def zeroAV (P : Program) (t : TypeId) : Option AV := (P.info? t).bind fun i => i.zero.map ofV

def strBin (op : BinOp) (a b : List UInt8) : Option AV :=
  match op with
  | .add => bif Nat.ble (a.length + b.length) 1073741824 then some (.str (a ++ b)) else none
  | .eql => some (.bool (a == b))
  | .neq => some (.bool (!(a == b)))
  | .lss => some (.bool (Go.Op.bytesLess a b))
  | .leq => some (.bool (Go.Op.bytesLess a b || a == b))
  | .gtr => some (.bool (!(Go.Op.bytesLess a b || a == b)))
  | .geq => some (.bool (!Go.Op.bytesLess a b))
  | _ => none

/-- Equality of two scalars; none where it is not told. -/
def abEq : AV → AV → Option Bool
  | .ag xs, .ag ys => agEq xs ys
  | .int k a, .int k' b => if k = k' then some (a == b) else none
  | .bool a, .bool b => some (a == b)
  | .sl .., .nilsl => some false
  | .nilsl, .sl .. => some false
  | .esl, .nilsl => some false
  | .nilsl, .esl => some false
  | .nilsl, .nilsl => some true
  | .mp _, .nilmp => some false
  | .nilmp, .nilmp => some true
  | .ptr .., .nilptr => some false
  | .nilptr, .ptr .. => some false
  | .nilptr, .nilptr => some true
  | .fn .., .nilfn => some false
  | .nilfn, .nilfn => some true
  | _, _ => none

/-- Does the type's == go by 'abEq'? -/
def eqFits (P : Program) (t : TypeId) (a : AV) : Bool :=
  match P.underlying t, a with
  | some .bool, .bool _ => true
  | some (.slice _), .sl .. | some (.slice _), .nilsl | some (.slice _), .esl => true
  | some (.map _ _), .mp _ | some (.map _ _), .nilmp => true
  | some (.pointer _), .ptr .. | some (.pointer _), .nilptr => true
  | some (.func _ _ _), .fn .. | some (.func _ _ _), .nilfn => true
  | some (.struct _), .ag cs => (match flatN P t with | some n => Nat.beq n cs.length | none => false)
  | some (.array _ _), .ag cs => (match flatN P t with | some n => Nat.beq n cs.length | none => false)
  | _, _ => false

def strT (P : Program) (t : TypeId) : Bool := match P.underlying t with | some .string => true | _ => false

def abBin (P : Program) (op : BinOp) (t : TypeId) (x y : AV) : Option AV :=
  match x, y with
  | .int k a, .int k' b =>
    match op with
    | .shl | .shr => abShift op k a b
    | _ => if k = k' then abInt op k a b else none
  | .str a, .str b => bif strT P t then strBin op a b else none
  | x, y =>
    match op with
    | .eql => bif eqFits P t x then (abEq x y).map .bool else none
    | .neq => bif eqFits P t x then (abEq x y).map (fun b => .bool (!b)) else none
    | _ => none

def idx? : AV → Option Nat
  | .int _ n => if 0 ≤ n then some n.toNat else none
  | _ => none

def int? : AV → Option Int
  | .int _ n => some n
  | _ => none

/-- A bound of a slice expression. -/
def bnd (fr : Nat → AV) (d : Nat) : Option Operand → Option Nat
  | some e => idx? (ev fr e)
  | none => some d

/-- The operations that make no call. -/
def step1 (P : Program) (fr : Nat → AV) (h : Hp) : Op → Option (AV × Hp)
  | .move x => some (ev fr x, h)
  | .assign x => some (ev fr x, h)
  | .pick c a b => match ev fr c with
    | .bool t => some (bif t then ev fr a else ev fr b, h)
    | _ => none
  | .alloc t => match zeroCells P t with
    | some cs => let (i, h') := h.new cs; some (.ptr i 0, h')
    | none => none
  | .box _ x => match (ev fr x).parts with
    | some cs => let (i, h') := h.new cs; some (.ptr i 0, h')
    | none => none
  | .build t ps => match P.underlying t, zeroCells P t with
    | some (.struct fs), some z => match fieldPlaces P fs.toList with
      | some pl => (fillA (pl[·]?) z (ps.toList.map fun p => (p.1, ev fr p.2))).map fun cs => (.ag cs, h)
      | none => none
    | some (.array _ e), some z => match szOf P e with
      | some n => (fillA (fun i => some (i * n, n)) z (ps.toList.map fun p => (p.1, ev fr p.2))).map fun cs => (.ag cs, h)
      | none => none
    | _, _ => none
  | .buildSlice t len ps => match P.underlying t with
    | some (.slice e) => match szOf P e, zeroCells P e with
      | some n, some z =>
        bif Nat.ble (len * n) 16777216 && Nat.beq z.length n then
          match fillA (fun i => some (i * n, n)) (repl z len) (ps.toList.map fun p => (p.1, ev fr p.2)) with
          | some cs => let (i, h') := h.new cs; some (.sl i 0 len (some len) n, h')
          | none => none
        else none
      | _, _ => none
    | _ => none
  | .load t a => match ev fr a with
    | .ptr id off => match lkB h.blks id with
      | some b => (rdVar P b.cells t off).map fun v => (v, h)
      | none => none
    | _ => none
  | .store t a x => match ev fr a, (ev fr x).parts, szOf P t with
    | .ptr id off, some vs, some n => bif Nat.beq vs.length n then (h.write id off vs).map fun h' => (.any, h') else none
    | _, _, _ => none
  | .nilCheck x => match ev fr x with
    | .ptr i o => some (.ptr i o, h)
    | _ => none
  | .binOp op t x y _ => (abBin P op t (ev fr x) (ev fr y)).map fun v => (v, h)
  | .unOp op _ x => match op, ev fr x with
    | .not, .bool b => some (.bool (!b), h)
    | .neg, .int k n => some (.int k (k.wrap (0 - n)), h)
    | _, _ => none
  | .convert src dst x => match P.underlying src, P.underlying dst, ev fr x with
    | some _, some (.int k), .int _ n => some (.int k (k.wrap n), h)
    | _, _, _ => none
  | .makeFunc f a c => match f with
    | .func g => some (.fn (.func g) (a.toList.map (ev fr)) (c.toList.map (ev fr)), h)
    | _ => none
  | .makeSlice t l c => match P.underlying t, int? (ev fr l), int? (ev fr c) with
    | some (.slice e), some l, some c => match szOf P e, zeroCells P e with
      | some n, some z =>
        if 0 ≤ l ∧ l ≤ c ∧ c ≤ 1048576 ∧ z.length = n ∧ (bytesOf P e).any (· ≤ 1048576) then
          let (i, h') := h.new (repl z c.toNat); some (.sl i 0 l.toNat (some c.toNat) n, h')
        else none
      | _, _ => none
    | _, _, _ => none
  | .slice t x lo hi none => match P.underlying t, ev fr x with
    | some (.slice e), .sl id off len cap sz =>
      match bnd fr len hi, bnd fr 0 lo, szOf P e with
      | some hv, some lv, some m =>
        bif Nat.ble lv hv && Nat.beq m sz then
          match cap with
          | some c => bif Nat.ble hv c then
              bif Nat.beq c lv then some (.sl id off (hv - lv) (some 0) sz, h) else some (.sl id (off + lv * sz) (hv - lv) (some (c - lv)) sz, h)
            else none
          | none => bif Nat.ble hv len then bif Nat.blt lv len then some (.sl id (off + lv * sz) (hv - lv) none sz, h) else some (.esl, h) else none
        else none
      | _, _, _ => none
    | some (.slice e), .nilsl =>
      match bnd fr 0 hi, bnd fr 0 lo, szOf P e with
      | some 0, some 0, some _ => some (.nilsl, h)
      | _, _, _ => none
    | some (.slice e), .esl =>
      match bnd fr 0 hi, bnd fr 0 lo, szOf P e with
      | some 0, some 0, some _ => some (.esl, h)
      | _, _, _ => none
    | some (.array n e), .ptr id off =>
      match bnd fr n hi, bnd fr 0 lo, szOf P e with
      | some hv, some lv, some m => bif Nat.ble lv hv && Nat.ble hv n then
          bif Nat.beq n lv then some (.sl id off (hv - lv) (some 0) m, h) else some (.sl id (off + lv * m) (hv - lv) (some (n - lv)) m, h) else none
      | _, _, _ => none
    | some .string, .str l =>
      match bnd fr l.length hi, bnd fr 0 lo with
      | some hv, some lv => bif Nat.ble lv hv && Nat.ble hv l.length then some (.str ((l.drop lv).take (hv - lv)), h) else none
      | _, _ => none
    | _, _ => none
  | .slice t x lo (some hi) (some mx) => match P.underlying t, ev fr x, idx? (ev fr mx) with
    | some (.slice e), .sl id off len cap sz, some mv =>
      match idx? (ev fr hi), bnd fr 0 lo, szOf P e with
      | some hv, some lv, some m =>
        bif Nat.ble lv hv && Nat.beq m sz && Nat.ble hv mv && Nat.ble mv (cap.getD len) then
          bif Nat.beq mv lv then some (.sl id off (hv - lv) (some 0) sz, h) else some (.sl id (off + lv * sz) (hv - lv) (some (mv - lv)) sz, h)
        else none
      | _, _, _ => none
    | some (.slice e), .nilsl, some 0 =>
      match idx? (ev fr hi), bnd fr 0 lo, szOf P e with
      | some 0, some 0, some _ => some (.nilsl, h)
      | _, _, _ => none
    | _, _, _ => none
  | .fieldAddr t x f => match P.underlying t, ev fr x with
    | some (.struct fs), .ptr id off => match fs[f]? with
      | some fd => match szOf P fd.type with
        | some n => bif Nat.beq n 0 then none else some (.ptr id (off + fd.offset), h)
        | none => none
      | none => none
    | _, _ => none
  | .field t x f => match P.underlying t, ev fr x with
    | some (.struct fs), .ag cs => match fs[f]? with
      | some fd => (rdVar P cs fd.type fd.offset).map fun v => (v, h)
      | none => none
    | _, _ => none
  | .indexAddr t x i => match P.underlying t, ev fr x, idx? (ev fr i) with
    | some (.slice e), .sl id off len _ _, some k => match szOf P e with
      | some n => bif Nat.blt k len then some (.ptr id (off + k * n), h) else none
      | none => none
    | some (.array len e), .ptr id off, some k => match szOf P e with
      | some n => bif Nat.blt k len then some (.ptr id (off + k * n), h) else none
      | none => none
    | _, _, _ => none
  | .index t x i => match P.underlying t, ev fr x, idx? (ev fr i) with
    | some (.array len e), .ag cs, some k => match szOf P e with
      | some n => bif Nat.blt k len then (rdVar P cs e (k * n)).map fun v => (v, h) else none
      | none => none
    | some .string, .str l, some k => (l[k]?).map fun b => (.int .u8 b.toNat, h)
    | _, _, _ => none
  | .makeMap t r => match P.underlying t, r with
    | some (.map _ _), none => some (.mp h.next, { h with next := h.next + 1, loops := (h.next, mapObj []) :: h.loops })
    | some (.map _ _), some x => match ev fr x with
      | .int _ _ => some (.mp h.next, { h with next := h.next + 1, loops := (h.next, mapObj []) :: h.loops })
      | _ => none
    | _, _ => none
  | .lookup t x i ok => match P.underlying t with
    | some (.map k e) => match zeroAV P e with
      | some z => aLkp (ktOf P k) z ok h (ev fr i) (ev fr x)
      | none => none
    | _ => none
  | .mapUpdate t m k v => match P.underlying t with
    | some (.map kt _) => aMup (ktOf P kt) h (ev fr k) (ev fr v) (ev fr m)
    | _ => none
  | .range t x => match P.underlying t with
    | some (.map _ _) => aRng h (ev fr x)
    | _ => none
  | .entry x => aEnt h (ev fr x)
  | .extract x i => match ev fr x with
    | .tu vs => (vs[i]?).map fun v => (v, h)
    | _ => none
  | _ => none



end Go.Abs

namespace Go.Abs
open Go

/-- What is called: a function of the program, or a loop's body. -/
inductive Tgt where
  | func (f : Nat)
  | yield (l : Nat)

abbrev CallF := Tgt → List AV → Hp → Option (AV × Hp)

def lkO : Fr → Nat → Option AV
  | [], _ => none
  | (j, v) :: r, i => bif Nat.beq j i then some v else lkO r i

/-- A temporary: written in this region, or before it. -/
def look (tm fr : Fr) (t : Nat) : AV :=
  match lkO tm t with
  | some v => v
  | none => lkF fr t

/-- The cells that a slice (or a string) brings to append or copy. -/
def srcCells (h : Hp) (size : Nat) : AV → Option (List AV × Nat)
  | .nilsl => some ([], 0)
  | .esl => some ([], 0)
  | .sl id off len _ _ => bif Nat.beq len 0 then some ([], 0) else match lkB h.blks id with
    | some b => (slice? b.cells off (len * size)).map fun cs => (cs, len)
    | none => none
  | _ => none

/-- Is there room for an array of so many elements, and does the type's zero value have its size? -/
def okGrow (P : Program) (e size need : Nat) : Bool :=
  Nat.ble need 1073741824 && (bytesOf P e).any (Nat.ble · 4096) && (match zeroCells P e with | some z => Nat.beq z.length size | none => false)

/-- append(s, xs...): n elements, whose cells are 'vs'. -/
def append1 (P : Program) (h : Hp) (e size : Nat) (vs : List AV) (n : Nat) : AV → Option (AV × Hp)
  | .nilsl =>
    bif Nat.beq n 0 then some (.nilsl, h) else
    bif okGrow P e size n && vs.all AV.isCell then
      let (i, h') := h.new vs
      some (.sl i 0 n none size, h')
    else none
  | .esl => bif Nat.beq n 0 then some (.esl, h) else none
  | .sl id off len cap sz =>
    bif !Nat.beq sz size then none else
    bif Nat.beq n 0 then some (.sl id off len cap sz, h) else
    bif !(okGrow P e size (len + n) && vs.all AV.isCell) then none else
    match lkB h.blks id, cap with
    | some b, some c =>
      bif Nat.ble (len + n) c then (h.write id (off + len * sz) vs).map fun h' => (.sl id off (len + n) (some c) sz, h')
      else match slice? b.cells off (len * sz) with
        | some old => let (i, h') := h.new (old ++ vs); some (.sl i 0 (len + n) none sz, h')
        | none => none
    | some b, none =>
      bif Nat.blt 0 sz && Nat.ble (off + (len + n) * sz) b.cells.length then (h.write id (off + len * sz) vs).map fun h' => (.sl id off (len + n) none sz, h')
      else bif Nat.beq off 0 && b.wr && Nat.ble (len * sz) b.cells.length then
        some (.sl h.next 0 (len + n) none sz,
          { h with next := h.next + 1, blks := (h.next, { cells := b.cells.take (len * sz) ++ vs, ch := b.ch, wr := true }) :: trunc h.blks b.ch h.next (len * sz) })
      else none
    | none, _ => none
  | _ => none

def builtin1 (P : Program) (h : Hp) (b : Builtin) (ts : Array TypeId) (args : List AV) : Option (AV × Hp) :=
  match b with
  | .len => match (ts[0]?).bind P.underlying, args with
    | some (.slice _), [.sl _ _ len _ _] => some (.int .i64 len, h)
    | some (.slice _), [.nilsl] => some (.int .i64 0, h)
    | some (.slice _), [.esl] => some (.int .i64 0, h)
    | some .string, [.str l] => some (.int .i64 l.length, h)
    | some (.array n _), [_] => some (.int .i64 n, h)
    | some (.map _ _), [x] => aLenM h x
    | _, _ => none
  | .cap => match (ts[0]?).bind P.underlying, args with
    | some (.slice _), [.sl _ _ _ (some c) _] => some (.int .i64 c, h)
    | some (.slice _), [.nilsl] => some (.int .i64 0, h)
    | _, _ => none
  | .delete => match (ts[0]?).bind P.underlying, args with
    | some (.map k _), [m, a] => aMdel (ktOf P k) h a m
    | _, _ => none
  | .min => match args with
    | [.int k a, .int k' b] => if k = k' then some (.int k (if b < a then b else a), h) else none
    | _ => none
  | .max => match args with
    | [.int k a, .int k' b] => if k = k' then some (.int k (if a < b then b else a), h) else none
    | [.int k a, .int k' b, .int k'' c] => if k = k' ∧ k = k'' then some (.int k (if (if a < b then b else a) < c then c else (if a < b then b else a)), h) else none
    | _ => none
  | .clear => match (ts[0]?).bind P.underlying, args with
    | some (.slice e), [.sl id off len _ sz] => match szOf P e, zeroCells P e with
      | some size, some z => bif Nat.beq sz size && Nat.beq z.length size && Nat.blt 0 len then (h.write id off (repl z len)).map fun h' => (.any, h') else none
      | _, _ => none
    | _, _ => none
  | .append => match ts.toList, args with
    | [t, t'], [s, x] => bif !Nat.beq t t' then none else match P.underlying t with
      | some (.slice e) => match szOf P e with
        | some size => match srcCells h size x with
          | some (vs, n) => append1 P h e size vs n s
          | none => none
        | none => none
      | _ => none
    | _, _ => none
  | .copy => match (ts[0]?).bind P.underlying, args with
    | some (.slice e), [.sl id off len _ sz, x] => match szOf P e with
      | some size => match srcCells h size x with
        | some (vs, n) =>
          bif Nat.beq sz size then (h.write id off (vs.take (Nat.min n len * size))).map fun h' => (.int .i64 (Nat.min n len : Nat), h') else none
        | none => none
      | none => none
    | _, _ => none
  | _ => none

def exec1 (P : Program) (call : CallF) (fr : Nat → AV) (h : Hp) (o : Oper) : Option (AV × Hp) :=
  match o.op with
  | .call c => match c.callee with
    | .builtin b => builtin1 P h b c.argTypes (c.args.toList.map (ev fr))
    | .value f => match ev fr f with
      | .fn (.func g) fs cs => call (.func g) (fs ++ c.args.toList.map (ev fr) ++ cs) h
      | .yld l => call (.yield l) (c.args.toList.map (ev fr)) h
      | _ => none
    | .invoke _ _ => none
  | op => step1 P fr h op

/-- The bytes of cells. -/
def bytesC : List AV → Option (List UInt8)
  | [] => some []
  | .int .u8 n :: r => (bytesC r).map (UInt8.ofNat n.toNat :: ·)
  | _ => none

def aS2B (h : Hp) : AV → Option (AV × Hp)
  | .str l => bif Nat.ble l.length 1073741824 then some (.sl h.next 0 l.length none 1, { h with next := h.next + 1, blks := (h.next, { cells := l.map fun b => .int .u8 b.toNat, ch := h.next, wr := false }) :: h.blks }) else none
  | _ => none

def aB2S (h : Hp) : AV → Option (AV × Hp)
  | .nilsl => some (.str [], h)
  | .sl id off len cap sz => match srcCells h 1 (.sl id off len cap sz) with
    | some (cs, _) => bif Nat.beq sz 1 then (bytesC cs).map fun l => (.str l, h) else none
    | none => none
  | _ => none

/-- Conversions between texts and bytes: where the order is that of the text. -/
inductive Cv where
  | no | s2b | b2s
def cvOf (P : Program) (src dst : TypeId) : Cv :=
  match P.underlying src, P.underlying dst with
  | some .string, some (.slice e) => (match P.underlying e with | some (.int .u8) => .s2b | _ => .no)
  | some (.slice e), some .string => (match P.underlying e with | some (.int .u8) => .b2s | _ => .no)
  | _, _ => .no

def execS (P : Program) (call : CallF) (fr : Nat → AV) (h : Hp) (o : Oper) : Option (AV × Hp) :=
  match o.op with
  | .convert src dst x => match cvOf P src dst with
    | .s2b => aS2B h (ev fr x)
    | .b2s => aB2S h (ev fr x)
    | .no => exec1 P call fr h o
  | _ => exec1 P call fr h o

/-- Is the operation wanted? -/
def want? (ops : Array Oper) (fr : Nat → AV) (o : Oper) : Option Bool :=
  match o.guard with
  | none => some true
  | some (j, w) => match (ops[j]?).bind (·.dst) with
    | some d => match fr d with
      | .bool t => some (t == w)
      | .tu _ => some false
      | _ => none
    | none => none

def putT (n : Nat) (d : Option Nat) (v : AV) (tm : Fr) : Option Fr :=
  match d with
  | none => some tm
  | some d => bif Nat.blt d n then some ((d, v) :: tm) else none

def runOps (P : Program) (call : CallF) (n : Nat) (ops : Array Oper) (fr : Fr) : List Oper → Fr → Hp → Option (Fr × Hp)
  | [], tm, h => some (tm, h)
  | o :: rest, tm, h =>
    match want? ops (look tm fr) o with
    | some true => match execS P call (look tm fr) h o with
      | some (v, h') => match putT n o.dst v tm with
        | some tm' => runOps P call n ops fr rest tm' h'
        | none => none
      | none => none
    | some false => match putT n o.dst (.tu []) tm with
      | some tm' => runOps P call n ops fr rest tm' h
      | none => none
    | none => none

def reads (ops : Array Oper) (o : Oper) : List Nat :=
  o.op.operands.toList.flatMap (fun | .tmp t => [t] | _ => []) ++ (match o.guard with | some (g, _) => ((ops[g]?).bind (·.dst)).toList | none => [])

/-- Only what is read is seen. -/
def msk (l : List Nat) (f : Nat → AV) : Nat → AV := fun t => bif l.elem t then f t else .any

/-- One operation's record in the order of the text: was it wanted, its value, the temporaries before it, the heap before it. -/
structure Rec where
  o : Oper
  w : Bool
  v : AV
  tm : Fr
  h : Hp

def traceOps (P : Program) (call : CallF) (n : Nat) (ops : Array Oper) (fr : Fr) : List Oper → Fr → Hp → Option (List Rec × Fr × Hp)
  | [], tm, h => some ([], tm, h)
  | o :: rest, tm, h =>
    match want? ops (msk (reads ops o) (look tm fr)) o with
    | some true => match exec1 P call (msk (reads ops o) (look tm fr)) h o with
      | some (v, h') => match putT n o.dst v tm with
        | some tm' => match traceOps P call n ops fr rest tm' h' with
          | some (rs, x) => some ({ o, w := true, v, tm, h } :: rs, x)
          | none => none
        | none => none
      | none => none
    | some false => match putT n o.dst (.tu []) tm with
      | some tm' => match traceOps P call n ops fr rest tm' h with
        | some (rs, x) => some ({ o, w := false, v := .tu [], tm, h } :: rs, x)
        | none => none
      | none => none
    | none => none

/-- May the operation change the heap? -/
def isEff (o : Oper) : Bool :=
  match o.op with
  | .move _ | .assign _ | .pick .. | .build .. | .load .. | .nilCheck _ | .binOp .. | .unOp .. | .convert .. | .makeFunc .. | .slice .. | .fieldAddr .. | .field ..
  | .indexAddr .. | .index .. | .extract .. | .makeInterface .. | .typeAssert .. | .lookup .. => false
  | .call c => match c.callee with
    | .builtin .len | .builtin .min | .builtin .max | .builtin .cap => false
    | _ => true
  | _ => true

/-- Does its value come from the heap? -/
def isRead (o : Oper) : Bool :=
  match o.op with
  | .load .. | .lookup .. => true
  | .call c => match c.callee with
    | .builtin .len => true
    | _ => false
  | _ => false

/-- For each operation the set of those that are carried out before it whatever the order: bits. -/
def clos : List Oper → List Nat → List Nat
  | [], acc => acc
  | o :: rest, acc =>
    clos rest (acc ++ [o.after.toList.foldl (fun s e => bif Region.binds .any e then s ||| 2 ^ e.on ||| acc.getD e.on 0 else s) 0])

/-- A new variable: it may come up early. -/
def isFloat (o : Oper) : Bool :=
  match o.op with
  | .alloc _ | .box _ _ | .buildSlice _ _ _ | .makeSlice _ _ _ => o.dst.isSome
  | _ => false

/-- All edges that bind lead back; one operation writes a slot; whoever reads or guards by it stands before or behind it in every order; the operations that may change the heap stand in one order, but that a new variable may come up early: whoever reads it comes behind all that the text has before it. -/
def orderOK (ops : Array Oper) (cl : List Nat) : Bool :=
  let l := ops.toList.zipIdx
  l.all (fun (o, i) => o.after.toList.all fun e => !Region.binds .any e || Nat.blt e.on i) &&
  l.all (fun (d, j) => match d.dst with
    | some t => l.all fun (o, i) => Nat.beq i j || (!(o.dst == some t) && (!(reads ops o).elem t || Nat.testBit (cl.getD i 0) j || Nat.testBit (cl.getD j 0) i))
    | none => true) &&
  l.all (fun (d, j) => !isEff d || l.all fun (o, i) => !isEff o || Nat.ble i j || Nat.testBit (cl.getD i 0) j || isFloat o) &&
  l.all (fun (d, i) => !isFloat d || match d.dst with
    | some t => l.all fun (o, k) => !(reads ops o).elem t || l.all fun (e, j) => !isEff e || Nat.ble i j || Nat.testBit (cl.getD k 0) j
    | none => true)

/-- Operation i can't come up just before the changing operation j: j is before it, or one before j is behind it. -/
def rdSkip (cl ds : List Nat) (i j : Nat) : Bool := Nat.testBit (cl.getD i 0) j || ds.any fun d => Nat.blt d j && Nat.testBit (cl.getD d 0) i
/-- The value of a reading operation is the same at every heap at which it may come up. -/
def readsOK (P : Program) (call : CallF) (ops : Array Oper) (fr : Fr) (cl : List Nat) (hs : List (Nat × Hp)) : List Rec → Nat → Bool
  | [], _ => true
  | r :: rest, i =>
    (!(r.w && isRead r.o) || hs.all fun (j, h) => rdSkip cl (hs.map (·.1)) i j || match exec1 P call (msk (reads ops r.o) (look r.tm fr)) h r.o with
      | some (v, _) => AV.beq v r.v
      | none => false) && readsOK P call ops fr cl hs rest (i + 1)

/-- The heaps before each operation that may change it, with its place. -/
def effHeaps : List Rec → Nat → List (Nat × Hp)
  | [], _ => []
  | r :: rest, i => bif isEff r.o then (i, r.h) :: effHeaps rest (i + 1) else effHeaps rest (i + 1)

def runDraw (P : Program) (call : CallF) (n : Nat) (ops : Array Oper) (fr : Fr) (h : Hp) : Option (Fr × Hp) :=
  match traceOps P call n ops fr ops.toList [] h with
  | some (rs, tm, h') =>
    let cl := clos ops.toList []
    let hs := effHeaps rs 0
    bif orderOK ops cl && (hs.isEmpty || readsOK P call ops fr cl (hs ++ [(ops.size, h')]) rs 0) then some (tm, h') else none
  | none => none

def commit (keep : Nat) : Fr → Fr → Fr
  | [], fr => fr
  | (t, v) :: r, fr => bif Nat.testBit keep t then setF (commit keep r fr) t v else commit keep r fr

def iter (body : St → Option (Ex × St)) : Nat → St → Option (Ex × St)
  | 0, _ => none
  | n + 1, s => match body s with
    | some (.normal, s') => iter body n s'
    | r => r

def runC (P : Program) (call : CallF) (m keep n : Nat) : Code → St → Option (Ex × St)
  | .skip, s => some (.normal, s)
  | .label _, s => some (.normal, s)
  | .region _ ops false, s => match runOps P call n ops s.fr ops.toList [] s.hp with
    | some (tm, h) => some (.normal, { fr := commit keep tm s.fr, hp := h })
    | none => none
  | .region _ ops true, s => match runDraw P call n ops s.fr s.hp with
    | some (tm, h) => some (.normal, { fr := commit keep tm s.fr, hp := h })
    | none => none
  | .rangeFunc f ps assign body, s => match ev (lkF s.fr) f with
    | .fn (.func g) fs cs =>
      let l := s.hp.next
      match call (.func g) (fs ++ [.yld l] ++ cs) { s.hp with next := l + 1, loops := (l, { st := 0, jump := none, ps, assign, body, keep, n, fr := s.fr }) :: s.hp.loops } with
      | some (_, h) => match lkL h.loops l with
        | some r => bif Nat.beq r.st 1 then none else
          let s' : St := { s with hp := { h with loops := delL h.loops l } }
          match r.jump with
          | none => some (.normal, s')
          | some none => some (.ret, s')
          | some (some id) => some (.exit id, s')
        | none => none
      | none => none
    | _ => none
  | .seq a b, s => match runC P call m keep n a s with
    | some (.normal, s') => runC P call m keep n b s'
    | r => r
  | .cond c a b, s => match ev (lkF s.fr) c with
    | .bool t => bif t then runC P call m keep n a s else runC P call m keep n b s
    | _ => none
  | .block id b, s => match runC P call m keep n b s with
    | some (.exit j, s') => bif Nat.beq j id then some (.normal, s') else some (.exit j, s')
    | r => r
  | .loop b, s => iter (runC P call m keep n b) m s
  | .scope b, s => runC P call m keep n b s
  | .exit id, s => some (.exit id, s)
  | .ret, s => some (.ret, s)
  | _, _ => none

/-- The slots that are read in a region before it writes them, or by a test: what must be kept from region to region (a hint: nothing rests on it). -/
def Operand.slot : Operand → List Nat
  | .tmp t => [t]
  | _ => []

def upOps (ops : Array Oper) : List Oper → (seen acc : Nat) → Nat
  | [], _, acc => acc
  | o :: rest, seen, acc =>
    let rd := o.op.operands.toList.flatMap Operand.slot ++ (match o.guard with | some (g, _) => ((ops[g]?).bind (·.dst)).toList | none => [])
    let acc := rd.foldl (fun a t => bif Nat.testBit seen t then a else a ||| 2 ^ t) acc
    upOps ops rest (match o.dst with | some d => seen ||| 2 ^ d | none => seen) acc

def up : Code → Nat
  | .region _ ops _ => upOps ops ops.toList 0 0
  | .seq a b => up a ||| up b
  | .cond c a b => (Operand.slot c).foldl (fun a t => a ||| 2 ^ t) (up a ||| up b)
  | .block _ b | .loop b | .scope b => up b
  | .rangeFunc f ps a b => (Operand.slot f).foldl (fun a t => a ||| 2 ^ t) (up a ||| up b) ||| ps.foldl (fun a t => a ||| 2 ^ t) 0
  | _ => 0

def keepOf (fn : Func) (c : Code) : Nat :=
  fn.results.foldl (fun a r => match r with | .tmp t => a ||| 2 ^ t | .cell t _ => a ||| 2 ^ t) (up c)

/-- The frame at a call: all kept slots in their order, so that its shape never changes. -/
def argFr (keep : Nat) : Nat → List AV → Nat → Fr
  | 0, _, _ => []
  | n + 1, args, i => bif Nat.testBit keep i then (i, args.headD .any) :: argFr keep n args.tail (i + 1) else argFr keep n args.tail (i + 1)

def resV (P : Program) (fr : Fr) (h : Hp) : ResultVar → Option AV
  | .tmp t => some (lkF fr t)
  | .cell a t => match lkF fr a with
    | .ptr id off => match lkB h.blks id with
      | some b => rdVar P b.cells t off
      | none => none
    | _ => none

def resVs (P : Program) (fr : Fr) (h : Hp) : List ResultVar → Option (List AV)
  | [] => some []
  | r :: rs => match resV P fr h r, resVs P fr h rs with
    | some v, some vs => some (v :: vs)
    | _, _ => none

def resOf (vs : List AV) : AV := match vs with | [v] => v | vs => .tu vs

/-- What is reached (a hint). -/
def reach : Nat → List AV → List (Nat × Blk) → List Nat → List Nat
  | 0, _, _, acc => acc
  | _, [], _, acc => acc
  | n + 1, v :: r, bs, acc =>
    let go (id : Nat) : List Nat := bif acc.elem id then reach n r bs acc else match lkB bs id with
      | some b => reach n (b.cells ++ r) bs (id :: acc)
      | none => reach n r bs acc
    match v with
    | .ptr id _ | .sl id .. => go id
    | .fn _ a c => reach n (a ++ c ++ r) bs acc
    | .ifc _ v => reach n (v :: r) bs acc
    | .ag cs | .tu cs => reach n (cs ++ r) bs acc
    | _ => reach n r bs acc

def newOnes (base : Nat) : List (Nat × Blk) → List (Nat × Blk)
  | [] => []
  | (j, b) :: r => bif Nat.blt j base then [] else (j, b) :: newOnes base r

def keepB (base : Nat) (ids : List Nat) : List (Nat × Blk) → List (Nat × Blk)
  | [] => []
  | (j, b) :: r => bif Nat.blt j base then (j, b) :: r else bif ids.elem j then (j, b) :: keepB base ids r else keepB base ids r

/-- What the call has made and nobody reaches any more is forgotten. -/
def gc (h0 : Hp) (v : AV) (h : Hp) : Hp :=
  match newOnes h0.next h.blks with
  | [] => { h with base := h0.base, esc := h0.esc || h.esc }
  | new =>
    let roots := bif h.esc then v :: (h.blks.drop new.length).flatMap (fun b => b.2.cells) else [v]
    { h with blks := keepB h0.next (reach 100000 roots new []) h.blks, base := h0.base, esc := h0.esc || h.esc }

mutual
/-- All blocks that are named have numbers below n. -/
def refOK (n : Nat) : AV → Bool
  | .ptr i _ => Nat.blt i n
  | .sl i _ _ _ _ => Nat.blt i n
  | .mp i => Nat.blt i n
  | .yld i => Nat.blt i n
  | .fn _ a c => refsOK n a && refsOK n c
  | .ifc _ v => refOK n v
  | .ag cs => refsOK n cs
  | .tu vs => refsOK n vs
  | _ => true
def refsOK (n : Nat) : List AV → Bool
  | [] => true
  | a :: r => refOK n a && refsOK n r
end

def refL (n : Nat) (r : LoopA) : Bool := refsOK n (r.fr.map (·.2)) && (!Nat.beq r.st 5 || Nat.blt r.n n)

def selfOK (n : Nat) (bs : List (Nat × Blk)) (ls : List (Nat × LoopA)) : Bool :=
  bs.all (fun x => Nat.blt x.1 n && Nat.ble x.2.ch x.1 && refsOK n x.2.cells) && ls.all (fun x => Nat.blt x.1 n && refL n x.2)

/-- Records with numbers below n. -/
def lowL (n : Nat) : List (Nat × LoopA) → List (Nat × LoopA)
  | [] => []
  | (j, b) :: r => bif Nat.blt j n then (j, bif Nat.beq b.st 5 && !Nat.blt b.n n then deadObj else b) :: lowL n r else lowL n r

/-- What a call leaves. Evaluation (g) forgets the call's garbage. Symbolic runs forget all that the call has made, if neither the result nor the elder blocks name it. -/
def leave (g : Bool) (h0 : Hp) (v : AV) (h : Hp) : Hp :=
  bif g then gc h0 v h else
  let old := h.blks.drop (h.blks.length - h0.blks.length)
  bif refOK h0.next v && selfOK h0.next old (lowL h0.next h.loops) then { next := h0.next, blks := old, loops := lowL h0.next h.loops, base := h0.base, esc := h0.esc } else { h with base := h0.base, esc := h0.esc }

def enterF (P : Program) (call : CallF) (g : Bool) (m : Nat) (f : Nat) (args : List AV) (h : Hp) : Option (AV × Hp) :=
  match P.funcs[f]? with
  | some fn => match fn.body with
    | some c =>
      bif Nat.ble args.length fn.ntmps && !(fn.name == "runtime.NumGoroutine") then
        match runC P call m (keepOf fn c) fn.ntmps c { fr := argFr (keepOf fn c) fn.ntmps args 0, hp := { h with base := h.next, esc := false } } with
        | some (.normal, s) | some (.ret, s) => match resVs P s.fr s.hp fn.results.toList with
          | some vs => some (resOf vs, leave g h (resOf vs) s.hp)
          | none => none
        | _ => none
      else none
    | none => none
  | none => none

def putPs : List Nat → List AV → Fr → Option Fr
  | [], [], fr => some fr
  | t :: ts, v :: vs, fr => putPs ts vs (setF fr t v)
  | _, _, _ => none

/-- One round of a loop over a function. -/
def enterY (P : Program) (call : CallF) (m : Nat) (l : Nat) (args : List AV) (h : Hp) : Option (AV × Hp) :=
  match lkL h.loops l with
  | some r =>
    bif !(Nat.beq r.st 0 && r.ps.toList.all (fun t => Nat.testBit r.keep t && Nat.blt t r.n)) then none else
    match putPs r.ps.toList args r.fr with
    | some fr => match runC P call m r.keep r.n r.assign { fr, hp := h } with
      | some (.normal, s) => match lkL s.hp.loops l with
        | some r1 => bif !Nat.beq r1.st 0 then none else
          match runC P call m r.keep r.n r.body { s with hp := { s.hp with loops := setL s.hp.loops l { r1 with st := 1 } } } with
          | some (e, s2) => match lkL s2.hp.loops l with
            | some r2 => match e with
              | .normal => some (.bool true, { s2.hp with loops := setL s2.hp.loops l { r2 with st := 0, jump := none } })
              | .ret => some (.bool false, { s2.hp with loops := setL s2.hp.loops l { r2 with st := 2, jump := some none } })
              | .exit id => some (.bool false, { s2.hp with loops := setL s2.hp.loops l { r2 with st := 2, jump := some (some id) } })
            | none => none
          | none => none
        | none => none
      | _ => none
    | none => none
  | none => none

/-- Results of calls that are known by other means. -/
abbrev Tab := Nat → List AV → Hp → Option (AV × Hp)

def noTab : Tab := fun _ _ _ => none

def callN (P : Program) (T : Tab) (g : Bool) (m : Nat) : Nat → CallF
  | 0 => fun _ _ _ => none
  | n + 1 => fun f args h => match f with
    | .func f => match T f args h with
      | some r => some r
      | none => enterF P (callN P T g m n) g m f args h
    | .yield l => enterY P (callN P T g m n) m l args h

end Go.Abs
