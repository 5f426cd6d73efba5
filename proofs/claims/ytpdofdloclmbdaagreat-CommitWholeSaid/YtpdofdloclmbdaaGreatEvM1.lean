/- EvA, EvB, EvC, EvD, EvE, EvF, EvG, EvH, EvI, EvJ, EvK, EvL in one. -/
import Derived.RangeFuncIn
import Derived.RangeFuncLeaves
import Derived.OrdersIn
import GoSem.Extern.BytealgIndexByte
import Derived.Laws.AppendOwn
import Derived.Laws.Entries
import Derived.Laws.Cells
import Derived.ChangeKeysEq
import Derived.OwnWalk
import Derived.IntWalk
import Derived.Lib.ConvBytes
section
/- An evaluator of Go text: values, a heap by names, operations, code. It is a function: what it yields the model does (the other texts of this row). -/
namespace Go.Ev

/-- Of one cell, no truth. -/
def single : Value → Bool
  | .agg _ | .tuple _ | .bool _ => false
  | _ => true
/-- A value: as the model's, its blocks by names. A row of values is 'nil', 'cons'. -/
inductive V where
  | bool (b : Bool)
  | int (k : IntKind) (n : Int)
  | str (s : List UInt8)
  | nilptr
  | ptr (n off : Nat)
  | nilslice
  | slice (n off len c : Nat) (ex : Bool)
  /-- nothing, behind a row that may have more room than is known: where it stands if there is none, if there is some -/
  | tail (n off off' c : Nat)
  /-- what came in and is looked at nowhere -/
  | raw (x : Value) (h : single x = true)
  | nilmap
  | map (n : Nat)
  | nilfn
  | fn (f : FuncId) (fst cap : V)
  | yield (n : Nat)
  | nil
  | cons (h t : V)
  | agg (l : V)
  | tup (l : V)

def V.toL : V → List V
  | .cons h t => h :: t.toL
  | _ => []
def V.ofL : List V → V
  | [] => .nil
  | h :: t => .cons h (V.ofL t)
def V.cells : V → List V
  | .agg l => l.toL
  | v => [v]
def V.undef : V := .tup .nil
def V.unit : V := .tup .nil

/-- A tree by numbers. -/
inductive T (α : Type) where
  | lf
  | nd (v : Option α) (l r : T α)

def T.get {α : Type} : T α → Nat → Option α
  | .lf, _ => none
  | .nd v l r, n => match n with
    | 0 => v
    | m + 1 => match m % 2 with
      | 0 => l.get (m / 2)
      | _ => r.get (m / 2)
def T.put {α : Type} : Nat → T α → Nat → α → T α
  | 0, t, _, _ => t
  | _ + 1, .lf, 0, x => .nd (some x) .lf .lf
  | _ + 1, .nd _ l r, 0, x => .nd (some x) l r
  | f + 1, .lf, m + 1, x => match m % 2 with
    | 0 => .nd none (T.put f .lf (m / 2) x) .lf
    | _ => .nd none .lf (T.put f .lf (m / 2) x)
  | f + 1, .nd v l r, m + 1, x => match m % 2 with
    | 0 => .nd v (T.put f l (m / 2) x) r
    | _ => .nd v l (T.put f r (m / 2) x)
def T.set {α : Type} (t : T α) (n : Nat) (x : α) : T α := T.put (n + 1) t n x

/-- What stands under a name. -/
inductive Ob where
  /-- cells; 'g': of a row that may have more room than is known, the size of an element; else 0 -/
  | cells (size : Nat) (ov : T V) (base : Nat → Option V) (g : Nat) (ro : Bool)
  | map (es : List (V × V))
  | loop (st : LoopState) (pend : Option Code) (tm : List V) (ps : Array Tmp) (assign body : Code) (dn : Nat)
  | defd
  | dead

structure Hp where
  next : Nat
  t : T Ob

def Hp.get (H : Hp) (n : Nat) : Option Ob := if n < H.next then H.t.get n else none
def Hp.set (H : Hp) (n : Nat) (o : Ob) : Hp := ⟨H.next, H.t.set n o⟩
def Hp.push (H : Hp) (o : Ob) : Hp := ⟨H.next + 1, H.t.set H.next o⟩

def cellOf (size : Nat) (ov : T V) (base : Nat → Option V) (i : Nat) : Option V :=
  if i < size then (match ov.get i with | some v => some v | none => base i) else none
def Hp.cell (H : Hp) (n off : Nat) : Option V :=
  match H.get n with
  | some (.cells size ov base _ _) => cellOf size ov base off
  | _ => none
/-- Cells one behind the other. -/
def Hp.cellsAt (H : Hp) (n : Nat) : Nat → Nat → Option (List V)
  | _, 0 => some []
  | off, k + 1 => match H.cell n off with
    | some v => (match Hp.cellsAt H n (off + 1) k with | some l => some (v :: l) | none => none)
    | none => none
def V.one : V → Bool
  | .agg _ | .tup _ | .cons _ _ | .nil => false
  | _ => true
def putCells (size : Nat) (ov : T V) : Nat → List V → Option (T V)
  | _, [] => some ov
  | off, v :: l => if off < size && v.one then putCells size (ov.set off v) (off + 1) l else none
def Hp.store (H : Hp) (n off : Nat) (vs : List V) : Option Hp :=
  match H.get n with
  | some (.cells size ov base g false) => match putCells size ov off vs with
    | some ov => some (H.set n (.cells size ov base g false))
    | none => none
  | _ => none

def tree : Nat → T V → List V → T V
  | _, t, [] => t
  | i, t, v :: l => tree (i + 1) (t.set i v) l
def newCells (vs : List V) (g : Nat) : Ob := .cells vs.length (tree 0 .lf vs) (fun _ => none) g false

/-! ### The model's values -/
def ofScalar : Value → Option V
  | .bool b => some (.bool b)
  | .int k n => some (.int k n)
  | .string s => some (.str s.data.toList)
  | .pointer none => some .nilptr
  | .slice none 0 0 => some .nilslice
  | .map none => some .nilmap
  | .nilFunc => some .nilfn
  | _ => none
def ofScalars : List Value → Option (List V)
  | [] => some []
  | v :: l => match ofScalar v with
    | some x => (match ofScalars l with | some m => some (x :: m) | none => none)
    | none => none
def ofConst : Value → Option V
  | .agg cs => match ofScalars cs.toList with
    | some l => some (.agg (V.ofL l))
    | none => none
  | .tuple ⟨[]⟩ => some .undef
  | v => ofScalar v

section
variable (P : Program) (gl : Nat → Option Nat)

def opnd (tm : List V) : Operand → Option V
  | .tmp t => some (tm.getD t .undef)
  | .const v => ofConst v
  | .global g => (match gl g with | some n => some (.ptr n 0) | none => none)
  | .func f => some (.fn f .nil .nil)
def opnds (tm : List V) : List Operand → Option (List V)
  | [] => some []
  | x :: l => match opnd gl tm x with
    | some v => (match opnds tm l with | some m => some (v :: m) | none => none)
    | none => none
def parts (tm : List V) : List (Nat × Operand) → Option (List (Nat × V))
  | [] => some []
  | (i, x) :: l => match opnd gl tm x with
    | some v => (match parts tm l with | some m => some ((i, v) :: m) | none => none)
    | none => none

def zeroV (t : TypeId) : Option V :=
  match P.info? t with
  | some i => match i.zero with
    | some z => ofConst z
    | none => none
  | none => none
def sizeV (t : TypeId) : Option Nat :=
  match P.info? t with
  | some i => some i.size
  | none => none
def bytesV (t : TypeId) : Option Nat :=
  match P.info? t with
  | some i => some i.bytes
  | none => none
def isAggV (t : TypeId) : Option Bool :=
  match P.underlying t with
  | some (.struct _) | some (.array _ _) => some true
  | some _ => some false
  | none => none

def partV (t : TypeId) (cs : List V) (off : Nat) : Option V :=
  match isAggV P t with
  | some true => match sizeV P t with
    | some s => some (.agg (V.ofL ((cs.drop off).take s)))
    | none => none
  | some false => cs[off]?
  | none => none

def putAt (cs : List V) (off : Nat) (vs : List V) : List V := cs.take off ++ vs ++ cs.drop (off + vs.length)
def fillV (place : Nat → Option (Nat × Nat)) (cs : List V) : List (Nat × V) → Option (List V)
  | [] => some cs
  | (i, v) :: rest => match place i with
    | none => none
    | some (off, size) =>
      if v.cells.length = size ∧ off + v.cells.length ≤ cs.length then fillV place (putAt cs off v.cells) rest else none
def placesV : List Field → Option (List (Nat × Nat))
  | [] => some []
  | f :: l => match sizeV P f.type with
    | some s => (match placesV l with | some m => some ((f.offset, s) :: m) | none => none)
    | none => none
def buildV (t : TypeId) (ps : List (Nat × V)) : Option V :=
  match zeroV P t, P.underlying t with
  | some z, some (.struct fields) => match placesV P fields.toList with
    | some pl => (match fillV (pl[·]?) z.cells ps with
      | some cs => some (.agg (V.ofL cs))
      | none => none)
    | none => none
  | some z, some (.array _ e) => match sizeV P e with
    | some s => (match fillV (fun i => some (i * s, s)) z.cells ps with
      | some cs => some (.agg (V.ofL cs))
      | none => none)
    | none => none
  | _, _ => none

def fieldsEq (eq : TypeId → V → V → Option Bool) (xs ys : List V) : List Field → Option Bool
  | [] => some true
  | f :: fs => if f.name = "_" then none else
    match partV P f.type xs f.offset, partV P f.type ys f.offset with
    | some a, some b => (match eq f.type a b with
      | some true => fieldsEq eq xs ys fs
      | r => r)
    | _, _ => none
def elemsEq (eq : TypeId → V → V → Option Bool) (e : TypeId) (s : Nat) (xs ys : List V) : Nat → Nat → Option Bool
  | _, 0 => some true
  | i, k + 1 => match partV P e xs (i * s), partV P e ys (i * s) with
    | some a, some b => (match eq e a b with
      | some true => elemsEq eq e s xs ys (i + 1) k
      | r => r)
    | _, _ => none
/-- Are they equal? -/
def eqV : Nat → TypeId → V → V → Option Bool
  | 0, _, _, _ => none
  | d + 1, t, x, y =>
    match P.underlying t, x, y with
    | some .bool, .bool a, .bool b => some (a == b)
    | some (.int _), .int k a, .int k' b => if k = k' then some (a == b) else none
    | some .string, .str a, .str b => some (a == b)
    | some (.pointer _), .nilptr, .nilptr => some true
    | some (.pointer _), .nilptr, .ptr _ _ => some false
    | some (.pointer _), .ptr _ _, .nilptr => some false
    | some (.slice _), .nilslice, .nilslice => some true
    | some (.slice _), .nilslice, .slice _ _ _ _ _ => some false
    | some (.slice _), .nilslice, .tail _ _ _ _ => some false
    | some (.slice _), .tail _ _ _ _, .nilslice => some false
    | some (.slice _), .slice _ _ _ _ _, .nilslice => some false
    | some (.map _ _), .nilmap, .nilmap => some true
    | some (.map _ _), .nilmap, .map _ => some false
    | some (.map _ _), .map _, .nilmap => some false
    | some (.func _ _ _), .nilfn, .nilfn => some true
    | some (.func _ _ _), .nilfn, .fn _ _ _ => some false
    | some (.func _ _ _), .fn _ _ _, .nilfn => some false
    | some (.struct fields), .agg xs, .agg ys => if P.stoodInHeld t then none else fieldsEq P (eqV d) xs.toL ys.toL fields.toList
    | some (.array len e), .agg xs, .agg ys => (match sizeV P e with
      | none => none
      | some s => elemsEq P (eqV d) e s xs.toL ys.toL 0 len)
    | _, _, _ => none
def guardOk (t : TypeId) : V → V → Bool
  | .agg _, .agg _ => !P.eqGuardType P.depth t
  | _, _ => true

def intV (op : BinOp) (k : IntKind) (a b : Int) : Option V :=
  match op with
  | .add => some (.int k (k.wrap (a + b)))
  | .sub => some (.int k (k.wrap (a - b)))
  | .mul => some (.int k (k.wrap (a * b)))
  | .quo => if b = 0 then none else some (.int k (k.wrap (a.tdiv b)))
  | .rem => if b = 0 then none else some (.int k (a.tmod b))
  | .and => some (.int k (k.wrap (BitVec.ofInt k.bits a &&& BitVec.ofInt k.bits b).toNat))
  | .or => some (.int k (k.wrap (BitVec.ofInt k.bits a ||| BitVec.ofInt k.bits b).toNat))
  | .xor => some (.int k (k.wrap (BitVec.ofInt k.bits a ^^^ BitVec.ofInt k.bits b).toNat))
  | .andNot => some (.int k (k.wrap (BitVec.ofInt k.bits a &&& ~~~(BitVec.ofInt k.bits b)).toNat))
  | .eql => some (.bool (a == b))
  | .neq => some (.bool (a != b))
  | .lss => some (.bool (a < b))
  | .leq => some (.bool (a ≤ b))
  | .gtr => some (.bool (a > b))
  | .geq => some (.bool (a ≥ b))
  | _ => none
def strV (op : BinOp) (a b : List UInt8) : Option V :=
  match op with
  | .add => if a.length + b.length ≤ 9223372036854775807 then some (.str (a ++ b)) else none
  | .eql => some (.bool (a == b))
  | .neq => some (.bool (!(a == b)))
  | .lss => some (.bool (Op.bytesLess a b))
  | .leq => some (.bool (Op.bytesLess a b || a == b))
  | .gtr => some (.bool (!(Op.bytesLess a b || a == b)))
  | .geq => some (.bool (!Op.bytesLess a b))
  | _ => none
def binV (op : BinOp) (t : TypeId) (x y : V) : Option V :=
  match op, x, y with
  | .shl, .int k a, .int _ b => if b < 0 then none else some (.int k (k.wrap (a * 2 ^ (min b.toNat k.bits))))
  | .shr, .int k a, .int _ b => if b < 0 then none else some (.int k (a.fdiv (2 ^ (min b.toNat k.bits))))
  | op, .int k a, .int k' b => if k = k' then intV op k a b else none
  | op, .str a, .str b => strV op a b
  | .eql, x, y => if guardOk P t x y then (match eqV P 100 t x y with | some b => some (.bool b) | none => none) else none
  | .neq, x, y => if guardOk P t x y then (match eqV P 100 t x y with | some b => some (.bool (!b)) | none => none) else none
  | _, _, _ => none
def unV (op : UnOp) (x : V) : Option V :=
  match op, x with
  | .neg, .int k n => some (.int k (k.wrap (0 - n)))
  | .xor, .int k n => some (.int k (k.wrap (BitVec.ofInt k.bits (if k.signed then -1 else k.max) ^^^ BitVec.ofInt k.bits n).toNat))
  | .not, .bool b => some (.bool !b)
  | _, _ => none

def natOf : V → Option Nat
  | .int _ n => if 0 ≤ n then some n.toNat else none
  | _ => none
def bound (y : Nat) (d : Nat) : Option V → Option Nat
  | none => some d
  | some v => match natOf v with
    | some n => if n ≤ y then some n else none
    | none => none
/-- 'x[l:h:m]' of a slice; of one whose room is not known: up to its length alone. -/
def sliceV (esz : Nat) (n off len c : Nat) (ex : Bool) (lo hi mx : Option V) : Option V :=
  if mx.isSome && hi.isNone then none else
  if ex then
    match bound c c mx with
    | none => none
    | some m => match bound m len hi with
      | none => none
      | some h => match bound h 0 lo with
        | none => none
        | some l => some (.slice n (if m = l then off else off + l * esz) (h - l) (m - l) true)
  else match mx with
    | some v => (match natOf v, hi with
      | some m, some _ => if m ≤ len then
          (match bound m len hi with
          | none => none
          | some h => match bound h 0 lo with
            | none => none
            | some l => some (.slice n (if m = l then off else off + l * esz) (h - l) (m - l) true)) else none
      | _, _ => none)
    | none => match bound len len hi with
      | none => none
      | some h => match bound h 0 lo with
        | none => none
        | some l => if l < len ∨ l = 0 then some (.slice n (off + l * esz) (h - l) (c + l) false) else some (.tail n off (off + l * esz) (c + l))
def sliceOpV (t : TypeId) (x : V) (lo hi mx : Option V) : Option V :=
  match P.underlying t, x with
  | some .string, .str s => match mx with
    | some _ => none
    | none => match bound s.length s.length hi with
      | none => none
      | some h => match bound h 0 lo with
        | none => none
        | some l => some (.str ((s.drop l).take (h - l)))
  | some (.slice e), .nilslice =>
    if mx.isSome && hi.isNone || (sizeV P e).isNone then none else
    match bound 0 0 mx with
    | none => none
    | some _ => match bound 0 0 hi with
      | none => none
      | some _ => match bound 0 0 lo with
        | none => none
        | some _ => some .nilslice
  | some (.slice e), .slice n off len c ex => match sizeV P e with
    | some s => sliceV s n off len c ex lo hi mx
    | none => none
  | some (.array k e), .ptr n off => match sizeV P e with
    | some s => sliceV s n off k k true lo hi mx
    | none => none
  | _, _ => none

/-- Where an element of an array, or a slice, stands. -/
def indexAddrV (t : TypeId) (x i : V) : Option V :=
  match natOf i with
  | none => none
  | some i => match P.underlying t, x with
    | some (.slice e), .slice n off len _ _ => (match sizeV P e with
      | some s => if i < len then some (.ptr n (off + i * s)) else none
      | none => none)
    | some (.array len e), .ptr n off => (match sizeV P e with
      | some s => if i < len then some (.ptr n (off + i * s)) else none
      | none => none)
    | _, _ => none
def indexV (t : TypeId) (x i : V) : Option V :=
  match natOf i with
  | none => none
  | some i => match P.underlying t, x with
    | some (.array len e), .agg l => (match sizeV P e with
      | some s => if i < len then partV P e l.toL (i * s) else none
      | none => none)
    | some .string, .str s => (match s[i]? with
      | some b => some (.int .u8 (b.toNat : Int))
      | none => none)
    | _, _ => none
def fieldAddrV (t : TypeId) (x : V) (f : Nat) : Option V :=
  match P.underlying t, x with
  | some (.struct fields), .ptr n off => match fields[f]? with
    | some fd => (match sizeV P fd.type with
      | some (_ + 1) => some (.ptr n (off + fd.offset))
      | _ => none)
    | none => none
  | _, _ => none
def fieldV (t : TypeId) (x : V) (f : Nat) : Option V :=
  match P.underlying t, x with
  | some (.struct fields), .agg l => match fields[f]? with
    | some fd => partV P fd.type l.toL fd.offset
    | none => none
  | _, _ => none
def convertV (s d : TypeId) (x : V) : Option V :=
  match P.underlying s, P.underlying d, x with
  | some _, some (.int k), .int _ n => some (.int k (k.wrap n))
  | some _, some .string, .str s => some (.str s)
  | _, _, _ => none
def minV : V → List V → Option V
  | x, [] => some x
  | .int k a, .int _ b :: l => minV (.int k (if b < a then b else a)) l
  | _, _ => none
def maxV : V → List V → Option V
  | x, [] => some x
  | .int k a, .int _ b :: l => maxV (.int k (if b > a then b else a)) l
  | _, _ => none
def lenV (t : TypeId) (x : V) : Option V :=
  match P.underlying t, x with
  | some .string, .str s => some (.int .i64 (s.length : Int))
  | some (.slice _), .nilslice => some (.int .i64 0)
  | some (.slice _), .slice _ _ len _ _ => some (.int .i64 (len : Int))
  | some (.slice _), .tail _ _ _ _ => some (.int .i64 0)
  | some (.map _ _), .nilmap => some (.int .i64 0)
  | _, _ => none

def optOpnd (tm : List V) : Option Operand → Option (Option V)
  | none => some none
  | some x => match opnd gl tm x with
    | some v => some (some v)
    | none => none

/-- What looks at no memory. -/
def pureV (tm : List V) (o : Op) : Option V :=
  match o with
  | .move x | .assign x => opnd gl tm x
  | .pick c a b => match opnd gl tm c, opnd gl tm a, opnd gl tm b with
    | some (.bool t), some x, some y => some (if t then x else y)
    | _, _, _ => none
  | .build t ps => match parts gl tm ps.toList with
    | some l => buildV P t l
    | none => none
  | .nilCheck x => match opnd gl tm x with
    | some (.ptr n off) => some (.ptr n off)
    | some (.fn f a c) => some (.fn f a c)
    | some (.yield l) => some (.yield l)
    | _ => none
  | .binOp op t x y _ => match opnd gl tm x, opnd gl tm y with
    | some a, some b => binV P op t a b
    | _, _ => none
  | .unOp op _ x => match opnd gl tm x with
    | some a => unV op a
    | none => none
  | .convert s d x => match opnd gl tm x with
    | some a => convertV P s d a
    | none => none
  | .makeFunc (.func f) a c => match opnds gl tm a.toList, opnds gl tm c.toList with
    | some l, some m => some (.fn f (V.ofL l) (V.ofL m))
    | _, _ => none
  | .slice t x lo hi mx => match opnd gl tm x, optOpnd gl tm lo, optOpnd gl tm hi, optOpnd gl tm mx with
    | some a, some l, some h, some m => sliceOpV P t a l h m
    | _, _, _, _ => none
  | .fieldAddr t x f => match opnd gl tm x with
    | some a => fieldAddrV P t a f
    | none => none
  | .field t x f => match opnd gl tm x with
    | some a => fieldV P t a f
    | none => none
  | .indexAddr t x i => match opnd gl tm x, opnd gl tm i with
    | some a, some b => indexAddrV P t a b
    | _, _ => none
  | .index t x i => match opnd gl tm x, opnd gl tm i with
    | some a, some b => indexV P t a b
    | _, _ => none
  | .extract x i => match opnd gl tm x with
    | some (.tup l) => l.toL[i]?
    | _ => none
  | .call { callee := .builtin .len, args := ⟨[x]⟩, argTypes := ⟨[t]⟩ } => match opnd gl tm x with
    | some a => lenV P t a
    | none => none
  | .call { callee := .builtin .min, args := ⟨x :: l⟩, argTypes := _ } => match opnd gl tm x, opnds gl tm l with
    | some a, some m => minV a m
    | _, _ => none
  | .call { callee := .builtin .max, args := ⟨x :: l⟩, argTypes := _ } => match opnd gl tm x, opnds gl tm l with
    | some a, some m => maxV a m
    | _, _ => none
  | _ => none

/-- A value of a type, as it lies. -/
def loadV (H : Hp) (t : TypeId) (n off : Nat) : Option V :=
  match isAggV P t with
  | some true => match sizeV P t with
    | some s => (match H.cellsAt n off s with
      | some l => some (.agg (V.ofL l))
      | none => none)
    | none => none
  | some false => H.cell n off
  | none => none
/-- Keys of one kind. -/
def sameKey : V → V → Option Bool
  | .int k a, .int k' b => if k = k' then some (a == b) else none
  | .str a, .str b => some (a == b)
  | .bool a, .bool b => some (a == b)
  | _, _ => none
def keyKind (t : TypeId) : V → Bool
  | .int _ _ => (match P.underlying t with | some (.int _) => true | _ => false)
  | .str _ => (match P.underlying t with | some .string => true | _ => false)
  | .bool _ => (match P.underlying t with | some .bool => true | _ => false)
  | _ => false
def findV (k : V) : List (V × V) → Nat → Option (Option (Nat × V))
  | [], _ => some none
  | (a, v) :: es, i => match sameKey k a with
    | some true => some (some (i, v))
    | some false => findV k es (i + 1)
    | none => none
def lookV (t : TypeId) (es : List (V × V)) (k : V) (ok : Bool) : Option V :=
  match P.underlying t with
  | some (.map kt et) => if keyKind P kt k then
      (match findV k es 0 with
      | some (some (_, v)) => some (if ok then .tup (.cons v (.cons (.bool true) .nil)) else v)
      | some none => (match zeroV P et with
        | some z => some (if ok then .tup (.cons z (.cons (.bool false) .nil)) else z)
        | none => none)
      | none => none) else none
  | _ => none
def bytesOf : List V → Option (List UInt8)
  | [] => some []
  | .int .u8 n :: l => match bytesOf l with
    | some m => some (UInt8.ofNat n.toNat :: m)
    | none => none
  | _ => none
/-- What reads memory. -/
def readV (tm : List V) (H : Hp) (o : Op) : Option V :=
  match o with
  | .load t x => match opnd gl tm x with
    | some (.ptr n off) => loadV P H t n off
    | _ => none
  | .lookup t x k ok => match opnd gl tm x, opnd gl tm k with
    | some .nilmap, some k => lookV P t [] k ok
    | some (.map n), some k => (match H.get n with
      | some (.map es) => lookV P t es k ok
      | _ => none)
    | _, _ => none
  | .convert s d x => match P.underlying s, P.underlying d, opnd gl tm x with
    | some (.slice e), some .string, some .nilslice => if (match P.underlying e with | some (.int .u8) => true | _ => false) then some (.str []) else none
    | some (.slice e), some .string, some (.slice n off len _ _) => if (match P.underlying e with | some (.int .u8) => true | _ => false) then
        (match H.cellsAt n off len with
        | some l => (match bytesOf l with | some b => some (.str b) | none => none)
        | none => none) else none
    | _, _, _ => none
  | .call { callee := .builtin .len, args := ⟨[x]⟩, argTypes := ⟨[t]⟩ } => match P.underlying t, opnd gl tm x with
    | some (.map _ _), some (.map n) => (match H.get n with
      | some (.map es) => some (.int .i64 (es.length : Int))
      | _ => none)
    | _, _ => none
  | _ => none

def zerosL (z : List V) (n : Nat) : List V := (List.range n).map fun i => z.getD (i % z.length) .undef
def zerosBase (z : List V) (i : Nat) : Option V := z[i % z.length]?
/-- Cells of a row to be appended, or copied. -/
def rowCells (H : Hp) (esz : Nat) (k : Nat) : V → Option (List V)
  | .nilslice | .tail _ _ _ _ => if k = 0 then some [] else none
  | .slice n off len _ _ => if k ≤ len then H.cellsAt n off (k * esz) else none
  | .str s => if k ≤ s.length ∧ esz = 1 then some ((s.take k).map fun b => .int .u8 (b.toNat : Int)) else none
  | _ => none
def rowLen : V → Option Nat
  | .nilslice | .tail _ _ _ _ => some 0
  | .slice _ _ len _ _ => some len
  | .str s => some s.length
  | _ => none
def notInt : TypeDesc → Bool
  | .int _ => false
  | _ => true
def mostRow : Nat := 1099511627776
/-- A row behind a row; one that has grown into more room than is known is moved: its elder name is dead. -/
def appendV (e : TypeId) (H : Hp) (s x : V) : Option (V × Hp) :=
  match sizeV P e, bytesV P e, zeroV P e, rowLen x with
  | some esz, some by_, some z, some m =>
    if by_ ≤ 64 ∧ z.cells.length = esz ∧ 0 < esz then
    match rowCells H esz m x with
    | none => none
    | some new => match s with
      | .nilslice => if m = 0 then some (.nilslice, H) else if m ≤ mostRow then some (.slice H.next 0 m 0 false, H.push (newCells new esz)) else none
      | .slice n off len c ex =>
        if m = 0 then (if ex = false ∨ len ≤ c then some (s, H) else none)
        else if ex = true ∧ len + m ≤ c then (match H.store n (off + len * esz) new with
          | some H' => some (.slice n off (len + m) c true, H')
          | none => none)
        else if len + m ≤ mostRow then (match H.cellsAt n off (len * esz) with
          | none => none
          | some old =>
            if ex then some (.slice H.next 0 (len + m) 0 false, H.push (newCells (old ++ new) esz))
            else (match H.get n with
              | some (.cells size _ _ g false) => if g = esz ∧ off = c * esz ∧ off + len * esz = size then
                  some (.slice H.next 0 (len + m) 0 false, (H.set n .dead).push (newCells (old ++ new) esz)) else none
              | _ => none))
        else none
      | .tail n _ off' c =>
        if m = 0 then some (s, H) else if m ≤ mostRow then (match H.get n with
          | some (.cells size _ _ g false) => if g = esz ∧ off' = c * esz ∧ off' = size then
              some (.slice H.next 0 m 0 false, (H.set n .dead).push (newCells new esz)) else none
          | _ => none)
        else none
      | _ => none
    else none
  | _, _, _, _ => none

/-- What makes memory: what stands there, and the value, by the new name. -/
def allocV (tm : List V) (o : Op) : Option (Ob × (Nat → V)) :=
  match o with
  | .alloc t => match zeroV P t with
    | some z => if z.cells.all V.one then some (newCells z.cells 0, fun n => .ptr n 0) else none
    | none => none
  | .box _ x => match opnd gl tm x with
    | some v => if v.cells.all V.one then some (newCells v.cells 0, fun n => .ptr n 0) else none
    | none => none
  | .buildSlice t len ps => match P.underlying t, parts gl tm ps.toList with
    | some (.slice e), some l => (match sizeV P e, zeroV P e with
      | some s, some z => if len * s ≤ 16777216 ∧ z.cells.length = s then
          (match fillV (fun i => some (i * s, s)) (zerosL z.cells (len * s)) l with
          | some cs => if cs.all V.one then some (newCells cs 0, fun n => .slice n 0 len len true) else none
          | none => none) else none
      | _, _ => none)
    | _, _ => none
  | .makeSlice t a b => match P.underlying t, opnd gl tm a, opnd gl tm b with
    | some (.slice e), some (.int _ l), some (.int _ c) => (match sizeV P e, bytesV P e, zeroV P e with
      | some s, some by_, some z => if 0 ≤ l ∧ l ≤ c ∧ c ≤ 1099511627776 ∧ by_ ≤ 64 ∧ z.cells.length = s ∧ z.cells.all V.one = true then
          some (.cells (c.toNat * s) .lf (zerosBase z.cells) 0 false, fun n => .slice n 0 l.toNat c.toNat true) else none
      | _, _, _ => none)
    | _, _, _ => none
  | .makeMap _ none => some (.map [], fun n => .map n)
  | .convert s d x => match P.underlying s, P.underlying d, opnd gl tm x with
    | some .string, some (.slice e), some (.str b) => (match P.underlying e with
      | some (.int .u8) => some (newCells (b.map fun c => .int .u8 (c.toNat : Int)) 1, fun n => .slice n 0 b.length 0 false)
      | _ => none)
    | _, _, _ => none
  | _ => none

/-- What turns memory; no call. -/
def effV (tm : List V) (H : Hp) (o : Op) : Option (V × Hp) :=
  match o with
  | .store t x v => match opnd gl tm x, opnd gl tm v, sizeV P t with
    | some (.ptr n off), some v, some s => if v.cells.length = s then
        (match H.store n off v.cells with
        | some H' => some (.undef, H')
        | none => none) else none
    | _, _, _ => none
  | .mapUpdate t m k v | .insert t m k v => match P.underlying t, opnd gl tm m, opnd gl tm k, opnd gl tm v with
    | some (.map kt _), some (.map n), some k, some v => if keyKind P kt k then
        (match H.get n with
        | some (.map es) => (match findV k es 0 with
          | some (some (i, _)) => some (.undef, H.set n (.map (es.set i (k, v))))
          | some none => some (.undef, H.set n (.map (es ++ [(k, v)])))
          | none => none)
        | _ => none) else none
    | _, _, _, _ => none
  | .call { callee := .builtin .append, args := ⟨[s, x]⟩, argTypes := ⟨[t, u]⟩ } => match P.underlying t, P.underlying u, opnd gl tm s, opnd gl tm x with
    | some (.slice e), some u, some s, some x => if notInt u then appendV P e H s x else none
    | _, _, _, _ => none
  | .call { callee := .builtin .copy, args := ⟨[d, x]⟩, argTypes := ⟨[t, _]⟩ } => match P.underlying t, opnd gl tm d, opnd gl tm x with
    | some (.slice e), some d, some x => (match sizeV P e, rowLen x, d with
      | some _, some _, .nilslice => some (.int .i64 0, H)
      | some _, some _, .tail _ _ _ _ => some (.int .i64 0, H)
      | some esz, some m, .slice n off len _ _ => (match rowCells H esz (min m len) x with
        | some cs => (match H.store n off cs with
          | some H' => some (.int .i64 (min m len : Nat), H')
          | none => none)
        | none => none)
      | _, _, _ => none)
    | _, _, _ => none
  | .call { callee := .builtin .clear, args := ⟨[d]⟩, argTypes := ⟨[t]⟩ } => match P.underlying t, opnd gl tm d with
    | some (.slice _), some .nilslice => some (.undef, H)
    | some (.slice e), some (.slice n off len _ _) => (match sizeV P e, zeroV P e with
      | some s, some z => if z.cells.length = s then (match H.store n off (zerosL z.cells (len * s)) with
          | some H' => some (.undef, H')
          | none => none) else none
      | _, _ => none)
    | _, _ => none
  | _ => none

/-! ### Code -/
inductive Ex where
  | normal
  | exit (id : Nat)
  | ret

abbrev Call := FuncId → List V → Hp → Option (V × Hp)
/-- What an operation calls, with which arguments. -/
def calleeV (tm : List V) (o : Op) : Option (V × List V) :=
  match o with
  | .call { callee := .value f, args := as, argTypes := _ } => match opnd gl tm f, opnds gl tm as.toList with
    | some f, some l => some (f, l)
    | _, _ => none
  | _ => none
def isEff : Op → Bool
  | .store _ _ _ | .mapUpdate _ _ _ _ | .insert _ _ _ _ => true
  | .call { callee := .builtin b, .. } => (match b with | .len | .min | .max => false | _ => true)
  | .call _ => true
  | _ => false
def callV (call : Call) (yld : Nat → List V → Hp → Option (V × Hp)) (f : V) (args : List V) (H : Hp) : Option (V × Hp) :=
  match f with
  | .fn f a c => call f (a.toL ++ args ++ c.toL) H
  | .yield l => yld l args H
  | _ => none
/-- An operation that turns no memory. -/
def neV (tm : List V) (H : Hp) (o : Op) : Option V :=
  match pureV P gl tm o with
  | some v => some v
  | none => readV P gl tm H o
def opV (call : Call) (yld : Nat → List V → Hp → Option (V × Hp)) (tm : List V) (H : Hp) (o : Op) : Option (V × Hp) :=
  if isEff o then
    match calleeV gl tm o with
    | some (f, args) => callV call yld f args H
    | none => effV P gl tm H o
  else match neV P gl tm H o with
    | some v => some (v, H)
    | none => match allocV P gl tm o with
      | some (ob, mk) => some (mk H.next, H.push ob)
      | none => none
def putV (tm : List V) (d : Option Tmp) (v : V) : List V :=
  match d with
  | some t => tm.set t v
  | none => tm
def boolAt (ops : Array Oper) (tm : List V) (j : Nat) : Option Bool :=
  match (ops[j]?).bind (·.dst) with
  | some t => (match tm[t]? with
    | some (.bool b) => some b
    | _ => none)
  | none => none
def wantedV (ops : Array Oper) (tm : List V) (o : Oper) : Bool :=
  match o.guard with
  | none => true
  | some (j, want) => boolAt ops tm j == some want
/-- The operations of a region, in the order of the text. -/
def opsV (call : Call) (yld : Nat → List V → Hp → Option (V × Hp)) (ops : Array Oper) : List Oper → List V → Hp → Option (List V × Hp)
  | [], tm, H => some (tm, H)
  | o :: rest, tm, H =>
    if wantedV ops tm o then
      match opV P gl call yld tm H o.op with
      | some (v, H') => opsV call yld ops rest (putV tm o.dst v) H'
      | none => none
    else opsV call yld ops rest (putV tm o.dst .undef) H

/-! ### A region that draws its order -/
def maskEdges (acc : Array Nat) : List Edge → Nat
  | [] => 0
  | e :: l => if Region.binds .any e then 2 ^ e.on ||| acc.getD e.on 0 ||| maskEdges acc l else maskEdges acc l
def masksGo : List Oper → Array Nat → Array Nat
  | [], acc => acc
  | o :: l, acc => masksGo l (acc.push (maskEdges acc o.after.toList))
/-- Of each operation: which stand ahead of it, in bits. -/
def masks (ops : Array Oper) : Array Nat := masksGo ops.toList #[]
/-- No other operation lays where this one does. -/
def loneDst (ops : Array Oper) (i : Nat) (o : Oper) : Bool :=
  match o.dst with
  | none => true
  | some d => (List.range ops.size).all fun j => j == i || match ops[j]? with
    | some p => p.dst != some d
    | none => true
/-- May it be done as soon as may be? -/
def floats (ops : Array Oper) (listed : Array Bool) (i : Nat) : Bool :=
  match ops[i]? with
  | some o => !isEff o.op && Region.free .any ops listed i && loneDst ops i o
  | none => false
/-- In which order: what turns no memory as soon as may be; what does, one alone being ready. -/
def planV (ops : Array Oper) : Nat → Array Bool → Option (List Nat)
  | 0, listed => if Region.ready .any ops listed = [] then some [] else none
  | k + 1, listed =>
    match (Region.ready .any ops listed).find? (floats ops listed) with
    | some i => (match planV ops k (listed.setIfInBounds i true) with | some l => some (i :: l) | none => none)
    | none => match Region.ready .any ops listed with
      | [i] => (match planV ops k (listed.setIfInBounds i true) with | some l => some (i :: l) | none => none)
      | _ => none
/-- A read that was made: by which operation, on which temporaries, what. -/
structure Read where
  i : Nat
  o : Op
  tm : List V
  v : V
def sameV : V → V → Bool
  | .bool a, .bool b => a == b
  | .int k a, .int l b => k == l && a == b
  | .str a, .str b => a == b
  | .nilptr, .nilptr | .nilslice, .nilslice | .nilmap, .nilmap | .nilfn, .nilfn | .nil, .nil => true
  | .ptr a b, .ptr c d => a == c && b == d
  | .slice a b c d e, .slice a' b' c' d' e' => a == a' && b == b' && c == c' && d == d' && e == e'
  | .tail a b c d, .tail a' b' c' d' => a == a' && b == b' && c == c' && d == d'
  | .map a, .map b | .yield a, .yield b => a == b
  | .fn f a b, .fn g c d => f == g && sameV a c && sameV b d
  | .cons a b, .cons c d => sameV a c && sameV b d
  | .agg a, .agg b | .tup a, .tup b => sameV a b
  | _, _ => false
def stillV (ms : Array Nat) (j : Nat) (H : Hp) : List Read → Bool
  | [] => true
  | r :: l => ((ms.getD j 0).testBit r.i || (match readV P gl r.tm H r.o with | some v => sameV v r.v | none => false)) && stillV ms j H l
def drawV (call : Call) (yld : Nat → List V → Hp → Option (V × Hp)) (ops : Array Oper) (ms : Array Nat) : List Nat → List Read → List V → Hp → Option (List V × Hp)
  | [], _, tm, H => some (tm, H)
  | i :: rest, rd, tm, H => match ops[i]? with
    | none => none
    | some o =>
      if wantedV ops tm o then
        if isEff o.op then
          match opV P gl call yld tm H o.op with
          | some (v, H') => if stillV P gl ms i H' rd then drawV call yld ops ms rest rd (putV tm o.dst v) H' else none
          | none => none
        else match pureV P gl tm o.op with
          | some v => drawV call yld ops ms rest rd (putV tm o.dst v) H
          | none => match readV P gl tm H o.op with
            | some v => drawV call yld ops ms rest (⟨i, o.op, tm, v⟩ :: rd) (putV tm o.dst v) H
            | none => match allocV P gl tm o.op with
              | some (ob, mk) => drawV call yld ops ms rest rd (putV tm o.dst (mk H.next)) (H.push ob)
              | none => none
      else if !isEff o.op || stillV P gl ms i H rd then drawV call yld ops ms rest rd (putV tm o.dst .undef) H else none

structure St where
  tm : List V
  marks : List Nat
def loopV (f : St → Hp → Option (Ex × St × Hp)) : Nat → St → Hp → Option (Ex × St × Hp)
  | 0, _, _ => none
  | k + 1, s, H => match f s H with
    | some (.normal, s', H') => loopV f k s' H'
    | r => r
/-- The loop's record: where the deferred calls of the rounds would go. -/
def dnOf (H : Hp) : Option Nat → Option (Nat × List Nat × Hp)
  | some l => match H.get l with
    | some (.loop _ _ _ _ _ _ dn) => some (dn, [], H)
    | _ => none
  | none => some (H.next, [H.next], H.push .defd)
def codeV (call : Call) (yld : Nat → List V → Hp → Option (V × Hp)) (rnd : Option Nat) (k : Nat) : Code → St → Hp → Option (Ex × St × Hp)
  | .skip, s, H => some (.normal, s, H)
  | .region _ ops false, s, H => match opsV P gl call yld ops ops.toList s.tm H with
    | some (tm, H') => some (.normal, ⟨tm, s.marks⟩, H')
    | none => none
  | .region _ ops true, s, H => match planV ops ops.size (Array.replicate ops.size false) with
    | some pl => (match drawV P gl call yld ops (masks ops) pl [] s.tm H with
      | some (tm, H') => some (.normal, ⟨tm, s.marks⟩, H')
      | none => none)
    | none => none
  | .seq a b, s, H => match codeV call yld rnd k a s H with
    | some (.normal, s', H') => codeV call yld rnd k b s' H'
    | r => r
  | .cond c a b, s, H => match opnd gl s.tm c with
    | some (.bool true) => codeV call yld rnd k a s H
    | some (.bool false) => codeV call yld rnd k b s H
    | _ => none
  | .block id c, s, H => match codeV call yld rnd k c s H with
    | some (.exit id', s', H') => if id' = id then some (.normal, s', H') else some (.exit id', s', H')
    | r => r
  | .loop c, s, H => loopV (codeV call yld rnd k c) k s H
  | .rangeFunc f ps a b, s, H => match opnd gl s.tm f with
    | some (.fn g x y) => if ((P.funcs[g]?).bind (·.body)).isNone then none else (match dnOf H rnd with
      | some (dn, mk, H1) =>
        let l := H1.next
        (match call g (x.toL ++ [.yield l] ++ y.toL) (H1.push (.loop .ready none s.tm ps a b dn)) with
        | some (_, H2) => (match H2.get l with
          | some (.loop st pend tm' ps' a' b' dn') =>
            if st = .busy then none else
            (let H3 := H2.set l (.loop .exhausted pend tm' ps' a' b' dn')
            match pend with
            | none => some (.normal, ⟨s.tm, mk ++ s.marks⟩, H3)
            | some .ret => some (.ret, ⟨s.tm, mk ++ s.marks⟩, H3)
            | some (.exit id) => some (.exit id, ⟨s.tm, mk ++ s.marks⟩, H3)
            | _ => none)
          | _ => none)
        | none => none)
      | none => none)
    | _ => none
  | .exit id, s, H => some (.exit id, s, H)
  | .ret, s, H => some (.ret, s, H)
  | _, _, _ => none

def unmark : List Nat → Hp → Option Hp
  | [], H => some H
  | r :: l, H => match H.get r with
    | some .defd => unmark l (H.set r .dead)
    | _ => none
def resultV (H : Hp) (tm : List V) : ResultVar → Option V
  | .tmp t => some (tm.getD t .undef)
  | .cell a t => match tm.getD a .undef with
    | .ptr n off => loadV P H t n off
    | _ => none
def resultsV (H : Hp) (tm : List V) : List ResultVar → Option (List V)
  | [] => some []
  | r :: l => match resultV P H tm r with
    | some v => (match resultsV H tm l with | some m => some (v :: m) | none => none)
    | none => none
def packV : List V → V
  | [v] => v
  | l => .tup (V.ofL l)
def putAllV (tm : List V) : List (Tmp × V) → List V
  | [] => tm
  | (t, v) :: l => putAllV (tm.set t v) l

def findByte (c : UInt8) : List UInt8 → Nat → Int
  | [], _ => -1
  | b :: l, i => if b == c then (i : Int) else findByte c l (i + 1)
/-- What has no body. -/
def extV (name : String) (args : List V) : Option V :=
  if name = "internal/bytealg.IndexByteString" then
    match args with
    | [.str s, .int .u8 c] => some (.int .i64 (findByte c.toNat.toUInt8 s 0))
    | _ => none
  else none
/-- A function, by what its calls and rounds yield. -/
def fnV (call : Call) (yld : Nat → List V → Hp → Option (V × Hp)) (n : Nat) (f : Nat) (args : List V) (H : Hp) : Option (V × Hp) :=
  match P.funcs[f]? with
    | some fn => if fn.name = "runtime.NumGoroutine" then none else
      (match fn.body with
      | some c => (match codeV P gl call yld none n c ⟨args ++ List.replicate (fn.ntmps - args.length) .undef, []⟩ H with
        | some (ex, s, H') => (match ex with
          | .exit _ => none
          | _ => match unmark s.marks H' with
            | some H'' => (match resultsV P H'' s.tm fn.results.toList with
              | some vs => some (packV vs, H'')
              | none => none)
            | none => none)
        | none => none)
      | none => if fn.origin = "" then (match extV fn.name args with
        | some v => some (v, H)
        | none => none) else none)
    | none => none
/-- A round. -/
def roundV (call : Call) (yld : Nat → List V → Hp → Option (V × Hp)) (n : Nat) (l : Nat) (args : List V) (H : Hp) : Option (V × Hp) :=
  match H.get l with
    | some (.loop _ _ tm ps a b _) => if args.length = ps.size then
        (match codeV P gl call yld (some l) n a ⟨putAllV tm (ps.toList.zip args), []⟩ H with
        | some (.normal, s, H1) => (match H1.get l with
          | some (.loop .ready pend tm' ps' a' b' dn') =>
            (match codeV P gl call yld (some l) n b s (H1.set l (.loop .busy pend tm' ps' a' b' dn')) with
            | some (ex, s2, H2) => if s2.marks = [] then (match H2.get l with
              | some (.loop _ _ tm' ps' a' b' dn') => (match ex with
                | .normal => some (.bool true, H2.set l (.loop .ready none tm' ps' a' b' dn'))
                | .ret => some (.bool false, H2.set l (.loop .done (some .ret) tm' ps' a' b' dn'))
                | .exit id => some (.bool false, H2.set l (.loop .done (some (.exit id)) tm' ps' a' b' dn')))
              | _ => none) else none
            | none => none)
          | _ => none)
        | _ => none) else none
    | _ => none
/-- A function (false), or a round (true). -/
def evGo : Nat → Bool × Nat → List V → Hp → Option (V × Hp)
  | 0, _, _, _ => none
  | n + 1, (false, f), args, H => fnV P gl (fun g a H => evGo n (false, g) a H) (fun l a H => evGo n (true, l) a H) n f args H
  | n + 1, (true, l), args, H => roundV P gl (fun g a H => evGo n (false, g) a H) (fun l a H => evGo n (true, l) a H) n l args H
def evFn (n : Nat) (f : FuncId) (args : List V) (H : Hp) : Option (V × Hp) := evGo P gl n (false, f) args H
def Hp.empty : Hp := ⟨0, .lf⟩
end
end Go.Ev
end
section
/- The evaluator's values in the model's; when a heap by names lies in a world. -/
namespace Go.Ev

structure Loc where
  blk : Nat
  base : Nat
  cap : Nat

def V.cv (ρ : Nat → Loc) : V → Value × List Value
  | .bool b => (.bool b, [])
  | .int k n => (.int k n, [])
  | .str s => (.string ⟨s.toArray⟩, [])
  | .nilptr => (.pointer none, [])
  | .ptr n off => (.pointer (some ⟨(ρ n).blk, (ρ n).base + off, none⟩), [])
  | .nilslice => (.slice none 0 0, [])
  | .slice n off len c ex => (.slice (some ⟨(ρ n).blk, (ρ n).base + off, none⟩) len (if ex then c else (ρ n).cap - c), [])
  | .tail n off off' c => (.slice (some ⟨(ρ n).blk, (ρ n).base + (if (ρ n).cap - c = 0 then off else off'), none⟩) 0 ((ρ n).cap - c), [])
  | .raw x _ => (x, [])
  | .nilmap => (.map none, [])
  | .map n => (.map (some (ρ n).blk), [])
  | .nilfn => (.nilFunc, [])
  | .fn f a c => (.func (.func f) (a.cv ρ).2.toArray (c.cv ρ).2.toArray, [])
  | .yield n => (.func (.yield (ρ n).blk) #[] #[], [])
  | .nil => (Go.undef, [])
  | .cons h t => (Go.undef, (h.cv ρ).1 :: (t.cv ρ).2)
  | .agg l => (.agg (l.cv ρ).2.toArray, [])
  | .tup l => (.tuple (l.cv ρ).2.toArray, [])
def V.val (ρ : Nat → Loc) (v : V) : Value := (v.cv ρ).1
def V.vals (ρ : Nat → Loc) (v : V) : List Value := (v.cv ρ).2

section
variable (ρ : Nat → Loc)
theorem V.val_bool (b : Bool) : (V.bool b).val ρ = .bool b := rfl
theorem V.val_int (k : IntKind) (n : Int) : (V.int k n).val ρ = .int k n := rfl
theorem V.val_str (s : List UInt8) : (V.str s).val ρ = .string ⟨s.toArray⟩ := rfl
theorem V.val_nilptr : V.nilptr.val ρ = .pointer none := rfl
theorem V.val_ptr (n off : Nat) : (V.ptr n off).val ρ = .pointer (some ⟨(ρ n).blk, (ρ n).base + off, none⟩) := rfl
theorem V.val_nilslice : V.nilslice.val ρ = .slice none 0 0 := rfl
theorem V.val_slice (n off len c : Nat) (ex : Bool) : (V.slice n off len c ex).val ρ = .slice (some ⟨(ρ n).blk, (ρ n).base + off, none⟩) len (if ex then c else (ρ n).cap - c) := rfl
theorem V.val_tail (n off off' c : Nat) : (V.tail n off off' c).val ρ = .slice (some ⟨(ρ n).blk, (ρ n).base + (if (ρ n).cap - c = 0 then off else off'), none⟩) 0 ((ρ n).cap - c) := rfl
theorem V.val_raw (x : Value) (h : single x = true) : (V.raw x h).val ρ = x := rfl
theorem V.val_nilmap : V.nilmap.val ρ = .map none := rfl
theorem V.val_map (n : Nat) : (V.map n).val ρ = .map (some (ρ n).blk) := rfl
theorem V.val_nilfn : V.nilfn.val ρ = .nilFunc := rfl
theorem V.val_fn (f : FuncId) (a c : V) : (V.fn f a c).val ρ = .func (.func f) (a.vals ρ).toArray (c.vals ρ).toArray := rfl
theorem V.val_yield (n : Nat) : (V.yield n).val ρ = .func (.yield (ρ n).blk) #[] #[] := rfl
theorem V.val_agg (l : V) : (V.agg l).val ρ = .agg (l.vals ρ).toArray := rfl
theorem V.val_tup (l : V) : (V.tup l).val ρ = .tuple (l.vals ρ).toArray := rfl
theorem V.val_undef : V.undef.val ρ = Go.undef := rfl
theorem V.vals_eq : ∀ v : V, v.vals ρ = v.toL.map (V.val ρ)
  | .cons h t => by
    have := V.vals_eq t
    simp only [V.vals] at this
    simp [V.vals, V.cv, V.toL, this, V.val]
  | .bool _ | .int _ _ | .str _ | .nilptr | .ptr _ _ | .nilslice | .slice _ _ _ _ _ | .tail _ _ _ _ | .raw _ _ | .nilmap | .map _ | .nilfn | .fn _ _ _ | .yield _ | .nil | .agg _ | .tup _ => rfl
theorem V.toL_ofL : ∀ l : List V, (V.ofL l).toL = l
  | [] => rfl
  | h :: t => by simp [V.ofL, V.toL, V.toL_ofL t]
theorem V.vals_ofL (l : List V) : (V.ofL l).vals ρ = l.map (V.val ρ) := by rw [V.vals_eq, V.toL_ofL]
/-- The cells of a value. -/
theorem V.val_cells (v : V) : (v.val ρ).cells.toList = v.cells.map (V.val ρ) := by
  cases v <;> simp [V.val, V.cv, Value.cells, V.cells, Go.undef]
  case agg l => exact V.vals_eq ρ l
  case raw x h => cases x <;> simp [single] at h ⊢
end

/-- All its names are such; a slice has the room that it says. -/
def V.In (D : Nat → Prop) (ρ : Nat → Loc) : V → Prop
  | .ptr n _ => D n
  | .slice n _ len c ex => D n ∧ (ex = false → len + c ≤ (ρ n).cap)
  | .tail n _ _ c => D n ∧ c ≤ (ρ n).cap
  | .map n => D n
  | .yield n => D n
  | .fn _ a c => a.In D ρ ∧ c.In D ρ
  | .cons h t => h.In D ρ ∧ t.In D ρ
  | .agg l => l.In D ρ
  | .tup l => l.In D ρ
  | _ => True
theorem V.In.mono {D E : Nat → Prop} {ρ ρ' : Nat → Loc} (h : ∀ n, D n → E n ∧ ρ' n = ρ n) : ∀ {v : V}, v.In D ρ → v.In E ρ'
  | .ptr n _, hv | .map n, hv | .yield n, hv => (h n hv).1
  | .slice n _ _ _ _, hv => ⟨(h n hv.1).1, fun e => by rw [(h n hv.1).2]; exact hv.2 e⟩
  | .tail n _ _ _, hv => ⟨(h n hv.1).1, by rw [(h n hv.1).2]; exact hv.2⟩
  | .raw _ _, _ => trivial
  | .fn _ _ _, hv => ⟨V.In.mono h hv.1, V.In.mono h hv.2⟩
  | .cons _ _, hv => ⟨V.In.mono h hv.1, V.In.mono h hv.2⟩
  | .agg l, hv => V.In.mono (v := l) h hv
  | .tup l, hv => V.In.mono (v := l) h hv
  | .bool _, _ | .int _ _, _ | .str _, _ | .nilptr, _ | .nilslice, _ | .nilmap, _ | .nilfn, _ | .nil, _ => trivial
theorem V.cv_ext {ρ ρ' σ : Nat → Loc} {D : Nat → Prop} (h : ∀ n, D n → ρ' n = ρ n) : ∀ {v : V}, v.In D σ → v.cv ρ' = v.cv ρ
  | .ptr n _, hv => by simp [V.cv, h n hv]
  | .slice n _ _ _ _, hv => by simp [V.cv, h n hv.1]
  | .tail n _ _ _, hv => by simp [V.cv, h n hv.1]
  | .raw _ _, _ => rfl
  | .map n, hv => by simp [V.cv, h n hv]
  | .yield n, hv => by simp [V.cv, h n hv]
  | .fn _ _ _, hv => by simp [V.cv, V.cv_ext h hv.1, V.cv_ext h hv.2]
  | .cons _ _, hv => by simp [V.cv, V.cv_ext h hv.1, V.cv_ext h hv.2]
  | .agg l, hv => by simp [V.cv, V.cv_ext (v := l) h hv]
  | .tup l, hv => by simp [V.cv, V.cv_ext (v := l) h hv]
  | .bool _, _ | .int _ _, _ | .str _, _ | .nilptr, _ | .nilslice, _ | .nilmap, _ | .nilfn, _ | .nil, _ => rfl
theorem V.val_ext {ρ ρ' σ : Nat → Loc} {D : Nat → Prop} (h : ∀ n, D n → ρ' n = ρ n) {v : V} (hv : v.In D σ) : v.val ρ' = v.val ρ := by
  unfold V.val; rw [V.cv_ext h hv]
theorem V.In.toL {D : Nat → Prop} {ρ : Nat → Loc} : ∀ {v : V}, v.In D ρ → ∀ u ∈ v.toL, u.In D ρ
  | .cons h t, hv, u, hu => by
    simp only [V.toL, List.mem_cons] at hu
    rcases hu with rfl | hu
    · exact hv.1
    · exact V.In.toL (v := t) hv.2 u hu
  | .bool _, _, u, hu | .int _ _, _, u, hu | .str _, _, u, hu | .nilptr, _, u, hu | .ptr _ _, _, u, hu | .nilslice, _, u, hu | .slice _ _ _ _ _, _, u, hu | .tail _ _ _ _, _, u, hu | .raw _ _, _, u, hu | .nilmap, _, u, hu | .map _, _, u, hu | .nilfn, _, u, hu | .fn _ _ _, _, u, hu | .yield _, _, u, hu | .nil, _, u, hu | .agg _, _, u, hu | .tup _, _, u, hu => by simp [V.toL] at hu
theorem V.In.ofL {D : Nat → Prop} {ρ : Nat → Loc} : ∀ {l : List V}, (∀ u ∈ l, u.In D ρ) → (V.ofL l).In D ρ
  | [], _ => trivial
  | h :: t, hl => ⟨hl h (by simp), V.In.ofL fun u hu => hl u (by simp [hu])⟩
theorem V.In.cells {D : Nat → Prop} {ρ : Nat → Loc} {v : V} (hv : v.In D ρ) : ∀ u ∈ v.cells, u.In D ρ := by
  intro u hu
  cases v <;> simp only [V.cells, List.mem_singleton] at hu <;> first | (subst hu; exact hv) | skip
  case agg l => exact V.In.toL (v := l) hv u hu
theorem map_ext {ρ ρ' σ : Nat → Loc} {D : Nat → Prop} (h : ∀ n, D n → ρ' n = ρ n) {l : List V} (hl : ∀ v ∈ l, v.In D σ) : l.map (V.val ρ') = l.map (V.val ρ) :=
  List.map_congr_left fun v hv => V.val_ext h (hl v hv)

/-! ### The tree -/
theorem T.get_lf {α : Type} (n : Nat) : (T.lf : T α).get n = none := rfl
theorem T.get_nd0 {α : Type} (v : Option α) (l r : T α) : (T.nd v l r).get 0 = v := rfl
theorem T.get_even {α : Type} (v : Option α) (l r : T α) (m : Nat) (h : m % 2 = 0) : (T.nd v l r).get (m + 1) = l.get (m / 2) := by
  simp only [T.get, h]
theorem T.get_odd {α : Type} (v : Option α) (l r : T α) (m : Nat) (h : m % 2 = 1) : (T.nd v l r).get (m + 1) = r.get (m / 2) := by
  simp only [T.get, h]
theorem T.get_put {α : Type} : ∀ (f : Nat) (t : T α) (n : Nat) (x : α) (m : Nat), n < f → (T.put f t n x).get m = if m = n then some x else t.get m
  | 0, _, _, _, _, h => absurd h (Nat.not_lt_zero _)
  | f + 1, .lf, 0, x, m, _ => by
    cases m with
    | zero => rfl
    | succ m =>
      rcases Nat.mod_two_eq_zero_or_one m with h | h
      · simp [T.put, T.get, h]
      · simp [T.put, T.get, h]
  | f + 1, .nd v l r, 0, x, m, _ => by
    cases m with
    | zero => rfl
    | succ m =>
      rcases Nat.mod_two_eq_zero_or_one m with h | h
      · simp [T.put, T.get, h]
      · simp [T.put, T.get, h]
  | f + 1, .lf, n + 1, x, m, hf => by
    have hn : n / 2 < f := by omega
    rcases Nat.mod_two_eq_zero_or_one n with h | h
    · simp only [T.put, h]
      cases m with
      | zero => simp [T.get]
      | succ m =>
        rcases Nat.mod_two_eq_zero_or_one m with h' | h'
        · rw [T.get_even _ _ _ _ h', T.get_put f _ _ _ _ hn]
          by_cases e : m = n
          · simp [e]
          · rw [if_neg (by omega), if_neg (by omega)]; rfl
        · rw [T.get_odd _ _ _ _ h', if_neg (by omega)]; rfl
    · simp only [T.put, h]
      cases m with
      | zero => simp [T.get]
      | succ m =>
        rcases Nat.mod_two_eq_zero_or_one m with h' | h'
        · rw [T.get_even _ _ _ _ h', if_neg (by omega)]; rfl
        · rw [T.get_odd _ _ _ _ h', T.get_put f _ _ _ _ hn]
          by_cases e : m = n
          · simp [e]
          · rw [if_neg (by omega), if_neg (by omega)]; rfl
  | f + 1, .nd v l r, n + 1, x, m, hf => by
    have hn : n / 2 < f := by omega
    rcases Nat.mod_two_eq_zero_or_one n with h | h
    · simp only [T.put, h]
      cases m with
      | zero => simp [T.get]
      | succ m =>
        rcases Nat.mod_two_eq_zero_or_one m with h' | h'
        · rw [T.get_even _ _ _ _ h', T.get_put f _ _ _ _ hn, T.get_even _ _ _ _ h']
          by_cases e : m = n
          · simp [e]
          · rw [if_neg (by omega), if_neg (by omega)]
        · rw [T.get_odd _ _ _ _ h', T.get_odd _ _ _ _ h', if_neg (by omega)]
    · simp only [T.put, h]
      cases m with
      | zero => simp [T.get]
      | succ m =>
        rcases Nat.mod_two_eq_zero_or_one m with h' | h'
        · rw [T.get_even _ _ _ _ h', T.get_even _ _ _ _ h', if_neg (by omega)]
        · rw [T.get_odd _ _ _ _ h', T.get_put f _ _ _ _ hn, T.get_odd _ _ _ _ h']
          by_cases e : m = n
          · simp [e]
          · rw [if_neg (by omega), if_neg (by omega)]
theorem T.get_set {α : Type} (t : T α) (n : Nat) (x : α) (m : Nat) : (t.set n x).get m = if m = n then some x else t.get m :=
  T.get_put _ t n x m (Nat.lt_succ_self n)
theorem Hp.get_lt {H : Hp} {n : Nat} {o : Ob} (h : H.get n = some o) : n < H.next := by
  unfold Hp.get at h
  split at h
  · assumption
  · cases h
theorem Hp.get_set {H : Hp} {n : Nat} (hn : n < H.next) (o : Ob) (m : Nat) : (H.set n o).get m = if m = n then some o else H.get m := by
  unfold Hp.get Hp.set
  simp only [T.get_set]
  by_cases e : m = n
  · subst e; simp [hn]
  · rw [if_neg e, if_neg e]
theorem Hp.get_push (H : Hp) (o : Ob) (m : Nat) : (H.push o).get m = if m = H.next then some o else H.get m := by
  unfold Hp.get Hp.push
  simp only [T.get_set]
  by_cases e : m = H.next
  · subst e; simp
  · rw [if_neg e, if_neg e]
    by_cases l : m < H.next
    · rw [if_pos (by omega), if_pos l]
    · rw [if_neg (by omega), if_neg l]
theorem Hp.next_set (H : Hp) (n : Nat) (o : Ob) : (H.set n o).next = H.next := rfl
theorem Hp.next_push (H : Hp) (o : Ob) : (H.push o).next = H.next + 1 := rfl

theorem get_tree : ∀ (l : List V) (i : Nat) (t : T V) (j : Nat), (tree i t l).get j = if i ≤ j ∧ j < i + l.length then l[j - i]? else t.get j
  | [], i, t, j => by rw [if_neg (by simp only [List.length_nil]; omega)]; rfl
  | v :: l, i, t, j => by
    rw [tree, get_tree l, T.get_set]
    by_cases h : i + 1 ≤ j ∧ j < i + 1 + l.length
    · rw [if_pos h, if_pos (by simp; omega)]
      rw [show j - i = (j - (i + 1)) + 1 from by omega]; rfl
    · rw [if_neg h]
      by_cases e : j = i
      · subst e; rw [if_pos rfl, if_pos (by simp)]; simp
      · rw [if_neg e, if_neg (by simp only [List.length_cons]; omega)]
theorem cellOf_new (l : List V) (i : Nat) : cellOf l.length (tree 0 .lf l) (fun _ => none) i = l[i]? := by
  unfold cellOf
  by_cases h : i < l.length
  · rw [if_pos h, get_tree, if_pos (by omega), Nat.sub_zero, List.getElem?_eq_getElem h]
  · rw [if_neg h, List.getElem?_eq_none (by omega)]
theorem putCells_one : ∀ (vs : List V) (size : Nat) (ov : T V) (off : Nat) (ov' : T V), putCells size ov off vs = some ov' →
    (∀ v ∈ vs, v.one = true) ∧ (∀ i, i < vs.length → off + i < size) ∧ ∀ j, ov'.get j = if off ≤ j ∧ j < off + vs.length then vs[j - off]? else ov.get j
  | [], size, ov, off, ov', h => by
    simp only [putCells, Option.some.injEq] at h
    subst h
    exact ⟨by simp, by simp, fun j => by rw [if_neg (by simp only [List.length_nil]; omega)]⟩
  | v :: l, size, ov, off, ov', h => by
    simp only [putCells] at h
    split at h
    · rename_i hc
      simp only [Bool.and_eq_true, decide_eq_true_eq] at hc
      obtain ⟨h1, h2, h3⟩ := putCells_one l size _ _ _ h
      refine ⟨fun u hu => ?_, fun i hi => ?_, fun j => ?_⟩
      · rcases List.mem_cons.1 hu with rfl | hu
        · exact hc.2
        · exact h1 u hu
      · cases i with
        | zero => exact hc.1
        | succ i => have := h2 i (by simpa using hi); omega
      · rw [h3, T.get_set]
        by_cases hj : off + 1 ≤ j ∧ j < off + 1 + l.length
        · rw [if_pos hj, if_pos (by simp; omega), show j - off = (j - (off + 1)) + 1 from by omega]; rfl
        · rw [if_neg hj]
          by_cases e : j = off
          · subst e; rw [if_pos rfl, if_pos (by simp)]; simp
          · rw [if_neg e, if_neg (by simp; omega)]
    · cases h

/-! ### A heap in a world -/
def Ob.own : Ob → Bool
  | .cells _ _ _ _ ro => !ro
  | .dead => false
  | _ => true
/-- What stands under a name stands in its block. -/
def ObAt (D : Nat → Prop) (ρ : Nat → Loc) (w0 w : World) (n : Nat) : Ob → Prop
  | .cells size ov base g ro => ∃ c e fz, w.heap[(ρ n).blk]? = some (.cells c e fz) ∧ (∀ i v, cellOf size ov base i = some v → c[(ρ n).base + i]? = some (v.val ρ) ∧ v.In D ρ ∧ v.one = true) ∧
      (ro = false → w0.heap.size ≤ (ρ n).blk ∧ (ρ n).base + size ≤ c.size ∧ (∀ i, i < c.size → ¬ (fz.1 ≤ i ∧ i < fz.2)) ∧ (0 < g → c.size = (ρ n).base + (ρ n).cap * g)) ∧ (ro = true → (ρ n).blk < w0.heap.size)
  | .map es => w0.heap.size ≤ (ρ n).blk ∧ ∃ ents clock, w.heap[(ρ n).blk]? = some (.map ents clock) ∧ ents.toList.map (fun e => (e.key, e.val)) = es.map (fun p => (p.1.val ρ, p.2.val ρ)) ∧ ∀ p ∈ es, p.1.In D ρ ∧ p.2.In D ρ
  | .loop st pend tm ps a b dn => w0.heap.size ≤ (ρ n).blk ∧ (∃ fn, w.heap[(ρ n).blk]? = some (.loop { state := st, pending := pend, fn := fn, tmps := (tm.map (V.val ρ)).toArray, params := ps, assign := a, body := b, defers := (ρ dn).blk })) ∧ (∀ v ∈ tm, v.In D ρ) ∧ D dn
  | .defd => w0.heap.size ≤ (ρ n).blk ∧ w.heap[(ρ n).blk]? = some (.deferred (some []))
  | .dead => True

structure Rel (gl : Nat → Option Nat) (w0 : World) (D : Nat → Prop) (ρ : Nat → Loc) (H : Hp) (w : World) : Prop where
  grown : w0.grownBy w none
  old : ∀ n, D n → n < H.next
  ob : ∀ n o, D n → H.get n = some o → ObAt D ρ w0 w n o
  inj : ∀ n m o p, D n → D m → n ≠ m → H.get n = some o → H.get m = some p → o.own = true → p.own = true → (ρ n).blk ≠ (ρ m).blk
  gl : ∀ g n, gl g = some n → D n ∧ (ρ n).blk = g ∧ (ρ n).base = 0

/-- From one heap to the next: what was mapped stays, what is new is mapped, what was not mapped has not turned. -/
structure Nx (D : Nat → Prop) (ρ : Nat → Loc) (H : Hp) (D' : Nat → Prop) (ρ' : Nat → Loc) (H' : Hp) : Prop where
  loc : ∀ n, D n → ρ' n = ρ n
  dom : ∀ n, D' n ↔ D n ∨ (H.next ≤ n ∧ n < H'.next)
  size : H.next ≤ H'.next
  rest : ∀ n, n < H.next → ¬ D n → H'.get n = H.get n
theorem Nx.refl (D : Nat → Prop) (ρ : Nat → Loc) (H : Hp) : Nx D ρ H D ρ H :=
  ⟨fun _ _ => rfl, fun n => ⟨.inl, fun h => h.elim id fun ⟨a, b⟩ => absurd b (by omega)⟩, Nat.le_refl _, fun _ _ _ => rfl⟩
theorem Nx.sub {D D' : Nat → Prop} {ρ ρ' : Nat → Loc} {H H' : Hp} (h : Nx D ρ H D' ρ' H') : ∀ n, D n → D' n := fun n hn => (h.dom n).2 (.inl hn)
theorem Nx.trans {D D' D'' : Nat → Prop} {ρ ρ' ρ'' : Nat → Loc} {H H' H'' : Hp} (h : Nx D ρ H D' ρ' H') (k : Nx D' ρ' H' D'' ρ'' H'') : Nx D ρ H D'' ρ'' H'' := by
  refine ⟨fun n hn => (k.loc n (h.sub n hn)).trans (h.loc n hn), fun n => ?_, Nat.le_trans h.size k.size, fun n hn hd => ?_⟩
  · rw [k.dom, h.dom]
    have := h.size; have := k.size
    constructor
    · rintro ((h | ⟨a, b⟩) | ⟨a, b⟩)
      · exact .inl h
      · exact .inr ⟨a, by omega⟩
      · exact .inr ⟨by omega, b⟩
    · rintro (h | ⟨a, b⟩)
      · exact .inl (.inl h)
      · by_cases c : n < H'.next
        · exact .inl (.inr ⟨a, c⟩)
        · exact .inr ⟨by omega, b⟩
  · have hs := h.size
    rw [k.rest n (by omega) (fun e => by rcases (h.dom n).1 e with e | e; exact hd e; omega), h.rest n hn hd]
theorem Nx.val {D D' : Nat → Prop} {ρ ρ' : Nat → Loc} {H H' : Hp} (h : Nx D ρ H D' ρ' H') {v : V} (hv : v.In D ρ) : v.val ρ' = v.val ρ := V.val_ext h.loc hv
theorem Nx.in {D D' : Nat → Prop} {ρ ρ' : Nat → Loc} {H H' : Hp} (h : Nx D ρ H D' ρ' H') {v : V} (hv : v.In D ρ) : v.In D' ρ' := hv.mono fun n hn => ⟨h.sub n hn, h.loc n hn⟩

theorem ObAt.heap {D : Nat → Prop} {ρ : Nat → Loc} {w0 w : World} {n : Nat} {o : Ob} (h : ObAt D ρ w0 w n o) (ho : o ≠ .dead) : (ρ n).blk < w.heap.size := by
  have key : ∀ x, w.heap[(ρ n).blk]? = some x → (ρ n).blk < w.heap.size := fun x hx => (Array.getElem?_eq_some_iff.1 hx).1
  cases o with
  | cells size ov base g ro => obtain ⟨c, e, fz, hh, _⟩ := h; exact key _ hh
  | map es => obtain ⟨_, _, _, hh, _⟩ := h; exact key _ hh
  | loop st pend tm ps a b dn => obtain ⟨_, ⟨_, hh⟩, _⟩ := h; exact key _ hh
  | defd => exact key _ h.2
  | dead => exact absurd rfl ho
theorem ObAt.own_new {D : Nat → Prop} {ρ : Nat → Loc} {w0 w : World} {n : Nat} {o : Ob} (h : ObAt D ρ w0 w n o) (ho : o.own = true) : w0.heap.size ≤ (ρ n).blk := by
  cases o with
  | cells size ov base g ro =>
    obtain ⟨c, e, fz, _, _, h1, _⟩ := h
    exact (h1 (by simpa [Ob.own] using ho)).1
  | map es => exact h.1
  | loop st pend tm ps a b dn => exact h.1
  | defd => exact h.1
  | dead => simp [Ob.own] at ho
/-- It stays where its block stays, under a greater map. -/
theorem ObAt.keep {D D' : Nat → Prop} {ρ ρ' : Nat → Loc} {w0 w w' : World} {n : Nat} {o : Ob} (h : ObAt D ρ w0 w n o) (hD : ∀ m, D m → D' m ∧ ρ' m = ρ m) (hn : D n) (hb : o ≠ .dead → w'.heap[(ρ n).blk]? = w.heap[(ρ n).blk]?) : ObAt D' ρ' w0 w' n o := by
  have hl : ∀ m, D m → ρ' m = ρ m := fun m hm => (hD m hm).2
  have hs : ∀ m, D m → D' m := fun m hm => (hD m hm).1
  cases o with
  | cells size ov base g ro =>
    obtain ⟨c, e, fz, hh, hc, h1, h2⟩ := h
    refine ⟨c, e, fz, by rw [hl n hn, hb (by simp), hh], fun i v hv => ?_, by rw [hl n hn]; exact h1, by rw [hl n hn]; exact h2⟩
    obtain ⟨a, b, one⟩ := hc i v hv
    exact ⟨by rw [hl n hn, V.val_ext hl b]; exact a, b.mono hD, one⟩
  | map es =>
    obtain ⟨h0, ents, clock, hh, he, hi⟩ := h
    refine ⟨by rw [hl n hn]; exact h0, ents, clock, by rw [hl n hn, hb (by simp), hh], ?_, fun p hp => ⟨(hi p hp).1.mono hD, (hi p hp).2.mono hD⟩⟩
    rw [he]
    refine List.map_congr_left fun p hp => ?_
    rw [V.val_ext hl (hi p hp).1, V.val_ext hl (hi p hp).2]
  | loop st pend tm ps a b dn =>
    obtain ⟨h0, ⟨fn, hh⟩, hi, hd⟩ := h
    exact ⟨by rw [hl n hn]; exact h0, ⟨fn, by rw [hl n hn, hb (by simp), hh, map_ext hl hi, hl dn hd]⟩, fun v hv => (hi v hv).mono hD, hs dn hd⟩
  | defd => exact ⟨by rw [hl n hn]; exact h.1, by rw [hl n hn, hb (by simp)]; exact h.2⟩
  | dead => trivial
theorem grown_trans' {a b c : World} {r : Option Nat} (h : a.grownBy b none) (k : b.grownBy c r) (hr : ∀ i, r = some i → a.heap.size ≤ i) : a.grownBy c none :=
  ⟨k.os.trans h.os, k.tape.trans h.tape, k.output.trans h.output, Nat.le_trans h.size k.size, fun i hi _ =>
    (k.block i (Nat.lt_of_lt_of_le hi h.size) (fun e => by have := hr i e.symm; omega)).trans (h.block i hi (by simp))⟩
/-- A world in which the same stands. -/
theorem Rel.quiet {gl : Nat → Option Nat} {w0 w w' : World} {D : Nat → Prop} {ρ : Nat → Loc} {H : Hp} (h : Rel gl w0 D ρ H w) (hg : w.grownBy w' none) : Rel gl w0 D ρ H w' :=
  ⟨grown_trans' h.grown hg (by simp), h.old, fun n o hn ho => (h.ob n o hn ho).keep (fun _ hm => ⟨hm, rfl⟩) hn (fun hd => hg.block _ ((h.ob n o hn ho).heap hd) (by simp)), h.inj, h.gl⟩
/-- One block has turned: that of a name. -/
theorem Rel.turn {gl : Nat → Option Nat} {w0 w w' : World} {D : Nat → Prop} {ρ : Nat → Loc} {H : Hp} (h : Rel gl w0 D ρ H w) {n : Nat} {o o' : Ob} (hn : D n) (ho : H.get n = some o) (hown : o.own = true) (hg : w.grownBy w' (some (ρ n).blk))
    (hat : ObAt D ρ w0 w' n o') : Rel gl w0 D ρ (H.set n o') w' := by
  have hnew := (h.ob n o hn ho).own_new hown
  refine ⟨grown_trans' h.grown hg (by rintro i ⟨rfl⟩; exact hnew), h.old, ?_, ?_, h.gl⟩
  · intro m p hm hp
    rw [Hp.get_set (h.old n hn)] at hp
    by_cases e : m = n
    · subst e
      rw [if_pos rfl] at hp
      cases hp
      exact hat
    · rw [if_neg e] at hp
      have hmp := h.ob m p hm hp
      refine hmp.keep (fun _ hm => ⟨hm, rfl⟩) hm (fun hd => hg.block _ (hmp.heap hd) ?_)
      intro e2
      cases hpo : p.own with
      | true => exact h.inj n m o p hn hm (fun e' => e e'.symm) ho hp hown hpo (by simpa using e2.symm)
      | false =>
        cases p with
        | cells size ov base g ro =>
          obtain ⟨c, el, fz, hh, hc, h1, h2⟩ := hmp
          have hro : ro = true := by simpa [Ob.own] using hpo
          have := h2 hro
          have : (ρ n).blk = (ρ m).blk := by simpa using e2.symm
          omega
        | dead => exact hd rfl
        | map es => simp [Ob.own] at hpo
        | loop => simp [Ob.own] at hpo
        | defd => simp [Ob.own] at hpo
  · intro k m p q hk hm hne hp hq hpo hqo
    rw [Hp.get_set (h.old n hn)] at hp hq
    have own_of : ∀ k p, D k → (if k = n then some o' else H.get k) = some p → p.own = true → ∃ p', H.get k = some p' ∧ p'.own = true := by
      intro k p hk hp hpo
      by_cases e : k = n
      · subst e; exact ⟨o, ho, hown⟩
      · rw [if_neg e] at hp; exact ⟨p, hp, hpo⟩
    obtain ⟨p', hp', hpo'⟩ := own_of k p hk hp hpo
    obtain ⟨q', hq', hqo'⟩ := own_of m q hm hq hqo
    exact h.inj k m p' q' hk hm hne hp' hq' hpo' hqo'
def upd (ρ : Nat → Loc) (m : Nat) (x : Loc) (n : Nat) : Loc := if n = m then x else ρ n
/-- A name that is mapped now: to a block that is new, or to the block of one that is dead. -/
theorem Rel.add {gl : Nat → Option Nat} {w0 w w' : World} {D : Nat → Prop} {ρ : Nat → Loc} {H H' : Hp} (h : Rel gl w0 D ρ H w) {m : Nat} {o : Ob} {x : Loc} (hm : ¬ D m) (hlt : m < H'.next) (hle : H.next ≤ H'.next)
    (hsame : ∀ k, D k → H'.get k = H.get k) (ho : H'.get m = some o) (hg : w.grownBy w' none) (hx : ∀ k p, D k → H.get k = some p → p.own = true → (ρ k).blk ≠ x.blk)
    (hat : ObAt (fun n => D n ∨ n = m) (upd ρ m x) w0 w' m o) : Rel gl w0 (fun n => D n ∨ n = m) (upd ρ m x) H' w' := by
  have hl : ∀ k, D k → upd ρ m x k = ρ k := fun k hk => by
    unfold upd
    rw [if_neg]
    rintro rfl
    exact hm hk
  have hxm : upd ρ m x m = x := by unfold upd; rw [if_pos rfl]
  have hq := h.quiet hg
  refine ⟨hq.grown, ?_, ?_, ?_, fun g n hn => ?_⟩
  · rintro n (hn | rfl)
    · exact Nat.lt_of_lt_of_le (h.old n hn) hle
    · exact hlt
  · rintro n p (hn | rfl) hp
    · rw [hsame n hn] at hp
      exact (hq.ob n p hn hp).keep (fun k hk => ⟨.inl hk, hl k hk⟩) hn (fun _ => rfl)
    · rw [ho] at hp; cases hp; exact hat
  · have side : ∀ n p, D n → H.get n = some p → p.own = true → (upd ρ m x n).blk ≠ x.blk := by
      intro n p hn hp hpo e
      rw [hl n hn] at e
      exact hx n p hn hp hpo e
    rintro n k p q hn hk hne hp hq' hpo hqo
    rcases hn with hn | rfl
    · rw [hsame n hn] at hp
      rcases hk with hk | rfl
      · rw [hsame k hk] at hq'
        rw [hl n hn, hl k hk]
        exact h.inj n k p q hn hk hne hp hq' hpo hqo
      · rw [hxm]; exact side n p hn hp hpo
    · rcases hk with hk | rfl
      · rw [hsame k hk] at hq'
        rw [hxm]
        exact fun e => side k q hk hq' hqo e.symm
      · exact absurd rfl hne
  · obtain ⟨a, b, c⟩ := h.gl g n hn
    exact ⟨.inl a, by rw [hl n a]; exact b, by rw [hl n a]; exact c⟩
theorem Rel.far {gl : Nat → Option Nat} {w0 w : World} {D : Nat → Prop} {ρ : Nat → Loc} {H : Hp} (h : Rel gl w0 D ρ H w) {b : Nat} (hb : w.heap.size ≤ b) : ∀ k p, D k → H.get k = some p → p.own = true → (ρ k).blk ≠ b := by
  intro k p hk hp hpo
  have := (h.ob k p hk hp).heap (by intro e2; rw [e2] at hpo; simp [Ob.own] at hpo)
  omega
end Go.Ev
end
section
/- What looks at no memory: as the model does it. -/
namespace Go.Ev

theorem ofScalar_sound {z : Value} {v : V} (h : ofScalar z = some v) (ρ : Nat → Loc) (D : Nat → Prop) : v.val ρ = z ∧ v.In D ρ ∧ v.one = true := by
  unfold ofScalar at h
  split at h <;> simp only [Option.some.injEq, reduceCtorEq] at h <;> (subst h; exact ⟨rfl, trivial, rfl⟩)
theorem ofScalars_sound : ∀ {l : List Value} {m : List V}, ofScalars l = some m → ∀ (ρ : Nat → Loc) (D : Nat → Prop), m.map (V.val ρ) = l ∧ (∀ u ∈ m, u.In D ρ) ∧ ∀ u ∈ m, u.one = true
  | [], m, h, ρ, D => by simp only [ofScalars, Option.some.injEq] at h; subst h; exact ⟨rfl, by simp, by simp⟩
  | z :: l, m, h, ρ, D => by
    simp only [ofScalars] at h
    split at h
    · rename_i x hx
      split at h
      · rename_i m' hm
        simp only [Option.some.injEq] at h
        subst h
        obtain ⟨a, b, c⟩ := ofScalar_sound hx ρ D
        obtain ⟨a', b', c'⟩ := ofScalars_sound hm ρ D
        exact ⟨by simp [a, a'], by simpa using ⟨b, b'⟩, by simpa using ⟨c, c'⟩⟩
      · cases h
    · cases h
/-- A value whose cells are cells. -/
def V.flat (v : V) : Prop := ∀ u ∈ v.cells, u.one = true
theorem ofConst_sound {z : Value} {v : V} (h : ofConst z = some v) (ρ : Nat → Loc) (D : Nat → Prop) : v.val ρ = z ∧ v.In D ρ := by
  unfold ofConst at h
  split at h
  · rename_i cs
    split at h
    · rename_i l hl
      simp only [Option.some.injEq] at h
      subst h
      obtain ⟨a, b, _⟩ := ofScalars_sound hl ρ D
      refine ⟨?_, V.In.ofL b⟩
      rw [V.val_agg, V.vals_ofL, a]
    · cases h
  · simp only [Option.some.injEq] at h; subst h; exact ⟨rfl, trivial⟩
  · exact ⟨(ofScalar_sound h ρ D).1, (ofScalar_sound h ρ D).2.1⟩
theorem ofConst_flat {z : Value} {v : V} (h : ofConst z = some v) (hne : v ≠ .undef) : v.flat := by
  unfold ofConst at h
  split at h
  · rename_i cs
    split at h
    · rename_i l hl
      simp only [Option.some.injEq] at h
      subst h
      obtain ⟨a, b, c⟩ := ofScalars_sound hl (fun _ => ⟨0, 0, 0⟩) (fun _ => True)
      intro u hu
      simp only [V.cells, V.toL_ofL] at hu
      exact c u hu
    · cases h
  · simp only [Option.some.injEq] at h; exact absurd h.symm hne
  · have := (ofScalar_sound h (fun _ => ⟨0, 0, 0⟩) (fun _ => True)).2.2
    intro u hu
    cases v <;> simp only [V.cells, List.mem_singleton] at hu <;> first | (subst hu; exact this) | simp [V.one] at this

section
variable {P : Program}
theorem run_typeInfo_some' {t : TypeId} {info : TypeInfo} (h : P.info? t = some info) (w : World) : (typeInfo t).run P w = .ok info w := by
  simp [typeInfo, program, Sem.run, h]
theorem r_info {t : TypeId} {i : TypeInfo} (h : P.info? t = some i) (w : World) : (typeInfo t).run P w = .ok i w := run_typeInfo_some' h w
theorem r_zero {t : TypeId} {v : V} (h : zeroV P t = some v) (ρ : Nat → Loc) (D : Nat → Prop) : v.In D ρ ∧ ∀ w, (zeroValue t).run P w = .ok (v.val ρ) w := by
  unfold zeroV at h
  split at h
  · rename_i i hi
    split at h
    · rename_i z hz
      obtain ⟨a, b⟩ := ofConst_sound h ρ D
      refine ⟨b, fun w => ?_⟩
      simp [zeroValue, r_info hi, hz, a]
    · cases h
  · cases h
theorem r_size {t : TypeId} {s : Nat} (h : sizeV P t = some s) (w : World) : (sizeOf t).run P w = .ok s w := by
  unfold sizeV at h
  split at h
  · rename_i i hi
    simp only [Option.some.injEq] at h
    subst h
    simp [sizeOf, r_info hi]
  · cases h
theorem r_bytes {t : TypeId} {s : Nat} (h : bytesV P t = some s) : ∃ i, P.info? t = some i ∧ i.bytes = s := by
  unfold bytesV at h
  split at h
  · rename_i i hi
    simp only [Option.some.injEq] at h
    exact ⟨i, hi, h⟩
  · cases h
theorem r_isAgg {t : TypeId} {b : Bool} (h : isAggV P t = some b) (w : World) : (isAgg t).run P w = .ok b w := by
  unfold isAggV at h
  split at h
  · rename_i d hd; simp only [Option.some.injEq] at h; subst h; simp [isAgg, run_underlying hd]
  · rename_i d e hd; simp only [Option.some.injEq] at h; subst h; simp [isAgg, run_underlying hd]
  · rename_i d h1 h2 hd
    simp only [Option.some.injEq] at h; subst h
    simp only [isAgg, Sem.run_bind, run_underlying hd, Result.andThen_ok]
    cases d <;> first | rfl | exact absurd hd (by first | exact h1 _ | exact h2 _ _)
  · cases h
theorem r_part {t : TypeId} {cs : List V} {off : Nat} {v : V} (h : partV P t cs off = some v) (ρ : Nat → Loc) (D : Nat → Prop) (hD : ∀ u ∈ cs, u.In D ρ) :
    v.In D ρ ∧ ∀ w, (part t (cs.map (V.val ρ)).toArray off).run P w = .ok (v.val ρ) w := by
  unfold partV at h
  split at h
  · rename_i hb
    split at h
    · rename_i s hs
      simp only [Option.some.injEq] at h
      subst h
      refine ⟨V.In.ofL fun u hu => hD u (List.mem_of_mem_drop (List.mem_of_mem_take hu)), fun w => ?_⟩
      simp only [part, Sem.run_bind, r_isAgg hb, Result.andThen_ok, if_true, r_size hs, Sem.run_pure]
      rw [V.val_agg, V.vals_ofL]
      congr 2
      apply Array.ext'
      simp [List.map_take, List.map_drop, Nat.add_sub_cancel_left]
    · cases h
  · rename_i hb
    refine ⟨hD v (List.mem_of_getElem? h), fun w => ?_⟩
    simp [part, r_isAgg hb, h]
  · cases h
theorem putAt_length {cs vs : List V} {off : Nat} (h : off + vs.length ≤ cs.length) : (putAt cs off vs).length = cs.length := by
  simp only [putAt, List.length_append, List.length_take, List.length_drop]; omega
theorem foldl_put (ρ : Nat → Loc) : ∀ (vs : List Value) (k off : Nat) (cs : Array Value), off + k + vs.length ≤ cs.size →
    ((vs.zipIdx k).foldl (fun (cs : Array Value) (p : Value × Nat) => cs.setIfInBounds (off + p.2) p.1) cs).toList = cs.toList.take (off + k) ++ vs ++ cs.toList.drop (off + k + vs.length)
  | [], k, off, cs, h => by simp
  | v :: vs, k, off, cs, h => by
    simp only [List.length_cons] at h
    rw [List.zipIdx_cons, List.foldl_cons, foldl_put ρ vs (k + 1) off _ (by simp; omega)]
    have hl : off + k < cs.toList.length := by simp; omega
    simp only [Array.toList_setIfInBounds, List.length_cons]
    rw [show off + (k + 1) = off + k + 1 from by omega, List.take_set, List.drop_set_of_lt (by omega), List.take_succ_eq_append_getElem hl, List.set_append_right _ _ (by simp; omega)]
    have hz : off + k - (List.take (off + k) cs.toList).length = 0 := by rw [List.length_take]; omega
    rw [hz]
    simp [show off + k + 1 + vs.length = off + k + (vs.length + 1) from by omega]
theorem r_fill {pl : Nat → Option (Nat × Nat)} (ρ : Nat → Loc) (D : Nat → Prop) : ∀ {ps : List (Nat × V)} {cs out : List V}, fillV pl cs ps = some out → (∀ u ∈ cs, u.In D ρ) → (∀ p ∈ ps, p.2.In D ρ) →
    (∀ u ∈ out, u.In D ρ) ∧ out.length = cs.length ∧ Instr.fill pl (cs.map (V.val ρ)).toArray (ps.map fun p => (p.1, p.2.val ρ)) = some (out.map (V.val ρ)).toArray
  | [], cs, out, h, hc, hp => by
    simp only [fillV, Option.some.injEq] at h; subst h
    exact ⟨hc, rfl, rfl⟩
  | (i, v) :: rest, cs, out, h, hc, hp => by
    simp only [fillV] at h
    split at h
    · cases h
    · rename_i off size hpl
      split at h
      · rename_i hs
        have hvc : (v.val ρ).cells.toList = v.cells.map (V.val ρ) := V.val_cells ρ v
        have hvl : (v.val ρ).cells.size = v.cells.length := by rw [← Array.length_toList, hvc, List.length_map]
        obtain ⟨a, b, c⟩ := r_fill ρ D h (fun u hu => by
          unfold putAt at hu
          rcases List.mem_append.1 hu with hu | hu
          · rcases List.mem_append.1 hu with hu | hu
            · exact hc u (List.mem_of_mem_take hu)
            · exact V.In.cells (hp (i, v) (by simp)) u hu
          · exact hc u (List.mem_of_mem_drop hu)) (fun p hq => hp p (by simp [hq]))
        refine ⟨a, by rw [b, putAt_length hs.2], ?_⟩
        simp only [List.map_cons, Instr.fill, hpl]
        rw [if_neg (by simp [hvl, hs.1]; omega)]
        rw [← c]
        congr 1
        apply Array.ext'
        have := foldl_put ρ (v.val ρ).cells.toList 0 off (cs.map (V.val ρ)).toArray (by simp [hvl]; omega)
        simp only [Nat.add_zero] at this
        rw [← Array.toList_zipIdx, Array.foldl_toList] at this
        rw [this, hvc]
        simp [putAt, List.map_take, List.map_drop]
      · cases h
end
end Go.Ev
end
section
/- What looks at no memory: as the model does it (2). -/
namespace Go.Ev

section
variable {P : Program}
theorem r_places : ∀ {l : List Field} {m : List (Nat × Nat)}, placesV P l = some m → ∀ w, (l.mapM fun (f : Field) => (do pure (f.offset, ← sizeOf f.type) : Sem (Nat × Nat))).run P w = .ok m w
  | [], m, h, w => by simp only [placesV, Option.some.injEq] at h; subst h; rfl
  | f :: l, m, h, w => by
    simp only [placesV] at h
    split at h
    · rename_i s hs
      split at h
      · rename_i m' hm
        simp only [Option.some.injEq] at h
        subst h
        rw [List.mapM_cons]
        have := r_places hm w
        simp only [Sem.run_bind, Sem.run_pure, r_size hs, Result.andThen_ok, this]
      · cases h
    · cases h
theorem r_build {t : TypeId} {ps : List (Nat × V)} {v : V} (h : buildV P t ps = some v) (ρ : Nat → Loc) (D : Nat → Prop) (hp : ∀ p ∈ ps, p.2.In D ρ) :
    v.In D ρ ∧ ∀ w (a : Array (Nat × Value)), a.toList = (ps.map fun p => (p.1, p.2.val ρ)) → (Instr.build t a).run P w = .ok (v.val ρ) w := by
  unfold buildV at h
  split at h
  · rename_i z fields hz hu
    split at h
    · rename_i pl hpl
      split at h
      · rename_i cs hcs
        simp only [Option.some.injEq] at h
        subst h
        obtain ⟨hzi, hzr⟩ := r_zero hz ρ D
        obtain ⟨a1, _, a3⟩ := r_fill ρ D hcs (V.In.cells hzi) hp
        refine ⟨V.In.ofL a1, fun w a ha => ?_⟩
        have hzc : (z.val ρ).cells = (z.cells.map (V.val ρ)).toArray := by apply Array.ext'; simpa using V.val_cells ρ z
        have hpl' := r_places hpl w
        simp only [Instr.build, Sem.run_bind, hzr, Result.andThen_ok, run_underlying hu, Array.mapM_eq_mapM_toList, Sem.run_map]
        rw [hpl']
        simp only [Result.andThen_ok, ha, hzc]
        have a3' : Instr.fill (fun x => pl.toArray[x]?) (z.cells.map (V.val ρ)).toArray (ps.map fun p => (p.1, p.2.val ρ)) = some (cs.map (V.val ρ)).toArray := by
          simpa using a3
        rw [a3', V.val_agg, V.vals_ofL]
        rfl
      · cases h
    · cases h
  · rename_i z n e hz hu
    split at h
    · rename_i s hs
      split at h
      · rename_i cs hcs
        simp only [Option.some.injEq] at h
        subst h
        obtain ⟨hzi, hzr⟩ := r_zero hz ρ D
        obtain ⟨a1, _, a3⟩ := r_fill ρ D hcs (V.In.cells hzi) hp
        refine ⟨V.In.ofL a1, fun w a ha => ?_⟩
        have hzc : (z.val ρ).cells = (z.cells.map (V.val ρ)).toArray := by apply Array.ext'; simpa using V.val_cells ρ z
        simp only [Instr.build, Sem.run_bind, hzr, Result.andThen_ok, run_underlying hu, r_size hs, ha, hzc]
        rw [a3, V.val_agg, V.vals_ofL]
        rfl
      · cases h
    · cases h
  · cases h

theorem val_agg_eq (ρ : Nat → Loc) (l : V) : (V.agg l).val ρ = .agg (l.toL.map (V.val ρ)).toArray := by rw [V.val_agg, V.vals_eq]
theorem bytes_beq (a b : List UInt8) : ((⟨a.toArray⟩ : ByteArray) == ⟨b.toArray⟩) = (a == b) := by
  change (a.toArray == b.toArray) = _
  simp

def fieldsLoop (eq : TypeId → Value → Value → Sem Bool) (xs ys : Array Value) : List Field → Sem Bool
  | [] => pure true
  | f :: fs =>
    if f.name ≠ "_" then do
      let x ← part f.type xs f.offset
      let y ← part f.type ys f.offset
      let b ← eq f.type x y
      if (!b) = true then pure false else fieldsLoop eq xs ys fs
    else fieldsLoop eq xs ys fs
def elemsLoop (eq : Value → Value → Sem Bool) (e : TypeId) (n : Nat) (xs ys : Array Value) : List Nat → Sem Bool
  | [] => pure true
  | i :: l => do
    let x ← part e xs (i * n)
    let y ← part e ys (i * n)
    let b ← eq x y
    if (!b) = true then pure false else elemsLoop eq e n xs ys l
theorem andThen_ok' {α β : Type} (r : Result α) (f : α → World → Result β) (a : α) (w : World) (h : r = .ok a w) : r.andThen f = f a w := by rw [h]; rfl
theorem andThen_assoc {α β γ : Type} (r : Result α) (f : α → World → Result β) (g : β → World → Result γ) : (r.andThen f).andThen g = r.andThen fun a w => (f a w).andThen g := by
  cases r <;> rfl
theorem equalIn_struct {d : Nat} {t : TypeId} {fields : Array Field} (hu : P.underlying t = some (.struct fields)) (hs : P.stoodInHeld t = false) (xs ys : Array Value) (w : World) :
    (Op.equalIn (d + 1) t (.agg xs) (.agg ys)).run P w = (fieldsLoop (Op.equalIn d) xs ys fields.toList).run P w := by
  simp only [Op.equalIn, Sem.run_bind, run_underlying hu, Result.andThen_ok, program, Sem.run, hs, Bool.false_eq_true, if_false]
  rw [← Array.forIn_toList]
  generalize fields.toList = l
  induction l generalizing w with
  | nil => simp [fieldsLoop]
  | cons f l ih =>
    rw [List.forIn_cons, fieldsLoop]
    by_cases hn : f.name ≠ "_"
    · rw [if_pos hn, if_pos hn]
      simp only [Sem.run_bind, andThen_assoc]
      congr 1
      funext x w1
      congr 1
      funext y w2
      congr 1
      funext b w3
      cases b
      · simp
      · simpa using ih w3
    · rw [if_neg hn, if_neg hn]
      simpa using ih w
theorem equalIn_array {d : Nat} {t e : TypeId} {n len : Nat} (hu : P.underlying t = some (.array len e)) (hs : sizeV P e = some n) (xs ys : Array Value) (w : World) :
    (Op.equalIn (d + 1) t (.agg xs) (.agg ys)).run P w = (elemsLoop (Op.equalIn d e) e n xs ys (List.range' 0 len)).run P w := by
  simp only [Op.equalIn, Sem.run_bind, run_underlying hu, Result.andThen_ok, r_size hs]
  rw [Std.Legacy.Range.forIn_eq_forIn_range']
  simp only [Std.Legacy.Range.size, Nat.sub_zero, Nat.add_sub_cancel, Nat.div_one]
  generalize List.range' 0 len = l
  induction l generalizing w with
  | nil => simp [elemsLoop]
  | cons f l ih =>
    rw [List.forIn_cons, elemsLoop]
    simp only [Sem.run_bind, andThen_assoc]
    congr 1
    funext x w1
    congr 1
    funext y w2
    congr 1
    funext b w3
    cases b
    · simp
    · simpa using ih w3
theorem r_fields {eq : TypeId → V → V → Option Bool} {eqM : TypeId → Value → Value → Sem Bool} (ρ : Nat → Loc) (D : Nat → Prop) {xs ys : List V} (hx : ∀ u ∈ xs, u.In D ρ) (hy : ∀ u ∈ ys, u.In D ρ)
    (he : ∀ t a b r, eq t a b = some r → a.In D ρ → b.In D ρ → ∀ w, (eqM t (a.val ρ) (b.val ρ)).run P w = .ok r w) : ∀ {l : List Field} {r : Bool}, fieldsEq P eq xs ys l = some r →
    ∀ w, (fieldsLoop eqM (xs.map (V.val ρ)).toArray (ys.map (V.val ρ)).toArray l).run P w = .ok r w
  | [], r, h, w => by simp only [fieldsEq, Option.some.injEq] at h; subst h; rfl
  | f :: l, r, h, w => by
    simp only [fieldsEq] at h
    split at h
    · cases h
    · rename_i hn
      split at h
      · rename_i a b ha hb
        obtain ⟨a1, a2⟩ := r_part ha ρ D hx
        obtain ⟨b1, b2⟩ := r_part hb ρ D hy
        rw [fieldsLoop, if_pos hn]
        split at h
        · rename_i hq
          simp only [Sem.run_bind, a2, b2, Result.andThen_ok, he _ _ _ _ hq a1 b1, Bool.not_true, Bool.false_eq_true, if_false]
          exact r_fields ρ D hx hy he h w
        · rename_i hq
          have hr : r = false := by cases r <;> simp_all
          subst hr
          simp only [Sem.run_bind, a2, b2, Result.andThen_ok, he _ _ _ _ h a1 b1, Bool.not_false, if_true, Sem.run_pure]
      · cases h
theorem r_elems {eq : TypeId → V → V → Option Bool} {eqM : TypeId → Value → Value → Sem Bool} (ρ : Nat → Loc) (D : Nat → Prop) {e : TypeId} {s : Nat} {xs ys : List V} (hx : ∀ u ∈ xs, u.In D ρ) (hy : ∀ u ∈ ys, u.In D ρ)
    (he : ∀ t a b r, eq t a b = some r → a.In D ρ → b.In D ρ → ∀ w, (eqM t (a.val ρ) (b.val ρ)).run P w = .ok r w) : ∀ {k i : Nat} {r : Bool}, elemsEq P eq e s xs ys i k = some r →
    ∀ w, (elemsLoop (eqM e) e s (xs.map (V.val ρ)).toArray (ys.map (V.val ρ)).toArray (List.range' i k)).run P w = .ok r w
  | 0, i, r, h, w => by simp only [elemsEq, Option.some.injEq] at h; subst h; rfl
  | k + 1, i, r, h, w => by
    simp only [elemsEq] at h
    split at h
    · rename_i a b ha hb
      obtain ⟨a1, a2⟩ := r_part ha ρ D hx
      obtain ⟨b1, b2⟩ := r_part hb ρ D hy
      rw [List.range'_succ, elemsLoop]
      split at h
      · rename_i hq
        simp only [Sem.run_bind, a2, b2, Result.andThen_ok, he _ _ _ _ hq a1 b1, Bool.not_true, Bool.false_eq_true, if_false]
        exact r_elems ρ D hx hy he h w
      · rename_i hq
        have hr : r = false := by cases r <;> simp_all
        subst hr
        simp only [Sem.run_bind, a2, b2, Result.andThen_ok, he _ _ _ _ h a1 b1, Bool.not_false, if_true, Sem.run_pure]
    · cases h
theorem r_eq : ∀ {d : Nat} {t : TypeId} {x y : V} {b : Bool}, eqV P d t x y = some b → ∀ (ρ : Nat → Loc) (D : Nat → Prop), x.In D ρ → y.In D ρ → ∀ (k : Nat) (w : World), (Op.equalIn (d + k) t (x.val ρ) (y.val ρ)).run P w = .ok b w
  | 0, t, x, y, b, h, ρ, D, hx, hy, k, w => by simp [eqV] at h
  | d + 1, t, x, y, b, h, ρ, D, hx, hy, k, w => by
    rw [show d + 1 + k = (d + k) + 1 from by omega]
    unfold eqV at h
    split at h
    case h_18 fields xs ys hu =>
      split at h
      · cases h
      · rename_i hs
        rw [val_agg_eq, val_agg_eq, equalIn_struct hu (by simpa using hs)]
        exact r_fields (eq := eqV P d) ρ D (V.In.toL (v := xs) hx) (V.In.toL (v := ys) hy) (fun t a b r hr ha hb w => r_eq hr ρ D ha hb k w) h w
    case h_19 len e xs ys hu =>
      split at h
      · cases h
      · rename_i s hs
        rw [val_agg_eq, val_agg_eq, equalIn_array hu hs]
        exact r_elems (eq := eqV P d) (eqM := Op.equalIn (d + k)) ρ D (V.In.toL (v := xs) hx) (V.In.toL (v := ys) hy) (fun t a b r hr ha hb w => r_eq hr ρ D ha hb k w) h w
    case h_20 => cases h
    case h_2 kk k1 a k2 b1 hu =>
      split at h
      · rename_i hk
        simp only [Option.some.injEq] at h
        subst h
        simp [Op.equalIn, run_underlying hu, V.val_int, hk]
      · cases h
    case h_3 a b1 hu =>
      simp only [Option.some.injEq] at h
      subst h
      simp only [Op.equalIn, Sem.run_bind, run_underlying hu, Result.andThen_ok, V.val_str, Sem.run_pure, bytes_beq]
    all_goals
      rename_i hu
      simp only [Option.some.injEq] at h
      subst h
      simp [Op.equalIn, run_underlying hu, V.val_bool, V.val_nilptr, V.val_ptr, V.val_nilslice, V.val_slice, V.val_tail, V.val_nilmap, V.val_map, V.val_nilfn, V.val_fn]
end
end Go.Ev
end
section
/- What looks at no memory: as the model does it (3). -/
namespace Go.Ev

theorem toList_bytes (a : List UInt8) : (⟨a.toArray⟩ : ByteArray).toList = a := by
  rw [ByteArray.toList_eq]
section
variable {P : Program}
theorem r_int {op : BinOp} {k : IntKind} {a b : Int} {v : V} (h : intV op k a b = some v) (hs : op ≠ .shl) (hr : op ≠ .shr) (ρ : Nat → Loc) (D : Nat → Prop) (t : TypeId) : v.In D ρ ∧ ∀ w, (binOp op t (.int k a) (.int k b)).run P w = .ok (v.val ρ) w := by
  cases op <;> simp only [intV] at h <;> first | exact absurd rfl hs | exact absurd rfl hr | skip
  case quo =>
    split at h
    · cases h
    · rename_i hb
      simp only [Option.some.injEq] at h; subst h
      exact ⟨trivial, fun w => by simp [binOp, Op.intDiv, hb, V.val_int]⟩
  case rem =>
    split at h
    · cases h
    · rename_i hb
      simp only [Option.some.injEq] at h; subst h
      exact ⟨trivial, fun w => by simp [binOp, Op.intDiv, hb, V.val_int]⟩
  all_goals
    simp only [Option.some.injEq] at h
    subst h
    exact ⟨trivial, fun w => by simp [binOp, Op.intArith, Op.intBits, Op.intCmp, V.val_int, V.val_bool]⟩
theorem r_str {op : BinOp} {a b : List UInt8} {v : V} (h : strV op a b = some v) (ρ : Nat → Loc) (D : Nat → Prop) (t : TypeId) : v.In D ρ ∧ ∀ w, (binOp op t (.string ⟨a.toArray⟩) (.string ⟨b.toArray⟩)).run P w = .ok (v.val ρ) w := by
  cases op <;> simp only [strV] at h <;> first | cases h | skip
  case add =>
    split at h
    · rename_i hl
      simp only [Option.some.injEq] at h; subst h
      refine ⟨trivial, fun w => ?_⟩
      have hm : IntKind.max .i64 = 9223372036854775807 := by rfl
      simp only [binOp, Op.stringOp, hm]
      rw [if_neg]
      · simp only [Sem.run_pure, V.val_str]
        congr 2
      · simp only [ByteArray.size, List.size_toArray]; omega
    · cases h
  all_goals
    exact ⟨trivial, fun w => by simp [binOp, Op.stringOp, V.val_bool]⟩
def V.isRaw : V → Bool
  | .raw _ _ => true
  | _ => false
theorem eq_raw {d : Nat} {t : TypeId} {x y : V} {b : Bool} (h : eqV P d t x y = some b) : x.isRaw = false ∧ y.isRaw = false := by
  cases d with
  | zero => simp [eqV] at h
  | succ d =>
    unfold eqV at h
    split at h <;> first | exact ⟨rfl, rfl⟩ | cases h
theorem guard_pass {op : BinOp} {t : TypeId} {xo yo : Operand} {x y : V} (ρ : Nat → Loc) (hr : x.isRaw = false ∧ y.isRaw = false) (h : op = .eql ∨ op = .neq → guardOk P t x y = true) (w : World) : (eqGuard op t xo yo (x.val ρ) (y.val ρ)).run P w = .ok () w := by
  by_cases ho : op = .eql ∨ op = .neq
  · have hg := h ho
    unfold eqGuard
    rcases ho with rfl | rfl
    all_goals
      cases x <;> simp only [V.isRaw, Bool.true_eq_false, false_and] at hr <;> cases y <;> simp only [Bool.true_eq_false, and_false] at hr <;> simp [V.val, V.cv, Go.undef]
      all_goals
        simp only [guardOk, Bool.not_eq_true'] at hg
        simp [hg]
  · unfold eqGuard
    cases op <;> simp at ho ⊢
theorem binOp_eql_val {t : TypeId} {x y : V} (ρ : Nat → Loc) (hr : x.isRaw = false ∧ y.isRaw = false) (h1 : ∀ k a k' b, x = .int k a → y = .int k' b → False) (h2 : ∀ a b, x = .str a → y = .str b → False) :
    binOp .eql t (x.val ρ) (y.val ρ) = (do pure (.bool (← Op.equal t (x.val ρ) (y.val ρ)))) := by
  cases x <;> cases y <;> first | rfl | (cases hr.1; done) | (cases hr.2; done) | exact (h1 _ _ _ _ rfl rfl).elim | exact (h2 _ _ rfl rfl).elim
theorem binOp_neq_val {t : TypeId} {x y : V} (ρ : Nat → Loc) (hr : x.isRaw = false ∧ y.isRaw = false) (h1 : ∀ k a k' b, x = .int k a → y = .int k' b → False) (h2 : ∀ a b, x = .str a → y = .str b → False) :
    binOp .neq t (x.val ρ) (y.val ρ) = (do pure (.bool (!(← Op.equal t (x.val ρ) (y.val ρ))))) := by
  cases x <;> cases y <;> first | rfl | (cases hr.1; done) | (cases hr.2; done) | exact (h1 _ _ _ _ rfl rfl).elim | exact (h2 _ _ rfl rfl).elim
theorem r_bin {op : BinOp} {t : TypeId} {x y v : V} (h : binV P op t x y = some v) (ρ : Nat → Loc) (D : Nat → Prop) (hx : x.In D ρ) (hy : y.In D ρ) (xo yo : Operand) :
    v.In D ρ ∧ ∀ w, (do eqGuard op t xo yo (x.val ρ) (y.val ρ); binOp op t (x.val ρ) (y.val ρ) : Sem Value).run P w = .ok (v.val ρ) w := by
  unfold binV at h
  split at h
  · rename_i k a k' b
    split at h
    · cases h
    · rename_i hb
      simp only [Option.some.injEq] at h; subst h
      refine ⟨trivial, fun w => ?_⟩
      simp only [Sem.run_bind, guard_pass (P := P) (t := t) (x := .int k a) (y := .int k' b) ρ ⟨rfl, rfl⟩ (fun _ => rfl), Result.andThen_ok]
      simp [binOp, Op.shift, V.val_int, hb]
  · rename_i k a k' b
    split at h
    · cases h
    · rename_i hb
      simp only [Option.some.injEq] at h; subst h
      refine ⟨trivial, fun w => ?_⟩
      simp only [Sem.run_bind, guard_pass (P := P) (t := t) (x := .int k a) (y := .int k' b) ρ ⟨rfl, rfl⟩ (fun _ => rfl), Result.andThen_ok]
      simp [binOp, Op.shift, V.val_int, hb]
  · rename_i k a k' b h1 h2
    split at h
    · rename_i hk
      subst hk
      obtain ⟨i1, i2⟩ := r_int (P := P) h h1 h2 ρ D t
      refine ⟨i1, fun w => ?_⟩
      simp only [Sem.run_bind, guard_pass (P := P) (t := t) (x := .int k a) (y := .int k b) ρ ⟨rfl, rfl⟩ (fun _ => rfl), Result.andThen_ok]
      exact i2 w
    · cases h
  · rename_i a b
    obtain ⟨i1, i2⟩ := r_str (P := P) h ρ D t
    refine ⟨i1, fun w => ?_⟩
    simp only [Sem.run_bind, guard_pass (P := P) (t := t) (x := .str a) (y := .str b) ρ ⟨rfl, rfl⟩ (fun _ => rfl), Result.andThen_ok]
    exact i2 w
  · rename_i h1 h2
    split at h
    · rename_i hg
      split at h
      · rename_i b hb
        simp only [Option.some.injEq] at h; subst h
        refine ⟨trivial, fun w => ?_⟩
        have he : (Op.equal t (x.val ρ) (y.val ρ)).run P w = .ok b w := r_eq hb ρ D hx hy 9900 w
        simp only [Sem.run_bind, guard_pass (P := P) ρ (eq_raw hb) (fun _ => hg), Result.andThen_ok]
        rw [binOp_eql_val ρ (eq_raw hb) (fun k a k' b e1 e2 => h1 k a k' b e1 e2) (fun a b e1 e2 => h2 a b e1 e2)]
        simp [he, V.val_bool]
      · cases h
    · cases h
  · rename_i h1 h2
    split at h
    · rename_i hg
      split at h
      · rename_i b hb
        simp only [Option.some.injEq] at h; subst h
        refine ⟨trivial, fun w => ?_⟩
        have he : (Op.equal t (x.val ρ) (y.val ρ)).run P w = .ok b w := r_eq hb ρ D hx hy 9900 w
        simp only [Sem.run_bind, guard_pass (P := P) ρ (eq_raw hb) (fun _ => hg), Result.andThen_ok]
        rw [binOp_neq_val ρ (eq_raw hb) (fun k a k' b e1 e2 => h1 k a k' b e1 e2) (fun a b e1 e2 => h2 a b e1 e2)]
        simp [he, V.val_bool]
      · cases h
    · cases h
  · cases h
end
end Go.Ev
end
section
/- What looks at no memory: as the model does it (4). -/
namespace Go.Ev

section
variable {P : Program}
theorem Addr_add (b o n : Nat) : (⟨b, o, none⟩ : Addr).add n = ⟨b, o + n, none⟩ := by
  unfold Addr.add
  split
  · rename_i h; subst h; rfl
  · rfl
theorem natOf_some {v : V} {n : Nat} (h : natOf v = some n) : ∃ k, v = .int k (n : Int) := by
  unfold natOf at h
  split at h
  · rename_i k i
    split at h
    · rename_i hi
      simp only [Option.some.injEq] at h
      subst h
      exact ⟨k, by rw [Int.toNat_of_nonneg hi]⟩
    · cases h
  · cases h
theorem r_bound {y d n : Nat} {v : V} (h : bound y d (some v) = some n) (ρ : Nat → Loc) (code : BoundsCode) (w : World) : (Instr.sliceBound (v.val ρ) y code).run P w = .ok n w ∧ n ≤ y := by
  unfold bound at h
  simp only at h
  split at h
  · rename_i m hm
    split at h
    · rename_i hle
      simp only [Option.some.injEq] at h
      subst h
      obtain ⟨k, rfl⟩ := natOf_some hm
      refine ⟨?_, hle⟩
      simp only [Instr.sliceBound, asIntOf, V.val_int, Sem.run_bind, Sem.run_pure, Result.andThen_ok]
      rw [if_pos ⟨by omega, by omega⟩]
      simp
    · cases h
  · cases h
theorem r_bounds {isSlice : Bool} {len cap m h l : Nat} {lo hi mx : Option V} (h1 : bound cap cap mx = some m) (h2 : bound m len hi = some h) (h3 : bound h 0 lo = some l) (h4 : (mx.isSome && hi.isNone) = false) (ρ : Nat → Loc) (w : World) :
    (Instr.sliceBounds isSlice len cap (lo.map (V.val ρ)) (hi.map (V.val ρ)) (mx.map (V.val ρ))).run P w = .ok (l, h, m) w := by
  unfold Instr.sliceBounds
  cases mx with
  | none =>
    simp only [bound, Option.some.injEq] at h1
    subst h1
    cases hi with
    | none =>
      simp only [bound, Option.some.injEq] at h2
      subst h2
      cases lo with
      | none => simp only [bound, Option.some.injEq] at h3; subst h3; simp
      | some v => simp [(r_bound h3 ρ _ _).1]
    | some u =>
      cases lo with
      | none => simp only [bound, Option.some.injEq] at h3; subst h3; simp [(r_bound h2 ρ _ _).1]
      | some v => simp [(r_bound h2 ρ _ _).1, (r_bound h3 ρ _ _).1]
  | some x =>
    cases hi with
    | none => simp at h4
    | some u =>
      cases lo with
      | none => simp only [bound, Option.some.injEq] at h3; subst h3; simp [(r_bound h1 ρ _ _).1, (r_bound h2 ρ _ _).1]
      | some v => simp [(r_bound h1 ρ _ _).1, (r_bound h2 ρ _ _).1, (r_bound h3 ρ _ _).1]
theorem bound_le {y d n : Nat} {v : Option V} (h : bound y d v = some n) (hd : d ≤ y) : n ≤ y := by
  cases v with
  | none => simp only [bound, Option.some.injEq] at h; omega
  | some v => exact (r_bound (P := { (default : Program) with funcs := #[] }) h (fun _ => ⟨0, 0, 0⟩) .index default).2
/-- The arithmetic of a slice of a slice. -/
theorem r_sliceV {esz n off len c : Nat} {ex : Bool} {lo hi mx : Option V} {v : V} (h : sliceV esz n off len c ex lo hi mx = some v) (ρ : Nat → Loc) (D : Nat → Prop) (hi' : (V.slice n off len c ex).In D ρ) (isSlice : Bool) :
    v.In D ρ ∧ ∃ l h' m, (∀ w, (Instr.sliceBounds isSlice len (if ex then c else (ρ n).cap - c) (lo.map (V.val ρ)) (hi.map (V.val ρ)) (mx.map (V.val ρ))).run P w = .ok (l, h', m) w) ∧
      v.val ρ = .slice (some (if m = l then ⟨(ρ n).blk, (ρ n).base + off, none⟩ else (⟨(ρ n).blk, (ρ n).base + off, none⟩ : Addr).add (l * esz))) (h' - l) (m - l) := by
  unfold sliceV at h
  split at h
  · cases h
  · rename_i h4
    have h4 : (mx.isSome && hi.isNone) = false := Bool.eq_false_iff.2 h4
    split at h
    · rename_i hex
      split at h
      · cases h
      · rename_i m h1
        split at h
        · cases h
        · rename_i hh h2
          split at h
          · cases h
          · rename_i l h3
            simp only [Option.some.injEq] at h
            subst h
            refine ⟨⟨hi'.1, by simp⟩, l, hh, m, fun w => ?_, ?_⟩
            · rw [if_pos hex]; exact r_bounds h1 h2 h3 h4 ρ w
            · rw [V.val_slice, if_pos rfl]
              split
              · rfl
              · rw [Addr_add, Nat.add_assoc]
    · rename_i hex
      have hroom := hi'.2 (by simpa using hex)
      rw [if_neg hex]
      split at h
      · split at h
        · rename_i m u hn _
          split at h
          · rename_i hml
            split at h
            · cases h
            · rename_i hh h2
              split at h
              · cases h
              · rename_i l h3
                simp only [Option.some.injEq] at h
                subst h
                refine ⟨⟨hi'.1, by simp⟩, l, hh, m, fun w => ?_, ?_⟩
                · refine r_bounds ?_ h2 h3 h4 ρ w
                  simp only [bound, hn]
                  rw [if_pos (by omega)]
                · rw [V.val_slice, if_pos rfl]
                  split
                  · rfl
                  · rw [Addr_add, Nat.add_assoc]
          · cases h
        · cases h
      · split at h
        · cases h
        · rename_i hh h2
          split at h
          · cases h
          · rename_i l h3
            split at h
            · rename_i hl
              simp only [Option.some.injEq] at h
              subst h
              have hhl : hh ≤ len := bound_le h2 (Nat.le_refl _)
              have hlh : l ≤ hh := bound_le h3 (Nat.zero_le _)
              refine ⟨⟨hi'.1, fun _ => by omega⟩, l, hh, (ρ n).cap - c, fun w => ?_, ?_⟩
              · refine r_bounds (isSlice := isSlice) (mx := none) rfl ?_ h3 h4 ρ w
                cases hi with
                | none => exact h2
                | some u =>
                  simp only [bound] at h2 ⊢
                  split at h2
                  · split at h2
                    · simp only [Option.some.injEq] at h2; subst h2
                      rw [if_pos (by omega)]
                    · cases h2
                  · cases h2
              · rw [V.val_slice]
                simp only [Bool.false_eq_true, if_false]
                split
                · rename_i he
                  have : l = 0 := by omega
                  subst this
                  simp
                · rw [Addr_add]
                  simp only [Nat.add_assoc, Value.slice.injEq, true_and]
                  omega
            · rename_i hl
              simp only [Option.some.injEq] at h
              subst h
              have hhl : hh ≤ len := bound_le h2 (Nat.le_refl _)
              have hlh : l ≤ hh := bound_le h3 (Nat.zero_le _)
              refine ⟨⟨hi'.1, by omega⟩, l, hh, (ρ n).cap - c, fun w => ?_, ?_⟩
              · refine r_bounds (isSlice := isSlice) (mx := none) rfl ?_ h3 h4 ρ w
                cases hi with
                | none => exact h2
                | some u =>
                  simp only [bound] at h2 ⊢
                  split at h2
                  · split at h2
                    · simp only [Option.some.injEq] at h2; subst h2
                      rw [if_pos (by omega)]
                    · cases h2
                  · cases h2
              · rw [V.val_tail]
                have e1 : hh - l = 0 := by omega
                rw [e1, show (ρ n).cap - (c + l) = (ρ n).cap - c - l from by omega]
                by_cases he : (ρ n).cap - c = l
                · rw [if_pos (by omega), if_pos he]
                · rw [if_neg (by omega), if_neg he, Addr_add, Nat.add_assoc]
theorem r_slice {t : TypeId} {x v : V} {lo hi mx : Option V} (h : sliceOpV P t x lo hi mx = some v) (ρ : Nat → Loc) (D : Nat → Prop) (hx : x.In D ρ) :
    v.In D ρ ∧ ∀ w, (Instr.sliceAt t (x.val ρ) (lo.map (V.val ρ)) (hi.map (V.val ρ)) (mx.map (V.val ρ))).run P w = .ok (v.val ρ) w := by
  unfold sliceOpV at h
  split at h
  · rename_i s hu
    split at h
    · cases h
    · split at h
      · cases h
      · rename_i hh h2
        split at h
        · cases h
        · rename_i l h3
          simp only [Option.some.injEq] at h
          subst h
          refine ⟨trivial, fun w => ?_⟩
          have hb := r_bounds (P := P) (isSlice := false) (len := s.length) (mx := none) rfl h2 h3 rfl ρ w
          simp only [Option.map_none] at hb
          have hz : (⟨s.toArray⟩ : ByteArray).size = s.length := by simp [ByteArray.size]
          simp only [Instr.sliceAt, Sem.run_bind, run_underlying hu, Result.andThen_ok, Instr.slice, V.val_str, Option.map_none, Option.isSome_none, Bool.false_eq_true, if_false, hz, hb]
          simp only [Sem.run_pure]
          congr 2
          apply ByteArray.ext
          simp
  · rename_i e hu
    split at h
    · cases h
    · rename_i h4
      split at h
      · cases h
      · rename_i m h1
        split at h
        · cases h
        · rename_i hh h2
          split at h
          · cases h
          · rename_i l h3
            simp only [Option.some.injEq] at h
            subst h
            have m0 : m = 0 := by have := bound_le h1 (Nat.le_refl _); omega
            have hh0 : hh = 0 := by have := bound_le h2 (Nat.le_refl _); omega
            have l0 : l = 0 := by have := bound_le h3 (Nat.zero_le _); omega
            subst m0 hh0 l0
            refine ⟨trivial, fun w => ?_⟩
            rw [Bool.or_eq_true, not_or] at h4
            obtain ⟨s, hs⟩ : ∃ s, sizeV P e = some s := by
              cases hs : sizeV P e with
              | none => rw [hs] at h4; exact absurd rfl h4.2
              | some s => exact ⟨s, rfl⟩
            have hb := r_bounds (P := P) (isSlice := true) h1 h2 h3 (Bool.eq_false_iff.2 h4.1) ρ w
            simp only [Instr.sliceAt, Sem.run_bind, run_underlying hu, Result.andThen_ok, Instr.slice, V.val_nilslice, hb, r_size hs, Sem.run_pure]
            rfl
  · rename_i e n off len c ex hu
    split at h
    · rename_i s hs
      obtain ⟨a, l, hh, m, hb, hv⟩ := r_sliceV (P := P) h ρ D hx true
      refine ⟨a, fun w => ?_⟩
      simp only [Instr.sliceAt, Sem.run_bind, run_underlying hu, Result.andThen_ok, Instr.slice, V.val_slice, hb, r_size hs, Sem.run_pure, hv]
      split <;> simp_all
    · cases h
  · rename_i k e n off hu
    split at h
    · rename_i s hs
      obtain ⟨a, l, hh, m, hb, hv⟩ := r_sliceV (P := P) h ρ D ⟨hx, by simp⟩ false
      refine ⟨a, fun w => ?_⟩
      simp only [if_true] at hb
      simp only [Instr.sliceAt, Sem.run_bind, run_underlying hu, Result.andThen_ok, Instr.sureAddr, V.val_ptr, hb, r_size hs, Sem.run_pure, hv]
    · cases h
  · cases h
end
end Go.Ev
end
section
/- What looks at no memory: as the model does it (5). -/
namespace Go.Ev

section
variable {P : Program} {gl : Nat → Option Nat}
theorem r_fieldAddr {t : TypeId} {x v : V} {f : Nat} (h : fieldAddrV P t x f = some v) (ρ : Nat → Loc) (D : Nat → Prop) (hx : x.In D ρ) : v.In D ρ ∧ ∀ w, (Instr.fieldAt t (x.val ρ) f).run P w = .ok (v.val ρ) w := by
  unfold fieldAddrV at h
  split at h
  · rename_i fields n off hu
    split at h
    · rename_i fd hf
      split at h
      · rename_i s hs
        simp only [Option.some.injEq] at h
        subst h
        refine ⟨hx, fun w => ?_⟩
        simp [Instr.fieldAt, run_underlying hu, hf, Instr.sureAddr, V.val_ptr, fieldPlace, r_size hs, Addr_add, Nat.add_assoc]
      · cases h
    · cases h
  · cases h
theorem r_field {t : TypeId} {x v : V} {f : Nat} (h : fieldV P t x f = some v) (ρ : Nat → Loc) (D : Nat → Prop) (hx : x.In D ρ) : v.In D ρ ∧ ∀ w, (Instr.field t (x.val ρ) f).run P w = .ok (v.val ρ) w := by
  unfold fieldV at h
  split at h
  · rename_i fields l hu
    split at h
    · rename_i fd hf
      obtain ⟨a, b⟩ := r_part h ρ D (V.In.toL (v := l) hx)
      refine ⟨a, fun w => ?_⟩
      simp only [Instr.field, Sem.run_bind, run_underlying hu, Result.andThen_ok, hf, val_agg_eq, asAgg, Sem.run_pure, b]
    · cases h
  · cases h
theorem r_indexAddr {t : TypeId} {x i v : V} (h : indexAddrV P t x i = some v) (ρ : Nat → Loc) (D : Nat → Prop) (hx : x.In D ρ) : v.In D ρ ∧ ∀ w, (Instr.indexAt t (x.val ρ) (i.val ρ)).run P w = .ok (v.val ρ) w := by
  unfold indexAddrV at h
  split at h
  · cases h
  · rename_i k hk
    obtain ⟨kk, rfl⟩ := natOf_some hk
    split at h
    · rename_i e n off len c ex hu
      split at h
      · rename_i s hs
        split at h
        · rename_i hlt
          simp only [Option.some.injEq] at h
          subst h
          refine ⟨hx.1, fun w => ?_⟩
          simp only [Instr.indexAt, asIntOf, V.val_int, V.val_slice, V.val_ptr, Sem.run_bind, Sem.run_pure, run_underlying hu, Result.andThen_ok]
          rw [if_pos ⟨by omega, by omega⟩]
          simp [r_size hs, Addr_add, Nat.add_assoc]
        · cases h
      · cases h
    · rename_i len e n off hu
      split at h
      · rename_i s hs
        split at h
        · rename_i hlt
          simp only [Option.some.injEq] at h
          subst h
          refine ⟨hx, fun w => ?_⟩
          simp only [Instr.indexAt, asIntOf, V.val_int, V.val_ptr, Sem.run_bind, Sem.run_pure, run_underlying hu, Result.andThen_ok, Instr.sureAddr]
          rw [if_pos ⟨by omega, by omega⟩]
          simp [r_size hs, Addr_add, Nat.add_assoc]
        · cases h
      · cases h
    · cases h
theorem r_index {t : TypeId} {x i v : V} (h : indexV P t x i = some v) (ρ : Nat → Loc) (D : Nat → Prop) (hx : x.In D ρ) : v.In D ρ ∧ ∀ w, (Instr.index t (x.val ρ) (i.val ρ)).run P w = .ok (v.val ρ) w := by
  unfold indexV at h
  split at h
  · cases h
  · rename_i k hk
    obtain ⟨kk, rfl⟩ := natOf_some hk
    split at h
    · rename_i len e l hu
      split at h
      · rename_i s hs
        split at h
        · rename_i hlt
          obtain ⟨a, b⟩ := r_part h ρ D (V.In.toL (v := l) hx)
          refine ⟨a, fun w => ?_⟩
          simp only [Instr.index, asIntOf, V.val_int, val_agg_eq, Sem.run_bind, Sem.run_pure, run_underlying hu, Result.andThen_ok]
          rw [if_pos ⟨by omega, by omega⟩]
          simp [r_size hs, b]
        · cases h
      · cases h
    · rename_i s hu
      split at h
      · rename_i b hb
        simp only [Option.some.injEq] at h
        subst h
        refine ⟨trivial, fun w => ?_⟩
        simp only [Instr.index, asIntOf, V.val_int, V.val_str, Sem.run_bind, Sem.run_pure, run_underlying hu, Result.andThen_ok]
        rw [if_pos (by omega)]
        have : (⟨s.toArray⟩ : ByteArray)[(k : Int).toNat]? = some b := by
          have hl : k < s.length := (List.getElem?_eq_some_iff.1 hb).1
          rw [Int.toNat_natCast, getElem?_pos _ _ (by simpa [ByteArray.size] using hl)]
          have := (List.getElem?_eq_some_iff.1 hb).2
          show some (s.toArray[k]'(by simpa using hl)) = some b
          simpa using this
        simp only [this, Sem.run_pure]
      · cases h
    · cases h
theorem r_convert {s d : TypeId} {x v : V} (h : convertV P s d x = some v) (ρ : Nat → Loc) (D : Nat → Prop) : v.In D ρ ∧ ∀ w, (convert s d (x.val ρ)).run P w = .ok (v.val ρ) w := by
  unfold convertV at h
  split at h
  · rename_i ds k k' n hs hd
    simp only [Option.some.injEq] at h
    subst h
    refine ⟨trivial, fun w => ?_⟩
    simp [convert, run_underlying hs, run_underlying hd, V.val_int, Conv.intToInt]
  · rename_i ds a hs hd
    simp only [Option.some.injEq] at h
    subst h
    refine ⟨trivial, fun w => ?_⟩
    simp [convert, run_underlying hs, run_underlying hd, V.val_str]
  · cases h
theorem r_un {op : UnOp} {x v : V} (h : unV op x = some v) (ρ : Nat → Loc) (D : Nat → Prop) : v.In D ρ ∧ ∀ w, (Op.unary op (x.val ρ)).run P w = .ok (v.val ρ) w := by
  unfold unV at h
  split at h
  · simp only [Option.some.injEq] at h; subst h
    exact ⟨trivial, fun w => by simp [Op.unary, Op.intArith, V.val_int]⟩
  · simp only [Option.some.injEq] at h; subst h
    exact ⟨trivial, fun w => by simp [Op.unary, Op.intBits, V.val_int]⟩
  · simp only [Option.some.injEq] at h; subst h
    exact ⟨trivial, fun w => by simp [Op.unary, V.val_bool]⟩
  · cases h
theorem r_min : ∀ {l : List V} {x v : V}, minV x l = some v → ∀ (ρ : Nat → Loc) (D : Nat → Prop), x.In D ρ → v.In D ρ ∧ ∀ w, ((l.map (V.val ρ)).foldlM Builtin.min2 (x.val ρ)).run P w = .ok (v.val ρ) w
  | [], x, v, h, ρ, D, hx => by
    unfold minV at h
    simp only [Option.some.injEq] at h; subst h
    exact ⟨hx, fun w => rfl⟩
  | y :: l, x, v, h, ρ, D, hx => by
    unfold minV at h
    split at h
    · rename_i e; cases e
    · rename_i k a k' b l' e
      simp only [List.cons.injEq] at e
      obtain ⟨rfl, rfl⟩ := e
      obtain ⟨p, q⟩ := r_min h ρ D trivial
      refine ⟨p, fun w => ?_⟩
      simp only [List.map_cons, List.foldlM_cons, Sem.run_bind, V.val_int, Builtin.min2, Sem.run_pure, Result.andThen_ok]
      exact q w
    · cases h
theorem r_max : ∀ {l : List V} {x v : V}, maxV x l = some v → ∀ (ρ : Nat → Loc) (D : Nat → Prop), x.In D ρ → v.In D ρ ∧ ∀ w, ((l.map (V.val ρ)).foldlM Builtin.max2 (x.val ρ)).run P w = .ok (v.val ρ) w
  | [], x, v, h, ρ, D, hx => by
    unfold maxV at h
    simp only [Option.some.injEq] at h; subst h
    exact ⟨hx, fun w => rfl⟩
  | y :: l, x, v, h, ρ, D, hx => by
    unfold maxV at h
    split at h
    · rename_i e; cases e
    · rename_i k a k' b l' e
      simp only [List.cons.injEq] at e
      obtain ⟨rfl, rfl⟩ := e
      obtain ⟨p, q⟩ := r_max h ρ D trivial
      refine ⟨p, fun w => ?_⟩
      simp only [List.map_cons, List.foldlM_cons, Sem.run_bind, V.val_int, Builtin.max2, Sem.run_pure, Result.andThen_ok]
      exact q w
    · cases h
theorem r_len {t : TypeId} {x v : V} (h : lenV P t x = some v) (ρ : Nat → Loc) (D : Nat → Prop) (ty : TypeId) : v.In D ρ ∧ ∀ w, (Builtin.len_ #[t] ty #[x.val ρ]).run P w = .ok (v.val ρ) w := by
  unfold lenV at h
  split at h
  case h_6 => cases h
  all_goals
    rename_i hu
    simp only [Option.some.injEq] at h
    subst h
    refine ⟨trivial, fun w => ?_⟩
    simp only [Builtin.len_, List.getElem?_toArray, List.getElem?_cons_zero, Sem.run_bind, run_underlying hu, Result.andThen_ok, V.val_str, V.val_nilslice, V.val_slice, V.val_tail, V.val_nilmap, V.val_int, goInt, Sem.run_pure]
    try rfl

/-- What an evaluation of operands has to give. -/
def Opnds (gl : Nat → Option Nat) (tm : List V) (ρ : Nat → Loc) (D : Nat → Prop) (ev : Operand → Value) (xs : Array Operand) : Prop :=
  ∀ x ∈ xs, ∀ u, opnd gl tm x = some u → ev x = u.val ρ ∧ u.In D ρ
theorem r_opnds {tm : List V} {ρ : Nat → Loc} {D : Nat → Prop} {ev : Operand → Value} : ∀ {l : List Operand} {m : List V}, opnds gl tm l = some m → (∀ x ∈ l, ∀ u, opnd gl tm x = some u → ev x = u.val ρ ∧ u.In D ρ) → l.map ev = m.map (V.val ρ) ∧ ∀ u ∈ m, u.In D ρ
  | [], m, h, _ => by simp only [opnds, Option.some.injEq] at h; subst h; exact ⟨rfl, by simp⟩
  | x :: l, m, h, he => by
    simp only [opnds] at h
    split at h
    · rename_i v hv
      split at h
      · rename_i m' hm
        simp only [Option.some.injEq] at h
        subst h
        obtain ⟨a, b⟩ := he x (by simp) v hv
        obtain ⟨a', b'⟩ := r_opnds hm (fun y hy => he y (by simp [hy]))
        exact ⟨by simp [a, a'], by simpa using ⟨b, b'⟩⟩
      · cases h
    · cases h
theorem r_parts {tm : List V} {ρ : Nat → Loc} {D : Nat → Prop} {ev : Operand → Value} : ∀ {l : List (Nat × Operand)} {m : List (Nat × V)}, parts gl tm l = some m → (∀ x ∈ l, ∀ u, opnd gl tm x.2 = some u → ev x.2 = u.val ρ ∧ u.In D ρ) →
    (l.map fun (p : Nat × Operand) => (p.1, ev p.2)) = (m.map fun p => (p.1, p.2.val ρ)) ∧ ∀ p ∈ m, p.2.In D ρ
  | [], m, h, _ => by simp only [parts, Option.some.injEq] at h; subst h; exact ⟨rfl, by simp⟩
  | (i, x) :: l, m, h, he => by
    simp only [parts] at h
    split at h
    · rename_i v hv
      split at h
      · rename_i m' hm
        simp only [Option.some.injEq] at h
        subst h
        obtain ⟨a, b⟩ := he (i, x) (by simp) v hv
        obtain ⟨a', b'⟩ := r_parts hm (fun y hy => he y (by simp [hy]))
        refine ⟨by simp [a, a'], fun p hp => ?_⟩
        rcases List.mem_cons.1 hp with rfl | hp
        · exact b
        · exact b' p hp
      · cases h
    · cases h
theorem r_optOpnd {tm : List V} {ρ : Nat → Loc} {D : Nat → Prop} {ev : Operand → Value} {x : Option Operand} {m : Option V} (h : optOpnd gl tm x = some m) (he : ∀ y, x = some y → ∀ u, opnd gl tm y = some u → ev y = u.val ρ ∧ u.In D ρ) : x.map ev = m.map (V.val ρ) := by
  unfold optOpnd at h
  split at h
  · simp only [Option.some.injEq] at h; subst h; rfl
  · rename_i y
    split at h
    · rename_i v hv
      simp only [Option.some.injEq] at h
      subst h
      simp [(he y rfl v hv).1]
    · cases h
end
end Go.Ev
end
section
/- What looks at no memory: as the model does it (6). -/
namespace Go.Ev

section
variable {P : Program} {gl : Nat → Option Nat}
theorem mem_toArray_map {ps : Array (Nat × Operand)} {p : Nat × Operand} (h : p ∈ ps.toList) : p.2 ∈ ((ps.toList.map (·.2)).toArray : Array Operand) := by
  simp only [List.mem_toArray]
  exact List.mem_map.2 ⟨p, h, rfl⟩
theorem pure_sound {tm : List V} {o : Oper} {v : V} (h : pureV P gl tm o.op = some v) {ρ : Nat → Loc} {D : Nat → Prop} {ev : Operand → Value} (he : Opnds gl tm ρ D ev o.op.operands) :
    v.In D ρ ∧ ∀ w, (execOp ev o).run P w = .ok (.value (v.val ρ)) w := by
  obtain ⟨dst, op, type, pos, after, guard⟩ := o
  simp only at h he
  unfold Opnds at he
  unfold pureV at h
  split at h
  · rename_i x
    obtain ⟨a, b⟩ := he x (by simp [Op.operands]) v h
    exact ⟨b, fun w => by simp [execOp, a]⟩
  · rename_i x
    obtain ⟨a, b⟩ := he x (by simp [Op.operands]) v h
    exact ⟨b, fun w => by simp [execOp, a]⟩
  · rename_i c a b
    split at h
    · rename_i t x y hc hx hy
      simp only [Option.some.injEq] at h
      subst h
      obtain ⟨c1, _⟩ := he c (by simp [Op.operands]) _ hc
      obtain ⟨a1, a2⟩ := he a (by simp [Op.operands]) _ hx
      obtain ⟨b1, b2⟩ := he b (by simp [Op.operands]) _ hy
      refine ⟨by split <;> assumption, fun w => ?_⟩
      simp only [execOp, c1, a1, b1, V.val_bool, asBool, Sem.run_bind, Sem.run_pure, Result.andThen_ok]
      cases t <;> rfl
    · cases h
  · rename_i t ps
    split at h
    · rename_i l hl
      obtain ⟨a, b⟩ := r_parts hl (fun x hx u hu => he x.2 (by simp only [Op.operands]; exact mem_toArray_map hx) u hu)
      obtain ⟨c, d⟩ := r_build h ρ D b
      refine ⟨c, fun w => ?_⟩
      simp only [execOp, Sem.run_bind]
      rw [d w _ (by rw [← a]; simp)]
      rfl
    · cases h
  · rename_i x
    split at h
    · rename_i n off hx
      simp only [Option.some.injEq] at h
      subst h
      obtain ⟨a, b⟩ := he x (by simp [Op.operands]) _ hx
      exact ⟨b, fun w => by simp [execOp, a, V.val_ptr]⟩
    · rename_i f a c hx
      simp only [Option.some.injEq] at h
      subst h
      obtain ⟨a, b⟩ := he x (by simp [Op.operands]) _ hx
      exact ⟨b, fun w => by simp [execOp, a, V.val_fn]⟩
    · rename_i n hx
      simp only [Option.some.injEq] at h
      subst h
      obtain ⟨a, b⟩ := he x (by simp [Op.operands]) _ hx
      exact ⟨b, fun w => by simp [execOp, a, V.val_yield]⟩
    · cases h
  · rename_i op t x y yt
    split at h
    · rename_i a b hx hy
      obtain ⟨a1, a2⟩ := he x (by simp [Op.operands]) _ hx
      obtain ⟨b1, b2⟩ := he y (by simp [Op.operands]) _ hy
      obtain ⟨c, d⟩ := r_bin h ρ D a2 b2 x y
      refine ⟨c, fun w => ?_⟩
      have := d w
      simp only [Sem.run_bind] at this
      simp only [execOp, a1, b1, Sem.run_bind, this, Result.andThen_ok, Sem.run_pure]
    · cases h
  · rename_i op t x
    split at h
    · rename_i a hx
      obtain ⟨a1, a2⟩ := he x (by simp [Op.operands]) _ hx
      obtain ⟨c, d⟩ := r_un (P := P) h ρ D
      exact ⟨c, fun w => by simp [execOp, a1, d]⟩
    · cases h
  · rename_i s d x
    split at h
    · rename_i a hx
      obtain ⟨a1, a2⟩ := he x (by simp [Op.operands]) _ hx
      obtain ⟨c, d⟩ := r_convert h ρ D
      exact ⟨c, fun w => by simp [execOp, a1, d]⟩
    · cases h
  · rename_i f a c
    split at h
    · rename_i l m hl hm
      simp only [Option.some.injEq] at h
      subst h
      obtain ⟨a1, a2⟩ := r_opnds hl (fun x hx u hu => he x (by simp [Op.operands]; exact .inl (Array.mem_toList_iff.1 hx)) u hu)
      obtain ⟨b1, b2⟩ := r_opnds hm (fun x hx u hu => he x (by simp [Op.operands]; exact .inr (Array.mem_toList_iff.1 hx)) u hu)
      refine ⟨⟨V.In.ofL a2, V.In.ofL b2⟩, fun w => ?_⟩
      simp only [execOp, Instr.makeFunc, Sem.run_bind, Sem.run_pure, Result.andThen_ok, V.val_fn, V.vals_ofL, ← a1, ← b1]
      congr 3 <;> (apply Array.ext'; simp)
    · cases h
  · rename_i t x lo hi mx
    split at h
    · rename_i a l hh m hx hl hhi hm
      obtain ⟨a1, a2⟩ := he x (by simp [Op.operands]) _ hx
      have e1 := r_optOpnd (ρ := ρ) (D := D) (ev := ev) hl (fun y hy u hu => he y (by subst hy; simp [Op.operands]) u hu)
      have e2 := r_optOpnd (ρ := ρ) (D := D) (ev := ev) hhi (fun y hy u hu => he y (by subst hy; simp [Op.operands]) u hu)
      have e3 := r_optOpnd (ρ := ρ) (D := D) (ev := ev) hm (fun y hy u hu => he y (by subst hy; simp [Op.operands]) u hu)
      obtain ⟨c, d⟩ := r_slice h ρ D a2
      exact ⟨c, fun w => by simp only [execOp, a1, e1, e2, e3, Sem.run_bind, d, Result.andThen_ok, Sem.run_pure]⟩
    · cases h
  · rename_i t x f
    split at h
    · rename_i a hx
      obtain ⟨a1, a2⟩ := he x (by simp [Op.operands]) _ hx
      obtain ⟨c, d⟩ := r_fieldAddr h ρ D a2
      exact ⟨c, fun w => by simp [execOp, a1, d]⟩
    · cases h
  · rename_i t x f
    split at h
    · rename_i a hx
      obtain ⟨a1, a2⟩ := he x (by simp [Op.operands]) _ hx
      obtain ⟨c, d⟩ := r_field h ρ D a2
      exact ⟨c, fun w => by simp [execOp, a1, d]⟩
    · cases h
  · rename_i t x i
    split at h
    · rename_i a b hx hi
      obtain ⟨a1, a2⟩ := he x (by simp [Op.operands]) _ hx
      obtain ⟨b1, b2⟩ := he i (by simp [Op.operands]) _ hi
      obtain ⟨c, d⟩ := r_indexAddr h ρ D a2
      exact ⟨c, fun w => by simp [execOp, a1, b1, d]⟩
    · cases h
  · rename_i t x i
    split at h
    · rename_i a b hx hi
      obtain ⟨a1, a2⟩ := he x (by simp [Op.operands]) _ hx
      obtain ⟨b1, b2⟩ := he i (by simp [Op.operands]) _ hi
      obtain ⟨c, d⟩ := r_index h ρ D a2
      exact ⟨c, fun w => by simp [execOp, a1, b1, d]⟩
    · cases h
  · rename_i x i
    split at h
    · rename_i l hx
      obtain ⟨a1, a2⟩ := he x (by simp [Op.operands]) _ hx
      refine ⟨V.In.toL (v := l) a2 v (List.mem_of_getElem? h), fun w => ?_⟩
      simp [execOp, a1, V.val_tup, V.vals_eq, Instr.extract, h]
    · cases h
  · rename_i x t
    split at h
    · rename_i a hx
      obtain ⟨a1, a2⟩ := he x (by simp [Op.operands, Call.operands]) _ hx
      obtain ⟨c, d⟩ := r_len h ρ D type
      refine ⟨c, fun w => ?_⟩
      have := d w
      simp only [execOp, resolve, invoke, builtin, Sem.run_bind, Sem.run_pure, Result.andThen_ok, List.map_toArray, List.map_cons, List.map_nil, a1, this]
    · cases h
  · rename_i x l ts
    split at h
    · rename_i a m hx hl
      obtain ⟨a1, a2⟩ := he x (by simp [Op.operands, Call.operands]) _ hx
      obtain ⟨b1, b2⟩ := r_opnds hl (fun y hy u hu => he y (by simp [Op.operands, Call.operands]; exact .inr hy) u hu)
      obtain ⟨c, d⟩ := r_min (P := P) h ρ D a2
      refine ⟨c, fun w => ?_⟩
      have := d w
      simp only [execOp, resolve, invoke, builtin, Builtin.min_, Sem.run_bind, Sem.run_pure, Result.andThen_ok, List.map_toArray, List.map_cons, a1, b1, this]
    · cases h
  · rename_i x l ts
    split at h
    · rename_i a m hx hl
      obtain ⟨a1, a2⟩ := he x (by simp [Op.operands, Call.operands]) _ hx
      obtain ⟨b1, b2⟩ := r_opnds hl (fun y hy u hu => he y (by simp [Op.operands, Call.operands]; exact .inr hy) u hu)
      obtain ⟨c, d⟩ := r_max (P := P) h ρ D a2
      refine ⟨c, fun w => ?_⟩
      have := d w
      simp only [execOp, resolve, invoke, builtin, Builtin.max_, Sem.run_bind, Sem.run_pure, Result.andThen_ok, List.map_toArray, List.map_cons, a1, b1, this]
    · cases h
  · cases h
end
end Go.Ev
end
section
/- What reads memory: as the model does it. -/
namespace Go.Ev

section
variable {P : Program} {gl : Nat → Option Nat} {w0 w : World} {D : Nat → Prop} {ρ : Nat → Loc} {H : Hp}
theorem cell_sound (hR : Rel gl w0 D ρ H w) {n off : Nat} {v : V} (hn : D n) (h : H.cell n off = some v) : w.cell? ⟨(ρ n).blk, (ρ n).base + off, none⟩ = some (v.val ρ) ∧ v.In D ρ ∧ v.one = true := by
  unfold Hp.cell at h
  split at h
  · rename_i size ov base g ro hg
    obtain ⟨c, e, fz, hh, hc, _⟩ := hR.ob n _ hn hg
    obtain ⟨a, b, o⟩ := hc off v h
    exact ⟨by simp [World.cell?, hh, a], b, o⟩
  · cases h
theorem cellsAt_sound (hR : Rel gl w0 D ρ H w) {n : Nat} (hn : D n) : ∀ {k off : Nat} {l : List V}, H.cellsAt n off k = some l →
    l.length = k ∧ (∀ u ∈ l, u.In D ρ ∧ u.one = true) ∧ ∀ j u, (l.map (V.val ρ))[j]? = some u → w.cell? ⟨(ρ n).blk, (ρ n).base + off + j, none⟩ = some u
  | 0, off, l, h => by
    simp only [Hp.cellsAt, Option.some.injEq] at h; subst h
    exact ⟨rfl, by simp, by simp⟩
  | k + 1, off, l, h => by
    simp only [Hp.cellsAt] at h
    split at h
    · rename_i v hv
      split at h
      · rename_i l' hl
        simp only [Option.some.injEq] at h
        subst h
        obtain ⟨a, b, c⟩ := cellsAt_sound hR hn hl
        obtain ⟨p, q, r⟩ := cell_sound hR hn hv
        refine ⟨by simp [a], fun u hu => ?_, fun j u hu => ?_⟩
        · rcases List.mem_cons.1 hu with rfl | hu
          · exact ⟨q, r⟩
          · exact b u hu
        · cases j with
          | zero => simp only [List.map_cons, List.getElem?_cons_zero, Option.some.injEq] at hu; subst hu; exact p
          | succ j =>
            simp only [List.map_cons, List.getElem?_cons_succ] at hu
            have := c j u hu
            rw [show (ρ n).base + off + (j + 1) = (ρ n).base + (off + 1) + j from by omega]
            exact this
      · cases h
    · cases h
theorem load_cells (hR : Rel gl w0 D ρ H w) {n : Nat} (hn : D n) {k off : Nat} {l : List V} (h : H.cellsAt n off k = some l) :
    (loadCells ⟨(ρ n).blk, (ρ n).base + off, none⟩ k).run P w = .ok (l.map (V.val ρ)).toArray w := by
  obtain ⟨a, _, c⟩ := cellsAt_sound hR hn h
  have := run_loadCells_list (P := P) (w := w) ⟨(ρ n).blk, (ρ n).base + off, none⟩ (l.map (V.val ρ)) (fun j u hu => by rw [Addr_add]; exact c j u hu)
  rwa [List.length_map, a] at this
theorem loadVar_sound (hR : Rel gl w0 D ρ H w) {t : TypeId} {n off : Nat} {v : V} (hn : D n) (h : loadV P H t n off = some v) :
    v.In D ρ ∧ (loadVar t ⟨(ρ n).blk, (ρ n).base + off, none⟩).run P w = .ok (v.val ρ) w := by
  unfold loadV at h
  split at h
  · rename_i hb
    split at h
    · rename_i s hs
      split at h
      · rename_i l hl
        simp only [Option.some.injEq] at h
        subst h
        obtain ⟨_, b, _⟩ := cellsAt_sound hR hn hl
        refine ⟨V.In.ofL fun u hu => (b u hu).1, ?_⟩
        simp only [loadVar, Sem.run_bind, r_isAgg hb, Result.andThen_ok, if_true, r_size hs, load_cells hR hn hl, Sem.run_pure, V.val_agg, V.vals_ofL]
      · cases h
    · cases h
  · rename_i hb
    obtain ⟨a, b, _⟩ := cell_sound hR hn h
    refine ⟨b, ?_⟩
    simp [loadVar, r_isAgg hb, a]
  · cases h

/-! ### Maps -/
theorem keyKind_check {kt : TypeId} {k : V} (h : keyKind P kt k = true) (ρ : Nat → Loc) (e : Bool) (n : Nat) (w : World) : (Instr.checkKey e (n + 1) kt (k.val ρ)).run P w = .ok () w := by
  unfold keyKind at h
  split at h
  · rename_i k i
    split at h
    · rename_i k' hu; simp [Instr.checkKey, run_underlying hu, V.val_int]
    · cases h
  · split at h
    · rename_i hu; simp [Instr.checkKey, run_underlying hu, V.val_str]
    · cases h
  · split at h
    · rename_i hu; simp [Instr.checkKey, run_underlying hu, V.val_bool]
    · cases h
  · cases h
def kindOf : V → Option TypeDesc
  | .int k _ => some (.int k)
  | .str _ => some .string
  | .bool _ => some .bool
  | _ => none
theorem keyKind_under {kt : TypeId} {k : V} (h : keyKind P kt k = true) : ∃ d, P.underlying kt = some d ∧ ∀ (ρ : Nat → Loc) (a : V) (b : Bool), sameKey k a = some b → Instr.sameNow d (k.val ρ) (a.val ρ) = some b := by
  unfold keyKind at h
  split at h
  · rename_i k i
    split at h
    · rename_i k' hu
      refine ⟨_, hu, fun ρ a b hs => ?_⟩
      cases a <;> simp only [sameKey, reduceCtorEq] at hs
      simpa [Instr.sameNow, V.val_int] using hs
    · cases h
  · split at h
    · rename_i s hu
      refine ⟨_, hu, fun ρ a b hs => ?_⟩
      cases a <;> simp only [sameKey, reduceCtorEq] at hs
      simp only [Instr.sameNow, V.val_str, bytes_beq]
      exact hs
    · cases h
  · split at h
    · rename_i s hu
      refine ⟨_, hu, fun ρ a b hs => ?_⟩
      cases a <;> simp only [sameKey, reduceCtorEq] at hs
      simpa [Instr.sameNow, V.val_bool] using hs
    · cases h
  · cases h
theorem find_now {k : V} {d : TypeDesc} (ρ : Nat → Loc) (hd : ∀ (a : V) (b : Bool), sameKey k a = some b → Instr.sameNow d (k.val ρ) (a.val ρ) = some b) : ∀ {es : List (V × V)} {ents : List MapEntry} {i : Nat} {r : Option (Nat × V)},
    findV k es i = some r → ents.map (fun e => (e.key, e.val)) = es.map (fun p => (p.1.val ρ, p.2.val ρ)) → Instr.findNow d (k.val ρ) ents i = some (r.map fun p => (p.1, p.2.val ρ))
  | [], ents, i, r, h, he => by
    simp only [List.map_nil, List.map_eq_nil_iff] at he
    subst he
    simp only [findV, Option.some.injEq] at h
    subst h
    rfl
  | (a, v) :: es, ents, i, r, h, he => by
    match ents, he with
    | e :: ents, he =>
      simp only [List.map_cons, List.cons.injEq, Prod.mk.injEq] at he
      obtain ⟨⟨h1, h2⟩, he⟩ := he
      simp only [findV] at h
      split at h
      · rename_i hs
        simp only [Option.some.injEq] at h
        subst h
        simp only [Instr.findNow, h1, hd a true hs, h2, Option.map_some]
      · rename_i hs
        simp only [Instr.findNow, h1, hd a false hs]
        exact find_now ρ hd h he
      · cases h
theorem findV_mem {k : V} : ∀ {es : List (V × V)} {i j : Nat} {v : V}, findV k es i = some (some (j, v)) → i ≤ j ∧ ∃ a, es[j - i]? = some (a, v) ∧ sameKey k a = some true
  | [], i, j, v, h => by simp [findV] at h
  | (a, u) :: es, i, j, v, h => by
    simp only [findV] at h
    split at h
    · rename_i hs
      simp only [Option.some.injEq, Prod.mk.injEq] at h
      obtain ⟨rfl, rfl⟩ := h
      exact ⟨Nat.le_refl _, a, by simp, hs⟩
    · obtain ⟨a1, a2, a3, a4⟩ := findV_mem h
      refine ⟨by omega, a2, ?_, a4⟩
      rw [show j - i = (j - (i + 1)) + 1 from by omega]
      simpa using a3
    · cases h
theorem look_sound {t : TypeId} {es : List (V × V)} {k : V} {ok : Bool} {v : V} (h : lookV P t es k ok = some v) (hes : ∀ p ∈ es, p.1.In D ρ ∧ p.2.In D ρ) :
    v.In D ρ ∧ ∃ key elem, P.underlying t = some (.map key elem) ∧ (∀ e n w, (Instr.checkKey e (n + 1) key (k.val ρ)).run P w = .ok () w) ∧ ∀ ents : List MapEntry, ents.map (fun e => (e.key, e.val)) = es.map (fun p => (p.1.val ρ, p.2.val ρ)) → ∀ w,
      ∃ r, (Instr.findKey key (k.val ρ) ents).run P w = .ok r w ∧ ((do
        let (v, ok') ← match r with
          | some (_, v) => pure (v, true)
          | none => do pure (← zeroValue elem, false)
        pure (if ok then .tuple #[v, .bool ok'] else v) : Sem Value)).run P w = .ok (v.val ρ) w := by
  unfold lookV at h
  split at h
  · rename_i kt et hu
    split at h
    · rename_i hk
      obtain ⟨d, hd, hsame⟩ := keyKind_under hk
      have hfind : ∀ (r : Option (Nat × V)), findV k es 0 = some r → ∀ ents : List MapEntry, ents.map (fun e => (e.key, e.val)) = es.map (fun p => (p.1.val ρ, p.2.val ρ)) → ∀ w, (Instr.findKey kt (k.val ρ) ents).run P w = .ok (r.map fun p => (p.1, p.2.val ρ)) w := by
        intro r hr ents he w
        have := find_now ρ (fun a b => hsame ρ a b) hr he
        simp only [Instr.findKey, Sem.run_bind, run_underlying hd, Result.andThen_ok, this, Sem.run_pure]
      split at h
      · rename_i i u hf
        simp only [Option.some.injEq] at h
        subst h
        obtain ⟨_, a, hm, _⟩ := findV_mem hf
        have hu2 := (hes _ (List.mem_of_getElem? hm)).2
        refine ⟨by split; exact ⟨hu2, trivial, trivial⟩; exact hu2, kt, et, hu, fun e n w => keyKind_check hk ρ e n w, fun ents he w => ⟨_, hfind _ hf ents he w, ?_⟩⟩
        cases ok <;> simp [V.cv, V.val]
      · rename_i hf
        split at h
        · rename_i z hz
          simp only [Option.some.injEq] at h
          subst h
          obtain ⟨z1, z2⟩ := r_zero hz ρ D
          refine ⟨by split; exact ⟨z1, trivial, trivial⟩; exact z1, kt, et, hu, fun e n w => keyKind_check hk ρ e n w, fun ents he w => ⟨_, hfind _ hf ents he w, ?_⟩⟩
          cases ok <;> simp [z2, V.cv, V.val]
        · cases h
      · cases h
    · cases h
  · cases h
theorem bytesOf_sound : ∀ {l : List V} {b : List UInt8}, bytesOf l = some b → ∀ (acc : ByteArray) (w : World),
    (forIn (l.map (V.val ρ)) acc (fun c (s : ByteArray) => (match c with
      | .int .u8 n => pure (ForInStep.yield (s.push (UInt8.ofNat n.toNat)))
      | _ => do
        stuck "bytesToString: byte expected"
        pure (ForInStep.yield s) : Sem (ForInStep ByteArray)))).run P w = .ok ⟨(acc.data.toList ++ b).toArray⟩ w
  | [], b, h, acc, w => by
    simp only [bytesOf, Option.some.injEq] at h
    subst h
    simp
  | v :: l, b, h, acc, w => by
    unfold bytesOf at h
    split at h
    · rename_i e; cases e
    · rename_i n l' e
      simp only [List.cons.injEq] at e
      obtain ⟨rfl, rfl⟩ := e
      split at h
      · rename_i m hm
        simp only [Option.some.injEq] at h
        subst h
        have ih := bytesOf_sound hm (acc.push (UInt8.ofNat n.toNat)) w
        simp only [List.map_cons, List.forIn_cons, V.val_int, Sem.run_bind, Sem.run_pure, Result.andThen_ok]
        rw [ih]
        simp [ByteArray.push]
      · cases h
    · cases h
theorem map_at (hR : Rel gl w0 D ρ H w) {n : Nat} {es : List (V × V)} (hn : D n) (h : H.get n = some (.map es)) : ∃ ents clock, w.heap[(ρ n).blk]? = some (.map ents clock) ∧ ents.toList.map (fun e => (e.key, e.val)) = es.map (fun p => (p.1.val ρ, p.2.val ρ)) ∧ ∀ p ∈ es, p.1.In D ρ ∧ p.2.In D ρ := by
  obtain ⟨_, ents, clock, a, b, c⟩ := hR.ob n _ hn h
  exact ⟨ents, clock, a, b, c⟩
theorem run_getObj_map {r : Nat} {ents : Array MapEntry} {clock : Nat} (h : w.heap[r]? = some (.map ents clock)) : (getObj r).run P w = .ok (.map ents clock) w := by
  simp [getObj, Sem.run, h]
theorem read_sound {tm : List V} {o : Oper} {v : V} (hR : Rel gl w0 D ρ H w) (h : readV P gl tm H o.op = some v) {ev : Operand → Value} (he : Opnds gl tm ρ D ev o.op.operands) :
    v.In D ρ ∧ (execOp ev o).run P w = .ok (.value (v.val ρ)) w := by
  obtain ⟨dst, op, type, pos, after, guard⟩ := o
  simp only at h he
  unfold Opnds at he
  unfold readV at h
  split at h
  · rename_i t x
    split at h
    · rename_i n off hx
      obtain ⟨a1, a2⟩ := he x (by simp [Op.operands]) _ hx
      obtain ⟨b1, b2⟩ := loadVar_sound hR a2 h
      exact ⟨b1, by simp only [execOp, Instr.loadAt, a1, V.val_ptr, Instr.sureAddr, Sem.run_bind, Sem.run_pure, Result.andThen_ok, b2]⟩
    · cases h
  · rename_i t x k ok
    split at h
    · rename_i kv hx hk
      obtain ⟨a1, a2⟩ := he x (by simp [Op.operands]) _ hx
      obtain ⟨k1, k2⟩ := he k (by simp [Op.operands]) _ hk
      obtain ⟨c1, key, elem, hu, hck, hfind⟩ := look_sound (ρ := ρ) (D := D) h (by simp)
      obtain ⟨r, f1, f2⟩ := hfind [] rfl w
      refine ⟨c1, ?_⟩
      simp only [execOp, Instr.lookup, a1, k1, V.val_nilmap, Sem.run_bind, Sem.run_pure, run_underlying hu, Result.andThen_ok, hck, f1]
      cases ok <;> cases r <;> simp_all
    · rename_i n kv hx hk
      split at h
      · rename_i es hg
        obtain ⟨a1, a2⟩ := he x (by simp [Op.operands]) _ hx
        obtain ⟨k1, k2⟩ := he k (by simp [Op.operands]) _ hk
        obtain ⟨ents, clock, m1, m2, m3⟩ := map_at hR a2 hg
        obtain ⟨c1, key, elem, hu, hck, hfind⟩ := look_sound (ρ := ρ) (D := D) h m3
        obtain ⟨r, f1, f2⟩ := hfind ents.toList m2 w
        refine ⟨c1, ?_⟩
        simp only [execOp, Instr.lookup, a1, k1, V.val_map, Sem.run_bind, Sem.run_pure, run_underlying hu, Result.andThen_ok, run_getObj_map m1, hck, f1]
        cases ok <;> cases r <;> simp_all
      · cases h
    · cases h
  · rename_i s d x
    split at h
    · rename_i e hs hd hx
      split at h
      · rename_i hu
        simp only [if_true, Option.some.injEq] at h
        subst h
        obtain ⟨a1, a2⟩ := he x (by simp [Op.operands]) _ hx
        refine ⟨trivial, ?_⟩
        simp [execOp, a1, V.val_nilslice, convert, run_underlying hs, run_underlying hd, run_underlying hu, Conv.bytesToString, V.val_str]
        rfl
      · simp at h
    · rename_i e n off len c ex hs hd hx
      split at h
      · rename_i hu
        simp only [if_true] at h
        split at h
        · rename_i l hl
          split at h
          · rename_i b hb
            simp only [Option.some.injEq] at h
            subst h
            obtain ⟨a1, a2⟩ := he x (by simp [Op.operands]) _ hx
            refine ⟨trivial, ?_⟩
            have hc := load_cells (P := P) hR a2.1 hl
            have hb' := bytesOf_sound (P := P) (ρ := ρ) hb ByteArray.empty w
            simp only [execOp, a1, V.val_slice, convert, Sem.run_bind, run_underlying hs, run_underlying hd, Result.andThen_ok, run_underlying hu, Conv.bytesToString, hc, V.val_str]
            rw [← Array.forIn_toList]
            simp only [List.nil_append, show ByteArray.empty.data.toList = [] from rfl] at hb'
            exact (congrArg (fun (r : Result ByteArray) => (r.andThen fun a w' => Sem.run P (pure (Value.string a)) w').andThen fun a w' => Sem.run P (pure (Next.value a)) w') hb').trans rfl
          · cases h
        · cases h
      · simp at h
    · cases h
  · rename_i x t
    split at h
    · rename_i k e n hu hx
      split at h
      · rename_i es hg
        simp only [Option.some.injEq] at h
        subst h
        obtain ⟨a1, a2⟩ := he x (by simp [Op.operands, Call.operands]) _ hx
        obtain ⟨ents, clock, m1, m2, m3⟩ := map_at hR a2 hg
        refine ⟨trivial, ?_⟩
        have hl : ents.size = es.length := by
          have := congrArg List.length m2
          simpa using this
        simp only [execOp, resolve, invoke, builtin, Builtin.len_, Sem.run_bind, Sem.run_pure, Result.andThen_ok, List.map_toArray, List.map_cons, List.map_nil, a1, V.val_map, List.getElem?_toArray, List.getElem?_cons_zero, run_underlying hu, run_getObj_map m1, goInt, V.val_int, hl]
      · cases h
    · cases h
  · cases h
end
end Go.Ev
end
section
/- What makes memory, and what turns it: as the model does it. -/
namespace Go.Ev

section
variable {P : Program} {gl : Nat → Option Nat} {w0 w : World} {D : Nat → Prop} {ρ : Nat → Loc} {H : Hp}
theorem r_newObj (o : Obj) (w : World) : (newObj o).run P w = .ok w.heap.size (w.alloc o) := rfl
theorem upd_self (ρ : Nat → Loc) (m : Nat) (x : Loc) : upd ρ m x m = x := by unfold upd; rw [if_pos rfl]
theorem upd_old {ρ : Nat → Loc} {m : Nat} {x : Loc} (hm : ¬ D m) : ∀ n, D n → (D n ∨ n = m) ∧ upd ρ m x n = ρ n := fun n hn => by
  refine ⟨.inl hn, ?_⟩
  unfold upd
  rw [if_neg]
  rintro rfl
  exact hm hn
theorem heap_alloc_size (w : World) (o : Obj) : (w.alloc o).heap[w.heap.size]? = some o := by
  show (w.heap.push o)[w.heap.size]? = some o
  simp
/-- New cells, laid. -/
theorem new_at {cs : List V} {m : Nat} (hm : ¬ D m) (h1 : ∀ u ∈ cs, u.In D ρ) (h2 : cs.all V.one = true) (hw : w0.heap.size ≤ w.heap.size) (e : TypeId) :
    ObAt (fun n => D n ∨ n = m) (upd ρ m ⟨w.heap.size, 0, 0⟩) w0 (w.alloc (.cells (cs.map (V.val ρ)).toArray e)) m (newCells cs 0) := by
  have hu := upd_self ρ m ⟨w.heap.size, 0, 0⟩
  refine ⟨(cs.map (V.val ρ)).toArray, e, (0, 0), by rw [hu]; exact heap_alloc_size _ _, fun i v hv => ?_, fun _ => ⟨by rw [hu]; exact hw, by rw [hu]; simp, fun i _ => by simp, by simp⟩, by simp⟩
  rw [cellOf_new] at hv
  have hmem := List.mem_of_getElem? hv
  refine ⟨?_, (h1 v hmem).mono (upd_old hm), List.all_eq_true.1 h2 v hmem⟩
  rw [hu, V.val_ext (fun n hn => (upd_old hm n hn).2) (h1 v hmem)]
  simp [hv]
theorem zerosL_get (z : List V) (n i : Nat) (h : i < n) : (zerosL z n)[i]? = some (z.getD (i % z.length) .undef) := by
  simp [zerosL, h]
theorem zerosL_map (ρ : Nat → Loc) (z : List V) (n : Nat) (hz : n = 0 ∨ 0 < z.length) : (zerosL z n).map (V.val ρ) = ((Array.range n).map fun i => (z.map (V.val ρ)).toArray[i % (z.map (V.val ρ)).toArray.size]!).toList := by
  apply List.ext_getElem?
  intro i
  by_cases hi : i < n
  · have hl : i % z.length < z.length := Nat.mod_lt _ (by omega)
    simp [zerosL, hi, hl]
  · simp [zerosL, hi]
theorem zerosL_in {z : List V} {n : Nat} (h : ∀ u ∈ z, u.In D ρ) : ∀ u ∈ zerosL z n, u.In D ρ := by
  intro u hu
  unfold zerosL at hu
  obtain ⟨i, _, rfl⟩ := List.mem_map.1 hu
  rw [List.getD_eq_getElem?_getD]
  cases hg : z[i % z.length]? with
  | none => exact trivial
  | some x => exact h x (List.mem_of_getElem? hg)
theorem alloc_sound {tm : List V} {o : Oper} {ob : Ob} {mk : Nat → V} (h : allocV P gl tm o.op = some (ob, mk)) {ev : Operand → Value} (he : Opnds gl tm ρ D ev o.op.operands) (m : Nat) (hm : ¬ D m) :
    ∀ w, w0.heap.size ≤ w.heap.size → ∃ cap w', (execOp ev o).run P w = .ok (.value ((mk m).val (upd ρ m ⟨w.heap.size, 0, cap⟩))) w' ∧ w.grownBy w' none ∧
      ObAt (fun n => D n ∨ n = m) (upd ρ m ⟨w.heap.size, 0, cap⟩) w0 w' m ob ∧ (mk m).In (fun n => D n ∨ n = m) (upd ρ m ⟨w.heap.size, 0, cap⟩) := by
  obtain ⟨dst, op, type, pos, after, guard⟩ := o
  simp only at h he
  unfold Opnds at he
  unfold allocV at h
  split at h
  · rename_i t
    split at h
    · rename_i z hz
      split at h
      · rename_i h1
        simp only [Option.some.injEq, Prod.mk.injEq] at h
        obtain ⟨rfl, rfl⟩ := h
        obtain ⟨z1, z2⟩ := r_zero hz ρ D
        refine fun w hw => ⟨0, w.alloc (.cells (z.cells.map (V.val ρ)).toArray t), ?_, World.grownBy_alloc _ _ _, new_at hm (V.In.cells z1) h1 hw t, .inr rfl⟩
        have hc : (z.val ρ).cells = (z.cells.map (V.val ρ)).toArray := by apply Array.ext'; simpa using V.val_cells ρ z
        simp only [execOp, Instr.alloc, Sem.run_bind, z2, Result.andThen_ok, newVar, newRow, hc, r_newObj, Sem.run_pure, V.val_ptr, upd_self]
      · cases h
    · cases h
  · rename_i t x
    split at h
    · rename_i v hx
      split at h
      · rename_i h1
        simp only [Option.some.injEq, Prod.mk.injEq] at h
        obtain ⟨rfl, rfl⟩ := h
        obtain ⟨a1, a2⟩ := he x (by simp [Op.operands]) _ hx
        refine fun w hw => ⟨0, w.alloc (.cells (v.cells.map (V.val ρ)).toArray t), ?_, World.grownBy_alloc _ _ _, new_at hm (V.In.cells a2) h1 hw t, .inr rfl⟩
        have hc : (v.val ρ).cells = (v.cells.map (V.val ρ)).toArray := by apply Array.ext'; simpa using V.val_cells ρ v
        simp only [execOp, Instr.box, a1, Sem.run_bind, Result.andThen_ok, newVar, newRow, hc, r_newObj, Sem.run_pure, V.val_ptr, upd_self]
      · cases h
    · cases h
  · rename_i t len ps
    split at h
    · rename_i e l hu hl
      split at h
      · rename_i s z hs hz
        split at h
        · rename_i hc
          split at h
          · rename_i cs hcs
            split at h
            · rename_i h1
              simp only [Option.some.injEq, Prod.mk.injEq] at h
              obtain ⟨rfl, rfl⟩ := h
              obtain ⟨z1, z2⟩ := r_zero hz ρ D
              obtain ⟨p1, p2⟩ := r_parts hl (fun x hx u hu => he x.2 (by simp only [Op.operands]; exact mem_toArray_map hx) u hu)
              obtain ⟨f1, f2, f3⟩ := r_fill ρ D hcs (zerosL_in (V.In.cells z1)) p2
              refine fun w hw => ⟨0, w.alloc (.cells (cs.map (V.val ρ)).toArray e), ?_, World.grownBy_alloc _ _ _, new_at hm f1 h1 hw e, .inr rfl, by simp⟩
              have hzc : (z.val ρ).cells = (z.cells.map (V.val ρ)).toArray := by apply Array.ext'; simpa using V.val_cells ρ z
              have hps : (ps.map fun (p : Nat × Operand) => (p.1, ev p.2)).toList = (l.map fun p => (p.1, p.2.val ρ)) := by rw [← p1]; simp
              simp only [execOp, Instr.buildSlice, Sem.run_bind, run_underlying hu, Result.andThen_ok, r_size hs]
              rw [if_neg (by omega)]
              by_cases hn : len * s = 0
              · have hf0 : ((zerosL z.cells (len * s)).map (V.val ρ)).toArray = (Array.range (len * s)).map (fun i => (#[] : Array Value)[i % (#[] : Array Value).size]!) := by
                  rw [hn]; simp [zerosL]
                rw [hf0] at f3
                simp only [hn, if_true, Sem.run_pure]
                rw [hn] at f3
                simp only [hps, f3, newRow, Sem.run_bind, r_newObj, Result.andThen_ok, Sem.run_pure, V.val_slice, upd_self, if_true]
              · have hf0 : ((zerosL z.cells (len * s)).map (V.val ρ)).toArray = (Array.range (len * s)).map (fun i => (z.val ρ).cells[i % (z.val ρ).cells.size]!) := by
                  rw [zerosL_map ρ _ _ (.inr (by rw [hc.2]; exact Nat.pos_of_ne_zero (fun e => hn (by rw [e, Nat.mul_zero])))), hzc]
                rw [hf0] at f3
                simp only [hn, if_false, Sem.run_bind, z2, Sem.run_pure, Result.andThen_ok]
                simp only [hps, f3, newRow, Sem.run_bind, r_newObj, Result.andThen_ok, Sem.run_pure, V.val_slice, upd_self, if_true]
            · cases h
          · cases h
        · cases h
      · cases h
    · cases h
  · rename_i t a b
    split at h
    · rename_i e k l k' c hu ha hb
      split at h
      · rename_i s by_ z hs hby hz
        split at h
        · rename_i hc
          simp only [Option.some.injEq, Prod.mk.injEq] at h
          obtain ⟨rfl, rfl⟩ := h
          obtain ⟨c1, c2, c3, c4, c5, c6⟩ := hc
          obtain ⟨z1, z2⟩ := r_zero hz ρ D
          obtain ⟨i, hi, hib⟩ := r_bytes hby
          obtain ⟨a1, _⟩ := he a (by simp [Op.operands]) _ ha
          obtain ⟨b1, _⟩ := he b (by simp [Op.operands]) _ hb
          have wl : IntKind.i64.wrap l = l := IntWalk.i64_in _ ⟨by omega, by omega⟩
          have wc : IntKind.i64.wrap c = c := IntWalk.i64_in _ ⟨by omega, by omega⟩
          have hbig : (by_ : Int) * c ≤ 281474976710656 := by
            have h1 : (by_ : Int) * c ≤ 64 * c := Int.mul_le_mul_of_nonneg_right (by omega) (by omega)
            omega
          have hzc : (z.val ρ).cells = (z.cells.map (V.val ρ)).toArray := by apply Array.ext'; simpa using V.val_cells ρ z
          have hzl : z.cells.length = s := c5
          refine fun w hw => ⟨0, w.alloc (.cells (((List.range (c.toNat * s)).map fun i => (z.cells.getD (i % s) .undef).val ρ)).toArray e), ?_, World.grownBy_alloc _ _ _, ?_, .inr rfl, by simp⟩
          · simp only [execOp, Instr.makeSlice, Sem.run_bind, run_underlying hu, Result.andThen_ok, a1, b1, V.val_int, asInt, asIntOf, Sem.run_pure, r_info hi, hib, wl, wc]
            rw [if_neg]
            · have hroom : ∀ b w, (askRoom b).run P w = .ok () w := fun b w => by unfold askRoom; split <;> rfl
              simp only [Sem.run_bind, hroom, Result.andThen_ok, r_size hs]
              have hrow : ∀ zz : Array Value, (c.toNat * s ≠ 0 → zz = (z.val ρ).cells) → (Array.range (c.toNat * s)).map (fun x => zz[x % zz.size]!) = ((List.range (c.toNat * s)).map fun i => (z.cells.getD (i % s) .undef).val ρ).toArray := by
                intro zz hzz
                apply Array.ext'
                apply List.ext_getElem?
                intro i
                by_cases hi : i < c.toNat * s
                · have hs0 : 0 < s := Nat.pos_of_ne_zero (fun e => by rw [e, Nat.mul_zero] at hi; omega)
                  have hl : i % s < z.cells.length := by rw [hzl]; exact Nat.mod_lt _ hs0
                  rw [hzz (by omega), hzc]
                  simp only [Array.toList_map, Array.toList_range, List.getElem?_map, List.getElem?_range hi, Option.map_some, List.size_toArray, List.length_map, hzl, List.getElem!_toArray]
                  simp [List.getElem?_eq_getElem hl, List.getD_eq_getElem?_getD]
                · simp [hi]
              by_cases hn : c.toNat * s = 0
              · rw [if_pos hn]
                simp only [Sem.run_bind, Sem.run_pure, Result.andThen_ok]
                rw [hrow #[] (fun h => absurd hn h)]
                simp only [newRow, Sem.run_bind, r_newObj, Result.andThen_ok, Sem.run_pure, V.val_slice, upd_self, if_true]
              · rw [if_neg hn]
                simp only [Sem.run_bind, z2, Sem.run_pure, Result.andThen_ok]
                rw [hrow _ (fun _ => rfl)]
                simp only [newRow, Sem.run_bind, r_newObj, Result.andThen_ok, Sem.run_pure, V.val_slice, upd_self, if_true]
            · simp only [Bool.or_eq_true, decide_eq_true_eq, not_or]
              omega
          · refine ⟨_, e, (0, 0), by rw [upd_self]; exact heap_alloc_size _ _, fun i v hv => ?_, fun _ => ⟨by rw [upd_self]; exact hw, by rw [upd_self]; simp, fun i _ => by simp, by simp⟩, by simp⟩
            unfold cellOf at hv
            split at hv
            · rename_i hi
              rw [T.get_lf] at hv
              simp only [zerosBase] at hv
              have hmem := List.mem_of_getElem? hv
              have hin := V.In.cells z1 v hmem
              refine ⟨?_, hin.mono (upd_old hm), List.all_eq_true.1 c6 v hmem⟩
              rw [upd_self, V.val_ext (fun n hn => (upd_old hm n hn).2) hin]
              rw [hzl] at hv
              simp [hi, List.getD_eq_getElem?_getD, hv]
            · cases hv
        · cases h
      · cases h
    · cases h
  · simp only [Option.some.injEq, Prod.mk.injEq] at h
    obtain ⟨rfl, rfl⟩ := h
    refine fun w hw => ⟨0, w.alloc (.map #[] 0), ?_, World.grownBy_alloc _ _ _, ?_, .inr rfl⟩
    · simp [execOp, Instr.makeMap, V.val_map, upd_self]
    · refine ⟨by rw [upd_self]; exact hw, #[], 0, by rw [upd_self]; exact heap_alloc_size _ _, rfl, by simp⟩
  · rename_i sr ds x
    split at h
    · rename_i e b hs hd hx
      split at h
      · rename_i he'
        simp only [Option.some.injEq, Prod.mk.injEq] at h
        obtain ⟨rfl, rfl⟩ := h
        obtain ⟨a1, _⟩ := he x (by simp [Op.operands]) _ hx
        intro w hw
        have hcv := Lib.run_convert_string_bytes (P := P) w sr ds e ⟨b.toArray⟩ hs hd he'
        have hcells : Lib.bytesCells w e ⟨b.toArray⟩ = ((b.map fun (c : UInt8) => V.int .u8 (c.toNat : Int)).map (V.val ρ) ++ List.replicate (grownCap w b.length 0 e - b.length) (Value.int .u8 0)).toArray := by
          apply Array.ext'
          simp [Lib.bytesCells, ByteArray.size, Function.comp_def, V.val_int]
        have hcap : b.length ≤ grownCap w b.length 0 e := by
          unfold grownCap Question.cut
          exact Nat.le_add_right _ _
        have hsz : (Lib.bytesCells w e ⟨b.toArray⟩).size = grownCap w b.length 0 e := by
          rw [hcells]; simp; omega
        refine ⟨grownCap w b.length 0 e, Lib.bytesWorld w e ⟨b.toArray⟩, ?_, ?_, ?_, .inr rfl, fun _ => ?_⟩
        · simp only [execOp, a1, V.val_str, hcv, Sem.run_bind, Result.andThen_ok, Sem.run_pure, V.val_slice, upd_self]
          rfl
        · refine ⟨rfl, rfl, rfl, by rw [Lib.bytesWorld_size]; omega, fun i hi _ => Lib.bytesWorld_at_old _ _ _ _ hi⟩
        · refine ⟨_, _, _, by rw [upd_self]; exact Lib.bytesWorld_at_new _ _ _, fun i v hv => ?_, fun _ => ⟨by rw [upd_self]; exact hw, by rw [upd_self, hsz]; simpa using hcap, fun i hi => by simp only []; omega, fun _ => by rw [upd_self, hsz]; simp⟩, by simp⟩
          have hl : (b.map fun (c : UInt8) => V.int .u8 (c.toNat : Int)).length = b.length := by simp
          rw [cellOf_new] at hv
          have hmem := List.mem_of_getElem? hv
          obtain ⟨c, _, rfl⟩ := List.mem_map.1 hmem
          have hil := (List.getElem?_eq_some_iff.1 hv).1
          refine ⟨?_, trivial, rfl⟩
          rw [upd_self, hcells, List.getElem?_toArray, Nat.zero_add, List.getElem?_append_left (by simpa using hil), List.getElem?_map, hv]
          rfl
        · rw [upd_self]; simpa using hcap
      · cases h
    · cases h
  · cases h
end
end Go.Ev
end
section
/- What turns memory: as the model does it. -/
namespace Go.Ev

section
variable {P : Program} {gl : Nat → Option Nat} {w0 w : World} {D : Nat → Prop} {ρ : Nat → Loc} {H : Hp}
theorem heap_setCell_at {w : World} {g o : Nat} {c : Array Value} {e : TypeId} {fz : Nat × Nat} (h : w.heap[g]? = some (.cells c e fz)) (v : Value) : (w.setCell ⟨g, o, none⟩ v).heap[g]? = some (.cells (c.setIfInBounds o v) e fz) := by
  have hl := (Array.getElem?_eq_some_iff.1 h).1
  simp only [World.setCell, Array.getElem?_modify, if_true, h]
  simp
theorem grown_setCell (w : World) (g o : Nat) (v : Value) : w.grownBy (w.setCell ⟨g, o, none⟩ v) (some g) :=
  ⟨rfl, rfl, rfl, by simp [World.setCell], fun k _ hk => by
    simp only [World.setCell, Array.getElem?_modify]
    rw [if_neg]
    rintro rfl
    exact hk rfl⟩
theorem r_store {w : World} {g o : Nat} {c : Array Value} {e : TypeId} {fz : Nat × Nat} (h : w.heap[g]? = some (.cells c e fz)) (ho : o < c.size) (hf : ¬ (fz.1 ≤ o ∧ o < fz.2)) {v : V} (h1 : v.one = true) (ρ : Nat → Loc) :
    (store ⟨g, o, none⟩ (v.val ρ)).run P w = .ok () (w.setCell ⟨g, o, none⟩ (v.val ρ)) := by
  have hc : w.cell? ⟨g, o, none⟩ = some c[o] := by simp [World.cell?, h, ho]
  have hz : w.frozen? ⟨g, o, none⟩ = false := by
    simp only [World.frozen?, h]
    simpa using hf
  unfold store
  cases v
  case raw x hx => cases x <;> first | (cases hx; done) | simp [V.val, V.cv, Sem.run, hc, hz]
  all_goals simp only [V.one, reduceCtorEq] at h1 <;> simp [V.val, V.cv, Sem.run, hc, hz]
theorem grown_some {a b c : World} {g : Nat} (h : a.grownBy b (some g)) (k : b.grownBy c (some g)) : a.grownBy c (some g) :=
  ⟨k.os.trans h.os, k.tape.trans h.tape, k.output.trans h.output, Nat.le_trans h.size k.size, fun i hi hn => (k.block i (Nat.lt_of_lt_of_le hi h.size) hn).trans (h.block i hi hn)⟩
theorem r_storeCells (g o : Nat) (e : TypeId) (fz : Nat × Nat) (ρ : Nat → Loc) : ∀ (vs : List V) (i : Nat) (c : Array Value) (w : World), w.heap[g]? = some (.cells c e fz) → (∀ j, j < c.size → ¬ (fz.1 ≤ j ∧ j < fz.2)) → (∀ v ∈ vs, v.one = true) → o + i + vs.length ≤ c.size →
    ∃ w' c', (storeCells ⟨g, o, none⟩ (vs.map (V.val ρ)) i).run P w = .ok () w' ∧ w'.heap[g]? = some (.cells c' e fz) ∧ c'.size = c.size ∧ (∀ j, c'[j]? = if o + i ≤ j ∧ j < o + i + vs.length then (vs.map (V.val ρ))[j - (o + i)]? else c[j]?) ∧ w.grownBy w' (some g)
  | [], i, c, w, h, _, _, _ => ⟨w, c, rfl, h, rfl, fun j => by rw [if_neg (by simp only [List.length_nil]; omega)], World.grownBy.refl _ _⟩
  | v :: vs, i, c, w, h, hf, h1, hl => by
    simp only [List.length_cons] at hl
    have hs := r_store (P := P) h (o := o + i) (by omega) (hf _ (by omega)) (h1 v (by simp)) ρ
    obtain ⟨w', c', a1, a2, a3, a4, a5⟩ := r_storeCells g o e fz ρ vs (i + 1) _ _ (heap_setCell_at (o := o + i) h (v.val ρ)) (fun j hj => hf j (by simpa using hj)) (fun u hu => h1 u (by simp [hu])) (by simp; omega)
    refine ⟨w', c', ?_, a2, by simpa using a3, fun j => ?_, grown_some (grown_setCell w g (o + i) _) a5⟩
    · simp only [List.map_cons, storeCells, Addr_add, Sem.run_bind, hs, Result.andThen_ok, a1]
    · rw [a4]
      by_cases hj : o + (i + 1) ≤ j ∧ j < o + (i + 1) + vs.length
      · rw [if_pos hj, if_pos (by simp only [List.length_cons]; omega), show j - (o + i) = (j - (o + (i + 1))) + 1 from by omega]
        rfl
      · rw [if_neg hj, Array.getElem?_setIfInBounds]
        by_cases ej : o + i = j
        · subst ej
          rw [if_pos rfl, if_pos (by omega), if_pos (by simp), Nat.sub_self]
          rfl
        · rw [if_neg ej, if_neg (by simp only [List.length_cons]; omega)]
theorem store_sound (hR : Rel gl w0 D ρ H w) {n off : Nat} {vs : List V} {H' : Hp} (h : H.store n off vs = some H') (hn : D n) (hv : ∀ v ∈ vs, v.In D ρ) :
    H'.next = H.next ∧ (∀ m, m ≠ n → H'.get m = H.get m) ∧ ∃ w', (storeCells ⟨(ρ n).blk, (ρ n).base + off, none⟩ (vs.map (V.val ρ)) 0).run P w = .ok () w' ∧ Rel gl w0 D ρ H' w' := by
  unfold Hp.store at h
  split at h
  · rename_i size ov base g hg
    split at h
    · rename_i ov' hp
      simp only [Option.some.injEq] at h
      subst h
      obtain ⟨p1, p2, p3⟩ := putCells_one vs size ov off ov' hp
      obtain ⟨c, e, fz, hh, hc, hw, _⟩ := hR.ob n _ hn hg
      obtain ⟨w1, w2, w3, w4⟩ := hw rfl
      have hlen : vs = [] ∨ off + vs.length ≤ size := by
        cases vs with
        | nil => exact .inl rfl
        | cons v l => have := p2 l.length (by simp); exact .inr (by simp only [List.length_cons]; omega)
      refine ⟨rfl, fun m hm => by rw [Hp.get_set (Hp.get_lt hg), if_neg hm], ?_⟩
      rcases hlen with rfl | hlen
      · have he : ov' = ov := by simpa [putCells] using hp.symm
        subst he
        refine ⟨w, rfl, ?_⟩
        refine hR.turn hn hg rfl (World.grownBy.refl _ _) (hR.ob n _ hn hg)
      · obtain ⟨w', c', a1, a2, a3, a4, a5⟩ := r_storeCells (P := P) (ρ n).blk ((ρ n).base + off) e fz ρ vs 0 c w hh w3 p1 (by omega)
        refine ⟨w', a1, hR.turn hn hg rfl a5 ⟨c', e, fz, a2, fun i v hi => ?_, fun _ => ⟨w1, by omega, fun i hi => w3 i (by omega), fun hg => by rw [a3]; exact w4 hg⟩, by simp⟩⟩
        unfold cellOf at hi
        split at hi
        · rename_i his
          rw [p3] at hi
          rw [a4]
          by_cases hin : off ≤ i ∧ i < off + vs.length
          · rw [if_pos hin] at hi
            rw [if_pos (by omega), show (ρ n).base + i - ((ρ n).base + off + 0) = i - off from by omega]
            have hx : vs[i - off]? = some (vs[i - off]'(by omega)) := List.getElem?_eq_getElem (by omega)
            rw [hx] at hi
            simp only [Option.some.injEq] at hi
            rw [List.getElem?_map, hx, ← hi]
            exact ⟨rfl, hv _ (List.getElem_mem _), p1 _ (List.getElem_mem _)⟩
          · rw [if_neg hin] at hi
            rw [if_neg (by omega)]
            exact hc i v (by unfold cellOf; rw [if_pos his]; exact hi)
        · cases hi
    · cases h
  · cases h
theorem nx_same {H' : Hp} (hnext : H'.next = H.next) {n : Nat} (hn : D n) (h : ∀ m, m ≠ n → H'.get m = H.get m) : Nx D ρ H D ρ H' :=
  ⟨fun _ _ => rfl, fun m => ⟨.inl, fun e => e.elim id fun ⟨a, b⟩ => absurd b (by omega)⟩, by omega, fun m _ hd => h m (fun e => hd (e ▸ hn))⟩
theorem setObj_run {r : Nat} {o : Obj} (o' : Obj) (h : w.heap[r]? = some o) (hc : ∀ c e fz, o ≠ .cells c e fz) : ∃ w', (setObj r o').run P w = .ok () w' ∧ w'.heap[r]? = some o' ∧ w.grownBy w' (some r) := by
  have hl := (Array.getElem?_eq_some_iff.1 h).1
  refine ⟨{ w with heap := w.heap.setIfInBounds r o' }, ?_, by simp [hl], ⟨rfl, rfl, rfl, by simp, fun k _ hk => ?_⟩⟩
  · simp only [setObj, Sem.run, h]
  · simp only [Array.getElem?_setIfInBounds]
    rw [if_neg]
    rintro rfl
    exact hk rfl
theorem sameKey_bits {k a : V} (h : sameKey k a = some true) (ρ : Nat → Loc) : a.val ρ = k.val ρ := by
  cases k <;> cases a <;> simp only [sameKey, reduceCtorEq] at h
  case int.int k n k' m =>
    split at h
    · rename_i e; subst e
      simp only [Option.some.injEq, beq_iff_eq] at h
      rw [h]
    · cases h
  case str.str s t => simp only [Option.some.injEq, beq_iff_eq] at h; rw [h]
  case bool.bool s t => simp only [Option.some.injEq, beq_iff_eq] at h; rw [h]
theorem keyStays {k : V} {kt : TypeId} (hk : keyKind P kt k = true) (ρ : Nat → Loc) (w : World) : (Instr.keyThatStays (k.val ρ) (k.val ρ)).run P w = .ok (k.val ρ) w := by
  unfold keyKind at hk
  split at hk
  · simp [Instr.keyThatStays, Instr.sameBits, V.val_int]
  · rename_i s
    have := bytes_beq s s
    simp only [beq_self_eq_true] at this
    simp [Instr.keyThatStays, Instr.sameBits, V.val_str, this]
  · simp [Instr.keyThatStays, Instr.sameBits, V.val_bool]
  · cases hk
end
end Go.Ev
end
section
/- What turns memory: as the model does it (2). -/
namespace Go.Ev

section
variable {P : Program} {gl : Nat → Option Nat} {w0 w : World} {D : Nat → Prop} {ρ : Nat → Loc} {H : Hp}
/-- What an operation that turns memory comes to. -/
def Does (gl : Nat → Option Nat) (w0 : World) (D : Nat → Prop) (ρ : Nat → Loc) (H : Hp) (v : V) (H' : Hp) (r : Result Next) : Prop :=
  ∃ D' ρ' w' x, r = .ok x w' ∧ (x = .value (v.val ρ') ∨ x = .skip ∧ v = .undef) ∧ Nx D ρ H D' ρ' H' ∧ Rel gl w0 D' ρ' H' w' ∧ v.In D' ρ'

theorem modify_map (f : MapEntry → MapEntry) (ents : Array MapEntry) (i : Nat) : (ents.modify i f).toList = ents.toList.modify i f := by simp
theorem map_set_keys {α β : Type} (g : α → β) : ∀ (l : List α) (i : Nat) (f : α → α) (b : β), (∀ a, l[i]? = some a → g (f a) = b) → (l.modify i f).map g = (l.map g).set i b
  | [], i, f, b, _ => by simp
  | a :: l, 0, f, b, h => by simp [h a rfl]
  | a :: l, i + 1, f, b, h => by simpa using map_set_keys g l i f b (fun x hx => h x (by simpa using hx))
def upsert (es : List (V × V)) (k v : V) : Option (Nat × V) → List (V × V)
  | some (i, _) => es.set i (k, v)
  | none => es ++ [(k, v)]
theorem update_sound {t kt et : TypeId} (hR : Rel gl w0 D ρ H w) {n : Nat} {k v : V} {es : List (V × V)} {r : Option (Nat × V)} (hu : P.underlying t = some (.map kt et)) (hk : keyKind P kt k = true) (hn : D n) (hg : H.get n = some (.map es)) (hf : findV k es 0 = some r) (hki : k.In D ρ) (hvi : v.In D ρ) :
    ∃ w', (Instr.mapUpdate t (.map (some (ρ n).blk)) (k.val ρ) (v.val ρ)).run P w = .ok () w' ∧ Rel gl w0 D ρ (H.set n (.map (upsert es k v r))) w' := by
  obtain ⟨hw, ents, clock, m1, m2, m3⟩ := hR.ob n _ hn hg
  obtain ⟨d, hd, hsame⟩ := keyKind_under hk
  have hfind : (Instr.findKey kt (k.val ρ) ents.toList).run P w = .ok (r.map fun p => (p.1, p.2.val ρ)) w := by
    have := find_now ρ (fun a b => hsame ρ a b) hf m2
    simp only [Instr.findKey, Sem.run_bind, run_underlying hd, Result.andThen_ok, this, Sem.run_pure]
  cases r with
  | none =>
    obtain ⟨w', s1, s2, s3⟩ := setObj_run (P := P) (w := w) (.map (ents.push { key := k.val ρ, val := v.val ρ, born := clock }) (clock + 1)) m1 (by simp)
    refine ⟨w', ?_, hR.turn hn hg rfl s3 ⟨hw, _, _, s2, ?_, ?_⟩⟩
    · simp only [Instr.mapUpdate, Sem.run_bind, run_underlying hu, Result.andThen_ok, run_getObj_map m1, keyKind_check hk, hfind, Option.map_none, s1]
    · simp [m2, upsert]
    · intro p hp
      unfold upsert at hp
      rcases List.mem_append.1 hp with hp | hp
      · exact m3 p hp
      · simp only [List.mem_singleton] at hp
        subst hp
        exact ⟨hki, hvi⟩
  | some p =>
    obtain ⟨i, u⟩ := p
    obtain ⟨_, a, hm, hs⟩ := findV_mem hf
    rw [Nat.sub_zero] at hm
    have hak := sameKey_bits hs ρ
    have hei : ∃ e, ents[i]? = some e ∧ e.key = k.val ρ := by
      have h1 := congrArg (fun l => l[i]?) m2
      simp only [List.getElem?_map, hm, Option.map_some] at h1
      cases he : ents.toList[i]? with
      | none => rw [he] at h1; simp at h1
      | some e =>
        rw [he] at h1
        simp only [Option.map_some, Option.some.injEq, Prod.mk.injEq] at h1
        exact ⟨e, by rw [← Array.getElem?_toList]; exact he, by rw [h1.1, hak]⟩
    obtain ⟨e, he, hek⟩ := hei
    obtain ⟨w', s1, s2, s3⟩ := setObj_run (P := P) (w := w) (.map (ents.modify i fun e => { e with key := k.val ρ, val := v.val ρ }) clock) m1 (by simp)
    refine ⟨w', ?_, hR.turn hn hg rfl s3 ⟨hw, _, _, s2, ?_, ?_⟩⟩
    · simp only [Instr.mapUpdate, Sem.run_bind, run_underlying hu, Result.andThen_ok, run_getObj_map m1, keyKind_check hk, hfind, Option.map_some, he, Option.getD_some, hek, keyStays hk, s1]
    · rw [modify_map, map_set_keys (fun (e : MapEntry) => (e.key, e.val)) ents.toList i _ (k.val ρ, v.val ρ) (fun _ _ => rfl), m2]
      simp [upsert, List.map_set]
    · intro p hp
      unfold upsert at hp
      rcases List.mem_or_eq_of_mem_set hp with hp | hp
      · exact m3 p hp
      · subst hp
        exact ⟨hki, hvi⟩
theorem rowLen_sound {x : V} {m : Nat} (h : rowLen x = some m) (ρ : Nat → Loc) (w : World) : (Builtin.lenOf (x.val ρ)).run P w = .ok m w := by
  unfold rowLen at h
  split at h
  · simp only [Option.some.injEq] at h; subst h; simp [Builtin.lenOf, V.val_nilslice]
  · simp only [Option.some.injEq] at h; subst h; simp [Builtin.lenOf, V.val_tail]
  · simp only [Option.some.injEq] at h; subst h; simp [Builtin.lenOf, V.val_slice]
  · simp only [Option.some.injEq] at h; subst h; simp [Builtin.lenOf, V.val_str, ByteArray.size]
  · cases h
theorem rowCells_sound (hR : Rel gl w0 D ρ H w) {x : V} {esz k : Nat} {cs : List V} (h : rowCells H esz k x = some cs) (hx : x.In D ρ) :
    (∀ u ∈ cs, u.In D ρ ∧ u.one = true) ∧ (Builtin.firstCells esz k (x.val ρ)).run P w = .ok (cs.map (V.val ρ)).toArray w ∧ cs.length = k * esz := by
  unfold rowCells at h
  split at h
  · split at h
    · rename_i hk
      simp only [Option.some.injEq] at h
      subst h
      exact ⟨by simp, rfl, by simp [hk]⟩
    · cases h
  · split at h
    · rename_i hk
      simp only [Option.some.injEq] at h
      subst h hk
      refine ⟨by simp, ?_, by simp⟩
      simp only [Builtin.firstCells, V.val_tail, Nat.zero_mul]
      rfl
    · cases h
  · split at h
    · obtain ⟨a, b, _⟩ := cellsAt_sound hR hx.1 h
      exact ⟨b, by simp only [Builtin.firstCells, V.val_slice, load_cells hR hx.1 h], a⟩
    · cases h
  · split at h
    · rename_i s hk
      simp only [Option.some.injEq] at h
      subst h
      refine ⟨fun u hu => ?_, ?_, by simp [hk.1, hk.2]⟩
      · obtain ⟨b, _, rfl⟩ := List.mem_map.1 hu
        exact ⟨trivial, rfl⟩
      · simp only [Builtin.firstCells, V.val_str, Sem.run_pure]
        congr 1
        apply Array.ext'
        simp [Function.comp_def, V.val_int]
    · cases h
  · cases h
theorem newRow_in {cs : List V} (h : ∀ u ∈ cs, u.In D ρ ∧ u.one = true) {m : Nat} (hm : ¬ D m) (hw : w0.heap.size ≤ w.heap.size) (e : TypeId) (esz cap : Nat) (rest : List Value) (hl : cs.length + rest.length = cap * esz) :
    ObAt (fun n => D n ∨ n = m) (upd ρ m ⟨w.heap.size, 0, cap⟩) w0 (w.alloc (.cells (cs.map (V.val ρ) ++ rest).toArray e)) m (newCells cs esz) := by
  have hu := upd_self ρ m ⟨w.heap.size, 0, cap⟩
  refine ⟨(cs.map (V.val ρ) ++ rest).toArray, e, (0, 0), by rw [hu]; exact heap_alloc_size _ _, fun i v hv => ?_, fun _ => ⟨by rw [hu]; exact hw, by rw [hu]; simp, fun i _ => by simp, fun _ => by rw [hu]; simp [hl]⟩, by simp⟩
  rw [cellOf_new] at hv
  have hmem := List.mem_of_getElem? hv
  refine ⟨?_, (h v hmem).1.mono (upd_old hm), (h v hmem).2⟩
  rw [hu, V.val_ext (fun n hn => (upd_old hm n hn).2) (h v hmem).1]
  have hil : i < cs.length := (List.getElem?_eq_some_iff.1 hv).1
  rw [Nat.zero_add, List.getElem?_toArray, List.getElem?_append_left (by simpa using hil), List.getElem?_map, hv]
  rfl
theorem not_next (hR : Rel gl w0 D ρ H w) : ¬ D H.next := fun h => Nat.lt_irrefl _ (hR.old _ h)
theorem nx_push (hR : Rel gl w0 D ρ H w) (o : Ob) (x : Loc) : Nx D ρ H (fun n => D n ∨ n = H.next) (upd ρ H.next x) (H.push o) := by
  refine ⟨fun n hn => (upd_old (not_next hR) n hn).2, fun n => ?_, by rw [Hp.next_push]; omega, fun n hn _ => by rw [Hp.get_push, if_neg (by omega)]⟩
  rw [Hp.next_push]
  constructor
  · rintro (h | rfl)
    · exact .inl h
    · exact .inr ⟨Nat.le_refl _, Nat.lt_succ_self _⟩
  · rintro (h | ⟨a, b⟩)
    · exact .inl h
    · exact .inr (by omega)
theorem rel_push (hR : Rel gl w0 D ρ H w) {o : Ob} {x : Loc} {obj : Obj} (hx : x.blk = w.heap.size) (hat : ObAt (fun n => D n ∨ n = H.next) (upd ρ H.next x) w0 (w.alloc obj) H.next o) :
    Rel gl w0 (fun n => D n ∨ n = H.next) (upd ρ H.next x) (H.push o) (w.alloc obj) :=
  hR.add (not_next hR) (by rw [Hp.next_push]; omega) (by rw [Hp.next_push]; omega) (fun k hk => by
    rw [Hp.get_push, if_neg]
    rintro rfl
    exact not_next hR hk) (by rw [Hp.get_push, if_pos rfl]) (World.grownBy_alloc _ _ _) (hR.far (by omega)) hat
theorem rel_push' (hR : Rel gl w0 D ρ H w) {o : Ob} {x : Loc} {w' : World} (hx : x.blk = w.heap.size) (hg : w.grownBy w' none) (hat : ObAt (fun n => D n ∨ n = H.next) (upd ρ H.next x) w0 w' H.next o) :
    Rel gl w0 (fun n => D n ∨ n = H.next) (upd ρ H.next x) (H.push o) w' :=
  hR.add (not_next hR) (by rw [Hp.next_push]; omega) (by rw [Hp.next_push]; omega) (fun k hk => by
    rw [Hp.get_push, if_neg]
    rintro rfl
    exact not_next hR hk) (by rw [Hp.get_push, if_pos rfl]) hg (hR.far (by omega)) hat
end
end Go.Ev
end
