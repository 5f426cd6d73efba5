/- An evaluator of Go text: values, a heap by names, operations, code. It is a function: what it yields the model does (the other texts of this row). -/
import Derived.RangeFuncIn
import Derived.RangeFuncLeaves
import Derived.OrdersIn
import GoSem.Extern.BytealgIndexByte
namespace Go.Ev

/-- Of one cell, no truth. -/
def single : Value → Bool
  | .agg _ | .tuple _ | .bool _ => false
  | _ => true
/-- A value: as the model's, its blocks by names. A row of values is 'nil', 'cons'. -/
inductive V where
  | bool (b : Bool)
  | int (k : IntKind) (n : Int)
  | str (s : List UInt8)
  | nilptr
  | ptr (n off : Nat)
  | nilslice
  | slice (n off len c : Nat) (ex : Bool)
  /-- nothing, behind a row that may have more room than is known: where it stands if there is none, if there is some -/
  | tail (n off off' c : Nat)
  /-- what came in and is looked at nowhere -/
  | raw (x : Value) (h : single x = true)
  | nilmap
  | map (n : Nat)
  | nilfn
  | fn (f : FuncId) (fst cap : V)
  | yield (n : Nat)
  | nil
  | cons (h t : V)
  | agg (l : V)
  | tup (l : V)

def V.toL : V → List V
  | .cons h t => h :: t.toL
  | _ => []
def V.ofL : List V → V
  | [] => .nil
  | h :: t => .cons h (V.ofL t)
def V.cells : V → List V
  | .agg l => l.toL
  | v => [v]
def V.undef : V := .tup .nil
def V.unit : V := .tup .nil

/-- A tree by numbers. -/
inductive T (α : Type) where
  | lf
  | nd (v : Option α) (l r : T α)

def T.get {α : Type} : T α → Nat → Option α
  | .lf, _ => none
  | .nd v l r, n => match n with
    | 0 => v
    | m + 1 => match m % 2 with
      | 0 => l.get (m / 2)
      | _ => r.get (m / 2)
def T.put {α : Type} : Nat → T α → Nat → α → T α
  | 0, t, _, _ => t
  | _ + 1, .lf, 0, x => .nd (some x) .lf .lf
  | _ + 1, .nd _ l r, 0, x => .nd (some x) l r
  | f + 1, .lf, m + 1, x => match m % 2 with
    | 0 => .nd none (T.put f .lf (m / 2) x) .lf
    | _ => .nd none .lf (T.put f .lf (m / 2) x)
  | f + 1, .nd v l r, m + 1, x => match m % 2 with
    | 0 => .nd v (T.put f l (m / 2) x) r
    | _ => .nd v l (T.put f r (m / 2) x)
def T.set {α : Type} (t : T α) (n : Nat) (x : α) : T α := T.put (n + 1) t n x

/-- What stands under a name. -/
inductive Ob where
  /-- cells; 'g': of a row that may have more room than is known, the size of an element; else 0 -/
  | cells (size : Nat) (ov : T V) (base : Nat → Option V) (g : Nat) (ro : Bool)
  | map (es : List (V × V))
  | loop (st : LoopState) (pend : Option Code) (tm : List V) (ps : Array Tmp) (assign body : Code) (dn : Nat)
  | defd
  | dead

structure Hp where
  next : Nat
  t : T Ob

def Hp.get (H : Hp) (n : Nat) : Option Ob := if n < H.next then H.t.get n else none
def Hp.set (H : Hp) (n : Nat) (o : Ob) : Hp := ⟨H.next, H.t.set n o⟩
def Hp.push (H : Hp) (o : Ob) : Hp := ⟨H.next + 1, H.t.set H.next o⟩

def cellOf (size : Nat) (ov : T V) (base : Nat → Option V) (i : Nat) : Option V :=
  if i < size then (match ov.get i with | some v => some v | none => base i) else none
def Hp.cell (H : Hp) (n off : Nat) : Option V :=
  match H.get n with
  | some (.cells size ov base _ _) => cellOf size ov base off
  | _ => none
/-- Cells one behind the other. -/
def Hp.cellsAt (H : Hp) (n : Nat) : Nat → Nat → Option (List V)
  | _, 0 => some []
  | off, k + 1 => match H.cell n off with
    | some v => (match Hp.cellsAt H n (off + 1) k with | some l => some (v :: l) | none => none)
    | none => none
def V.one : V → Bool
  | .agg _ | .tup _ | .cons _ _ | .nil => false
  | _ => true
def putCells (size : Nat) (ov : T V) : Nat → List V → Option (T V)
  | _, [] => some ov
  | off, v :: l => if off < size && v.one then putCells size (ov.set off v) (off + 1) l else none
def Hp.store (H : Hp) (n off : Nat) (vs : List V) : Option Hp :=
  match H.get n with
  | some (.cells size ov base g false) => match putCells size ov off vs with
    | some ov => some (H.set n (.cells size ov base g false))
    | none => none
  | _ => none

def tree : Nat → T V → List V → T V
  | _, t, [] => t
  | i, t, v :: l => tree (i + 1) (t.set i v) l
def newCells (vs : List V) (g : Nat) : Ob := .cells vs.length (tree 0 .lf vs) (fun _ => none) g false

/-! ### The model's values -/
def ofScalar : Value → Option V
  | .bool b => some (.bool b)
  | .int k n => some (.int k n)
  | .string s => some (.str s.data.toList)
  | .pointer none => some .nilptr
  | .slice none 0 0 => some .nilslice
  | .map none => some .nilmap
  | .nilFunc => some .nilfn
  | _ => none
def ofScalars : List Value → Option (List V)
  | [] => some []
  | v :: l => match ofScalar v with
    | some x => (match ofScalars l with | some m => some (x :: m) | none => none)
    | none => none
def ofConst : Value → Option V
  | .agg cs => match ofScalars cs.toList with
    | some l => some (.agg (V.ofL l))
    | none => none
  | .tuple ⟨[]⟩ => some .undef
  | v => ofScalar v

section
variable (P : Program) (gl : Nat → Option Nat)

def opnd (tm : List V) : Operand → Option V
  | .tmp t => some (tm.getD t .undef)
  | .const v => ofConst v
  | .global g => (match gl g with | some n => some (.ptr n 0) | none => none)
  | .func f => some (.fn f .nil .nil)
def opnds (tm : List V) : List Operand → Option (List V)
  | [] => some []
  | x :: l => match opnd gl tm x with
    | some v => (match opnds tm l with | some m => some (v :: m) | none => none)
    | none => none
def parts (tm : List V) : List (Nat × Operand) → Option (List (Nat × V))
  | [] => some []
  | (i, x) :: l => match opnd gl tm x with
    | some v => (match parts tm l with | some m => some ((i, v) :: m) | none => none)
    | none => none

def zeroV (t : TypeId) : Option V :=
  match P.info? t with
  | some i => match i.zero with
    | some z => ofConst z
    | none => none
  | none => none
def sizeV (t : TypeId) : Option Nat :=
  match P.info? t with
  | some i => some i.size
  | none => none
def bytesV (t : TypeId) : Option Nat :=
  match P.info? t with
  | some i => some i.bytes
  | none => none
def isAggV (t : TypeId) : Option Bool :=
  match P.underlying t with
  | some (.struct _) | some (.array _ _) => some true
  | some _ => some false
  | none => none

def partV (t : TypeId) (cs : List V) (off : Nat) : Option V :=
  match isAggV P t with
  | some true => match sizeV P t with
    | some s => some (.agg (V.ofL ((cs.drop off).take s)))
    | none => none
  | some false => cs[off]?
  | none => none

def putAt (cs : List V) (off : Nat) (vs : List V) : List V := cs.take off ++ vs ++ cs.drop (off + vs.length)
def fillV (place : Nat → Option (Nat × Nat)) (cs : List V) : List (Nat × V) → Option (List V)
  | [] => some cs
  | (i, v) :: rest => match place i with
    | none => none
    | some (off, size) =>
      if v.cells.length = size ∧ off + v.cells.length ≤ cs.length then fillV place (putAt cs off v.cells) rest else none
def placesV : List Field → Option (List (Nat × Nat))
  | [] => some []
  | f :: l => match sizeV P f.type with
    | some s => (match placesV l with | some m => some ((f.offset, s) :: m) | none => none)
    | none => none
def buildV (t : TypeId) (ps : List (Nat × V)) : Option V :=
  match zeroV P t, P.underlying t with
  | some z, some (.struct fields) => match placesV P fields.toList with
    | some pl => (match fillV (pl[·]?) z.cells ps with
      | some cs => some (.agg (V.ofL cs))
      | none => none)
    | none => none
  | some z, some (.array _ e) => match sizeV P e with
    | some s => (match fillV (fun i => some (i * s, s)) z.cells ps with
      | some cs => some (.agg (V.ofL cs))
      | none => none)
    | none => none
  | _, _ => none

def fieldsEq (eq : TypeId → V → V → Option Bool) (xs ys : List V) : List Field → Option Bool
  | [] => some true
  | f :: fs => if f.name = "_" then none else
    match partV P f.type xs f.offset, partV P f.type ys f.offset with
    | some a, some b => (match eq f.type a b with
      | some true => fieldsEq eq xs ys fs
      | r => r)
    | _, _ => none
def elemsEq (eq : TypeId → V → V → Option Bool) (e : TypeId) (s : Nat) (xs ys : List V) : Nat → Nat → Option Bool
  | _, 0 => some true
  | i, k + 1 => match partV P e xs (i * s), partV P e ys (i * s) with
    | some a, some b => (match eq e a b with
      | some true => elemsEq eq e s xs ys (i + 1) k
      | r => r)
    | _, _ => none
/-- Are they equal? -/
def eqV : Nat → TypeId → V → V → Option Bool
  | 0, _, _, _ => none
  | d + 1, t, x, y =>
    match P.underlying t, x, y with
    | some .bool, .bool a, .bool b => some (a == b)
    | some (.int _), .int k a, .int k' b => if k = k' then some (a == b) else none
    | some .string, .str a, .str b => some (a == b)
    | some (.pointer _), .nilptr, .nilptr => some true
    | some (.pointer _), .nilptr, .ptr _ _ => some false
    | some (.pointer _), .ptr _ _, .nilptr => some false
    | some (.slice _), .nilslice, .nilslice => some true
    | some (.slice _), .nilslice, .slice _ _ _ _ _ => some false
    | some (.slice _), .nilslice, .tail _ _ _ _ => some false
    | some (.slice _), .tail _ _ _ _, .nilslice => some false
    | some (.slice _), .slice _ _ _ _ _, .nilslice => some false
    | some (.map _ _), .nilmap, .nilmap => some true
    | some (.map _ _), .nilmap, .map _ => some false
    | some (.map _ _), .map _, .nilmap => some false
    | some (.func _ _ _), .nilfn, .nilfn => some true
    | some (.func _ _ _), .nilfn, .fn _ _ _ => some false
    | some (.func _ _ _), .fn _ _ _, .nilfn => some false
    | some (.struct fields), .agg xs, .agg ys => if P.stoodInHeld t then none else fieldsEq P (eqV d) xs.toL ys.toL fields.toList
    | some (.array len e), .agg xs, .agg ys => (match sizeV P e with
      | none => none
      | some s => elemsEq P (eqV d) e s xs.toL ys.toL 0 len)
    | _, _, _ => none
def guardOk (t : TypeId) : V → V → Bool
  | .agg _, .agg _ => !P.eqGuardType P.depth t
  | _, _ => true

def intV (op : BinOp) (k : IntKind) (a b : Int) : Option V :=
  match op with
  | .add => some (.int k (k.wrap (a + b)))
  | .sub => some (.int k (k.wrap (a - b)))
  | .mul => some (.int k (k.wrap (a * b)))
  | .quo => if b = 0 then none else some (.int k (k.wrap (a.tdiv b)))
  | .rem => if b = 0 then none else some (.int k (a.tmod b))
  | .and => some (.int k (k.wrap (BitVec.ofInt k.bits a &&& BitVec.ofInt k.bits b).toNat))
  | .or => some (.int k (k.wrap (BitVec.ofInt k.bits a ||| BitVec.ofInt k.bits b).toNat))
  | .xor => some (.int k (k.wrap (BitVec.ofInt k.bits a ^^^ BitVec.ofInt k.bits b).toNat))
  | .andNot => some (.int k (k.wrap (BitVec.ofInt k.bits a &&& ~~~(BitVec.ofInt k.bits b)).toNat))
  | .eql => some (.bool (a == b))
  | .neq => some (.bool (a != b))
  | .lss => some (.bool (a < b))
  | .leq => some (.bool (a ≤ b))
  | .gtr => some (.bool (a > b))
  | .geq => some (.bool (a ≥ b))
  | _ => none
def strV (op : BinOp) (a b : List UInt8) : Option V :=
  match op with
  | .add => if a.length + b.length ≤ 9223372036854775807 then some (.str (a ++ b)) else none
  | .eql => some (.bool (a == b))
  | .neq => some (.bool (!(a == b)))
  | .lss => some (.bool (Op.bytesLess a b))
  | .leq => some (.bool (Op.bytesLess a b || a == b))
  | .gtr => some (.bool (!(Op.bytesLess a b || a == b)))
  | .geq => some (.bool (!Op.bytesLess a b))
  | _ => none
def binV (op : BinOp) (t : TypeId) (x y : V) : Option V :=
  match op, x, y with
  | .shl, .int k a, .int _ b => if b < 0 then none else some (.int k (k.wrap (a * 2 ^ (min b.toNat k.bits))))
  | .shr, .int k a, .int _ b => if b < 0 then none else some (.int k (a.fdiv (2 ^ (min b.toNat k.bits))))
  | op, .int k a, .int k' b => if k = k' then intV op k a b else none
  | op, .str a, .str b => strV op a b
  | .eql, x, y => if guardOk P t x y then (match eqV P 100 t x y with | some b => some (.bool b) | none => none) else none
  | .neq, x, y => if guardOk P t x y then (match eqV P 100 t x y with | some b => some (.bool (!b)) | none => none) else none
  | _, _, _ => none
def unV (op : UnOp) (x : V) : Option V :=
  match op, x with
  | .neg, .int k n => some (.int k (k.wrap (0 - n)))
  | .xor, .int k n => some (.int k (k.wrap (BitVec.ofInt k.bits (if k.signed then -1 else k.max) ^^^ BitVec.ofInt k.bits n).toNat))
  | .not, .bool b => some (.bool !b)
  | _, _ => none

def natOf : V → Option Nat
  | .int _ n => if 0 ≤ n then some n.toNat else none
  | _ => none
def bound (y : Nat) (d : Nat) : Option V → Option Nat
  | none => some d
  | some v => match natOf v with
    | some n => if n ≤ y then some n else none
    | none => none
/-- 'x[l:h:m]' of a slice; of one whose room is not known: up to its length alone. -/
def sliceV (esz : Nat) (n off len c : Nat) (ex : Bool) (lo hi mx : Option V) : Option V :=
  if mx.isSome && hi.isNone then none else
  if ex then
    match bound c c mx with
    | none => none
    | some m => match bound m len hi with
      | none => none
      | some h => match bound h 0 lo with
        | none => none
        | some l => some (.slice n (if m = l then off else off + l * esz) (h - l) (m - l) true)
  else match mx with
    | some v => (match natOf v, hi with
      | some m, some _ => if m ≤ len then
          (match bound m len hi with
          | none => none
          | some h => match bound h 0 lo with
            | none => none
            | some l => some (.slice n (if m = l then off else off + l * esz) (h - l) (m - l) true)) else none
      | _, _ => none)
    | none => match bound len len hi with
      | none => none
      | some h => match bound h 0 lo with
        | none => none
        | some l => if l < len ∨ l = 0 then some (.slice n (off + l * esz) (h - l) (c + l) false) else some (.tail n off (off + l * esz) (c + l))
def sliceOpV (t : TypeId) (x : V) (lo hi mx : Option V) : Option V :=
  match P.underlying t, x with
  | some .string, .str s => match mx with
    | some _ => none
    | none => match bound s.length s.length hi with
      | none => none
      | some h => match bound h 0 lo with
        | none => none
        | some l => some (.str ((s.drop l).take (h - l)))
  | some (.slice e), .nilslice =>
    if mx.isSome && hi.isNone || (sizeV P e).isNone then none else
    match bound 0 0 mx with
    | none => none
    | some _ => match bound 0 0 hi with
      | none => none
      | some _ => match bound 0 0 lo with
        | none => none
        | some _ => some .nilslice
  | some (.slice e), .slice n off len c ex => match sizeV P e with
    | some s => sliceV s n off len c ex lo hi mx
    | none => none
  | some (.array k e), .ptr n off => match sizeV P e with
    | some s => sliceV s n off k k true lo hi mx
    | none => none
  | _, _ => none

/-- Where an element of an array, or a slice, stands. -/
def indexAddrV (t : TypeId) (x i : V) : Option V :=
  match natOf i with
  | none => none
  | some i => match P.underlying t, x with
    | some (.slice e), .slice n off len _ _ => (match sizeV P e with
      | some s => if i < len then some (.ptr n (off + i * s)) else none
      | none => none)
    | some (.array len e), .ptr n off => (match sizeV P e with
      | some s => if i < len then some (.ptr n (off + i * s)) else none
      | none => none)
    | _, _ => none
def indexV (t : TypeId) (x i : V) : Option V :=
  match natOf i with
  | none => none
  | some i => match P.underlying t, x with
    | some (.array len e), .agg l => (match sizeV P e with
      | some s => if i < len then partV P e l.toL (i * s) else none
      | none => none)
    | some .string, .str s => (match s[i]? with
      | some b => some (.int .u8 (b.toNat : Int))
      | none => none)
    | _, _ => none
def fieldAddrV (t : TypeId) (x : V) (f : Nat) : Option V :=
  match P.underlying t, x with
  | some (.struct fields), .ptr n off => match fields[f]? with
    | some fd => (match sizeV P fd.type with
      | some (_ + 1) => some (.ptr n (off + fd.offset))
      | _ => none)
    | none => none
  | _, _ => none
def fieldV (t : TypeId) (x : V) (f : Nat) : Option V :=
  match P.underlying t, x with
  | some (.struct fields), .agg l => match fields[f]? with
    | some fd => partV P fd.type l.toL fd.offset
    | none => none
  | _, _ => none
def convertV (s d : TypeId) (x : V) : Option V :=
  match P.underlying s, P.underlying d, x with
  | some _, some (.int k), .int _ n => some (.int k (k.wrap n))
  | some _, some .string, .str s => some (.str s)
  | _, _, _ => none
def minV : V → List V → Option V
  | x, [] => some x
  | .int k a, .int _ b :: l => minV (.int k (if b < a then b else a)) l
  | _, _ => none
def maxV : V → List V → Option V
  | x, [] => some x
  | .int k a, .int _ b :: l => maxV (.int k (if b > a then b else a)) l
  | _, _ => none
def lenV (t : TypeId) (x : V) : Option V :=
  match P.underlying t, x with
  | some .string, .str s => some (.int .i64 (s.length : Int))
  | some (.slice _), .nilslice => some (.int .i64 0)
  | some (.slice _), .slice _ _ len _ _ => some (.int .i64 (len : Int))
  | some (.slice _), .tail _ _ _ _ => some (.int .i64 0)
  | some (.map _ _), .nilmap => some (.int .i64 0)
  | _, _ => none

def optOpnd (tm : List V) : Option Operand → Option (Option V)
  | none => some none
  | some x => match opnd gl tm x with
    | some v => some (some v)
    | none => none

/-- What looks at no memory. -/
def pureV (tm : List V) (o : Op) : Option V :=
  match o with
  | .move x | .assign x => opnd gl tm x
  | .pick c a b => match opnd gl tm c, opnd gl tm a, opnd gl tm b with
    | some (.bool t), some x, some y => some (if t then x else y)
    | _, _, _ => none
  | .build t ps => match parts gl tm ps.toList with
    | some l => buildV P t l
    | none => none
  | .nilCheck x => match opnd gl tm x with
    | some (.ptr n off) => some (.ptr n off)
    | some (.fn f a c) => some (.fn f a c)
    | some (.yield l) => some (.yield l)
    | _ => none
  | .binOp op t x y _ => match opnd gl tm x, opnd gl tm y with
    | some a, some b => binV P op t a b
    | _, _ => none
  | .unOp op _ x => match opnd gl tm x with
    | some a => unV op a
    | none => none
  | .convert s d x => match opnd gl tm x with
    | some a => convertV P s d a
    | none => none
  | .makeFunc (.func f) a c => match opnds gl tm a.toList, opnds gl tm c.toList with
    | some l, some m => some (.fn f (V.ofL l) (V.ofL m))
    | _, _ => none
  | .slice t x lo hi mx => match opnd gl tm x, optOpnd gl tm lo, optOpnd gl tm hi, optOpnd gl tm mx with
    | some a, some l, some h, some m => sliceOpV P t a l h m
    | _, _, _, _ => none
  | .fieldAddr t x f => match opnd gl tm x with
    | some a => fieldAddrV P t a f
    | none => none
  | .field t x f => match opnd gl tm x with
    | some a => fieldV P t a f
    | none => none
  | .indexAddr t x i => match opnd gl tm x, opnd gl tm i with
    | some a, some b => indexAddrV P t a b
    | _, _ => none
  | .index t x i => match opnd gl tm x, opnd gl tm i with
    | some a, some b => indexV P t a b
    | _, _ => none
  | .extract x i => match opnd gl tm x with
    | some (.tup l) => l.toL[i]?
    | _ => none
  | .call { callee := .builtin .len, args := ⟨[x]⟩, argTypes := ⟨[t]⟩ } => match opnd gl tm x with
    | some a => lenV P t a
    | none => none
  | .call { callee := .builtin .min, args := ⟨x :: l⟩, argTypes := _ } => match opnd gl tm x, opnds gl tm l with
    | some a, some m => minV a m
    | _, _ => none
  | .call { callee := .builtin .max, args := ⟨x :: l⟩, argTypes := _ } => match opnd gl tm x, opnds gl tm l with
    | some a, some m => maxV a m
    | _, _ => none
  | _ => none

/-- A value of a type, as it lies. -/
def loadV (H : Hp) (t : TypeId) (n off : Nat) : Option V :=
  match isAggV P t with
  | some true => match sizeV P t with
    | some s => (match H.cellsAt n off s with
      | some l => some (.agg (V.ofL l))
      | none => none)
    | none => none
  | some false => H.cell n off
  | none => none
/-- Keys of one kind. -/
def sameKey : V → V → Option Bool
  | .int k a, .int k' b => if k = k' then some (a == b) else none
  | .str a, .str b => some (a == b)
  | .bool a, .bool b => some (a == b)
  | _, _ => none
def keyKind (t : TypeId) : V → Bool
  | .int _ _ => (match P.underlying t with | some (.int _) => true | _ => false)
  | .str _ => (match P.underlying t with | some .string => true | _ => false)
  | .bool _ => (match P.underlying t with | some .bool => true | _ => false)
  | _ => false
def findV (k : V) : List (V × V) → Nat → Option (Option (Nat × V))
  | [], _ => some none
  | (a, v) :: es, i => match sameKey k a with
    | some true => some (some (i, v))
    | some false => findV k es (i + 1)
    | none => none
def lookV (t : TypeId) (es : List (V × V)) (k : V) (ok : Bool) : Option V :=
  match P.underlying t with
  | some (.map kt et) => if keyKind P kt k then
      (match findV k es 0 with
      | some (some (_, v)) => some (if ok then .tup (.cons v (.cons (.bool true) .nil)) else v)
      | some none => (match zeroV P et with
        | some z => some (if ok then .tup (.cons z (.cons (.bool false) .nil)) else z)
        | none => none)
      | none => none) else none
  | _ => none
def bytesOf : List V → Option (List UInt8)
  | [] => some []
  | .int .u8 n :: l => match bytesOf l with
    | some m => some (UInt8.ofNat n.toNat :: m)
    | none => none
  | _ => none
/-- What reads memory. -/
def readV (tm : List V) (H : Hp) (o : Op) : Option V :=
  match o with
  | .load t x => match opnd gl tm x with
    | some (.ptr n off) => loadV P H t n off
    | _ => none
  | .lookup t x k ok => match opnd gl tm x, opnd gl tm k with
    | some .nilmap, some k => lookV P t [] k ok
    | some (.map n), some k => (match H.get n with
      | some (.map es) => lookV P t es k ok
      | _ => none)
    | _, _ => none
  | .convert s d x => match P.underlying s, P.underlying d, opnd gl tm x with
    | some (.slice e), some .string, some .nilslice => if (match P.underlying e with | some (.int .u8) => true | _ => false) then some (.str []) else none
    | some (.slice e), some .string, some (.slice n off len _ _) => if (match P.underlying e with | some (.int .u8) => true | _ => false) then
        (match H.cellsAt n off len with
        | some l => (match bytesOf l with | some b => some (.str b) | none => none)
        | none => none) else none
    | _, _, _ => none
  | .call { callee := .builtin .len, args := ⟨[x]⟩, argTypes := ⟨[t]⟩ } => match P.underlying t, opnd gl tm x with
    | some (.map _ _), some (.map n) => (match H.get n with
      | some (.map es) => some (.int .i64 (es.length : Int))
      | _ => none)
    | _, _ => none
  | _ => none

def zerosL (z : List V) (n : Nat) : List V := (List.range n).map fun i => z.getD (i % z.length) .undef
def zerosBase (z : List V) (i : Nat) : Option V := z[i % z.length]?
/-- Cells of a row to be appended, or copied. -/
def rowCells (H : Hp) (esz : Nat) (k : Nat) : V → Option (List V)
  | .nilslice | .tail _ _ _ _ => if k = 0 then some [] else none
  | .slice n off len _ _ => if k ≤ len then H.cellsAt n off (k * esz) else none
  | .str s => if k ≤ s.length ∧ esz = 1 then some ((s.take k).map fun b => .int .u8 (b.toNat : Int)) else none
  | _ => none
def rowLen : V → Option Nat
  | .nilslice | .tail _ _ _ _ => some 0
  | .slice _ _ len _ _ => some len
  | .str s => some s.length
  | _ => none
def notInt : TypeDesc → Bool
  | .int _ => false
  | _ => true
def mostRow : Nat := 1099511627776
/-- A row behind a row; one that has grown into more room than is known is moved: its elder name is dead. -/
def appendV (e : TypeId) (H : Hp) (s x : V) : Option (V × Hp) :=
  match sizeV P e, bytesV P e, zeroV P e, rowLen x with
  | some esz, some by_, some z, some m =>
    if by_ ≤ 64 ∧ z.cells.length = esz ∧ 0 < esz then
    match rowCells H esz m x with
    | none => none
    | some new => match s with
      | .nilslice => if m = 0 then some (.nilslice, H) else if m ≤ mostRow then some (.slice H.next 0 m 0 false, H.push (newCells new esz)) else none
      | .slice n off len c ex =>
        if m = 0 then (if ex = false ∨ len ≤ c then some (s, H) else none)
        else if ex = true ∧ len + m ≤ c then (match H.store n (off + len * esz) new with
          | some H' => some (.slice n off (len + m) c true, H')
          | none => none)
        else if len + m ≤ mostRow then (match H.cellsAt n off (len * esz) with
          | none => none
          | some old =>
            if ex then some (.slice H.next 0 (len + m) 0 false, H.push (newCells (old ++ new) esz))
            else (match H.get n with
              | some (.cells size _ _ g false) => if g = esz ∧ off = c * esz ∧ off + len * esz = size then
                  some (.slice H.next 0 (len + m) 0 false, (H.set n .dead).push (newCells (old ++ new) esz)) else none
              | _ => none))
        else none
      | .tail n _ off' c =>
        if m = 0 then some (s, H) else if m ≤ mostRow then (match H.get n with
          | some (.cells size _ _ g false) => if g = esz ∧ off' = c * esz ∧ off' = size then
              some (.slice H.next 0 m 0 false, (H.set n .dead).push (newCells new esz)) else none
          | _ => none)
        else none
      | _ => none
    else none
  | _, _, _, _ => none

/-- What makes memory: what stands there, and the value, by the new name. -/
def allocV (tm : List V) (o : Op) : Option (Ob × (Nat → V)) :=
  match o with
  | .alloc t => match zeroV P t with
    | some z => if z.cells.all V.one then some (newCells z.cells 0, fun n => .ptr n 0) else none
    | none => none
  | .box _ x => match opnd gl tm x with
    | some v => if v.cells.all V.one then some (newCells v.cells 0, fun n => .ptr n 0) else none
    | none => none
  | .buildSlice t len ps => match P.underlying t, parts gl tm ps.toList with
    | some (.slice e), some l => (match sizeV P e, zeroV P e with
      | some s, some z => if len * s ≤ 16777216 ∧ z.cells.length = s then
          (match fillV (fun i => some (i * s, s)) (zerosL z.cells (len * s)) l with
          | some cs => if cs.all V.one then some (newCells cs 0, fun n => .slice n 0 len len true) else none
          | none => none) else none
      | _, _ => none)
    | _, _ => none
  | .makeSlice t a b => match P.underlying t, opnd gl tm a, opnd gl tm b with
    | some (.slice e), some (.int _ l), some (.int _ c) => (match sizeV P e, bytesV P e, zeroV P e with
      | some s, some by_, some z => if 0 ≤ l ∧ l ≤ c ∧ c ≤ 1099511627776 ∧ by_ ≤ 64 ∧ z.cells.length = s ∧ z.cells.all V.one = true then
          some (.cells (c.toNat * s) .lf (zerosBase z.cells) 0 false, fun n => .slice n 0 l.toNat c.toNat true) else none
      | _, _, _ => none)
    | _, _, _ => none
  | .makeMap _ none => some (.map [], fun n => .map n)
  | .convert s d x => match P.underlying s, P.underlying d, opnd gl tm x with
    | some .string, some (.slice e), some (.str b) => (match P.underlying e with
      | some (.int .u8) => some (newCells (b.map fun c => .int .u8 (c.toNat : Int)) 1, fun n => .slice n 0 b.length 0 false)
      | _ => none)
    | _, _, _ => none
  | _ => none

/-- What turns memory; no call. -/
def effV (tm : List V) (H : Hp) (o : Op) : Option (V × Hp) :=
  match o with
  | .store t x v => match opnd gl tm x, opnd gl tm v, sizeV P t with
    | some (.ptr n off), some v, some s => if v.cells.length = s then
        (match H.store n off v.cells with
        | some H' => some (.undef, H')
        | none => none) else none
    | _, _, _ => none
  | .mapUpdate t m k v | .insert t m k v => match P.underlying t, opnd gl tm m, opnd gl tm k, opnd gl tm v with
    | some (.map kt _), some (.map n), some k, some v => if keyKind P kt k then
        (match H.get n with
        | some (.map es) => (match findV k es 0 with
          | some (some (i, _)) => some (.undef, H.set n (.map (es.set i (k, v))))
          | some none => some (.undef, H.set n (.map (es ++ [(k, v)])))
          | none => none)
        | _ => none) else none
    | _, _, _, _ => none
  | .call { callee := .builtin .append, args := ⟨[s, x]⟩, argTypes := ⟨[t, u]⟩ } => match P.underlying t, P.underlying u, opnd gl tm s, opnd gl tm x with
    | some (.slice e), some u, some s, some x => if notInt u then appendV P e H s x else none
    | _, _, _, _ => none
  | .call { callee := .builtin .copy, args := ⟨[d, x]⟩, argTypes := ⟨[t, _]⟩ } => match P.underlying t, opnd gl tm d, opnd gl tm x with
    | some (.slice e), some d, some x => (match sizeV P e, rowLen x, d with
      | some _, some _, .nilslice => some (.int .i64 0, H)
      | some _, some _, .tail _ _ _ _ => some (.int .i64 0, H)
      | some esz, some m, .slice n off len _ _ => (match rowCells H esz (min m len) x with
        | some cs => (match H.store n off cs with
          | some H' => some (.int .i64 (min m len : Nat), H')
          | none => none)
        | none => none)
      | _, _, _ => none)
    | _, _, _ => none
  | .call { callee := .builtin .clear, args := ⟨[d]⟩, argTypes := ⟨[t]⟩ } => match P.underlying t, opnd gl tm d with
    | some (.slice _), some .nilslice => some (.undef, H)
    | some (.slice e), some (.slice n off len _ _) => (match sizeV P e, zeroV P e with
      | some s, some z => if z.cells.length = s then (match H.store n off (zerosL z.cells (len * s)) with
          | some H' => some (.undef, H')
          | none => none) else none
      | _, _ => none)
    | _, _ => none
  | _ => none

/-! ### Code -/
inductive Ex where
  | normal
  | exit (id : Nat)
  | ret

abbrev Call := FuncId → List V → Hp → Option (V × Hp)
/-- What an operation calls, with which arguments. -/
def calleeV (tm : List V) (o : Op) : Option (V × List V) :=
  match o with
  | .call { callee := .value f, args := as, argTypes := _ } => match opnd gl tm f, opnds gl tm as.toList with
    | some f, some l => some (f, l)
    | _, _ => none
  | _ => none
def isEff : Op → Bool
  | .store _ _ _ | .mapUpdate _ _ _ _ | .insert _ _ _ _ => true
  | .call { callee := .builtin b, .. } => (match b with | .len | .min | .max => false | _ => true)
  | .call _ => true
  | _ => false
def callV (call : Call) (yld : Nat → List V → Hp → Option (V × Hp)) (f : V) (args : List V) (H : Hp) : Option (V × Hp) :=
  match f with
  | .fn f a c => call f (a.toL ++ args ++ c.toL) H
  | .yield l => yld l args H
  | _ => none
/-- An operation that turns no memory. -/
def neV (tm : List V) (H : Hp) (o : Op) : Option V :=
  match pureV P gl tm o with
  | some v => some v
  | none => readV P gl tm H o
def opV (call : Call) (yld : Nat → List V → Hp → Option (V × Hp)) (tm : List V) (H : Hp) (o : Op) : Option (V × Hp) :=
  if isEff o then
    match calleeV gl tm o with
    | some (f, args) => callV call yld f args H
    | none => effV P gl tm H o
  else match neV P gl tm H o with
    | some v => some (v, H)
    | none => match allocV P gl tm o with
      | some (ob, mk) => some (mk H.next, H.push ob)
      | none => none
def putV (tm : List V) (d : Option Tmp) (v : V) : List V :=
  match d with
  | some t => tm.set t v
  | none => tm
def boolAt (ops : Array Oper) (tm : List V) (j : Nat) : Option Bool :=
  match (ops[j]?).bind (·.dst) with
  | some t => (match tm[t]? with
    | some (.bool b) => some b
    | _ => none)
  | none => none
def wantedV (ops : Array Oper) (tm : List V) (o : Oper) : Bool :=
  match o.guard with
  | none => true
  | some (j, want) => boolAt ops tm j == some want
/-- The operations of a region, in the order of the text. -/
def opsV (call : Call) (yld : Nat → List V → Hp → Option (V × Hp)) (ops : Array Oper) : List Oper → List V → Hp → Option (List V × Hp)
  | [], tm, H => some (tm, H)
  | o :: rest, tm, H =>
    if wantedV ops tm o then
      match opV P gl call yld tm H o.op with
      | some (v, H') => opsV call yld ops rest (putV tm o.dst v) H'
      | none => none
    else opsV call yld ops rest (putV tm o.dst .undef) H

/-! ### A region that draws its order -/
def maskEdges (acc : Array Nat) : List Edge → Nat
  | [] => 0
  | e :: l => if Region.binds .any e then 2 ^ e.on ||| acc.getD e.on 0 ||| maskEdges acc l else maskEdges acc l
def masksGo : List Oper → Array Nat → Array Nat
  | [], acc => acc
  | o :: l, acc => masksGo l (acc.push (maskEdges acc o.after.toList))
/-- Of each operation: which stand ahead of it, in bits. -/
def masks (ops : Array Oper) : Array Nat := masksGo ops.toList #[]
/-- No other operation lays where this one does. -/
def loneDst (ops : Array Oper) (i : Nat) (o : Oper) : Bool :=
  match o.dst with
  | none => true
  | some d => (List.range ops.size).all fun j => j == i || match ops[j]? with
    | some p => p.dst != some d
    | none => true
/-- May it be done as soon as may be? -/
def floats (ops : Array Oper) (listed : Array Bool) (i : Nat) : Bool :=
  match ops[i]? with
  | some o => !isEff o.op && Region.free .any ops listed i && loneDst ops i o
  | none => false
/-- In which order: what turns no memory as soon as may be; what does, one alone being ready. -/
def planV (ops : Array Oper) : Nat → Array Bool → Option (List Nat)
  | 0, listed => if Region.ready .any ops listed = [] then some [] else none
  | k + 1, listed =>
    match (Region.ready .any ops listed).find? (floats ops listed) with
    | some i => (match planV ops k (listed.setIfInBounds i true) with | some l => some (i :: l) | none => none)
    | none => match Region.ready .any ops listed with
      | [i] => (match planV ops k (listed.setIfInBounds i true) with | some l => some (i :: l) | none => none)
      | _ => none
/-- A read that was made: by which operation, on which temporaries, what. -/
structure Read where
  i : Nat
  o : Op
  tm : List V
  v : V
def sameV : V → V → Bool
  | .bool a, .bool b => a == b
  | .int k a, .int l b => k == l && a == b
  | .str a, .str b => a == b
  | .nilptr, .nilptr | .nilslice, .nilslice | .nilmap, .nilmap | .nilfn, .nilfn | .nil, .nil => true
  | .ptr a b, .ptr c d => a == c && b == d
  | .slice a b c d e, .slice a' b' c' d' e' => a == a' && b == b' && c == c' && d == d' && e == e'
  | .tail a b c d, .tail a' b' c' d' => a == a' && b == b' && c == c' && d == d'
  | .map a, .map b | .yield a, .yield b => a == b
  | .fn f a b, .fn g c d => f == g && sameV a c && sameV b d
  | .cons a b, .cons c d => sameV a c && sameV b d
  | .agg a, .agg b | .tup a, .tup b => sameV a b
  | _, _ => false
def stillV (ms : Array Nat) (j : Nat) (H : Hp) : List Read → Bool
  | [] => true
  | r :: l => ((ms.getD j 0).testBit r.i || (match readV P gl r.tm H r.o with | some v => sameV v r.v | none => false)) && stillV ms j H l
def drawV (call : Call) (yld : Nat → List V → Hp → Option (V × Hp)) (ops : Array Oper) (ms : Array Nat) : List Nat → List Read → List V → Hp → Option (List V × Hp)
  | [], _, tm, H => some (tm, H)
  | i :: rest, rd, tm, H => match ops[i]? with
    | none => none
    | some o =>
      if wantedV ops tm o then
        if isEff o.op then
          match opV P gl call yld tm H o.op with
          | some (v, H') => if stillV P gl ms i H' rd then drawV call yld ops ms rest rd (putV tm o.dst v) H' else none
          | none => none
        else match pureV P gl tm o.op with
          | some v => drawV call yld ops ms rest rd (putV tm o.dst v) H
          | none => match readV P gl tm H o.op with
            | some v => drawV call yld ops ms rest (⟨i, o.op, tm, v⟩ :: rd) (putV tm o.dst v) H
            | none => match allocV P gl tm o.op with
              | some (ob, mk) => drawV call yld ops ms rest rd (putV tm o.dst (mk H.next)) (H.push ob)
              | none => none
      else if !isEff o.op || stillV P gl ms i H rd then drawV call yld ops ms rest rd (putV tm o.dst .undef) H else none

structure St where
  tm : List V
  marks : List Nat
def loopV (f : St → Hp → Option (Ex × St × Hp)) : Nat → St → Hp → Option (Ex × St × Hp)
  | 0, _, _ => none
  | k + 1, s, H => match f s H with
    | some (.normal, s', H') => loopV f k s' H'
    | r => r
/-- The loop's record: where the deferred calls of the rounds would go. -/
def dnOf (H : Hp) : Option Nat → Option (Nat × List Nat × Hp)
  | some l => match H.get l with
    | some (.loop _ _ _ _ _ _ dn) => some (dn, [], H)
    | _ => none
  | none => some (H.next, [H.next], H.push .defd)
def codeV (call : Call) (yld : Nat → List V → Hp → Option (V × Hp)) (rnd : Option Nat) (k : Nat) : Code → St → Hp → Option (Ex × St × Hp)
  | .skip, s, H => some (.normal, s, H)
  | .region _ ops false, s, H => match opsV P gl call yld ops ops.toList s.tm H with
    | some (tm, H') => some (.normal, ⟨tm, s.marks⟩, H')
    | none => none
  | .region _ ops true, s, H => match planV ops ops.size (Array.replicate ops.size false) with
    | some pl => (match drawV P gl call yld ops (masks ops) pl [] s.tm H with
      | some (tm, H') => some (.normal, ⟨tm, s.marks⟩, H')
      | none => none)
    | none => none
  | .seq a b, s, H => match codeV call yld rnd k a s H with
    | some (.normal, s', H') => codeV call yld rnd k b s' H'
    | r => r
  | .cond c a b, s, H => match opnd gl s.tm c with
    | some (.bool true) => codeV call yld rnd k a s H
    | some (.bool false) => codeV call yld rnd k b s H
    | _ => none
  | .block id c, s, H => match codeV call yld rnd k c s H with
    | some (.exit id', s', H') => if id' = id then some (.normal, s', H') else some (.exit id', s', H')
    | r => r
  | .loop c, s, H => loopV (codeV call yld rnd k c) k s H
  | .rangeFunc f ps a b, s, H => match opnd gl s.tm f with
    | some (.fn g x y) => if ((P.funcs[g]?).bind (·.body)).isNone then none else (match dnOf H rnd with
      | some (dn, mk, H1) =>
        let l := H1.next
        (match call g (x.toL ++ [.yield l] ++ y.toL) (H1.push (.loop .ready none s.tm ps a b dn)) with
        | some (_, H2) => (match H2.get l with
          | some (.loop st pend tm' ps' a' b' dn') =>
            if st = .busy then none else
            (let H3 := H2.set l (.loop .exhausted pend tm' ps' a' b' dn')
            match pend with
            | none => some (.normal, ⟨s.tm, mk ++ s.marks⟩, H3)
            | some .ret => some (.ret, ⟨s.tm, mk ++ s.marks⟩, H3)
            | some (.exit id) => some (.exit id, ⟨s.tm, mk ++ s.marks⟩, H3)
            | _ => none)
          | _ => none)
        | none => none)
      | none => none)
    | _ => none
  | .exit id, s, H => some (.exit id, s, H)
  | .ret, s, H => some (.ret, s, H)
  | _, _, _ => none

def unmark : List Nat → Hp → Option Hp
  | [], H => some H
  | r :: l, H => match H.get r with
    | some .defd => unmark l (H.set r .dead)
    | _ => none
def resultV (H : Hp) (tm : List V) : ResultVar → Option V
  | .tmp t => some (tm.getD t .undef)
  | .cell a t => match tm.getD a .undef with
    | .ptr n off => loadV P H t n off
    | _ => none
def resultsV (H : Hp) (tm : List V) : List ResultVar → Option (List V)
  | [] => some []
  | r :: l => match resultV P H tm r with
    | some v => (match resultsV H tm l with | some m => some (v :: m) | none => none)
    | none => none
def packV : List V → V
  | [v] => v
  | l => .tup (V.ofL l)
def putAllV (tm : List V) : List (Tmp × V) → List V
  | [] => tm
  | (t, v) :: l => putAllV (tm.set t v) l

def findByte (c : UInt8) : List UInt8 → Nat → Int
  | [], _ => -1
  | b :: l, i => if b == c then (i : Int) else findByte c l (i + 1)
/-- What has no body. -/
def extV (name : String) (args : List V) : Option V :=
  if name = "internal/bytealg.IndexByteString" then
    match args with
    | [.str s, .int .u8 c] => some (.int .i64 (findByte c.toNat.toUInt8 s 0))
    | _ => none
  else none
/-- A function, by what its calls and rounds yield. -/
def fnV (call : Call) (yld : Nat → List V → Hp → Option (V × Hp)) (n : Nat) (f : Nat) (args : List V) (H : Hp) : Option (V × Hp) :=
  match P.funcs[f]? with
    | some fn => if fn.name = "runtime.NumGoroutine" then none else
      (match fn.body with
      | some c => (match codeV P gl call yld none n c ⟨args ++ List.replicate (fn.ntmps - args.length) .undef, []⟩ H with
        | some (ex, s, H') => (match ex with
          | .exit _ => none
          | _ => match unmark s.marks H' with
            | some H'' => (match resultsV P H'' s.tm fn.results.toList with
              | some vs => some (packV vs, H'')
              | none => none)
            | none => none)
        | none => none)
      | none => if fn.origin = "" then (match extV fn.name args with
        | some v => some (v, H)
        | none => none) else none)
    | none => none
/-- A round. -/
def roundV (call : Call) (yld : Nat → List V → Hp → Option (V × Hp)) (n : Nat) (l : Nat) (args : List V) (H : Hp) : Option (V × Hp) :=
  match H.get l with
    | some (.loop _ _ tm ps a b _) => if args.length = ps.size then
        (match codeV P gl call yld (some l) n a ⟨putAllV tm (ps.toList.zip args), []⟩ H with
        | some (.normal, s, H1) => (match H1.get l with
          | some (.loop .ready pend tm' ps' a' b' dn') =>
            (match codeV P gl call yld (some l) n b s (H1.set l (.loop .busy pend tm' ps' a' b' dn')) with
            | some (ex, s2, H2) => if s2.marks = [] then (match H2.get l with
              | some (.loop _ _ tm' ps' a' b' dn') => (match ex with
                | .normal => some (.bool true, H2.set l (.loop .ready none tm' ps' a' b' dn'))
                | .ret => some (.bool false, H2.set l (.loop .done (some .ret) tm' ps' a' b' dn'))
                | .exit id => some (.bool false, H2.set l (.loop .done (some (.exit id)) tm' ps' a' b' dn')))
              | _ => none) else none
            | none => none)
          | _ => none)
        | _ => none) else none
    | _ => none
/-- A function (false), or a round (true). -/
def evGo : Nat → Bool × Nat → List V → Hp → Option (V × Hp)
  | 0, _, _, _ => none
  | n + 1, (false, f), args, H => fnV P gl (fun g a H => evGo n (false, g) a H) (fun l a H => evGo n (true, l) a H) n f args H
  | n + 1, (true, l), args, H => roundV P gl (fun g a H => evGo n (false, g) a H) (fun l a H => evGo n (true, l) a H) n l args H
def evFn (n : Nat) (f : FuncId) (args : List V) (H : Hp) : Option (V × Hp) := evGo P gl n (false, f) args H
def Hp.empty : Hp := ⟨0, .lf⟩
end
end Go.Ev
