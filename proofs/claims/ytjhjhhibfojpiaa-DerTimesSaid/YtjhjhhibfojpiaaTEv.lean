/- An abstract evaluator of the model's code: values with names for blocks, memory as a list of blocks; what it answers holds of every run. Own work. -/
import Derived.Orders
import Derived.WalkKit
import Derived.KernelRfl
set_option linter.unusedSimpArgs false
set_option linter.unusedVariables false
set_option linter.unusedSectionVars false
namespace Go.Ev

/-- Abstract values. A mark 's' says: symbolic (a test on it is not computed, but handed on). -/
inductive AV where
  | top
  | bool (s : Bool) (b : Bool)
  | int (s : Bool) (k : IntKind) (n : Int)
  | str (s : Bool) (l : List Int)
  | ptr (s : Bool) (n o : Nat)
  | nilptr
  | slice (s : Bool) (n o len : Nat) (cap : Option Nat) (e : Nat)
  | nilslice
  | ints (k : IntKind) (n : Nat) (l : List Int)
  | agg (l : List AV)
  | tuple (l : List AV)
  | grd (c : Bool) (a : AV)
  | func (f : FuncId) (cap : List AV)
  | nilfunc
  | iface (t : TypeId) (a : AV)
  | niliface
  /-- Cells, some of them kept together as rows of numbers. -/
  | wagg (l : List AV)
  /-- A place of the row of numbers that begins at b in the block n; a slice of it. -/
  | wptr (s : Bool) (n b o : Nat)
  | wslice (s : Bool) (n b o len : Nat) (cap : Option Nat)
  /-- A place of a package's variable that is never written. -/
  | gptr (s : Bool) (g o : Nat)
  /-- An array of tests, by value. -/
  | bools (n : Nat) (l : List Bool)

inductive Cells where
  | vals (l : List AV)
  | ints (k : IntKind) (n : Option Nat) (l : List Int)
  | wide (l : List AV)
  | bools (n : Nat) (l : List Bool)
  /-- As rows, and of one cell it is known what it is. -/
  | one (n : Nat) (r : Nat → Value) (i : Nat) (a : AV)
  /-- The cells hold these values, whatever they are. -/
  | rows (n : Nat) (r : Nat → Value)

/-- What the package's variables that are never written hold. -/
class Tab where
  T : Nat → Option Cells
  /-- Blocks that nobody writes, and what is known of them. -/
  pb : Nat → Prop := fun _ => False
  fact : World → Prop := fun _ => True
  keep : ∀ w w' : World, fact w → (∀ G, pb G → G < w.heap.size → w'.heap[G]? = w.heap[G]?) → fact w' := by exact fun _ _ _ _ => trivial
  inh : ∀ (w : World) (G : Nat), fact w → pb G → G < w.heap.size := by exact fun _ _ _ h => h.elim
def Held [Tab] (G : Nat) (c : Cells) : Prop := Tab.T G = some c ∨ Tab.pb G

structure Blk where
  rw : Bool
  c : Cells

abbrev Mem := List (Option Blk)

/-- What is owed, and an answer. -/
abbrev E (α : Type) := Option (List Bool × α)
def E.pure {α : Type} (a : α) : E α := some ([], a)
def E.bind {α β : Type} (x : E α) (f : α → E β) : E β :=
  match x with
  | none => none
  | some (o, a) => match f a with
    | none => none
    | some (p, b) => some (o ++ p, b)
def chk (s : Bool) (p : Bool) : E Unit :=
  match s with
  | true => some ([p], ())
  | false => match p with
    | true => some ([], ())
    | false => none

def isInts (k : IntKind) : List AV → Option (List Int)
  | [] => some []
  | .int _ k' n :: r => if k' = k then (isInts k r).map (n :: ·) else none
  | _ => none

def isBools : List AV → Option (List Bool)
  | [] => some []
  | .bool _ b :: r => (isBools r).map (b :: ·)
  | _ => none
/-- An aggregate of its cells: numbers of one kind, four or more, are kept as numbers; so are tests, five or more. -/
def mkAgg (l : List AV) : AV :=
  match l with
  | .int _ k a :: r =>
    match isInts k r with
    | some ns => if 3 ≤ ns.length then .ints k (ns.length + 1) (a :: ns) else .agg l
    | none => .agg l
  | .bool _ b :: r =>
    match isBools r with
    | some bs => if 4 ≤ bs.length then .bools (bs.length + 1) (b :: bs) else .agg l
    | none => .agg l
  | _ => .agg l

def spreadB (n : Nat) (l : List Bool) : List AV := (List.range n).map fun i => .bool true (l.getD i false)
def spread (k : IntKind) (n : Nat) (l : List Int) : List AV := (List.range n).map fun i => .int true k (l.getD i 0)

def alive : AV → Bool
  | .top | .grd .. | .tuple _ => false
  | _ => true

def width : AV → Nat
  | .ints _ n _ => n
  | _ => 1
def wlen : List AV → Nat
  | [] => 0
  | a :: r => width a + wlen r
def exp : List AV → List AV
  | [] => []
  | .ints k n l :: r => spread k n l ++ exp r
  | a :: r => a :: exp r
def part1 : AV → Bool
  | .agg _ | .tuple _ | .top | .grd .. | .wagg _ | .bools .. => false
  | _ => true
/-- The part at a place, and the place in it. -/
def locW : List AV → Nat → Option (AV × Nat)
  | [], _ => none
  | a :: r, o => match decide (o < width a) with | true => some (a, o) | false => locW r (o - width a)
def cellW : AV → Nat → AV
  | .ints k _ l, j => .int true k (l.getD j 0)
  | a, _ => a
def setW : List AV → Nat → AV → Option (List AV)
  | [], _, _ => none
  | a :: r, o, v => match decide (o < width a) with
    | true => match a, v with
      | .ints k n l, .int _ k' x => if k' = k then some (.ints k n (l.set o x) :: r) else none
      | .ints .., _ => none
      | _, v => some (v :: r)
    | false => (setW r (o - width a) v).map (a :: ·)
def dropW : List AV → Nat → Option (List AV)
  | l, 0 => some l
  | [], _ + 1 => none
  | a :: r, o + 1 => match decide (width a ≤ o + 1) with | true => dropW r (o + 1 - width a) | false => none
def takeW : List AV → Nat → Option (List AV)
  | _, 0 => some []
  | [], _ + 1 => none
  | a :: r, o + 1 => match decide (width a ≤ o + 1) with | true => (takeW r (o + 1 - width a)).map (a :: ·) | false => none
def partW (l : List AV) (b : Nat) : Option (IntKind × Nat × List Int) :=
  match dropW l b with
  | some (.ints k n xs :: _) => some (k, n, xs)
  | _ => none
def putW (l : List AV) (b : Nat) (xs : List Int) : Option (List AV) :=
  match takeW l b, dropW l b with
  | some p, some (.ints k n _ :: r) => some (p ++ .ints k n xs :: r)
  | _, _ => none
def mkW (l : List AV) : AV :=
  match l with
  | [.ints k n xs] => .ints k n xs
  | l => match l.all fun a => match a with | .ints .. => false | _ => true with
    | true => mkAgg l
    | false => .wagg l
/-- What is to be laid upon cells of a shape. -/
def partsW (mid : List AV) (v : AV) : List AV :=
  match v with
  | .ints k n xs => (match mid with
    | .ints k' n' _ :: _ => if k' = k ∧ n' = n then [.ints k n xs] else spread k n xs
    | _ => spread k n xs)
  | .agg l => (match l.all fun a => match a with | .ints .. => false | _ => true with | true => l | false => [.top])
  | .wagg l => l
  | v => [v]
def layW (l : List AV) (o n : Nat) (v : AV) : Option (List AV) :=
  match takeW l o, dropW l o with
  | some p, some mid => match dropW mid n with
    | some r => match decide (wlen (partsW mid v) = n) && (partsW mid v).all part1 && alive v with
      | true => some (p ++ partsW mid v ++ r)
      | false => none
    | none => none
  | _, _ => none

def cellsOf : AV → List AV
  | .ints k n l => spread k n l
  | .bools n l => spreadB n l
  | .agg l => l
  | .wagg l => exp l
  | v => [v]

def toCells : AV → Cells
  | .ints k n l => .ints k (some n) l
  | .bools n l => .bools n l
  | .agg l => .vals l
  | .wagg l => .wide l
  | v => .vals [v]

def lo : IntKind → Int
  | .i8 => -128 | .i16 => -32768 | .i32 => -2147483648 | .i64 => -9223372036854775808 | _ => 0
def hi : IntKind → Int
  | .i8 => 127 | .i16 => 32767 | .i32 => 2147483647 | .i64 => 9223372036854775807
  | .u8 => 255 | .u16 => 65535 | .u32 => 4294967295 | .u64 => 18446744073709551615
def inR (k : IntKind) (n : Int) : Bool := decide (lo k ≤ n) && decide (n ≤ hi k)

def ofScalar : Value → Option AV
  | .bool b => some (.bool false b)
  | .int k n => match inR k n with | true => some (.int false k n) | false => none
  | .string s => some (.str false (s.data.toList.map fun b => (b.toNat : Int)))
  | .pointer none => some .nilptr
  | .slice none 0 0 => some .nilslice
  | .nilFunc => some .nilfunc
  | .nilIface => some .niliface
  | _ => none

def ofScalars : List Value → Option (List AV)
  | [] => some []
  | v :: r => match ofScalar v, ofScalars r with
    | some a, some l => some (a :: l)
    | _, _ => none

def ofValue (v : Value) : Option AV :=
  match v with
  | .agg cs => (ofScalars cs.toList).map mkAgg
  | v => ofScalar v

def scalar : AV → Bool
  | .ints .. | .agg _ | .tuple _ | .top | .grd .. | .wagg _ | .bools .. => false
  | _ => true

def getName (m : Mem) (n : Nat) : Option Blk := match m[n]? with | some (some b) => some b | _ => none

section
variable (P : Program)

def aggSize (t : TypeId) : Option (Option Nat) :=   -- some none: no aggregate
  match P.underlying t with
  | some (.struct _) | some (.array _ _) => (P.info? t).map fun i => some i.size
  | some _ => some none
  | none => none

def szOf (t : TypeId) : Option Nat := (P.info? t).map (·.size)
def isK (e : TypeId) (k : IntKind) : Bool := match P.underlying e with | some (.int k') => decide (k' = k) | _ => false
def is1 (e : TypeId) : Bool := match szOf P e with | some 1 => true | _ => false

/-- Is [o, o + n) inside? -/
def inB (s : Bool) (sz : Option Nat) (len o n : Nat) : E Unit :=
  match sz with
  | some m => chk s (decide (o + n ≤ m))
  | none => chk true (decide (o + n ≤ len))

def getCell (c : Cells) (s : Bool) (o : Nat) : E AV :=
  match c with
  | .vals l => match l[o]? with | some a => E.pure a | none => none
  | .ints k sz l => E.bind (inB s sz l.length o 1) fun _ => E.pure (.int true k (l.getD o 0))
  | .wide l => match locW l o with | some (a, j) => E.pure (cellW a j) | none => none
  | .bools n l => E.bind (chk s (decide (o + 1 ≤ n))) fun _ => E.pure (.bool true (l.getD o false))
  | .one _ _ i a => E.bind (chk true (decide (o = i))) fun _ => E.pure a
  | .rows .. => none

def getAgg (c : Cells) (s : Bool) (o n : Nat) : E AV :=
  match c with
  | .vals l => if o + n ≤ l.length then E.pure (mkAgg ((l.drop o).take n)) else none
  | .ints k sz l =>
    match s, sz with
    | false, some m => if o = 0 ∧ n = m then E.pure (.ints k n l) else if o + n ≤ m then E.pure (.ints k n ((l.drop o).take n)) else none
    | _, _ => E.bind (inB s sz l.length o n) fun _ => E.pure (.ints k n ((l.drop o).take n))
  | .wide l => match dropW l o with
    | some q => match takeW q n with
      | some r => E.pure (mkW r)
      | none => none
    | none => none
  | .bools m l => if s = false ∧ o = 0 ∧ n = m then E.pure (.bools n l) else none
  | .one .. => none
  | .rows .. => none

/-- A row of numbers, as cells of its own. -/
def rowC (b : Blk) (at' : Nat) : Option Cells :=
  match b.c with
  | .wide l => match partW l at' with | some (k, n, xs) => some (.ints k (some n) xs) | none => none
  | _ => none
def putC (b : Blk) (at' : Nat) (c : Cells) : Option Blk :=
  match b.c, c with
  | .wide l, .ints k2 _ xs => match partW l at' with
    | some (k, _, _) => if k = k2 then (match putW l at' xs with | some l' => some ⟨b.rw, .wide l'⟩ | none => none) else none
    | none => none
  | _, _ => none

def loadA [Tab] (m : Mem) (t : TypeId) (a : AV) : E AV :=
  match a with
  | .wptr s n b o =>
    match getName m n, aggSize P t with
    | some bl, some (some sz) => match rowC bl b with | some c => getAgg c s o sz | none => none
    | some bl, some none => match rowC bl b with | some c => getCell c s o | none => none
    | _, _ => none
  | .gptr s g o =>
    match Tab.T g, aggSize P t with
    | some c, some (some sz) => getAgg c s o sz
    | some c, some none => getCell c s o
    | _, _ => none
  | .ptr s n o =>
    match getName m n, aggSize P t with
    | some b, some (some sz) => getAgg b.c s o sz
    | some b, some none => getCell b.c s o
    | _, _ => none
  | _ => none

def setCell (c : Cells) (s : Bool) (o : Nat) (v : AV) : E Cells :=
  match c with
  | .vals l => if o < l.length then E.pure (.vals (l.set o v)) else none
  | .ints k sz l =>
    match v with
    | .int _ k' x => if k' = k then E.bind (inB s sz l.length o 1) fun _ => E.pure (.ints k sz (l.set o x)) else none
    | _ => none
  | .wide l => match setW l o v with | some l' => E.pure (.wide l') | none => none
  | .bools n l =>
    match v with
    | .bool _ x => E.bind (chk s (decide (o + 1 ≤ n))) fun _ => E.pure (.bools n (l.set o x))
    | _ => none
  | .one .. => none
  | .rows .. => none

def setAgg (c : Cells) (s : Bool) (o n : Nat) (v : AV) : E Cells :=
  match c, v with
  | .ints k sz l, .ints k' n' l' =>
    if k' = k ∧ n' = n then
      match s, sz with
      | false, some m => if o = 0 ∧ n = m then E.pure (.ints k sz l') else if o + n ≤ m then E.pure (.ints k sz (l.take o ++ l' ++ l.drop (o + n))) else none
      | _, _ => E.bind (inB s sz l.length o n) fun _ => E.pure (.ints k sz (l.take o ++ l' ++ l.drop (o + n)))
    else none
  | .vals l, v =>
    let cs := cellsOf v
    if decide (cs.length = n) && decide (o + n ≤ l.length) && cs.all scalar && alive v then E.pure (.vals (l.take o ++ cs ++ l.drop (o + n))) else none
  | .wide l, v => match layW l o n v with | some l' => E.pure (.wide l') | none => none
  | .bools m _, .bools n' l' => if s = false ∧ o = 0 ∧ n = m ∧ n' = m then E.pure (.bools m l') else none
  | _, _ => none

def storeA (m : Mem) (t : TypeId) (a v : AV) : E Mem :=
  match a with
  | .wptr s n b o =>
    match getName m n, aggSize P t with
    | some bl, some (some sz) => if bl.rw then (match rowC bl b with
        | some c => E.bind (setAgg c s o sz v) fun c' => match putC bl b c' with | some bl' => E.pure (m.set n (some bl')) | none => none
        | none => none) else none
    | some bl, some none => if bl.rw && scalar v && is1 P t then (match rowC bl b with
        | some c => E.bind (setCell c s o v) fun c' => match putC bl b c' with | some bl' => E.pure (m.set n (some bl')) | none => none
        | none => none) else none
    | _, _ => none
  | .ptr s n o =>
    match getName m n, aggSize P t with
    | some b, some (some sz) => if b.rw then E.bind (setAgg b.c s o sz v) fun c => E.pure (m.set n (some ⟨true, c⟩)) else none
    | some b, some none => if b.rw && scalar v && is1 P t then E.bind (setCell b.c s o v) fun c => E.pure (m.set n (some ⟨true, c⟩)) else none
    | _, _ => none
  | _ => none

/- numbers -/
def iand (k : IntKind) (x y : Int) : Int := k.wrap (BitVec.ofInt k.bits x &&& BitVec.ofInt k.bits y).toNat
def ior (k : IntKind) (x y : Int) : Int := k.wrap (BitVec.ofInt k.bits x ||| BitVec.ofInt k.bits y).toNat
def ixor (k : IntKind) (x y : Int) : Int := k.wrap (BitVec.ofInt k.bits x ^^^ BitVec.ofInt k.bits y).toNat
def iandn (k : IntKind) (x y : Int) : Int := k.wrap (BitVec.ofInt k.bits x &&& ~~~ BitVec.ofInt k.bits y).toNat
def ishl (k : IntKind) (x y : Int) : Int := k.wrap (x * 2 ^ (min y.toNat k.bits))
def ishr (k : IntKind) (x y : Int) : Int := x.fdiv (2 ^ (min y.toNat k.bits))

def intOp (op : BinOp) (k : IntKind) (s : Bool) (x : Int) (t : Bool) (y : Int) : E AV :=
  match op with
  | .add => E.pure (.int (s || t) k (k.wrap (x + y)))
  | .sub => E.pure (.int (s || t) k (k.wrap (x - y)))
  | .mul => E.pure (.int (s || t) k (k.wrap (x * y)))
  | .quo => E.bind (chk t (!decide (y = 0))) fun _ => E.pure (.int (s || t) k (k.wrap (x.tdiv y)))
  | .rem => E.bind (chk t (!decide (y = 0))) fun _ => E.pure (.int (s || t) k (x.tmod y))
  | .and => E.pure (.int (s || t) k (iand k x y))
  | .or => E.pure (.int (s || t) k (ior k x y))
  | .xor => E.pure (.int (s || t) k (ixor k x y))
  | .andNot => E.pure (.int (s || t) k (iandn k x y))
  | .eql => E.pure (.bool (s || t) (x == y))
  | .neq => E.pure (.bool (s || t) (x != y))
  | .lss => E.pure (.bool (s || t) (decide (x < y)))
  | .leq => E.pure (.bool (s || t) (decide (x ≤ y)))
  | .gtr => E.pure (.bool (s || t) (decide (x > y)))
  | .geq => E.pure (.bool (s || t) (decide (x ≥ y)))
  | _ => none

/-- A value, as its type's. -/
def ifaceA (t : TypeId) (a : AV) : E AV :=
  match P.underlying t with
  | some (.interface _) => none
  | some _ => E.pure (.iface t a)
  | none => none
/-- The function that a method's name stands for, of a type that has it itself. -/
def methodA (t : TypeId) (name : String) : Option FuncId :=
  match P.info? t with
  | some i => match i.methods.find? (·.name == name) with
    | some m => match m.path.toList with
      | _ :: _ => none
      | [] => match m.func with
        | none => none
        | some (f, b) => match P.underlying t with
          | some (.pointer _) => (match b with | true => some f | false => none)
          | some _ => (match b with | true => none | false => some f)
          | none => none
    | none => none
  | none => none

/-- What is nil, and what isn't. -/
def nilEq (t : TypeId) (x y : AV) : Option Bool :=
  match P.underlying t, x, y with
  | some (.pointer _), .nilptr, .nilptr => some true
  | some (.pointer _), .ptr _ _ _, .nilptr => some false
  | some (.pointer _), .nilptr, .ptr _ _ _ => some false
  | some (.slice _), .nilslice, .nilslice => some true
  | some (.slice _), .slice _ _ _ _ _ _, .nilslice => some false
  | some (.slice _), .nilslice, .slice _ _ _ _ _ _ => some false
  | some (.interface _), .iface _ _, .niliface => some false
  | some (.interface _), .niliface, .iface _ _ => some false
  | some (.pointer _), .wptr _ _ _ _, .nilptr => some false
  | some (.pointer _), .nilptr, .wptr _ _ _ _ => some false
  | some (.pointer _), .gptr _ _ _, .nilptr => some false
  | some (.pointer _), .nilptr, .gptr _ _ _ => some false
  | some (.slice _), .wslice _ _ _ _ _ _, .nilslice => some false
  | some (.slice _), .nilslice, .wslice _ _ _ _ _ _ => some false
  | _, _, _ => none

def binA (op : BinOp) (t : TypeId) (x y : AV) : E AV :=
  match x, y with
  | .int s k a, .int s' k' b =>
    match op with
    | .shl => E.bind (chk s' (!decide (b < 0))) fun _ => E.pure (.int (s || s') k (ishl k a b))
    | .shr => E.bind (chk s' (!decide (b < 0))) fun _ => E.pure (.int (s || s') k (ishr k a b))
    | _ => if k = k' then intOp op k s a s' b else none
  | .bool s a, .bool s' b =>
    match op, P.underlying t with
    | .eql, some .bool => E.pure (.bool (s || s') (a == b))
    | .neq, some .bool => E.pure (.bool (s || s') (!(a == b)))
    | _, _ => none
  | .str s a, .str s' b =>
    match op with
    | .eql => E.pure (.bool (s || s') (decide (a = b)))
    | .neq => E.pure (.bool (s || s') (!decide (a = b)))
    | .add => E.bind (chk (s || s') (decide (a.length + b.length < 9223372036854775808))) fun _ => E.pure (.str (s || s') (a ++ b))
    | _ => none
  | .ints k n a, .ints k' n' b =>
    match op, P.underlying t, P.eqGuardType P.depth t with
    | .eql, some (.array len e), false =>
      if decide (k = k') && decide (n = len) && decide (n' = len) && isK P e k && is1 P e then E.pure (.bool true (decide (a = b))) else none
    | .neq, some (.array len e), false =>
      if decide (k = k') && decide (n = len) && decide (n' = len) && isK P e k && is1 P e then E.pure (.bool true (!decide (a = b))) else none
    | _, _, _ => none
  | x, y => match op, nilEq P t x y with
    | .eql, some b => E.pure (.bool false b)
    | .neq, some b => E.pure (.bool false (!b))
    | _, _ => none

def unA (op : UnOp) (x : AV) : E AV :=
  match op, x with
  | .neg, .int s k n => E.pure (.int s k (k.wrap (0 - n)))
  | .xor, .int s k n => E.pure (.int s k (ixor k (if k.signed then -1 else k.max) n))
  | .not, .bool s b => E.pure (.bool s (!b))
  | _, _ => none

/-- The numbers of a run of cells of one kind. -/
def getNums (c : Cells) (k : IntKind) (s : Bool) (o n : Nat) : E (List Int) :=
  match c with
  | .vals l => if o + n ≤ l.length then (match isInts k ((l.drop o).take n) with | some ns => E.pure ns | none => none) else none
  | .ints k' sz l =>
    if k' = k then
      match s, sz with
      | false, some m => if o = 0 ∧ n = m then E.pure l else if o + n ≤ m then E.pure ((l.drop o).take n) else none
      | _, _ => E.bind (inB s sz l.length o n) fun _ => E.pure ((l.drop o).take n)
    else none
  | .wide l => match dropW l o with
    | some q => match takeW q n with
      | some [.ints k' _ xs] => if k' = k then E.pure xs else none
      | some r => match isInts k (exp r) with | some ns => E.pure ns | none => none
      | none => none
    | none => none
  | .bools .. => none
  | .one .. => none
  | .rows .. => none

/-- The numbers that a slice shows: is its length symbolic, its length, they. -/
def numsA (m : Mem) (k : IntKind) (x : AV) : E (Bool × Nat × List Int) :=
  match x with
  | .slice false _ _ 0 _ 1 => E.pure (false, 0, [])
  | .slice s n o len _ 1 => match getName m n with
    | some b => E.bind (getNums b.c k s o len) fun l => E.pure (s, len, l)
    | none => none
  | .wslice s n b o len _ => match getName m n with
    | some bl => match rowC bl b with
      | some c => E.bind (getNums c k s o len) fun l => E.pure (s, len, l)
      | none => none
    | none => none
  | _ => none

def convA (m : Mem) (src dst : TypeId) (x : AV) : E AV :=
  match P.underlying src, P.underlying dst, x with
  | some _, some (.int k), .int s _ n => E.pure (.int s k (k.wrap n))
  | some (.slice e), some .string, .slice s n o len _ _ =>
    match P.underlying e, getName m n with
    | some (.int .u8), some b => E.bind (getNums b.c .u8 s o len) fun l => E.pure (.str true l)
    | some (.int .u8), none => (match s, len with | false, 0 => E.pure (.str true []) | _, _ => none)
    | _, _ => none
  | some (.slice e), some .string, .nilslice => if isK P e .u8 then E.pure (.str false []) else none
  | some (.slice e), some .string, .wslice s n b o len cap =>
    match P.underlying e with
    | some (.int .u8) => E.bind (numsA m .u8 (.wslice s n b o len cap)) fun (_, _, l) => E.pure (.str true l)
    | _ => none
  | some .string, some .string, .str s l => E.pure (.str s l)
  | _, _, _ => none

/-- Is there a row of so many numbers at a place of a block? -/
def isRow (m : Mem) (n o len : Nat) : Bool :=
  match getName m n with
  | some ⟨_, .wide l⟩ => (match partW l o with | some (_, n', _) => decide (n' = len) | none => false)
  | _ => false
def indexAddrA (m : Mem) (t : TypeId) (x i : AV) : E AV :=
  match P.underlying t, x, i with
  | some (.slice e), .wslice s n b o len _, .int s' _ i =>
    match szOf P e with
    | some sz => if sz = 1 then E.bind (chk (s || s') (decide (0 ≤ i) && decide (i < len))) fun _ => E.pure (.wptr (s || s') n b (o + i.toNat)) else none
    | none => none
  | some (.array len e), .wptr s n b o, .int s' _ i =>
    match szOf P e with
    | some sz => E.bind (chk s' (decide (0 ≤ i) && decide (i < len))) fun _ => E.pure (.wptr (s || s') n b (o + i.toNat * sz))
    | none => none
  | some (.array len e), .gptr s g o, .int s' _ i =>
    match szOf P e with
    | some sz => E.bind (chk s' (decide (0 ≤ i) && decide (i < len))) fun _ => E.pure (.gptr (s || s') g (o + i.toNat * sz))
    | none => none
  | some (.array len e), .ptr false n o, .int true _ i =>
    match szOf P e with
    | some sz => E.bind (chk true (decide (0 ≤ i) && decide (i < len))) fun _ => E.pure (match isRow m n o (len * sz) with
      | true => .wptr true n o (i.toNat * sz)
      | false => .ptr true n (o + i.toNat * sz))
    | none => none
  | some (.array len e), .ptr s n o, .int s' _ i =>
    match szOf P e with
    | some sz => E.bind (chk s' (decide (0 ≤ i) && decide (i < len))) fun _ => E.pure (.ptr (s || s') n (o + i.toNat * sz))
    | none => none
  | some (.slice e), .slice s n o len _ es, .int s' _ i =>
    match szOf P e with
    | some sz => if sz = es then E.bind (chk (s || s') (decide (0 ≤ i) && decide (i < len))) fun _ => E.pure (.ptr (s || s') n (o + i.toNat * sz)) else none
    | none => none
  | _, _, _ => none

def partA (t : TypeId) (cs : List AV) (off : Nat) : E AV :=
  match aggSize P t with
  | some (some sz) => if off + sz ≤ cs.length then E.pure (mkAgg ((cs.drop off).take sz)) else none
  | some none => match cs[off]? with | some v => E.pure v | none => none
  | none => none

/-- Are two values of a type the same? Numbers, tests, arrays of numbers, structs of them. -/
def eqFs (f : TypeId → AV → AV → Option Bool) (l q : List AV) : List Field → Option Bool
  | [] => some true
  | g :: gs => match decide (g.name = "_") with
    | true => eqFs f l q gs
    | false => match partA P g.type l g.offset, partA P g.type q g.offset with
      | some (_, a), some (_, b) => (match f g.type a b, eqFs f l q gs with | some c, some d => some (c && d) | _, _ => none)
      | _, _ => none
def eqF : Nat → TypeId → AV → AV → Option Bool
  | 0, _, _, _ => none
  | d + 1, t, x, y => match P.underlying t, x, y with
    | some .bool, .bool _ a, .bool _ b => some (a == b)
    | some (.int _), .int _ k a, .int _ k' b => (match decide (k = k') with | true => some (a == b) | false => none)
    | some (.array len e), .ints k n a, .ints k' n' b => (match decide (k = k') && decide (n = len) && decide (n' = len) && isK P e k && is1 P e with | true => some (decide (a = b)) | false => none)
    | some (.struct fs), .agg l, .agg q => (match P.stoodInHeld t with | true => none | false => eqFs P (eqF d) l q fs.toList)
    | _, _, _ => none
def binS (op : BinOp) (t : TypeId) (x y : AV) : E AV :=
  match op, x, y with
  | .eql, .agg l, .agg q => (match P.eqGuardType P.depth t, eqF P 9 t (.agg l) (.agg q) with | false, some b => E.pure (.bool true b) | _, _ => none)
  | .neq, .agg l, .agg q => (match P.eqGuardType P.depth t, eqF P 9 t (.agg l) (.agg q) with | false, some b => E.pure (.bool true (!b)) | _, _ => none)
  | op, x, y => binA P op t x y

/-- One row of an array of arrays of numbers. -/
def rowA (len : Nat) (e : TypeId) (k : IntKind) (n : Nat) (l : List Int) (s' : Bool) (i : Int) : E AV :=
  match P.underlying e, szOf P e with
  | some (.array _ e'), some sz =>
    if isK P e' k && decide (n = len * sz) then
      E.bind (chk s' (decide (0 ≤ i) && decide (i < (len : Int)))) fun _ => E.pure (.ints k sz ((l.drop (i.toNat * sz)).take sz))
    else none
  | _, _ => none
def indexA (t : TypeId) (x i : AV) : E AV :=
  match P.underlying t, x, i with
  | some (.array len e), .ints k n l, .int s' _ i =>
    if is1 P e && decide (n = len) && isK P e k then
      E.bind (chk s' (decide (0 ≤ i) && decide (i < (len : Int)))) fun _ => E.pure (.int true k (l.getD i.toNat 0))
    else rowA P len e k n l s' i
  | some .string, .str s l, .int s' _ i =>
    E.bind (chk (s || s') (decide (0 ≤ i) && decide (i < l.length))) fun _ => E.pure (.int (s || s') .u8 (l.getD i.toNat 0))
  | some (.array len e), .bools n l, .int s' _ i =>
    match szOf P e, P.underlying e with
    | some 1, some .bool => if n = len then E.bind (chk s' (decide (0 ≤ i) && decide (i < (len : Int)))) fun _ => E.pure (.bool true (l.getD i.toNat false)) else none
    | _, _ => none
  | some (.array len e), .agg cs, .int false _ i =>
    match szOf P e with
    | some sz => if decide (0 ≤ i) && decide (i < (len : Int)) then partA P e cs (i.toNat * sz) else none
    | none => none
  | _, _, _ => none

/-- A bound of a slice expression. -/
def boundA (y : Nat) (sy : Bool) : Option AV → Nat → E (Bool × Nat)
  | none, d => E.pure (sy, d)
  | some (.int s _ i), _ => E.bind (chk (s || sy) (decide (0 ≤ i) && decide (i ≤ y))) fun _ => E.pure (match sy, y with | false, 0 => (false, 0) | _, _ => (s, i.toNat))
  | some _, _ => none

def clen : Cells → Nat
  | .vals l => l.length
  | .ints _ (some n) _ => n
  | .ints _ none l => l.length
  | .wide l => wlen l
  | .bools n _ => n
  | .one n _ _ _ => n
  | .rows n _ => n

def sliceA (m : Mem) (t : TypeId) (x : AV) (lo hi mx : Option AV) : E AV :=
  match P.underlying t, x, mx with
  | some (.slice e), .nilslice, none =>
    match szOf P e with
    | some _ => E.bind (boundA 0 false hi 0) fun (sh, h) => E.bind (boundA h sh lo 0) fun _ => E.pure .nilslice
    | none => none
  | some (.slice e), .wslice s nm b o len cap, none =>
    match szOf P e with
    | some sz => if sz ≠ 1 then none else E.bind (boundA len s hi len) fun (sh, h) => E.bind (boundA h sh lo 0) fun (sl, l) =>
        E.pure (.wslice (s || sh || sl) nm b (o + l) (h - l) (cap.map (· - l)))
    | none => none
  | some (.array n e), .ptr s nm o, none =>
    match szOf P e, getName m nm with
    | some sz, some b => if !s && decide (sz = 1) && isRow m nm o n then (if !decide (o + n ≤ clen b.c) then none else E.bind (boundA n false hi n) fun (sh, h) => E.bind (boundA h sh lo 0) fun (sl, l) =>
        E.pure (.wslice (sh || sl) nm o l (h - l) (some (n - l)))) else if s || !decide (o + n * sz ≤ clen b.c) then none else E.bind (boundA n false hi n) fun (sh, h) => E.bind (boundA h sh lo 0) fun (sl, l) =>
        E.pure (.slice (sh || sl) nm (o + l * sz) (h - l) (some (n - l)) sz)
    | _, _ => none
  | some (.slice e), .slice s nm o len cap es, none =>
    match szOf P e with
    | some sz => if sz ≠ es then none else E.bind (boundA len s hi len) fun (sh, h) => E.bind (boundA h sh lo 0) fun (sl, l) =>
        E.pure (.slice (s || sh || sl) nm (o + l * sz) (h - l) (cap.map (· - l)) sz)
    | none => none
  | _, _, _ => none

/-- A slice expression with three bounds, within what the slice shows. -/
def sliceM (t : TypeId) (x : AV) (lo hi : Option AV) (mx : AV) : E AV :=
  match P.underlying t, x, hi with
  | some (.slice e), .slice s nm o len _ es, some h0 =>
    match szOf P e with
    | some sz => if sz ≠ es then none else E.bind (boundA len s (some mx) len) fun (sm, mm) => E.bind (boundA mm sm (some h0) mm) fun (sh, h) => E.bind (boundA h sh lo 0) fun (sl, l) =>
        E.pure (.slice (s || sm || sh || sl) nm (o + l * sz) (h - l) (some (mm - l)) sz)
    | none => none
  | _, _, _ => none
def sliceB (m : Mem) (t : TypeId) (x : AV) (lo hi mx : Option AV) : E AV :=
  match mx with
  | some y => sliceM P t x lo hi y
  | none => sliceA P m t x lo hi none

/-- The array that a slice shows. -/
def arrayAtA (t : TypeId) (x : AV) : E AV :=
  match P.underlying t, x with
  | some (.array k e), .slice s n o len _ 1 =>
    match szOf P e, decide (1 ≤ k) with
    | some 1, true => E.bind (chk s (decide (k ≤ len))) fun _ => E.pure (.ptr s n o)
    | _, _ => none
  | _, _ => none
def offOf (t : TypeId) (f : Nat) : Option (Nat × TypeId) :=
  match P.underlying t with
  | some (.struct fs) => (fs[f]?).map fun f => (f.offset, f.type)
  | _ => none

def fieldAddrA (t : TypeId) (x : AV) (f : Nat) : E AV :=
  match x, offOf P t f with
  | .ptr s n o, some (off, ft) => match szOf P ft with
    | some (_ + 1) => E.pure (.ptr s n (o + off))
    | _ => none
  | _, _ => none

def fieldA (t : TypeId) (x : AV) (f : Nat) : E AV :=
  match x, offOf P t f with
  | .agg cs, some (off, ft) => partA P ft cs off
  | .ints k n l, some (off, ft) => partA P ft (spread k n l) off
  | .wagg cs, some (off, ft) => (match aggSize P ft with
    | some (some sz) => (match dropW cs off with
      | some q => match takeW q sz with | some r => E.pure (mkW r) | none => none
      | none => none)
    | some none => (match locW cs off with | some (a, j) => E.pure (cellW a j) | none => none)
    | none => none)
  | _, _ => none

def splice (place : Nat → Option (Nat × Nat)) : List AV → List (Nat × AV) → Option (List AV)
  | cs, [] => some cs
  | cs, (i, v) :: r =>
    match place i with
    | some (off, sz) =>
      let vs := cellsOf v
      if decide (vs.length = sz) && decide (off + sz ≤ cs.length) && alive v then splice place (cs.take off ++ vs ++ cs.drop (off + sz)) r else none
    | none => none

/-- Numbers of one kind, row upon row: their kind, and how many. -/
def kindAll : Nat → TypeId → Option (IntKind × Nat)
  | 0, _ => none
  | d + 1, t => match P.underlying t with
    | some (.int k) => some (k, 1)
    | some (.array n e) => (kindAll d e).map fun (k, m) => (k, n * m)
    | _ => none
def shapes (f : TypeId → Option (List (Option Nat))) : List TypeId → Option (List (Option Nat))
  | [] => some []
  | t :: r => match f t, shapes f r with | some a, some b => some (a ++ b) | _, _ => none
/-- A type's cells: single ones, and rows of five numbers or more. -/
def shapeOf : Nat → TypeId → Option (List (Option Nat))
  | 0, _ => none
  | d + 1, t => match kindAll P 8 t with
    | some (_, n) => some (match decide (5 ≤ n) with | true => [some n] | false => List.replicate n none)
    | none => match P.underlying t with
      | some (.struct fs) => shapes (shapeOf d) (fs.toList.map (·.type))
      | some (.array n e) => match shapeOf d e with | some l => some (List.replicate n l).flatten | none => none
      | _ => some [none]
def oneK : List AV → Option (IntKind × List Int)
  | .int s k a :: r => (isInts k (.int s k a :: r)).map fun l => (k, l)
  | _ => none
def regroup : List (Option Nat) → List AV → Option (List AV)
  | [], l => match l with | [] => some [] | _ => none
  | none :: s, l => match l with | a :: r => (regroup s r).map (a :: ·) | [] => none
  | some n :: s, l => match oneK (l.take n), regroup s (l.drop n) with
    | some (k, xs), some r => match decide (xs.length = n) with | true => some (.ints k n xs :: r) | false => none
    | _, _ => none
def isWide : List (Option Nat) → Bool
  | [] => false
  | none :: s => isWide s
  | some _ :: _ => true
def zero0 (t : TypeId) : Option AV := match P.info? t with | some i => (match i.zero with | some v => ofValue v | none => none) | none => none
def zeroA (t : TypeId) : Option AV :=
  match zero0 P t with
  | some (.agg cs) => (match shapeOf P 8 t with
    | some sh => (match isWide sh with
      | true => (regroup sh cs).map .wagg
      | false => some (.agg cs))
    | none => some (.agg cs))
  | x => x
/-- Parts laid upon cells of a shape. -/
def spliceW (place : Nat → Option (Nat × Nat)) : List AV → List (Nat × AV) → Option (List AV)
  | cs, [] => some cs
  | cs, (i, v) :: r =>
    match place i with
    | some (off, sz) => (match layW cs off sz v with | some cs' => spliceW place cs' r | none => none)
    | none => none

def placeA (t : TypeId) : Option (Nat → Option (Nat × Nat)) :=
  match P.underlying t with
  | some (.struct fs) => (fs.toList.mapM (fun f => (P.info? f.type).map fun i => (f.offset, i.size))).map fun places i => places[i]?
  | some (.array _ e) => (szOf P e).map fun s i => some (i * s, s)
  | _ => none

def buildA (t : TypeId) (parts : List (Nat × AV)) : E AV :=
  match zeroA P t, placeA P t with
  | some (.wagg z), some pl => match spliceW pl z parts with | some cs => E.pure (mkW cs) | none => none
  | some z, some pl => match splice pl (cellsOf z) parts with | some cs => E.pure (mkAgg cs) | none => none
  | _, _ => none

def extractA (x : AV) (i : Nat) : E AV :=
  match x with
  | .tuple l => match l[i]? with | some v => E.pure v | none => none
  | _ => none

def pickA (c x y : AV) : E AV :=
  match c with
  | .bool false c => E.pure (match c with | true => x | false => y)
  | .bool true c =>
    match x, y with
    | .bool _ a, .bool _ b => E.pure (.bool true (match c with | true => a | false => b))
    | .grd g (.bool _ a), .bool _ b => some ([!c || g], .bool true (match c with | true => a | false => b))
    | .bool _ a, .grd g (.bool _ b) => some ([c || g], .bool true (match c with | true => a | false => b))
    | .bool _ a, .grd g (.grd g' (.bool _ b)) => some ([c || (g && g')], .bool true (match c with | true => a | false => b))
    | _, _ => none
  | _ => none

def lenA (t : TypeId) (x : AV) : E AV :=
  match P.underlying t, x with
  | some .string, .str s l => E.bind (chk s (decide (l.length < 9223372036854775808))) fun _ => E.pure (.int s .i64 l.length)
  | some (.array n _), _ => E.bind (chk false (decide (n < 9223372036854775808))) fun _ => E.pure (.int false .i64 n)
  | some (.slice _), .slice s _ _ len _ _ => E.bind (chk s (decide (len < 9223372036854775808))) fun _ => E.pure (.int s .i64 len)
  | some (.slice _), .nilslice => E.pure (.int false .i64 0)
  | some (.slice _), .wslice s _ _ _ len _ => E.bind (chk s (decide (len < 9223372036854775808))) fun _ => E.pure (.int s .i64 len)
  | _, _ => none

/-- A slice's room, if it is known. -/
def capA (t : TypeId) (x : AV) : E AV :=
  match P.underlying t, x with
  | some (.slice _), .slice s _ _ _ (some c) _ => E.bind (chk s (decide (c < 9223372036854775808))) fun _ => E.pure (.int s .i64 c)
  | some (.slice _), .nilslice => E.pure (.int false .i64 0)
  | _, _ => none

def xsA (m : Mem) (k : IntKind) (x : AV) : E (Bool × Nat × List Int) := numsA m k x

/-- What is copied: a slice's numbers, nothing, or a text's bytes. -/
def srcA (m : Mem) (k : IntKind) (x : AV) : E (Bool × Nat × List Int) :=
  match x with
  | .nilslice => E.pure (false, 0, [])
  | .str s l => if k = .u8 then E.pure (s, l.length, l) else none
  | x => numsA m k x
/-- Numbers laid upon a run of cells. -/
def setNums (c : Cells) (k : IntKind) (s : Bool) (o n : Nat) (xs : List Int) : E Cells :=
  match c with
  | .ints k' sz l => if k' = k then (match s, sz with
      | false, some m => if o = 0 ∧ n = m then E.pure (.ints k sz xs) else if o + n ≤ m then E.pure (.ints k sz (l.take o ++ xs ++ l.drop (o + n))) else none
      | _, _ => E.bind (inB s sz l.length o n) fun _ => E.pure (.ints k sz (l.take o ++ xs ++ l.drop (o + n)))) else none
  | _ => none
/-- What is written into a slice: its numbers at its beginning. -/
def fillA (m : Mem) (k : IntKind) (x : AV) (s : Bool) (cnt : Nat) (xs : List Int) : E Mem :=
  match x with
  | .slice _ n o _ _ 1 => match getName m n with
    | some ⟨true, c⟩ => E.bind (setNums c k s o cnt xs) fun c' => E.pure (m.set n (some ⟨true, c'⟩))
    | _ => none
  | .wslice _ n b o _ _ => match getName m n with
    | some ⟨true, cw⟩ => match rowC ⟨true, cw⟩ b with
      | some c => E.bind (setNums c k s o cnt xs) fun c' => match putC ⟨true, cw⟩ b c' with | some bl => E.pure (m.set n (some bl)) | none => none
      | none => none
    | _ => none
  | _ => none
def sliceLen : AV → Option (Bool × Nat)
  | .slice s _ _ len _ 1 => some (s, len)
  | .wslice s _ _ _ len _ => some (s, len)
  | _ => none
def intRow (t : TypeId) : Option IntKind :=
  match P.underlying t with
  | some (.slice e) => match P.underlying e, P.info? e with
    | some (.int k), some i => (match decide (i.size = 1) && decide (i.bytes ≤ 8), i.zero with
      | true, some (.int k' 0) => if k' = k then some k else none
      | _, _ => none)
    | _, _ => none
  | _ => none
def copyA (m : Mem) (t : TypeId) (x y : AV) : E (AV × Mem) :=
  match intRow P t with
  | some k => match x with
    | .nilslice => E.bind (srcA m k y) fun _ => E.pure (.int false .i64 0, m)
    | x => match sliceLen x with
      | some (sx, lx) => E.bind (srcA m k y) fun (sy, ly, l) => E.bind (chk sx (decide (lx < 9223372036854775808))) fun _ =>
          E.bind (fillA m k x (sx || sy) (Nat.min ly lx) (l.take (Nat.min ly lx))) fun m' => E.pure (.int (sx || sy) .i64 (Nat.min ly lx), m')
      | none => none
  | none => none
def clearA (m : Mem) (t : TypeId) (x : AV) : E (AV × Mem) :=
  match intRow P t with
  | some k => match x with
    | .nilslice => E.pure (.tuple [], m)
    | x => match sliceLen x with
      | some (sx, lx) => E.bind (fillA m k x sx lx (List.replicate lx 0)) fun m' => E.pure (.tuple [], m')
      | none => none
  | none => none
def szIf (s : Bool) (n : Nat) : Option Nat := match s with | true => none | false => some n
/-- How many a new row may have: of bytes, as many as may be at all. -/
def mostMake (t : TypeId) : Int :=
  match P.underlying t with
  | some (.slice e) => match P.info? e with
    | some i => (match decide (i.bytes = 1) with | true => 281474976710656 | false => 1000000000)
    | none => 1000000000
  | _ => 1000000000
/-- A new slice's room, where it is known: that of one with nothing in it is, whatever it is. -/
def capM (s : Bool) (a : Int) (s' : Bool) (b : Int) : Option Nat :=
  match s' with
  | false => some b.toNat
  | true => match s with
    | true => none
    | false => match decide (a = 0) with | true => some b.toNat | false => none
def makeA (m : Mem) (t : TypeId) (x y : AV) : E (AV × Mem) :=
  match intRow P t, x, y with
  | some k, .int s _ a, .int s' _ b => E.bind (chk (s || s') (decide (0 ≤ a) && decide (a ≤ b) && decide (b ≤ mostMake P t))) fun _ =>
      E.pure (.slice (s || s') m.length 0 a.toNat (capM s a s' b) 1, m ++ [some ⟨true, .ints k (szIf (s || s') b.toNat) (List.replicate b.toNat 0)⟩])
  | _, _, _ => none
/-- A text's bytes, in new memory. -/
def bytesA (m : Mem) (x : AV) : E (AV × Mem) :=
  match x with
  | .str s l => E.pure (.slice s m.length 0 l.length none 1, m ++ [some ⟨true, .ints .u8 (szIf s l.length) l⟩])
  | _ => none

/-- A slice of bytes to its own type: its block is not written any more. -/
def markA (m : Mem) (x : AV) : E (AV × Mem) :=
  match x with
  | .slice s n o (len + 1) cap 1 => match getName m n with
    | some ⟨true, c⟩ => E.pure (.slice s n o (len + 1) cap 1, m.set n (some ⟨false, c⟩))
    | _ => none
  | _ => none

def sliceOfA (m : Mem) (t : TypeId) (len : Nat) (parts : List (Nat × AV)) : E (AV × Mem) :=
  match P.underlying t with
  | some (.slice e) =>
    match szOf P e, zeroA P e with
    | some 1, some z =>
      match scalar z && decide (len ≤ 16777216) && (decide (1 ≤ len) || parts.isEmpty), splice (fun i => some (i * 1, 1)) (List.replicate len z) parts with
      | true, some cs => match decide (cs.length = len) with
        | true => E.pure (.slice false m.length 0 len (some len) 1, m ++ [some ⟨true, toCells (mkAgg cs)⟩])
        | false => none
      | _, _ => none
    | _, _ => none
  | _ => none

def appendA (m : Mem) (t t' : TypeId) (s x : AV) : E (AV × Mem) :=
  match P.underlying t, decide (t' = t) with
  | some (.slice e), true =>
    match P.underlying e, P.info? e with
    | some (.int k), some i =>
      match decide (i.size = 1) && decide (i.bytes ≤ 8), i.zero with
      | true, some (.int k' 0) =>
        match decide (k' = k), s with
        | true, .nilslice => match x with
          | .nilslice => E.pure (.nilslice, m)
          | .slice false _ _ 0 _ 1 => E.bind (xsA m k x) fun _ => E.pure (.nilslice, m)
          | x => E.bind (xsA m k x) fun (sx, lx, news) => E.bind (chk sx (decide (1 ≤ lx) && decide (lx ≤ 1000000000))) fun _ =>
            E.pure (.slice sx m.length 0 lx none 1, m ++ [some ⟨true, .ints k (szIf sx lx) news⟩])
        | true, .slice ss n 0 ls _ 1 => match getName m n with
          | some ⟨true, c⟩ => E.bind (xsA m k x) fun (sx, lx, news) => E.bind (getNums c k ss 0 ls) fun olds => E.bind (chk (ss || sx) (decide (ls + lx ≤ 1000000000))) fun _ =>
            E.pure (.slice (ss || sx) m.length 0 (ls + lx) none 1, m.set n none ++ [some ⟨true, .ints k (szIf (ss || sx) (ls + lx)) (olds ++ news)⟩])
          | _ => none
        | _, _ => none
      | _, _ => none
    | _, _ => none
  | _, _ => none

/-- What else is appended: nothing, a text's bytes, zeros. -/
def newsX (t t' : TypeId) (k : IntKind) (x : AV) : E (Bool × Nat × List Int) :=
  match decide (t' = t), P.underlying t', x with
  | true, some (.slice _), .nilslice => E.pure (false, 0, [])
  | false, some .string, .str s l => if k = .u8 then E.pure (s, l.length, l) else none
  | false, some (.int _), .int s .i64 n => E.bind (chk s (decide (0 ≤ n) && decide (n ≤ 1000000000))) fun _ => E.pure (s, n.toNat, List.replicate n.toNat 0)
  | _, _, _ => none
def appendX (m : Mem) (t t' : TypeId) (s x : AV) : E (AV × Mem) :=
  match P.underlying t with
  | some (.slice e) =>
    match P.underlying e, P.info? e with
    | some (.int k), some i =>
      match decide (i.size = 1) && decide (i.bytes ≤ 8), i.zero with
      | true, some (.int k' 0) =>
        match decide (k' = k), s with
        | true, .nilslice => E.bind (newsX P t t' k x) fun (sx, lx, news) => E.bind (chk sx (decide (1 ≤ lx) && decide (lx ≤ 1000000000))) fun _ =>
            E.pure (.slice sx m.length 0 lx none 1, m ++ [some ⟨true, .ints k (szIf sx lx) news⟩])
        | true, .slice ss n 0 ls _ 1 => match getName m n with
          | some ⟨true, c⟩ => E.bind (newsX P t t' k x) fun (sx, lx, news) => E.bind (getNums c k ss 0 ls) fun olds => E.bind (chk (ss || sx) (decide (ls + lx ≤ 1000000000))) fun _ =>
            E.pure (.slice (ss || sx) m.length 0 (ls + lx) none 1, m.set n none ++ [some ⟨true, .ints k (szIf (ss || sx) (ls + lx)) (olds ++ news)⟩])
          | _ => none
        | _, _ => none
      | _, _ => none
    | _, _ => none
  | _ => none
/-- Elements that are rows of numbers: their type, kind, and how many. -/
def wideEl (t : TypeId) : Option (TypeId × IntKind × Nat) :=
  match P.underlying t with
  | some (.slice e) => match kindAll P 8 e, P.info? e with
    | some (k, n), some i => match decide (i.size = n) && decide (2 ≤ n) && decide (n ≤ 512) && decide (i.bytes ≤ 4096), i.zero with
      | true, some z => (match decide (z.cells.size = n) with | true => some (e, k, n) | false => none)
      | _, _ => none
    | _, _ => none
  | _ => none
/-- The numbers of a slice of rows of sz numbers. -/
def xsW (m : Mem) (k : IntKind) (sz : Nat) (x : AV) : E (Bool × Nat × List Int) :=
  match x with
  | .slice s n o len _ es => match decide (es = sz) with
    | true => match getName m n with
      | some b => E.bind (getNums b.c k s o (len * sz)) fun l => E.pure (s, len, l)
      | none => none
    | false => none
  | _ => none
def appendW (m : Mem) (t t' : TypeId) (s x : AV) : E (AV × Mem) :=
  match decide (t' = t), wideEl P t with
  | true, some (_, k, sz) => match s with
    | .nilslice => E.bind (xsW m k sz x) fun (sx, lx, news) => E.bind (chk sx (decide (1 ≤ lx) && decide (lx ≤ 1000000000))) fun _ =>
        E.pure (.slice sx m.length 0 lx none sz, m ++ [some ⟨true, .ints k (szIf sx (lx * sz)) news⟩])
    | .slice ss n 0 ls _ es => match decide (es = sz), getName m n with
      | true, some ⟨true, c⟩ => E.bind (xsW m k sz x) fun (sx, lx, news) => E.bind (getNums c k ss 0 (ls * sz)) fun olds => E.bind (chk (ss || sx) (decide (1 ≤ ls + lx) && decide (ls + lx ≤ 1000000000))) fun _ =>
          E.pure (.slice (ss || sx) m.length 0 (ls + lx) none sz, m.set n none ++ [some ⟨true, .ints k (szIf (ss || sx) ((ls + lx) * sz)) (olds ++ news)⟩])
      | _, _ => none
    | _ => none
  | _, _ => none
/-- Onto a slice whose room is known, and enough: in its place. -/
def newsR (m : Mem) (t t' : TypeId) (k : IntKind) (x : AV) : E (Bool × Nat × List Int) :=
  match decide (t' = t) with
  | true => match numsA m k x with | some r => some r | none => newsX P t t' k x
  | false => newsX P t t' k x
def appendR (m : Mem) (t t' : TypeId) (s x : AV) : E (AV × Mem) :=
  match P.underlying t, s with
  | some (.slice e), .slice true n 0 ls (some c) 1 =>
    match P.underlying e, P.info? e with
    | some (.int k), some i =>
      match decide (i.size = 1) && decide (i.bytes ≤ 8), i.zero with
      | true, some (.int k' 0) =>
        match decide (k' = k), getName m n with
        | true, some ⟨true, cb⟩ => E.bind (newsR P m t t' k x) fun (_, lx, news) => E.bind (getNums cb k true 0 ls) fun olds => E.bind (chk true (decide (ls + lx ≤ c))) fun _ =>
            E.pure (.slice true n 0 (ls + lx) (some c) 1, m.set n (some ⟨true, .ints k none (olds ++ news)⟩))
        | _, _ => none
      | _, _ => none
    | _, _ => none
  | _, _ => none
/-- Onto a slice that nobody writes, full: a new one. -/
def appendF (m : Mem) (t t' : TypeId) (s x : AV) : E (AV × Mem) :=
  match P.underlying t, decide (t' = t) with
  | some (.slice e), true =>
    match P.underlying e, P.info? e with
    | some (.int k), some i =>
      match decide (i.size = 1) && decide (i.bytes ≤ 8), i.zero with
      | true, some (.int k' 0) =>
        match decide (k' = k), s with
        | true, .slice ss n 0 ls (some cp) 1 => match getName m n with
          | some ⟨false, c⟩ => E.bind (xsA m k x) fun (sx, lx, news) => E.bind (getNums c k ss 0 ls) fun olds => E.bind (chk (ss || sx) (decide (cp < ls + lx) && decide (ls + lx ≤ 1000000000))) fun _ =>
            E.pure (.slice (ss || sx) m.length 0 (ls + lx) none 1, m ++ [some ⟨true, .ints k (szIf (ss || sx) (ls + lx)) (olds ++ news)⟩])
          | _ => none
        | _, _ => none
      | _, _ => none
    | _, _ => none
  | _, _ => none
def appendB (m : Mem) (t t' : TypeId) (s x : AV) : E (AV × Mem) :=
  match appendR P m t t' s x with
  | some r => some r
  | none => match appendA P m t t' s x with
  | some r => some r
  | none => match appendX P m t t' s x with
    | some r => some r
    | none => match appendW P m t t' s x with
      | some r => some r
      | none => appendF P m t t' s x
/-- A new slice of rows: one row, given whole. -/
def sliceOfW (m : Mem) (t : TypeId) (len : Nat) (parts : List (Nat × AV)) : E (AV × Mem) :=
  match wideEl P t, parts with
  | some (_, k, sz), [(0, .ints k' n l)] => match decide (len = 1) && decide (k' = k) && decide (n = sz) with
    | true => E.pure (.slice false m.length 0 1 (some 1) sz, m ++ [some ⟨true, .ints k (some sz) l⟩])
    | false => none
  | _, _ => none
/-- A new slice of structs, each given whole. -/
def sliceOfS (m : Mem) (t : TypeId) (len : Nat) (parts : List (Nat × AV)) : E (AV × Mem) :=
  match P.underlying t with
  | some (.slice e) => match P.info? e with
    | some i => match i.zero, splice (fun j => some (j * i.size, i.size)) (List.replicate (len * i.size) .top) parts with
      | some _, some cs => match decide (2 ≤ i.size) && decide (1 ≤ len) && decide (len * i.size ≤ 16777216) && decide (cs.length = len * i.size) && cs.all scalar with
        | true => E.pure (.slice false m.length 0 len (some len) i.size, m ++ [some ⟨true, .vals cs⟩])
        | false => none
      | _, _ => none
    | none => none
  | _ => none
def sliceOfB (m : Mem) (t : TypeId) (len : Nat) (parts : List (Nat × AV)) : E (AV × Mem) :=
  match sliceOfA P m t len parts with
  | some r => some r
  | none => match sliceOfW P m t len parts with
    | some r => some r
    | none => sliceOfS P m t len parts

/-- The operations that make a value and nothing else. -/
def isVc : Callee → Bool
  | .builtin .append | .builtin .copy | .builtin .clear => false
  | _ => true
def isV : Op → Bool
  | .alloc _ | .box .. | .store .. | .buildSlice .. | .makeSlice .. => false
  | .convert _ d _ => match P.underlying d with | some (.slice _) => false | _ => true
  | .call c => isVc c.callee
  | _ => true

/-- A slice of tests: its element's type. -/
def boolRow (t : TypeId) : Option TypeId :=
  match P.underlying t with
  | some (.slice e) => match P.underlying e, P.info? e with
    | some .bool, some i => (match decide (i.size = 1) && decide (i.bytes ≤ 8) with
      | true => some e
      | false => none)
    | _, _ => none
  | _ => none
/-- As many tests as the slice has that is written, from a place of another row of tests on. -/
def copyF (m : Mem) (t : TypeId) (x y : AV) : E (AV × Mem) :=
  match boolRow P t, x, y with
  | some _, .slice false nx 0 lx _ 1, .slice false ny oy ly _ 1 => match getName m nx, getName m ny with
    | some ⟨true, .bools n _⟩, some ⟨_, .bools n' l⟩ => if decide (1 ≤ lx && lx < 1000000000) && decide (lx = ly) && decide (lx = n) && decide (oy + ly ≤ n') && !Nat.beq nx ny then
        E.pure (.int false .i64 lx, m.set nx (some ⟨true, .bools n ((l.drop oy).take lx)⟩)) else none
    | _, _ => none
  | _, _, _ => none
def copyB (m : Mem) (t : TypeId) (x y : AV) : E (AV × Mem) :=
  match copyA P m t x y with
  | some r => some r
  | none => copyF P m t x y
def min3 (a b c : Int) : Int := if c < (if b < a then b else a) then c else if b < a then b else a
/-- The plain operations (no calls of functions): what is owed, the value, the memory. -/
def opA [Tab] (ev : Operand → AV) (m : Mem) (op : Op) : E (AV × Mem) :=
  let v (x : E AV) : E (AV × Mem) := E.bind x fun a => E.pure (a, m)
  match op with
  | .move x | .assign x => E.pure (ev x, m)
  | .pick c a b => v (pickA (ev c) (ev a) (ev b))
  | .alloc t => match zeroA P t with | some z => E.pure (.ptr false m.length 0, m ++ [some ⟨true, toCells z⟩]) | none => none
  | .box _ x => if alive (ev x) then E.pure (.ptr false m.length 0, m ++ [some ⟨true, toCells (ev x)⟩]) else none
  | .build t parts => v (buildA P t (parts.toList.map fun (i, x) => (i, ev x)))
  | .load t a => v (loadA P m t (ev a))
  | .store t a x => E.bind (storeA P m t (ev a) (ev x)) fun m' => E.pure (.tuple [], m')
  | .nilCheck x => match ev x with | .ptr s n o => E.pure (.ptr s n o, m) | .wptr s n b o => E.pure (.wptr s n b o, m) | .gptr s g o => E.pure (.gptr s g o, m) | .iface t a => E.pure (.iface t a, m) | _ => none
  | .makeSlice t x y => makeA P m t (ev x) (ev y)
  | .call { callee := .builtin .copy, args, argTypes } =>
    match argTypes.toList, args.toList with
    | t :: _, [x, y] => copyB P m t (ev x) (ev y)
    | _, _ => none
  | .call { callee := .builtin .clear, args, argTypes } =>
    match argTypes.toList, args.toList with
    | t :: _, [x] => clearA P m t (ev x)
    | _, _ => none
  | .call { callee := .builtin .min, args, .. } =>
    match args.toList with
    | [x, y] => (match ev x, ev y with | .int s k a, .int s' k' b => if k' = k then E.pure (.int (s || s') k (if b < a then b else a), m) else none | _, _ => none)
    | [x, y, z] => (match ev x, ev y, ev z with | .int s k a, .int s' k' b, .int s2 k2 c => if k' = k ∧ k2 = k then E.pure (.int (s || s' || s2) k (min3 a b c), m) else none | _, _, _ => none)
    | _ => none
  | .call { callee := .builtin .max, args, .. } =>
    match args.toList with
    | [x, y] => (match ev x, ev y with | .int s k a, .int s' k' b => if k' = k then E.pure (.int (s || s') k (if a < b then b else a), m) else none | _, _ => none)
    | _ => none
  | .binOp op t x y _ => v (binS P op t (ev x) (ev y))
  | .unOp op _ x => v (unA op (ev x))
  | .convert s d x => match P.underlying d with
    | some (.slice e) => (match P.underlying s with
      | some .string => if isK P e .u8 && is1 P e then bytesA m (ev x) else none
      | some (.slice _) => if Nat.beq s d && isK P e .u8 then markA m (ev x) else none
      | _ => none)
    | _ => v (convA P m s d (ev x))
  | .slice t x lo hi mx => v (sliceB P m t (ev x) (lo.map ev) (hi.map ev) (mx.map ev))
  | .fieldAddr t x f => v (fieldAddrA P t (ev x) f)
  | .sliceToArrayPointer t x => v (arrayAtA P t (ev x))
  | .makeInterface t x => v (ifaceA P t (ev x))
  | .field t x f => v (fieldA P t (ev x) f)
  | .indexAddr t x i => v (indexAddrA P m t (ev x) (ev i))
  | .index t x i => v (indexA P t (ev x) (ev i))
  | .extract x i => v (extractA (ev x) i)
  | .call { callee := .builtin .len, args, argTypes } =>
    match argTypes[0]?, args[0]? with
    | some t, some x => v (lenA P t (ev x))
    | _, _ => none
  | .call { callee := .builtin .cap, args, argTypes } =>
    match argTypes[0]?, args[0]? with
    | some t, some x => v (capA P t (ev x))
    | _, _ => none
  | .buildSlice t len parts => sliceOfB P m t len (parts.toList.map fun (i, x) => (i, ev x))
  | .call { callee := .builtin .append, args, argTypes } =>
    match argTypes.toList, args.toList with
    | [t, t'], [s, x] => appendB P m t t' (ev s) (ev x)
    | _, _ => none
  | _ => none

end

/-- A value without addresses. -/
def plain0 : AV → Bool
  | .bool .. | .int .. | .str .. | .ints .. => true
  | _ => false
def plainA : AV → Bool
  | .bool .. | .int .. | .str .. | .ints .. | .bools .. => true
  | .wagg l => l.all plain0
  | .agg l => l.all plain0
  | _ => false
def plainAs : AV → Bool
  | .tuple l => l.all plainA
  | v => plainA v

/-- A tree of cases: tests that are symbolic part the ways. -/
inductive Tree (α : Type) where
  | leaf (a : α)
  | need (p : Bool) (t : Tree α)
  | ite (c : Bool) (t e : Tree α)
  | fail

def Tree.bind {α β : Type} : Tree α → (α → Tree β) → Tree β
  | .leaf a, f => f a
  | .need p t, f => .need p (t.bind f)
  | .ite c t e, f => .ite c (t.bind f) (e.bind f)
  | .fail, _ => .fail

def Tree.needs {α : Type} : List Bool → Tree α → Tree α
  | [], t => t
  | p :: r, t => .need p (Tree.needs r t)

def Tree.ofE {α : Type} : E α → Tree α
  | none => .fail
  | some (o, a) => Tree.needs o (.leaf a)

/-- What holds of every way's end. -/
def Tree.Sat {α : Type} (Q : α → Prop) : Tree α → Prop
  | .leaf a => Q a
  | .need p t => p = true ∧ t.Sat Q
  | .ite c t e => (c = true → t.Sat Q) ∧ (c = false → e.Sat Q)
  | .fail => False

/-- One end, or none. -/
def Tree.flat {α : Type} : Tree α → E α
  | .leaf a => E.pure a
  | .need p t => match t.flat with | some (o, a) => some (p :: o, a) | none => none
  | _ => none

structure St where
  tm : List AV
  mem : Mem

def St.ev (st : St) : Operand → AV
  | .tmp t => st.tm.getD t .top
  | .const v => match ofValue v with | some a => a | none => .top
  | .global g => .gptr false g 0
  | .func f => .func f []

def tmpsOf (op : Op) : List Nat := op.operands.toList.filterMap fun | .tmp t => some t | _ => none
/-- The values of the slots ts alone. -/
def St.evT (st : St) (ts : List Nat) : Operand → AV
  | .tmp t => match ts.contains t with | true => st.tm.getD t .top | false => .top
  | x => st.ev x
/-- Behind a guard: what stands behind a guard of its own is taken out of it; that this may be is owed. -/
def St.evS (st : St) (ts strip : List Nat) : Operand → AV
  | .tmp t => match ts.contains t with | true => (match strip.contains t with | true => (match st.tm.getD t .top with | .grd _ a => a | a => a) | false => st.tm.getD t .top) | false => .top
  | x => st.ev x
/-- Of a choice only the test must be at hand. -/
def stripOf : Op → List Nat
  | .pick (.tmp t) _ _ => [t]
  | .pick .. => []
  | op => tmpsOf op
def St.owes (st : St) : List Nat → List Bool
  | [] => []
  | t :: r => match st.tm.getD t .top with | .grd c _ => c :: St.owes st r | _ => St.owes st r

def putA (tm : List AV) (dst : Option Tmp) (v : AV) : List AV :=
  match dst with
  | some d => tm.set d v
  | none => tm

inductive Ex where
  | normal
  | exit (id : Nat)
  | ret

abbrev CallH := FuncId → List AV → Mem → E (AV × Mem)

/-- Does the operation run? 'some g': if g (symbolic). -/
inductive Want where
  | yes | no | maybe (g : Bool) | bad

def wantA (ops : Array Oper) (st : St) (o : Oper) : Want :=
  match o.guard with
  | none => .yes
  | some (j, want) =>
    match (ops[j]?).bind (·.dst) with
    | some d => match st.tm.getD d .top with
      | .bool false b => (match b, want with | true, true => .yes | false, false => .yes | _, _ => .no)
      | .bool true b => .maybe (match want with | true => b | false => !b)
      | .grd g (.bool _ b) => .maybe (g && (match want with | true => b | false => !b))
      | .grd c .top => (match c with | false => .no | true => .bad)
      | _ => .bad
    | none => .bad

mutual
/-- Are all names below k? -/
def bndA (k : Nat) : AV → Bool
  | .ptr _ n _ => decide (n < k)
  | .slice _ n _ _ _ _ => decide (n < k)
  | .agg l => bndL k l
  | .tuple l => bndL k l
  | .grd _ a => bndA k a
  | .func _ l => bndL k l
  | .iface _ a => bndA k a
  | .wagg l => bndL k l
  | .wptr _ n _ _ => decide (n < k)
  | .wslice _ n _ _ _ _ => decide (n < k)
  | _ => true
def bndL (k : Nat) : List AV → Bool
  | [] => true
  | a :: l => bndA k a && bndL k l
end
def bndM (k : Nat) : Mem → Bool
  | [] => true
  | some ⟨_, .vals l⟩ :: m => bndL k l && bndM k m
  | some ⟨_, .wide l⟩ :: m => bndL k l && bndM k m
  | some ⟨_, .one _ _ _ a⟩ :: m => bndL k [a] && bndM k m
  | _ :: m => bndM k m

def roAll (m : Mem) : Mem := m.map fun b => match b with | some b => some ⟨false, b.c⟩ | none => none
def onlyRw (m : Mem) : Mem := m.map fun b => match b with | some ⟨true, c⟩ => some ⟨true, c⟩ | _ => none

section
variable [Tab] (P : Program) (q : FuncId → Bool) (H : CallH)

def oneA (ev : Operand → AV) (m : Mem) (op : Op) : E (AV × Mem) :=
  match op with
  | .call { callee := .value f, args, .. } =>
    match ev f with
    | .func f cap => H f ((args.toList.map ev) ++ cap) m
    | _ => none
  | .call { callee := .invoke r name, args, .. } =>
    match ev r with
    | .iface t a => (match methodA P t name with
      | some f => H f (a :: args.toList.map ev) m
      | none => none)
    | _ => none
  | op => opA P ev m op

/-- What an operation looks at and turns, of memory: names below lim, the name rd; it turns (or makes) those of [wa, wb); bar: it may look at and turn all. -/
structure Fp where
  lim : Nat
  rd : Option Nat
  wa : Nat
  wb : Nat
  bar : Bool
def Fp.none : Fp := ⟨0, .none, 0, 0, false⟩
def Fp.free (f : Fp) : Bool := decide (f.lim = 0) && f.rd.isNone && decide (f.wb ≤ f.wa) && !f.bar
/-- Nothing that f turns is looked at, or turned, by g. -/
def Fp.off (f g : Fp) : Bool :=
  match f.bar with
  | true => g.free
  | false => decide (f.wb ≤ f.wa) || (!g.bar && decide (g.lim ≤ f.wa) && (match g.rd with | some y => decide (y < f.wa) || decide (f.wb ≤ y) | .none => true) &&
      (decide (g.wb ≤ g.wa) || decide (g.wb ≤ f.wa) || decide (f.wb ≤ g.wa)))

def keep (y : Option Nat) (m : Mem) : Mem :=
  match y with
  | some y => List.replicate y none ++ [m.getD y none]
  | none => []

def nameOf : AV → Option Nat
  | .ptr _ n _ => some n
  | .slice _ n _ _ _ _ => some n
  | .wptr _ n _ _ => some n
  | .wslice _ n _ _ _ _ => some n
  | _ => none
def rdName (ev : Operand → AV) : Op → Option Nat
  | .load _ a => nameOf (ev a)
  | .convert _ _ a => nameOf (ev a)
  | .slice _ a _ _ _ => nameOf (ev a)
  | .indexAddr _ a _ => nameOf (ev a)
  | _ => none

/-- Operations that make memory, and turn at most the last block. -/
def isMk : Op → Bool
  | .makeSlice .. | .buildSlice .. => true
  | .call { callee := .builtin .append, .. } => true
  | _ => false
def keepA (k : Nat) (a : AV) : AV := match bndA k a with | true => a | false => .top
/-- The same, where only what has a name from wa on may be turned. -/
def quietOp (ev : Operand → AV) (m : Mem) (wa : Nat) (op : Op) : E (AV × Mem × Fp) :=
  match opA P (fun x => keepA m.length (ev x)) (roAll (m.take wa) ++ m.drop wa) op with
  | some (o, (v, m1)) => some (o, (v, m.take wa ++ onlyRw (m1.drop wa), ⟨m.length, none, wa, m1.length, false⟩))
  | none => none
def mkQ (ev : Operand → AV) (m : Mem) (lim : Nat) (op : Op) : E (AV × Mem × Fp) :=
  match isMk op && decide (lim = m.length) && bndM m.length m with
  | true => match quietOp P ev m m.length op with
    | some r => some r
    | none => match quietOp P ev m (m.length - 1) op with
      | some r => some r
      | none => quietOp P ev m (m.length - 2) op
  | false => none
/-- A slice of values that are at hand: in memory of its own, and nothing of the rest is looked at. -/
def bldQ (ev : Operand → AV) (m : Mem) (op : Op) : E (AV × Mem × Fp) :=
  match op with
  | .buildSlice t len parts => match sliceOfA P m t len (parts.toList.map fun (i, x) => (i, ev x)) with
    | some (o, (v, m')) => some (o, (v, m', ⟨0, none, m.length, m.length + 1, false⟩))
    | none => none
  | _ => none
/-- A new row: nothing of the rest is looked at. -/
def makQ (ev : Operand → AV) (m : Mem) (op : Op) : E (AV × Mem × Fp) :=
  match op with
  | .makeSlice t x y => match makeA P m t (ev x) (ev y) with
    | some (o, (v, m')) => some (o, (v, m', ⟨0, none, m.length, m.length + 1, false⟩))
    | none => none
  | _ => none
/-- All names from k on: of a slice, or several. -/
def new1 (k : Nat) : AV → Bool
  | .slice _ n _ _ _ _ => decide (k ≤ n)
  | a => plainA a
def newA (k : Nat) : AV → Bool
  | .tuple l => l.all (new1 k)
  | a => new1 k a
def newM : Mem → Bool
  | [] => true
  | none :: m => newM m
  | some ⟨_, .ints ..⟩ :: m => newM m
  | _ => false
/-- A call that makes memory, where not all that stands before is seen: its names stand behind all. -/
def callN (m : Mem) (lim : Nat) (f : FuncId) (as : List AV) : E (AV × Mem × Fp) :=
  match H f as (roAll (m.take lim) ++ List.replicate (m.length - lim) none) with
  | some (o, (v, m')) => (match newA m.length v && newM (m'.drop m.length) with
    | true => some (o, (v, m ++ onlyRw (m'.drop m.length), ⟨lim, none, m.length, m.length + (onlyRw (m'.drop m.length)).length, false⟩))
    | false => none)
  | none => none
/-- A call that turns at most the last block, and makes memory. -/
def callW (m : Mem) (lim : Nat) (f : FuncId) (as : List AV) : E (AV × Mem × Fp) :=
  match bndL m.length as && bndM m.length m && decide (lim = m.length) && (match m[m.length - 1]? with | some (some b) => b.rw | _ => false) with
  | true => match H f as (roAll (m.take (m.length - 1)) ++ m.drop (m.length - 1)) with
    | some (o, (v, m1)) => some (o, (v, m.take (m.length - 1) ++ onlyRw (m1.drop (m.length - 1)), ⟨m.length, none, m.length - 1, m1.length, false⟩))
    | none => none
  | false => none
/-- A call in a region that draws its order. -/
def callD (m : Mem) (lim : Nat) (f : FuncId) (as : List AV) : E (AV × Mem × Fp) :=
  match q f with
  | true =>
    match bndL lim as && bndM lim (m.take lim) && decide (lim ≤ m.length) with
    | true =>
      match H f as (roAll (m.take lim)) with
      | some (o, (v, m')) =>
        match plainAs v with
        | true => some (o, (v, m, ⟨lim, none, 0, 0, false⟩))
        | false => if lim = m.length then some (o, (v, m ++ onlyRw (m'.drop lim), ⟨lim, none, m.length, m.length + (onlyRw (m'.drop lim)).length, false⟩)) else callN H m lim f as
      | none => none
    | false => none
  | false => match callW H m lim f as with
    | some r => some r
    | none => match H f as m with
      | some (o, (v, m')) => some (o, (v, m', ⟨0, none, 0, 0, true⟩))
      | none => none
/-- One operation in a region that draws its order: value, memory, what it touched. -/
def stepD (ev : Operand → AV) (m : Mem) (lim : Nat) (op : Op) : E (AV × Mem × Fp) :=
  match op with
  | .alloc t => match zeroA P t with | some z => E.pure (.ptr false m.length 0, m ++ [some ⟨true, toCells z⟩], ⟨0, none, m.length, m.length + 1, false⟩) | none => none
  | .box _ x => if alive (ev x) then E.pure (.ptr false m.length 0, m ++ [some ⟨true, toCells (ev x)⟩], ⟨0, none, m.length, m.length + 1, false⟩) else none
  | .store t a x =>
    match nameOf (ev a) with
    | some n => match storeA P (keep (some n) m) t (ev a) (ev x) with
      | some (o, m') => if n < m.length then some (o, (.tuple [], m.set n (m'.getD n none), ⟨0, none, n, n + 1, false⟩)) else none
      | none => none
    | none => none
  | .call { callee := .value f, args, .. } =>
    match ev f with
    | .func f cap => callD q H m lim f ((args.toList.map ev) ++ cap)
    | _ => none
  | .call { callee := .invoke r name, args, .. } =>
    match ev r with
    | .iface t a => (match methodA P t name with
      | some f => callD q H m lim f (a :: args.toList.map ev)
      | none => none)
    | _ => none
  | op => match isV P op with
    | true => match opA P ev (keep (rdName ev op) m) op with | some (o, (v, _)) => some (o, (v, m, ⟨0, rdName ev op, 0, 0, false⟩)) | none => none
    | false => match bldQ P ev m op with
      | some r => some r
      | none => match makQ P ev m op with
      | some r => some r
      | none => match mkQ P ev m lim op with
        | some r => some r
        | none => match opA P ev m op with | some (o, (v, m')) => some (o, (v, m', ⟨0, none, 0, 0, true⟩)) | none => none

/-- The first name that an operation made which need not stand before. -/
def limOf (mask : Nat) : Nat → List Fp → Nat → Nat
  | _, [], full => full
  | j, f :: r, full => match f.bar || decide (f.wb ≤ f.wa) || mask.testBit j with | true => limOf mask (j + 1) r full | false => min f.wa (limOf mask (j + 1) r full)

/-- Where what is tested is to be true (a law's last row), the test is owed, and its way is taken; of 'x or y' it is owed that x is false. -/
def asmOf (q : FuncId → Bool) : Bool := q 1000000000
/-- What is appended to nothing is nothing itself (where that is chosen): it is owed. -/
def nilOp (neg : Bool) (ev : Operand → AV) (op : Op) : List Bool × Op :=
  match op with
  | .call { callee := .builtin .append, args, argTypes } => match neg, argTypes.toList, args.toList with
    | true, [t, t'], [a, x] => match P.underlying t, decide (t' = t), ev a, ev x with
      | some (.slice e), true, .nilslice, .slice _ _ _ len _ _ => (match P.info? e with | some _ => ([decide (len = 0)], .move a) | none => ([], op))
      | _, _, _, _ => ([], op)
    | _, _, _ => ([], op)
  | _ => ([], op)
def asmOp (asm neg : Bool) (ev : Operand → AV) (op : Op) : List Bool × Op :=
  match asm with
  | false => ([], op)
  | true => match op with
    | .pick c a b => match ev c with
      | .bool true t => (match neg with
       | true => ([!t], .move b)
       | false => match ev b with
        | .bool false false => ([t], .move a)
        | .grd false _ => ([t], .move a)
        | _ => (match ev a with
          | .bool false true => ([!t], .move b)
          | _ => ([t], .move a)))
      | _ => ([], op)
    | op => nilOp P neg ev op
/-- Of one operation it may be chosen that its test is to be false: that is owed, and it is left out. -/
def negAt (q : FuncId → Bool) (base k : Nat) (o : Oper) : Bool := (match o.dst with | some d => !q (base + d) || !q (base + 1000000 * (k + 1) + d) | none => false)
def negOf (q : FuncId → Bool) (k : Nat) (o : Oper) : Bool := negAt q 2000000000 k o
/-- The same of a choice itself: its last part is taken. -/
def negP (q : FuncId → Bool) (k : Nat) (o : Oper) : Bool := negAt q 4000000000 k o
def wantQ (asm : Bool) (neg : Bool) (w : Want) : List Bool × Want :=
  match asm, w with
  | true, .maybe g => (match neg with | true => ([!g], .no) | false => ([g], .yes))
  | _, w => ([], w)

def operD (ops : Array Oper) (mask : Nat) (log : List Fp) (st : St) (o : Oper) : E (St × Fp) :=
  match wantQ (asmOf q) (negOf q st.mem.length o) (wantA ops st o) with
  | (owed, .yes) => match asmOp P (asmOf q) (negP q st.mem.length o) (st.evT (tmpsOf o.op)) o.op with
    | (owed2, op) => match stepD P q H (st.evT (tmpsOf o.op)) st.mem (limOf mask 0 log st.mem.length) op with
      | some (ob, (v, m, f)) => some (owed ++ (owed2 ++ ob), (⟨putA st.tm o.dst v, m⟩, f))
      | none => none
  | (owed, .no) => some (owed, (⟨putA st.tm o.dst (.grd false .top), st.mem⟩, Fp.none))
  | (_, .maybe g) => match stepD P q H (st.evS (tmpsOf o.op) (stripOf o.op)) st.mem (limOf mask 0 log st.mem.length) o.op with
    | some (ob, (v, _, f)) => match f.bar || decide (f.wa < f.wb) with
      | true => none
      | false => some ((ob ++ st.owes (stripOf o.op)).map (!g || ·), (⟨putA st.tm o.dst (.grd g v), st.mem⟩, f))
    | none => none
  | (_, .bad) => none

def maskOf (ms : List Nat) (o : Oper) : Nat := o.after.toList.foldl (fun s e => match Region.binds .any e with | true => s ||| 2 ^ e.on ||| ms.getD e.on 0 | false => s) 0
def masks : List Oper → List Nat → List Nat
  | [], acc => acc
  | o :: r, acc => masks r (acc ++ [maskOf acc o])

/-- With those before it that no edge holds apart from it an operation has nothing to do. -/
def asideOK (ops : Array Oper) (mask : Nat) (o : Oper) (f : Fp) : Nat → List Oper → List Fp → Bool
  | _, _, [] => true
  | j, x :: xs, g :: gs => (mask.testBit j || (x.apart ops o && f.off g && g.off f)) && asideOK ops mask o f (j + 1) xs gs
  | _, [], _ :: _ => false

def edgesOK (ops : List Oper) : Nat → Bool :=
  match ops with
  | [] => fun _ => true
  | o :: r => fun j => (o.after.toList.all fun e => !Region.binds .any e || decide (e.on < j)) && edgesOK r (j + 1)

def opersD (ops : Array Oper) (ms : List Nat) : Nat → List Fp → List Oper → St → E St
  | _, _, [], st => E.pure st
  | i, log, o :: r, st => match operD P q H ops (ms.getD i 0) log st o with
    | some (ob, (st', f)) => match asideOK ops (ms.getD i 0) o f 0 ops.toList log with
      | true => match opersD ops ms (i + 1) (log ++ [f]) r st' with
        | some (ob', st2) => some (ob ++ ob', st2)
        | none => none
      | false => none
    | none => none

/-- In the text's order. -/
def operA (ops : Array Oper) (st : St) (o : Oper) : E St :=
  match wantQ (asmOf q) (negOf q st.mem.length o) (wantA ops st o) with
  | (owed, .yes) => match asmOp P (asmOf q) (negP q st.mem.length o) (st.evT (tmpsOf o.op)) o.op with
    | (owed2, op) => match oneA P H (st.evT (tmpsOf o.op)) st.mem op with
      | some (ob, (v, m)) => some (owed ++ (owed2 ++ ob), ⟨putA st.tm o.dst v, m⟩)
      | none => none
  | _ => match operD P q H ops 0 [] st o with
      | some (ob, (st', _)) => some (ob, st')
      | none => none

def opersA (ops : Array Oper) : List Oper → St → E St
  | [], st => E.pure st
  | o :: r, st => E.bind (operA P q H ops st o) fun st' => opersA ops r st'

def regionA (ops : Array Oper) (draw : Bool) (st : St) : E St :=
  match draw with
  | false => opersA P q H ops ops.toList st
  | true => match edgesOK ops.toList 0 with
    | true => opersD P q H ops (masks ops.toList []) 0 [] ops.toList st
    | false => none

def codeA : Nat → Code → St → Tree (Ex × St)
  | 0, _, _ => .fail
  | n + 1, c, st =>
    match c with
    | .skip | .label _ => .leaf (.normal, st)
    | .exit id => .leaf (.exit id, st)
    | .ret => .leaf (.ret, st)
    | .seq a b => (codeA n a st).bind fun (e, st') => match e with | .normal => codeA n b st' | e => .leaf (e, st')
    | .cond c a b =>
      match st.ev c with
      | .bool false t => (match t with | true => codeA n a st | false => codeA n b st)
      | .bool true t => .ite t (codeA n a st) (codeA n b st)
      | _ => .fail
    | .block id c => (codeA n c st).bind fun (e, st') => match e with | .exit i => (if i = id then .leaf (.normal, st') else .leaf (.exit i, st')) | e => .leaf (e, st')
    | .loop c => (codeA n c st).bind fun (e, st') => match e with | .normal => codeA n (.loop c) st' | e => .leaf (e, st')
    | .region _ ops draw => Tree.ofE (E.bind (regionA P q H ops draw st) fun st' => E.pure (.normal, st'))
    | _ => .fail

def resA (st : St) : List ResultVar → E (List AV)
  | [] => E.pure []
  | .tmp t :: r => E.bind (resA st r) fun l => E.pure (st.tm.getD t .top :: l)
  | .cell a t :: r => E.bind (loadA P st.mem t (st.tm.getD a .top)) fun v => E.bind (resA st r) fun l => E.pure (v :: l)

def one : List AV → AV
  | [v] => v
  | l => .tuple l

def funcA (n : Nat) (f : FuncId) (args : List AV) (m : Mem) : Tree (AV × Mem) :=
  match P.funcs[f]? with
  | some fn => match fn.body with
    | some c => (codeA P q H n c ⟨args ++ List.replicate (fn.ntmps - args.length) .top, m⟩).bind fun (e, st) =>
        match e with
        | .exit _ => .fail
        | _ => Tree.ofE (E.bind (resA P st fn.results.toList) fun l => E.pure (one l, st.mem))
    | none => .fail
  | none => .fail
end

/-- Two plain values, by a symbolic test. -/
def mixA (c : Bool) : AV → AV → Option AV
  | .bool _ a, .bool _ b => some (.bool true (match c with | true => a | false => b))
  | .int _ k a, .int _ k' b => if k = k' then some (.int true k (match c with | true => a | false => b)) else none
  | .ints k n a, .ints k' n' b => if k = k' ∧ n = n' then some (.ints k n (match c with | true => a | false => b)) else none
  | .str _ a, .str _ b => some (.str true (match c with | true => a | false => b))
  | _, _ => none
def mixAs (c : Bool) : List AV → List AV → Option (List AV)
  | [], [] => some []
  | a :: r, b :: q => match mixA c a b, mixAs c r q with | some x, some l => some (x :: l) | _, _ => none
  | _, _ => none
def mixT (c : Bool) : AV → AV → Option AV
  | .tuple l, .tuple q => (mixAs c l q).map .tuple
  | a, b => mixA c a b

/-- The one value of a tree with plain values at its ends. -/
def Tree.mix : Tree (AV × Mem) → E AV
  | .leaf (v, _) => match plainAs v with | true => E.pure v | false => none
  | .need p t => match t.mix with | some (o, a) => some (p :: o, a) | none => none
  | .ite c t e => match t.mix, e.mix with
    | some (o, a), some (q, b) => match mixT c a b with | some v => some (o.map (!c || ·) ++ q.map (c || ·), v) | none => none
    | _, _ => none
  | .fail => none

/-- A call that writes no memory that it didn't make: plain values by their mixture; else one way alone. -/
def quietA (T : Tree (AV × Mem)) (m : Mem) : E (AV × Mem) :=
  match T.mix with
  | some (o, v) => some (o, (v, m))
  | none => match T.flat with
    | some (o, (v, m')) => some (o, (v, m ++ onlyRw (m'.drop m.length)))
    | none => none

/-- Functions without a contract are walked, n calls deep; 'q': those that write no memory that they didn't make. -/
def deep [Tab] (P : Program) (q : FuncId → Bool) (X : CallH) (fuel : Nat) : Nat → CallH
  | 0 => X
  | n + 1 => fun f args m =>
    match X f args m with
    | some r => some r
    | none =>
      match q f with
      | true => quietA (funcA P q (deep P q X fuel n) fuel f args (roAll m)) m
      | false => match (funcA P q (deep P q X fuel n) fuel f args m).flat with
        | some (o, (v, m')) => (match decide (m.length ≤ m'.length) with | true => some (o, (v, m')) | false => none)
        | none => none
end Go.Ev
