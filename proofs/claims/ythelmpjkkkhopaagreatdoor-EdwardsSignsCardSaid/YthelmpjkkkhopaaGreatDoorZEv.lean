/- An abstract evaluator of the model's code: values with names for blocks, memory as a list of blocks; what it answers holds of every run. Own work. -/
import Derived.Orders
import Derived.WalkKit
import Derived.KernelRfl
set_option linter.unusedSimpArgs false
set_option linter.unusedVariables false
set_option linter.unusedSectionVars false
theorem f9a {α : Type _} (y : α) {a : α} {l : List α} (h : a ∈ l) : a ∈ y :: l := List.mem_cons_of_mem y h
theorem f9b {α : Type _} {a : α} {l : List α} : a ∈ a :: l := List.mem_cons_self ..
theorem f9c {p : Prop} [d : Decidable p] (h : decide p = true) : p := of_decide_eq_true h
namespace Go.Ev
inductive AV where
 | top
 | bool (s : Bool) (b : Bool)
 | int (s : Bool) (k : IntKind) (n : Int)
 | str (s : Bool) (l : List Int)
 | ptr (s : Bool) (n o : Nat)
 | nilptr
 | slice (s : Bool) (n o len : Nat) (cap : Option Nat) (e : Nat)
 | nilslice
 | ints (k : IntKind) (n : Nat) (l : List Int)
 | agg (l : List AV)
 | tuple (l : List AV)
 | grd (c : Bool) (a : AV)
 | func (f : FuncId) (cap : List AV)
 | nilfunc
 | iface (t : TypeId) (a : AV)
 | niliface
  | wagg (l : List AV)
  | wptr (s : Bool) (n b o : Nat)
 | wslice (s : Bool) (n b o len : Nat) (cap : Option Nat)
  | gptr (s : Bool) (g o : Nat)
  | bools (n : Nat) (l : List Bool)
inductive Cells where
 | vals (l : List AV)
 | ints (k : IntKind) (n : Option Nat) (l : List Int)
 | wide (l : List AV)
 | bools (n : Nat) (l : List Bool)
class Tab where
 T : Nat → Option Cells
structure Blk where
 rw : Bool
 c : Cells
abbrev Mem:=List (Option Blk)
abbrev E (α : Type):=Option (List Bool × α)
def E.pure {α : Type} (a : α) : E α:=some ([],a)
def E.bind {α β : Type} (x : E α) (f : α → E β) : E β:=
 match x with
 | none=>none
 | some (o,a)=>match f a with
  | none=>none
  | some (p,b)=>some (o ++ p,b)
def chk (s : Bool) (p : Bool) : E Unit:=
 match s with
 | true=>some ([p],())
 | false=>match p with
  | true=>some ([],())
  | false=>none
def e08 (k : IntKind) : List AV → Option (List Int)
 | []=>some []
 | .int _ k' n :: r=>if k' = k then (e08 k r).map (n :: ·) else none
 | _=>none
def e0c : List AV → Option (List Bool)
 | []=>some []
 | .bool _ b :: r=>(e0c r).map (b :: ·)
 | _=>none
def e0w (l : List AV) : AV:=
 match l with
 | .int _ k a :: r =>
  match e08 k r with
  | some ns=>if 3 ≤ ns.length then .ints k (ns.length + 1) (a :: ns) else .agg l
  | none => .agg l
 | .bool _ b :: r =>
  match e0c r with
  | some bs=>if 4 ≤ bs.length then .bools (bs.length + 1) (b :: bs) else .agg l
  | none => .agg l
 | _ => .agg l
def e3f (n : Nat) (l : List Bool) : List AV:=(List.range n).map fun i => .bool true (l.getD i false)
def spread (k : IntKind) (n : Nat) (l : List Int) : List AV:=(List.range n).map fun i => .int true k (l.getD i 0)
def alive : AV → Bool
 | .top | .grd .. | .tuple _=>false
 | _=>true
def width : AV → Nat
 | .ints _ n _=>n
 | _=>1
def d9x : List AV → Nat
 | []=>0
 | a :: r=>width a + d9x r
def exp : List AV → List AV
 | []=>[]
 | .ints k n l :: r=>spread k n l ++ exp r
 | a :: r=>a :: exp r
def e5n : AV → Bool
 | .agg _ | .tuple _ | .top | .grd .. | .wagg _ | .bools .. => false
 | _=>true
def f0g : List AV → Nat → Option (AV × Nat)
 | [],_=>none
 | a :: r,o=>match decide (o < width a) with | true=>some (a,o) | false=>f0g r (o - width a)
def cellW : AV → Nat → AV
 | .ints k _ l,j => .int true k (l.getD j 0)
 | a,_=>a
def setW : List AV → Nat → AV → Option (List AV)
 | [],_,_=>none
 | a :: r,o,v=>match decide (o < width a) with
  | true=>match a,v with
   | .ints k n l, .int _ k' x=>if k' = k then some (.ints k n (l.set o x) :: r) else none
   | .ints .., _=>none
   | _,v=>some (v :: r)
  | false=>(setW r (o - width a) v).map (a :: ·)
def e1n : List AV → Nat → Option (List AV)
 | l,0=>some l
 | [],_ + 1=>none
 | a :: r,o + 1=>match decide (width a ≤ o + 1) with | true=>e1n r (o + 1 - width a) | false=>none
def e1o : List AV → Nat → Option (List AV)
 | _,0=>some []
 | [],_ + 1=>none
 | a :: r,o + 1=>match decide (width a ≤ o + 1) with | true=>(e1o r (o + 1 - width a)).map (a :: ·) | false=>none
def e4v (l : List AV) (b : Nat) : Option (IntKind × Nat × List Int):=
 match e1n l b with
 | some (.ints k n xs :: _)=>some (k,n,xs)
 | _=>none
def f4j (l : List AV) (b : Nat) (xs : List Int) : Option (List AV):=
 match e1o l b,e1n l b with
 | some p,some (.ints k n _ :: r)=>some (p ++ .ints k n xs :: r)
 | _,_=>none
def mkW (l : List AV) : AV:=
 match l with
 | [.ints k n xs] => .ints k n xs
 | l=>match l.all fun a=>match a with | .ints .. => false | _=>true with
  | true=>e0w l
  | false => .wagg l
def d9y (mid : List AV) (v : AV) : List AV:=
 match v with
 | .ints k n xs=>(match mid with
  | .ints k' n' _ :: _=>if k' = k ∧ n' = n then [.ints k n xs] else spread k n xs
  | _=>spread k n xs)
 | .agg l=>(match l.all fun a=>match a with | .ints .. => false | _=>true with | true=>l | false=>[.top])
 | .wagg l=>l
 | v=>[v]
def f2e (l : List AV) (o n : Nat) (v : AV) : Option (List AV):=
 match e1o l o,e1n l o with
 | some p,some mid=>match e1n mid n with
  | some r=>match decide (d9x (d9y mid v) = n) && (d9y mid v).all e5n && alive v with
   | true=>some (p ++ d9y mid v ++ r)
   | false=>none
  | none=>none
 | _,_=>none
def cellsOf : AV → List AV
 | .ints k n l=>spread k n l
 | .bools n l=>e3f n l
 | .agg l=>l
 | .wagg l=>exp l
 | v=>[v]
def d8w : AV → Cells
 | .ints k n l => .ints k (some n) l
 | .bools n l => .bools n l
 | .agg l => .vals l
 | .wagg l => .wide l
 | v => .vals [v]
def lo : IntKind → Int
 | .i8 => -128 | .i16 => -32768 | .i32 => -2147483648 | .i64 => -9223372036854775808 | _=>0
def hi : IntKind → Int
 | .i8=>127 | .i16=>32767 | .i32=>2147483647 | .i64=>9223372036854775807
 | .u8=>255 | .u16=>65535 | .u32=>4294967295 | .u64=>18446744073709551615
def inR (k : IntKind) (n : Int) : Bool:=decide (lo k ≤ n) && decide (n ≤ hi k)
def d9z : Value → Option AV
 | .bool b=>some (.bool false b)
 | .int k n=>match inR k n with | true=>some (.int false k n) | false=>none
 | .string s=>some (.str false (s.data.toList.map fun b=>(b.toNat : Int)))
 | .pointer none=>some .nilptr
 | .slice none 0 0=>some .nilslice
 | .nilFunc=>some .nilfunc
 | .nilIface=>some .niliface
 | _=>none
def d8y : List Value → Option (List AV)
 | []=>some []
 | v :: r=>match d9z v,d8y r with
  | some a,some l=>some (a :: l)
  | _,_=>none
def ofValue (v : Value) : Option AV:=
 match v with
 | .agg cs=>(d8y cs.toList).map e0w
 | v=>d9z v
def scalar : AV → Bool
 | .ints .. | .agg _ | .tuple _ | .top | .grd .. | .wagg _ | .bools .. => false
 | _=>true
def getName (m : Mem) (n : Nat) : Option Blk:=match m[n]? with | some (some b)=>some b | _=>none
section
variable (P : Program)
def d9s (t : TypeId) : Option (Option Nat):=
 match P.underlying t with
 | some (.struct _) | some (.array _ _)=>(P.info? t).map fun i=>some i.size
 | some _=>some none
 | none=>none
def e0n (t : TypeId) : Option Nat:=(P.info? t).map (·.size)
def isK (e : TypeId) (k : IntKind) : Bool:=match P.underlying e with | some (.int k')=>decide (k' = k) | _=>false
def is1 (e : TypeId) : Bool:=match e0n P e with | some 1=>true | _=>false
def inB (s : Bool) (sz : Option Nat) (len o n : Nat) : E Unit:=
 match sz with
 | some m=>chk s (decide (o + n ≤ m))
 | none=>chk true (decide (o + n ≤ len))
def e0x (c : Cells) (s : Bool) (o : Nat) : E AV:=
 match c with
 | .vals l=>match l[o]? with | some a=>E.pure a | none=>none
 | .ints k sz l=>E.bind (inB s sz l.length o 1) fun _=>E.pure (.int true k (l.getD o 0))
 | .wide l=>match f0g l o with | some (a,j)=>E.pure (cellW a j) | none=>none
 | .bools n l=>E.bind (chk s (decide (o + 1 ≤ n))) fun _=>E.pure (.bool true (l.getD o false))
def e2u (c : Cells) (s : Bool) (o n : Nat) : E AV:=
 match c with
 | .vals l=>if o + n ≤ l.length then E.pure (e0w ((l.drop o).take n)) else none
 | .ints k sz l =>
  match s,sz with
  | false,some m=>if o = 0 ∧ n = m then E.pure (.ints k n l) else if o + n ≤ m then E.pure (.ints k n ((l.drop o).take n)) else none
  | _,_=>E.bind (inB s sz l.length o n) fun _=>E.pure (.ints k n ((l.drop o).take n))
 | .wide l=>match e1n l o with
  | some q=>match e1o q n with
   | some r=>E.pure (mkW r)
   | none=>none
  | none=>none
 | .bools m l=>if s = false ∧ o = 0 ∧ n = m then E.pure (.bools n l) else none
def e4w (b : Blk) (at' : Nat) : Option Cells:=
 match b.c with
 | .wide l=>match e4v l at' with | some (k,n,xs)=>some (.ints k (some n) xs) | none=>none
 | _=>none
def e9a (b : Blk) (at' : Nat) (c : Cells) : Option Blk:=
 match b.c,c with
 | .wide l, .ints k2 _ xs=>match e4v l at' with
  | some (k,_,_)=>if k = k2 then (match f4j l at' xs with | some l'=>some ⟨b.rw, .wide l'⟩ | none=>none) else none
  | none=>none
 | _,_=>none
def e7t [Tab] (m : Mem) (t : TypeId) (a : AV) : E AV:=
 match a with
 | .wptr s n b o =>
  match getName m n,d9s P t with
  | some bl,some (some sz)=>match e4w bl b with | some c=>e2u c s o sz | none=>none
  | some bl,some none=>match e4w bl b with | some c=>e0x c s o | none=>none
  | _,_=>none
 | .gptr s g o =>
  match Tab.T g,d9s P t with
  | some c,some (some sz)=>e2u c s o sz
  | some c,some none=>e0x c s o
  | _,_=>none
 | .ptr s n o =>
  match getName m n,d9s P t with
  | some b,some (some sz)=>e2u b.c s o sz
  | some b,some none=>e0x b.c s o
  | _,_=>none
 | _=>none
def setCell (c : Cells) (s : Bool) (o : Nat) (v : AV) : E Cells:=
 match c with
 | .vals l=>if o < l.length then E.pure (.vals (l.set o v)) else none
 | .ints k sz l =>
  match v with
  | .int _ k' x=>if k' = k then E.bind (inB s sz l.length o 1) fun _=>E.pure (.ints k sz (l.set o x)) else none
  | _=>none
 | .wide l=>match setW l o v with | some l'=>E.pure (.wide l') | none=>none
 | .bools n l =>
  match v with
  | .bool _ x=>E.bind (chk s (decide (o + 1 ≤ n))) fun _=>E.pure (.bools n (l.set o x))
  | _=>none
def e1h (c : Cells) (s : Bool) (o n : Nat) (v : AV) : E Cells:=
 match c,v with
 | .ints k sz l, .ints k' n' l' =>
  if k' = k ∧ n' = n then
   match s,sz with
   | false,some m=>if o = 0 ∧ n = m then E.pure (.ints k sz l') else if o + n ≤ m then E.pure (.ints k sz (l.take o ++ l' ++ l.drop (o + n))) else none
   | _,_=>E.bind (inB s sz l.length o n) fun _=>E.pure (.ints k sz (l.take o ++ l' ++ l.drop (o + n)))
  else none
 | .vals l,v =>
  let cs:=cellsOf v
  if decide (cs.length = n) && decide (o + n ≤ l.length) && cs.all scalar && alive v then E.pure (.vals (l.take o ++ cs ++ l.drop (o + n))) else none
 | .wide l,v=>match f2e l o n v with | some l'=>E.pure (.wide l') | none=>none
 | .bools m _, .bools n' l'=>if s = false ∧ o = 0 ∧ n = m ∧ n' = m then E.pure (.bools m l') else none
 | _,_=>none
def e2v (m : Mem) (t : TypeId) (a v : AV) : E Mem:=
 match a with
 | .wptr s n b o =>
  match getName m n,d9s P t with
  | some bl,some (some sz)=>if bl.rw then (match e4w bl b with
    | some c=>E.bind (e1h c s o sz v) fun c'=>match e9a bl b c' with | some bl'=>E.pure (m.set n (some bl')) | none=>none
    | none=>none) else none
  | some bl,some none=>if bl.rw && scalar v && is1 P t then (match e4w bl b with
    | some c=>E.bind (setCell c s o v) fun c'=>match e9a bl b c' with | some bl'=>E.pure (m.set n (some bl')) | none=>none
    | none=>none) else none
  | _,_=>none
 | .ptr s n o =>
  match getName m n,d9s P t with
  | some b,some (some sz)=>if b.rw then E.bind (e1h b.c s o sz v) fun c=>E.pure (m.set n (some ⟨true,c⟩)) else none
  | some b,some none=>if b.rw && scalar v && is1 P t then E.bind (setCell b.c s o v) fun c=>E.pure (m.set n (some ⟨true,c⟩)) else none
  | _,_=>none
 | _=>none
def d98 (k : IntKind) (x y : Int) : Int:=k.wrap (BitVec.ofInt k.bits x &&& BitVec.ofInt k.bits y).toNat
def ior (k : IntKind) (x y : Int) : Int:=k.wrap (BitVec.ofInt k.bits x ||| BitVec.ofInt k.bits y).toNat
def e0b (k : IntKind) (x y : Int) : Int:=k.wrap (BitVec.ofInt k.bits x ^^^ BitVec.ofInt k.bits y).toNat
def e0h (k : IntKind) (x y : Int) : Int:=k.wrap (BitVec.ofInt k.bits x &&& ~~~ BitVec.ofInt k.bits y).toNat
def d9l (k : IntKind) (x y : Int) : Int:=k.wrap (x * 2 ^ (min y.toNat k.bits))
def d88 (k : IntKind) (x y : Int) : Int:=x.fdiv (2 ^ (min y.toNat k.bits))
def e9b (op : BinOp) (k : IntKind) (s : Bool) (x : Int) (t : Bool) (y : Int) : E AV:=
 match op with
 | .add=>E.pure (.int (s || t) k (k.wrap (x + y)))
 | .sub=>E.pure (.int (s || t) k (k.wrap (x - y)))
 | .mul=>E.pure (.int (s || t) k (k.wrap (x * y)))
 | .quo=>E.bind (chk t (!decide (y = 0))) fun _=>E.pure (.int (s || t) k (k.wrap (x.tdiv y)))
 | .rem=>E.bind (chk t (!decide (y = 0))) fun _=>E.pure (.int (s || t) k (x.tmod y))
 | .and=>E.pure (.int (s || t) k (d98 k x y))
 | .or=>E.pure (.int (s || t) k (ior k x y))
 | .xor=>E.pure (.int (s || t) k (e0b k x y))
 | .andNot=>E.pure (.int (s || t) k (e0h k x y))
 | .eql=>E.pure (.bool (s || t) (x == y))
 | .neq=>E.pure (.bool (s || t) (x != y))
 | .lss=>E.pure (.bool (s || t) (decide (x < y)))
 | .leq=>E.pure (.bool (s || t) (decide (x ≤ y)))
 | .gtr=>E.pure (.bool (s || t) (decide (x > y)))
 | .geq=>E.pure (.bool (s || t) (decide (x ≥ y)))
 | _=>none
def e6p (t : TypeId) (a : AV) : E AV:=
 match P.underlying t with
 | some (.interface _)=>none
 | some _=>E.pure (.iface t a)
 | none=>none
def e1v (t : TypeId) (name : String) : Option FuncId:=
 match P.info? t with
 | some i=>match i.methods.find? (·.name == name) with
  | some m=>match m.path.toList with
   | _ :: _=>none
   | []=>match m.func with
    | none=>none
    | some (f,b)=>match P.underlying t with
     | some (.pointer _)=>(match b with | true=>some f | false=>none)
     | some _=>(match b with | true=>none | false=>some f)
     | none=>none
  | none=>none
 | none=>none
def e9c (t : TypeId) (x y : AV) : Option Bool:=
 match P.underlying t,x,y with
 | some (.pointer _), .nilptr, .nilptr=>some true
 | some (.pointer _), .ptr _ _ _, .nilptr=>some false
 | some (.pointer _), .nilptr, .ptr _ _ _=>some false
 | some (.slice _), .nilslice, .nilslice=>some true
 | some (.slice _), .slice _ _ _ _ _ _, .nilslice=>some false
 | some (.slice _), .nilslice, .slice _ _ _ _ _ _=>some false
 | some (.interface _), .iface _ _, .niliface=>some false
 | some (.interface _), .niliface, .iface _ _=>some false
 | some (.pointer _), .wptr _ _ _ _, .nilptr=>some false
 | some (.pointer _), .nilptr, .wptr _ _ _ _=>some false
 | some (.pointer _), .gptr _ _ _, .nilptr=>some false
 | some (.pointer _), .nilptr, .gptr _ _ _=>some false
 | some (.slice _), .wslice _ _ _ _ _ _, .nilslice=>some false
 | some (.slice _), .nilslice, .wslice _ _ _ _ _ _=>some false
 | _,_,_=>none
def f4k (op : BinOp) (t : TypeId) (x y : AV) : E AV:=
 match x,y with
 | .int s k a, .int s' k' b =>
  match op with
  | .shl=>E.bind (chk s' (!decide (b < 0))) fun _=>E.pure (.int (s || s') k (d9l k a b))
  | .shr=>E.bind (chk s' (!decide (b < 0))) fun _=>E.pure (.int (s || s') k (d88 k a b))
  | _=>if k = k' then e9b op k s a s' b else none
 | .bool s a, .bool s' b =>
  match op,P.underlying t with
  | .eql,some .bool=>E.pure (.bool (s || s') (a == b))
  | .neq,some .bool=>E.pure (.bool (s || s') (!(a == b)))
  | _,_=>none
 | .str s a, .str s' b =>
  match op with
  | .eql=>E.pure (.bool (s || s') (decide (a = b)))
  | .neq=>E.pure (.bool (s || s') (!decide (a = b)))
  | .add=>E.bind (chk (s || s') (decide (a.length + b.length < 9223372036854775808))) fun _=>E.pure (.str (s || s') (a ++ b))
  | _=>none
 | .ints k n a, .ints k' n' b =>
  match op,P.underlying t,P.eqGuardType P.depth t with
  | .eql,some (.array len e),false =>
   if decide (k = k') && decide (n = len) && decide (n' = len) && isK P e k && is1 P e then E.pure (.bool true (decide (a = b))) else none
  | .neq,some (.array len e),false =>
   if decide (k = k') && decide (n = len) && decide (n' = len) && isK P e k && is1 P e then E.pure (.bool true (!decide (a = b))) else none
  | _,_,_=>none
 | x,y=>match op,e9c P t x y with
  | .eql,some b=>E.pure (.bool false b)
  | .neq,some b=>E.pure (.bool false (!b))
  | _,_=>none
def unA (op : UnOp) (x : AV) : E AV:=
 match op,x with
 | .neg, .int s k n=>E.pure (.int s k (k.wrap (0 - n)))
 | .xor, .int s k n=>E.pure (.int s k (e0b k (if k.signed then -1 else k.max) n))
 | .not, .bool s b=>E.pure (.bool s (!b))
 | _,_=>none
def d9o (c : Cells) (k : IntKind) (s : Bool) (o n : Nat) : E (List Int):=
 match c with
 | .vals l=>if o + n ≤ l.length then (match e08 k ((l.drop o).take n) with | some ns=>E.pure ns | none=>none) else none
 | .ints k' sz l =>
  if k' = k then
   match s,sz with
   | false,some m=>if o = 0 ∧ n = m then E.pure l else if o + n ≤ m then E.pure ((l.drop o).take n) else none
   | _,_=>E.bind (inB s sz l.length o n) fun _=>E.pure ((l.drop o).take n)
  else none
 | .wide l=>match e1n l o with
  | some q=>match e1o q n with
   | some [.ints k' _ xs]=>if k' = k then E.pure xs else none
   | some r=>match e08 k (exp r) with | some ns=>E.pure ns | none=>none
   | none=>none
  | none=>none
 | .bools .. => none
def e5o (m : Mem) (k : IntKind) (x : AV) : E (Bool × Nat × List Int):=
 match x with
 | .slice false _ _ 0 _ 1=>E.pure (false,0,[])
 | .slice s n o len _ 1=>match getName m n with
  | some b=>E.bind (d9o b.c k s o len) fun l=>E.pure (s,len,l)
  | none=>none
 | .wslice s n b o len _=>match getName m n with
  | some bl=>match e4w bl b with
   | some c=>E.bind (d9o c k s o len) fun l=>E.pure (s,len,l)
   | none=>none
  | none=>none
 | _=>none
def e9d (m : Mem) (src dst : TypeId) (x : AV) : E AV:=
 match P.underlying src,P.underlying dst,x with
 | some _,some (.int k), .int s _ n=>E.pure (.int s k (k.wrap n))
 | some (.slice e),some .string, .slice s n o len _ _ =>
  match P.underlying e,getName m n with
  | some (.int .u8),some b=>E.bind (d9o b.c .u8 s o len) fun l=>E.pure (.str true l)
  | some (.int .u8),none=>(match s,len with | false,0=>E.pure (.str true []) | _,_=>none)
  | _,_=>none
 | some (.slice e),some .string, .nilslice=>if isK P e .u8 then E.pure (.str false []) else none
 | some (.slice e),some .string, .wslice s n b o len cap =>
  match P.underlying e with
  | some (.int .u8)=>E.bind (e5o m .u8 (.wslice s n b o len cap)) fun (_,_,l)=>E.pure (.str true l)
  | _=>none
 | some .string,some .string, .str s l=>E.pure (.str s l)
 | _,_,_=>none
def isRow (m : Mem) (n o len : Nat) : Bool:=
 match getName m n with
 | some ⟨_, .wide l⟩=>(match e4v l o with | some (_,n',_)=>decide (n' = len) | none=>false)
 | _=>false
def e0y (m : Mem) (t : TypeId) (x i : AV) : E AV:=
 match P.underlying t,x,i with
 | some (.slice e), .wslice s n b o len _, .int s' _ i =>
  match e0n P e with
  | some sz=>if sz = 1 then E.bind (chk (s || s') (decide (0 ≤ i) && decide (i < len))) fun _=>E.pure (.wptr (s || s') n b (o + i.toNat)) else none
  | none=>none
 | some (.array len e), .wptr s n b o, .int s' _ i =>
  match e0n P e with
  | some sz=>E.bind (chk s' (decide (0 ≤ i) && decide (i < len))) fun _=>E.pure (.wptr (s || s') n b (o + i.toNat * sz))
  | none=>none
 | some (.array len e), .gptr s g o, .int s' _ i =>
  match e0n P e with
  | some sz=>E.bind (chk s' (decide (0 ≤ i) && decide (i < len))) fun _=>E.pure (.gptr (s || s') g (o + i.toNat * sz))
  | none=>none
 | some (.array len e), .ptr false n o, .int true _ i =>
  match e0n P e with
  | some sz=>E.bind (chk true (decide (0 ≤ i) && decide (i < len))) fun _=>E.pure (match isRow m n o (len * sz) with
   | true => .wptr true n o (i.toNat * sz)
   | false => .ptr true n (o + i.toNat * sz))
  | none=>none
 | some (.array len e), .ptr s n o, .int s' _ i =>
  match e0n P e with
  | some sz=>E.bind (chk s' (decide (0 ≤ i) && decide (i < len))) fun _=>E.pure (.ptr (s || s') n (o + i.toNat * sz))
  | none=>none
 | some (.slice e), .slice s n o len _ es, .int s' _ i =>
  match e0n P e with
  | some sz=>if sz = es then E.bind (chk (s || s') (decide (0 ≤ i) && decide (i < len))) fun _=>E.pure (.ptr (s || s') n (o + i.toNat * sz)) else none
  | none=>none
 | _,_,_=>none
def e6q (t : TypeId) (cs : List AV) (off : Nat) : E AV:=
 match d9s P t with
 | some (some sz)=>if off + sz ≤ cs.length then E.pure (e0w ((cs.drop off).take sz)) else none
 | some none=>match cs[off]? with | some v=>E.pure v | none=>none
 | none=>none
def rowA (len : Nat) (e : TypeId) (k : IntKind) (n : Nat) (l : List Int) (s' : Bool) (i : Int) : E AV:=
 match P.underlying e,e0n P e with
 | some (.array _ e'),some sz =>
  if isK P e' k && decide (n = len * sz) then
   E.bind (chk s' (decide (0 ≤ i) && decide (i < (len : Int)))) fun _=>E.pure (.ints k sz ((l.drop (i.toNat * sz)).take sz))
  else none
 | _,_=>none
def e6r (t : TypeId) (x i : AV) : E AV:=
 match P.underlying t,x,i with
 | some (.array len e), .ints k n l, .int s' _ i =>
  if is1 P e && decide (n = len) && isK P e k then
   E.bind (chk s' (decide (0 ≤ i) && decide (i < (len : Int)))) fun _=>E.pure (.int true k (l.getD i.toNat 0))
  else rowA P len e k n l s' i
 | some .string, .str s l, .int s' _ i =>
  E.bind (chk (s || s') (decide (0 ≤ i) && decide (i < l.length))) fun _=>E.pure (.int (s || s') .u8 (l.getD i.toNat 0))
 | some (.array len e), .bools n l, .int s' _ i =>
  match e0n P e,P.underlying e with
  | some 1,some .bool=>if n = len then E.bind (chk s' (decide (0 ≤ i) && decide (i < (len : Int)))) fun _=>E.pure (.bool true (l.getD i.toNat false)) else none
  | _,_=>none
 | some (.array len e), .agg cs, .int false _ i =>
  match e0n P e with
  | some sz=>if decide (0 ≤ i) && decide (i < (len : Int)) then e6q P e cs (i.toNat * sz) else none
  | none=>none
 | _,_,_=>none
def d9m (y : Nat) (sy : Bool) : Option AV → Nat → E (Bool × Nat)
 | none,d=>E.pure (sy,d)
 | some (.int s _ i),_=>E.bind (chk (s || sy) (decide (0 ≤ i) && decide (i ≤ y))) fun _=>E.pure (match sy,y with | false,0=>(false,0) | _,_=>(s,i.toNat))
 | some _,_=>none
def d8x : Cells → Nat
 | .vals l=>l.length
 | .ints _ (some n) _=>n
 | .ints _ none l=>l.length
 | .wide l=>d9x l
 | .bools n _=>n
def e6s (m : Mem) (t : TypeId) (x : AV) (lo hi mx : Option AV) : E AV:=
 match P.underlying t,x,mx with
 | some (.slice e), .nilslice,none =>
  match e0n P e with
  | some _=>E.bind (d9m 0 false hi 0) fun (sh,h)=>E.bind (d9m h sh lo 0) fun _=>E.pure .nilslice
  | none=>none
 | some (.slice e), .wslice s nm b o len cap,none =>
  match e0n P e with
  | some sz=>if sz ≠ 1 then none else E.bind (d9m len s hi len) fun (sh,h)=>E.bind (d9m h sh lo 0) fun (sl,l) =>
    E.pure (.wslice (s || sh || sl) nm b (o + l) (h - l) (cap.map (· - l)))
  | none=>none
 | some (.array n e), .ptr s nm o,none =>
  match e0n P e,getName m nm with
  | some sz,some b=>if !s && decide (sz = 1) && isRow m nm o n then (if !decide (o + n ≤ d8x b.c) then none else E.bind (d9m n false hi n) fun (sh,h)=>E.bind (d9m h sh lo 0) fun (sl,l) =>
    E.pure (.wslice (sh || sl) nm o l (h - l) (some (n - l)))) else if s || !decide (o + n * sz ≤ d8x b.c) then none else E.bind (d9m n false hi n) fun (sh,h)=>E.bind (d9m h sh lo 0) fun (sl,l) =>
    E.pure (.slice (sh || sl) nm (o + l * sz) (h - l) (some (n - l)) sz)
  | _,_=>none
 | some (.slice e), .slice s nm o len cap es,none =>
  match e0n P e with
  | some sz=>if sz ≠ es then none else E.bind (d9m len s hi len) fun (sh,h)=>E.bind (d9m h sh lo 0) fun (sl,l) =>
    E.pure (.slice (s || sh || sl) nm (o + l * sz) (h - l) (cap.map (· - l)) sz)
  | none=>none
 | _,_,_=>none
def e6t (t : TypeId) (x : AV) (lo hi : Option AV) (mx : AV) : E AV:=
 match P.underlying t,x,hi with
 | some (.slice e), .slice s nm o len _ es,some h0 =>
  match e0n P e with
  | some sz=>if sz ≠ es then none else E.bind (d9m len s (some mx) len) fun (sm,mm)=>E.bind (d9m mm sm (some h0) mm) fun (sh,h)=>E.bind (d9m h sh lo 0) fun (sl,l) =>
    E.pure (.slice (s || sm || sh || sl) nm (o + l * sz) (h - l) (some (mm - l)) sz)
  | none=>none
 | _,_,_=>none
def sliceB (m : Mem) (t : TypeId) (x : AV) (lo hi mx : Option AV) : E AV:=
 match mx with
 | some y=>e6t P t x lo hi y
 | none=>e6s P m t x lo hi none
def e3g (t : TypeId) (x : AV) : E AV:=
 match P.underlying t,x with
 | some (.array k e), .slice s n o len _ 1 =>
  match e0n P e,decide (1 ≤ k) with
  | some 1,true=>E.bind (chk s (decide (k ≤ len))) fun _=>E.pure (.ptr s n o)
  | _,_=>none
 | _,_=>none
def e7u (t : TypeId) (f : Nat) : Option (Nat × TypeId):=
 match P.underlying t with
 | some (.struct fs)=>(fs[f]?).map fun f=>(f.offset,f.type)
 | _=>none
def e0z (t : TypeId) (x : AV) (f : Nat) : E AV:=
 match x,e7u P t f with
 | .ptr s n o,some (off,ft)=>match e0n P ft with
  | some (_ + 1)=>E.pure (.ptr s n (o + off))
  | _=>none
 | _,_=>none
def e6u (t : TypeId) (x : AV) (f : Nat) : E AV:=
 match x,e7u P t f with
 | .agg cs,some (off,ft)=>e6q P ft cs off
 | .ints k n l,some (off,ft)=>e6q P ft (spread k n l) off
 | .wagg cs,some (off,ft)=>(match d9s P ft with
  | some (some sz)=>(match e1n cs off with
   | some q=>match e1o q sz with | some r=>E.pure (mkW r) | none=>none
   | none=>none)
  | some none=>(match f0g cs off with | some (a,j)=>E.pure (cellW a j) | none=>none)
  | none=>none)
 | _,_=>none
def splice (place : Nat → Option (Nat × Nat)) : List AV → List (Nat × AV) → Option (List AV)
 | cs,[]=>some cs
 | cs,(i,v) :: r =>
  match place i with
  | some (off,sz) =>
   let vs:=cellsOf v
   if decide (vs.length = sz) && decide (off + sz ≤ cs.length) && alive v then splice place (cs.take off ++ vs ++ cs.drop (off + sz)) r else none
  | none=>none
def e4x : Nat → TypeId → Option (IntKind × Nat)
 | 0,_=>none
 | d + 1,t=>match P.underlying t with
  | some (.int k)=>some (k,1)
  | some (.array n e)=>(e4x d e).map fun (k,m)=>(k,n * m)
  | _=>none
def shapes (f : TypeId → Option (List (Option Nat))) : List TypeId → Option (List (Option Nat))
 | []=>some []
 | t :: r=>match f t,shapes f r with | some a,some b=>some (a ++ b) | _,_=>none
def shapeOf : Nat → TypeId → Option (List (Option Nat))
 | 0,_=>none
 | d + 1,t=>match e4x P 8 t with
  | some (_,n)=>some (match decide (5 ≤ n) with | true=>[some n] | false=>List.replicate n none)
  | none=>match P.underlying t with
   | some (.struct fs)=>shapes (shapeOf d) (fs.toList.map (·.type))
   | some (.array n e)=>match shapeOf d e with | some l=>some (List.replicate n l).flatten | none=>none
   | _=>some [none]
def f4l : List AV → Option (IntKind × List Int)
 | .int s k a :: r=>(e08 k (.int s k a :: r)).map fun l=>(k,l)
 | _=>none
def d9t : List (Option Nat) → List AV → Option (List AV)
 | [],l=>match l with | []=>some [] | _=>none
 | none :: s,l=>match l with | a :: r=>(d9t s r).map (a :: ·) | []=>none
 | some n :: s,l=>match f4l (l.take n),d9t s (l.drop n) with
  | some (k,xs),some r=>match decide (xs.length = n) with | true=>some (.ints k n xs :: r) | false=>none
  | _,_=>none
def e8p : List (Option Nat) → Bool
 | []=>false
 | none :: s=>e8p s
 | some _ :: _=>true
def e7v (t : TypeId) : Option AV:=match P.info? t with | some i=>(match i.zero with | some v=>ofValue v | none=>none) | none=>none
def e3z (t : TypeId) : Option AV:=
 match e7v P t with
 | some (.agg cs)=>(match shapeOf P 8 t with
  | some sh=>(match e8p sh with
   | true=>(d9t sh cs).map .wagg
   | false=>some (.agg cs))
  | none=>some (.agg cs))
 | x=>x
def e1w (place : Nat → Option (Nat × Nat)) : List AV → List (Nat × AV) → Option (List AV)
 | cs,[]=>some cs
 | cs,(i,v) :: r =>
  match place i with
  | some (off,sz)=>(match f2e cs off sz v with | some cs'=>e1w place cs' r | none=>none)
  | none=>none
def e6v (t : TypeId) : Option (Nat → Option (Nat × Nat)):=
 match P.underlying t with
 | some (.struct fs)=>(fs.toList.mapM (fun f=>(P.info? f.type).map fun i=>(f.offset,i.size))).map fun places i=>places[i]?
 | some (.array _ e)=>(e0n P e).map fun s i=>some (i * s,s)
 | _=>none
def e6w (t : TypeId) (parts : List (Nat × AV)) : E AV:=
 match e3z P t,e6v P t with
 | some (.wagg z),some pl=>match e1w pl z parts with | some cs=>E.pure (mkW cs) | none=>none
 | some z,some pl=>match splice pl (cellsOf z) parts with | some cs=>E.pure (e0w cs) | none=>none
 | _,_=>none
def e3h (x : AV) (i : Nat) : E AV:=
 match x with
 | .tuple l=>match l[i]? with | some v=>E.pure v | none=>none
 | _=>none
def e9e (c x y : AV) : E AV:=
 match c with
 | .bool false c=>E.pure (match c with | true=>x | false=>y)
 | .bool true c =>
  match x,y with
  | .bool _ a, .bool _ b=>E.pure (.bool true (match c with | true=>a | false=>b))
  | .grd g (.bool _ a), .bool _ b=>some ([!c || g], .bool true (match c with | true=>a | false=>b))
  | .bool _ a, .grd g (.bool _ b)=>some ([c || g], .bool true (match c with | true=>a | false=>b))
  | .bool _ a, .grd g (.grd g' (.bool _ b))=>some ([c || (g && g')], .bool true (match c with | true=>a | false=>b))
  | _,_=>none
 | _=>none
def f4m (t : TypeId) (x : AV) : E AV:=
 match P.underlying t,x with
 | some .string, .str s l=>E.bind (chk s (decide (l.length < 9223372036854775808))) fun _=>E.pure (.int s .i64 l.length)
 | some (.array n _),_=>E.bind (chk false (decide (n < 9223372036854775808))) fun _=>E.pure (.int false .i64 n)
 | some (.slice _), .slice s _ _ len _ _=>E.bind (chk s (decide (len < 9223372036854775808))) fun _=>E.pure (.int s .i64 len)
 | some (.slice _), .nilslice=>E.pure (.int false .i64 0)
 | some (.slice _), .wslice s _ _ _ len _=>E.bind (chk s (decide (len < 9223372036854775808))) fun _=>E.pure (.int s .i64 len)
 | _,_=>none
def xsA (m : Mem) (k : IntKind) (x : AV) : E (Bool × Nat × List Int):=e5o m k x
def f2f (m : Mem) (k : IntKind) (x : AV) : E (Bool × Nat × List Int):=
 match x with
 | .nilslice=>E.pure (false,0,[])
 | .str s l=>if k = .u8 then E.pure (s,l.length,l) else none
 | x=>e5o m k x
def e3i (c : Cells) (k : IntKind) (s : Bool) (o n : Nat) (xs : List Int) : E Cells:=
 match c with
 | .ints k' sz l=>if k' = k then (match s,sz with
   | false,some m=>if o = 0 ∧ n = m then E.pure (.ints k sz xs) else if o + n ≤ m then E.pure (.ints k sz (l.take o ++ xs ++ l.drop (o + n))) else none
   | _,_=>E.bind (inB s sz l.length o n) fun _=>E.pure (.ints k sz (l.take o ++ xs ++ l.drop (o + n)))) else none
 | _=>none
def e5p (m : Mem) (k : IntKind) (x : AV) (s : Bool) (cnt : Nat) (xs : List Int) : E Mem:=
 match x with
 | .slice _ n o _ _ 1=>match getName m n with
  | some ⟨true,c⟩=>E.bind (e3i c k s o cnt xs) fun c'=>E.pure (m.set n (some ⟨true,c'⟩))
  | _=>none
 | .wslice _ n b o _ _=>match getName m n with
  | some ⟨true,cw⟩=>match e4w ⟨true,cw⟩ b with
   | some c=>E.bind (e3i c k s o cnt xs) fun c'=>match e9a ⟨true,cw⟩ b c' with | some bl=>E.pure (m.set n (some bl)) | none=>none
   | none=>none
  | _=>none
 | _=>none
def sliceLen : AV → Option (Bool × Nat)
 | .slice s _ _ len _ 1=>some (s,len)
 | .wslice s _ _ _ len _=>some (s,len)
 | _=>none
def intRow (t : TypeId) : Option IntKind:=
 match P.underlying t with
 | some (.slice e)=>match P.underlying e,P.info? e with
  | some (.int k),some i=>(match decide (i.size = 1) && decide (i.bytes ≤ 8),i.zero with
   | true,some (.int k' 0)=>if k' = k then some k else none
   | _,_=>none)
  | _,_=>none
 | _=>none
def e6x (m : Mem) (t : TypeId) (x y : AV) : E (AV × Mem):=
 match intRow P t with
 | some k=>match x with
  | .nilslice=>E.bind (f2f m k y) fun _=>E.pure (.int false .i64 0,m)
  | x=>match sliceLen x with
   | some (sx,lx)=>E.bind (f2f m k y) fun (sy,ly,l)=>E.bind (chk sx (decide (lx < 9223372036854775808))) fun _ =>
     E.bind (e5p m k x (sx || sy) (Nat.min ly lx) (l.take (Nat.min ly lx))) fun m'=>E.pure (.int (sx || sy) .i64 (Nat.min ly lx),m')
   | none=>none
 | none=>none
def e4a (m : Mem) (t : TypeId) (x : AV) : E (AV × Mem):=
 match intRow P t with
 | some k=>match x with
  | .nilslice=>E.pure (.tuple [],m)
  | x=>match sliceLen x with
   | some (sx,lx)=>E.bind (e5p m k x sx lx (List.replicate lx 0)) fun m'=>E.pure (.tuple [],m')
   | none=>none
 | none=>none
def d9h (s : Bool) (n : Nat) : Option Nat:=match s with | true=>none | false=>some n
def e3j (t : TypeId) : Int:=
 match P.underlying t with
 | some (.slice e)=>match P.info? e with
  | some i=>(match decide (i.bytes = 1) with | true=>281474976710656 | false=>1000000000)
  | none=>1000000000
 | _=>1000000000
def f4n (s : Bool) (a : Int) (s' : Bool) (b : Int) : Option Nat:=
 match s' with
 | false=>some b.toNat
 | true=>match s with
  | true=>none
  | false=>match decide (a = 0) with | true=>some b.toNat | false=>none
def e1x (m : Mem) (t : TypeId) (x y : AV) : E (AV × Mem):=
 match intRow P t,x,y with
 | some k, .int s _ a, .int s' _ b=>E.bind (chk (s || s') (decide (0 ≤ a) && decide (a ≤ b) && decide (b ≤ e3j P t))) fun _ =>
   E.pure (.slice (s || s') m.length 0 a.toNat (f4n s a s' b) 1,m ++ [some ⟨true, .ints k (d9h (s || s') b.toNat) (List.replicate b.toNat 0)⟩])
 | _,_,_=>none
def e4d (m : Mem) (x : AV) : E (AV × Mem):=
 match x with
 | .str s l=>E.pure (.slice s m.length 0 l.length none 1,m ++ [some ⟨true, .ints .u8 (d9h s l.length) l⟩])
 | _=>none
def e6y (m : Mem) (x : AV) : E (AV × Mem):=
 match x with
 | .slice s n o (len + 1) cap 1=>match getName m n with
  | some ⟨true,c⟩=>E.pure (.slice s n o (len + 1) cap 1,m.set n (some ⟨false,c⟩))
  | _=>none
 | _=>none
def d9d (m : Mem) (t : TypeId) (len : Nat) (parts : List (Nat × AV)) : E (AV × Mem):=
 match P.underlying t with
 | some (.slice e) =>
  match e0n P e,e3z P e with
  | some 1,some z =>
   match scalar z && decide (len ≤ 16777216) && decide (1 ≤ len),splice (fun i=>some (i * 1,1)) (List.replicate len z) parts with
   | true,some cs=>match decide (cs.length = len) with
    | true=>E.pure (.slice false m.length 0 len (some len) 1,m ++ [some ⟨true,d8w (e0w cs)⟩])
    | false=>none
   | _,_=>none
  | _,_=>none
 | _=>none
def e1y (m : Mem) (t t' : TypeId) (s x : AV) : E (AV × Mem):=
 match P.underlying t,decide (t' = t) with
 | some (.slice e),true =>
  match P.underlying e,P.info? e with
  | some (.int k),some i =>
   match decide (i.size = 1) && decide (i.bytes ≤ 8),i.zero with
   | true,some (.int k' 0) =>
    match decide (k' = k),s with
    | true, .nilslice=>match x with
     | .nilslice=>E.pure (.nilslice,m)
     | .slice false _ _ 0 _ 1=>E.bind (xsA m k x) fun _=>E.pure (.nilslice,m)
     | x=>E.bind (xsA m k x) fun (sx,lx,news)=>E.bind (chk sx (decide (1 ≤ lx) && decide (lx ≤ 1000000000))) fun _ =>
      E.pure (.slice sx m.length 0 lx none 1,m ++ [some ⟨true, .ints k (d9h sx lx) news⟩])
    | true, .slice ss n 0 ls _ 1=>match getName m n with
     | some ⟨true,c⟩=>E.bind (xsA m k x) fun (sx,lx,news)=>E.bind (d9o c k ss 0 ls) fun olds=>E.bind (chk (ss || sx) (decide (ls + lx ≤ 1000000000))) fun _ =>
      E.pure (.slice (ss || sx) m.length 0 (ls + lx) none 1,m.set n none ++ [some ⟨true, .ints k (d9h (ss || sx) (ls + lx)) (olds ++ news)⟩])
     | _=>none
    | _,_=>none
   | _,_=>none
  | _,_=>none
 | _,_=>none
def e4y (t t' : TypeId) (k : IntKind) (x : AV) : E (Bool × Nat × List Int):=
 match decide (t' = t),P.underlying t',x with
 | true,some (.slice _), .nilslice=>E.pure (false,0,[])
 | false,some .string, .str s l=>if k = .u8 then E.pure (s,l.length,l) else none
 | false,some (.int _), .int s .i64 n=>E.bind (chk s (decide (0 ≤ n) && decide (n ≤ 1000000000))) fun _=>E.pure (s,n.toNat,List.replicate n.toNat 0)
 | _,_,_=>none
def e1z (m : Mem) (t t' : TypeId) (s x : AV) : E (AV × Mem):=
 match P.underlying t with
 | some (.slice e) =>
  match P.underlying e,P.info? e with
  | some (.int k),some i =>
   match decide (i.size = 1) && decide (i.bytes ≤ 8),i.zero with
   | true,some (.int k' 0) =>
    match decide (k' = k),s with
    | true, .nilslice=>E.bind (e4y P t t' k x) fun (sx,lx,news)=>E.bind (chk sx (decide (1 ≤ lx) && decide (lx ≤ 1000000000))) fun _ =>
      E.pure (.slice sx m.length 0 lx none 1,m ++ [some ⟨true, .ints k (d9h sx lx) news⟩])
    | true, .slice ss n 0 ls _ 1=>match getName m n with
     | some ⟨true,c⟩=>E.bind (e4y P t t' k x) fun (sx,lx,news)=>E.bind (d9o c k ss 0 ls) fun olds=>E.bind (chk (ss || sx) (decide (ls + lx ≤ 1000000000))) fun _ =>
      E.pure (.slice (ss || sx) m.length 0 (ls + lx) none 1,m.set n none ++ [some ⟨true, .ints k (d9h (ss || sx) (ls + lx)) (olds ++ news)⟩])
     | _=>none
    | _,_=>none
   | _,_=>none
  | _,_=>none
 | _=>none
def e5k (t : TypeId) : Option (TypeId × IntKind × Nat):=
 match P.underlying t with
 | some (.slice e)=>match e4x P 8 e,P.info? e with
  | some (k,n),some i=>match decide (i.size = n) && decide (2 ≤ n) && decide (n ≤ 512) && decide (i.bytes ≤ 4096),i.zero with
   | true,some z=>(match decide (z.cells.size = n) with | true=>some (e,k,n) | false=>none)
   | _,_=>none
  | _,_=>none
 | _=>none
def xsW (m : Mem) (k : IntKind) (sz : Nat) (x : AV) : E (Bool × Nat × List Int):=
 match x with
 | .slice s n o len _ es=>match decide (es = sz) with
  | true=>match getName m n with
   | some b=>E.bind (d9o b.c k s o (len * sz)) fun l=>E.pure (s,len,l)
   | none=>none
  | false=>none
 | _=>none
def e2a (m : Mem) (t t' : TypeId) (s x : AV) : E (AV × Mem):=
 match decide (t' = t),e5k P t with
 | true,some (_,k,sz)=>match s with
  | .nilslice=>E.bind (xsW m k sz x) fun (sx,lx,news)=>E.bind (chk sx (decide (1 ≤ lx) && decide (lx ≤ 1000000000))) fun _ =>
    E.pure (.slice sx m.length 0 lx none sz,m ++ [some ⟨true, .ints k (d9h sx (lx * sz)) news⟩])
  | .slice ss n 0 ls _ es=>match decide (es = sz),getName m n with
   | true,some ⟨true,c⟩=>E.bind (xsW m k sz x) fun (sx,lx,news)=>E.bind (d9o c k ss 0 (ls * sz)) fun olds=>E.bind (chk (ss || sx) (decide (1 ≤ ls + lx) && decide (ls + lx ≤ 1000000000))) fun _ =>
     E.pure (.slice (ss || sx) m.length 0 (ls + lx) none sz,m.set n none ++ [some ⟨true, .ints k (d9h (ss || sx) ((ls + lx) * sz)) (olds ++ news)⟩])
   | _,_=>none
  | _=>none
 | _,_=>none
def e9f (m : Mem) (t t' : TypeId) (k : IntKind) (x : AV) : E (Bool × Nat × List Int):=
 match decide (t' = t) with
 | true=>match e5o m k x with | some r=>some r | none=>e4y P t t' k x
 | false=>e4y P t t' k x
def e2c (m : Mem) (t t' : TypeId) (s x : AV) : E (AV × Mem):=
 match P.underlying t,s with
 | some (.slice e), .slice true n 0 ls (some c) 1 =>
  match P.underlying e,P.info? e with
  | some (.int k),some i =>
   match decide (i.size = 1) && decide (i.bytes ≤ 8),i.zero with
   | true,some (.int k' 0) =>
    match decide (k' = k),getName m n with
    | true,some ⟨true,cb⟩=>E.bind (e9f P m t t' k x) fun (_,lx,news)=>E.bind (d9o cb k true 0 ls) fun olds=>E.bind (chk true (decide (ls + lx ≤ c))) fun _ =>
      E.pure (.slice true n 0 (ls + lx) (some c) 1,m.set n (some ⟨true, .ints k none (olds ++ news)⟩))
    | _,_=>none
   | _,_=>none
  | _,_=>none
 | _,_=>none
def e2d (m : Mem) (t t' : TypeId) (s x : AV) : E (AV × Mem):=
 match e2c P m t t' s x with
 | some r=>some r
 | none=>match e1y P m t t' s x with
 | some r=>some r
 | none=>match e1z P m t t' s x with
  | some r=>some r
  | none=>e2a P m t t' s x
def e1r (m : Mem) (t : TypeId) (len : Nat) (parts : List (Nat × AV)) : E (AV × Mem):=
 match e5k P t,parts with
 | some (_,k,sz),[(0, .ints k' n l)]=>match decide (len = 1) && decide (k' = k) && decide (n = sz) with
  | true=>E.pure (.slice false m.length 0 1 (some 1) sz,m ++ [some ⟨true, .ints k (some sz) l⟩])
  | false=>none
 | _,_=>none
def e0r (m : Mem) (t : TypeId) (len : Nat) (parts : List (Nat × AV)) : E (AV × Mem):=
 match d9d P m t len parts with
 | some r=>some r
 | none=>e1r P m t len parts
def e7l : Callee → Bool
 | .builtin .append | .builtin .copy | .builtin .clear=>false
 | _=>true
def isV : Op → Bool
 | .alloc _ | .box .. | .store .. | .buildSlice .. | .makeSlice .. => false
 | .convert _ d _=>match P.underlying d with | some (.slice _)=>false | _=>true
 | .call c=>e7l c.callee
 | _=>true
def boolRow (t : TypeId) : Option TypeId:=
 match P.underlying t with
 | some (.slice e)=>match P.underlying e,P.info? e with
  | some .bool,some i=>(match decide (i.size = 1) && decide (i.bytes ≤ 8) with
   | true=>some e
   | false=>none)
  | _,_=>none
 | _=>none
def e7w (m : Mem) (t : TypeId) (x y : AV) : E (AV × Mem):=
 match boolRow P t,x,y with
 | some _, .slice false nx 0 lx _ 1, .slice false ny oy ly _ 1=>match getName m nx,getName m ny with
  | some ⟨true, .bools n _⟩,some ⟨_, .bools n' l⟩=>if decide (1 ≤ lx && lx < 1000000000) && decide (lx = ly) && decide (lx = n) && decide (oy + ly ≤ n') && !Nat.beq nx ny then
    E.pure (.int false .i64 lx,m.set nx (some ⟨true, .bools n ((l.drop oy).take lx)⟩)) else none
  | _,_=>none
 | _,_,_=>none
def e6z (m : Mem) (t : TypeId) (x y : AV) : E (AV × Mem):=
 match e6x P m t x y with
 | some r=>some r
 | none=>e7w P m t x y
def f2g (a b c : Int) : Int:=if c < (if b < a then b else a) then c else if b < a then b else a
def opA [Tab] (ev : Operand → AV) (m : Mem) (op : Op) : E (AV × Mem):=
 let v (x : E AV) : E (AV × Mem):=E.bind x fun a=>E.pure (a,m)
 match op with
 | .move x | .assign x=>E.pure (ev x,m)
 | .pick c a b=>v (e9e (ev c) (ev a) (ev b))
 | .alloc t=>match e3z P t with | some z=>E.pure (.ptr false m.length 0,m ++ [some ⟨true,d8w z⟩]) | none=>none
 | .box _ x=>if alive (ev x) then E.pure (.ptr false m.length 0,m ++ [some ⟨true,d8w (ev x)⟩]) else none
 | .build t parts=>v (e6w P t (parts.toList.map fun (i,x)=>(i,ev x)))
 | .load t a=>v (e7t P m t (ev a))
 | .store t a x=>E.bind (e2v P m t (ev a) (ev x)) fun m'=>E.pure (.tuple [],m')
 | .nilCheck x=>match ev x with | .ptr s n o=>E.pure (.ptr s n o,m) | .wptr s n b o=>E.pure (.wptr s n b o,m) | .gptr s g o=>E.pure (.gptr s g o,m) | .iface t a=>E.pure (.iface t a,m) | _=>none
 | .makeSlice t x y=>e1x P m t (ev x) (ev y)
 | .call { callee := .builtin .copy,args,argTypes } =>
  match argTypes.toList,args.toList with
  | t :: _,[x,y]=>e6z P m t (ev x) (ev y)
  | _,_=>none
 | .call { callee := .builtin .clear,args,argTypes } =>
  match argTypes.toList,args.toList with
  | t :: _,[x]=>e4a P m t (ev x)
  | _,_=>none
 | .call { callee := .builtin .min,args, .. } =>
  match args.toList with
  | [x,y]=>(match ev x,ev y with | .int s k a, .int s' k' b=>if k' = k then E.pure (.int (s || s') k (if b < a then b else a),m) else none | _,_=>none)
  | [x,y,z]=>(match ev x,ev y,ev z with | .int s k a, .int s' k' b, .int s2 k2 c=>if k' = k ∧ k2 = k then E.pure (.int (s || s' || s2) k (f2g a b c),m) else none | _,_,_=>none)
  | _=>none
 | .call { callee := .builtin .max,args, .. } =>
  match args.toList with
  | [x,y]=>(match ev x,ev y with | .int s k a, .int s' k' b=>if k' = k then E.pure (.int (s || s') k (if a < b then b else a),m) else none | _,_=>none)
  | _=>none
 | .binOp op t x y _=>v (f4k P op t (ev x) (ev y))
 | .unOp op _ x=>v (unA op (ev x))
 | .convert s d x=>match P.underlying d with
  | some (.slice e)=>(match P.underlying s with
   | some .string=>if isK P e .u8 && is1 P e then e4d m (ev x) else none
   | some (.slice _)=>if Nat.beq s d && isK P e .u8 then e6y m (ev x) else none
   | _=>none)
  | _=>v (e9d P m s d (ev x))
 | .slice t x lo hi mx=>v (sliceB P m t (ev x) (lo.map ev) (hi.map ev) (mx.map ev))
 | .fieldAddr t x f=>v (e0z P t (ev x) f)
 | .sliceToArrayPointer t x=>v (e3g P t (ev x))
 | .makeInterface t x=>v (e6p P t (ev x))
 | .field t x f=>v (e6u P t (ev x) f)
 | .indexAddr t x i=>v (e0y P m t (ev x) (ev i))
 | .index t x i=>v (e6r P t (ev x) (ev i))
 | .extract x i=>v (e3h (ev x) i)
 | .call { callee := .builtin .len,args,argTypes } =>
  match argTypes[0]?,args[0]? with
  | some t,some x=>v (f4m P t (ev x))
  | _,_=>none
 | .buildSlice t len parts=>e0r P m t len (parts.toList.map fun (i,x)=>(i,ev x))
 | .call { callee := .builtin .append,args,argTypes } =>
  match argTypes.toList,args.toList with
  | [t,t'],[s,x]=>e2d P m t t' (ev s) (ev x)
  | _,_=>none
 | _=>none
end
def plain0 : AV → Bool
 | .bool .. | .int .. | .str .. | .ints .. => true
 | _=>false
def d9e : AV → Bool
 | .bool .. | .int .. | .str .. | .ints .. | .bools .. => true
 | .wagg l=>l.all plain0
 | .agg l=>l.all plain0
 | _=>false
def d8z : AV → Bool
 | .tuple l=>l.all d9e
 | v=>d9e v
inductive Tree (α : Type) where
 | leaf (a : α)
 | need (p : Bool) (t : Tree α)
 | ite (c : Bool) (t e : Tree α)
 | fail
def Tree.bind {α β : Type} : Tree α → (α → Tree β) → Tree β
 | .leaf a,f=>f a
 | .need p t,f => .need p (t.bind f)
 | .ite c t e,f => .ite c (t.bind f) (e.bind f)
 | .fail,_ => .fail
def Tree.needs {α : Type} : List Bool → Tree α → Tree α
 | [],t=>t
 | p :: r,t => .need p (Tree.needs r t)
def Tree.ofE {α : Type} : E α → Tree α
 | none => .fail
 | some (o,a)=>Tree.needs o (.leaf a)
def Tree.Sat {α : Type} (Q : α → Prop) : Tree α → Prop
 | .leaf a=>Q a
 | .need p t=>p = true ∧ t.Sat Q
 | .ite c t e=>(c = true → t.Sat Q) ∧ (c = false → e.Sat Q)
 | .fail=>False
def Tree.flat {α : Type} : Tree α → E α
 | .leaf a=>E.pure a
 | .need p t=>match t.flat with | some (o,a)=>some (p :: o,a) | none=>none
 | _=>none
structure St where
 tm : List AV
 mem : Mem
def St.ev (st : St) : Operand → AV
 | .tmp t=>st.tm.getD t .top
 | .const v=>match ofValue v with | some a=>a | none => .top
 | .global g => .gptr false g 0
 | .func f => .func f []
def tmpsOf (op : Op) : List Nat:=op.operands.toList.filterMap fun | .tmp t=>some t | _=>none
def St.evT (st : St) (ts : List Nat) : Operand → AV
 | .tmp t=>match ts.contains t with | true=>st.tm.getD t .top | false => .top
 | x=>st.ev x
def St.evS (st : St) (ts strip : List Nat) : Operand → AV
 | .tmp t=>match ts.contains t with | true=>(match strip.contains t with | true=>(match st.tm.getD t .top with | .grd _ a=>a | a=>a) | false=>st.tm.getD t .top) | false => .top
 | x=>st.ev x
def e3k : Op → List Nat
 | .pick (.tmp t) _ _=>[t]
 | .pick .. => []
 | op=>tmpsOf op
def St.owes (st : St) : List Nat → List Bool
 | []=>[]
 | t :: r=>match st.tm.getD t .top with | .grd c _=>c :: St.owes st r | _=>St.owes st r
def e6f (tm : List AV) (dst : Option Tmp) (v : AV) : List AV:=
 match dst with
 | some d=>tm.set d v
 | none=>tm
inductive Ex where
 | normal
 | exit (id : Nat)
 | ret
abbrev d82:=FuncId → List AV → Mem → E (AV × Mem)
inductive Want where
 | yes | no | maybe (g : Bool) | bad
def e5q (ops : Array Oper) (st : St) (o : Oper) : Want:=
 match o.guard with
 | none => .yes
 | some (j,want) =>
  match (ops[j]?).bind (·.dst) with
  | some d=>match st.tm.getD d .top with
   | .bool false b=>(match b,want with | true,true => .yes | false,false => .yes | _,_ => .no)
   | .bool true b => .maybe (match want with | true=>b | false=>!b)
   | .grd g (.bool _ b) => .maybe (g && (match want with | true=>b | false=>!b))
   | .grd c .top=>(match c with | false => .no | true => .bad)
   | _ => .bad
  | none => .bad
mutual
def d9b (k : Nat) : AV → Bool
 | .ptr _ n _=>decide (n < k)
 | .slice _ n _ _ _ _=>decide (n < k)
 | .agg l=>d9q k l
 | .tuple l=>d9q k l
 | .grd _ a=>d9b k a
 | .func _ l=>d9q k l
 | .iface _ a=>d9b k a
 | .wagg l=>d9q k l
 | .wptr _ n _ _=>decide (n < k)
 | .wslice _ n _ _ _ _=>decide (n < k)
 | _=>true
def d9q (k : Nat) : List AV → Bool
 | []=>true
 | a :: l=>d9b k a && d9q k l
end
def e1a (k : Nat) : Mem → Bool
 | []=>true
 | some ⟨_, .vals l⟩ :: m=>d9q k l && e1a k m
 | some ⟨_, .wide l⟩ :: m=>d9q k l && e1a k m
 | _ :: m=>e1a k m
def d96 (m : Mem) : Mem:=m.map fun b=>match b with | some b=>some ⟨false,b.c⟩ | none=>none
def d8b (m : Mem) : Mem:=m.map fun b=>match b with | some ⟨true,c⟩=>some ⟨true,c⟩ | _=>none
section
variable [Tab] (P : Program) (q : FuncId → Bool) (H : d82)
def f4o (ev : Operand → AV) (m : Mem) (op : Op) : E (AV × Mem):=
 match op with
 | .call { callee := .value f,args, .. } =>
  match ev f with
  | .func f cap=>H f ((args.toList.map ev) ++ cap) m
  | _=>none
 | .call { callee := .invoke r name,args, .. } =>
  match ev r with
  | .iface t a=>(match e1v P t name with
   | some f=>H f (a :: args.toList.map ev) m
   | none=>none)
  | _=>none
 | op=>opA P ev m op
structure Fp where
 lim : Nat
 rd : Option Nat
 wa : Nat
 wb : Nat
 bar : Bool
def Fp.none : Fp:=⟨0, .none,0,0,false⟩
def Fp.free (f : Fp) : Bool:=decide (f.lim = 0) && f.rd.isNone && decide (f.wb ≤ f.wa) && !f.bar
def Fp.off (f g : Fp) : Bool:=
 match f.bar with
 | true=>g.free
 | false=>decide (f.wb ≤ f.wa) || (!g.bar && decide (g.lim ≤ f.wa) && (match g.rd with | some y=>decide (y < f.wa) || decide (f.wb ≤ y) | .none=>true) &&
   (decide (g.wb ≤ g.wa) || decide (g.wb ≤ f.wa) || decide (f.wb ≤ g.wa)))
def keep (y : Option Nat) (m : Mem) : Mem:=
 match y with
 | some y=>List.replicate y none ++ [m.getD y none]
 | none=>[]
def nameOf : AV → Option Nat
 | .ptr _ n _=>some n
 | .slice _ n _ _ _ _=>some n
 | .wptr _ n _ _=>some n
 | .wslice _ n _ _ _ _=>some n
 | _=>none
def e70 (ev : Operand → AV) : Op → Option Nat
 | .load _ a=>nameOf (ev a)
 | .convert _ _ a=>nameOf (ev a)
 | .slice _ a _ _ _=>nameOf (ev a)
 | .indexAddr _ a _=>nameOf (ev a)
 | _=>none
def f2h : Op → Bool
 | .makeSlice .. | .buildSlice .. => true
 | .call { callee := .builtin .append, .. }=>true
 | _=>false
def e71 (k : Nat) (a : AV) : AV:=match d9b k a with | true=>a | false => .top
def e3l (ev : Operand → AV) (m : Mem) (wa : Nat) (op : Op) : E (AV × Mem × Fp):=
 match opA P (fun x=>e71 m.length (ev x)) (d96 (m.take wa) ++ m.drop wa) op with
 | some (o,(v,m1))=>some (o,(v,m.take wa ++ d8b (m1.drop wa),⟨m.length,none,wa,m1.length,false⟩))
 | none=>none
def mkQ (ev : Operand → AV) (m : Mem) (lim : Nat) (op : Op) : E (AV × Mem × Fp):=
 match f2h op && decide (lim = m.length) && e1a m.length m with
 | true=>match e3l P ev m m.length op with
  | some r=>some r
  | none=>e3l P ev m (m.length - 1) op
 | false=>none
def f4p (ev : Operand → AV) (m : Mem) (op : Op) : E (AV × Mem × Fp):=
 match op with
 | .buildSlice t len parts=>match d9d P m t len (parts.toList.map fun (i,x)=>(i,ev x)) with
  | some (o,(v,m'))=>some (o,(v,m',⟨0,none,m.length,m.length + 1,false⟩))
  | none=>none
 | _=>none
def f4q (ev : Operand → AV) (m : Mem) (op : Op) : E (AV × Mem × Fp):=
 match op with
 | .makeSlice t x y=>match e1x P m t (ev x) (ev y) with
  | some (o,(v,m'))=>some (o,(v,m',⟨0,none,m.length,m.length + 1,false⟩))
  | none=>none
 | _=>none
def e5r (m : Mem) (lim : Nat) (f : FuncId) (as : List AV) : E (AV × Mem × Fp):=
 match q f with
 | true =>
  match d9q lim as && e1a lim (m.take lim) && decide (lim ≤ m.length) with
  | true =>
   match H f as (d96 (m.take lim)) with
   | some (o,(v,m')) =>
    match d8z v with
    | true=>some (o,(v,m,⟨lim,none,0,0,false⟩))
    | false=>if lim = m.length then some (o,(v,m ++ d8b (m'.drop lim),⟨lim,none,m.length,m.length + (d8b (m'.drop lim)).length,false⟩)) else none
   | none=>none
  | false=>none
 | false=>match H f as m with
  | some (o,(v,m'))=>some (o,(v,m',⟨0,none,0,0,true⟩))
  | none=>none
def e5s (ev : Operand → AV) (m : Mem) (lim : Nat) (op : Op) : E (AV × Mem × Fp):=
 match op with
 | .alloc t=>match e3z P t with | some z=>E.pure (.ptr false m.length 0,m ++ [some ⟨true,d8w z⟩],⟨0,none,m.length,m.length + 1,false⟩) | none=>none
 | .box _ x=>if alive (ev x) then E.pure (.ptr false m.length 0,m ++ [some ⟨true,d8w (ev x)⟩],⟨0,none,m.length,m.length + 1,false⟩) else none
 | .store t a x =>
  match nameOf (ev a) with
  | some n=>match e2v P (keep (some n) m) t (ev a) (ev x) with
   | some (o,m')=>if n < m.length then some (o,(.tuple [],m.set n (m'.getD n none),⟨0,none,n,n + 1,false⟩)) else none
   | none=>none
  | none=>none
 | .call { callee := .value f,args, .. } =>
  match ev f with
  | .func f cap=>e5r q H m lim f ((args.toList.map ev) ++ cap)
  | _=>none
 | .call { callee := .invoke r name,args, .. } =>
  match ev r with
  | .iface t a=>(match e1v P t name with
   | some f=>e5r q H m lim f (a :: args.toList.map ev)
   | none=>none)
  | _=>none
 | op=>match isV P op with
  | true=>match opA P ev (keep (e70 ev op) m) op with | some (o,(v,_))=>some (o,(v,m,⟨0,e70 ev op,0,0,false⟩)) | none=>none
  | false=>match f4p P ev m op with
   | some r=>some r
   | none=>match f4q P ev m op with
   | some r=>some r
   | none=>match mkQ P ev m lim op with
    | some r=>some r
    | none=>match opA P ev m op with | some (o,(v,m'))=>some (o,(v,m',⟨0,none,0,0,true⟩)) | none=>none
def e7x (mask : Nat) : Nat → List Fp → Nat → Nat
 | _,[],full=>full
 | j,f :: r,full=>match f.bar || decide (f.wb ≤ f.wa) || mask.testBit j with | true=>e7x mask (j + 1) r full | false=>min f.wa (e7x mask (j + 1) r full)
def e7y (q : FuncId → Bool) : Bool:=q 1000000000
def e7z (asm neg : Bool) (ev : Operand → AV) (op : Op) : List Bool × Op:=
 match asm with
 | false=>([],op)
 | true=>match op with
  | .pick c a b=>match ev c with
   | .bool true t=>(match neg with
    | true=>([!t], .move b)
    | false=>match ev b with
     | .bool false false=>([t], .move a)
     | .grd false _=>([t], .move a)
     | _=>(match ev a with
      | .bool false true=>([!t], .move b)
      | _=>([t], .move a)))
   | _=>([],op)
  | _=>([],op)
def f0w (q : FuncId → Bool) (base k : Nat) (o : Oper) : Bool:=(match o.dst with | some d=>!q (base + d) || !q (base + 1000000 * (k + 1) + d) | none=>false)
def f0x (q : FuncId → Bool) (k : Nat) (o : Oper) : Bool:=f0w q 2000000000 k o
def negP (q : FuncId → Bool) (k : Nat) (o : Oper) : Bool:=f0w q 4000000000 k o
def e80 (asm : Bool) (neg : Bool) (w : Want) : List Bool × Want:=
 match asm,w with
 | true, .maybe g=>(match neg with | true=>([!g], .no) | false=>([g], .yes))
 | _,w=>([],w)
def e5t (ops : Array Oper) (mask : Nat) (log : List Fp) (st : St) (o : Oper) : E (St × Fp):=
 match e80 (e7y q) (f0x q st.mem.length o) (e5q ops st o) with
 | (owed, .yes)=>match e7z (e7y q) (negP q st.mem.length o) (st.evT (tmpsOf o.op)) o.op with
  | (owed2,op)=>match e5s P q H (st.evT (tmpsOf o.op)) st.mem (e7x mask 0 log st.mem.length) op with
   | some (ob,(v,m,f))=>some (owed ++ (owed2 ++ ob),(⟨e6f st.tm o.dst v,m⟩,f))
   | none=>none
 | (owed, .no)=>some (owed,(⟨e6f st.tm o.dst (.grd false .top),st.mem⟩,Fp.none))
 | (_, .maybe g)=>match e5s P q H (st.evS (tmpsOf o.op) (e3k o.op)) st.mem (e7x mask 0 log st.mem.length) o.op with
  | some (ob,(v,_,f))=>match f.bar || decide (f.wa < f.wb) with
   | true=>none
   | false=>some ((ob ++ st.owes (e3k o.op)).map (!g || ·),(⟨e6f st.tm o.dst (.grd g v),st.mem⟩,f))
  | none=>none
 | (_, .bad)=>none
def e5l (ms : List Nat) (o : Oper) : Nat:=o.after.toList.foldl (fun s e=>match Region.binds .any e with | true=>s ||| 2 ^ e.on ||| ms.getD e.on 0 | false=>s) 0
def masks : List Oper → List Nat → List Nat
 | [],acc=>acc
 | o :: r,acc=>masks r (acc ++ [e5l acc o])
def e1b (ops : Array Oper) (mask : Nat) (o : Oper) (f : Fp) : Nat → List Oper → List Fp → Bool
 | _,_,[]=>true
 | j,x :: xs,g :: gs=>(mask.testBit j || (x.apart ops o && f.off g && g.off f)) && e1b ops mask o f (j + 1) xs gs
 | _,[],_ :: _=>false
def e2e (ops : List Oper) : Nat → Bool:=
 match ops with
 | []=>fun _=>true
 | o :: r=>fun j=>(o.after.toList.all fun e=>!Region.binds .any e || decide (e.on < j)) && e2e r (j + 1)
def e2w (ops : Array Oper) (ms : List Nat) : Nat → List Fp → List Oper → St → E St
 | _,_,[],st=>E.pure st
 | i,log,o :: r,st=>match e5t P q H ops (ms.getD i 0) log st o with
  | some (ob,(st',f))=>match e1b ops (ms.getD i 0) o f 0 ops.toList log with
   | true=>match e2w ops ms (i + 1) (log ++ [f]) r st' with
    | some (ob',st2)=>some (ob ++ ob',st2)
    | none=>none
   | false=>none
  | none=>none
def e9g (ops : Array Oper) (st : St) (o : Oper) : E St:=
 match e80 (e7y q) (f0x q st.mem.length o) (e5q ops st o) with
 | (owed, .yes)=>match e7z (e7y q) (negP q st.mem.length o) (st.evT (tmpsOf o.op)) o.op with
  | (owed2,op)=>match f4o P H (st.evT (tmpsOf o.op)) st.mem op with
   | some (ob,(v,m))=>some (owed ++ (owed2 ++ ob),⟨e6f st.tm o.dst v,m⟩)
   | none=>none
 | _=>match e5t P q H ops 0 [] st o with
   | some (ob,(st',_))=>some (ob,st')
   | none=>none
def e4e (ops : Array Oper) : List Oper → St → E St
 | [],st=>E.pure st
 | o :: r,st=>E.bind (e9g P q H ops st o) fun st'=>e4e ops r st'
def e3m (ops : Array Oper) (draw : Bool) (st : St) : E St:=
 match draw with
 | false=>e4e P q H ops ops.toList st
 | true=>match e2e ops.toList 0 with
  | true=>e2w P q H ops (masks ops.toList []) 0 [] ops.toList st
  | false=>none
def e0s : Nat → Code → St → Tree (Ex × St)
 | 0,_,_ => .fail
 | n + 1,c,st =>
  match c with
  | .skip | .label _ => .leaf (.normal,st)
  | .exit id => .leaf (.exit id,st)
  | .ret => .leaf (.ret,st)
  | .seq a b=>(e0s n a st).bind fun (e,st')=>match e with | .normal=>e0s n b st' | e => .leaf (e,st')
  | .cond c a b =>
   match st.ev c with
   | .bool false t=>(match t with | true=>e0s n a st | false=>e0s n b st)
   | .bool true t => .ite t (e0s n a st) (e0s n b st)
   | _ => .fail
  | .block id c=>(e0s n c st).bind fun (e,st')=>match e with | .exit i=>(if i = id then .leaf (.normal,st') else .leaf (.exit i,st')) | e => .leaf (e,st')
  | .loop c=>(e0s n c st).bind fun (e,st')=>match e with | .normal=>e0s n (.loop c) st' | e => .leaf (e,st')
  | .region _ ops draw=>Tree.ofE (E.bind (e3m P q H ops draw st) fun st'=>E.pure (.normal,st'))
  | _ => .fail
def e72 (st : St) : List ResultVar → E (List AV)
 | []=>E.pure []
 | .tmp t :: r=>E.bind (e72 st r) fun l=>E.pure (st.tm.getD t .top :: l)
 | .cell a t :: r=>E.bind (e7t P st.mem t (st.tm.getD a .top)) fun v=>E.bind (e72 st r) fun l=>E.pure (v :: l)
def one : List AV → AV
 | [v]=>v
 | l => .tuple l
def d81 (n : Nat) (f : FuncId) (args : List AV) (m : Mem) : Tree (AV × Mem):=
 match P.funcs[f]? with
 | some fn=>match fn.body with
  | some c=>(e0s P q H n c ⟨args ++ List.replicate (fn.ntmps - args.length) .top,m⟩).bind fun (e,st) =>
    match e with
    | .exit _ => .fail
    | _=>Tree.ofE (E.bind (e72 P st fn.results.toList) fun l=>E.pure (one l,st.mem))
  | none => .fail
 | none => .fail
end
def f2i (c : Bool) : AV → AV → Option AV
 | .bool _ a, .bool _ b=>some (.bool true (match c with | true=>a | false=>b))
 | .int _ k a, .int _ k' b=>if k = k' then some (.int true k (match c with | true=>a | false=>b)) else none
 | .ints k n a, .ints k' n' b=>if k = k' ∧ n = n' then some (.ints k n (match c with | true=>a | false=>b)) else none
 | .str _ a, .str _ b=>some (.str true (match c with | true=>a | false=>b))
 | _,_=>none
def e4f (c : Bool) : List AV → List AV → Option (List AV)
 | [],[]=>some []
 | a :: r,b :: q=>match f2i c a b,e4f c r q with | some x,some l=>some (x :: l) | _,_=>none
 | _,_=>none
def f4r (c : Bool) : AV → AV → Option AV
 | .tuple l, .tuple q=>(e4f c l q).map .tuple
 | a,b=>f2i c a b
def Tree.mix : Tree (AV × Mem) → E AV
 | .leaf (v,_)=>match d8z v with | true=>E.pure v | false=>none
 | .need p t=>match t.mix with | some (o,a)=>some (p :: o,a) | none=>none
 | .ite c t e=>match t.mix,e.mix with
  | some (o,a),some (q,b)=>match f4r c a b with | some v=>some (o.map (!c || ·) ++ q.map (c || ·),v) | none=>none
  | _,_=>none
 | .fail=>none
def e8q (T : Tree (AV × Mem)) (m : Mem) : E (AV × Mem):=
 match T.mix with
 | some (o,v)=>some (o,(v,m))
 | none=>match T.flat with
  | some (o,(v,m'))=>some (o,(v,m ++ d8b (m'.drop m.length)))
  | none=>none
def deep [Tab] (P : Program) (q : FuncId → Bool) (X : d82) (fuel : Nat) : Nat → d82
 | 0=>X
 | n + 1=>fun f args m =>
  match X f args m with
  | some r=>some r
  | none =>
   match q f with
   | true=>e8q (d81 P q (deep P q X fuel n) fuel f args (d96 m)) m
   | false=>match (d81 P q (deep P q X fuel n) fuel f args m).flat with
    | some (o,(v,m'))=>(match decide (m.length ≤ m'.length) with | true=>some (o,(v,m')) | false=>none)
    | none=>none
end Go.Ev
