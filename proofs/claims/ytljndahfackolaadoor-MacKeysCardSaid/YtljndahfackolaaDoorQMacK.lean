/- MacKeys evaluated: a key longer than a block; what it owes is paid. Own work. -/
import Derived.Test.YtljndahfackolaaDoorQMacPd
set_option linter.unusedSimpArgs false
set_option linter.unusedVariables false
set_option linter.unusedSectionVars false
namespace Go.Proofs.YtljndahfackolaaDoor
open Go.Ev Go.Sh
set_option maxRecDepth 100000
theorem told_len (n z : Nat) (w : List Int) : (toldL n z w).length = n := by unfold toldL; simp
def hk256 (l : List Int) : List Int := toldL 32 4 (hashW 32 64 64 beg256 l)
def hr256 (l : List Int) : List Int := toldL 32 4 (hashW 32 64 64 beg256 l)
theorem hr256_eq (l : List Int) : hr256 l = hk256 l := rfl
def kU256 (x : Int) (s : Nat) (l : List Int) : St3 := wrEnd256 (bgW256 (padR 64 s l) x)
def inU256 (s : Nat) (l : List Int) (m : Nat) (q : List Int) : St3 := wrEnd256 (wrI (kU256 54 s l).1 (kU256 54 s l).2.1 (kU256 54 s l).2.2 ((q.drop 0).take m) m)
def ouU256 (s : Nat) (l : List Int) (m : Nat) (q : List Int) : St3 := wrEnd256 (wrI (kU256 92 s l).1 (kU256 92 s l).2.1 (kU256 92 s l).2.2 (tl256 (inU256 s l m q)) 32)
def codeU256 (s : Nat) (l : List Int) (m : Nat) (q : List Int) : List Int := tl256 (ouU256 s l m q)
def hmU256 (s : Nat) (l : List Int) (m : Nat) (q : List Int) : List Bool :=
  [decide (l.length = s), decide (s ≤ 64), decide (0 + m ≤ m), all32 (kU256 54 s l).1, rng (kU256 54 s l), decide (m < 9223372036854775808), decide (l.length = s), decide (s ≤ 64),
    all32 (inU256 s l m q).1, rng (inU256 s l m q), all32 (kU256 92 s l).1, rng (kU256 92 s l), true, all32 (ouU256 s l m q).1, rng (ouU256 s l m q)]
def ouV256 (s : Nat) (l : List Int) : St3 := wrEnd256 (wrI (kU256 92 s l).1 (kU256 92 s l).2.1 (kU256 92 s l).2.2 (tl256 (kU256 54 s l)) 32)
def codeV256 (s : Nat) (l : List Int) : List Int := tl256 (ouV256 s l)
def hmV256 (s : Nat) (l : List Int) : List Bool :=
  [decide (l.length = s), decide (s ≤ 64), decide (l.length = s), decide (s ≤ 64), all32 (kU256 54 s l).1, rng (kU256 54 s l), all32 (kU256 92 s l).1, rng (kU256 92 s l), true, all32 (ouV256 s l).1, rng (ouV256 s l)]
theorem keys256_bufbufK (n : Nat) (l : List Int) (m : Nat) (q : List Int) : res ((funcA Tryd.prog qZm hHt 200 8 (cArgs 0 [.pl (.int false .i64 256), .buf true .u8 n l, .buf true .u8 m q]) (cMem [.pl (.int false .i64 256), .buf true .u8 n l, .buf true .u8 m q])).go [false, true]) =
    some ([decide (n < 9223372036854775808), decide (m < 9223372036854775808), !!decide (shI n m ≤ 2000), decide (n < 9223372036854775808), decide ((n : Int) > 64), decide (0 + n ≤ n), decide (n < 1000000000000)] ++ hmU256 32 (hk256 ((l.drop 0).take n)) m q ++ [decide (n < 9223372036854775808), decide ((n : Int) > 64), decide (0 + n ≤ n), decide (1 ≤ n), decide (n ≤ 400000000)] ++ hmU256 32 (hr256 ((l.drop 0).take n)) m q, .bool true (decide (codeU256 32 (hk256 ((l.drop 0).take n)) m q = codeU256 32 (hr256 ((l.drop 0).take n)) m q))) := by kernel_rfl
theorem keys256_bufnilK (n : Nat) (l : List Int) : res ((funcA Tryd.prog qZm hHt 200 8 (cArgs 0 [.pl (.int false .i64 256), .buf true .u8 n l, .pl .nilslice]) (cMem [.pl (.int false .i64 256), .buf true .u8 n l, .pl .nilslice])).go [false, true]) =
    some ([decide (n < 9223372036854775808), !!decide (shK n 0 ≤ 2000), decide (n < 9223372036854775808), decide ((n : Int) > 64), decide (0 + n ≤ n), decide (n < 1000000000000)] ++ hmV256 32 (hk256 ((l.drop 0).take n)) ++ [decide (n < 9223372036854775808), decide ((n : Int) > 64), decide (0 + n ≤ n), decide (1 ≤ n), decide (n ≤ 400000000)] ++ hmV256 32 (hr256 ((l.drop 0).take n)), .bool true (decide (codeV256 32 (hk256 ((l.drop 0).take n)) = codeV256 32 (hr256 ((l.drop 0).take n))))) := by kernel_rfl
theorem keys256_bufempK (n : Nat) (l : List Int) : res ((funcA Tryd.prog qZm hHt 200 8 (cArgs 0 [.pl (.int false .i64 256), .buf true .u8 n l, .empty]) (cMem [.pl (.int false .i64 256), .buf true .u8 n l, .empty])).go [false, true]) =
    some ([decide (n < 9223372036854775808), !!decide (shK n ((0 : Nat) : Int) ≤ 2000), decide (n < 9223372036854775808), decide ((n : Int) > 64), decide (0 + n ≤ n), decide (n < 1000000000000)] ++ hmV256 32 (hk256 ((l.drop 0).take n)) ++ [decide (n < 9223372036854775808), decide ((n : Int) > 64), decide (0 + n ≤ n), decide (1 ≤ n), decide (n ≤ 400000000)] ++ hmV256 32 (hr256 ((l.drop 0).take n)), .bool true (decide (codeV256 32 (hk256 ((l.drop 0).take n)) = codeV256 32 (hr256 ((l.drop 0).take n))))) := by kernel_rfl
theorem kU256_good (x : Int) (s : Nat) (l : List Int) : Good 32 (kU256 x s l) := good256_wr ⟨rfl, beg256_wd, by show (0 : Int) ≤ 0; omega, by show (0 : Int) < 2 ^ 64; omega⟩
theorem wrU256_good {s : St3} (h : Good 32 s) (q : List Int) (m : Nat) : Good 32 (wrEnd256 (wrI s.1 s.2.1 s.2.2 ((q.drop 0).take m) m)) := by
  revert h
  generalize s = s
  intro h
  exact good256_wr ⟨h.1, h.2.1, h.2.2.1, h.2.2.2⟩
theorem wrV256_good {s : St3} (h : Good 32 s) (q : List Int) (m : Nat) (hm : q.length = m) : Good 32 (wrEnd256 (wrI s.1 s.2.1 s.2.2 q m)) := by
  have e : q = (q.drop 0).take m := by rw [List.drop_zero, List.take_of_length_le (by omega)]
  rw [e]
  exact wrU256_good h q m
theorem hmU256_paid {s : Nat} {l : List Int} {m : Nat} {q : List Int} (hs : s = 32) (hl : l.length = s) (hm : m < 9223372036854775808) : Paid (hmU256 s l m q) := by
  have d1 : decide (l.length = s) = true := decide_eq_true hl
  have d2 : decide (s ≤ 64) = true := decide_eq_true (by omega)
  have d3 : decide (0 + m ≤ m) = true := decide_eq_true (by omega)
  have d4 : decide (m < 9223372036854775808) = true := decide_eq_true hm
  have a := fun x => kU256_good x s l
  have b : Good 32 (inU256 s l m q) := wrU256_good (a 54) q m
  have c : Good 32 (ouU256 s l m q) := wrV256_good (a 92) _ _ (told_len ..)
  exact paid_cons d1 (paid_cons d2 (paid_cons d3 (paid_cons (all32_of (a 54).2.1) (paid_cons (a 54).rng (paid_cons d4 (paid_cons d1 (paid_cons d2 (paid_cons (all32_of b.2.1) (paid_cons b.rng (paid_cons (all32_of (a 92).2.1) (paid_cons (a 92).rng (paid_cons rfl (paid_cons (all32_of c.2.1) (paid_cons c.rng Paid.nil))))))))))))))
theorem hmV256_paid {s : Nat} {l : List Int} (hs : s = 32) (hl : l.length = s) : Paid (hmV256 s l) := by
  have d1 : decide (l.length = s) = true := decide_eq_true hl
  have d2 : decide (s ≤ 64) = true := decide_eq_true (by omega)
  have a := fun x => kU256_good x s l
  have c : Good 32 (ouV256 s l) := wrV256_good (a 92) _ _ (told_len ..)
  exact paid_cons d1 (paid_cons d2 (paid_cons d1 (paid_cons d2 (paid_cons (all32_of (a 54).2.1) (paid_cons (a 54).rng (paid_cons (all32_of (a 92).2.1) (paid_cons (a 92).rng (paid_cons rfl (paid_cons (all32_of c.2.1) (paid_cons c.rng Paid.nil))))))))))
def hk384 (l : List Int) : List Int := toldL 48 8 (hashW 64 80 128 beg384 l)
def hr384 (l : List Int) : List Int := ((toldL 64 8 (hashW 64 80 128 beg384 l)).drop 0).take 48
theorem hr384_eq (l : List Int) : hr384 l = hk384 l := toldL_take (by decide) _
def kU384 (x : Int) (s : Nat) (l : List Int) : St3 := wrEnd384 (bgW384 (padR 128 s l) x)
def inU384 (s : Nat) (l : List Int) (m : Nat) (q : List Int) : St3 := wrEnd384 (wrI (kU384 54 s l).1 (kU384 54 s l).2.1 (kU384 54 s l).2.2 ((q.drop 0).take m) m)
def ouU384 (s : Nat) (l : List Int) (m : Nat) (q : List Int) : St3 := wrEnd384 (wrI (kU384 92 s l).1 (kU384 92 s l).2.1 (kU384 92 s l).2.2 (tl384 (inU384 s l m q)) 48)
def codeU384 (s : Nat) (l : List Int) (m : Nat) (q : List Int) : List Int := tl384 (ouU384 s l m q)
def hmU384 (s : Nat) (l : List Int) (m : Nat) (q : List Int) : List Bool :=
  [decide (l.length = s), decide (s ≤ 128), decide (0 + m ≤ m), all64 (kU384 54 s l).1, rng (kU384 54 s l), decide (m < 9223372036854775808), decide (l.length = s), decide (s ≤ 128),
    all64 (inU384 s l m q).1, rng (inU384 s l m q), all64 (kU384 92 s l).1, rng (kU384 92 s l), true, all64 (ouU384 s l m q).1, rng (ouU384 s l m q)]
def ouV384 (s : Nat) (l : List Int) : St3 := wrEnd384 (wrI (kU384 92 s l).1 (kU384 92 s l).2.1 (kU384 92 s l).2.2 (tl384 (kU384 54 s l)) 48)
def codeV384 (s : Nat) (l : List Int) : List Int := tl384 (ouV384 s l)
def hmV384 (s : Nat) (l : List Int) : List Bool :=
  [decide (l.length = s), decide (s ≤ 128), decide (l.length = s), decide (s ≤ 128), all64 (kU384 54 s l).1, rng (kU384 54 s l), all64 (kU384 92 s l).1, rng (kU384 92 s l), true, all64 (ouV384 s l).1, rng (ouV384 s l)]
theorem keys384_bufbufK (n : Nat) (l : List Int) (m : Nat) (q : List Int) : res ((funcA Tryd.prog qZm hHt 200 8 (cArgs 0 [.pl (.int false .i64 384), .buf true .u8 n l, .buf true .u8 m q]) (cMem [.pl (.int false .i64 384), .buf true .u8 n l, .buf true .u8 m q])).go [false, true]) =
    some ([decide (n < 9223372036854775808), decide (m < 9223372036854775808), !!decide (shI n m ≤ 2000), decide (n < 9223372036854775808), decide ((n : Int) > 128), decide (0 + n ≤ n), decide (n < 1000000000000)] ++ hmU384 48 (hk384 ((l.drop 0).take n)) m q ++ [decide (n < 9223372036854775808), decide ((n : Int) > 128), decide (0 + n ≤ n), decide (1 ≤ n), decide (n ≤ 400000000)] ++ hmU384 48 (hr384 ((l.drop 0).take n)) m q, .bool true (decide (codeU384 48 (hk384 ((l.drop 0).take n)) m q = codeU384 48 (hr384 ((l.drop 0).take n)) m q))) := by kernel_rfl
theorem keys384_bufnilK (n : Nat) (l : List Int) : res ((funcA Tryd.prog qZm hHt 200 8 (cArgs 0 [.pl (.int false .i64 384), .buf true .u8 n l, .pl .nilslice]) (cMem [.pl (.int false .i64 384), .buf true .u8 n l, .pl .nilslice])).go [false, true]) =
    some ([decide (n < 9223372036854775808), !!decide (shK n 0 ≤ 2000), decide (n < 9223372036854775808), decide ((n : Int) > 128), decide (0 + n ≤ n), decide (n < 1000000000000)] ++ hmV384 48 (hk384 ((l.drop 0).take n)) ++ [decide (n < 9223372036854775808), decide ((n : Int) > 128), decide (0 + n ≤ n), decide (1 ≤ n), decide (n ≤ 400000000)] ++ hmV384 48 (hr384 ((l.drop 0).take n)), .bool true (decide (codeV384 48 (hk384 ((l.drop 0).take n)) = codeV384 48 (hr384 ((l.drop 0).take n))))) := by kernel_rfl
theorem keys384_bufempK (n : Nat) (l : List Int) : res ((funcA Tryd.prog qZm hHt 200 8 (cArgs 0 [.pl (.int false .i64 384), .buf true .u8 n l, .empty]) (cMem [.pl (.int false .i64 384), .buf true .u8 n l, .empty])).go [false, true]) =
    some ([decide (n < 9223372036854775808), !!decide (shK n ((0 : Nat) : Int) ≤ 2000), decide (n < 9223372036854775808), decide ((n : Int) > 128), decide (0 + n ≤ n), decide (n < 1000000000000)] ++ hmV384 48 (hk384 ((l.drop 0).take n)) ++ [decide (n < 9223372036854775808), decide ((n : Int) > 128), decide (0 + n ≤ n), decide (1 ≤ n), decide (n ≤ 400000000)] ++ hmV384 48 (hr384 ((l.drop 0).take n)), .bool true (decide (codeV384 48 (hk384 ((l.drop 0).take n)) = codeV384 48 (hr384 ((l.drop 0).take n))))) := by kernel_rfl
theorem kU384_good (x : Int) (s : Nat) (l : List Int) : Good 64 (kU384 x s l) := good384_wr ⟨rfl, beg384_wd, by show (0 : Int) ≤ 0; omega, by show (0 : Int) < 2 ^ 64; omega⟩
theorem wrU384_good {s : St3} (h : Good 64 s) (q : List Int) (m : Nat) : Good 64 (wrEnd384 (wrI s.1 s.2.1 s.2.2 ((q.drop 0).take m) m)) := by
  revert h
  generalize s = s
  intro h
  exact good384_wr ⟨h.1, h.2.1, h.2.2.1, h.2.2.2⟩
theorem wrV384_good {s : St3} (h : Good 64 s) (q : List Int) (m : Nat) (hm : q.length = m) : Good 64 (wrEnd384 (wrI s.1 s.2.1 s.2.2 q m)) := by
  have e : q = (q.drop 0).take m := by rw [List.drop_zero, List.take_of_length_le (by omega)]
  rw [e]
  exact wrU384_good h q m
theorem hmU384_paid {s : Nat} {l : List Int} {m : Nat} {q : List Int} (hs : s = 48) (hl : l.length = s) (hm : m < 9223372036854775808) : Paid (hmU384 s l m q) := by
  have d1 : decide (l.length = s) = true := decide_eq_true hl
  have d2 : decide (s ≤ 128) = true := decide_eq_true (by omega)
  have d3 : decide (0 + m ≤ m) = true := decide_eq_true (by omega)
  have d4 : decide (m < 9223372036854775808) = true := decide_eq_true hm
  have a := fun x => kU384_good x s l
  have b : Good 64 (inU384 s l m q) := wrU384_good (a 54) q m
  have c : Good 64 (ouU384 s l m q) := wrV384_good (a 92) _ _ (told_len ..)
  exact paid_cons d1 (paid_cons d2 (paid_cons d3 (paid_cons (all64_of (a 54).2.1) (paid_cons (a 54).rng (paid_cons d4 (paid_cons d1 (paid_cons d2 (paid_cons (all64_of b.2.1) (paid_cons b.rng (paid_cons (all64_of (a 92).2.1) (paid_cons (a 92).rng (paid_cons rfl (paid_cons (all64_of c.2.1) (paid_cons c.rng Paid.nil))))))))))))))
theorem hmV384_paid {s : Nat} {l : List Int} (hs : s = 48) (hl : l.length = s) : Paid (hmV384 s l) := by
  have d1 : decide (l.length = s) = true := decide_eq_true hl
  have d2 : decide (s ≤ 128) = true := decide_eq_true (by omega)
  have a := fun x => kU384_good x s l
  have c : Good 64 (ouV384 s l) := wrV384_good (a 92) _ _ (told_len ..)
  exact paid_cons d1 (paid_cons d2 (paid_cons d1 (paid_cons d2 (paid_cons (all64_of (a 54).2.1) (paid_cons (a 54).rng (paid_cons (all64_of (a 92).2.1) (paid_cons (a 92).rng (paid_cons rfl (paid_cons (all64_of c.2.1) (paid_cons c.rng Paid.nil))))))))))
def hk512 (l : List Int) : List Int := toldL 64 8 (hashW 64 80 128 beg512 l)
def hr512 (l : List Int) : List Int := toldL 64 8 (hashW 64 80 128 beg512 l)
theorem hr512_eq (l : List Int) : hr512 l = hk512 l := rfl
def kU512 (x : Int) (s : Nat) (l : List Int) : St3 := wrEnd512 (bgW512 (padR 128 s l) x)
def inU512 (s : Nat) (l : List Int) (m : Nat) (q : List Int) : St3 := wrEnd512 (wrI (kU512 54 s l).1 (kU512 54 s l).2.1 (kU512 54 s l).2.2 ((q.drop 0).take m) m)
def ouU512 (s : Nat) (l : List Int) (m : Nat) (q : List Int) : St3 := wrEnd512 (wrI (kU512 92 s l).1 (kU512 92 s l).2.1 (kU512 92 s l).2.2 (tl512 (inU512 s l m q)) 64)
def codeU512 (s : Nat) (l : List Int) (m : Nat) (q : List Int) : List Int := tl512 (ouU512 s l m q)
def hmU512 (s : Nat) (l : List Int) (m : Nat) (q : List Int) : List Bool :=
  [decide (l.length = s), decide (s ≤ 128), decide (0 + m ≤ m), all64 (kU512 54 s l).1, rng (kU512 54 s l), decide (m < 9223372036854775808), decide (l.length = s), decide (s ≤ 128),
    all64 (inU512 s l m q).1, rng (inU512 s l m q), all64 (kU512 92 s l).1, rng (kU512 92 s l), true, all64 (ouU512 s l m q).1, rng (ouU512 s l m q)]
def ouV512 (s : Nat) (l : List Int) : St3 := wrEnd512 (wrI (kU512 92 s l).1 (kU512 92 s l).2.1 (kU512 92 s l).2.2 (tl512 (kU512 54 s l)) 64)
def codeV512 (s : Nat) (l : List Int) : List Int := tl512 (ouV512 s l)
def hmV512 (s : Nat) (l : List Int) : List Bool :=
  [decide (l.length = s), decide (s ≤ 128), decide (l.length = s), decide (s ≤ 128), all64 (kU512 54 s l).1, rng (kU512 54 s l), all64 (kU512 92 s l).1, rng (kU512 92 s l), true, all64 (ouV512 s l).1, rng (ouV512 s l)]
theorem keys512_bufbufK (n : Nat) (l : List Int) (m : Nat) (q : List Int) : res ((funcA Tryd.prog qZm hHt 200 8 (cArgs 0 [.pl (.int false .i64 512), .buf true .u8 n l, .buf true .u8 m q]) (cMem [.pl (.int false .i64 512), .buf true .u8 n l, .buf true .u8 m q])).go [false, true]) =
    some ([decide (n < 9223372036854775808), decide (m < 9223372036854775808), !!decide (shI n m ≤ 2000), decide (n < 9223372036854775808), decide ((n : Int) > 128), decide (0 + n ≤ n), decide (n < 1000000000000)] ++ hmU512 64 (hk512 ((l.drop 0).take n)) m q ++ [decide (n < 9223372036854775808), decide ((n : Int) > 128), decide (0 + n ≤ n), decide (1 ≤ n), decide (n ≤ 400000000)] ++ hmU512 64 (hr512 ((l.drop 0).take n)) m q, .bool true (decide (codeU512 64 (hk512 ((l.drop 0).take n)) m q = codeU512 64 (hr512 ((l.drop 0).take n)) m q))) := by kernel_rfl
theorem keys512_bufnilK (n : Nat) (l : List Int) : res ((funcA Tryd.prog qZm hHt 200 8 (cArgs 0 [.pl (.int false .i64 512), .buf true .u8 n l, .pl .nilslice]) (cMem [.pl (.int false .i64 512), .buf true .u8 n l, .pl .nilslice])).go [false, true]) =
    some ([decide (n < 9223372036854775808), !!decide (shK n 0 ≤ 2000), decide (n < 9223372036854775808), decide ((n : Int) > 128), decide (0 + n ≤ n), decide (n < 1000000000000)] ++ hmV512 64 (hk512 ((l.drop 0).take n)) ++ [decide (n < 9223372036854775808), decide ((n : Int) > 128), decide (0 + n ≤ n), decide (1 ≤ n), decide (n ≤ 400000000)] ++ hmV512 64 (hr512 ((l.drop 0).take n)), .bool true (decide (codeV512 64 (hk512 ((l.drop 0).take n)) = codeV512 64 (hr512 ((l.drop 0).take n))))) := by kernel_rfl
theorem keys512_bufempK (n : Nat) (l : List Int) : res ((funcA Tryd.prog qZm hHt 200 8 (cArgs 0 [.pl (.int false .i64 512), .buf true .u8 n l, .empty]) (cMem [.pl (.int false .i64 512), .buf true .u8 n l, .empty])).go [false, true]) =
    some ([decide (n < 9223372036854775808), !!decide (shK n ((0 : Nat) : Int) ≤ 2000), decide (n < 9223372036854775808), decide ((n : Int) > 128), decide (0 + n ≤ n), decide (n < 1000000000000)] ++ hmV512 64 (hk512 ((l.drop 0).take n)) ++ [decide (n < 9223372036854775808), decide ((n : Int) > 128), decide (0 + n ≤ n), decide (1 ≤ n), decide (n ≤ 400000000)] ++ hmV512 64 (hr512 ((l.drop 0).take n)), .bool true (decide (codeV512 64 (hk512 ((l.drop 0).take n)) = codeV512 64 (hr512 ((l.drop 0).take n))))) := by kernel_rfl
theorem kU512_good (x : Int) (s : Nat) (l : List Int) : Good 64 (kU512 x s l) := good512_wr ⟨rfl, beg512_wd, by show (0 : Int) ≤ 0; omega, by show (0 : Int) < 2 ^ 64; omega⟩
theorem wrU512_good {s : St3} (h : Good 64 s) (q : List Int) (m : Nat) : Good 64 (wrEnd512 (wrI s.1 s.2.1 s.2.2 ((q.drop 0).take m) m)) := by
  revert h
  generalize s = s
  intro h
  exact good512_wr ⟨h.1, h.2.1, h.2.2.1, h.2.2.2⟩
theorem wrV512_good {s : St3} (h : Good 64 s) (q : List Int) (m : Nat) (hm : q.length = m) : Good 64 (wrEnd512 (wrI s.1 s.2.1 s.2.2 q m)) := by
  have e : q = (q.drop 0).take m := by rw [List.drop_zero, List.take_of_length_le (by omega)]
  rw [e]
  exact wrU512_good h q m
theorem hmU512_paid {s : Nat} {l : List Int} {m : Nat} {q : List Int} (hs : s = 64) (hl : l.length = s) (hm : m < 9223372036854775808) : Paid (hmU512 s l m q) := by
  have d1 : decide (l.length = s) = true := decide_eq_true hl
  have d2 : decide (s ≤ 128) = true := decide_eq_true (by omega)
  have d3 : decide (0 + m ≤ m) = true := decide_eq_true (by omega)
  have d4 : decide (m < 9223372036854775808) = true := decide_eq_true hm
  have a := fun x => kU512_good x s l
  have b : Good 64 (inU512 s l m q) := wrU512_good (a 54) q m
  have c : Good 64 (ouU512 s l m q) := wrV512_good (a 92) _ _ (told_len ..)
  exact paid_cons d1 (paid_cons d2 (paid_cons d3 (paid_cons (all64_of (a 54).2.1) (paid_cons (a 54).rng (paid_cons d4 (paid_cons d1 (paid_cons d2 (paid_cons (all64_of b.2.1) (paid_cons b.rng (paid_cons (all64_of (a 92).2.1) (paid_cons (a 92).rng (paid_cons rfl (paid_cons (all64_of c.2.1) (paid_cons c.rng Paid.nil))))))))))))))
theorem hmV512_paid {s : Nat} {l : List Int} (hs : s = 64) (hl : l.length = s) : Paid (hmV512 s l) := by
  have d1 : decide (l.length = s) = true := decide_eq_true hl
  have d2 : decide (s ≤ 128) = true := decide_eq_true (by omega)
  have a := fun x => kU512_good x s l
  have c : Good 64 (ouV512 s l) := wrV512_good (a 92) _ _ (told_len ..)
  exact paid_cons d1 (paid_cons d2 (paid_cons d1 (paid_cons d2 (paid_cons (all64_of (a 54).2.1) (paid_cons (a 54).rng (paid_cons (all64_of (a 92).2.1) (paid_cons (a 92).rng (paid_cons rfl (paid_cons (all64_of c.2.1) (paid_cons c.rng Paid.nil))))))))))
end Go.Proofs.YtljndahfackolaaDoor
