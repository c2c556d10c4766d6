/- MacKeys evaluated where a key or a message is nil or empty. Own work. -/
import Derived.Test.YtljndahfackolaaDoorQMacH
set_option linter.unusedSimpArgs false
set_option linter.unusedVariables false
set_option linter.unusedSectionVars false
namespace Go.Proofs.YtljndahfackolaaDoor
open Go.Ev Go.Sh
set_option maxRecDepth 100000
def mi (n : Int) : Int := if 5000 < n then 5000 else n
def shK (a b : Int) : Int := IntKind.i64.wrap (IntKind.i64.wrap (2 + mi a) + mi b)
def ouN256 (n : Nat) (l : List Int) : St3 := wrEnd256 (wrI (kb256 92 n l).1 (kb256 92 n l).2.1 (kb256 92 n l).2.2 (tl256 (kb256 54 n l)) 32)
def codeN256 (n : Nat) (l : List Int) : List Int := tl256 (ouN256 n l)
def hmN256 (z n : Nat) (l : List Int) : List Bool :=
  [decide (n < 9223372036854775808), !decide ((n : Int) > 64), decide (0 + n ≤ z), decide (((l.drop 0).take n).length = n), decide (n ≤ 64), decide (0 + n ≤ z), decide (((l.drop 0).take n).length = n), decide (n ≤ 64),
    all32 (kb256 54 n l).1, rng (kb256 54 n l), all32 (kb256 92 n l).1, rng (kb256 92 n l), true, all32 (ouN256 n l).1, rng (ouN256 n l)]
def hmK256 (e : List Bool) (n : Nat) (l : List Int) (m : Nat) (q : List Int) : List Bool :=
  e ++ [decide (0 + m ≤ m), all32 (kb256 54 n l).1, rng (kb256 54 n l), decide (m < 9223372036854775808)] ++ e ++ [all32 (in256 n l m q).1, rng (in256 n l m q), all32 (kb256 92 n l).1, rng (kb256 92 n l), true, all32 (ou256 n l m q).1, rng (ou256 n l m q)]
theorem keys256_bufnil (n : Nat) (l : List Int) : res ((funcA Tryd.prog qZm hHf 200 8 (cArgs 0 [.pl (.int false .i64 256), .buf true .u8 n l, .pl .nilslice]) (cMem [.pl (.int false .i64 256), .buf true .u8 n l, .pl .nilslice])).go [false, false]) =
    some ([decide (n < 9223372036854775808), !!decide (shK n 0 ≤ 2000)] ++ hmN256 n n l ++ [decide (n < 9223372036854775808), !decide ((n : Int) > 64), decide (0 + n ≤ n), decide (1 ≤ n) && decide (n ≤ 1000000000), decide (n < 9223372036854775808), decide (0 ≤ IntKind.i64.wrap (64 - (n : Int))) && decide (IntKind.i64.wrap (64 - (n : Int)) ≤ 1000000000), decide (0 + n ≤ ((l.drop 0).take n).length), decide (n + wI 64 n ≤ 1000000000)] ++ hmN256 (key2256 n l).length (n + wI 64 n) (key2256 n l), .bool true (decide (codeN256 n l = codeN256 (n + wI 64 n) (key2256 n l)))) := by kernel_rfl
theorem keys256_nilbuf (m : Nat) (q : List Int) : res ((funcA Tryd.prog qZm hHf 200 8 (cArgs 0 [.pl (.int false .i64 256), .pl .nilslice, .buf true .u8 m q]) (cMem [.pl (.int false .i64 256), .pl .nilslice, .buf true .u8 m q])).go [false]) =
    some ([decide (m < 9223372036854775808), !!decide (shK 0 m ≤ 2000)] ++ hmK256 [] 0 [] m q ++ hmK256 [true, true] 64 (List.replicate 64 0) m q, .bool true (decide (code256 0 [] m q = code256 64 (List.replicate 64 0) m q))) := by kernel_rfl
theorem keys256_bufemp (n : Nat) (l : List Int) : res ((funcA Tryd.prog qZm hHf 200 8 (cArgs 0 [.pl (.int false .i64 256), .buf true .u8 n l, .empty]) (cMem [.pl (.int false .i64 256), .buf true .u8 n l, .empty])).go [false, false]) =
    some ([decide (n < 9223372036854775808), !!decide (shK n ((0 : Nat) : Int) ≤ 2000)] ++ hmN256 n n l ++ [decide (n < 9223372036854775808), !decide ((n : Int) > 64), decide (0 + n ≤ n), decide (1 ≤ n) && decide (n ≤ 1000000000), decide (n < 9223372036854775808), decide (0 ≤ IntKind.i64.wrap (64 - (n : Int))) && decide (IntKind.i64.wrap (64 - (n : Int)) ≤ 1000000000), decide (0 + n ≤ ((l.drop 0).take n).length), decide (n + wI 64 n ≤ 1000000000)] ++ hmN256 (key2256 n l).length (n + wI 64 n) (key2256 n l), .bool true (decide (codeN256 n l = codeN256 (n + wI 64 n) (key2256 n l)))) := by kernel_rfl
theorem keys256_empbuf (m : Nat) (q : List Int) : res ((funcA Tryd.prog qZm hHf 200 8 (cArgs 0 [.pl (.int false .i64 256), .empty, .buf true .u8 m q]) (cMem [.pl (.int false .i64 256), .empty, .buf true .u8 m q])).go [false]) =
    some ([decide (m < 9223372036854775808), !!decide (shK ((0 : Nat) : Int) m ≤ 2000)] ++ hmK256 [] 0 [] m q ++ hmK256 [true, true] 64 (List.replicate 64 0) m q, .bool true (decide (code256 0 [] m q = code256 64 (List.replicate 64 0) m q))) := by kernel_rfl
def ouN384 (n : Nat) (l : List Int) : St3 := wrEnd384 (wrI (kb384 92 n l).1 (kb384 92 n l).2.1 (kb384 92 n l).2.2 (tl384 (kb384 54 n l)) 48)
def codeN384 (n : Nat) (l : List Int) : List Int := tl384 (ouN384 n l)
def hmN384 (z n : Nat) (l : List Int) : List Bool :=
  [decide (n < 9223372036854775808), !decide ((n : Int) > 128), decide (0 + n ≤ z), decide (((l.drop 0).take n).length = n), decide (n ≤ 128), decide (0 + n ≤ z), decide (((l.drop 0).take n).length = n), decide (n ≤ 128),
    all64 (kb384 54 n l).1, rng (kb384 54 n l), all64 (kb384 92 n l).1, rng (kb384 92 n l), true, all64 (ouN384 n l).1, rng (ouN384 n l)]
def hmK384 (e : List Bool) (n : Nat) (l : List Int) (m : Nat) (q : List Int) : List Bool :=
  e ++ [decide (0 + m ≤ m), all64 (kb384 54 n l).1, rng (kb384 54 n l), decide (m < 9223372036854775808)] ++ e ++ [all64 (in384 n l m q).1, rng (in384 n l m q), all64 (kb384 92 n l).1, rng (kb384 92 n l), true, all64 (ou384 n l m q).1, rng (ou384 n l m q)]
theorem keys384_bufnil (n : Nat) (l : List Int) : res ((funcA Tryd.prog qZm hHf 200 8 (cArgs 0 [.pl (.int false .i64 384), .buf true .u8 n l, .pl .nilslice]) (cMem [.pl (.int false .i64 384), .buf true .u8 n l, .pl .nilslice])).go [false, false]) =
    some ([decide (n < 9223372036854775808), !!decide (shK n 0 ≤ 2000)] ++ hmN384 n n l ++ [decide (n < 9223372036854775808), !decide ((n : Int) > 128), decide (0 + n ≤ n), decide (1 ≤ n) && decide (n ≤ 1000000000), decide (n < 9223372036854775808), decide (0 ≤ IntKind.i64.wrap (128 - (n : Int))) && decide (IntKind.i64.wrap (128 - (n : Int)) ≤ 1000000000), decide (0 + n ≤ ((l.drop 0).take n).length), decide (n + wI 128 n ≤ 1000000000)] ++ hmN384 (key2384 n l).length (n + wI 128 n) (key2384 n l), .bool true (decide (codeN384 n l = codeN384 (n + wI 128 n) (key2384 n l)))) := by kernel_rfl
theorem keys384_nilbuf (m : Nat) (q : List Int) : res ((funcA Tryd.prog qZm hHf 200 8 (cArgs 0 [.pl (.int false .i64 384), .pl .nilslice, .buf true .u8 m q]) (cMem [.pl (.int false .i64 384), .pl .nilslice, .buf true .u8 m q])).go [false]) =
    some ([decide (m < 9223372036854775808), !!decide (shK 0 m ≤ 2000)] ++ hmK384 [] 0 [] m q ++ hmK384 [true, true] 128 (List.replicate 128 0) m q, .bool true (decide (code384 0 [] m q = code384 128 (List.replicate 128 0) m q))) := by kernel_rfl
theorem keys384_bufemp (n : Nat) (l : List Int) : res ((funcA Tryd.prog qZm hHf 200 8 (cArgs 0 [.pl (.int false .i64 384), .buf true .u8 n l, .empty]) (cMem [.pl (.int false .i64 384), .buf true .u8 n l, .empty])).go [false, false]) =
    some ([decide (n < 9223372036854775808), !!decide (shK n ((0 : Nat) : Int) ≤ 2000)] ++ hmN384 n n l ++ [decide (n < 9223372036854775808), !decide ((n : Int) > 128), decide (0 + n ≤ n), decide (1 ≤ n) && decide (n ≤ 1000000000), decide (n < 9223372036854775808), decide (0 ≤ IntKind.i64.wrap (128 - (n : Int))) && decide (IntKind.i64.wrap (128 - (n : Int)) ≤ 1000000000), decide (0 + n ≤ ((l.drop 0).take n).length), decide (n + wI 128 n ≤ 1000000000)] ++ hmN384 (key2384 n l).length (n + wI 128 n) (key2384 n l), .bool true (decide (codeN384 n l = codeN384 (n + wI 128 n) (key2384 n l)))) := by kernel_rfl
theorem keys384_empbuf (m : Nat) (q : List Int) : res ((funcA Tryd.prog qZm hHf 200 8 (cArgs 0 [.pl (.int false .i64 384), .empty, .buf true .u8 m q]) (cMem [.pl (.int false .i64 384), .empty, .buf true .u8 m q])).go [false]) =
    some ([decide (m < 9223372036854775808), !!decide (shK ((0 : Nat) : Int) m ≤ 2000)] ++ hmK384 [] 0 [] m q ++ hmK384 [true, true] 128 (List.replicate 128 0) m q, .bool true (decide (code384 0 [] m q = code384 128 (List.replicate 128 0) m q))) := by kernel_rfl
def ouN512 (n : Nat) (l : List Int) : St3 := wrEnd512 (wrI (kb512 92 n l).1 (kb512 92 n l).2.1 (kb512 92 n l).2.2 (tl512 (kb512 54 n l)) 64)
def codeN512 (n : Nat) (l : List Int) : List Int := tl512 (ouN512 n l)
def hmN512 (z n : Nat) (l : List Int) : List Bool :=
  [decide (n < 9223372036854775808), !decide ((n : Int) > 128), decide (0 + n ≤ z), decide (((l.drop 0).take n).length = n), decide (n ≤ 128), decide (0 + n ≤ z), decide (((l.drop 0).take n).length = n), decide (n ≤ 128),
    all64 (kb512 54 n l).1, rng (kb512 54 n l), all64 (kb512 92 n l).1, rng (kb512 92 n l), true, all64 (ouN512 n l).1, rng (ouN512 n l)]
def hmK512 (e : List Bool) (n : Nat) (l : List Int) (m : Nat) (q : List Int) : List Bool :=
  e ++ [decide (0 + m ≤ m), all64 (kb512 54 n l).1, rng (kb512 54 n l), decide (m < 9223372036854775808)] ++ e ++ [all64 (in512 n l m q).1, rng (in512 n l m q), all64 (kb512 92 n l).1, rng (kb512 92 n l), true, all64 (ou512 n l m q).1, rng (ou512 n l m q)]
theorem keys512_bufnil (n : Nat) (l : List Int) : res ((funcA Tryd.prog qZm hHf 200 8 (cArgs 0 [.pl (.int false .i64 512), .buf true .u8 n l, .pl .nilslice]) (cMem [.pl (.int false .i64 512), .buf true .u8 n l, .pl .nilslice])).go [false, false]) =
    some ([decide (n < 9223372036854775808), !!decide (shK n 0 ≤ 2000)] ++ hmN512 n n l ++ [decide (n < 9223372036854775808), !decide ((n : Int) > 128), decide (0 + n ≤ n), decide (1 ≤ n) && decide (n ≤ 1000000000), decide (n < 9223372036854775808), decide (0 ≤ IntKind.i64.wrap (128 - (n : Int))) && decide (IntKind.i64.wrap (128 - (n : Int)) ≤ 1000000000), decide (0 + n ≤ ((l.drop 0).take n).length), decide (n + wI 128 n ≤ 1000000000)] ++ hmN512 (key2512 n l).length (n + wI 128 n) (key2512 n l), .bool true (decide (codeN512 n l = codeN512 (n + wI 128 n) (key2512 n l)))) := by kernel_rfl
theorem keys512_nilbuf (m : Nat) (q : List Int) : res ((funcA Tryd.prog qZm hHf 200 8 (cArgs 0 [.pl (.int false .i64 512), .pl .nilslice, .buf true .u8 m q]) (cMem [.pl (.int false .i64 512), .pl .nilslice, .buf true .u8 m q])).go [false]) =
    some ([decide (m < 9223372036854775808), !!decide (shK 0 m ≤ 2000)] ++ hmK512 [] 0 [] m q ++ hmK512 [true, true] 128 (List.replicate 128 0) m q, .bool true (decide (code512 0 [] m q = code512 128 (List.replicate 128 0) m q))) := by kernel_rfl
theorem keys512_bufemp (n : Nat) (l : List Int) : res ((funcA Tryd.prog qZm hHf 200 8 (cArgs 0 [.pl (.int false .i64 512), .buf true .u8 n l, .empty]) (cMem [.pl (.int false .i64 512), .buf true .u8 n l, .empty])).go [false, false]) =
    some ([decide (n < 9223372036854775808), !!decide (shK n ((0 : Nat) : Int) ≤ 2000)] ++ hmN512 n n l ++ [decide (n < 9223372036854775808), !decide ((n : Int) > 128), decide (0 + n ≤ n), decide (1 ≤ n) && decide (n ≤ 1000000000), decide (n < 9223372036854775808), decide (0 ≤ IntKind.i64.wrap (128 - (n : Int))) && decide (IntKind.i64.wrap (128 - (n : Int)) ≤ 1000000000), decide (0 + n ≤ ((l.drop 0).take n).length), decide (n + wI 128 n ≤ 1000000000)] ++ hmN512 (key2512 n l).length (n + wI 128 n) (key2512 n l), .bool true (decide (codeN512 n l = codeN512 (n + wI 128 n) (key2512 n l)))) := by kernel_rfl
theorem keys512_empbuf (m : Nat) (q : List Int) : res ((funcA Tryd.prog qZm hHf 200 8 (cArgs 0 [.pl (.int false .i64 512), .empty, .buf true .u8 m q]) (cMem [.pl (.int false .i64 512), .empty, .buf true .u8 m q])).go [false]) =
    some ([decide (m < 9223372036854775808), !!decide (shK ((0 : Nat) : Int) m ≤ 2000)] ++ hmK512 [] 0 [] m q ++ hmK512 [true, true] 128 (List.replicate 128 0) m q, .bool true (decide (code512 0 [] m q = code512 128 (List.replicate 128 0) m q))) := by kernel_rfl
end Go.Proofs.YtljndahfackolaaDoor
namespace Go.Proofs.YtljndahfackolaaDoor
open Go.Ev Go.Sh
set_option maxRecDepth 100000
theorem mi_le (a : Int) (h : 0 ≤ a) : 0 ≤ mi a ∧ mi a ≤ 5000 := by unfold mi; split <;> omega
theorem shK_eq {a b : Int} (ha : 0 ≤ a) (hb : 0 ≤ b) : shK a b = 2 + mi a + mi b := by
  have h1 := mi_le a ha
  have h2 := mi_le b hb
  unfold shK
  rw [show IntKind.i64.wrap (2 + mi a) = 2 + mi a from w64 (by omega), w64 (by omega)]
theorem shI_eq (n m : Nat) : shI n m = shK n m := rfl
theorem sh_le {a b : Int} (ha : 0 ≤ a) (hb : 0 ≤ b) (h : shK a b ≤ 2000) : a ≤ 2000 ∧ b ≤ 2000 := by
  rw [shK_eq ha hb] at h
  have h1 := mi_le a ha
  have h2 := mi_le b hb
  unfold mi at *
  constructor <;> (split at h <;> split at h <;> omega)
theorem wrK256_good {s : St3} (h : Good 32 s) (q : List Int) (m : Nat) (hm : q.length = m) : Good 32 (wrEnd256 (wrI s.1 s.2.1 s.2.2 q m)) := by
  have e : q = (q.drop 0).take m := by rw [List.drop_zero, List.take_of_length_le (by omega)]
  rw [e]
  revert h
  generalize s = s
  intro h
  exact good256_wr ⟨h.1, h.2.1, h.2.2.1, h.2.2.2⟩
theorem ouN256_good (n : Nat) (l : List Int) : Good 32 (ouN256 n l) := wrK256_good (kb256_good 92 n l) _ _ (by unfold tl256 toldL; simp)
theorem hmN256_paid {z n : Nat} {l : List Int} (hl : l.length = n) (hb : n ≤ 64) (hz : n ≤ z) : Paid (hmN256 z n l) := by
  have d1 : decide (n < 9223372036854775808) = true := decide_eq_true (by omega)
  have d2 : (!decide ((n : Int) > 64)) = true := by rw [decide_eq_false (by omega)]; rfl
  have d3 : decide (0 + n ≤ z) = true := decide_eq_true (by omega)
  have d4 : decide (((l.drop 0).take n).length = n) = true := decide_eq_true (by rw [take_all hl]; exact hl)
  have d5 : decide (n ≤ 64) = true := decide_eq_true hb
  have a := fun x => kb256_good x n l
  have c := ouN256_good n l
  exact paid_cons d1 (paid_cons d2 (paid_cons d3 (paid_cons d4 (paid_cons d5 (paid_cons d3 (paid_cons d4 (paid_cons d5 (paid_cons (all32_of (a 54).2.1) (paid_cons (a 54).rng (paid_cons (all32_of (a 92).2.1) (paid_cons (a 92).rng (paid_cons rfl (paid_cons (all32_of c.2.1) (paid_cons c.rng Paid.nil))))))))))))))
theorem hmK256_paid {e : List Bool} (he : Paid e) {n m : Nat} {l q : List Int} (hm : m < 9223372036854775808) : Paid (hmK256 e n l m q) := by
  have d6 : decide (0 + m ≤ m) = true := decide_eq_true (by omega)
  have d7 : decide (m < 9223372036854775808) = true := decide_eq_true hm
  have a := fun x => kb256_good x n l
  have b := in256_good n l m q
  have c := ou256_good n l m q
  exact paid_append.2 ⟨paid_append.2 ⟨paid_append.2 ⟨he, paid_cons d6 (paid_cons (all32_of (a 54).2.1) (paid_cons (a 54).rng (paid_cons d7 Paid.nil)))⟩, he⟩, paid_cons (all32_of b.2.1) (paid_cons b.rng (paid_cons (all32_of (a 92).2.1) (paid_cons (a 92).rng (paid_cons rfl (paid_cons (all32_of c.2.1) (paid_cons c.rng Paid.nil))))))⟩
theorem key2256_codeN {n : Nat} {l : List Int} (hl : l.length = n) (hb : n ≤ 64) : codeN256 n l = codeN256 (n + wI 64 n) (key2256 n l) := by
  unfold codeN256 ouN256
  rw [key2256_kb 54 hl hb, key2256_kb 92 hl hb]
theorem key0256 (m : Nat) (q : List Int) : code256 0 [] m q = code256 64 (List.replicate 64 0) m q := key2256_code (n := 0) (l := []) rfl (by omega)
theorem key0256N : codeN256 0 [] = codeN256 64 (List.replicate 64 0) := key2256_codeN (n := 0) (l := []) rfl (by omega)
theorem wrK384_good {s : St3} (h : Good 64 s) (q : List Int) (m : Nat) (hm : q.length = m) : Good 64 (wrEnd384 (wrI s.1 s.2.1 s.2.2 q m)) := by
  have e : q = (q.drop 0).take m := by rw [List.drop_zero, List.take_of_length_le (by omega)]
  rw [e]
  revert h
  generalize s = s
  intro h
  exact good384_wr ⟨h.1, h.2.1, h.2.2.1, h.2.2.2⟩
theorem ouN384_good (n : Nat) (l : List Int) : Good 64 (ouN384 n l) := wrK384_good (kb384_good 92 n l) _ _ (by unfold tl384 toldL; simp)
theorem hmN384_paid {z n : Nat} {l : List Int} (hl : l.length = n) (hb : n ≤ 128) (hz : n ≤ z) : Paid (hmN384 z n l) := by
  have d1 : decide (n < 9223372036854775808) = true := decide_eq_true (by omega)
  have d2 : (!decide ((n : Int) > 128)) = true := by rw [decide_eq_false (by omega)]; rfl
  have d3 : decide (0 + n ≤ z) = true := decide_eq_true (by omega)
  have d4 : decide (((l.drop 0).take n).length = n) = true := decide_eq_true (by rw [take_all hl]; exact hl)
  have d5 : decide (n ≤ 128) = true := decide_eq_true hb
  have a := fun x => kb384_good x n l
  have c := ouN384_good n l
  exact paid_cons d1 (paid_cons d2 (paid_cons d3 (paid_cons d4 (paid_cons d5 (paid_cons d3 (paid_cons d4 (paid_cons d5 (paid_cons (all64_of (a 54).2.1) (paid_cons (a 54).rng (paid_cons (all64_of (a 92).2.1) (paid_cons (a 92).rng (paid_cons rfl (paid_cons (all64_of c.2.1) (paid_cons c.rng Paid.nil))))))))))))))
theorem hmK384_paid {e : List Bool} (he : Paid e) {n m : Nat} {l q : List Int} (hm : m < 9223372036854775808) : Paid (hmK384 e n l m q) := by
  have d6 : decide (0 + m ≤ m) = true := decide_eq_true (by omega)
  have d7 : decide (m < 9223372036854775808) = true := decide_eq_true hm
  have a := fun x => kb384_good x n l
  have b := in384_good n l m q
  have c := ou384_good n l m q
  exact paid_append.2 ⟨paid_append.2 ⟨paid_append.2 ⟨he, paid_cons d6 (paid_cons (all64_of (a 54).2.1) (paid_cons (a 54).rng (paid_cons d7 Paid.nil)))⟩, he⟩, paid_cons (all64_of b.2.1) (paid_cons b.rng (paid_cons (all64_of (a 92).2.1) (paid_cons (a 92).rng (paid_cons rfl (paid_cons (all64_of c.2.1) (paid_cons c.rng Paid.nil))))))⟩
theorem key2384_codeN {n : Nat} {l : List Int} (hl : l.length = n) (hb : n ≤ 128) : codeN384 n l = codeN384 (n + wI 128 n) (key2384 n l) := by
  unfold codeN384 ouN384
  rw [key2384_kb 54 hl hb, key2384_kb 92 hl hb]
theorem key0384 (m : Nat) (q : List Int) : code384 0 [] m q = code384 128 (List.replicate 128 0) m q := key2384_code (n := 0) (l := []) rfl (by omega)
theorem key0384N : codeN384 0 [] = codeN384 128 (List.replicate 128 0) := key2384_codeN (n := 0) (l := []) rfl (by omega)
theorem wrK512_good {s : St3} (h : Good 64 s) (q : List Int) (m : Nat) (hm : q.length = m) : Good 64 (wrEnd512 (wrI s.1 s.2.1 s.2.2 q m)) := by
  have e : q = (q.drop 0).take m := by rw [List.drop_zero, List.take_of_length_le (by omega)]
  rw [e]
  revert h
  generalize s = s
  intro h
  exact good512_wr ⟨h.1, h.2.1, h.2.2.1, h.2.2.2⟩
theorem ouN512_good (n : Nat) (l : List Int) : Good 64 (ouN512 n l) := wrK512_good (kb512_good 92 n l) _ _ (by unfold tl512 toldL; simp)
theorem hmN512_paid {z n : Nat} {l : List Int} (hl : l.length = n) (hb : n ≤ 128) (hz : n ≤ z) : Paid (hmN512 z n l) := by
  have d1 : decide (n < 9223372036854775808) = true := decide_eq_true (by omega)
  have d2 : (!decide ((n : Int) > 128)) = true := by rw [decide_eq_false (by omega)]; rfl
  have d3 : decide (0 + n ≤ z) = true := decide_eq_true (by omega)
  have d4 : decide (((l.drop 0).take n).length = n) = true := decide_eq_true (by rw [take_all hl]; exact hl)
  have d5 : decide (n ≤ 128) = true := decide_eq_true hb
  have a := fun x => kb512_good x n l
  have c := ouN512_good n l
  exact paid_cons d1 (paid_cons d2 (paid_cons d3 (paid_cons d4 (paid_cons d5 (paid_cons d3 (paid_cons d4 (paid_cons d5 (paid_cons (all64_of (a 54).2.1) (paid_cons (a 54).rng (paid_cons (all64_of (a 92).2.1) (paid_cons (a 92).rng (paid_cons rfl (paid_cons (all64_of c.2.1) (paid_cons c.rng Paid.nil))))))))))))))
theorem hmK512_paid {e : List Bool} (he : Paid e) {n m : Nat} {l q : List Int} (hm : m < 9223372036854775808) : Paid (hmK512 e n l m q) := by
  have d6 : decide (0 + m ≤ m) = true := decide_eq_true (by omega)
  have d7 : decide (m < 9223372036854775808) = true := decide_eq_true hm
  have a := fun x => kb512_good x n l
  have b := in512_good n l m q
  have c := ou512_good n l m q
  exact paid_append.2 ⟨paid_append.2 ⟨paid_append.2 ⟨he, paid_cons d6 (paid_cons (all64_of (a 54).2.1) (paid_cons (a 54).rng (paid_cons d7 Paid.nil)))⟩, he⟩, paid_cons (all64_of b.2.1) (paid_cons b.rng (paid_cons (all64_of (a 92).2.1) (paid_cons (a 92).rng (paid_cons rfl (paid_cons (all64_of c.2.1) (paid_cons c.rng Paid.nil))))))⟩
theorem key2512_codeN {n : Nat} {l : List Int} (hl : l.length = n) (hb : n ≤ 128) : codeN512 n l = codeN512 (n + wI 128 n) (key2512 n l) := by
  unfold codeN512 ouN512
  rw [key2512_kb 54 hl hb, key2512_kb 92 hl hb]
theorem key0512 (m : Nat) (q : List Int) : code512 0 [] m q = code512 128 (List.replicate 128 0) m q := key2512_code (n := 0) (l := []) rfl (by omega)
theorem key0512N : codeN512 0 [] = codeN512 128 (List.replicate 128 0) := key2512_codeN (n := 0) (l := []) rfl (by omega)
end Go.Proofs.YtljndahfackolaaDoor
