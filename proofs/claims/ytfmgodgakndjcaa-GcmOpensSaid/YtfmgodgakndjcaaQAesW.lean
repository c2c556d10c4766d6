/- The reference's block cipher: a round of the loop of a key's words. Own work. -/
import Derived.Test.YtfmgodgakndjcaaQAesT
import Derived.Test.YtfmgodgakndjcaaQEvOne
import Derived.Test.YtfmgodgakndjcaaQAesC0
set_option linter.unusedSimpArgs false
set_option linter.unusedVariables false
set_option linter.unusedSectionVars false
namespace Go.As
open Go.Ev Go.Sh
structure RkS where
  l : List Int
  w : List Int
  k : Nat
  i : Int
def qK (i j : Int) : Nat := (IntKind.i64.wrap (IntKind.i64.wrap (4 * i) + j)).toNat
/-- The next word, as the reference has it: the key's own, or of those before it. -/
def cpR (l : List Int) (i : Int) : List Int := [IntKind.i64.wrap (l.getD (0 + qK i 0 * 1) 0), IntKind.i64.wrap (l.getD (0 + qK i 1 * 1) 0), IntKind.i64.wrap (l.getD (0 + qK i 2 * 1) 0), IntKind.i64.wrap (l.getD (0 + qK i 3 * 1) 0)]
def wR (w : List Int) (i d : Int) (j : Nat) : Int := w.getD (0 + pK i d * 4 + j) 0
def sbR (x : Int) : Int := sboxL.getD (x.toNat * 1) 0
def zR (w : List Int) (i N : Int) : List Int := [ixor .i64 (wR w i N 0) (ixor .i64 (sbR (wR w i 1 1)) (pw 2 (IntKind.i64.wrap (IntKind.i64.wrap (i.tdiv N) - 1)))), ixor .i64 (wR w i N 1) (sbR (wR w i 1 2)), ixor .i64 (wR w i N 2) (sbR (wR w i 1 3)), ixor .i64 (wR w i N 3) (sbR (wR w i 1 0))]
def hR (w : List Int) (i N : Int) : List Int := [ixor .i64 (wR w i N 0) (sbR (wR w i 1 0)), ixor .i64 (wR w i N 1) (sbR (wR w i 1 1)), ixor .i64 (wR w i N 2) (sbR (wR w i 1 2)), ixor .i64 (wR w i N 3) (sbR (wR w i 1 3))]
def nR (w : List Int) (i N : Int) : List Int := [ixor .i64 (wR w i N 0) (wR w i 1 0), ixor .i64 (wR w i N 1) (wR w i 1 1), ixor .i64 (wR w i N 2) (wR w i 1 2), ixor .i64 (wR w i N 3) (wR w i 1 3)]
/- what is owed -/
def aR (i d : Int) (k : Nat) : Bool := decide (0 ≤ IntKind.i64.wrap (i - d)) && decide (IntKind.i64.wrap (i - d) < (k : Int))
def bR (w : List Int) (i d : Int) (j : Nat) : Bool := decide (0 + pK i d * 4 + j + 1 ≤ w.length)
def cR (x : Int) : List Bool := [decide (0 ≤ x) && decide (x < ((256 : Nat) : Int)), decide (x.toNat * 1 + 1 ≤ 256)]
def endR (w : List Int) (k : Nat) : List Bool := [decide (0 + k * (4 * 1) ≤ w.length), decide (1 ≤ k + 1) && decide (k + 1 ≤ 1000000000)]
end Go.As
namespace Go.Proofs.Ytfmgodgakndjcaa
open Go.Ev Go.Sh Go.As
set_option maxRecDepth 100000
def rkTs : List Nat := [0, 3, 4, 5]
def rkV4 (s : RkS) : List AV := [.slice false 0 0 16 none 1, .ptr false 1 0, .int false .i64 4, .int true .i64 s.i]
def rkM4 (s : RkS) : Mem := match s.k with
  | 0 => [some ⟨false, .ints .u8 (some 16) s.l⟩, some ⟨true, .wide [.nilslice, .ints .i64 256 sboxL, .int false .i64 4]⟩]
  | k + 1 => [some ⟨false, .ints .u8 (some 16) s.l⟩, some ⟨true, .wide [.slice true 2 0 (k + 1) none 4, .ints .i64 256 sboxL, .int false .i64 4]⟩, some ⟨true, .ints .i64 none s.w⟩]
def rkE4 (s : RkS) (x : List Int) : Mem := [some ⟨false, .ints .u8 (some 16) s.l⟩, some ⟨true, .wide [.slice true 5 0 (s.k + 1) none 4, .ints .i64 256 sboxL, .int false .i64 4]⟩, none, some ⟨true, .ints .i64 (some 4) x⟩, some ⟨true, .ints .i64 (some 4) x⟩, some ⟨true, .ints .i64 none ((s.w.drop 0).take (s.k * (4 * 1)) ++ x)⟩]
theorem rk4_0 (l w : List Int) (i : Int) : seesL rkTs ((codeL Try.prog qP (deep Try.prog qP hr4 100 3) (fun _ _ => none) 100 (lp (blk 0 (bodyOf Try.prog 12))) ⟨tmOf (ups (fun _ => .top) (zipU rkTs (rkV4 ⟨l, w, 0, i⟩))) 130, rkM4 ⟨l, w, 0, i⟩⟩).go [true, true, true, true, true]) = some ([decide (i < IntKind.i64.wrap (4 * IntKind.i64.wrap (4 + 7))), decide (i < 4), decide (0 ≤ IntKind.i64.wrap (IntKind.i64.wrap (4 * i) + 0)) && decide (IntKind.i64.wrap (IntKind.i64.wrap (4 * i) + 0) < ((16 : Nat) : Int)), decide (0 + qK i 0 * 1 + 1 ≤ 16), decide (i < 4), decide (0 ≤ IntKind.i64.wrap (IntKind.i64.wrap (4 * i) + 1)) && decide (IntKind.i64.wrap (IntKind.i64.wrap (4 * i) + 1) < ((16 : Nat) : Int)), decide (0 + qK i 1 * 1 + 1 ≤ 16), decide (i < 4), decide (0 ≤ IntKind.i64.wrap (IntKind.i64.wrap (4 * i) + 2)) && decide (IntKind.i64.wrap (IntKind.i64.wrap (4 * i) + 2) < ((16 : Nat) : Int)), decide (0 + qK i 2 * 1 + 1 ≤ 16), decide (i < 4), decide (0 ≤ IntKind.i64.wrap (IntKind.i64.wrap (4 * i) + 3)) && decide (IntKind.i64.wrap (IntKind.i64.wrap (4 * i) + 3) < ((16 : Nat) : Int)), decide (0 + qK i 3 * 1 + 1 ≤ 16)], 0, [.slice false 0 0 16 none 1, .ptr false 1 0, .int false .i64 4, .int true .i64 (IntKind.i64.wrap (i + 1))], 130, [some ⟨false, .ints .u8 (some 16) l⟩, some ⟨true, .wide [.slice false 4 0 1 none 4, .ints .i64 256 sboxL, .int false .i64 4]⟩, some ⟨true, .ints .i64 (some 4) (cpR l i)⟩, some ⟨true, .ints .i64 (some 4) (cpR l i)⟩, some ⟨true, .ints .i64 (some 4) (cpR l i)⟩]) := by kernel_rfl
theorem rk4_c (l w : List Int) (k : Nat) (i : Int) : seesL rkTs ((codeL Try.prog qP (deep Try.prog qP hr4 100 3) (fun _ _ => none) 100 (lp (blk 0 (bodyOf Try.prog 12))) ⟨tmOf (ups (fun _ => .top) (zipU rkTs (rkV4 ⟨l, w, (k + 1), i⟩))) 130, rkM4 ⟨l, w, (k + 1), i⟩⟩).go [true, true, true, true, true]) = some ([decide (i < IntKind.i64.wrap (4 * IntKind.i64.wrap (4 + 7))), decide (i < 4), decide (0 ≤ IntKind.i64.wrap (IntKind.i64.wrap (4 * i) + 0)) && decide (IntKind.i64.wrap (IntKind.i64.wrap (4 * i) + 0) < ((16 : Nat) : Int)), decide (0 + qK i 0 * 1 + 1 ≤ 16), decide (i < 4), decide (0 ≤ IntKind.i64.wrap (IntKind.i64.wrap (4 * i) + 1)) && decide (IntKind.i64.wrap (IntKind.i64.wrap (4 * i) + 1) < ((16 : Nat) : Int)), decide (0 + qK i 1 * 1 + 1 ≤ 16), decide (i < 4), decide (0 ≤ IntKind.i64.wrap (IntKind.i64.wrap (4 * i) + 2)) && decide (IntKind.i64.wrap (IntKind.i64.wrap (4 * i) + 2) < ((16 : Nat) : Int)), decide (0 + qK i 2 * 1 + 1 ≤ 16), decide (i < 4), decide (0 ≤ IntKind.i64.wrap (IntKind.i64.wrap (4 * i) + 3)) && decide (IntKind.i64.wrap (IntKind.i64.wrap (4 * i) + 3) < ((16 : Nat) : Int)), decide (0 + qK i 3 * 1 + 1 ≤ 16)] ++ endR w (k + 1), 0, [.slice false 0 0 16 none 1, .ptr false 1 0, .int false .i64 4, .int true .i64 (IntKind.i64.wrap (i + 1))], 130, rkE4 ⟨l, w, k + 1, i⟩ (cpR l i)) := by kernel_rfl
theorem rk4_z (l w : List Int) (k : Nat) (i : Int) : seesL rkTs ((codeL Try.prog qP (deep Try.prog qP hr4 100 3) (fun _ _ => none) 100 (lp (blk 0 (bodyOf Try.prog 12))) ⟨tmOf (ups (fun _ => .top) (zipU rkTs (rkV4 ⟨l, w, (k + 1), i⟩))) 130, rkM4 ⟨l, w, (k + 1), i⟩⟩).go [true, false, true, false, true, false, true, false, true]) = some ([decide (i < IntKind.i64.wrap (4 * IntKind.i64.wrap (4 + 7)))] ++ ([!decide (i < 4), aR i 1 (k + 1), bR w i 1 0, i.tmod 4 == 0, aR i 1 (k + 1), bR w i 1 1] ++ cR (wR w i 1 1) ++ [true, decide (0 ≤ IntKind.i64.wrap (IntKind.i64.wrap (i.tdiv 4) - 1) ∧ IntKind.i64.wrap (IntKind.i64.wrap (i.tdiv 4) - 1) < 512)] ++ [aR i 4 (k + 1), bR w i 4 0]) ++ ([!decide (i < 4), aR i 1 (k + 1), bR w i 1 1, i.tmod 4 == 0, aR i 1 (k + 1), bR w i 1 2] ++ cR (wR w i 1 2) ++ [aR i 4 (k + 1), bR w i 4 1]) ++ ([!decide (i < 4), aR i 1 (k + 1), bR w i 1 2, i.tmod 4 == 0, aR i 1 (k + 1), bR w i 1 3] ++ cR (wR w i 1 3) ++ [aR i 4 (k + 1), bR w i 4 2]) ++ ([!decide (i < 4), aR i 1 (k + 1), bR w i 1 3, i.tmod 4 == 0, aR i 1 (k + 1), bR w i 1 0] ++ cR (wR w i 1 0) ++ [aR i 4 (k + 1), bR w i 4 3]) ++ endR w (k + 1), 0, [.slice false 0 0 16 none 1, .ptr false 1 0, .int false .i64 4, .int true .i64 (IntKind.i64.wrap (i + 1))], 130, rkE4 ⟨l, w, k + 1, i⟩ (zR w i 4)) := by kernel_rfl
theorem rk4_n (l w : List Int) (k : Nat) (i : Int) : seesL rkTs ((codeL Try.prog qP (deep Try.prog qP hr4 100 3) (fun _ _ => none) 100 (lp (blk 0 (bodyOf Try.prog 12))) ⟨tmOf (ups (fun _ => .top) (zipU rkTs (rkV4 ⟨l, w, (k + 1), i⟩))) 130, rkM4 ⟨l, w, (k + 1), i⟩⟩).go [true, false, false, false, false, false, false, false, false]) = some ([decide (i < IntKind.i64.wrap (4 * IntKind.i64.wrap (4 + 7)))] ++ ([!decide (i < 4), aR i 1 (k + 1), bR w i 1 0, !(i.tmod 4 == 0)] ++ [aR i 4 (k + 1), bR w i 4 0]) ++ ([!decide (i < 4), aR i 1 (k + 1), bR w i 1 1, !(i.tmod 4 == 0)] ++ [aR i 4 (k + 1), bR w i 4 1]) ++ ([!decide (i < 4), aR i 1 (k + 1), bR w i 1 2, !(i.tmod 4 == 0)] ++ [aR i 4 (k + 1), bR w i 4 2]) ++ ([!decide (i < 4), aR i 1 (k + 1), bR w i 1 3, !(i.tmod 4 == 0)] ++ [aR i 4 (k + 1), bR w i 4 3]) ++ endR w (k + 1), 0, [.slice false 0 0 16 none 1, .ptr false 1 0, .int false .i64 4, .int true .i64 (IntKind.i64.wrap (i + 1))], 130, rkE4 ⟨l, w, k + 1, i⟩ (nR w i 4)) := by kernel_rfl
theorem rk4_out (l w : List Int) (k : Nat) (i : Int) : seesL rkTs ((codeL Try.prog qP (deep Try.prog qP hr4 100 3) (fun _ _ => none) 100 (lp (blk 0 (bodyOf Try.prog 12))) ⟨tmOf (ups (fun _ => .top) (zipU rkTs (rkV4 ⟨l, w, (k + 1), i⟩))) 130, rkM4 ⟨l, w, (k + 1), i⟩⟩).go [false]) = some ([!decide (i < IntKind.i64.wrap (4 * IntKind.i64.wrap (4 + 7)))], 2, rkV4 ⟨l, w, k + 1, i⟩, 130, rkM4 ⟨l, w, k + 1, i⟩) := by kernel_rfl
def rkV8 (s : RkS) : List AV := [.slice false 0 0 32 none 1, .ptr false 1 0, .int false .i64 8, .int true .i64 s.i]
def rkM8 (s : RkS) : Mem := match s.k with
  | 0 => [some ⟨false, .ints .u8 (some 32) s.l⟩, some ⟨true, .wide [.nilslice, .ints .i64 256 sboxL, .int false .i64 8]⟩]
  | k + 1 => [some ⟨false, .ints .u8 (some 32) s.l⟩, some ⟨true, .wide [.slice true 2 0 (k + 1) none 4, .ints .i64 256 sboxL, .int false .i64 8]⟩, some ⟨true, .ints .i64 none s.w⟩]
def rkE8 (s : RkS) (x : List Int) : Mem := [some ⟨false, .ints .u8 (some 32) s.l⟩, some ⟨true, .wide [.slice true 5 0 (s.k + 1) none 4, .ints .i64 256 sboxL, .int false .i64 8]⟩, none, some ⟨true, .ints .i64 (some 4) x⟩, some ⟨true, .ints .i64 (some 4) x⟩, some ⟨true, .ints .i64 none ((s.w.drop 0).take (s.k * (4 * 1)) ++ x)⟩]
theorem rk8_0 (l w : List Int) (i : Int) : seesL rkTs ((codeL Try.prog qP (deep Try.prog qP hr4 100 3) (fun _ _ => none) 100 (lp (blk 0 (bodyOf Try.prog 12))) ⟨tmOf (ups (fun _ => .top) (zipU rkTs (rkV8 ⟨l, w, 0, i⟩))) 130, rkM8 ⟨l, w, 0, i⟩⟩).go [true, true, true, true, true]) = some ([decide (i < IntKind.i64.wrap (4 * IntKind.i64.wrap (8 + 7))), decide (i < 8), decide (0 ≤ IntKind.i64.wrap (IntKind.i64.wrap (4 * i) + 0)) && decide (IntKind.i64.wrap (IntKind.i64.wrap (4 * i) + 0) < ((32 : Nat) : Int)), decide (0 + qK i 0 * 1 + 1 ≤ 32), decide (i < 8), decide (0 ≤ IntKind.i64.wrap (IntKind.i64.wrap (4 * i) + 1)) && decide (IntKind.i64.wrap (IntKind.i64.wrap (4 * i) + 1) < ((32 : Nat) : Int)), decide (0 + qK i 1 * 1 + 1 ≤ 32), decide (i < 8), decide (0 ≤ IntKind.i64.wrap (IntKind.i64.wrap (4 * i) + 2)) && decide (IntKind.i64.wrap (IntKind.i64.wrap (4 * i) + 2) < ((32 : Nat) : Int)), decide (0 + qK i 2 * 1 + 1 ≤ 32), decide (i < 8), decide (0 ≤ IntKind.i64.wrap (IntKind.i64.wrap (4 * i) + 3)) && decide (IntKind.i64.wrap (IntKind.i64.wrap (4 * i) + 3) < ((32 : Nat) : Int)), decide (0 + qK i 3 * 1 + 1 ≤ 32)], 0, [.slice false 0 0 32 none 1, .ptr false 1 0, .int false .i64 8, .int true .i64 (IntKind.i64.wrap (i + 1))], 130, [some ⟨false, .ints .u8 (some 32) l⟩, some ⟨true, .wide [.slice false 4 0 1 none 4, .ints .i64 256 sboxL, .int false .i64 8]⟩, some ⟨true, .ints .i64 (some 4) (cpR l i)⟩, some ⟨true, .ints .i64 (some 4) (cpR l i)⟩, some ⟨true, .ints .i64 (some 4) (cpR l i)⟩]) := by kernel_rfl
theorem rk8_c (l w : List Int) (k : Nat) (i : Int) : seesL rkTs ((codeL Try.prog qP (deep Try.prog qP hr4 100 3) (fun _ _ => none) 100 (lp (blk 0 (bodyOf Try.prog 12))) ⟨tmOf (ups (fun _ => .top) (zipU rkTs (rkV8 ⟨l, w, (k + 1), i⟩))) 130, rkM8 ⟨l, w, (k + 1), i⟩⟩).go [true, true, true, true, true]) = some ([decide (i < IntKind.i64.wrap (4 * IntKind.i64.wrap (8 + 7))), decide (i < 8), decide (0 ≤ IntKind.i64.wrap (IntKind.i64.wrap (4 * i) + 0)) && decide (IntKind.i64.wrap (IntKind.i64.wrap (4 * i) + 0) < ((32 : Nat) : Int)), decide (0 + qK i 0 * 1 + 1 ≤ 32), decide (i < 8), decide (0 ≤ IntKind.i64.wrap (IntKind.i64.wrap (4 * i) + 1)) && decide (IntKind.i64.wrap (IntKind.i64.wrap (4 * i) + 1) < ((32 : Nat) : Int)), decide (0 + qK i 1 * 1 + 1 ≤ 32), decide (i < 8), decide (0 ≤ IntKind.i64.wrap (IntKind.i64.wrap (4 * i) + 2)) && decide (IntKind.i64.wrap (IntKind.i64.wrap (4 * i) + 2) < ((32 : Nat) : Int)), decide (0 + qK i 2 * 1 + 1 ≤ 32), decide (i < 8), decide (0 ≤ IntKind.i64.wrap (IntKind.i64.wrap (4 * i) + 3)) && decide (IntKind.i64.wrap (IntKind.i64.wrap (4 * i) + 3) < ((32 : Nat) : Int)), decide (0 + qK i 3 * 1 + 1 ≤ 32)] ++ endR w (k + 1), 0, [.slice false 0 0 32 none 1, .ptr false 1 0, .int false .i64 8, .int true .i64 (IntKind.i64.wrap (i + 1))], 130, rkE8 ⟨l, w, k + 1, i⟩ (cpR l i)) := by kernel_rfl
theorem rk8_z (l w : List Int) (k : Nat) (i : Int) : seesL rkTs ((codeL Try.prog qP (deep Try.prog qP hr4 100 3) (fun _ _ => none) 100 (lp (blk 0 (bodyOf Try.prog 12))) ⟨tmOf (ups (fun _ => .top) (zipU rkTs (rkV8 ⟨l, w, (k + 1), i⟩))) 130, rkM8 ⟨l, w, (k + 1), i⟩⟩).go [true, false, true, false, true, false, true, false, true]) = some ([decide (i < IntKind.i64.wrap (4 * IntKind.i64.wrap (8 + 7)))] ++ ([!decide (i < 8), aR i 1 (k + 1), bR w i 1 0, i.tmod 8 == 0, aR i 1 (k + 1), bR w i 1 1] ++ cR (wR w i 1 1) ++ [true, decide (0 ≤ IntKind.i64.wrap (IntKind.i64.wrap (i.tdiv 8) - 1) ∧ IntKind.i64.wrap (IntKind.i64.wrap (i.tdiv 8) - 1) < 512)] ++ [aR i 8 (k + 1), bR w i 8 0]) ++ ([!decide (i < 8), aR i 1 (k + 1), bR w i 1 1, i.tmod 8 == 0, aR i 1 (k + 1), bR w i 1 2] ++ cR (wR w i 1 2) ++ [aR i 8 (k + 1), bR w i 8 1]) ++ ([!decide (i < 8), aR i 1 (k + 1), bR w i 1 2, i.tmod 8 == 0, aR i 1 (k + 1), bR w i 1 3] ++ cR (wR w i 1 3) ++ [aR i 8 (k + 1), bR w i 8 2]) ++ ([!decide (i < 8), aR i 1 (k + 1), bR w i 1 3, i.tmod 8 == 0, aR i 1 (k + 1), bR w i 1 0] ++ cR (wR w i 1 0) ++ [aR i 8 (k + 1), bR w i 8 3]) ++ endR w (k + 1), 0, [.slice false 0 0 32 none 1, .ptr false 1 0, .int false .i64 8, .int true .i64 (IntKind.i64.wrap (i + 1))], 130, rkE8 ⟨l, w, k + 1, i⟩ (zR w i 8)) := by kernel_rfl
theorem rk8_h (l w : List Int) (k : Nat) (i : Int) : seesL rkTs ((codeL Try.prog qP (deep Try.prog qP hr4 100 3) (fun _ _ => none) 100 (lp (blk 0 (bodyOf Try.prog 12))) ⟨tmOf (ups (fun _ => .top) (zipU rkTs (rkV8 ⟨l, w, (k + 1), i⟩))) 130, rkM8 ⟨l, w, (k + 1), i⟩⟩).go [true, false, false, true, false, false, true, false, false, true, false, false, true]) = some ([decide (i < IntKind.i64.wrap (4 * IntKind.i64.wrap (8 + 7)))] ++ ([!decide (i < 8), aR i 1 (k + 1), bR w i 1 0, !(i.tmod 8 == 0), (i.tmod 8 == 4)] ++ cR (wR w i 1 0) ++ [aR i 8 (k + 1), bR w i 8 0]) ++ ([!decide (i < 8), aR i 1 (k + 1), bR w i 1 1, !(i.tmod 8 == 0), (i.tmod 8 == 4)] ++ cR (wR w i 1 1) ++ [aR i 8 (k + 1), bR w i 8 1]) ++ ([!decide (i < 8), aR i 1 (k + 1), bR w i 1 2, !(i.tmod 8 == 0), (i.tmod 8 == 4)] ++ cR (wR w i 1 2) ++ [aR i 8 (k + 1), bR w i 8 2]) ++ ([!decide (i < 8), aR i 1 (k + 1), bR w i 1 3, !(i.tmod 8 == 0), (i.tmod 8 == 4)] ++ cR (wR w i 1 3) ++ [aR i 8 (k + 1), bR w i 8 3]) ++ endR w (k + 1), 0, [.slice false 0 0 32 none 1, .ptr false 1 0, .int false .i64 8, .int true .i64 (IntKind.i64.wrap (i + 1))], 130, rkE8 ⟨l, w, k + 1, i⟩ (hR w i 8)) := by kernel_rfl
theorem rk8_n (l w : List Int) (k : Nat) (i : Int) : seesL rkTs ((codeL Try.prog qP (deep Try.prog qP hr4 100 3) (fun _ _ => none) 100 (lp (blk 0 (bodyOf Try.prog 12))) ⟨tmOf (ups (fun _ => .top) (zipU rkTs (rkV8 ⟨l, w, (k + 1), i⟩))) 130, rkM8 ⟨l, w, (k + 1), i⟩⟩).go [true, false, false, false, false, false, false, false, false, false, false, false, false]) = some ([decide (i < IntKind.i64.wrap (4 * IntKind.i64.wrap (8 + 7)))] ++ ([!decide (i < 8), aR i 1 (k + 1), bR w i 1 0, !(i.tmod 8 == 0), !(i.tmod 8 == 4)] ++ [aR i 8 (k + 1), bR w i 8 0]) ++ ([!decide (i < 8), aR i 1 (k + 1), bR w i 1 1, !(i.tmod 8 == 0), !(i.tmod 8 == 4)] ++ [aR i 8 (k + 1), bR w i 8 1]) ++ ([!decide (i < 8), aR i 1 (k + 1), bR w i 1 2, !(i.tmod 8 == 0), !(i.tmod 8 == 4)] ++ [aR i 8 (k + 1), bR w i 8 2]) ++ ([!decide (i < 8), aR i 1 (k + 1), bR w i 1 3, !(i.tmod 8 == 0), !(i.tmod 8 == 4)] ++ [aR i 8 (k + 1), bR w i 8 3]) ++ endR w (k + 1), 0, [.slice false 0 0 32 none 1, .ptr false 1 0, .int false .i64 8, .int true .i64 (IntKind.i64.wrap (i + 1))], 130, rkE8 ⟨l, w, k + 1, i⟩ (nR w i 8)) := by kernel_rfl
theorem rk8_out (l w : List Int) (k : Nat) (i : Int) : seesL rkTs ((codeL Try.prog qP (deep Try.prog qP hr4 100 3) (fun _ _ => none) 100 (lp (blk 0 (bodyOf Try.prog 12))) ⟨tmOf (ups (fun _ => .top) (zipU rkTs (rkV8 ⟨l, w, (k + 1), i⟩))) 130, rkM8 ⟨l, w, (k + 1), i⟩⟩).go [false]) = some ([!decide (i < IntKind.i64.wrap (4 * IntKind.i64.wrap (8 + 7)))], 2, rkV8 ⟨l, w, k + 1, i⟩, 130, rkM8 ⟨l, w, k + 1, i⟩) := by kernel_rfl
end Go.Proofs.Ytfmgodgakndjcaa
namespace Go.As
open Go.Ev Go.Sh
def wS (w : List Int) (j m : Nat) : Int := w.getD (j * 4 + m) 0
def nextS (N : Nat) (l w : List Int) (k : Nat) : List Int :=
  if k < N then [l.getD (4 * k + 0) 0, l.getD (4 * k + 1) 0, l.getD (4 * k + 2) 0, l.getD (4 * k + 3) 0]
  else if k % N = 0 then [ix (wS w (k - N) 0) (ix (sb (wS w (k - 1) 1)) (pw 2 ((k / N - 1 : Nat) : Int))), ix (wS w (k - N) 1) (sb (wS w (k - 1) 2)), ix (wS w (k - N) 2) (sb (wS w (k - 1) 3)), ix (wS w (k - N) 3) (sb (wS w (k - 1) 0))]
  else if k % N = 4 then [ix (wS w (k - N) 0) (sb (wS w (k - 1) 0)), ix (wS w (k - N) 1) (sb (wS w (k - 1) 1)), ix (wS w (k - N) 2) (sb (wS w (k - 1) 2)), ix (wS w (k - N) 3) (sb (wS w (k - 1) 3))]
  else [ix (wS w (k - N) 0) (wS w (k - 1) 0), ix (wS w (k - N) 1) (wS w (k - 1) 1), ix (wS w (k - N) 2) (wS w (k - 1) 2), ix (wS w (k - N) 3) (wS w (k - 1) 3)]
/-- The first words. -/
def specW (N : Nat) (l : List Int) : Nat → List Int
  | 0 => []
  | k + 1 => specW N l k ++ nextS N l (specW N l k) k
theorem nextS_len (N : Nat) (l w : List Int) (k : Nat) : (nextS N l w k).length = 4 := by unfold nextS; split; · rfl
                                                                                          split; · rfl
                                                                                          split <;> rfl
theorem specW_len (N : Nat) (l : List Int) : ∀ k, (specW N l k).length = 4 * k
  | 0 => rfl
  | k + 1 => by unfold specW; rw [List.length_append, specW_len N l k, nextS_len]; omega
theorem mem4 {a b c d : Int} (ha : B8 a) (hb : B8 b) (hc : B8 c) (hd : B8 d) : ∀ x ∈ [a, b, c, d], B8 x := fun x hx => by
  simp only [List.mem_cons, List.not_mem_nil, or_false] at hx
  rcases hx with rfl | rfl | rfl | rfl <;> assumption
theorem nextS_b8 {N : Nat} {l w : List Int} (k : Nat) (hl : ∀ x ∈ l, B8 x) (hw : ∀ x ∈ w, B8 x) : ∀ x ∈ nextS N l w k, B8 x := by
  have L := fun i => getD_B8 hl i
  have W : ∀ j m, B8 (wS w j m) := fun j m => getD_B8 hw _
  unfold nextS
  split
  · exact mem4 (L _) (L _) (L _) (L _)
  · split
    · exact mem4 (ix_b8 (W _ _) (ix_b8 (sb_b8 (W _ _)) (pw_b8 _ _))) (ix_b8 (W _ _) (sb_b8 (W _ _))) (ix_b8 (W _ _) (sb_b8 (W _ _))) (ix_b8 (W _ _) (sb_b8 (W _ _)))
    · split
      · exact mem4 (ix_b8 (W _ _) (sb_b8 (W _ _))) (ix_b8 (W _ _) (sb_b8 (W _ _))) (ix_b8 (W _ _) (sb_b8 (W _ _))) (ix_b8 (W _ _) (sb_b8 (W _ _)))
      · exact mem4 (ix_b8 (W _ _) (W _ _)) (ix_b8 (W _ _) (W _ _)) (ix_b8 (W _ _) (W _ _)) (ix_b8 (W _ _) (W _ _))
theorem specW_b8 (N : Nat) {l : List Int} (hl : ∀ x ∈ l, B8 x) : ∀ k, ∀ x ∈ specW N l k, B8 x
  | 0, x, hx => by cases hx
  | k + 1, x, hx => by
    unfold specW at hx
    rcases List.mem_append.1 hx with h | h
    · exact specW_b8 N hl k x h
    · exact nextS_b8 k hl (specW_b8 N hl k) x h
theorem ixor64b {x y : Int} (hx : B8 x) (hy : B8 y) : ixor .i64 x y = ix x y := by
  have h1 := b8_nat hx
  have h2 := b8_nat hy
  rw [← h1, ← h2, ixor64 (by unfold B8 at hx; omega) (by unfold B8 at hy; omega)]
  unfold ix
  rw [Int.toNat_natCast, Int.toNat_natCast]
/- the reference -/
theorem pK_nat {k d : Nat} (hk : k ≤ 100) (hd : d ≤ k) : pK (k : Int) (d : Int) = k - d ∧ IntKind.i64.wrap ((k : Int) - (d : Int)) = ((k - d : Nat) : Int) := by
  have e : IntKind.i64.wrap ((k : Int) - (d : Int)) = ((k - d : Nat) : Int) := by rw [w64i (by omega)]; omega
  exact ⟨by unfold pK; rw [e]; omega, e⟩
theorem qK_nat {k j : Nat} (hk : k ≤ 100) (hj : j < 4) : qK (k : Int) (j : Int) = 4 * k + j ∧ IntKind.i64.wrap (IntKind.i64.wrap (4 * (k : Int)) + (j : Int)) = ((4 * k + j : Nat) : Int) := by
  have e : IntKind.i64.wrap (IntKind.i64.wrap (4 * (k : Int)) + (j : Int)) = ((4 * k + j : Nat) : Int) := by rw [w64i (x := 4 * (k : Int)) (by omega), w64i (by omega)]; omega
  exact ⟨by unfold qK; rw [e]; omega, e⟩
theorem cpR_eq {N : Nat} {l w : List Int} {k : Nat} (hk : k < N) (h100 : k ≤ 100) (hl : ∀ x ∈ l, B8 x) : cpR l (k : Int) = nextS N l w k := by
  have L : ∀ i, IntKind.i64.wrap (l.getD i 0) = l.getD i 0 := fun i => w64i (by have := getD_B8 hl i; unfold B8 at this; omega)
  have q := fun j (hj : j < 4) => (qK_nat h100 hj).1
  have q0 := q 0 (by omega)
  have q1 := q 1 (by omega)
  have q2 := q 2 (by omega)
  have q3 := q 3 (by omega)
  simp only [Int.cast_ofNat_Int, Int.natCast_zero, Int.natCast_one] at q0 q1 q2 q3
  unfold cpR nextS
  rw [if_pos hk, L, L, L, L, q0, q1, q2, q3]
  simp only [Nat.zero_add, Nat.mul_one]
theorem wR_eq {w : List Int} {k d j : Nat} (hk : k ≤ 100) (hd : d ≤ k) : wR w (k : Int) (d : Int) j = wS w (k - d) j := by
  unfold wR wS
  rw [(pK_nat hk hd).1, Nat.zero_add]
theorem sbR_eq (x : Int) : sbR x = sb x := by unfold sbR sb; rw [Nat.mul_one]
theorem nxt_eq {N : Nat} {l w : List Int} {k : Nat} (hN : 1 ≤ N) (hk : N ≤ k) (h100 : k ≤ 100) (hw : ∀ x ∈ w, B8 x) :
    (k % N = 0 → zR w (k : Int) (N : Int) = nextS N l w k) ∧ (k % N ≠ 0 → k % N = 4 → hR w (k : Int) (N : Int) = nextS N l w k) ∧ (k % N ≠ 0 → k % N ≠ 4 → nR w (k : Int) (N : Int) = nextS N l w k) := by
  have W : ∀ j m, B8 (wS w j m) := fun j m => getD_B8 hw _
  have e1 : ∀ j, wR w (k : Int) 1 j = wS w (k - 1) j := fun j => wR_eq (d := 1) h100 (by omega)
  have e2 : ∀ j, wR w (k : Int) (N : Int) j = wS w (k - N) j := fun j => wR_eq h100 hk
  have e3 : IntKind.i64.wrap (IntKind.i64.wrap ((k : Int).tdiv (N : Int)) - 1) = ((k / N - 1 : Nat) : Int) := by
    have h1 : (k : Int).tdiv (N : Int) = ((k / N : Nat) : Int) := by rw [Int.tdiv_eq_ediv_of_nonneg (by omega)]; simp
    have h2 : k / N ≤ k := Nat.div_le_self _ _
    have h3 : 1 ≤ k / N := (Nat.one_le_div_iff (by omega)).2 hk
    rw [h1, w64i (x := ((k / N : Nat) : Int)) (by omega), w64i (by omega)]
    omega
  refine ⟨fun h => ?_, fun h h' => ?_, fun h h' => ?_⟩
  · unfold zR nextS
    rw [if_neg (by omega), if_pos h]
    simp only [e1, e2, e3, sbR_eq]
    rw [ixor64b (sb_b8 (W _ _)) (pw_b8 _ _), ixor64b (W _ _) (ix_b8 (sb_b8 (W _ _)) (pw_b8 _ _)), ixor64b (W _ _) (sb_b8 (W _ _)), ixor64b (W _ _) (sb_b8 (W _ _)), ixor64b (W _ _) (sb_b8 (W _ _))]
  · unfold hR nextS
    rw [if_neg (by omega), if_neg h, if_pos h']
    simp only [e1, e2, sbR_eq]
    rw [ixor64b (W _ _) (sb_b8 (W _ _)), ixor64b (W _ _) (sb_b8 (W _ _)), ixor64b (W _ _) (sb_b8 (W _ _)), ixor64b (W _ _) (sb_b8 (W _ _))]
  · unfold nR nextS
    rw [if_neg (by omega), if_neg h, if_neg h']
    simp only [e1, e2]
    rw [ixor64b (W _ _) (W _ _), ixor64b (W _ _) (W _ _), ixor64b (W _ _) (W _ _), ixor64b (W _ _) (W _ _)]
/- the program -/
theorem wd4_get {w z : List Int} {j m : Nat} (hm : m < 4) (h : j * 4 + 4 ≤ w.length) : (wd4 (w ++ z) j).getD m 0 = wS w j m := by
  unfold wd4 wS
  rw [List.getD, List.getD, List.getElem?_take_of_lt hm, List.getElem?_drop, List.getElem?_append_left (by omega)]
theorem dP_pow : (List.range 15).all (fun n => decide (dP (pw 2 (n : Int)) = pw 2 ((n + 1 : Nat) : Int))) = true := by kernel_rfl
theorem key_spec {N : Nat} (hN : N = 4 ∨ N = 8) {l : List Int} (hll : l.length = 4 * N) (hl : ∀ x ∈ l, B8 x) : ∀ k, k ≤ 3 * N + 28 → (keyG N l k).1 = specW N l (N + k) ++ List.replicate (240 - 4 * (N + k)) 0 ∧ (keyG N l k).2 = pw 2 (((N + k - 1) / N : Nat) : Int)
  | 0, _ => by
    constructor
    · have key : ∀ k, k ≤ N → specW N l k = (List.range (4 * k)).map (fun i => l.getD i 0) := by
        intro k
        induction k with
        | zero => intro _; rfl
        | succ k ih =>
          intro h
          unfold specW nextS
          rw [ih (by omega), if_pos (by omega), show 4 * (k + 1) = 4 * k + 1 + 1 + 1 + 1 by omega]
          simp only [List.range_succ, List.map_append, List.map_cons, List.map_nil, List.append_assoc]
          rfl
      show (List.range (4 * N)).map (fun i => l.getD i 0) ++ List.replicate (240 - 4 * N) 0 = specW N l N ++ List.replicate (240 - 4 * N) 0
      rw [key N (Nat.le_refl _)]
    · have : (N + 0 - 1) / N = 0 := by rcases hN with rfl | rfl <;> rfl
      rw [this]; rfl
  | k + 1, h => by
    obtain ⟨ih1, ih2⟩ := key_spec hN hll hl k (by omega)
    have hb := specW_b8 N hl (N + k)
    have hlen := specW_len N l (N + k)
    have hW : ∀ j m, B8 (wS (specW N l (N + k)) j m) := fun j m => getD_B8 hb _
    have hdiv : (N + (k + 1) - 1) / N = if (N + k) % N = 0 then (N + k - 1) / N + 1 else (N + k - 1) / N := by
      rcases hN with rfl | rfl <;> split <;> omega
    have h16 : (N + k - 1) / N < 15 := by rcases hN with rfl | rfl <;> omega
    constructor
    · unfold keyG
      simp only
      rw [ih1, ih2]
      unfold stepW putW4
      have g : ∀ {j m : Nat}, m < 4 → j * 4 + 4 ≤ 4 * (N + k) → (wd4 (specW N l (N + k) ++ List.replicate (240 - 4 * (N + k)) 0) j).getD m 0 = wS (specW N l (N + k)) j m := fun hm hj => wd4_get hm (by rw [hlen]; exact hj)
      have hsum : sumW (wd4 (specW N l (N + k) ++ List.replicate (240 - 4 * (N + k)) 0) (N + k - N)) (moreW N (wd4 (specW N l (N + k) ++ List.replicate (240 - 4 * (N + k)) 0) (N + k - 1)) (N + k) (pw 2 (((N + k - 1) / N : Nat) : Int))) = nextS N l (specW N l (N + k)) (N + k) := by
        unfold nextS
        rw [if_neg (by omega)]
        have hp : (N + k) % N = 0 → (N + k - 1) / N = (N + k) / N - 1 := fun h => by rcases hN with rfl | rfl <;> omega
        by_cases hz : (N + k) % N = 0
        · rw [if_pos hz]
          unfold moreW
          rw [if_pos hz, hp hz]
          unfold sumW headW
          simp only [turnW, subW, List.set_cons_zero, List.getD_cons_zero, List.getD_cons_succ]
          rw [g (by omega) (by omega), g (by omega) (by omega), g (by omega) (by omega), g (by omega) (by omega), g (by omega) (by omega), g (by omega) (by omega), g (by omega) (by omega), g (by omega) (by omega)]
          rw [ixor_b (sb_b8 (hW _ _)) (pw_b8 _ _), ixor_b (hW _ _) (ix_b8 (sb_b8 (hW _ _)) (pw_b8 _ _)), ixor_b (hW _ _) (sb_b8 (hW _ _)), ixor_b (hW _ _) (sb_b8 (hW _ _)), ixor_b (hW _ _) (sb_b8 (hW _ _))]
        · rw [if_neg hz]
          unfold moreW
          rw [if_neg hz]
          by_cases h4 : (N + k) % N = 4
          · rw [if_pos h4, if_pos h4]
            unfold sumW
            simp only [subW, List.getD_cons_zero, List.getD_cons_succ]
            rw [g (by omega) (by omega), g (by omega) (by omega), g (by omega) (by omega), g (by omega) (by omega), g (by omega) (by omega), g (by omega) (by omega), g (by omega) (by omega), g (by omega) (by omega)]
            rw [ixor_b (hW _ _) (sb_b8 (hW _ _)), ixor_b (hW _ _) (sb_b8 (hW _ _)), ixor_b (hW _ _) (sb_b8 (hW _ _)), ixor_b (hW _ _) (sb_b8 (hW _ _))]
          · rw [if_neg h4, if_neg h4]
            unfold sumW
            rw [g (by omega) (by omega), g (by omega) (by omega), g (by omega) (by omega), g (by omega) (by omega), g (by omega) (by omega), g (by omega) (by omega), g (by omega) (by omega), g (by omega) (by omega)]
            rw [ixor_b (hW _ _) (hW _ _), ixor_b (hW _ _) (hW _ _), ixor_b (hW _ _) (hW _ _), ixor_b (hW _ _) (hW _ _)]
      rw [hsum]
      have hc : N + (k + 1) = N + k + 1 := by omega
      rw [hc]
      show _ = (specW N l (N + k) ++ nextS N l (specW N l (N + k)) (N + k)) ++ _
      have hle : 4 * (N + k) + 4 ≤ 240 := by rcases hN with rfl | rfl <;> omega
      rw [List.take_append_of_le_length (by omega), List.take_of_length_le (by omega), List.drop_append, List.drop_of_length_le (l := specW N l (N + k)) (by omega), List.nil_append, List.drop_replicate]
      congr 2
      omega
    · unfold keyG
      simp only
      rw [ih2, hdiv]
      have hd := List.all_eq_true.1 dP_pow _ (List.mem_range.2 h16)
      simp only [decide_eq_true_eq] at hd
      split
      · exact hd
      · rfl
end Go.As
