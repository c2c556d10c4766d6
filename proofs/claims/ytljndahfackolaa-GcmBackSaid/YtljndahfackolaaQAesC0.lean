/- A key's words, as the program reckons them. Own work. -/
import Derived.Test.YtljndahfackolaaQAesA
set_option linter.unusedSimpArgs false
set_option linter.unusedVariables false
set_option linter.unusedSectionVars false
namespace Go.As
open Go.Ev Go.Sh
def pK (i d : Int) : Nat := (IntKind.i64.wrap (i - d)).toNat
/-- Word j of a key's words. -/
def wd4 (W : List Int) (j : Nat) : List Int := (W.drop (j * 4)).take 4
def turnW (v : List Int) : List Int := [v.getD 1 0, v.getD 2 0, v.getD 3 0, v.getD 0 0]
def headW (v : List Int) (p : Int) : List Int := (subW (turnW v)).set 0 (ixor .u8 ((subW (turnW v)).getD 0 0) p)
def moreW (N : Nat) (v : List Int) (i : Nat) (p : Int) : List Int := if i % N = 0 then headW v p else if i % N = 4 then subW v else v
def putW4 (W : List Int) (i : Nat) (x : List Int) : List Int := W.take (i * 4) ++ x ++ W.drop (i * 4 + 4)
def stepW (N : Nat) (W : List Int) (i : Nat) (p : Int) : List Int := putW4 W i (sumW (wd4 W (i - N)) (moreW N (wd4 W (i - 1)) i p))
def keyG (N : Nat) (l : List Int) : Nat → List Int × Int
  | 0 => ((List.range (4 * N)).map (fun i => l.getD i 0) ++ List.replicate (240 - 4 * N) 0, 1)
  | k + 1 => (stepW N (keyG N l k).1 (N + k) (keyG N l k).2, if (N + k) % N = 0 then dP (keyG N l k).2 else (keyG N l k).2)
def keyL (N : Nat) (l : List Int) : List Int := (keyG N l (3 * N + 28)).1
def keyC (N : Nat) (W : List Int) : Cells := .wide [.int false .i64 ((N : Int) + 6), .ints .u8 240 W]
end Go.As
