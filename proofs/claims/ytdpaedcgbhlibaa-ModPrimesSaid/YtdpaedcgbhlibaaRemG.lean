/- The reference's long division, whole. Own work. -/
import Derived.Test.YtdpaedcgbhlibaaRemF
namespace Go.Wn
open Go.Ev
def shN (l : List Int) (s : Int) (len : Nat) : Nat → List Int
  | 0 => List.replicate len 0
  | i + 1 => ((shN l s len i).set i (IntKind.u64.wrap ((shN l s len i).getD i 0 + ishl .u64 (l.getD i 0) s))).set (i + 1) (ishr .u64 (l.getD i 0) (IntKind.i64.wrap (64 - s)))
def outN (a : List Int) (s : Int) : Nat → List Int
  | 0 => [0, 0, 0, 0]
  | i + 1 => (outN a s i).set i (IntKind.u64.wrap (ishr .u64 (a.getD i 0) s + ishl .u64 (a.getD (i + 1) 0) (IntKind.i64.wrap (64 - s))))
def dSN (s : Int) : Nat → List Bool
  | 0 => []
  | k + 1 => (!decide (s < 0)) :: (!decide (IntKind.i64.wrap (64 - s) < 0)) :: dSN s k
end Go.Wn
namespace Go.Proofs.Ytdpaedcgbhlibaa
open Go.Ev Go.Wn
set_option maxRecDepth 100000
def remW : Nat → List Bool
  | 4 => [false]
  | 3 => [true, false]
  | 2 => [true, true, false]
  | _ => [true, true, true, false]
def remC (m : List Int) : Nat → List Bool
  | 4 => [!(m.getD 3 0 == 0)]
  | 3 => [m.getD 3 0 == 0, !(m.getD 2 0 == 0)]
  | 2 => [m.getD 3 0 == 0, m.getD 2 0 == 0, !(m.getD 1 0 == 0)]
  | _ => [m.getD 3 0 == 0, m.getD 2 0 == 0, m.getD 1 0 == 0, !(m.getD 0 0 == 0)]
def remS (m : List Int) (n : Nat) : Int := 64 - blen (m.getD (n - 1) 0)
def remO (u m : List Int) (s : Int) (n : Nat) : List Bool := remC m n ++ (decide (0 < m.getD (n - 1) 0) :: (dSN s (n + 9) ++ (o6 n (9 - n) (shN m s 5 n) (shN u s 10 9) ++ dSN s n)))
def remA (u m : List Int) (s : Int) (n : Nat) : List Int := outN (divL (shN u s 10 9) (bigB (shN m s 5 n) n) 0) s n
def RG (n : Nat) : Prop := ∀ (u m : List Int), res ((funcL Try.prog qAll hr3 remΛ2 100 56 (cArgs 0 [.pl (.ints .u64 9 u), .pl (.ints .u64 4 m)]) (cMem [.pl (.ints .u64 9 u), .pl (.ints .u64 4 m)])).go (remW n)) =
  some (remO u m (remS m n) n, .ints .u64 4 (remA u m (remS m n) n))
theorem RG_1 : RG 1 := fun u m => by kernel_rfl
theorem RG_2 : RG 2 := fun u m => by kernel_rfl
theorem RG_3 : RG 3 := fun u m => by kernel_rfl
theorem RG_4 : RG 4 := fun u m => by kernel_rfl
end Go.Proofs.Ytdpaedcgbhlibaa
