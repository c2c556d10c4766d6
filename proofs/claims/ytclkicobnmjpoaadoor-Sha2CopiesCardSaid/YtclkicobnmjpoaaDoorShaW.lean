/- The reference's block, evaluated. Own work. -/
import Derived.Test.YtclkicobnmjpoaaDoorShaV
namespace Go.Proofs.YtclkicobnmjpoaaDoor
open Go.Ev Go.Sh
set_option maxRecDepth 100000
def finV32 (B V : List Int) : Nat → List Int
  | 0 => V
  | k + 1 => (finV32 B V k).set (0 + k * 1) (IntKind.u64.wrap ((finV32 B V k).getD (0 + k * 1) 0 + B.getD (0 + k * 1) 0) % 2 ^ 32)
def finO32 (B V : List Int) : Nat → List Bool
  | 0 => []
  | k + 1 => finO32 B V k ++ [decide (0 ≤ IntKind.u64.wrap ((finV32 B V k).getD (0 + k * 1) 0 + B.getD (0 + k * 1) 0))]
theorem brk32_eval (b0 b1 b2 b3 b4 b5 b6 b7 : Int) (l : List Int) (n : Nat) : res ((funcL Tryd.prog qS hR2 (rbΛ32 (rdΛ32 (fun _ _ => none))) 100 29 (cArgs 0 [.pl (.ints .u64 8 [b0, b1, b2, b3, b4, b5, b6, b7]), .buf true .u8 n l, .pl (.int false .i64 32)]) (cMem [.pl (.ints .u64 8 [b0, b1, b2, b3, b4, b5, b6, b7]), .buf true .u8 n l, .pl (.int false .i64 32)])).go []) =
    some (rbW32 ⟨[b0, b1, b2, b3, b4, b5, b6, b7], l, n, n, List.replicate 80 0, 0⟩ ++ (rdO32 ⟨[b0, b1, b2, b3, b4, b5, b6, b7], l, n, fillW 80 32 l 64, [b0, b1, b2, b3, b4, b5, b6, b7], 0⟩ ++ finO32 [b0, b1, b2, b3, b4, b5, b6, b7] (roundsV 32 64 l [b0, b1, b2, b3, b4, b5, b6, b7] 64) 8), .ints .u64 8 (finV32 [b0, b1, b2, b3, b4, b5, b6, b7] (roundsV 32 64 l [b0, b1, b2, b3, b4, b5, b6, b7] 64) 8)) := by kernel_rfl
def finV64 (B V : List Int) : Nat → List Int
  | 0 => V
  | k + 1 => (finV64 B V k).set (0 + k * 1) (IntKind.u64.wrap ((finV64 B V k).getD (0 + k * 1) 0 + B.getD (0 + k * 1) 0))
def finO64 (B V : List Int) : Nat → List Bool
  | 0 => []
  | k + 1 => finO64 B V k ++ [decide (0 ≤ IntKind.u64.wrap ((finV64 B V k).getD (0 + k * 1) 0 + B.getD (0 + k * 1) 0))]
theorem brk64_eval (b0 b1 b2 b3 b4 b5 b6 b7 : Int) (l : List Int) (n : Nat) : res ((funcL Tryd.prog qS hR2 (rbΛ64 (rdΛ64 (fun _ _ => none))) 100 29 (cArgs 0 [.pl (.ints .u64 8 [b0, b1, b2, b3, b4, b5, b6, b7]), .buf true .u8 n l, .pl (.int false .i64 64)]) (cMem [.pl (.ints .u64 8 [b0, b1, b2, b3, b4, b5, b6, b7]), .buf true .u8 n l, .pl (.int false .i64 64)])).go []) =
    some (rbW64 ⟨[b0, b1, b2, b3, b4, b5, b6, b7], l, n, n, List.replicate 80 0, 0⟩ ++ (rdO64 ⟨[b0, b1, b2, b3, b4, b5, b6, b7], l, n, fillW 80 64 l 80, [b0, b1, b2, b3, b4, b5, b6, b7], 0⟩ ++ []), .ints .u64 8 (finV64 [b0, b1, b2, b3, b4, b5, b6, b7] (roundsV 64 80 l [b0, b1, b2, b3, b4, b5, b6, b7] 80) 8)) := by kernel_rfl
end Go.Proofs.YtclkicobnmjpoaaDoor
