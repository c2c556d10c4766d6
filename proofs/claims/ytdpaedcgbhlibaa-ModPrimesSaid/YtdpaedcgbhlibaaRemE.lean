/- The reference's long division: one digit of the quotient. Own work. -/
import Derived.Test.YtdpaedcgbhlibaaRemD
namespace Go.Proofs.Ytdpaedcgbhlibaa
open Go.Ev Go.Wn
set_option maxRecDepth 100000
def r6U (n : Nat) (j : Int) : List (Nat × AV) := [(5, .int false .i64 n), (7, .ptr false 5 0), (8, .ptr false 6 0), (11, .int true .i64 j)]
def dMS (q : Int) (b a : List Int) (j : Int) : Nat → List Bool
  | 0 => []
  | i + 1 => dMS q b a j i ++ (true :: dJ j i (decide ((msN q b (jx j) a i).2.1 ≤ 1)))
def msT (q : Int) (b a : List Int) (j : Int) (n : Nat) : List Int :=
  (msN q b (jx j) a n).1.set (jx j n) (((msN q b (jx j) a n).1.getD (jx j n) 0 - (msN q b (jx j) a n).2.2 - (msN q b (jx j) a n).2.1) % 18446744073709551616)
def msB (q : Int) (b a : List Int) (j : Int) (n : Nat) : Int := if (msN q b (jx j) a n).1.getD (jx j n) 0 < (msN q b (jx j) a n).2.2 + (msN q b (jx j) a n).2.1 then 1 else 0
def wy (j : Int) (n : Nat) : Int := IntKind.i64.wrap (IntKind.i64.wrap (j + (n : Int)) - 1)
def jy (j : Int) (n : Nat) : Nat := 0 + (wy j n).toNat * 1
def qT (b a : List Int) (j : Int) (n : Nat) : Int := (a.getD (jx j n) 0 * 18446744073709551616 + a.getD (jy j n) 0) / b.getD (n - 1) 0
def d6 (q : Int) (b a : List Int) (j : Int) (n : Nat) : List Bool := dMS q b a j n ++ (dJ j n (decide ((msN q b (jx j) a n).2.1 ≤ 1)) ++ o10 n j (msB q b a j n) b (msT q b a j n))
def d6T (b a : List Int) (j : Int) (n : Nat) : List Bool :=
  [decide (j ≥ 0), dIx j n, decide (jx j n + 1 ≤ 10), decide (a.getD (jx j n) 0 < b.getD (n - 1) 0), dIx j n, decide (jx j n + 1 ≤ 10), decide (0 ≤ wy j n) && decide (wy j n < ((10 : Nat) : Int)), decide (jy j n + 1 ≤ 10),
    decide (a.getD (jx j n) 0 < b.getD (n - 1) 0), decide (9223372036854775808 ≤ b.getD (n - 1) 0)]
def d6F (b a : List Int) (j : Int) (n : Nat) : List Bool := [decide (j ≥ 0), dIx j n, decide (jx j n + 1 ≤ 10), !decide (a.getD (jx j n) 0 < b.getD (n - 1) 0)]
def R6 (n : Nat) : Prop := ∀ (x : Nat → AV) (j : Int) (u m r b a : List Int),
  obs [4, 5, 6, 7, 8, 11] ((codeL Try.prog qAll hr3 remΛ1 100 (lp (blk 6 (bodyOf Try.prog 56))) ⟨tmOf (ups x (r6U n j)) 239, remM u m r b a⟩).go [true, true]) =
    some (d6T b a j n ++ d6 (qT b a j n) b a j n, 0, [x 4, .int false .i64 n, x 6, .ptr false 5 0, .ptr false 6 0, .int true .i64 (IntKind.i64.wrap (j - 1))], 239, remM u m r b (rem10 n j (msB (qT b a j n) b a j n) b (msT (qT b a j n) b a j n))) ∧
  obs [4, 5, 6, 7, 8, 11] ((codeL Try.prog qAll hr3 remΛ1 100 (lp (blk 6 (bodyOf Try.prog 56))) ⟨tmOf (ups x (r6U n j)) 239, remM u m r b a⟩).go [true, false]) =
    some (d6F b a j n ++ d6 18446744073709551615 b a j n, 0, [x 4, .int false .i64 n, x 6, .ptr false 5 0, .ptr false 6 0, .int true .i64 (IntKind.i64.wrap (j - 1))], 239, remM u m r b (rem10 n j (msB 18446744073709551615 b a j n) b (msT 18446744073709551615 b a j n))) ∧
  obs [4, 5, 6, 7, 8, 11] ((codeL Try.prog qAll hr3 remΛ1 100 (lp (blk 6 (bodyOf Try.prog 56))) ⟨tmOf (ups x (r6U n j)) 239, remM u m r b a⟩).go [false]) =
    some ([!decide (j ≥ 0)], 8, [x 4, .int false .i64 n, x 6, .ptr false 5 0, .ptr false 6 0, .int true .i64 j], 239, remM u m r b a)
theorem R6_1 : R6 1 := fun x j u m r b a => ⟨by kernel_rfl, by kernel_rfl, by kernel_rfl⟩
theorem R6_2 : R6 2 := fun x j u m r b a => ⟨by kernel_rfl, by kernel_rfl, by kernel_rfl⟩
theorem R6_3 : R6 3 := fun x j u m r b a => ⟨by kernel_rfl, by kernel_rfl, by kernel_rfl⟩
theorem R6_4 : R6 4 := fun x j u m r b a => ⟨by kernel_rfl, by kernel_rfl, by kernel_rfl⟩
theorem R6_all {n : Nat} (h : 1 ≤ n ∧ n ≤ 4) : R6 n := by
  match n, h with
  | 1, _ => exact R6_1
  | 2, _ => exact R6_2
  | 3, _ => exact R6_3
  | 4, _ => exact R6_4
  | 0, h => exact absurd h.1 (by decide)
  | k + 5, h => exact absurd h.2 (by omega)
end Go.Proofs.Ytdpaedcgbhlibaa
