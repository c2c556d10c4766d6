/- The reference's Sum: its contract. Own work. -/
import Derived.Test.YtjhjhhibfojpiaaDoorVShaZ
import Derived.Test.YtjhjhhibfojpiaaDoorVEvLawN
import Derived.Test.YtjhjhhibfojpiaaDoorVShaF
set_option linter.unusedSimpArgs false
set_option linter.unusedVariables false
set_option linter.unusedSectionVars false
namespace Go.Sh
open Go.Ev
/-- The text with zeros, and the numbers laid upon its end. -/
def rsL (T bits : Int) (m : List Int) : Nat → List Int
  | 0 => m
  | i + 1 => (rsL T bits m i).set (0 + (rawJ T i).toNat * 1) (IntKind.u8.wrap (ishr .u64 bits (IntKind.i64.wrap (8 * (i : Int)))))
def rsO (n : Nat) (T bits : Int) (m : List Int) : Nat → List Bool
  | 0 => []
  | i + 1 => rsO n T bits m i ++ [decide (0 ≤ rawJ T i) && decide (rawJ T i < ((n : Nat) : Int)), decide (0 + (rawJ T i).toNat * 1 + 1 ≤ (rsL T bits m i).length)]
def bitsR (n : Int) : Int := IntKind.u64.wrap (IntKind.u64.wrap n * 8)
theorem bitsR_eq (n : Nat) (hn : n ≤ 1000000000) {i : Nat} (hi : i < 8) : IntKind.u8.wrap (ishr .u64 (bitsR n) (IntKind.i64.wrap (8 * (i : Int)))) = (n : Int) * 8 / 2 ^ (8 * i) % 256 := by
  have e1 : IntKind.i64.wrap (8 * (i : Int)) = ((8 * i : Nat) : Int) := by rw [w64 (by omega)]; omega
  have e2 : bitsR n = ((n : Int) * 8) % 2 ^ 64 := by
    unfold bitsR
    rw [wrap_u (k := .u64) rfl, wrap_u (k := .u64) rfl]
    simp only [IntKind.bits]
    omega
  rw [e1, e2, wrap_u (k := .u8) rfl]
  have e3 : ishr .u64 ((n : Int) * 8 % 2 ^ 64) ((8 * i : Nat) : Int) = (n : Int) * 8 % 2 ^ 64 / 2 ^ (8 * i) := sd64 (8 * i) (by omega)
  rw [e3]
  simp only [IntKind.bits]
  have : i = 0 ∨ i = 1 ∨ i = 2 ∨ i = 3 ∨ i = 4 ∨ i = 5 ∨ i = 6 ∨ i = 7 := by omega
  rcases this with rfl | rfl | rfl | rfl | rfl | rfl | rfl | rfl <;> omega
theorem rs_text [Tab] {B pz : Nat} (hB : B = 64 ∨ B = 128) (hp : pz = B / 8) {l m : List Int} (hl : l.length ≤ 500000000) (hm : m = l ++ [128] ++ List.replicate (padZ B l.length) 0 ++ List.replicate pz 0) {T : Nat} (hT : T = l.length + 1 + padZ B l.length + pz) :
    ∀ i, i ≤ 8 → rsL T (bitsR l.length) m i = l ++ fillC (fillN B (l.length : Int)) (l.length : Int) i ∧ Paid (rsO T T (bitsR l.length) m i)
  | 0, _ => by
    have hz := padZ_fill hB l.length
    have hr := fillN_range (B := B) (by omega) (l.length : Int)
    refine ⟨?_, Paid.nil⟩
    show m = l ++ (128 :: List.replicate (fillN B (l.length : Int) - 1) 0)
    rw [hm, show fillN B (l.length : Int) - 1 = padZ B l.length + pz by omega, List.append_assoc, List.append_assoc, List.replicate_append_replicate]
    rfl
  | i + 1, h => by
    obtain ⟨ih1, ih2⟩ := rs_text hB hp hl hm hT i (by omega)
    have hz := padZ_fill hB l.length
    have hr := fillN_range (B := B) (by omega) (l.length : Int)
    have hTf : T = l.length + fillN B (l.length : Int) := by omega
    have hfu : fillN B (l.length : Int) ≤ 200 := by omega
    have hj : rawJ (T : Int) (i : Int) = ((l.length + (fillN B (l.length : Int) - 1 - i) : Nat) : Int) := by
      unfold rawJ
      rw [w64 (x := (T : Int) - 1) (by omega), w64 (by omega)]
      omega
    have hlen : (rsL T (bitsR l.length) m i).length = T := by rw [ih1, List.length_append, fillC_len hr.1, hTf]
    constructor
    · unfold rsL fillC
      rw [ih1, hj, bitsR_eq _ (by omega) (by omega), Int.toNat_natCast, Nat.zero_add, Nat.mul_one, List.set_append_right _ _ (by omega), Nat.add_sub_cancel_left]
    · unfold rsO
      refine paid_append.2 ⟨ih2, paid_cons ?_ (paid_cons ?_ Paid.nil)⟩
      · rw [hj]; simp; omega
      · rw [hlen, hj]; simp; omega
end Go.Sh
namespace Go.Proofs.YtjhjhhibfojpiaaDoor
variable [Go.Ev.RowTab]
open Go.Ev Go.Sh
set_option maxRecDepth 100000
end Go.Proofs.YtjhjhhibfojpiaaDoor
namespace Go.Proofs.YtjhjhhibfojpiaaDoor
variable [Go.Ev.RowTab]
open Go.Ev Go.Sh
set_option maxRecDepth 100000
theorem rs256_buf (n : Nat) (l : List Int) : seeV 66 ((funcL Tryd.prog qS hR3 (pdΛ32 (bkΛ32 fun _ _ => none)) 200 14 (cArgs 0 [.pl (.int false .i64 256), .buf true .u8 n l]) (cMem [.pl (.int false .i64 256), .buf true .u8 n l])).go []) =
    some ([decide (0 + n ≤ n), decide (1 ≤ n) && decide (n ≤ 1000000000), decide (0 + n ≤ (((l.drop 0).take n)).length), decide (n + 1 ≤ 1000000000)] ++ [decide (((((l.drop 0).take n).drop 0).take n ++ [128]).length = (n + 1)), decide (1 ≤ (n + 1)), decide ((n + 1) ≤ 500000000), true] ++ [decide (0 + ((n + 1) + padZ 64 ((n + 1) - 1)) ≤ (((((l.drop 0).take n).drop 0).take n ++ [128]) ++ List.replicate (padZ 64 ((n + 1) - 1)) 0).length), decide ((((n + 1) + padZ 64 ((n + 1) - 1)) + 8) ≤ 1000000000)] ++ [decide ((((n + 1) + padZ 64 ((n + 1) - 1)) + 8) < 9223372036854775808)] ++ [decide (n < 9223372036854775808)] ++ rsO (((n + 1) + padZ 64 ((n + 1) - 1)) + 8) (((((n + 1) + padZ 64 ((n + 1) - 1)) + 8) : Nat) : Int) (bitsR ((n : Nat) : Int)) ((((((((l.drop 0).take n).drop 0).take n ++ [128]) ++ List.replicate (padZ 64 ((n + 1) - 1)) 0).drop 0).take ((n + 1) + padZ 64 ((n + 1) - 1))) ++ List.replicate 8 0) 8 ++ [decide ((0 : Int) = 0), decide ((((((n + 1) + padZ 64 ((n + 1) - 1)) + 8) : Nat) : Int) = (((((n + 1) + padZ 64 ((n + 1) - 1)) + 8) : Nat) : Int)), decide ((rsL (((((n + 1) + padZ 64 ((n + 1) - 1)) + 8) : Nat) : Int) (bitsR ((n : Nat) : Int)) ((((((((l.drop 0).take n).drop 0).take n ++ [128]) ++ List.replicate (padZ 64 ((n + 1) - 1)) 0).drop 0).take ((n + 1) + padZ 64 ((n + 1) - 1))) ++ List.replicate 8 0) 8).length = (((n + 1) + padZ 64 ((n + 1) - 1)) + 8)), decide ((((n + 1) + padZ 64 ((n + 1) - 1)) + 8) ≤ 1000000000), decide ((((n + 1) + padZ 64 ((n + 1) - 1)) + 8) % 64 = 0), decide (beg256.length = 8), all32 beg256],
      .slice false 66 0 32 none 1, some (some ⟨true, .ints .u8 (some 32) (toldL 32 4 (foldB 32 64 64 beg256 (rsL (((((n + 1) + padZ 64 ((n + 1) - 1)) + 8) : Nat) : Int) (bitsR ((n : Nat) : Int)) ((((((((l.drop 0).take n).drop 0).take n ++ [128]) ++ List.replicate (padZ 64 ((n + 1) - 1)) 0).drop 0).take ((n + 1) + padZ 64 ((n + 1) - 1))) ++ List.replicate 8 0) 8) ((((n + 1) + padZ 64 ((n + 1) - 1)) + 8) / 64)))⟩)) := by kernel_rfl
end Go.Proofs.YtjhjhhibfojpiaaDoor
namespace Go.Proofs.YtjhjhhibfojpiaaDoor
variable [Go.Ev.RowTab]
open Go.Ev Go.Sh
set_option maxRecDepth 100000
theorem rs256_nil : seeV 66 ((funcL Tryd.prog qS hR3 (pdΛ32 (bkΛ32 fun _ _ => none)) 200 14 (cArgs 0 [.pl (.int false .i64 256), .pl .nilslice]) (cMem [.pl (.int false .i64 256), .pl .nilslice])).go []) =
    some ([decide (([128] : List Int).length = 1), decide (1 ≤ 1), decide (1 ≤ 500000000), true] ++ [decide (0 + (1 + padZ 64 (1 - 1)) ≤ (([128] : List Int) ++ List.replicate (padZ 64 (1 - 1)) 0).length), decide (((1 + padZ 64 (1 - 1)) + 8) ≤ 1000000000)] ++ [decide (((1 + padZ 64 (1 - 1)) + 8) < 9223372036854775808)] ++ rsO ((1 + padZ 64 (1 - 1)) + 8) ((((1 + padZ 64 (1 - 1)) + 8) : Nat) : Int) (bitsR ((0 : Nat) : Int)) ((((([128] : List Int) ++ List.replicate (padZ 64 (1 - 1)) 0).drop 0).take (1 + padZ 64 (1 - 1))) ++ List.replicate 8 0) 8 ++ [decide ((0 : Int) = 0), decide (((((1 + padZ 64 (1 - 1)) + 8) : Nat) : Int) = ((((1 + padZ 64 (1 - 1)) + 8) : Nat) : Int)), decide ((rsL ((((1 + padZ 64 (1 - 1)) + 8) : Nat) : Int) (bitsR ((0 : Nat) : Int)) ((((([128] : List Int) ++ List.replicate (padZ 64 (1 - 1)) 0).drop 0).take (1 + padZ 64 (1 - 1))) ++ List.replicate 8 0) 8).length = ((1 + padZ 64 (1 - 1)) + 8)), decide (((1 + padZ 64 (1 - 1)) + 8) ≤ 1000000000), decide (((1 + padZ 64 (1 - 1)) + 8) % 64 = 0), decide (beg256.length = 8), all32 beg256],
      .slice false 66 0 32 none 1, some (some ⟨true, .ints .u8 (some 32) (toldL 32 4 (foldB 32 64 64 beg256 (rsL ((((1 + padZ 64 (1 - 1)) + 8) : Nat) : Int) (bitsR ((0 : Nat) : Int)) ((((([128] : List Int) ++ List.replicate (padZ 64 (1 - 1)) 0).drop 0).take (1 + padZ 64 (1 - 1))) ++ List.replicate 8 0) 8) (((1 + padZ 64 (1 - 1)) + 8) / 64)))⟩)) := by kernel_rfl
end Go.Proofs.YtjhjhhibfojpiaaDoor
namespace Go.Proofs.YtjhjhhibfojpiaaDoor
variable [Go.Ev.RowTab]
open Go.Ev Go.Sh
set_option maxRecDepth 100000
theorem rs256_emp : seeV 66 ((funcL Tryd.prog qS hR3 (pdΛ32 (bkΛ32 fun _ _ => none)) 200 14 (cArgs 0 [.pl (.int false .i64 256), .empty]) (cMem [.pl (.int false .i64 256), .empty])).go []) =
    some ([decide (([128] : List Int).length = 1), decide (1 ≤ 1), decide (1 ≤ 500000000), true] ++ [decide (0 + (1 + padZ 64 (1 - 1)) ≤ (([128] : List Int) ++ List.replicate (padZ 64 (1 - 1)) 0).length), decide (((1 + padZ 64 (1 - 1)) + 8) ≤ 1000000000)] ++ [decide (((1 + padZ 64 (1 - 1)) + 8) < 9223372036854775808)] ++ rsO ((1 + padZ 64 (1 - 1)) + 8) ((((1 + padZ 64 (1 - 1)) + 8) : Nat) : Int) (bitsR ((0 : Nat) : Int)) ((((([128] : List Int) ++ List.replicate (padZ 64 (1 - 1)) 0).drop 0).take (1 + padZ 64 (1 - 1))) ++ List.replicate 8 0) 8 ++ [decide ((0 : Int) = 0), decide (((((1 + padZ 64 (1 - 1)) + 8) : Nat) : Int) = ((((1 + padZ 64 (1 - 1)) + 8) : Nat) : Int)), decide ((rsL ((((1 + padZ 64 (1 - 1)) + 8) : Nat) : Int) (bitsR ((0 : Nat) : Int)) ((((([128] : List Int) ++ List.replicate (padZ 64 (1 - 1)) 0).drop 0).take (1 + padZ 64 (1 - 1))) ++ List.replicate 8 0) 8).length = ((1 + padZ 64 (1 - 1)) + 8)), decide (((1 + padZ 64 (1 - 1)) + 8) ≤ 1000000000), decide (((1 + padZ 64 (1 - 1)) + 8) % 64 = 0), decide (beg256.length = 8), all32 beg256],
      .slice false 66 0 32 none 1, some (some ⟨true, .ints .u8 (some 32) (toldL 32 4 (foldB 32 64 64 beg256 (rsL ((((1 + padZ 64 (1 - 1)) + 8) : Nat) : Int) (bitsR ((0 : Nat) : Int)) ((((([128] : List Int) ++ List.replicate (padZ 64 (1 - 1)) 0).drop 0).take (1 + padZ 64 (1 - 1))) ++ List.replicate 8 0) 8) (((1 + padZ 64 (1 - 1)) + 8) / 64)))⟩)) := by kernel_rfl
end Go.Proofs.YtjhjhhibfojpiaaDoor
namespace Go.Proofs.YtjhjhhibfojpiaaDoor
variable [Go.Ev.RowTab]
open Go.Ev Go.Sh
set_option maxRecDepth 100000
theorem rs384_buf (n : Nat) (l : List Int) : seeV 130 ((funcL Tryd.prog qS hR3 (pdΛ64 (bkΛ64 fun _ _ => none)) 200 14 (cArgs 0 [.pl (.int false .i64 384), .buf true .u8 n l]) (cMem [.pl (.int false .i64 384), .buf true .u8 n l])).go []) =
    some ([decide (0 + n ≤ n), decide (1 ≤ n) && decide (n ≤ 1000000000), decide (0 + n ≤ (((l.drop 0).take n)).length), decide (n + 1 ≤ 1000000000)] ++ [decide (((((l.drop 0).take n).drop 0).take n ++ [128]).length = (n + 1)), decide (1 ≤ (n + 1)), decide ((n + 1) ≤ 500000000), true] ++ [decide (0 + ((n + 1) + padZ 128 ((n + 1) - 1)) ≤ (((((l.drop 0).take n).drop 0).take n ++ [128]) ++ List.replicate (padZ 128 ((n + 1) - 1)) 0).length), decide ((((n + 1) + padZ 128 ((n + 1) - 1)) + 16) ≤ 1000000000)] ++ [decide ((((n + 1) + padZ 128 ((n + 1) - 1)) + 16) < 9223372036854775808)] ++ [decide (n < 9223372036854775808)] ++ rsO (((n + 1) + padZ 128 ((n + 1) - 1)) + 16) (((((n + 1) + padZ 128 ((n + 1) - 1)) + 16) : Nat) : Int) (bitsR ((n : Nat) : Int)) ((((((((l.drop 0).take n).drop 0).take n ++ [128]) ++ List.replicate (padZ 128 ((n + 1) - 1)) 0).drop 0).take ((n + 1) + padZ 128 ((n + 1) - 1))) ++ List.replicate 16 0) 8 ++ [decide ((0 : Int) = 0), decide ((((((n + 1) + padZ 128 ((n + 1) - 1)) + 16) : Nat) : Int) = (((((n + 1) + padZ 128 ((n + 1) - 1)) + 16) : Nat) : Int)), decide ((rsL (((((n + 1) + padZ 128 ((n + 1) - 1)) + 16) : Nat) : Int) (bitsR ((n : Nat) : Int)) ((((((((l.drop 0).take n).drop 0).take n ++ [128]) ++ List.replicate (padZ 128 ((n + 1) - 1)) 0).drop 0).take ((n + 1) + padZ 128 ((n + 1) - 1))) ++ List.replicate 16 0) 8).length = (((n + 1) + padZ 128 ((n + 1) - 1)) + 16)), decide ((((n + 1) + padZ 128 ((n + 1) - 1)) + 16) ≤ 1000000000), decide ((((n + 1) + padZ 128 ((n + 1) - 1)) + 16) % 128 = 0), decide (beg384.length = 8), all64 beg384],
      .slice false 130 0 48 none 1, some (some ⟨true, .ints .u8 (some 64) (toldL 64 8 (foldB 64 80 128 beg384 (rsL (((((n + 1) + padZ 128 ((n + 1) - 1)) + 16) : Nat) : Int) (bitsR ((n : Nat) : Int)) ((((((((l.drop 0).take n).drop 0).take n ++ [128]) ++ List.replicate (padZ 128 ((n + 1) - 1)) 0).drop 0).take ((n + 1) + padZ 128 ((n + 1) - 1))) ++ List.replicate 16 0) 8) ((((n + 1) + padZ 128 ((n + 1) - 1)) + 16) / 128)))⟩)) := by kernel_rfl
end Go.Proofs.YtjhjhhibfojpiaaDoor
