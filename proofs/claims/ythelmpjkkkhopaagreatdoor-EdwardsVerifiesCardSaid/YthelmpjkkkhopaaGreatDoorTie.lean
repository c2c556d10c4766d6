/-
  DERIVED. GIVEN WITH THE SEED: THE PROGRAM's TIES (one call each: nine closed facts by the kernel) AND EACH ROW's TIE, after the 31st guide's Derived/Test/Toyas{Tie, Card}.lean. No idea stands in it: it is a product of the set-up. Laid BY PROGRAM, IN A SANDBOX (cutbox-door.mjs). By AI agents, Wed Nov 11 2026. No macro, syntax, notation, axiom, sorry.
-/
import Derived.Test.YthelmpjkkkhopaaGreatDoorRows
import Derived.LaidByTextLater
import Derived.SevenTiedAt
import Derived.LaidSub
import Derived.LaidOnce
namespace Go.Proofs.YthelmpjkkkhopaaGreatDoor
open Go
set_option maxRecDepth 100000
theorem seatTie1 : Tryz.prog.laidByTextLater [("cartouche/sha2.cubeRoots", Rows.laid_cartouche_sha2_cubeRoots), ("cartouche/sha2.squareRoots", Rows.laid_cartouche_sha2_squareRoots), ("cartouche/edwards.prime", Rows.laid_cartouche_edwards_prime), ("cartouche/edwards.order", Rows.laid_cartouche_edwards_order), ("cartouche/edwards.d", Rows.laid_cartouche_edwards_d), ("cartouche/edwards.twiceD", Rows.laid_cartouche_edwards_twiceD), ("cartouche/edwards.eighth", Rows.laid_cartouche_edwards_eighth), ("cartouche/edwards.imaginary", Rows.laid_cartouche_edwards_imaginary), ("cartouche/edwards.base", Rows.laid_cartouche_edwards_base)] [.data, .data, .data, .data, .data, .data, .data, .data, .data] true :=
  Program.laidByTextLater_by_one 58 8 81 (by kernel_rfl) (by kernel_rfl) (by kernel_rfl) (by kernel_rfl) (by kernel_rfl) (by kernel_rfl) (fun _ _ => by kernel_rfl)
theorem noOwnUnsafe : Tryz.pinned.checked.prog.headLifts.contains "ownunsafe" = false := by kernel_rfl
theorem tie : Tryz.prog.laidByTextLater [("cartouche/sha2.cubeRoots", Rows.laid_cartouche_sha2_cubeRoots), ("cartouche/sha2.squareRoots", Rows.laid_cartouche_sha2_squareRoots), ("cartouche/edwards.prime", Rows.laid_cartouche_edwards_prime), ("cartouche/edwards.order", Rows.laid_cartouche_edwards_order), ("cartouche/edwards.d", Rows.laid_cartouche_edwards_d), ("cartouche/edwards.twiceD", Rows.laid_cartouche_edwards_twiceD), ("cartouche/edwards.eighth", Rows.laid_cartouche_edwards_eighth), ("cartouche/edwards.imaginary", Rows.laid_cartouche_edwards_imaginary), ("cartouche/edwards.base", Rows.laid_cartouche_edwards_base)] [.data, .data, .data, .data, .data, .data, .data, .data, .data] true :=
  Program.laidByTextLater.sub seatTie1 ["cartouche/sha2.cubeRoots", "cartouche/sha2.squareRoots", "cartouche/edwards.prime", "cartouche/edwards.order", "cartouche/edwards.d", "cartouche/edwards.twiceD", "cartouche/edwards.eighth", "cartouche/edwards.imaginary", "cartouche/edwards.base"] (by kernel_rfl) (by kernel_rfl)
theorem edwardsSigns_row_tie : Rows.edwardsSignsRow.laidByTextAt .later Tryz.pinned [.data, .data, .data, .data, .data, .data, .data, .data, .data] true :=
  OpenClaim.laidByTextAt_later rfl rfl tie noOwnUnsafe
theorem edwardsVerifies_row_tie : Rows.edwardsVerifiesRow.laidByTextAt .later Tryz.pinned [.data, .data, .data, .data, .data, .data, .data, .data, .data] true :=
  OpenClaim.laidByTextAt_later rfl rfl tie noOwnUnsafe
theorem edwardsSignsUpto_row_tie : Rows.edwardsSignsUptoRow.laidByTextAt .later Tryz.pinned [.data, .data, .data, .data, .data, .data, .data, .data, .data] true :=
  OpenClaim.laidByTextAt_later rfl rfl tie noOwnUnsafe
theorem edwardsVerifiesUpto_row_tie : Rows.edwardsVerifiesUptoRow.laidByTextAt .later Tryz.pinned [.data, .data, .data, .data, .data, .data, .data, .data, .data] true :=
  OpenClaim.laidByTextAt_later rfl rfl tie noOwnUnsafe
end Go.Proofs.YthelmpjkkkhopaaGreatDoor
