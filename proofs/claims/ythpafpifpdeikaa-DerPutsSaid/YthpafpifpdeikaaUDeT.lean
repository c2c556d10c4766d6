/- The reference's Put, and Get with any element: contracts. Own work. -/
import Derived.Test.YthpafpifpdeikaaUDeS
set_option linter.unusedSimpArgs false
set_option linter.unusedVariables false
set_option linter.unusedSectionVars false
namespace Go.De
end Go.De
namespace Go.Proofs.Ythpafpifpdeikaa
open Go.Ev Go.De
set_option maxRecDepth 100000
set_option linter.unusedSimpArgs false
set_option linter.unusedVariables false
variable [Tab]
def rp1D (t : Int) (N : Nat) (l : List Int) : List Bool := [decide ((N : Nat) < 9223372036854775808), (!decide ((((N : Nat) : Int) : Int) > 65535)), (!decide ((((N : Nat) : Int) : Int) > 255)), (!decide ((((N : Nat) : Int) : Int) > 127)), decide (((0 + N) : Nat) ≤ N), decide (((2 + N) : Nat) ≤ 1000000000)]
theorem rp1_eval (t : Int) (N : Nat) (l : List Int) : seeV 5 ((funcL Try.prog qA n0 (fun _ _ => none) 100 13 (cArgs 0 [.pl (.int true .u8 t), .buf true .u8 N l]) (cMem [.pl (.int true .u8 t), .buf true .u8 N l])).go [false, false, false]) = some (rp1D t N l, .slice true 5 0 (2 + N) none 1, some (some ⟨true, .ints .u8 none (([t] ++ [IntKind.wrap .u8 ((N : Nat) : Int)]) ++ List.take N (List.drop 0 l))⟩)) := by kernel_rfl
theorem rp1_call {t : Int} {N : Nat} {l : List Int} (hl : l.length = N) (hN : N ≤ 60000) (hk : N < 128) :
    ViewCall Try.prog 13 [.pl (.int true .u8 t), .buf true .u8 N l] (.slice true 0 0 (putB t l).length none 1) [some ⟨true, .ints .u8 none (putB t l)⟩] := by
  have hT : List.take N (List.drop 0 l) = l := by rw [List.drop_zero]; exact List.take_of_length_le (by omega)
  have hC : putB t l = t :: (lenB N ++ l) := by unfold putB; rw [hl]
  rw [lenB_1 hk] at hC
  have hlen : 2 + N = (putB t l).length := by rw [hC]; simp only [List.length_cons, List.length_append, List.length_nil]; omega
  have ev := rp1_eval t N l
  rw [hT, lenw1 (by omega), hlen] at ev
  rw [hC] at ev ⊢
  refine @viewN_one _ _ _ _ _ mixed noCount n0_ok _ _ _ (fun _ _ _ _ => LOkN.none) _ _ _ _ _ _ [false, false, false] 5 ev ?_ (by show 2 ≤ 5; decide) rfl rfl
  clear ev hlen
  unfold rp1D
  try simp only [List.length_append, List.length_cons, List.length_nil]
  refine paid_cons ?_ (paid_cons ?_ (paid_cons ?_ (paid_cons ?_ (paid_cons ?_ (paid_cons ?_ (fun _ h => by cases h))))))
  all_goals (try simp only [Bool.and_eq_true, Bool.or_eq_true, Bool.not_eq_true', Bool.not_true, Bool.not_false, Bool.not_eq_eq_eq_not, decide_eq_true_eq, decide_eq_false_iff_not, beq_iff_eq, beq_eq_false_iff_ne, bne_iff_ne, bne_eq_false_iff_eq, ne_eq, Bool.or_eq_false_iff, Bool.and_eq_false_imp, Bool.and_true, Bool.true_and, Bool.or_false, Bool.false_or, Bool.or_true, Bool.true_or, Bool.and_false, Bool.false_and, and_true, true_and, not_true_eq_false, not_false_eq_true, List.length_cons, List.length_nil, List.length_append, Nat.add_zero, Nat.zero_add]) <;> omega
def rp2D (t : Int) (N : Nat) (l : List Int) : List Bool := [decide ((N : Nat) < 9223372036854775808), (!decide ((((N : Nat) : Int) : Int) > 65535)), (!decide ((((N : Nat) : Int) : Int) > 255)), decide ((((N : Nat) : Int) : Int) > 127), decide (((0 + N) : Nat) ≤ N), decide (((3 + N) : Nat) ≤ 1000000000)]
theorem rp2_eval (t : Int) (N : Nat) (l : List Int) : seeV 5 ((funcL Try.prog qA n0 (fun _ _ => none) 100 13 (cArgs 0 [.pl (.int true .u8 t), .buf true .u8 N l]) (cMem [.pl (.int true .u8 t), .buf true .u8 N l])).go [false, false, true]) = some (rp2D t N l, .slice true 5 0 (3 + N) none 1, some (some ⟨true, .ints .u8 none (([t] ++ [129, IntKind.wrap .u8 ((N : Nat) : Int)]) ++ List.take N (List.drop 0 l))⟩)) := by kernel_rfl
theorem rp2_call {t : Int} {N : Nat} {l : List Int} (hl : l.length = N) (hN : N ≤ 60000) (hk : ¬ N < 128) (hk2 : N < 256) :
    ViewCall Try.prog 13 [.pl (.int true .u8 t), .buf true .u8 N l] (.slice true 0 0 (putB t l).length none 1) [some ⟨true, .ints .u8 none (putB t l)⟩] := by
  have hT : List.take N (List.drop 0 l) = l := by rw [List.drop_zero]; exact List.take_of_length_le (by omega)
  have hC : putB t l = t :: (lenB N ++ l) := by unfold putB; rw [hl]
  rw [lenB_2 hk hk2] at hC
  have hlen : 3 + N = (putB t l).length := by rw [hC]; simp only [List.length_cons, List.length_append, List.length_nil]; omega
  have ev := rp2_eval t N l
  rw [hT, lenw1 (by omega), hlen] at ev
  rw [hC] at ev ⊢
  refine @viewN_one _ _ _ _ _ mixed noCount n0_ok _ _ _ (fun _ _ _ _ => LOkN.none) _ _ _ _ _ _ [false, false, true] 5 ev ?_ (by show 2 ≤ 5; decide) rfl rfl
  clear ev hlen
  unfold rp2D
  try simp only [List.length_append, List.length_cons, List.length_nil]
  refine paid_cons ?_ (paid_cons ?_ (paid_cons ?_ (paid_cons ?_ (paid_cons ?_ (paid_cons ?_ (fun _ h => by cases h))))))
  all_goals (try simp only [Bool.and_eq_true, Bool.or_eq_true, Bool.not_eq_true', Bool.not_true, Bool.not_false, Bool.not_eq_eq_eq_not, decide_eq_true_eq, decide_eq_false_iff_not, beq_iff_eq, beq_eq_false_iff_ne, bne_iff_ne, bne_eq_false_iff_eq, ne_eq, Bool.or_eq_false_iff, Bool.and_eq_false_imp, Bool.and_true, Bool.true_and, Bool.or_false, Bool.false_or, Bool.or_true, Bool.true_or, Bool.and_false, Bool.false_and, and_true, true_and, not_true_eq_false, not_false_eq_true, List.length_cons, List.length_nil, List.length_append, Nat.add_zero, Nat.zero_add]) <;> omega
def rp3D (t : Int) (N : Nat) (l : List Int) : List Bool := [decide ((N : Nat) < 9223372036854775808), (!decide ((((N : Nat) : Int) : Int) > 65535)), decide ((((N : Nat) : Int) : Int) > 255), decide (((0 + N) : Nat) ≤ N), decide (((4 + N) : Nat) ≤ 1000000000)]
theorem rp3_eval (t : Int) (N : Nat) (l : List Int) : seeV 5 ((funcL Try.prog qA n0 (fun _ _ => none) 100 13 (cArgs 0 [.pl (.int true .u8 t), .buf true .u8 N l]) (cMem [.pl (.int true .u8 t), .buf true .u8 N l])).go [false, true]) = some (rp3D t N l, .slice true 5 0 (4 + N) none 1, some (some ⟨true, .ints .u8 none (([t] ++ [130, IntKind.wrap .u8 (IntKind.wrap .i64 (Int.tdiv ((N : Nat) : Int) 256)), IntKind.wrap .u8 (Int.tmod ((N : Nat) : Int) 256)]) ++ List.take N (List.drop 0 l))⟩)) := by kernel_rfl
theorem mark2 {ρ : Nat → Loc3} {N : Nat → Prop} {s s2 : Bool} {k : IntKind} {t : Int} {n len : Nat} {vs : List Value} (h : Reps ρ N [.int s2 k t, .slice s n 0 len none 1] vs) : Reps ρ N [.int true k t, .slice true n 0 len none 1] vs := by
  cases h with
  | cons _ _ v0 vs0 h0 hs0 => exact .cons _ _ _ _ ((LeS.int s2 true k t).rep h0) (mark1 hs0)
end Go.Proofs.Ythpafpifpdeikaa
