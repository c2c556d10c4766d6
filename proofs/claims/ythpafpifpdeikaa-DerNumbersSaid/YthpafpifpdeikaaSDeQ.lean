/- Natural's contract: an INTEGER of bytes. Own work. -/
import Derived.Test.YthpafpifpdeikaaSDeP
set_option linter.unusedSimpArgs false
set_option linter.unusedVariables false
set_option linter.unusedSectionVars false
namespace Go.Proofs.Ythpafpifpdeikaa
open Go.Ev Go.De
set_option maxRecDepth 100000
set_option linter.unusedSimpArgs false
set_option linter.unusedVariables false
variable [Tab]
def naA1D (N : Nat) (l : List Int) : List Bool := [decide ((N : Nat) = N), decide (((List.length l) : Nat) = N), decide ((N : Nat) < 1000000000000), decide (((N - (zer l)) : Nat) < 9223372036854775808), (!(!((((N - (zer l)) : Nat) : Int) == 0))), (!(!((((N - (zer l)) : Nat) : Int) == 0))), (!(!((((N - (zer l)) : Nat) : Int) == 0))), (!(!((((N - (zer l)) : Nat) : Int) == 0))), ((((N - (zer l)) : Nat) : Int) == 0), decide (((N - (zer l)) : Nat) < 9223372036854775808), (!decide (((((N - (zer l)) : Nat) : Int) : Int) > 65534)), decide (((N - (zer l)) : Nat) < 9223372036854775808), decide (((IntKind.wrap .i64 (1 + (((N - (zer l)) : Nat) : Int))) : Int) < 128), decide ((((zer l) + (N - (zer l))) : Nat) ≤ N), decide (((3 + (N - (zer l))) : Nat) ≤ 1000000000)]
theorem naA1_eval (N : Nat) (l : List Int) : seeV 7 ((funcL Try.prog (qX [9, 10, 11, 12] []) (wzH (putH 1 [false, false] n0)) (fun _ _ => none) 100 25 (cArgs 0 [.buf true .u8 N l]) (cMem [.buf true .u8 N l])).go []) = some (naA1D N l, .slice true 7 0 (3 + (N - zer l)) none 1, some (some ⟨true, .ints .u8 none ((([2] ++ [IntKind.wrap .u8 (IntKind.wrap .i64 (1 + ((N - zer l : Nat) : Int)))]) ++ [0]) ++ List.take (N - zer l) (List.drop (zer l) l))⟩)) := by kernel_rfl
theorem naA1_call {N : Nat} {l : List Int} (hl : l.length = N) (hr : ∀ x ∈ l, inR .u8 x = true) (hN : N ≤ 60000) (hc : zer l = N) (hk : (natB l).length < 128) :
    ViewCall Try.prog 25 [.buf true .u8 N l] (.slice true 0 0 (natC l).length none 1) [some ⟨true, .ints .u8 none (natC l)⟩] := by
  have hle := zer_le l
  have hbz := u8_at hr (zer l)
  have hT : List.take (N - zer l) (List.drop (zer l) l) = tz l := List.take_of_length_le (by simp only [List.length_drop]; omega)
  have hTl := tz_len l
  have hB := natB_0 (l := l) (Or.inl (by omega))
  have hn : (natB l).length = N - zer l + 1 := by rw [hB]; simp only [List.length_cons]; omega
  have w : IntKind.wrap .i64 (1 + ((N - zer l : Nat) : Int)) = (((natB l).length : Nat) : Int) := by rw [Go.De.wrap64]; omega
  have hC : natC l = 2 :: (lenB (natB l).length ++ natB l) := rfl
  rw [lenB_1 hk] at hC
  have hlen : (3 + (N - zer l)) = (natC l).length := by rw [hC]; simp only [List.length_cons, List.length_append, List.length_nil]; omega
  have ev := naA1_eval N l
  have hblk : (([2] ++ [IntKind.wrap .u8 (IntKind.wrap .i64 (1 + ((N - zer l : Nat) : Int)))]) ++ [0]) ++ List.take (N - zer l) (List.drop (zer l) l) = natC l := by
    rw [hT, w, hC, hB]
    simp only [wrapB, ishr8, List.cons_append, List.nil_append, List.cons.injEq, true_and, and_true]
    rw [← hB]
    omega
  rw [hblk, hlen] at ev
  refine @viewN_one _ _ _ _ _ mixed noCount (wzH_ok (putH_ok n0_ok 1 _)) _ _ _ (fun _ _ _ _ => LOkN.none) _ _ _ _ _ _ [] 7 ev ?_ (by show 1 ≤ 7; decide) rfl rfl
  unfold naA1D
  simp only [hT, w, hTl, hl, List.length_append, List.length_cons, List.length_nil, Nat.add_zero, Nat.zero_add]
  refine paid_cons ?_ (paid_cons ?_ (paid_cons ?_ (paid_cons ?_ (paid_cons ?_ (paid_cons ?_ (paid_cons ?_ (paid_cons ?_ (paid_cons ?_ (paid_cons ?_ (paid_cons ?_ (paid_cons ?_ (paid_cons ?_ (paid_cons ?_ (paid_cons ?_ (fun _ h => by cases h)))))))))))))))
  all_goals (try simp only [Bool.and_eq_true, Bool.or_eq_true, Bool.not_eq_true', Bool.not_true, Bool.not_false, Bool.not_eq_eq_eq_not, decide_eq_true_eq, decide_eq_false_iff_not, beq_iff_eq, beq_eq_false_iff_ne, bne_iff_ne, bne_eq_false_iff_eq, ne_eq, Bool.or_eq_false_iff, Bool.and_eq_false_imp, Bool.and_true, Bool.true_and, Bool.or_false, Bool.false_or, Bool.or_true, Bool.true_or, Bool.and_false, Bool.false_and, and_true, true_and, not_true_eq_false, not_false_eq_true, List.length_cons, List.length_nil, List.length_append, hTl, hl, Nat.add_zero, Nat.zero_add]) <;> omega
def naB1D (N : Nat) (l : List Int) : List Bool := [decide ((N : Nat) = N), decide (((List.length l) : Nat) = N), decide ((N : Nat) < 1000000000000), decide (((N - (zer l)) : Nat) < 9223372036854775808), (!((((N - (zer l)) : Nat) : Int) == 0)), (!((((N - (zer l)) : Nat) : Int) == 0)), (decide ((0 : Int) ≤ 0) && decide ((0 : Int) < (((N - (zer l)) : Nat) : Int))), (!((((N - (zer l)) : Nat) : Int) == 0)), decide (((((zer l) + 0) + 1) : Nat) ≤ N), (!((((N - (zer l)) : Nat) : Int) == 0)), (!((((N - (zer l)) : Nat) : Int) == 0)), decide (((List.getD l ((zer l) + 0) 0) : Int) ≥ 128), decide (((N - (zer l)) : Nat) < 9223372036854775808), (!decide (((((N - (zer l)) : Nat) : Int) : Int) > 65534)), decide (((N - (zer l)) : Nat) < 9223372036854775808), decide (((IntKind.wrap .i64 (1 + (((N - (zer l)) : Nat) : Int))) : Int) < 128), decide ((((zer l) + (N - (zer l))) : Nat) ≤ N), decide (((3 + (N - (zer l))) : Nat) ≤ 1000000000)]
theorem naB1_eval (N : Nat) (l : List Int) : seeV 7 ((funcL Try.prog qA (wzH (putH 1 [false, false] n0)) (fun _ _ => none) 100 25 (cArgs 0 [.buf true .u8 N l]) (cMem [.buf true .u8 N l])).go [true]) = some (naB1D N l, .slice true 7 0 (3 + (N - zer l)) none 1, some (some ⟨true, .ints .u8 none ((([2] ++ [IntKind.wrap .u8 (IntKind.wrap .i64 (1 + ((N - zer l : Nat) : Int)))]) ++ [0]) ++ List.take (N - zer l) (List.drop (zer l) l))⟩)) := by kernel_rfl
theorem naB1_call {N : Nat} {l : List Int} (hl : l.length = N) (hr : ∀ x ∈ l, inR .u8 x = true) (hN : N ≤ 60000) (hz : zer l < N) (hc : 128 ≤ l.getD (zer l) 0) (hk : (natB l).length < 128) :
    ViewCall Try.prog 25 [.buf true .u8 N l] (.slice true 0 0 (natC l).length none 1) [some ⟨true, .ints .u8 none (natC l)⟩] := by
  have hle := zer_le l
  have hbz := u8_at hr (zer l)
  have hT : List.take (N - zer l) (List.drop (zer l) l) = tz l := List.take_of_length_le (by simp only [List.length_drop]; omega)
  have hTl := tz_len l
  have hB := natB_0 (l := l) (Or.inr hc)
  have hn : (natB l).length = N - zer l + 1 := by rw [hB]; simp only [List.length_cons]; omega
  have w : IntKind.wrap .i64 (1 + ((N - zer l : Nat) : Int)) = (((natB l).length : Nat) : Int) := by rw [Go.De.wrap64]; omega
  have hC : natC l = 2 :: (lenB (natB l).length ++ natB l) := rfl
  rw [lenB_1 hk] at hC
  have hlen : (3 + (N - zer l)) = (natC l).length := by rw [hC]; simp only [List.length_cons, List.length_append, List.length_nil]; omega
  have ev := naB1_eval N l
  have hblk : (([2] ++ [IntKind.wrap .u8 (IntKind.wrap .i64 (1 + ((N - zer l : Nat) : Int)))]) ++ [0]) ++ List.take (N - zer l) (List.drop (zer l) l) = natC l := by
    rw [hT, w, hC, hB]
    simp only [wrapB, ishr8, List.cons_append, List.nil_append, List.cons.injEq, true_and, and_true]
    rw [← hB]
    omega
  rw [hblk, hlen] at ev
  refine @viewN_one _ _ _ _ _ mixed noCount (wzH_ok (putH_ok n0_ok 1 _)) _ _ _ (fun _ _ _ _ => LOkN.none) _ _ _ _ _ _ [true] 7 ev ?_ (by show 1 ≤ 7; decide) rfl rfl
  unfold naB1D
  simp only [hT, w, hTl, hl, List.length_append, List.length_cons, List.length_nil, Nat.add_zero, Nat.zero_add]
  refine paid_cons ?_ (paid_cons ?_ (paid_cons ?_ (paid_cons ?_ (paid_cons ?_ (paid_cons ?_ (paid_cons ?_ (paid_cons ?_ (paid_cons ?_ (paid_cons ?_ (paid_cons ?_ (paid_cons ?_ (paid_cons ?_ (paid_cons ?_ (paid_cons ?_ (paid_cons ?_ (paid_cons ?_ (paid_cons ?_ (fun _ h => by cases h))))))))))))))))))
  all_goals (try simp only [Bool.and_eq_true, Bool.or_eq_true, Bool.not_eq_true', Bool.not_true, Bool.not_false, Bool.not_eq_eq_eq_not, decide_eq_true_eq, decide_eq_false_iff_not, beq_iff_eq, beq_eq_false_iff_ne, bne_iff_ne, bne_eq_false_iff_eq, ne_eq, Bool.or_eq_false_iff, Bool.and_eq_false_imp, Bool.and_true, Bool.true_and, Bool.or_false, Bool.false_or, Bool.or_true, Bool.true_or, Bool.and_false, Bool.false_and, and_true, true_and, not_true_eq_false, not_false_eq_true, List.length_cons, List.length_nil, List.length_append, hTl, hl, Nat.add_zero, Nat.zero_add]) <;> omega
def naB2D (N : Nat) (l : List Int) : List Bool := [decide ((N : Nat) = N), decide (((List.length l) : Nat) = N), decide ((N : Nat) < 1000000000000), decide (((N - (zer l)) : Nat) < 9223372036854775808), (!((((N - (zer l)) : Nat) : Int) == 0)), (!((((N - (zer l)) : Nat) : Int) == 0)), (decide ((0 : Int) ≤ 0) && decide ((0 : Int) < (((N - (zer l)) : Nat) : Int))), (!((((N - (zer l)) : Nat) : Int) == 0)), decide (((((zer l) + 0) + 1) : Nat) ≤ N), (!((((N - (zer l)) : Nat) : Int) == 0)), (!((((N - (zer l)) : Nat) : Int) == 0)), decide (((List.getD l ((zer l) + 0) 0) : Int) ≥ 128), decide (((N - (zer l)) : Nat) < 9223372036854775808), (!decide (((((N - (zer l)) : Nat) : Int) : Int) > 65534)), decide (((N - (zer l)) : Nat) < 9223372036854775808), (!decide (((IntKind.wrap .i64 (1 + (((N - (zer l)) : Nat) : Int))) : Int) < 128)), decide (((IntKind.wrap .i64 (1 + (((N - (zer l)) : Nat) : Int))) : Int) < 256), decide ((((zer l) + (N - (zer l))) : Nat) ≤ N), decide (((4 + (N - (zer l))) : Nat) ≤ 1000000000)]
theorem naB2_eval (N : Nat) (l : List Int) : seeV 7 ((funcL Try.prog qA (wzH (putH 2 [false, false] n0)) (fun _ _ => none) 100 25 (cArgs 0 [.buf true .u8 N l]) (cMem [.buf true .u8 N l])).go [true]) = some (naB2D N l, .slice true 7 0 (4 + (N - zer l)) none 1, some (some ⟨true, .ints .u8 none ((([2] ++ [129, IntKind.wrap .u8 (IntKind.wrap .i64 (1 + ((N - zer l : Nat) : Int)))]) ++ [0]) ++ List.take (N - zer l) (List.drop (zer l) l))⟩)) := by kernel_rfl
theorem naB2_call {N : Nat} {l : List Int} (hl : l.length = N) (hr : ∀ x ∈ l, inR .u8 x = true) (hN : N ≤ 60000) (hz : zer l < N) (hc : 128 ≤ l.getD (zer l) 0) (hk : ¬ (natB l).length < 128) (hk2 : (natB l).length < 256) :
    ViewCall Try.prog 25 [.buf true .u8 N l] (.slice true 0 0 (natC l).length none 1) [some ⟨true, .ints .u8 none (natC l)⟩] := by
  have hle := zer_le l
  have hbz := u8_at hr (zer l)
  have hT : List.take (N - zer l) (List.drop (zer l) l) = tz l := List.take_of_length_le (by simp only [List.length_drop]; omega)
  have hTl := tz_len l
  have hB := natB_0 (l := l) (Or.inr hc)
  have hn : (natB l).length = N - zer l + 1 := by rw [hB]; simp only [List.length_cons]; omega
  have w : IntKind.wrap .i64 (1 + ((N - zer l : Nat) : Int)) = (((natB l).length : Nat) : Int) := by rw [Go.De.wrap64]; omega
  have hC : natC l = 2 :: (lenB (natB l).length ++ natB l) := rfl
  rw [lenB_2 hk hk2] at hC
  have hlen : (4 + (N - zer l)) = (natC l).length := by rw [hC]; simp only [List.length_cons, List.length_append, List.length_nil]; omega
  have ev := naB2_eval N l
  have hblk : (([2] ++ [129, IntKind.wrap .u8 (IntKind.wrap .i64 (1 + ((N - zer l : Nat) : Int)))]) ++ [0]) ++ List.take (N - zer l) (List.drop (zer l) l) = natC l := by
    rw [hT, w, hC, hB]
    simp only [wrapB, ishr8, List.cons_append, List.nil_append, List.cons.injEq, true_and, and_true]
    rw [← hB]
    omega
  rw [hblk, hlen] at ev
  refine @viewN_one _ _ _ _ _ mixed noCount (wzH_ok (putH_ok n0_ok 2 _)) _ _ _ (fun _ _ _ _ => LOkN.none) _ _ _ _ _ _ [true] 7 ev ?_ (by show 1 ≤ 7; decide) rfl rfl
  unfold naB2D
  simp only [hT, w, hTl, hl, List.length_append, List.length_cons, List.length_nil, Nat.add_zero, Nat.zero_add]
  refine paid_cons ?_ (paid_cons ?_ (paid_cons ?_ (paid_cons ?_ (paid_cons ?_ (paid_cons ?_ (paid_cons ?_ (paid_cons ?_ (paid_cons ?_ (paid_cons ?_ (paid_cons ?_ (paid_cons ?_ (paid_cons ?_ (paid_cons ?_ (paid_cons ?_ (paid_cons ?_ (paid_cons ?_ (paid_cons ?_ (paid_cons ?_ (fun _ h => by cases h)))))))))))))))))))
  all_goals (try simp only [Bool.and_eq_true, Bool.or_eq_true, Bool.not_eq_true', Bool.not_true, Bool.not_false, Bool.not_eq_eq_eq_not, decide_eq_true_eq, decide_eq_false_iff_not, beq_iff_eq, beq_eq_false_iff_ne, bne_iff_ne, bne_eq_false_iff_eq, ne_eq, Bool.or_eq_false_iff, Bool.and_eq_false_imp, Bool.and_true, Bool.true_and, Bool.or_false, Bool.false_or, Bool.or_true, Bool.true_or, Bool.and_false, Bool.false_and, and_true, true_and, not_true_eq_false, not_false_eq_true, List.length_cons, List.length_nil, List.length_append, hTl, hl, Nat.add_zero, Nat.zero_add]) <;> omega
def naB3D (N : Nat) (l : List Int) : List Bool := [decide ((N : Nat) = N), decide (((List.length l) : Nat) = N), decide ((N : Nat) < 1000000000000), decide (((N - (zer l)) : Nat) < 9223372036854775808), (!((((N - (zer l)) : Nat) : Int) == 0)), (!((((N - (zer l)) : Nat) : Int) == 0)), (decide ((0 : Int) ≤ 0) && decide ((0 : Int) < (((N - (zer l)) : Nat) : Int))), (!((((N - (zer l)) : Nat) : Int) == 0)), decide (((((zer l) + 0) + 1) : Nat) ≤ N), (!((((N - (zer l)) : Nat) : Int) == 0)), (!((((N - (zer l)) : Nat) : Int) == 0)), decide (((List.getD l ((zer l) + 0) 0) : Int) ≥ 128), decide (((N - (zer l)) : Nat) < 9223372036854775808), (!decide (((((N - (zer l)) : Nat) : Int) : Int) > 65534)), decide (((N - (zer l)) : Nat) < 9223372036854775808), (!decide (((IntKind.wrap .i64 (1 + (((N - (zer l)) : Nat) : Int))) : Int) < 128)), (!decide (((IntKind.wrap .i64 (1 + (((N - (zer l)) : Nat) : Int))) : Int) < 256)), decide ((((zer l) + (N - (zer l))) : Nat) ≤ N), decide (((5 + (N - (zer l))) : Nat) ≤ 1000000000)]
theorem naB3_eval (N : Nat) (l : List Int) : seeV 7 ((funcL Try.prog qA (wzH (putH 3 [false, false] n0)) (fun _ _ => none) 100 25 (cArgs 0 [.buf true .u8 N l]) (cMem [.buf true .u8 N l])).go [true]) = some (naB3D N l, .slice true 7 0 (5 + (N - zer l)) none 1, some (some ⟨true, .ints .u8 none ((([2] ++ [130, IntKind.wrap .u8 (ishr .i64 (IntKind.wrap .i64 (1 + ((N - zer l : Nat) : Int))) 8), IntKind.wrap .u8 (IntKind.wrap .i64 (1 + ((N - zer l : Nat) : Int)))]) ++ [0]) ++ List.take (N - zer l) (List.drop (zer l) l))⟩)) := by kernel_rfl
theorem naB3_call {N : Nat} {l : List Int} (hl : l.length = N) (hr : ∀ x ∈ l, inR .u8 x = true) (hN : N ≤ 60000) (hz : zer l < N) (hc : 128 ≤ l.getD (zer l) 0) (hk : ¬ (natB l).length < 256) :
    ViewCall Try.prog 25 [.buf true .u8 N l] (.slice true 0 0 (natC l).length none 1) [some ⟨true, .ints .u8 none (natC l)⟩] := by
  have hle := zer_le l
  have hbz := u8_at hr (zer l)
  have hT : List.take (N - zer l) (List.drop (zer l) l) = tz l := List.take_of_length_le (by simp only [List.length_drop]; omega)
  have hTl := tz_len l
  have hB := natB_0 (l := l) (Or.inr hc)
  have hn : (natB l).length = N - zer l + 1 := by rw [hB]; simp only [List.length_cons]; omega
  have w : IntKind.wrap .i64 (1 + ((N - zer l : Nat) : Int)) = (((natB l).length : Nat) : Int) := by rw [Go.De.wrap64]; omega
  have hC : natC l = 2 :: (lenB (natB l).length ++ natB l) := rfl
  rw [lenB_3 hk] at hC
  have hlen : (5 + (N - zer l)) = (natC l).length := by rw [hC]; simp only [List.length_cons, List.length_append, List.length_nil]; omega
  have ev := naB3_eval N l
  have hblk : (([2] ++ [130, IntKind.wrap .u8 (ishr .i64 (IntKind.wrap .i64 (1 + ((N - zer l : Nat) : Int))) 8), IntKind.wrap .u8 (IntKind.wrap .i64 (1 + ((N - zer l : Nat) : Int)))]) ++ [0]) ++ List.take (N - zer l) (List.drop (zer l) l) = natC l := by
    rw [hT, w, hC, hB]
    simp only [wrapB, ishr8, List.cons_append, List.nil_append, List.cons.injEq, true_and, and_true]
    rw [← hB]
    omega
  rw [hblk, hlen] at ev
  refine @viewN_one _ _ _ _ _ mixed noCount (wzH_ok (putH_ok n0_ok 3 _)) _ _ _ (fun _ _ _ _ => LOkN.none) _ _ _ _ _ _ [true] 7 ev ?_ (by show 1 ≤ 7; decide) rfl rfl
  unfold naB3D
  simp only [hT, w, hTl, hl, List.length_append, List.length_cons, List.length_nil, Nat.add_zero, Nat.zero_add]
  refine paid_cons ?_ (paid_cons ?_ (paid_cons ?_ (paid_cons ?_ (paid_cons ?_ (paid_cons ?_ (paid_cons ?_ (paid_cons ?_ (paid_cons ?_ (paid_cons ?_ (paid_cons ?_ (paid_cons ?_ (paid_cons ?_ (paid_cons ?_ (paid_cons ?_ (paid_cons ?_ (paid_cons ?_ (paid_cons ?_ (paid_cons ?_ (fun _ h => by cases h)))))))))))))))))))
  all_goals (try simp only [Bool.and_eq_true, Bool.or_eq_true, Bool.not_eq_true', Bool.not_true, Bool.not_false, Bool.not_eq_eq_eq_not, decide_eq_true_eq, decide_eq_false_iff_not, beq_iff_eq, beq_eq_false_iff_ne, bne_iff_ne, bne_eq_false_iff_eq, ne_eq, Bool.or_eq_false_iff, Bool.and_eq_false_imp, Bool.and_true, Bool.true_and, Bool.or_false, Bool.false_or, Bool.or_true, Bool.true_or, Bool.and_false, Bool.false_and, and_true, true_and, not_true_eq_false, not_false_eq_true, List.length_cons, List.length_nil, List.length_append, hTl, hl, Nat.add_zero, Nat.zero_add]) <;> omega
def naC1D (N : Nat) (l : List Int) : List Bool := [decide ((N : Nat) = N), decide (((List.length l) : Nat) = N), decide ((N : Nat) < 1000000000000), decide (((N - (zer l)) : Nat) < 9223372036854775808), (!((((N - (zer l)) : Nat) : Int) == 0)), (!((((N - (zer l)) : Nat) : Int) == 0)), (decide ((0 : Int) ≤ 0) && decide ((0 : Int) < (((N - (zer l)) : Nat) : Int))), (!((((N - (zer l)) : Nat) : Int) == 0)), decide (((((zer l) + 0) + 1) : Nat) ≤ N), (!((((N - (zer l)) : Nat) : Int) == 0)), (!((((N - (zer l)) : Nat) : Int) == 0)), (!decide (((List.getD l ((zer l) + 0) 0) : Int) ≥ 128)), decide (((N - (zer l)) : Nat) < 9223372036854775808), (!decide (((((N - (zer l)) : Nat) : Int) : Int) > 65535)), decide (((N - (zer l)) : Nat) < 9223372036854775808), decide (((IntKind.wrap .i64 (0 + (((N - (zer l)) : Nat) : Int))) : Int) < 128), decide ((((zer l) + (N - (zer l))) : Nat) ≤ N), decide (((2 + (N - (zer l))) : Nat) ≤ 1000000000)]
theorem naC1_eval (N : Nat) (l : List Int) : seeV 5 ((funcL Try.prog qA (wzH (putH 1 [false] n0)) (fun _ _ => none) 100 25 (cArgs 0 [.buf true .u8 N l]) (cMem [.buf true .u8 N l])).go [false]) = some (naC1D N l, .slice true 5 0 (2 + (N - zer l)) none 1, some (some ⟨true, .ints .u8 none (([2] ++ [IntKind.wrap .u8 (IntKind.wrap .i64 (0 + ((N - zer l : Nat) : Int)))]) ++ List.take (N - zer l) (List.drop (zer l) l))⟩)) := by kernel_rfl
theorem naC1_call {N : Nat} {l : List Int} (hl : l.length = N) (hr : ∀ x ∈ l, inR .u8 x = true) (hN : N ≤ 60000) (hz : zer l < N) (hc : l.getD (zer l) 0 < 128) (hk : (natB l).length < 128) :
    ViewCall Try.prog 25 [.buf true .u8 N l] (.slice true 0 0 (natC l).length none 1) [some ⟨true, .ints .u8 none (natC l)⟩] := by
  have hle := zer_le l
  have hbz := u8_at hr (zer l)
  have hT : List.take (N - zer l) (List.drop (zer l) l) = tz l := List.take_of_length_le (by simp only [List.length_drop]; omega)
  have hTl := tz_len l
  have hB := natB_t (l := l) (by omega) hc
  have hn : (natB l).length = N - zer l := by rw [hB, hTl, hl]
  have w : IntKind.wrap .i64 (0 + ((N - zer l : Nat) : Int)) = (((natB l).length : Nat) : Int) := by rw [Go.De.wrap64]; omega
  have hC : natC l = 2 :: (lenB (natB l).length ++ natB l) := rfl
  rw [lenB_1 hk] at hC
  have hlen : (2 + (N - zer l)) = (natC l).length := by rw [hC]; simp only [List.length_cons, List.length_append, List.length_nil]; omega
  have ev := naC1_eval N l
  have hblk : ([2] ++ [IntKind.wrap .u8 (IntKind.wrap .i64 (0 + ((N - zer l : Nat) : Int)))]) ++ List.take (N - zer l) (List.drop (zer l) l) = natC l := by
    rw [hT, w, hC, hB]
    simp only [wrapB, ishr8, List.cons_append, List.nil_append, List.cons.injEq, true_and, and_true]
    rw [← hB]
    omega
  rw [hblk, hlen] at ev
  refine @viewN_one _ _ _ _ _ mixed noCount (wzH_ok (putH_ok n0_ok 1 _)) _ _ _ (fun _ _ _ _ => LOkN.none) _ _ _ _ _ _ [false] 5 ev ?_ (by show 1 ≤ 5; decide) rfl rfl
  unfold naC1D
  simp only [hT, w, hTl, hl, List.length_append, List.length_cons, List.length_nil, Nat.add_zero, Nat.zero_add]
  refine paid_cons ?_ (paid_cons ?_ (paid_cons ?_ (paid_cons ?_ (paid_cons ?_ (paid_cons ?_ (paid_cons ?_ (paid_cons ?_ (paid_cons ?_ (paid_cons ?_ (paid_cons ?_ (paid_cons ?_ (paid_cons ?_ (paid_cons ?_ (paid_cons ?_ (paid_cons ?_ (paid_cons ?_ (paid_cons ?_ (fun _ h => by cases h))))))))))))))))))
  all_goals (try simp only [Bool.and_eq_true, Bool.or_eq_true, Bool.not_eq_true', Bool.not_true, Bool.not_false, Bool.not_eq_eq_eq_not, decide_eq_true_eq, decide_eq_false_iff_not, beq_iff_eq, beq_eq_false_iff_ne, bne_iff_ne, bne_eq_false_iff_eq, ne_eq, Bool.or_eq_false_iff, Bool.and_eq_false_imp, Bool.and_true, Bool.true_and, Bool.or_false, Bool.false_or, Bool.or_true, Bool.true_or, Bool.and_false, Bool.false_and, and_true, true_and, not_true_eq_false, not_false_eq_true, List.length_cons, List.length_nil, List.length_append, hTl, hl, Nat.add_zero, Nat.zero_add]) <;> omega
def naC2D (N : Nat) (l : List Int) : List Bool := [decide ((N : Nat) = N), decide (((List.length l) : Nat) = N), decide ((N : Nat) < 1000000000000), decide (((N - (zer l)) : Nat) < 9223372036854775808), (!((((N - (zer l)) : Nat) : Int) == 0)), (!((((N - (zer l)) : Nat) : Int) == 0)), (decide ((0 : Int) ≤ 0) && decide ((0 : Int) < (((N - (zer l)) : Nat) : Int))), (!((((N - (zer l)) : Nat) : Int) == 0)), decide (((((zer l) + 0) + 1) : Nat) ≤ N), (!((((N - (zer l)) : Nat) : Int) == 0)), (!((((N - (zer l)) : Nat) : Int) == 0)), (!decide (((List.getD l ((zer l) + 0) 0) : Int) ≥ 128)), decide (((N - (zer l)) : Nat) < 9223372036854775808), (!decide (((((N - (zer l)) : Nat) : Int) : Int) > 65535)), decide (((N - (zer l)) : Nat) < 9223372036854775808), (!decide (((IntKind.wrap .i64 (0 + (((N - (zer l)) : Nat) : Int))) : Int) < 128)), decide (((IntKind.wrap .i64 (0 + (((N - (zer l)) : Nat) : Int))) : Int) < 256), decide ((((zer l) + (N - (zer l))) : Nat) ≤ N), decide (((3 + (N - (zer l))) : Nat) ≤ 1000000000)]
theorem naC2_eval (N : Nat) (l : List Int) : seeV 5 ((funcL Try.prog qA (wzH (putH 2 [false] n0)) (fun _ _ => none) 100 25 (cArgs 0 [.buf true .u8 N l]) (cMem [.buf true .u8 N l])).go [false]) = some (naC2D N l, .slice true 5 0 (3 + (N - zer l)) none 1, some (some ⟨true, .ints .u8 none (([2] ++ [129, IntKind.wrap .u8 (IntKind.wrap .i64 (0 + ((N - zer l : Nat) : Int)))]) ++ List.take (N - zer l) (List.drop (zer l) l))⟩)) := by kernel_rfl
theorem naC2_call {N : Nat} {l : List Int} (hl : l.length = N) (hr : ∀ x ∈ l, inR .u8 x = true) (hN : N ≤ 60000) (hz : zer l < N) (hc : l.getD (zer l) 0 < 128) (hk : ¬ (natB l).length < 128) (hk2 : (natB l).length < 256) :
    ViewCall Try.prog 25 [.buf true .u8 N l] (.slice true 0 0 (natC l).length none 1) [some ⟨true, .ints .u8 none (natC l)⟩] := by
  have hle := zer_le l
  have hbz := u8_at hr (zer l)
  have hT : List.take (N - zer l) (List.drop (zer l) l) = tz l := List.take_of_length_le (by simp only [List.length_drop]; omega)
  have hTl := tz_len l
  have hB := natB_t (l := l) (by omega) hc
  have hn : (natB l).length = N - zer l := by rw [hB, hTl, hl]
  have w : IntKind.wrap .i64 (0 + ((N - zer l : Nat) : Int)) = (((natB l).length : Nat) : Int) := by rw [Go.De.wrap64]; omega
  have hC : natC l = 2 :: (lenB (natB l).length ++ natB l) := rfl
  rw [lenB_2 hk hk2] at hC
  have hlen : (3 + (N - zer l)) = (natC l).length := by rw [hC]; simp only [List.length_cons, List.length_append, List.length_nil]; omega
  have ev := naC2_eval N l
  have hblk : ([2] ++ [129, IntKind.wrap .u8 (IntKind.wrap .i64 (0 + ((N - zer l : Nat) : Int)))]) ++ List.take (N - zer l) (List.drop (zer l) l) = natC l := by
    rw [hT, w, hC, hB]
    simp only [wrapB, ishr8, List.cons_append, List.nil_append, List.cons.injEq, true_and, and_true]
    rw [← hB]
    omega
  rw [hblk, hlen] at ev
  refine @viewN_one _ _ _ _ _ mixed noCount (wzH_ok (putH_ok n0_ok 2 _)) _ _ _ (fun _ _ _ _ => LOkN.none) _ _ _ _ _ _ [false] 5 ev ?_ (by show 1 ≤ 5; decide) rfl rfl
  unfold naC2D
  simp only [hT, w, hTl, hl, List.length_append, List.length_cons, List.length_nil, Nat.add_zero, Nat.zero_add]
  refine paid_cons ?_ (paid_cons ?_ (paid_cons ?_ (paid_cons ?_ (paid_cons ?_ (paid_cons ?_ (paid_cons ?_ (paid_cons ?_ (paid_cons ?_ (paid_cons ?_ (paid_cons ?_ (paid_cons ?_ (paid_cons ?_ (paid_cons ?_ (paid_cons ?_ (paid_cons ?_ (paid_cons ?_ (paid_cons ?_ (paid_cons ?_ (fun _ h => by cases h)))))))))))))))))))
  all_goals (try simp only [Bool.and_eq_true, Bool.or_eq_true, Bool.not_eq_true', Bool.not_true, Bool.not_false, Bool.not_eq_eq_eq_not, decide_eq_true_eq, decide_eq_false_iff_not, beq_iff_eq, beq_eq_false_iff_ne, bne_iff_ne, bne_eq_false_iff_eq, ne_eq, Bool.or_eq_false_iff, Bool.and_eq_false_imp, Bool.and_true, Bool.true_and, Bool.or_false, Bool.false_or, Bool.or_true, Bool.true_or, Bool.and_false, Bool.false_and, and_true, true_and, not_true_eq_false, not_false_eq_true, List.length_cons, List.length_nil, List.length_append, hTl, hl, Nat.add_zero, Nat.zero_add]) <;> omega
def naC3D (N : Nat) (l : List Int) : List Bool := [decide ((N : Nat) = N), decide (((List.length l) : Nat) = N), decide ((N : Nat) < 1000000000000), decide (((N - (zer l)) : Nat) < 9223372036854775808), (!((((N - (zer l)) : Nat) : Int) == 0)), (!((((N - (zer l)) : Nat) : Int) == 0)), (decide ((0 : Int) ≤ 0) && decide ((0 : Int) < (((N - (zer l)) : Nat) : Int))), (!((((N - (zer l)) : Nat) : Int) == 0)), decide (((((zer l) + 0) + 1) : Nat) ≤ N), (!((((N - (zer l)) : Nat) : Int) == 0)), (!((((N - (zer l)) : Nat) : Int) == 0)), (!decide (((List.getD l ((zer l) + 0) 0) : Int) ≥ 128)), decide (((N - (zer l)) : Nat) < 9223372036854775808), (!decide (((((N - (zer l)) : Nat) : Int) : Int) > 65535)), decide (((N - (zer l)) : Nat) < 9223372036854775808), (!decide (((IntKind.wrap .i64 (0 + (((N - (zer l)) : Nat) : Int))) : Int) < 128)), (!decide (((IntKind.wrap .i64 (0 + (((N - (zer l)) : Nat) : Int))) : Int) < 256)), decide ((((zer l) + (N - (zer l))) : Nat) ≤ N), decide (((4 + (N - (zer l))) : Nat) ≤ 1000000000)]
theorem naC3_eval (N : Nat) (l : List Int) : seeV 5 ((funcL Try.prog qA (wzH (putH 3 [false] n0)) (fun _ _ => none) 100 25 (cArgs 0 [.buf true .u8 N l]) (cMem [.buf true .u8 N l])).go [false]) = some (naC3D N l, .slice true 5 0 (4 + (N - zer l)) none 1, some (some ⟨true, .ints .u8 none (([2] ++ [130, IntKind.wrap .u8 (ishr .i64 (IntKind.wrap .i64 (0 + ((N - zer l : Nat) : Int))) 8), IntKind.wrap .u8 (IntKind.wrap .i64 (0 + ((N - zer l : Nat) : Int)))]) ++ List.take (N - zer l) (List.drop (zer l) l))⟩)) := by kernel_rfl
theorem naC3_call {N : Nat} {l : List Int} (hl : l.length = N) (hr : ∀ x ∈ l, inR .u8 x = true) (hN : N ≤ 60000) (hz : zer l < N) (hc : l.getD (zer l) 0 < 128) (hk : ¬ (natB l).length < 256) :
    ViewCall Try.prog 25 [.buf true .u8 N l] (.slice true 0 0 (natC l).length none 1) [some ⟨true, .ints .u8 none (natC l)⟩] := by
  have hle := zer_le l
  have hbz := u8_at hr (zer l)
  have hT : List.take (N - zer l) (List.drop (zer l) l) = tz l := List.take_of_length_le (by simp only [List.length_drop]; omega)
  have hTl := tz_len l
  have hB := natB_t (l := l) (by omega) hc
  have hn : (natB l).length = N - zer l := by rw [hB, hTl, hl]
  have w : IntKind.wrap .i64 (0 + ((N - zer l : Nat) : Int)) = (((natB l).length : Nat) : Int) := by rw [Go.De.wrap64]; omega
  have hC : natC l = 2 :: (lenB (natB l).length ++ natB l) := rfl
  rw [lenB_3 hk] at hC
  have hlen : (4 + (N - zer l)) = (natC l).length := by rw [hC]; simp only [List.length_cons, List.length_append, List.length_nil]; omega
  have ev := naC3_eval N l
  have hblk : ([2] ++ [130, IntKind.wrap .u8 (ishr .i64 (IntKind.wrap .i64 (0 + ((N - zer l : Nat) : Int))) 8), IntKind.wrap .u8 (IntKind.wrap .i64 (0 + ((N - zer l : Nat) : Int)))]) ++ List.take (N - zer l) (List.drop (zer l) l) = natC l := by
    rw [hT, w, hC, hB]
    simp only [wrapB, ishr8, List.cons_append, List.nil_append, List.cons.injEq, true_and, and_true]
    rw [← hB]
    omega
  rw [hblk, hlen] at ev
  refine @viewN_one _ _ _ _ _ mixed noCount (wzH_ok (putH_ok n0_ok 3 _)) _ _ _ (fun _ _ _ _ => LOkN.none) _ _ _ _ _ _ [false] 5 ev ?_ (by show 1 ≤ 5; decide) rfl rfl
  unfold naC3D
  simp only [hT, w, hTl, hl, List.length_append, List.length_cons, List.length_nil, Nat.add_zero, Nat.zero_add]
  refine paid_cons ?_ (paid_cons ?_ (paid_cons ?_ (paid_cons ?_ (paid_cons ?_ (paid_cons ?_ (paid_cons ?_ (paid_cons ?_ (paid_cons ?_ (paid_cons ?_ (paid_cons ?_ (paid_cons ?_ (paid_cons ?_ (paid_cons ?_ (paid_cons ?_ (paid_cons ?_ (paid_cons ?_ (paid_cons ?_ (paid_cons ?_ (fun _ h => by cases h)))))))))))))))))))
  all_goals (try simp only [Bool.and_eq_true, Bool.or_eq_true, Bool.not_eq_true', Bool.not_true, Bool.not_false, Bool.not_eq_eq_eq_not, decide_eq_true_eq, decide_eq_false_iff_not, beq_iff_eq, beq_eq_false_iff_ne, bne_iff_ne, bne_eq_false_iff_eq, ne_eq, Bool.or_eq_false_iff, Bool.and_eq_false_imp, Bool.and_true, Bool.true_and, Bool.or_false, Bool.false_or, Bool.or_true, Bool.true_or, Bool.and_false, Bool.false_and, and_true, true_and, not_true_eq_false, not_false_eq_true, List.length_cons, List.length_nil, List.length_append, hTl, hl, Nat.add_zero, Nat.zero_add]) <;> omega
theorem nat_call {N : Nat} {l : List Int} (hl : l.length = N) (hr : ∀ x ∈ l, inR .u8 x = true) (hN : N ≤ 60000) :
    ViewCall Try.prog 25 [.buf true .u8 N l] (.slice true 0 0 (natC l).length none 1) [some ⟨true, .ints .u8 none (natC l)⟩] := by
  intro ρ vs w ha hi
  have hle := zer_le l
  by_cases hc : zer l = N
  · have hB : natB l = 0 :: tz l := natB_0 (Or.inl (by omega))
    have hk : (natB l).length < 128 := by rw [hB, tz_nil (by omega)]; decide
    exact naA1_call hl hr hN hc hk ha hi
  have hz : zer l < N := by omega
  by_cases hb : 128 ≤ l.getD (zer l) 0
  · by_cases hk : (natB l).length < 128
    · exact naB1_call hl hr hN hz hb hk ha hi
    by_cases hk2 : (natB l).length < 256
    · exact naB2_call hl hr hN hz hb hk hk2 ha hi
    exact naB3_call hl hr hN hz hb hk2 ha hi
  · have hb : l.getD (zer l) 0 < 128 := by omega
    by_cases hk : (natB l).length < 128
    · exact naC1_call hl hr hN hz hb hk ha hi
    by_cases hk2 : (natB l).length < 256
    · exact naC2_call hl hr hN hz hb hk hk2 ha hi
    exact naC3_call hl hr hN hz hb hk2 ha hi
def natS : List V → E (AV × Mem)
  | [.buf _ .u8 N l] => some ([decide (N ≤ 60000)], (.slice true 0 0 (natC l).length none 1, [some ⟨true, .ints .u8 none (natC l)⟩]))
  | _ => none
theorem natS_ok {xs : List V} {o : List Bool} {v : AV} {bs : Mem} (h : natS xs = some (o, (v, bs))) (ho : Paid o) : ViewCall Try.prog 25 xs v bs := by
  unfold natS at h
  split at h
  · rename_i s N l
    cases h
    have hN := of_decide_eq_true (ho _ (List.mem_cons_self ..))
    intro ρ vs w ha hi
    obtain ⟨hl, hr⟩ := buf_arg hi 0 rfl
    refine nat_call hl hr hN ?_ hi
    cases ha with
    | cons _ _ v0 vs0 h0 hs0 => exact .cons _ _ _ _ ((LeS.slice s true 0 0 N none none 1 (Or.inl rfl)).rep h0) hs0
  · cases h
/-- Natural, before another handler. -/
noncomputable def hNat (X : CallH) : CallH := withV 25 natS X
theorem hNat_ok {X : CallH} (h : HOk Try.prog X) : HOk Try.prog (hNat X) := h.withV fun _ _ _ _ h ho => natS_ok h ho
end Go.Proofs.Ythpafpifpdeikaa
