/- Whole's contract: an INTEGER's bytes, or not. Own work. -/
import Derived.Test.YthpafpifpdeikaaSDeR
set_option linter.unusedSimpArgs false
set_option linter.unusedVariables false
set_option linter.unusedSectionVars false
namespace Go.De
/-- An INTEGER's bytes, of a number that isn't below 0. -/
def isInt (N : Nat) (l : List Int) : Bool := decide (1 ≤ N) && decide (l.getD 0 0 < 128) && !(decide (2 ≤ N) && (l.getD 0 0 == 0) && decide (l.getD 1 0 < 128))
end Go.De
namespace Go.Proofs.Ythpafpifpdeikaa
open Go.Ev Go.De
set_option maxRecDepth 100000
set_option linter.unusedSimpArgs false
set_option linter.unusedVariables false
variable [Tab]
def whD0 (N : Nat) (l : List Int) : List Bool := [decide ((N : Nat) < 9223372036854775808), ((!(!(((N : Nat) : Int) == 0))) || (decide ((0 : Int) ≤ 0) && decide ((0 : Int) < ((N : Nat) : Int)))), ((!(!(((N : Nat) : Int) == 0))) || (!(((N : Nat) : Int) == 0))), ((!(!(((N : Nat) : Int) == 0))) || decide ((1 : Nat) ≤ N)), ((!(!(((N : Nat) : Int) == 0))) || (!(((N : Nat) : Int) == 0))), ((!(!(((N : Nat) : Int) == 0))) || (!(((N : Nat) : Int) == 0))), ((((N : Nat) : Int) == 0) || (!(((N : Nat) : Int) == 0))), (!((((N : Nat) : Int) == 0) || decide (((List.getD l 0 0) : Int) ≥ 128))), decide ((N : Nat) < 9223372036854775808), ((!decide ((((N : Nat) : Int) : Int) > 1)) || (decide ((0 : Int) ≤ 0) && decide ((0 : Int) < ((N : Nat) : Int)))), ((!decide ((((N : Nat) : Int) : Int) > 1)) || decide ((((N : Nat) : Int) : Int) > 1)), ((!decide ((((N : Nat) : Int) : Int) > 1)) || decide ((1 : Nat) ≤ N)), ((!decide ((((N : Nat) : Int) : Int) > 1)) || decide ((((N : Nat) : Int) : Int) > 1)), ((!decide ((((N : Nat) : Int) : Int) > 1)) || decide ((((N : Nat) : Int) : Int) > 1)), ((!decide ((((N : Nat) : Int) : Int) > 1)) || decide ((((N : Nat) : Int) : Int) > 1)), ((!(decide ((((N : Nat) : Int) : Int) > 1) && ((List.getD l 0 0) == 0))) || (decide ((0 : Int) ≤ 1) && decide ((1 : Int) < ((N : Nat) : Int)))), ((!(decide ((((N : Nat) : Int) : Int) > 1) && ((List.getD l 0 0) == 0))) || (decide ((((N : Nat) : Int) : Int) > 1) && ((List.getD l 0 0) == 0))), ((!(decide ((((N : Nat) : Int) : Int) > 1) && ((List.getD l 0 0) == 0))) || decide ((2 : Nat) ≤ N)), ((!(decide ((((N : Nat) : Int) : Int) > 1) && ((List.getD l 0 0) == 0))) || (decide ((((N : Nat) : Int) : Int) > 1) && ((List.getD l 0 0) == 0))), ((!(decide ((((N : Nat) : Int) : Int) > 1) && ((List.getD l 0 0) == 0))) || (decide ((((N : Nat) : Int) : Int) > 1) && ((List.getD l 0 0) == 0))), ((!(decide ((((N : Nat) : Int) : Int) > 1) && ((List.getD l 0 0) == 0))) || (decide ((((N : Nat) : Int) : Int) > 1) && ((List.getD l 0 0) == 0))), (!((decide ((((N : Nat) : Int) : Int) > 1) && ((List.getD l 0 0) == 0)) && decide (((List.getD l 1 0) : Int) < 128))), decide ((N : Nat) = N), decide (((List.length l) : Nat) = N), decide ((N : Nat) < 1000000000000), decide ((((zer l) + (N - (zer l))) : Nat) ≤ N), decide (((0 + (N - (zer l))) : Nat) ≤ 1000000000)]
theorem wh0_eval (N : Nat) (l : List Int) : ((funcL Try.prog qR (wzH (dH n0 3)) (fun _ _ => none) 100 21 (cArgs 0 [.buf true .u8 N l]) (cMem [.buf true .u8 N l])).go [false, false]).flat = some (whD0 N l, (.tuple [.slice true 2 0 (0 + (N - zer l)) none 1, .bool false true], [some ⟨false, .ints .u8 (some N) l⟩, none, some ⟨true, .ints .u8 none ([] ++ List.take (N - zer l) (List.drop (zer l) l))⟩])) := by kernel_rfl
theorem whD0_paid {N : Nat} {l : List Int} (hl : l.length = N) (hr : ∀ x ∈ l, inR .u8 x = true) (h1 : 1 ≤ N) (hN : N ≤ 60000) (hg : isInt N l = true) : Paid (whD0 N l) := by
  have hle := zer_le l
  have b0 := u8_at hr 0
  have b1 := u8_at hr 1
  unfold whD0
  simp only [isInt, Bool.and_eq_true, Bool.or_eq_true, Bool.not_eq_true', Bool.not_true, Bool.not_false, Bool.not_eq_eq_eq_not, decide_eq_true_eq, decide_eq_false_iff_not, beq_iff_eq, beq_eq_false_iff_ne, bne_iff_ne, bne_eq_false_iff_eq, ne_eq, Bool.or_eq_false_iff, Bool.and_eq_false_imp, Bool.and_true, Bool.true_and, Bool.or_false, Bool.false_or, Bool.or_true, Bool.true_or, Bool.and_false, Bool.false_and, and_true, true_and, not_true_eq_false, not_false_eq_true] at hg
  refine paid_cons ?_ (paid_cons ?_ (paid_cons ?_ (paid_cons ?_ (paid_cons ?_ (paid_cons ?_ (paid_cons ?_ (paid_cons ?_ (paid_cons ?_ (paid_cons ?_ (paid_cons ?_ (paid_cons ?_ (paid_cons ?_ (paid_cons ?_ (paid_cons ?_ (paid_cons ?_ (paid_cons ?_ (paid_cons ?_ (paid_cons ?_ (paid_cons ?_ (paid_cons ?_ (paid_cons ?_ (paid_cons ?_ (paid_cons ?_ (paid_cons ?_ (paid_cons ?_ (paid_cons ?_ (fun _ h => by cases h)))))))))))))))))))))))))))
  all_goals (try simp only [hl, Bool.and_eq_true, Bool.or_eq_true, Bool.not_eq_true', Bool.not_true, Bool.not_false, Bool.not_eq_eq_eq_not, decide_eq_true_eq, decide_eq_false_iff_not, beq_iff_eq, beq_eq_false_iff_ne, bne_iff_ne, bne_eq_false_iff_eq, ne_eq, Bool.or_eq_false_iff, Bool.and_eq_false_imp, Bool.and_true, Bool.true_and, Bool.or_false, Bool.false_or, Bool.or_true, Bool.true_or, Bool.and_false, Bool.false_and, and_true, true_and, not_true_eq_false, not_false_eq_true]) <;> omega
def whD1 (N : Nat) (l : List Int) : List Bool := [decide ((N : Nat) < 9223372036854775808), ((!(!(((N : Nat) : Int) == 0))) || (decide ((0 : Int) ≤ 0) && decide ((0 : Int) < ((N : Nat) : Int)))), ((!(!(((N : Nat) : Int) == 0))) || (!(((N : Nat) : Int) == 0))), ((!(!(((N : Nat) : Int) == 0))) || decide ((1 : Nat) ≤ N)), ((!(!(((N : Nat) : Int) == 0))) || (!(((N : Nat) : Int) == 0))), ((!(!(((N : Nat) : Int) == 0))) || (!(((N : Nat) : Int) == 0))), ((((N : Nat) : Int) == 0) || (!(((N : Nat) : Int) == 0))), ((((N : Nat) : Int) == 0) || decide (((List.getD l 0 0) : Int) ≥ 128))]
theorem wh1_eval (N : Nat) (l : List Int) : ((funcL Try.prog qR (wzH (dH n0 3)) (fun _ _ => none) 100 21 (cArgs 0 [.buf true .u8 N l]) (cMem [.buf true .u8 N l])).go [true]).flat = some (whD1 N l, (.tuple [.nilslice, .bool false false], [some ⟨false, .ints .u8 (some N) l⟩])) := by kernel_rfl
theorem whD1_paid {N : Nat} {l : List Int} (hl : l.length = N) (hr : ∀ x ∈ l, inR .u8 x = true) (h1 : 1 ≤ N) (hN : N ≤ 60000) (hg : 128 ≤ l.getD 0 0) : Paid (whD1 N l) := by
  have hle := zer_le l
  have b0 := u8_at hr 0
  have b1 := u8_at hr 1
  unfold whD1
  refine paid_cons ?_ (paid_cons ?_ (paid_cons ?_ (paid_cons ?_ (paid_cons ?_ (paid_cons ?_ (paid_cons ?_ (paid_cons ?_ (fun _ h => by cases h))))))))
  all_goals (try simp only [hl, Bool.and_eq_true, Bool.or_eq_true, Bool.not_eq_true', Bool.not_true, Bool.not_false, Bool.not_eq_eq_eq_not, decide_eq_true_eq, decide_eq_false_iff_not, beq_iff_eq, beq_eq_false_iff_ne, bne_iff_ne, bne_eq_false_iff_eq, ne_eq, Bool.or_eq_false_iff, Bool.and_eq_false_imp, Bool.and_true, Bool.true_and, Bool.or_false, Bool.false_or, Bool.or_true, Bool.true_or, Bool.and_false, Bool.false_and, and_true, true_and, not_true_eq_false, not_false_eq_true]) <;> omega
def whD2 (N : Nat) (l : List Int) : List Bool := [decide ((N : Nat) < 9223372036854775808), ((!(!(((N : Nat) : Int) == 0))) || (decide ((0 : Int) ≤ 0) && decide ((0 : Int) < ((N : Nat) : Int)))), ((!(!(((N : Nat) : Int) == 0))) || (!(((N : Nat) : Int) == 0))), ((!(!(((N : Nat) : Int) == 0))) || decide ((1 : Nat) ≤ N)), ((!(!(((N : Nat) : Int) == 0))) || (!(((N : Nat) : Int) == 0))), ((!(!(((N : Nat) : Int) == 0))) || (!(((N : Nat) : Int) == 0))), ((((N : Nat) : Int) == 0) || (!(((N : Nat) : Int) == 0))), (!((((N : Nat) : Int) == 0) || decide (((List.getD l 0 0) : Int) ≥ 128))), decide ((N : Nat) < 9223372036854775808), ((!decide ((((N : Nat) : Int) : Int) > 1)) || (decide ((0 : Int) ≤ 0) && decide ((0 : Int) < ((N : Nat) : Int)))), ((!decide ((((N : Nat) : Int) : Int) > 1)) || decide ((((N : Nat) : Int) : Int) > 1)), ((!decide ((((N : Nat) : Int) : Int) > 1)) || decide ((1 : Nat) ≤ N)), ((!decide ((((N : Nat) : Int) : Int) > 1)) || decide ((((N : Nat) : Int) : Int) > 1)), ((!decide ((((N : Nat) : Int) : Int) > 1)) || decide ((((N : Nat) : Int) : Int) > 1)), ((!decide ((((N : Nat) : Int) : Int) > 1)) || decide ((((N : Nat) : Int) : Int) > 1)), ((!(decide ((((N : Nat) : Int) : Int) > 1) && ((List.getD l 0 0) == 0))) || (decide ((0 : Int) ≤ 1) && decide ((1 : Int) < ((N : Nat) : Int)))), ((!(decide ((((N : Nat) : Int) : Int) > 1) && ((List.getD l 0 0) == 0))) || (decide ((((N : Nat) : Int) : Int) > 1) && ((List.getD l 0 0) == 0))), ((!(decide ((((N : Nat) : Int) : Int) > 1) && ((List.getD l 0 0) == 0))) || decide ((2 : Nat) ≤ N)), ((!(decide ((((N : Nat) : Int) : Int) > 1) && ((List.getD l 0 0) == 0))) || (decide ((((N : Nat) : Int) : Int) > 1) && ((List.getD l 0 0) == 0))), ((!(decide ((((N : Nat) : Int) : Int) > 1) && ((List.getD l 0 0) == 0))) || (decide ((((N : Nat) : Int) : Int) > 1) && ((List.getD l 0 0) == 0))), ((!(decide ((((N : Nat) : Int) : Int) > 1) && ((List.getD l 0 0) == 0))) || (decide ((((N : Nat) : Int) : Int) > 1) && ((List.getD l 0 0) == 0))), ((decide ((((N : Nat) : Int) : Int) > 1) && ((List.getD l 0 0) == 0)) && decide (((List.getD l 1 0) : Int) < 128))]
theorem wh2_eval (N : Nat) (l : List Int) : ((funcL Try.prog qR (wzH (dH n0 3)) (fun _ _ => none) 100 21 (cArgs 0 [.buf true .u8 N l]) (cMem [.buf true .u8 N l])).go [false, true]).flat = some (whD2 N l, (.tuple [.nilslice, .bool false false], [some ⟨false, .ints .u8 (some N) l⟩])) := by kernel_rfl
theorem whD2_paid {N : Nat} {l : List Int} (hl : l.length = N) (hr : ∀ x ∈ l, inR .u8 x = true) (h1 : 1 ≤ N) (hN : N ≤ 60000) (h0 : l.getD 0 0 < 128) (hg : isInt N l = false) : Paid (whD2 N l) := by
  have hle := zer_le l
  have b0 := u8_at hr 0
  have b1 := u8_at hr 1
  unfold whD2
  simp only [isInt, Bool.and_eq_true, Bool.or_eq_true, Bool.not_eq_true', Bool.not_true, Bool.not_false, Bool.not_eq_eq_eq_not, decide_eq_true_eq, decide_eq_false_iff_not, beq_iff_eq, beq_eq_false_iff_ne, bne_iff_ne, bne_eq_false_iff_eq, ne_eq, Bool.or_eq_false_iff, Bool.and_eq_false_imp, Bool.and_true, Bool.true_and, Bool.or_false, Bool.false_or, Bool.or_true, Bool.true_or, Bool.and_false, Bool.false_and, and_true, true_and, not_true_eq_false, not_false_eq_true] at hg
  refine paid_cons ?_ (paid_cons ?_ (paid_cons ?_ (paid_cons ?_ (paid_cons ?_ (paid_cons ?_ (paid_cons ?_ (paid_cons ?_ (paid_cons ?_ (paid_cons ?_ (paid_cons ?_ (paid_cons ?_ (paid_cons ?_ (paid_cons ?_ (paid_cons ?_ (paid_cons ?_ (paid_cons ?_ (paid_cons ?_ (paid_cons ?_ (paid_cons ?_ (paid_cons ?_ (paid_cons ?_ (fun _ h => by cases h))))))))))))))))))))))
  all_goals (try simp only [hl, Bool.and_eq_true, Bool.or_eq_true, Bool.not_eq_true', Bool.not_true, Bool.not_false, Bool.not_eq_eq_eq_not, decide_eq_true_eq, decide_eq_false_iff_not, beq_iff_eq, beq_eq_false_iff_ne, bne_iff_ne, bne_eq_false_iff_eq, ne_eq, Bool.or_eq_false_iff, Bool.and_eq_false_imp, Bool.and_true, Bool.true_and, Bool.or_false, Bool.false_or, Bool.or_true, Bool.true_or, Bool.and_false, Bool.false_and, and_true, true_and, not_true_eq_false, not_false_eq_true]) <;> omega
def whS : List V → E (AV × Mem)
  | [.buf _ .u8 N l] => some ([isInt N l, decide (N ≤ 60000)], (.tuple [.slice true 1 0 (N - zer l) none 1, .bool false true], [none, some ⟨true, .ints .u8 none (tz l)⟩]))
  | _ => none
def whX : List V → E (AV × Mem)
  | [.buf _ .u8 N l] => some ([!isInt N l, decide (1 ≤ N), decide (N ≤ 60000)], (.tuple [.nilslice, .bool false false], []))
  | _ => none
theorem mark1 {ρ : Nat → Loc3} {N : Nat → Prop} {s : Bool} {n len : Nat} {vs : List Value} (h : Reps ρ N [.slice s n 0 len none 1] vs) : Reps ρ N [.slice true n 0 len none 1] vs := by
  cases h with
  | cons _ _ v0 vs0 h0 hs0 => exact .cons _ _ _ _ ((LeS.slice s true n 0 len none none 1 (Or.inl rfl)).rep h0) hs0
theorem whS_ok {xs : List V} {o : List Bool} {v : AV} {bs : Mem} (h : whS xs = some (o, (v, bs))) (ho : Paid o) : ViewCall Try.prog 21 xs v bs := by
  unfold whS at h
  split at h
  · rename_i s N l
    cases h
    have hg := ho _ (List.mem_cons_self ..)
    have hN := of_decide_eq_true (ho _ (List.mem_cons_of_mem _ (List.mem_cons_self ..)))
    intro ρ vs w ha hi
    obtain ⟨hl, hr⟩ := buf_arg hi 0 rfl
    have ev := wh0_eval N l
    have hT : [] ++ List.take (N - zer l) (List.drop (zer l) l) = tz l := List.take_of_length_le (by simp only [List.length_drop]; omega)
    rw [hT, Nat.zero_add] at ev
    have h1 : 1 ≤ N := by
      simp only [isInt, Bool.and_eq_true, Bool.or_eq_true, Bool.not_eq_true', Bool.not_true, Bool.not_false, Bool.not_eq_eq_eq_not, decide_eq_true_eq, decide_eq_false_iff_not, beq_iff_eq, beq_eq_false_iff_ne, bne_iff_ne, bne_eq_false_iff_eq, ne_eq, Bool.or_eq_false_iff, Bool.and_eq_false_imp, Bool.and_true, Bool.true_and, Bool.or_false, Bool.false_or, Bool.or_true, Bool.true_or, Bool.and_false, Bool.false_and, and_true, true_and, not_true_eq_false, not_false_eq_true] at hg
      omega
    have hc : ViewCall Try.prog 21 [.buf true .u8 N l] (.tuple [.slice true 1 0 (N - zer l) none 1, .bool false true]) [none, some ⟨true, .ints .u8 none (tz l)⟩] :=
      @viewN_of_go _ _ _ _ _ mixed noCount (wzH_ok (dH_ok n0_ok 3)) _ _ _ (fun _ _ _ _ => LOkN.none) _ _ _ _ _ _ ev (whD0_paid hl hr h1 hN hg) rfl rfl rfl
    exact hc (mark1 ha) hi
  · cases h
theorem whX_ok {xs : List V} {o : List Bool} {v : AV} {bs : Mem} (h : whX xs = some (o, (v, bs))) (ho : Paid o) : ViewCall Try.prog 21 xs v bs := by
  unfold whX at h
  split at h
  · rename_i s N l
    cases h
    have hg := ho _ (List.mem_cons_self ..)
    have h1 := of_decide_eq_true (ho _ (List.mem_cons_of_mem _ (List.mem_cons_self ..)))
    have hN := of_decide_eq_true (ho _ (List.mem_cons_of_mem _ (List.mem_cons_of_mem _ (List.mem_cons_self ..))))
    intro ρ vs w ha hi
    obtain ⟨hl, hr⟩ := buf_arg hi 0 rfl
    rw [Bool.not_eq_true'] at hg
    by_cases h0 : 128 ≤ l.getD 0 0
    · have hc : ViewCall Try.prog 21 [.buf true .u8 N l] (.tuple [.nilslice, .bool false false]) [] :=
        @viewN_of_go _ _ _ _ _ mixed noCount (wzH_ok (dH_ok n0_ok 3)) _ _ _ (fun _ _ _ _ => LOkN.none) _ _ _ _ _ _ (wh1_eval N l) (whD1_paid hl hr h1 hN h0) rfl rfl rfl
      exact hc (mark1 ha) hi
    · have hc : ViewCall Try.prog 21 [.buf true .u8 N l] (.tuple [.nilslice, .bool false false]) [] :=
        @viewN_of_go _ _ _ _ _ mixed noCount (wzH_ok (dH_ok n0_ok 3)) _ _ _ (fun _ _ _ _ => LOkN.none) _ _ _ _ _ _ (wh2_eval N l) (whD2_paid hl hr h1 hN (by omega) hg) rfl rfl rfl
      exact hc (mark1 ha) hi
  · cases h
noncomputable def hWh (X : CallH) : CallH := withV 21 whS X
noncomputable def hWhX (X : CallH) : CallH := withV 21 whX X
theorem hWh_ok {X : CallH} (h : HOk Try.prog X) : HOk Try.prog (hWh X) := h.withV fun _ _ _ _ h ho => whS_ok h ho
theorem hWhX_ok {X : CallH} (h : HOk Try.prog X) : HOk Try.prog (hWhX X) := h.withV fun _ _ _ _ h ho => whX_ok h ho
end Go.Proofs.Ythpafpifpdeikaa
