/- Days of a month, and days up to a year. Own work. -/
import Derived.Test.YtjhjhhibfojpiaaTEvRenx
import Derived.Test.YtjhjhhibfojpiaaTEvRet
import Derived.Test.YtjhjhhibfojpiaaTDtM
set_option linter.unusedSimpArgs false
set_option linter.unusedVariables false
set_option linter.unusedSectionVars false
namespace Go.Dt
theorem leap_f {y : Nat} : leapB y = false ↔ ¬ (y % 4 = 0 ∧ (y % 100 ≠ 0 ∨ y % 400 = 0)) := by
  rw [← leapB_true]; simp
end Go.Dt
namespace Go.Ev
set_option linter.unusedSectionVars false
set_option linter.unusedVariables false
variable [Tab]
theorem PureCall.up {P : Program} {g : FuncId} {args : List AV} {v v' : AV} (h : PureCall P g args v) (hv : ∀ (ρ : Nat → Loc3) (N : Nat → Prop) u, Rep ρ N v u → Rep ρ N v' u) : PureCall P g args v' := fun hr w hT => (h hr w hT).mono fun u w' ⟨h1, h2⟩ => ⟨fun ρ N => hv ρ N u (h1 ρ N), h2⟩
theorem PureCall.upInt {P : Program} {g : FuncId} {args : List AV} {k : IntKind} {s : Bool} {n m : Int} (h : PureCall P g args (.int s k n)) (e : n = m) : PureCall P g args (.int true k m) := h.up fun ρ N u hr => by subst e; cases hr with | int _ _ _ h => exact .int _ _ _ h
theorem le_args2 {a b : Bool} {k : IntKind} (x y : Int) : LeL [.int a k x, .int b k y] [.int true k x, .int true k y] := .cons (.int _ _ _) (.cons (.int _ _ _) .nil)
/-- The same, kept shut. -/
structure PC (P : Program) (g : FuncId) (args : List AV) (v : AV) : Prop where
  call : PureCall P g args v
theorem PC.upInt {P : Program} {g : FuncId} {args : List AV} {k : IntKind} {s : Bool} {n m : Int} (h : PC P g args (.int s k n)) (e : n = m) : PC P g args (.int true k m) := ⟨@PureCall.upInt _ _ _ _ _ _ _ _ h.call e⟩
theorem pc_of_go {P : Program} {q : FuncId → Bool} {H : CallH} (hm : P.follows .mixedOrders = true) (hng : noCount P = true) (hH : HOk P H) {n : Nat} {g : FuncId} {args : List AV} {o : List Bool} {v : AV} (ds : List Bool) (hp : args.all plainA = true)
    (h : res ((funcA P q H n g args []).go ds) = some (o, v)) (ho : Paid o) (hpl : plainAs v = true) : PC P g args v := ⟨pure_of_go hm hng hH ds hp h ho rfl hpl⟩
theorem LeL.reps2 {ρ : Nat → Loc3} {N : Nat → Prop} : ∀ {l q : List AV} {vs : List Value}, LeL l q → Reps ρ N l vs → Reps ρ N q vs
  | _, _, _, .nil, h => h
  | _, _, _, .cons h hs, h' => by
    cases h' with
    | cons _ _ _ _ r0 hr => exact .cons _ _ _ _ (h.rep r0) (hs.reps2 hr)
theorem PC.le {P : Program} {g : FuncId} {l q : List AV} {v : AV} (hp : PC P g q v) (h : LeL l q) : PC P g l v := ⟨fun hr w hT => hp.call (h.reps2 hr) w hT⟩
end Go.Ev
namespace Go.Proofs.Ytjhjhhibfojpiaa
open Go.Ev Go.De Go.Dt
set_option maxRecDepth 100000
set_option maxHeartbeats 400000
set_option linter.unusedSimpArgs false
set_option linter.unusedVariables false
set_option linter.unusedSectionVars false
variable [Tab]
theorem tm_nat (x c : Nat) : Int.tmod (x : Int) (c : Int) = ((x % c : Nat) : Int) := by rw [Int.tmod_eq_emod_of_nonneg (by omega)]; rfl
theorem td_nat (x c : Nat) : Int.tdiv (x : Int) (c : Int) = ((x / c : Nat) : Int) := by rw [Int.tdiv_eq_ediv_of_nonneg (by omega)]; rfl
theorem tm4 (x : Nat) : Int.tmod (x : Int) 4 = ((x % 4 : Nat) : Int) := tm_nat x 4
theorem tm100 (x : Nat) : Int.tmod (x : Int) 100 = ((x % 100 : Nat) : Int) := tm_nat x 100
theorem tm400 (x : Nat) : Int.tmod (x : Int) 400 = ((x % 400 : Nat) : Int) := tm_nat x 400
theorem dof0_eval (Y M : Nat) : res ((funcA Try.prog qR (dH n0 3) 100 36 [.int true .u64 (Y : Int), .int true .u64 (M : Int)] []).go [true, true]) = some ([(((M : Nat) : Int) == 2), ((!((Int.tmod ((Y : Nat) : Int) 4) == 0)) || ((Int.tmod ((Y : Nat) : Int) 4) == 0)), ((!((Int.tmod ((Y : Nat) : Int) 4) == 0)) || ((Int.tmod ((Y : Nat) : Int) 4) == 0)), ((!((Int.tmod ((Y : Nat) : Int) 4) == 0)) || ((Int.tmod ((Y : Nat) : Int) 4) == 0)), ((!(((Int.tmod ((Y : Nat) : Int) 4) == 0) && (!((Int.tmod ((Y : Nat) : Int) 100) != 0)))) || (((Int.tmod ((Y : Nat) : Int) 4) == 0) && (!((Int.tmod ((Y : Nat) : Int) 100) != 0)))), ((!(((Int.tmod ((Y : Nat) : Int) 4) == 0) && (!((Int.tmod ((Y : Nat) : Int) 100) != 0)))) || (((Int.tmod ((Y : Nat) : Int) 4) == 0) && (!((Int.tmod ((Y : Nat) : Int) 100) != 0)))), ((!((Int.tmod ((Y : Nat) : Int) 4) == 0)) || (((Int.tmod ((Y : Nat) : Int) 100) != 0) || (((Int.tmod ((Y : Nat) : Int) 4) == 0) && (!((Int.tmod ((Y : Nat) : Int) 100) != 0))))), ((!((Int.tmod ((Y : Nat) : Int) 4) == 0)) || ((Int.tmod ((Y : Nat) : Int) 4) == 0)), ((!((Int.tmod ((Y : Nat) : Int) 4) == 0)) || ((Int.tmod ((Y : Nat) : Int) 4) == 0)), (((Int.tmod ((Y : Nat) : Int) 4) == 0) && (((Int.tmod ((Y : Nat) : Int) 100) != 0) || ((Int.tmod ((Y : Nat) : Int) 400) == 0)))], .int false .u64 29) := by kernel_rfl
theorem dof0 {Y M : Nat} (h : M = 2 ∧ leapB Y = true) : PC Try.prog 36 [.int true .u64 (Y : Int), .int true .u64 (M : Int)] (.int true .u64 (lenM Y M : Int)) := by
  have e : ((29 : Nat) : Int) = (lenM Y M : Int) := by
    unfold lenM
    rw [if_pos h.1, h.2]; rfl
  have ho : Paid [(((M : Nat) : Int) == 2), ((!((Int.tmod ((Y : Nat) : Int) 4) == 0)) || ((Int.tmod ((Y : Nat) : Int) 4) == 0)), ((!((Int.tmod ((Y : Nat) : Int) 4) == 0)) || ((Int.tmod ((Y : Nat) : Int) 4) == 0)), ((!((Int.tmod ((Y : Nat) : Int) 4) == 0)) || ((Int.tmod ((Y : Nat) : Int) 4) == 0)), ((!(((Int.tmod ((Y : Nat) : Int) 4) == 0) && (!((Int.tmod ((Y : Nat) : Int) 100) != 0)))) || (((Int.tmod ((Y : Nat) : Int) 4) == 0) && (!((Int.tmod ((Y : Nat) : Int) 100) != 0)))), ((!(((Int.tmod ((Y : Nat) : Int) 4) == 0) && (!((Int.tmod ((Y : Nat) : Int) 100) != 0)))) || (((Int.tmod ((Y : Nat) : Int) 4) == 0) && (!((Int.tmod ((Y : Nat) : Int) 100) != 0)))), ((!((Int.tmod ((Y : Nat) : Int) 4) == 0)) || (((Int.tmod ((Y : Nat) : Int) 100) != 0) || (((Int.tmod ((Y : Nat) : Int) 4) == 0) && (!((Int.tmod ((Y : Nat) : Int) 100) != 0))))), ((!((Int.tmod ((Y : Nat) : Int) 4) == 0)) || ((Int.tmod ((Y : Nat) : Int) 4) == 0)), ((!((Int.tmod ((Y : Nat) : Int) 4) == 0)) || ((Int.tmod ((Y : Nat) : Int) 4) == 0)), (((Int.tmod ((Y : Nat) : Int) 4) == 0) && (((Int.tmod ((Y : Nat) : Int) 100) != 0) || ((Int.tmod ((Y : Nat) : Int) 400) == 0)))] := by
    have h1 := h.1
    have h2 := leapB_true.1 h.2
    refine paid_cons ?_ (paid_cons ?_ (paid_cons ?_ (paid_cons ?_ (paid_cons ?_ (paid_cons ?_ (paid_cons ?_ (paid_cons ?_ (paid_cons ?_ (paid_cons ?_ (fun _ h => by cases h))))))))))
    all_goals (simp only [Bool.and_eq_true, Bool.or_eq_true, Bool.not_eq_true', Bool.not_true, Bool.not_false, Bool.not_eq_eq_eq_not, decide_eq_true_eq, decide_eq_false_iff_not, beq_iff_eq, beq_eq_false_iff_ne, bne_iff_ne, bne_eq_false_iff_eq, ne_eq, Bool.or_eq_false_iff, Bool.and_eq_false_imp, Bool.and_true, Bool.true_and, Bool.or_false, Bool.false_or, Bool.or_true, Bool.true_or, Bool.and_false, Bool.false_and, and_true, true_and, not_true_eq_false, not_false_eq_true, tm4, tm100, tm400]) <;> omega
  have hp : PC Try.prog 36 [.int true .u64 (Y : Int), .int true .u64 (M : Int)] (.int false .u64 29) := pc_of_go mixed noCount (dH_ok n0_ok 3) [true, true] rfl (dof0_eval Y M) ho rfl
  exact hp.upInt e
theorem dof1_eval (Y M : Nat) : res ((funcA Try.prog qR (dH n0 3) 100 36 [.int true .u64 (Y : Int), .int true .u64 (M : Int)] []).go [true, false]) = some ([(((M : Nat) : Int) == 2), ((!((Int.tmod ((Y : Nat) : Int) 4) == 0)) || ((Int.tmod ((Y : Nat) : Int) 4) == 0)), ((!((Int.tmod ((Y : Nat) : Int) 4) == 0)) || ((Int.tmod ((Y : Nat) : Int) 4) == 0)), ((!((Int.tmod ((Y : Nat) : Int) 4) == 0)) || ((Int.tmod ((Y : Nat) : Int) 4) == 0)), ((!(((Int.tmod ((Y : Nat) : Int) 4) == 0) && (!((Int.tmod ((Y : Nat) : Int) 100) != 0)))) || (((Int.tmod ((Y : Nat) : Int) 4) == 0) && (!((Int.tmod ((Y : Nat) : Int) 100) != 0)))), ((!(((Int.tmod ((Y : Nat) : Int) 4) == 0) && (!((Int.tmod ((Y : Nat) : Int) 100) != 0)))) || (((Int.tmod ((Y : Nat) : Int) 4) == 0) && (!((Int.tmod ((Y : Nat) : Int) 100) != 0)))), ((!((Int.tmod ((Y : Nat) : Int) 4) == 0)) || (((Int.tmod ((Y : Nat) : Int) 100) != 0) || (((Int.tmod ((Y : Nat) : Int) 4) == 0) && (!((Int.tmod ((Y : Nat) : Int) 100) != 0))))), ((!((Int.tmod ((Y : Nat) : Int) 4) == 0)) || ((Int.tmod ((Y : Nat) : Int) 4) == 0)), ((!((Int.tmod ((Y : Nat) : Int) 4) == 0)) || ((Int.tmod ((Y : Nat) : Int) 4) == 0)), (!(((Int.tmod ((Y : Nat) : Int) 4) == 0) && (((Int.tmod ((Y : Nat) : Int) 100) != 0) || ((Int.tmod ((Y : Nat) : Int) 400) == 0))))], .int false .u64 28) := by kernel_rfl
theorem dof1 {Y M : Nat} (h : M = 2 ∧ leapB Y = false) : PC Try.prog 36 [.int true .u64 (Y : Int), .int true .u64 (M : Int)] (.int true .u64 (lenM Y M : Int)) := by
  have e : ((28 : Nat) : Int) = (lenM Y M : Int) := by
    unfold lenM
    rw [if_pos h.1, h.2]; rfl
  have ho : Paid [(((M : Nat) : Int) == 2), ((!((Int.tmod ((Y : Nat) : Int) 4) == 0)) || ((Int.tmod ((Y : Nat) : Int) 4) == 0)), ((!((Int.tmod ((Y : Nat) : Int) 4) == 0)) || ((Int.tmod ((Y : Nat) : Int) 4) == 0)), ((!((Int.tmod ((Y : Nat) : Int) 4) == 0)) || ((Int.tmod ((Y : Nat) : Int) 4) == 0)), ((!(((Int.tmod ((Y : Nat) : Int) 4) == 0) && (!((Int.tmod ((Y : Nat) : Int) 100) != 0)))) || (((Int.tmod ((Y : Nat) : Int) 4) == 0) && (!((Int.tmod ((Y : Nat) : Int) 100) != 0)))), ((!(((Int.tmod ((Y : Nat) : Int) 4) == 0) && (!((Int.tmod ((Y : Nat) : Int) 100) != 0)))) || (((Int.tmod ((Y : Nat) : Int) 4) == 0) && (!((Int.tmod ((Y : Nat) : Int) 100) != 0)))), ((!((Int.tmod ((Y : Nat) : Int) 4) == 0)) || (((Int.tmod ((Y : Nat) : Int) 100) != 0) || (((Int.tmod ((Y : Nat) : Int) 4) == 0) && (!((Int.tmod ((Y : Nat) : Int) 100) != 0))))), ((!((Int.tmod ((Y : Nat) : Int) 4) == 0)) || ((Int.tmod ((Y : Nat) : Int) 4) == 0)), ((!((Int.tmod ((Y : Nat) : Int) 4) == 0)) || ((Int.tmod ((Y : Nat) : Int) 4) == 0)), (!(((Int.tmod ((Y : Nat) : Int) 4) == 0) && (((Int.tmod ((Y : Nat) : Int) 100) != 0) || ((Int.tmod ((Y : Nat) : Int) 400) == 0))))] := by
    have h1 := h.1
    have h2 := leap_f.1 h.2
    refine paid_cons ?_ (paid_cons ?_ (paid_cons ?_ (paid_cons ?_ (paid_cons ?_ (paid_cons ?_ (paid_cons ?_ (paid_cons ?_ (paid_cons ?_ (paid_cons ?_ (fun _ h => by cases h))))))))))
    all_goals (simp only [Bool.and_eq_true, Bool.or_eq_true, Bool.not_eq_true', Bool.not_true, Bool.not_false, Bool.not_eq_eq_eq_not, decide_eq_true_eq, decide_eq_false_iff_not, beq_iff_eq, beq_eq_false_iff_ne, bne_iff_ne, bne_eq_false_iff_eq, ne_eq, Bool.or_eq_false_iff, Bool.and_eq_false_imp, Bool.and_true, Bool.true_and, Bool.or_false, Bool.false_or, Bool.or_true, Bool.true_or, Bool.and_false, Bool.false_and, and_true, true_and, not_true_eq_false, not_false_eq_true, tm4, tm100, tm400]) <;> omega
  have hp : PC Try.prog 36 [.int true .u64 (Y : Int), .int true .u64 (M : Int)] (.int false .u64 28) := pc_of_go mixed noCount (dH_ok n0_ok 3) [true, false] rfl (dof1_eval Y M) ho rfl
  exact hp.upInt e
theorem dof2_eval (Y M : Nat) : res ((funcA Try.prog qR (dH n0 3) 100 36 [.int true .u64 (Y : Int), .int true .u64 (M : Int)] []).go [false, true, true]) = some ([(!(((M : Nat) : Int) == 2)), (((M : Nat) : Int) == 4), (((M : Nat) : Int) == 4)], .int false .u64 30) := by kernel_rfl
theorem dof2 {Y M : Nat} (h : M = 4) : PC Try.prog 36 [.int true .u64 (Y : Int), .int true .u64 (M : Int)] (.int true .u64 (lenM Y M : Int)) := by
  have e : ((30 : Nat) : Int) = (lenM Y M : Int) := by
    unfold lenM
    rw [if_neg (by omega), if_pos (by omega)]
  have ho : Paid [(!(((M : Nat) : Int) == 2)), (((M : Nat) : Int) == 4), (((M : Nat) : Int) == 4)] := by
    skip
    refine paid_cons ?_ (paid_cons ?_ (paid_cons ?_ (fun _ h => by cases h)))
    all_goals (simp only [Bool.and_eq_true, Bool.or_eq_true, Bool.not_eq_true', Bool.not_true, Bool.not_false, Bool.not_eq_eq_eq_not, decide_eq_true_eq, decide_eq_false_iff_not, beq_iff_eq, beq_eq_false_iff_ne, bne_iff_ne, bne_eq_false_iff_eq, ne_eq, Bool.or_eq_false_iff, Bool.and_eq_false_imp, Bool.and_true, Bool.true_and, Bool.or_false, Bool.false_or, Bool.or_true, Bool.true_or, Bool.and_false, Bool.false_and, and_true, true_and, not_true_eq_false, not_false_eq_true, tm4, tm100, tm400]) <;> omega
  have hp : PC Try.prog 36 [.int true .u64 (Y : Int), .int true .u64 (M : Int)] (.int false .u64 30) := pc_of_go mixed noCount (dH_ok n0_ok 3) [false, true, true] rfl (dof2_eval Y M) ho rfl
  exact hp.upInt e
theorem dof3_eval (Y M : Nat) : res ((funcA Try.prog qR (dH n0 3) 100 36 [.int true .u64 (Y : Int), .int true .u64 (M : Int)] []).go [false, false, true, true]) = some ([(!(((M : Nat) : Int) == 2)), (!(((M : Nat) : Int) == 4)), (((M : Nat) : Int) == 6), (((M : Nat) : Int) == 6)], .int false .u64 30) := by kernel_rfl
theorem dof3 {Y M : Nat} (h : M = 6) : PC Try.prog 36 [.int true .u64 (Y : Int), .int true .u64 (M : Int)] (.int true .u64 (lenM Y M : Int)) := by
  have e : ((30 : Nat) : Int) = (lenM Y M : Int) := by
    unfold lenM
    rw [if_neg (by omega), if_pos (by omega)]
  have ho : Paid [(!(((M : Nat) : Int) == 2)), (!(((M : Nat) : Int) == 4)), (((M : Nat) : Int) == 6), (((M : Nat) : Int) == 6)] := by
    skip
    refine paid_cons ?_ (paid_cons ?_ (paid_cons ?_ (paid_cons ?_ (fun _ h => by cases h))))
    all_goals (simp only [Bool.and_eq_true, Bool.or_eq_true, Bool.not_eq_true', Bool.not_true, Bool.not_false, Bool.not_eq_eq_eq_not, decide_eq_true_eq, decide_eq_false_iff_not, beq_iff_eq, beq_eq_false_iff_ne, bne_iff_ne, bne_eq_false_iff_eq, ne_eq, Bool.or_eq_false_iff, Bool.and_eq_false_imp, Bool.and_true, Bool.true_and, Bool.or_false, Bool.false_or, Bool.or_true, Bool.true_or, Bool.and_false, Bool.false_and, and_true, true_and, not_true_eq_false, not_false_eq_true, tm4, tm100, tm400]) <;> omega
  have hp : PC Try.prog 36 [.int true .u64 (Y : Int), .int true .u64 (M : Int)] (.int false .u64 30) := pc_of_go mixed noCount (dH_ok n0_ok 3) [false, false, true, true] rfl (dof3_eval Y M) ho rfl
  exact hp.upInt e
theorem dof4_eval (Y M : Nat) : res ((funcA Try.prog qR (dH n0 3) 100 36 [.int true .u64 (Y : Int), .int true .u64 (M : Int)] []).go [false, false, false, true, true]) = some ([(!(((M : Nat) : Int) == 2)), (!(((M : Nat) : Int) == 4)), (!(((M : Nat) : Int) == 6)), (((M : Nat) : Int) == 9), (((M : Nat) : Int) == 9)], .int false .u64 30) := by kernel_rfl
theorem dof4 {Y M : Nat} (h : M = 9) : PC Try.prog 36 [.int true .u64 (Y : Int), .int true .u64 (M : Int)] (.int true .u64 (lenM Y M : Int)) := by
  have e : ((30 : Nat) : Int) = (lenM Y M : Int) := by
    unfold lenM
    rw [if_neg (by omega), if_pos (by omega)]
  have ho : Paid [(!(((M : Nat) : Int) == 2)), (!(((M : Nat) : Int) == 4)), (!(((M : Nat) : Int) == 6)), (((M : Nat) : Int) == 9), (((M : Nat) : Int) == 9)] := by
    skip
    refine paid_cons ?_ (paid_cons ?_ (paid_cons ?_ (paid_cons ?_ (paid_cons ?_ (fun _ h => by cases h)))))
    all_goals (simp only [Bool.and_eq_true, Bool.or_eq_true, Bool.not_eq_true', Bool.not_true, Bool.not_false, Bool.not_eq_eq_eq_not, decide_eq_true_eq, decide_eq_false_iff_not, beq_iff_eq, beq_eq_false_iff_ne, bne_iff_ne, bne_eq_false_iff_eq, ne_eq, Bool.or_eq_false_iff, Bool.and_eq_false_imp, Bool.and_true, Bool.true_and, Bool.or_false, Bool.false_or, Bool.or_true, Bool.true_or, Bool.and_false, Bool.false_and, and_true, true_and, not_true_eq_false, not_false_eq_true, tm4, tm100, tm400]) <;> omega
  have hp : PC Try.prog 36 [.int true .u64 (Y : Int), .int true .u64 (M : Int)] (.int false .u64 30) := pc_of_go mixed noCount (dH_ok n0_ok 3) [false, false, false, true, true] rfl (dof4_eval Y M) ho rfl
  exact hp.upInt e
theorem dof5_eval (Y M : Nat) : res ((funcA Try.prog qR (dH n0 3) 100 36 [.int true .u64 (Y : Int), .int true .u64 (M : Int)] []).go [false, false, false, false, true]) = some ([(!(((M : Nat) : Int) == 2)), (!(((M : Nat) : Int) == 4)), (!(((M : Nat) : Int) == 6)), (!(((M : Nat) : Int) == 9)), (((M : Nat) : Int) == 11)], .int false .u64 30) := by kernel_rfl
theorem dof5 {Y M : Nat} (h : M = 11) : PC Try.prog 36 [.int true .u64 (Y : Int), .int true .u64 (M : Int)] (.int true .u64 (lenM Y M : Int)) := by
  have e : ((30 : Nat) : Int) = (lenM Y M : Int) := by
    unfold lenM
    rw [if_neg (by omega), if_pos (by omega)]
  have ho : Paid [(!(((M : Nat) : Int) == 2)), (!(((M : Nat) : Int) == 4)), (!(((M : Nat) : Int) == 6)), (!(((M : Nat) : Int) == 9)), (((M : Nat) : Int) == 11)] := by
    skip
    refine paid_cons ?_ (paid_cons ?_ (paid_cons ?_ (paid_cons ?_ (paid_cons ?_ (fun _ h => by cases h)))))
    all_goals (simp only [Bool.and_eq_true, Bool.or_eq_true, Bool.not_eq_true', Bool.not_true, Bool.not_false, Bool.not_eq_eq_eq_not, decide_eq_true_eq, decide_eq_false_iff_not, beq_iff_eq, beq_eq_false_iff_ne, bne_iff_ne, bne_eq_false_iff_eq, ne_eq, Bool.or_eq_false_iff, Bool.and_eq_false_imp, Bool.and_true, Bool.true_and, Bool.or_false, Bool.false_or, Bool.or_true, Bool.true_or, Bool.and_false, Bool.false_and, and_true, true_and, not_true_eq_false, not_false_eq_true, tm4, tm100, tm400]) <;> omega
  have hp : PC Try.prog 36 [.int true .u64 (Y : Int), .int true .u64 (M : Int)] (.int false .u64 30) := pc_of_go mixed noCount (dH_ok n0_ok 3) [false, false, false, false, true] rfl (dof5_eval Y M) ho rfl
  exact hp.upInt e
theorem dof6_eval (Y M : Nat) : res ((funcA Try.prog qR (dH n0 3) 100 36 [.int true .u64 (Y : Int), .int true .u64 (M : Int)] []).go [false, false, false, false, false]) = some ([(!(((M : Nat) : Int) == 2)), (!(((M : Nat) : Int) == 4)), (!(((M : Nat) : Int) == 6)), (!(((M : Nat) : Int) == 9)), (!(((M : Nat) : Int) == 11))], .int false .u64 31) := by kernel_rfl
theorem dof6 {Y M : Nat} (h : M ≠ 2 ∧ M ≠ 4 ∧ M ≠ 6 ∧ M ≠ 9 ∧ M ≠ 11) : PC Try.prog 36 [.int true .u64 (Y : Int), .int true .u64 (M : Int)] (.int true .u64 (lenM Y M : Int)) := by
  have e : ((31 : Nat) : Int) = (lenM Y M : Int) := by
    unfold lenM
    rw [if_neg (by omega), if_neg (by omega)]
  have ho : Paid [(!(((M : Nat) : Int) == 2)), (!(((M : Nat) : Int) == 4)), (!(((M : Nat) : Int) == 6)), (!(((M : Nat) : Int) == 9)), (!(((M : Nat) : Int) == 11))] := by
    skip
    refine paid_cons ?_ (paid_cons ?_ (paid_cons ?_ (paid_cons ?_ (paid_cons ?_ (fun _ h => by cases h)))))
    all_goals (simp only [Bool.and_eq_true, Bool.or_eq_true, Bool.not_eq_true', Bool.not_true, Bool.not_false, Bool.not_eq_eq_eq_not, decide_eq_true_eq, decide_eq_false_iff_not, beq_iff_eq, beq_eq_false_iff_ne, bne_iff_ne, bne_eq_false_iff_eq, ne_eq, Bool.or_eq_false_iff, Bool.and_eq_false_imp, Bool.and_true, Bool.true_and, Bool.or_false, Bool.false_or, Bool.or_true, Bool.true_or, Bool.and_false, Bool.false_and, and_true, true_and, not_true_eq_false, not_false_eq_true, tm4, tm100, tm400]) <;> omega
  have hp : PC Try.prog 36 [.int true .u64 (Y : Int), .int true .u64 (M : Int)] (.int false .u64 31) := pc_of_go mixed noCount (dH_ok n0_ok 3) [false, false, false, false, false] rfl (dof6_eval Y M) ho rfl
  exact hp.upInt e
theorem dof_call (Y M : Nat) : PC Try.prog 36 [.int true .u64 (Y : Int), .int true .u64 (M : Int)] (.int true .u64 (lenM Y M : Int)) := by
  by_cases h2 : M = 2
  · cases hl : leapB Y with
    | true => exact dof0 ⟨h2, hl⟩
    | false => exact dof1 ⟨h2, hl⟩
  by_cases h4 : M = 4
  · exact dof2 h4
  by_cases h6 : M = 6
  · exact dof3 h6
  by_cases h9 : M = 9
  · exact dof4 h9
  by_cases h11 : M = 11
  · exact dof5 h11
  exact dof6 ⟨h2, h4, h6, h9, h11⟩
def dofS : List AV → E AV
  | [.int _ .u64 y, .int _ .u64 m] => some ([decide (0 ≤ y), decide (0 ≤ m)], .int true .u64 (lenM y.toNat m.toNat : Int))
  | _ => none
theorem dofS_ok {args : List AV} {o : List Bool} {v : AV} (h : dofS args = some (o, v)) (ho : Paid o) : PureCall Try.prog 36 args v := by
  unfold dofS at h
  split at h
  · rename_i a y b m
    cases h
    have o1 := of_decide_eq_true (ho _ (List.mem_cons_self ..))
    have o2 := of_decide_eq_true (ho _ (List.mem_cons_of_mem _ (List.mem_cons_self ..)))
    have := dof_call y.toNat m.toNat
    rw [Int.toNat_of_nonneg o1, Int.toNat_of_nonneg o2] at this
    exact @PC.call _ _ _ _ _ (this.le (le_args2 _ _))
  · cases h
theorem len1_eval (Y M : Nat) : res ((funcA Try.prog qR (dH n0 3) 100 29 [.int true .i64 (Y : Int), .int true .i64 (M : Int)] []).go [true]) = some ([((!(((M : Nat) : Int) == 2)) || (((M : Nat) : Int) == 2)), ((!(((M : Nat) : Int) == 2)) || (((M : Nat) : Int) == 2)), ((!(((M : Nat) : Int) == 2)) || (((M : Nat) : Int) == 2)), ((!((((M : Nat) : Int) == 2) && ((Int.tmod ((Y : Nat) : Int) 4) == 0))) || ((((M : Nat) : Int) == 2) && ((Int.tmod ((Y : Nat) : Int) 4) == 0))), ((!((((M : Nat) : Int) == 2) && ((Int.tmod ((Y : Nat) : Int) 4) == 0))) || ((((M : Nat) : Int) == 2) && ((Int.tmod ((Y : Nat) : Int) 4) == 0))), ((!((((M : Nat) : Int) == 2) && ((Int.tmod ((Y : Nat) : Int) 4) == 0))) || ((((M : Nat) : Int) == 2) && ((Int.tmod ((Y : Nat) : Int) 4) == 0))), ((!(((((M : Nat) : Int) == 2) && ((Int.tmod ((Y : Nat) : Int) 4) == 0)) && (!((Int.tmod ((Y : Nat) : Int) 100) != 0)))) || (((((M : Nat) : Int) == 2) && ((Int.tmod ((Y : Nat) : Int) 4) == 0)) && (!((Int.tmod ((Y : Nat) : Int) 100) != 0)))), ((!(((((M : Nat) : Int) == 2) && ((Int.tmod ((Y : Nat) : Int) 4) == 0)) && (!((Int.tmod ((Y : Nat) : Int) 100) != 0)))) || (((((M : Nat) : Int) == 2) && ((Int.tmod ((Y : Nat) : Int) 4) == 0)) && (!((Int.tmod ((Y : Nat) : Int) 100) != 0)))), ((!((((M : Nat) : Int) == 2) && ((Int.tmod ((Y : Nat) : Int) 4) == 0))) || (((Int.tmod ((Y : Nat) : Int) 100) != 0) || (((((M : Nat) : Int) == 2) && ((Int.tmod ((Y : Nat) : Int) 4) == 0)) && (!((Int.tmod ((Y : Nat) : Int) 100) != 0))))), ((!((((M : Nat) : Int) == 2) && ((Int.tmod ((Y : Nat) : Int) 4) == 0))) || ((((M : Nat) : Int) == 2) && ((Int.tmod ((Y : Nat) : Int) 4) == 0))), ((!((((M : Nat) : Int) == 2) && ((Int.tmod ((Y : Nat) : Int) 4) == 0))) || ((((M : Nat) : Int) == 2) && ((Int.tmod ((Y : Nat) : Int) 4) == 0))), (((((M : Nat) : Int) == 2) && ((Int.tmod ((Y : Nat) : Int) 4) == 0)) && (((Int.tmod ((Y : Nat) : Int) 100) != 0) || ((Int.tmod ((Y : Nat) : Int) 400) == 0)))], .int false .i64 29) := by kernel_rfl
theorem len2_eval (Y M : Nat) : res ((funcA Try.prog qR (dH n0 3) 100 29 [.int true .i64 (Y : Int), .int true .i64 (M : Int)] []).go [false]) = some ([((!(((M : Nat) : Int) == 2)) || (((M : Nat) : Int) == 2)), ((!(((M : Nat) : Int) == 2)) || (((M : Nat) : Int) == 2)), ((!(((M : Nat) : Int) == 2)) || (((M : Nat) : Int) == 2)), ((!((((M : Nat) : Int) == 2) && ((Int.tmod ((Y : Nat) : Int) 4) == 0))) || ((((M : Nat) : Int) == 2) && ((Int.tmod ((Y : Nat) : Int) 4) == 0))), ((!((((M : Nat) : Int) == 2) && ((Int.tmod ((Y : Nat) : Int) 4) == 0))) || ((((M : Nat) : Int) == 2) && ((Int.tmod ((Y : Nat) : Int) 4) == 0))), ((!((((M : Nat) : Int) == 2) && ((Int.tmod ((Y : Nat) : Int) 4) == 0))) || ((((M : Nat) : Int) == 2) && ((Int.tmod ((Y : Nat) : Int) 4) == 0))), ((!(((((M : Nat) : Int) == 2) && ((Int.tmod ((Y : Nat) : Int) 4) == 0)) && (!((Int.tmod ((Y : Nat) : Int) 100) != 0)))) || (((((M : Nat) : Int) == 2) && ((Int.tmod ((Y : Nat) : Int) 4) == 0)) && (!((Int.tmod ((Y : Nat) : Int) 100) != 0)))), ((!(((((M : Nat) : Int) == 2) && ((Int.tmod ((Y : Nat) : Int) 4) == 0)) && (!((Int.tmod ((Y : Nat) : Int) 100) != 0)))) || (((((M : Nat) : Int) == 2) && ((Int.tmod ((Y : Nat) : Int) 4) == 0)) && (!((Int.tmod ((Y : Nat) : Int) 100) != 0)))), ((!((((M : Nat) : Int) == 2) && ((Int.tmod ((Y : Nat) : Int) 4) == 0))) || (((Int.tmod ((Y : Nat) : Int) 100) != 0) || (((((M : Nat) : Int) == 2) && ((Int.tmod ((Y : Nat) : Int) 4) == 0)) && (!((Int.tmod ((Y : Nat) : Int) 100) != 0))))), ((!((((M : Nat) : Int) == 2) && ((Int.tmod ((Y : Nat) : Int) 4) == 0))) || ((((M : Nat) : Int) == 2) && ((Int.tmod ((Y : Nat) : Int) 4) == 0))), ((!((((M : Nat) : Int) == 2) && ((Int.tmod ((Y : Nat) : Int) 4) == 0))) || ((((M : Nat) : Int) == 2) && ((Int.tmod ((Y : Nat) : Int) 4) == 0))), (!(((((M : Nat) : Int) == 2) && ((Int.tmod ((Y : Nat) : Int) 4) == 0)) && (((Int.tmod ((Y : Nat) : Int) 100) != 0) || ((Int.tmod ((Y : Nat) : Int) 400) == 0)))), (decide ((0 : Int) ≤ ((M : Nat) : Int)) && decide ((((M : Nat) : Int) : Int) < 13)), decide ((((0 + ((Int.toNat ((M : Nat) : Int)) * 1)) + 1) : Nat) ≤ 13)], .int true .i64 (List.getD [0, 31, 28, 31, 30, 31, 30, 31, 31, 30, 31, 30, 31] (0 + M * 1) 0)) := by kernel_rfl
theorem len_call {Y M : Nat} (hm : 1 ≤ M) (hM : M ≤ 12) : PC Try.prog 29 [.int true .i64 (Y : Int), .int true .i64 (M : Int)] (.int true .i64 (lenM Y M : Int)) := by
  by_cases h : M = 2 ∧ leapB Y = true
  · have e : ((29 : Nat) : Int) = (lenM Y M : Int) := by
      unfold lenM
      rw [if_pos h.1, h.2]; rfl
    have ho : Paid [((!(((M : Nat) : Int) == 2)) || (((M : Nat) : Int) == 2)), ((!(((M : Nat) : Int) == 2)) || (((M : Nat) : Int) == 2)), ((!(((M : Nat) : Int) == 2)) || (((M : Nat) : Int) == 2)), ((!((((M : Nat) : Int) == 2) && ((Int.tmod ((Y : Nat) : Int) 4) == 0))) || ((((M : Nat) : Int) == 2) && ((Int.tmod ((Y : Nat) : Int) 4) == 0))), ((!((((M : Nat) : Int) == 2) && ((Int.tmod ((Y : Nat) : Int) 4) == 0))) || ((((M : Nat) : Int) == 2) && ((Int.tmod ((Y : Nat) : Int) 4) == 0))), ((!((((M : Nat) : Int) == 2) && ((Int.tmod ((Y : Nat) : Int) 4) == 0))) || ((((M : Nat) : Int) == 2) && ((Int.tmod ((Y : Nat) : Int) 4) == 0))), ((!(((((M : Nat) : Int) == 2) && ((Int.tmod ((Y : Nat) : Int) 4) == 0)) && (!((Int.tmod ((Y : Nat) : Int) 100) != 0)))) || (((((M : Nat) : Int) == 2) && ((Int.tmod ((Y : Nat) : Int) 4) == 0)) && (!((Int.tmod ((Y : Nat) : Int) 100) != 0)))), ((!(((((M : Nat) : Int) == 2) && ((Int.tmod ((Y : Nat) : Int) 4) == 0)) && (!((Int.tmod ((Y : Nat) : Int) 100) != 0)))) || (((((M : Nat) : Int) == 2) && ((Int.tmod ((Y : Nat) : Int) 4) == 0)) && (!((Int.tmod ((Y : Nat) : Int) 100) != 0)))), ((!((((M : Nat) : Int) == 2) && ((Int.tmod ((Y : Nat) : Int) 4) == 0))) || (((Int.tmod ((Y : Nat) : Int) 100) != 0) || (((((M : Nat) : Int) == 2) && ((Int.tmod ((Y : Nat) : Int) 4) == 0)) && (!((Int.tmod ((Y : Nat) : Int) 100) != 0))))), ((!((((M : Nat) : Int) == 2) && ((Int.tmod ((Y : Nat) : Int) 4) == 0))) || ((((M : Nat) : Int) == 2) && ((Int.tmod ((Y : Nat) : Int) 4) == 0))), ((!((((M : Nat) : Int) == 2) && ((Int.tmod ((Y : Nat) : Int) 4) == 0))) || ((((M : Nat) : Int) == 2) && ((Int.tmod ((Y : Nat) : Int) 4) == 0))), (((((M : Nat) : Int) == 2) && ((Int.tmod ((Y : Nat) : Int) 4) == 0)) && (((Int.tmod ((Y : Nat) : Int) 100) != 0) || ((Int.tmod ((Y : Nat) : Int) 400) == 0)))] := by
      have h1 := h.1
      have h2 := leapB_true.1 h.2
      refine paid_cons ?_ (paid_cons ?_ (paid_cons ?_ (paid_cons ?_ (paid_cons ?_ (paid_cons ?_ (paid_cons ?_ (paid_cons ?_ (paid_cons ?_ (paid_cons ?_ (paid_cons ?_ (paid_cons ?_ (fun _ h => by cases h))))))))))))
      all_goals (simp only [Bool.and_eq_true, Bool.or_eq_true, Bool.not_eq_true', Bool.not_true, Bool.not_false, Bool.not_eq_eq_eq_not, decide_eq_true_eq, decide_eq_false_iff_not, beq_iff_eq, beq_eq_false_iff_ne, bne_iff_ne, bne_eq_false_iff_eq, ne_eq, Bool.or_eq_false_iff, Bool.and_eq_false_imp, Bool.and_true, Bool.true_and, Bool.or_false, Bool.false_or, Bool.or_true, Bool.true_or, Bool.and_false, Bool.false_and, and_true, true_and, not_true_eq_false, not_false_eq_true, tm4, tm100, tm400]) <;> omega
    have hp : PC Try.prog 29 [.int true .i64 (Y : Int), .int true .i64 (M : Int)] (.int false .i64 29) := pc_of_go mixed noCount (dH_ok n0_ok 3) [true] rfl (len1_eval Y M) ho rfl
    exact hp.upInt e
  · have e : List.getD [0, 31, 28, 31, 30, 31, 30, 31, 31, 30, 31, 30, 31] (0 + M * 1) 0 = (lenM Y M : Int) := by
      unfold lenM
      have h12 : M = 1 ∨ M = 2 ∨ M = 3 ∨ M = 4 ∨ M = 5 ∨ M = 6 ∨ M = 7 ∨ M = 8 ∨ M = 9 ∨ M = 10 ∨ M = 11 ∨ M = 12 := by omega
      rcases h12 with rfl | rfl | rfl | rfl | rfl | rfl | rfl | rfl | rfl | rfl | rfl | rfl
      case inr.inl =>
        have hl : leapB Y = false := by
          cases hl : leapB Y with
          | true => exact absurd ⟨rfl, hl⟩ h
          | false => rfl
        rw [hl]; rfl
      all_goals rfl
    have ho : Paid [((!(((M : Nat) : Int) == 2)) || (((M : Nat) : Int) == 2)), ((!(((M : Nat) : Int) == 2)) || (((M : Nat) : Int) == 2)), ((!(((M : Nat) : Int) == 2)) || (((M : Nat) : Int) == 2)), ((!((((M : Nat) : Int) == 2) && ((Int.tmod ((Y : Nat) : Int) 4) == 0))) || ((((M : Nat) : Int) == 2) && ((Int.tmod ((Y : Nat) : Int) 4) == 0))), ((!((((M : Nat) : Int) == 2) && ((Int.tmod ((Y : Nat) : Int) 4) == 0))) || ((((M : Nat) : Int) == 2) && ((Int.tmod ((Y : Nat) : Int) 4) == 0))), ((!((((M : Nat) : Int) == 2) && ((Int.tmod ((Y : Nat) : Int) 4) == 0))) || ((((M : Nat) : Int) == 2) && ((Int.tmod ((Y : Nat) : Int) 4) == 0))), ((!(((((M : Nat) : Int) == 2) && ((Int.tmod ((Y : Nat) : Int) 4) == 0)) && (!((Int.tmod ((Y : Nat) : Int) 100) != 0)))) || (((((M : Nat) : Int) == 2) && ((Int.tmod ((Y : Nat) : Int) 4) == 0)) && (!((Int.tmod ((Y : Nat) : Int) 100) != 0)))), ((!(((((M : Nat) : Int) == 2) && ((Int.tmod ((Y : Nat) : Int) 4) == 0)) && (!((Int.tmod ((Y : Nat) : Int) 100) != 0)))) || (((((M : Nat) : Int) == 2) && ((Int.tmod ((Y : Nat) : Int) 4) == 0)) && (!((Int.tmod ((Y : Nat) : Int) 100) != 0)))), ((!((((M : Nat) : Int) == 2) && ((Int.tmod ((Y : Nat) : Int) 4) == 0))) || (((Int.tmod ((Y : Nat) : Int) 100) != 0) || (((((M : Nat) : Int) == 2) && ((Int.tmod ((Y : Nat) : Int) 4) == 0)) && (!((Int.tmod ((Y : Nat) : Int) 100) != 0))))), ((!((((M : Nat) : Int) == 2) && ((Int.tmod ((Y : Nat) : Int) 4) == 0))) || ((((M : Nat) : Int) == 2) && ((Int.tmod ((Y : Nat) : Int) 4) == 0))), ((!((((M : Nat) : Int) == 2) && ((Int.tmod ((Y : Nat) : Int) 4) == 0))) || ((((M : Nat) : Int) == 2) && ((Int.tmod ((Y : Nat) : Int) 4) == 0))), (!(((((M : Nat) : Int) == 2) && ((Int.tmod ((Y : Nat) : Int) 4) == 0)) && (((Int.tmod ((Y : Nat) : Int) 100) != 0) || ((Int.tmod ((Y : Nat) : Int) 400) == 0)))), (decide ((0 : Int) ≤ ((M : Nat) : Int)) && decide ((((M : Nat) : Int) : Int) < 13)), decide ((((0 + ((Int.toNat ((M : Nat) : Int)) * 1)) + 1) : Nat) ≤ 13)] := by
      have h2 : M = 2 → ¬ (Y % 4 = 0 ∧ (Y % 100 ≠ 0 ∨ Y % 400 = 0)) := fun e hl => h ⟨e, leapB_true.2 hl⟩
      refine paid_cons ?_ (paid_cons ?_ (paid_cons ?_ (paid_cons ?_ (paid_cons ?_ (paid_cons ?_ (paid_cons ?_ (paid_cons ?_ (paid_cons ?_ (paid_cons ?_ (paid_cons ?_ (paid_cons ?_ (paid_cons ?_ (paid_cons ?_ (fun _ h => by cases h))))))))))))))
      all_goals (simp only [Bool.and_eq_true, Bool.or_eq_true, Bool.not_eq_true', Bool.not_true, Bool.not_false, Bool.not_eq_eq_eq_not, decide_eq_true_eq, decide_eq_false_iff_not, beq_iff_eq, beq_eq_false_iff_ne, bne_iff_ne, bne_eq_false_iff_eq, ne_eq, Bool.or_eq_false_iff, Bool.and_eq_false_imp, Bool.and_true, Bool.true_and, Bool.or_false, Bool.false_or, Bool.or_true, Bool.true_or, Bool.and_false, Bool.false_and, and_true, true_and, not_true_eq_false, not_false_eq_true, tm4, tm100, tm400]) <;> omega
    have hp : PC Try.prog 29 [.int true .i64 (Y : Int), .int true .i64 (M : Int)] (.int true .i64 (List.getD [0, 31, 28, 31, 30, 31, 30, 31, 31, 30, 31, 30, 31] (0 + M * 1) 0)) := pc_of_go mixed noCount (dH_ok n0_ok 3) [false] rfl (len2_eval Y M) ho rfl
    exact hp.upInt e
def lenS : List AV → E AV
  | [.int _ .i64 y, .int _ .i64 m] => some ([decide (0 ≤ y), decide (1 ≤ m), decide (m ≤ 12)], .int true .i64 (lenM y.toNat m.toNat : Int))
  | _ => none
theorem lenS_ok {args : List AV} {o : List Bool} {v : AV} (h : lenS args = some (o, v)) (ho : Paid o) : PureCall Try.prog 29 args v := by
  unfold lenS at h
  split at h
  · rename_i a y b m
    cases h
    have o1 := of_decide_eq_true (ho _ (List.mem_cons_self ..))
    have o2 := of_decide_eq_true (ho _ (List.mem_cons_of_mem _ (List.mem_cons_self ..)))
    have o3 := of_decide_eq_true (ho _ (List.mem_cons_of_mem _ (List.mem_cons_of_mem _ (List.mem_cons_self ..))))
    have := len_call (Y := y.toNat) (M := m.toNat) (by omega) (by omega)
    rw [Int.toNat_of_nonneg o1, Int.toNat_of_nonneg (by omega : (0 : Int) ≤ m)] at this
    exact @PC.call _ _ _ _ _ (this.le (le_args2 _ _))
  · cases h
theorem wrapU64 (x : Int) : IntKind.wrap .u64 x = x % 18446744073709551616 := by
  unfold IntKind.wrap; simp [IntKind.bits, IntKind.signed]
theorem td4 (x : Nat) : Int.tdiv (x : Int) 4 = ((x / 4 : Nat) : Int) := td_nat x 4
theorem td100 (x : Nat) : Int.tdiv (x : Int) 100 = ((x / 100 : Nat) : Int) := td_nat x 100
theorem td400 (x : Nat) : Int.tdiv (x : Int) 400 = ((x / 400 : Nat) : Int) := td_nat x 400
def ahX (y : Int) : Int := IntKind.wrap .u64 (IntKind.wrap .u64 (IntKind.wrap .u64 (365 * IntKind.wrap .u64 (y - 1970)) + IntKind.wrap .u64 (IntKind.wrap .u64 (IntKind.wrap .u64 (Int.tdiv (IntKind.wrap .u64 (y - 1)) 4) - IntKind.wrap .u64 (Int.tdiv (IntKind.wrap .u64 (y - 1)) 100)) + IntKind.wrap .u64 (Int.tdiv (IntKind.wrap .u64 (y - 1)) 400))) - 477)
theorem ahX_eq {Y : Nat} (h : 1970 ≤ Y) (h2 : Y ≤ 100000) : ahX (Y : Int) = (ahdY Y : Int) := by
  have e1 : IntKind.wrap .u64 ((Y : Int) - 1) = ((Y - 1 : Nat) : Int) := by rw [wrapU64]; omega
  have e2 : IntKind.wrap .u64 ((Y : Int) - 1970) = ((Y - 1970 : Nat) : Int) := by rw [wrapU64]; omega
  have h477 : 477 ≤ lpY (Y - 1) := lp_mono (a := 1969) (by omega)
  have hle : (Y - 1) / 100 ≤ (Y - 1) / 4 := by omega
  unfold ahX
  rw [e1, e2, td4, td100, td400]
  generalize hA : (Y - 1) / 4 = A at *
  generalize hB : (Y - 1) / 100 = B at *
  generalize hC : (Y - 1) / 400 = C at *
  have hL : lpY (Y - 1) = A - B + C := by unfold lpY; rw [hA, hB, hC]
  have hA2 : A ≤ 100000 := by omega
  have hC2 : C ≤ 100000 := by omega
  have hY2 : Y - 1970 ≤ 100000 := by omega
  unfold ahdY
  generalize hQ : Y - 1970 = Q at *
  clear hA hB hC hQ e1 e2 h h2
  have a1 : IntKind.wrap .u64 (A : Int) = A := by rw [wrapU64]; omega
  have a2 : IntKind.wrap .u64 (B : Int) = B := by rw [wrapU64]; omega
  have a3 : IntKind.wrap .u64 (C : Int) = C := by rw [wrapU64]; omega
  have a4 : IntKind.wrap .u64 ((A : Int) - B) = A - B := by rw [wrapU64]; omega
  have a5 : IntKind.wrap .u64 ((A : Int) - B + C) = A - B + C := by rw [wrapU64]; omega
  have a6 : IntKind.wrap .u64 (365 * (Q : Int)) = 365 * (Q : Int) := by rw [wrapU64]; omega
  have a7 : IntKind.wrap .u64 (365 * (Q : Int) + (A - B + C)) = 365 * (Q : Int) + (A - B + C) := by rw [wrapU64]; omega
  rw [a1, a2, a3, a4, a5, a6, a7, wrapU64]
  omega
theorem ah_eval (y : Int) : res ((funcA Try.prog qR (dH n0 3) 100 21 [.int true .u64 y] []).go []) = some ([], .int true .u64 (ahX y)) := by kernel_rfl
def ahS : List AV → E AV
  | [.int true .u64 y] => some ([decide (1970 ≤ y), decide (y ≤ 100000)], .int true .u64 (ahdY y.toNat : Int))
  | _ => none
theorem ahS_ok {args : List AV} {o : List Bool} {v : AV} (h : ahS args = some (o, v)) (ho : Paid o) : PureCall Try.prog 21 args v := by
  unfold ahS at h
  split at h
  · rename_i y
    cases h
    have o1 := of_decide_eq_true (ho _ (List.mem_cons_self ..))
    have o2 := of_decide_eq_true (ho _ (List.mem_cons_of_mem _ (List.mem_cons_self ..)))
    have hp : PC Try.prog 21 [.int true .u64 y] (.int true .u64 (ahX y)) := pc_of_go mixed noCount (dH_ok n0_ok 3) [] rfl (ah_eval y) (fun _ h => by cases h) rfl
    refine @PC.call _ _ _ _ _ (hp.upInt ?_)
    have := ahX_eq (Y := y.toNat) (by omega) (by omega)
    rw [Int.toNat_of_nonneg (by omega : (0 : Int) ≤ y)] at this
    exact this
  · cases h
noncomputable def hd1 (X : CallH) : CallH := withC 36 dofS (withC 21 ahS (withC 29 lenS X))
theorem hd1_ok {X : CallH} (h : HOk Try.prog X) : HOk Try.prog (hd1 X) := ((h.withC fun _ _ _ h ho => lenS_ok h ho).withC fun _ _ _ h ho => ahS_ok h ho).withC fun _ _ _ h ho => dofS_ok h ho
end Go.Proofs.Ytjhjhhibfojpiaa
