/- withoutZeros: its loop as a family; Natural's contract. Own work. -/
import Derived.Test.YthpafpifpdeikaaSDeO
set_option linter.unusedSimpArgs false
set_option linter.unusedVariables false
set_option linter.unusedSectionVars false
namespace Go.Proofs.Ythpafpifpdeikaa
open Go.Ev Go.De
set_option maxRecDepth 100000
set_option linter.unusedSimpArgs false
set_option linter.unusedVariables false
variable [Tab]
structure wzP where
  N : Nat
  n : Nat
  l : List Int
  j : Nat
  tail : Mem
  hb : bndM (tail.length + 1) tail = true
def wzTs : List Nat := [0]
def wzV (s : wzP) : List AV := [.slice true 0 s.j (s.N - s.j) none 1]
def wzM (s : wzP) : Mem := some ⟨false, .ints .u8 (some s.n) s.l⟩ :: s.tail
def wzPat : List AV → Mem → Option wzP
  | [.slice true 0 0 N none 1], some ⟨false, .ints .u8 (some n) l⟩ :: tail => if hb : bndM (tail.length + 1) tail = true then some ⟨N, n, l, 0, tail, hb⟩ else none
  | _, _ => none
def wzDt (s : wzP) : List Bool := [decide ((((wzP.N s) - (wzP.j s)) : Nat) < 9223372036854775808), ((!decide ((((((wzP.N s) - (wzP.j s)) : Nat) : Int) : Int) > 0)) || (decide ((0 : Int) ≤ 0) && decide ((0 : Int) < ((((wzP.N s) - (wzP.j s)) : Nat) : Int)))), ((!decide ((((((wzP.N s) - (wzP.j s)) : Nat) : Int) : Int) > 0)) || decide ((((((wzP.N s) - (wzP.j s)) : Nat) : Int) : Int) > 0)), ((!decide ((((((wzP.N s) - (wzP.j s)) : Nat) : Int) : Int) > 0)) || decide (((((wzP.j s) + 0) + 1) : Nat) ≤ (wzP.n s))), ((!decide ((((((wzP.N s) - (wzP.j s)) : Nat) : Int) : Int) > 0)) || decide ((((((wzP.N s) - (wzP.j s)) : Nat) : Int) : Int) > 0)), ((!decide ((((((wzP.N s) - (wzP.j s)) : Nat) : Int) : Int) > 0)) || decide ((((((wzP.N s) - (wzP.j s)) : Nat) : Int) : Int) > 0)), ((!decide ((((((wzP.N s) - (wzP.j s)) : Nat) : Int) : Int) > 0)) || decide ((((((wzP.N s) - (wzP.j s)) : Nat) : Int) : Int) > 0)), (decide ((((((wzP.N s) - (wzP.j s)) : Nat) : Int) : Int) > 0) && ((List.getD (wzP.l s) ((wzP.j s) + 0) 0) == 0)), (decide ((0 : Int) ≤ 1) && decide ((1 : Int) ≤ ((((wzP.N s) - (wzP.j s)) : Nat) : Int)))]
def wzDf (s : wzP) : List Bool := [decide ((((wzP.N s) - (wzP.j s)) : Nat) < 9223372036854775808), ((!decide ((((((wzP.N s) - (wzP.j s)) : Nat) : Int) : Int) > 0)) || (decide ((0 : Int) ≤ 0) && decide ((0 : Int) < ((((wzP.N s) - (wzP.j s)) : Nat) : Int)))), ((!decide ((((((wzP.N s) - (wzP.j s)) : Nat) : Int) : Int) > 0)) || decide ((((((wzP.N s) - (wzP.j s)) : Nat) : Int) : Int) > 0)), ((!decide ((((((wzP.N s) - (wzP.j s)) : Nat) : Int) : Int) > 0)) || decide (((((wzP.j s) + 0) + 1) : Nat) ≤ (wzP.n s))), ((!decide ((((((wzP.N s) - (wzP.j s)) : Nat) : Int) : Int) > 0)) || decide ((((((wzP.N s) - (wzP.j s)) : Nat) : Int) : Int) > 0)), ((!decide ((((((wzP.N s) - (wzP.j s)) : Nat) : Int) : Int) > 0)) || decide ((((((wzP.N s) - (wzP.j s)) : Nat) : Int) : Int) > 0)), ((!decide ((((((wzP.N s) - (wzP.j s)) : Nat) : Int) : Int) > 0)) || decide ((((((wzP.N s) - (wzP.j s)) : Nat) : Int) : Int) > 0)), (!(decide ((((((wzP.N s) - (wzP.j s)) : Nat) : Int) : Int) > 0) && ((List.getD (wzP.l s) ((wzP.j s) + 0) 0) == 0)))]
theorem wz_t (y : Nat → AV) (s : wzP) : seesL wzTs ((codeL Try.prog qR n0 (fun _ _ => none) 100 (lp (blk 0 (bodyOf Try.prog 34))) ⟨tmOf (ups y (zipU wzTs (wzV s))) 15, wzM s⟩).go [true]) = some (wzDt s, 0, [.slice true 0 (s.j + 1) (s.N - s.j - 1) none 1], 15, wzM s) := by kernel_rfl
theorem wz_f (y : Nat → AV) (s : wzP) : seesL wzTs ((codeL Try.prog qR n0 (fun _ _ => none) 100 (lp (blk 0 (bodyOf Try.prog 34))) ⟨tmOf (ups y (zipU wzTs (wzV s))) 15, wzM s⟩).go [false]) = some (wzDf s, 2, wzV s, 15, wzM s) := by kernel_rfl
def wzO (s : wzP) : List Bool := [decide (s.n = s.N), decide (s.l.length = s.N), decide (s.N < 1000000000000)]
def wzF (s : wzP) : List (Nat × AV) × Mem := ([(0, .slice true 0 (zer s.l) (s.N - zer s.l) none 1)], wzM s)
def wzΛ : LoopH := famH 0 15 wzTs wzPat wzO wzF fun _ _ => none
theorem wz_pay {s : wzP} (h1 : s.n = s.N) (h3 : s.N < 1000000000000) (hj : s.j ≤ s.N) : (s.j < s.N ∧ s.l.getD s.j 0 = 0 → Paid (wzDt s)) ∧ (¬ (s.j < s.N ∧ s.l.getD s.j 0 = 0) → Paid (wzDf s)) := by
  have e : s.j + 0 * 1 = s.j := by omega
  refine ⟨fun hj => ?_, fun hj => ?_⟩
  · unfold wzDt
    simp only [e, h1]
    refine paid_cons ?_ (paid_cons ?_ (paid_cons ?_ (paid_cons ?_ (paid_cons ?_ (paid_cons ?_ (paid_cons ?_ (paid_cons ?_ (paid_cons ?_ (fun _ h => by cases h)))))))))
    all_goals (try simp only [Bool.and_eq_true, Bool.or_eq_true, Bool.not_eq_true', Bool.not_true, Bool.not_false, Bool.not_eq_eq_eq_not, decide_eq_true_eq, decide_eq_false_iff_not, beq_iff_eq, beq_eq_false_iff_ne, bne_iff_ne, bne_eq_false_iff_eq, ne_eq, Bool.or_eq_false_iff, Bool.and_eq_false_imp, Bool.and_true, Bool.true_and, Bool.or_false, Bool.false_or, Bool.or_true, Bool.true_or, Bool.and_false, Bool.false_and, and_true, true_and, not_true_eq_false, not_false_eq_true, Nat.add_zero, Nat.mul_one]) <;> omega
  · unfold wzDf
    simp only [e, h1]
    refine paid_cons ?_ (paid_cons ?_ (paid_cons ?_ (paid_cons ?_ (paid_cons ?_ (paid_cons ?_ (paid_cons ?_ (paid_cons ?_ (fun _ h => by cases h))))))))
    all_goals (try simp only [Bool.and_eq_true, Bool.or_eq_true, Bool.not_eq_true', Bool.not_true, Bool.not_false, Bool.not_eq_eq_eq_not, decide_eq_true_eq, decide_eq_false_iff_not, beq_iff_eq, beq_eq_false_iff_ne, bne_iff_ne, bne_eq_false_iff_eq, ne_eq, Bool.or_eq_false_iff, Bool.and_eq_false_imp, Bool.and_true, Bool.true_and, Bool.or_false, Bool.false_or, Bool.or_true, Bool.true_or, Bool.and_false, Bool.false_and, and_true, true_and, not_true_eq_false, not_false_eq_true, Nat.add_zero, Nat.mul_one]) <;> omega
theorem wz_lok : LOk Try.prog (bodyOf Try.prog 34) wzΛ := by
  refine fam_ok (q := qR) (n := 100) wzV wzM (fun s s1 => s.n = s.N ∧ s.l.length = s.N ∧ s.N < 1000000000000 ∧ ∃ j : Nat, j ≤ zer s.l ∧ s1 = { s with j := j }) (fun s => s.N - s.j) mixed n0_ok LOk.none LOk.none (by kernel_rfl) (by kernel_rfl) (fun s => s.hb) (fun s => ?_) (fun avs m s h ho => ?_) (fun s s1 hJ y => ?_)
  · simp [wzV, wzM, bndL, bndA]
  · unfold wzPat at h
    split at h
    · split at h
      · cases h
        have o1 := of_decide_eq_true (ho _ (List.mem_cons_self ..))
        have o2 := of_decide_eq_true (ho _ (List.mem_cons_of_mem _ (List.mem_cons_self ..)))
        have o3 := of_decide_eq_true (ho _ (List.mem_cons_of_mem _ (List.mem_cons_of_mem _ (List.mem_cons_self ..))))
        simp only at o1 o2 o3
        exact ⟨_, LeL.refl _, rfl, o1, o2, o3, 0, Nat.zero_le _, rfl⟩
      · cases h
    · cases h
  · obtain ⟨h1, h2, h3, j, h4, rfl⟩ := hJ
    have hle := zer_le s.l
    obtain ⟨pt, pf⟩ := wz_pay (s := { s with j := j }) h1 h3 (by show j ≤ s.N; omega)
    by_cases hj : j < s.N ∧ s.l.getD j 0 = 0
    · have hz : j < zer s.l := by
        by_cases h : j < zer s.l
        · exact h
        · exfalso
          have e : j = zer s.l := by omega
          exact zer_end s.l (by omega) (e ▸ hj.2)
      exact Round.on (wz_t y _) { s with j := j + 1 } [] (by rw [List.append_nil]; rfl) (pt hj)
        (by show LeL [.slice true 0 (j + 1) (s.N - j - 1) none 1] [.slice true 0 (j + 1) (s.N - (j + 1)) none 1]
            rw [Nat.sub_sub]; exact LeL.refl _) ⟨h1, h2, h3, j + 1, hz, rfl⟩ rfl (by show s.N - (j + 1) < s.N - j; omega)
    · have hz : j = zer s.l := by
        by_cases h : j < zer s.l
        · exact absurd ⟨by omega, zer_at s.l j h⟩ hj
        · omega
      subst hz
      refine Round.out (wz_f y _) rfl rfl (pf hj) fun p hp => ⟨p.2, ?_, .refl _⟩
      simp only [wzF, List.mem_cons, List.not_mem_nil, or_false] at hp
      subst hp
      simp [wzTs, wzV, zipU]
/-- withoutZeros walked; before another handler. -/
noncomputable def wzH (X : CallH) : CallH := inL Try.prog qR n0 wzΛ 100 34 [] X
theorem wzH_ok {X : CallH} (h : HOk Try.prog X) : HOk Try.prog (wzH X) := HOk.inL mixed noCount n0_ok h 100 _ _ fun fn c hf hb => by rw [bodyOf_eq hf hb]; exact wz_lok
end Go.Proofs.Ythpafpifpdeikaa
