/- Loops over the zeros ahead, as families. Own work. -/
import Derived.Test.YthpafpifpdeikaaSDeF
import Derived.Test.YthpafpifpdeikaaSDeN
set_option linter.unusedSimpArgs false
set_option linter.unusedVariables false
set_option linter.unusedSectionVars false
namespace Go.Proofs.Ythpafpifpdeikaa
open Go.Ev Go.De
set_option maxRecDepth 100000
set_option linter.unusedSimpArgs false
set_option linter.unusedVariables false
variable [Tab]
structure rnP where
  N : Nat
  n : Nat
  l : List Int
  i : Int
  tail : Mem
  hb : bndM (tail.length + 1) tail = true
def rnTs : List Nat := [0, 3]
def rnV (s : rnP) : List AV := [.slice true 0 0 s.N none 1, .int true .i64 s.i]
def rnM (s : rnP) : Mem := some ⟨false, .ints .u8 (some s.n) s.l⟩ :: s.tail
def rnPat : List AV → Mem → Option rnP
  | [.slice true 0 0 N none 1, .int _ .i64 i], some ⟨false, .ints .u8 (some n) l⟩ :: tail => if hb : bndM (tail.length + 1) tail = true then some ⟨N, n, l, i, tail, hb⟩ else none
  | _, _ => none
structure rwP where
  N : Nat
  n : Nat
  l : List Int
  i : Int
  tail : Mem
  hb : bndM (tail.length + 2) tail = true
def rwTs : List Nat := [0, 4]
def rwV (s : rwP) : List AV := [.slice true 1 0 s.N none 1, .int true .i64 s.i]
def rwM (s : rwP) : Mem := none :: some ⟨false, .ints .u8 (some s.n) s.l⟩ :: s.tail
def rwPat : List AV → Mem → Option rwP
  | [.slice true 1 0 N none 1, .int _ .i64 i], none :: some ⟨false, .ints .u8 (some n) l⟩ :: tail => if hb : bndM (tail.length + 2) tail = true then some ⟨N, n, l, i, tail, hb⟩ else none
  | _, _ => none
structure lnP where
  N : Nat
  n : Nat
  l : List Int
  i : Int
  tail : Mem
  k0 : AV
  k1 : AV
  k2 : AV
  hb : bndM (tail.length + 2) tail = true
  hk : bndL (tail.length + 2) [k0, k1, k2] = true
def lnTs : List Nat := [1, 16, 13, 14, 15]
def lnV (s : lnP) : List AV := [.slice true 1 0 s.N none 1, .int true .i64 s.i, s.k0, s.k1, s.k2]
def lnM (s : lnP) : Mem := none :: some ⟨false, .ints .u8 (some s.n) s.l⟩ :: s.tail
def lnPat : List AV → Mem → Option lnP
  | [.slice true 1 0 N none 1, .int _ .i64 i, k0, k1, k2], none :: some ⟨false, .ints .u8 (some n) l⟩ :: tail => if hb : bndM (tail.length + 2) tail = true then (if hk : bndL (tail.length + 2) [k0, k1, k2] = true then some ⟨N, n, l, i, tail, k0, k1, k2, hb, hk⟩ else none) else none
  | _, _ => none
def rnDt (s : rnP) : List Bool := [decide (((rnP.N s) : Nat) < 9223372036854775808), ((!decide (((rnP.i s) : Int) < (((rnP.N s) : Nat) : Int))) || (decide ((0 : Int) ≤ (rnP.i s)) && decide (((rnP.i s) : Int) < (((rnP.N s) : Nat) : Int)))), ((!decide (((rnP.i s) : Int) < (((rnP.N s) : Nat) : Int))) || decide (((rnP.i s) : Int) < (((rnP.N s) : Nat) : Int))), ((!decide (((rnP.i s) : Int) < (((rnP.N s) : Nat) : Int))) || decide (((rnP.i s) : Int) < (((rnP.N s) : Nat) : Int))), ((!decide (((rnP.i s) : Int) < (((rnP.N s) : Nat) : Int))) || decide ((((0 + ((Int.toNat (rnP.i s)) * 1)) + 1) : Nat) ≤ (rnP.n s))), ((!decide (((rnP.i s) : Int) < (((rnP.N s) : Nat) : Int))) || decide (((rnP.i s) : Int) < (((rnP.N s) : Nat) : Int))), ((!decide (((rnP.i s) : Int) < (((rnP.N s) : Nat) : Int))) || decide (((rnP.i s) : Int) < (((rnP.N s) : Nat) : Int))), ((!decide (((rnP.i s) : Int) < (((rnP.N s) : Nat) : Int))) || decide (((rnP.i s) : Int) < (((rnP.N s) : Nat) : Int))), (decide (((rnP.i s) : Int) < (((rnP.N s) : Nat) : Int)) && ((List.getD (rnP.l s) (0 + ((Int.toNat (rnP.i s)) * 1)) 0) == 0))]
def rnDf (s : rnP) : List Bool := [decide (((rnP.N s) : Nat) < 9223372036854775808), ((!decide (((rnP.i s) : Int) < (((rnP.N s) : Nat) : Int))) || (decide ((0 : Int) ≤ (rnP.i s)) && decide (((rnP.i s) : Int) < (((rnP.N s) : Nat) : Int)))), ((!decide (((rnP.i s) : Int) < (((rnP.N s) : Nat) : Int))) || decide (((rnP.i s) : Int) < (((rnP.N s) : Nat) : Int))), ((!decide (((rnP.i s) : Int) < (((rnP.N s) : Nat) : Int))) || decide (((rnP.i s) : Int) < (((rnP.N s) : Nat) : Int))), ((!decide (((rnP.i s) : Int) < (((rnP.N s) : Nat) : Int))) || decide ((((0 + ((Int.toNat (rnP.i s)) * 1)) + 1) : Nat) ≤ (rnP.n s))), ((!decide (((rnP.i s) : Int) < (((rnP.N s) : Nat) : Int))) || decide (((rnP.i s) : Int) < (((rnP.N s) : Nat) : Int))), ((!decide (((rnP.i s) : Int) < (((rnP.N s) : Nat) : Int))) || decide (((rnP.i s) : Int) < (((rnP.N s) : Nat) : Int))), ((!decide (((rnP.i s) : Int) < (((rnP.N s) : Nat) : Int))) || decide (((rnP.i s) : Int) < (((rnP.N s) : Nat) : Int))), (!(decide (((rnP.i s) : Int) < (((rnP.N s) : Nat) : Int)) && ((List.getD (rnP.l s) (0 + ((Int.toNat (rnP.i s)) * 1)) 0) == 0)))]
theorem rn_t (y : Nat → AV) (s : rnP) : seesL rnTs ((codeL Try.prog qR n0 (fun _ _ => none) 100 (lp (blk 0 (bodyOf Try.prog 24))) ⟨tmOf (ups y (zipU rnTs (rnV s))) 36, rnM s⟩).go [true]) = some (rnDt s, 0, [.slice true 0 0 s.N none 1, .int true .i64 (IntKind.wrap .i64 (s.i + 1))], 36, rnM s) := by kernel_rfl
theorem rn_f (y : Nat → AV) (s : rnP) : seesL rnTs ((codeL Try.prog qR n0 (fun _ _ => none) 100 (lp (blk 0 (bodyOf Try.prog 24))) ⟨tmOf (ups y (zipU rnTs (rnV s))) 36, rnM s⟩).go [false]) = some (rnDf s, 2, rnV s, 36, rnM s) := by kernel_rfl
def rnO (s : rnP) : List Bool := [decide (s.n = s.N), decide (s.l.length = s.N), decide (s.N < 1000000000000), decide (s.i = 0)]
def rnF (s : rnP) : List (Nat × AV) × Mem := ([(0, .slice true 0 0 s.N none 1), (3, .int true .i64 (zer s.l : Int))], rnM s)
def rnΛ (Λ : LoopH) : LoopH := famH 0 36 rnTs rnPat rnO rnF Λ
theorem rn_pay {s : rnP} {j : Nat} (h1 : s.n = s.N) (h3 : s.N < 1000000000000) (hi : s.i = (j : Int)) : (j < s.N ∧ s.l.getD j 0 = 0 → Paid (rnDt s)) ∧ (¬ (j < s.N ∧ s.l.getD j 0 = 0) → Paid (rnDf s)) := by
  have e : 0 + (j : Int).toNat * 1 = j := by omega
  refine ⟨fun hj => ?_, fun hj => ?_⟩
  · unfold rnDt
    simp only [hi, e, h1]
    refine paid_cons ?_ (paid_cons ?_ (paid_cons ?_ (paid_cons ?_ (paid_cons ?_ (paid_cons ?_ (paid_cons ?_ (paid_cons ?_ (paid_cons ?_ (fun _ h => by cases h)))))))))
    all_goals (try simp only [Bool.and_eq_true, Bool.or_eq_true, Bool.not_eq_true', Bool.not_true, Bool.not_false, Bool.not_eq_eq_eq_not, decide_eq_true_eq, decide_eq_false_iff_not, beq_iff_eq, beq_eq_false_iff_ne, bne_iff_ne, bne_eq_false_iff_eq, ne_eq, Bool.or_eq_false_iff, Bool.and_eq_false_imp, Bool.and_true, Bool.true_and, Bool.or_false, Bool.false_or, Bool.or_true, Bool.true_or, Bool.and_false, Bool.false_and, and_true, true_and, not_true_eq_false, not_false_eq_true]) <;> omega
  · unfold rnDf
    simp only [hi, e, h1]
    refine paid_cons ?_ (paid_cons ?_ (paid_cons ?_ (paid_cons ?_ (paid_cons ?_ (paid_cons ?_ (paid_cons ?_ (paid_cons ?_ (paid_cons ?_ (fun _ h => by cases h)))))))))
    all_goals (try simp only [Bool.and_eq_true, Bool.or_eq_true, Bool.not_eq_true', Bool.not_true, Bool.not_false, Bool.not_eq_eq_eq_not, decide_eq_true_eq, decide_eq_false_iff_not, beq_iff_eq, beq_eq_false_iff_ne, bne_iff_ne, bne_eq_false_iff_eq, ne_eq, Bool.or_eq_false_iff, Bool.and_eq_false_imp, Bool.and_true, Bool.true_and, Bool.or_false, Bool.false_or, Bool.or_true, Bool.true_or, Bool.and_false, Bool.false_and, and_true, true_and, not_true_eq_false, not_false_eq_true]) <;> omega
theorem rn_lok {Λ : LoopH} (hΛ : LOk Try.prog (bodyOf Try.prog 24) Λ) : LOk Try.prog (bodyOf Try.prog 24) (rnΛ Λ) := by
  refine fam_ok (q := qR) (n := 100) rnV rnM (fun s s1 => s.n = s.N ∧ s.l.length = s.N ∧ s.N < 1000000000000 ∧ ∃ j : Nat, j ≤ zer s.l ∧ s1 = { s with i := (j : Int) }) (fun s => s.N - s.i.toNat) mixed n0_ok hΛ LOk.none (by kernel_rfl) (by kernel_rfl) (fun s => s.hb) (fun s => ?_) (fun avs m s h ho => ?_) (fun s s1 hJ y => ?_)
  · simp [rnV, rnM, bndL, bndA]
  · unfold rnPat at h
    split at h
    · split at h
      · cases h
        have o1 := of_decide_eq_true (ho _ (List.mem_cons_self ..))
        have o2 := of_decide_eq_true (ho _ (List.mem_cons_of_mem _ (List.mem_cons_self ..)))
        have o3 := of_decide_eq_true (ho _ (List.mem_cons_of_mem _ (List.mem_cons_of_mem _ (List.mem_cons_self ..))))
        have o4 := of_decide_eq_true (ho _ (List.mem_cons_of_mem _ (List.mem_cons_of_mem _ (List.mem_cons_of_mem _ (List.mem_cons_self ..)))))
        simp only at o1 o2 o3 o4
        refine ⟨_, ?_, rfl, o1, o2, o3, 0, Nat.zero_le _, rfl⟩
        subst o4
        exact .cons (.refl _) (.cons (.int _ _ _) (LeL.refl _))
        
      · cases h
    · cases h
  · obtain ⟨h1, h2, h3, j, h4, rfl⟩ := hJ
    obtain ⟨pt, pf⟩ := rn_pay (s := { s with i := (j : Int) }) (j := j) h1 h3 rfl
    by_cases hj : j < s.N ∧ s.l.getD j 0 = 0
    · have hz : j < zer s.l := by
        by_cases h : j < zer s.l
        · exact h
        · exfalso
          have e : j = zer s.l := by omega
          exact zer_end s.l (by omega) (e ▸ hj.2)
      exact Round.on (rn_t y _) { s with i := ((j + 1 : Nat) : Int) } [] (by rw [List.append_nil]; rfl) (pt hj)
        (by rw [show IntKind.wrap .i64 ((j : Int) + 1) = ((j + 1 : Nat) : Int) by rw [Go.De.wrap64]; omega]; exact LeL.refl _) ⟨h1, h2, h3, j + 1, hz, rfl⟩ rfl (by show s.N - ((j + 1 : Nat) : Int).toNat < s.N - ((j : Nat) : Int).toNat; omega)
    · have hz : j = zer s.l := by
        by_cases h : j < zer s.l
        · exfalso
          have := zer_le s.l
          exact hj ⟨by omega, zer_at s.l j h⟩
        · omega
      subst hz
      refine Round.out (rn_f y _) rfl rfl (pf hj) fun p hp => ⟨p.2, ?_, .refl _⟩
      simp only [rnF, List.mem_cons, List.not_mem_nil, or_false] at hp
      rcases hp with rfl | rfl <;> simp [rnTs, rnV, zipU]
def rwDt (s : rwP) : List Bool := [decide (((rwP.N s) : Nat) < 9223372036854775808), ((!decide (((rwP.i s) : Int) < (((rwP.N s) : Nat) : Int))) || (decide ((0 : Int) ≤ (rwP.i s)) && decide (((rwP.i s) : Int) < (((rwP.N s) : Nat) : Int)))), ((!decide (((rwP.i s) : Int) < (((rwP.N s) : Nat) : Int))) || decide (((rwP.i s) : Int) < (((rwP.N s) : Nat) : Int))), ((!decide (((rwP.i s) : Int) < (((rwP.N s) : Nat) : Int))) || decide (((rwP.i s) : Int) < (((rwP.N s) : Nat) : Int))), ((!decide (((rwP.i s) : Int) < (((rwP.N s) : Nat) : Int))) || decide ((((0 + ((Int.toNat (rwP.i s)) * 1)) + 1) : Nat) ≤ (rwP.n s))), ((!decide (((rwP.i s) : Int) < (((rwP.N s) : Nat) : Int))) || decide (((rwP.i s) : Int) < (((rwP.N s) : Nat) : Int))), ((!decide (((rwP.i s) : Int) < (((rwP.N s) : Nat) : Int))) || decide (((rwP.i s) : Int) < (((rwP.N s) : Nat) : Int))), ((!decide (((rwP.i s) : Int) < (((rwP.N s) : Nat) : Int))) || decide (((rwP.i s) : Int) < (((rwP.N s) : Nat) : Int))), (decide (((rwP.i s) : Int) < (((rwP.N s) : Nat) : Int)) && ((List.getD (rwP.l s) (0 + ((Int.toNat (rwP.i s)) * 1)) 0) == 0))]
def rwDf (s : rwP) : List Bool := [decide (((rwP.N s) : Nat) < 9223372036854775808), ((!decide (((rwP.i s) : Int) < (((rwP.N s) : Nat) : Int))) || (decide ((0 : Int) ≤ (rwP.i s)) && decide (((rwP.i s) : Int) < (((rwP.N s) : Nat) : Int)))), ((!decide (((rwP.i s) : Int) < (((rwP.N s) : Nat) : Int))) || decide (((rwP.i s) : Int) < (((rwP.N s) : Nat) : Int))), ((!decide (((rwP.i s) : Int) < (((rwP.N s) : Nat) : Int))) || decide (((rwP.i s) : Int) < (((rwP.N s) : Nat) : Int))), ((!decide (((rwP.i s) : Int) < (((rwP.N s) : Nat) : Int))) || decide ((((0 + ((Int.toNat (rwP.i s)) * 1)) + 1) : Nat) ≤ (rwP.n s))), ((!decide (((rwP.i s) : Int) < (((rwP.N s) : Nat) : Int))) || decide (((rwP.i s) : Int) < (((rwP.N s) : Nat) : Int))), ((!decide (((rwP.i s) : Int) < (((rwP.N s) : Nat) : Int))) || decide (((rwP.i s) : Int) < (((rwP.N s) : Nat) : Int))), ((!decide (((rwP.i s) : Int) < (((rwP.N s) : Nat) : Int))) || decide (((rwP.i s) : Int) < (((rwP.N s) : Nat) : Int))), (!(decide (((rwP.i s) : Int) < (((rwP.N s) : Nat) : Int)) && ((List.getD (rwP.l s) (0 + ((Int.toNat (rwP.i s)) * 1)) 0) == 0)))]
theorem rw_t (y : Nat → AV) (s : rwP) : seesL rwTs ((codeL Try.prog qR n0 (fun _ _ => none) 100 (lp (blk 0 (bodyOf Try.prog 22))) ⟨tmOf (ups y (zipU rwTs (rwV s))) 39, rwM s⟩).go [true]) = some (rwDt s, 0, [.slice true 1 0 s.N none 1, .int true .i64 (IntKind.wrap .i64 (s.i + 1))], 39, rwM s) := by kernel_rfl
theorem rw_f (y : Nat → AV) (s : rwP) : seesL rwTs ((codeL Try.prog qR n0 (fun _ _ => none) 100 (lp (blk 0 (bodyOf Try.prog 22))) ⟨tmOf (ups y (zipU rwTs (rwV s))) 39, rwM s⟩).go [false]) = some (rwDf s, 2, rwV s, 39, rwM s) := by kernel_rfl
def rwO (s : rwP) : List Bool := [decide (s.n = s.N), decide (s.l.length = s.N), decide (s.N < 1000000000000), decide (s.i = 0)]
def rwF (s : rwP) : List (Nat × AV) × Mem := ([(0, .slice true 1 0 s.N none 1), (4, .int true .i64 (zer s.l : Int))], rwM s)
def rwΛ (Λ : LoopH) : LoopH := famH 0 39 rwTs rwPat rwO rwF Λ
theorem rw_pay {s : rwP} {j : Nat} (h1 : s.n = s.N) (h3 : s.N < 1000000000000) (hi : s.i = (j : Int)) : (j < s.N ∧ s.l.getD j 0 = 0 → Paid (rwDt s)) ∧ (¬ (j < s.N ∧ s.l.getD j 0 = 0) → Paid (rwDf s)) := by
  have e : 0 + (j : Int).toNat * 1 = j := by omega
  refine ⟨fun hj => ?_, fun hj => ?_⟩
  · unfold rwDt
    simp only [hi, e, h1]
    refine paid_cons ?_ (paid_cons ?_ (paid_cons ?_ (paid_cons ?_ (paid_cons ?_ (paid_cons ?_ (paid_cons ?_ (paid_cons ?_ (paid_cons ?_ (fun _ h => by cases h)))))))))
    all_goals (try simp only [Bool.and_eq_true, Bool.or_eq_true, Bool.not_eq_true', Bool.not_true, Bool.not_false, Bool.not_eq_eq_eq_not, decide_eq_true_eq, decide_eq_false_iff_not, beq_iff_eq, beq_eq_false_iff_ne, bne_iff_ne, bne_eq_false_iff_eq, ne_eq, Bool.or_eq_false_iff, Bool.and_eq_false_imp, Bool.and_true, Bool.true_and, Bool.or_false, Bool.false_or, Bool.or_true, Bool.true_or, Bool.and_false, Bool.false_and, and_true, true_and, not_true_eq_false, not_false_eq_true]) <;> omega
  · unfold rwDf
    simp only [hi, e, h1]
    refine paid_cons ?_ (paid_cons ?_ (paid_cons ?_ (paid_cons ?_ (paid_cons ?_ (paid_cons ?_ (paid_cons ?_ (paid_cons ?_ (paid_cons ?_ (fun _ h => by cases h)))))))))
    all_goals (try simp only [Bool.and_eq_true, Bool.or_eq_true, Bool.not_eq_true', Bool.not_true, Bool.not_false, Bool.not_eq_eq_eq_not, decide_eq_true_eq, decide_eq_false_iff_not, beq_iff_eq, beq_eq_false_iff_ne, bne_iff_ne, bne_eq_false_iff_eq, ne_eq, Bool.or_eq_false_iff, Bool.and_eq_false_imp, Bool.and_true, Bool.true_and, Bool.or_false, Bool.false_or, Bool.or_true, Bool.true_or, Bool.and_false, Bool.false_and, and_true, true_and, not_true_eq_false, not_false_eq_true]) <;> omega
theorem rw_lok {Λ : LoopH} (hΛ : LOk Try.prog (bodyOf Try.prog 22) Λ) : LOk Try.prog (bodyOf Try.prog 22) (rwΛ Λ) := by
  refine fam_ok (q := qR) (n := 100) rwV rwM (fun s s1 => s.n = s.N ∧ s.l.length = s.N ∧ s.N < 1000000000000 ∧ ∃ j : Nat, j ≤ zer s.l ∧ s1 = { s with i := (j : Int) }) (fun s => s.N - s.i.toNat) mixed n0_ok hΛ LOk.none (by kernel_rfl) (by kernel_rfl) (fun s => s.hb) (fun s => ?_) (fun avs m s h ho => ?_) (fun s s1 hJ y => ?_)
  · simp [rwV, rwM, bndL, bndA]
  · unfold rwPat at h
    split at h
    · split at h
      · cases h
        have o1 := of_decide_eq_true (ho _ (List.mem_cons_self ..))
        have o2 := of_decide_eq_true (ho _ (List.mem_cons_of_mem _ (List.mem_cons_self ..)))
        have o3 := of_decide_eq_true (ho _ (List.mem_cons_of_mem _ (List.mem_cons_of_mem _ (List.mem_cons_self ..))))
        have o4 := of_decide_eq_true (ho _ (List.mem_cons_of_mem _ (List.mem_cons_of_mem _ (List.mem_cons_of_mem _ (List.mem_cons_self ..)))))
        simp only at o1 o2 o3 o4
        refine ⟨_, ?_, rfl, o1, o2, o3, 0, Nat.zero_le _, rfl⟩
        subst o4
        exact .cons (.refl _) (.cons (.int _ _ _) (LeL.refl _))
        
      · cases h
    · cases h
  · obtain ⟨h1, h2, h3, j, h4, rfl⟩ := hJ
    obtain ⟨pt, pf⟩ := rw_pay (s := { s with i := (j : Int) }) (j := j) h1 h3 rfl
    by_cases hj : j < s.N ∧ s.l.getD j 0 = 0
    · have hz : j < zer s.l := by
        by_cases h : j < zer s.l
        · exact h
        · exfalso
          have e : j = zer s.l := by omega
          exact zer_end s.l (by omega) (e ▸ hj.2)
      exact Round.on (rw_t y _) { s with i := ((j + 1 : Nat) : Int) } [] (by rw [List.append_nil]; rfl) (pt hj)
        (by rw [show IntKind.wrap .i64 ((j : Int) + 1) = ((j + 1 : Nat) : Int) by rw [Go.De.wrap64]; omega]; exact LeL.refl _) ⟨h1, h2, h3, j + 1, hz, rfl⟩ rfl (by show s.N - ((j + 1 : Nat) : Int).toNat < s.N - ((j : Nat) : Int).toNat; omega)
    · have hz : j = zer s.l := by
        by_cases h : j < zer s.l
        · exfalso
          have := zer_le s.l
          exact hj ⟨by omega, zer_at s.l j h⟩
        · omega
      subst hz
      refine Round.out (rw_f y _) rfl rfl (pf hj) fun p hp => ⟨p.2, ?_, .refl _⟩
      simp only [rwF, List.mem_cons, List.not_mem_nil, or_false] at hp
      rcases hp with rfl | rfl <;> simp [rwTs, rwV, zipU]
def lnDt (s : lnP) : List Bool := [decide (((lnP.N s) : Nat) < 9223372036854775808), ((!decide (((lnP.i s) : Int) < (((lnP.N s) : Nat) : Int))) || (decide ((0 : Int) ≤ (lnP.i s)) && decide (((lnP.i s) : Int) < (((lnP.N s) : Nat) : Int)))), ((!decide (((lnP.i s) : Int) < (((lnP.N s) : Nat) : Int))) || decide (((lnP.i s) : Int) < (((lnP.N s) : Nat) : Int))), ((!decide (((lnP.i s) : Int) < (((lnP.N s) : Nat) : Int))) || decide (((lnP.i s) : Int) < (((lnP.N s) : Nat) : Int))), ((!decide (((lnP.i s) : Int) < (((lnP.N s) : Nat) : Int))) || decide ((((0 + ((Int.toNat (lnP.i s)) * 1)) + 1) : Nat) ≤ (lnP.n s))), ((!decide (((lnP.i s) : Int) < (((lnP.N s) : Nat) : Int))) || decide (((lnP.i s) : Int) < (((lnP.N s) : Nat) : Int))), ((!decide (((lnP.i s) : Int) < (((lnP.N s) : Nat) : Int))) || decide (((lnP.i s) : Int) < (((lnP.N s) : Nat) : Int))), ((!decide (((lnP.i s) : Int) < (((lnP.N s) : Nat) : Int))) || decide (((lnP.i s) : Int) < (((lnP.N s) : Nat) : Int))), (decide (((lnP.i s) : Int) < (((lnP.N s) : Nat) : Int)) && ((List.getD (lnP.l s) (0 + ((Int.toNat (lnP.i s)) * 1)) 0) == 0))]
def lnDf (s : lnP) : List Bool := [decide (((lnP.N s) : Nat) < 9223372036854775808), ((!decide (((lnP.i s) : Int) < (((lnP.N s) : Nat) : Int))) || (decide ((0 : Int) ≤ (lnP.i s)) && decide (((lnP.i s) : Int) < (((lnP.N s) : Nat) : Int)))), ((!decide (((lnP.i s) : Int) < (((lnP.N s) : Nat) : Int))) || decide (((lnP.i s) : Int) < (((lnP.N s) : Nat) : Int))), ((!decide (((lnP.i s) : Int) < (((lnP.N s) : Nat) : Int))) || decide (((lnP.i s) : Int) < (((lnP.N s) : Nat) : Int))), ((!decide (((lnP.i s) : Int) < (((lnP.N s) : Nat) : Int))) || decide ((((0 + ((Int.toNat (lnP.i s)) * 1)) + 1) : Nat) ≤ (lnP.n s))), ((!decide (((lnP.i s) : Int) < (((lnP.N s) : Nat) : Int))) || decide (((lnP.i s) : Int) < (((lnP.N s) : Nat) : Int))), ((!decide (((lnP.i s) : Int) < (((lnP.N s) : Nat) : Int))) || decide (((lnP.i s) : Int) < (((lnP.N s) : Nat) : Int))), ((!decide (((lnP.i s) : Int) < (((lnP.N s) : Nat) : Int))) || decide (((lnP.i s) : Int) < (((lnP.N s) : Nat) : Int))), (!(decide (((lnP.i s) : Int) < (((lnP.N s) : Nat) : Int)) && ((List.getD (lnP.l s) (0 + ((Int.toNat (lnP.i s)) * 1)) 0) == 0)))]
theorem ln_t (y : Nat → AV) (s : lnP) : seesL lnTs ((codeL Try.prog qR n0 (fun _ _ => none) 100 (lp (blk 0 (bodyOf Try.prog 6))) ⟨tmOf (ups y (zipU lnTs (lnV s))) 124, lnM s⟩).go [true]) = some (lnDt s, 0, [.slice true 1 0 s.N none 1, .int true .i64 (IntKind.wrap .i64 (s.i + 1)), s.k0, s.k1, s.k2], 124, lnM s) := by kernel_rfl
theorem ln_f (y : Nat → AV) (s : lnP) : seesL lnTs ((codeL Try.prog qR n0 (fun _ _ => none) 100 (lp (blk 0 (bodyOf Try.prog 6))) ⟨tmOf (ups y (zipU lnTs (lnV s))) 124, lnM s⟩).go [false]) = some (lnDf s, 2, lnV s, 124, lnM s) := by kernel_rfl
def lnO (s : lnP) : List Bool := [decide (s.n = s.N), decide (s.l.length = s.N), decide (s.N < 1000000000000), decide (s.i = 0)]
def lnF (s : lnP) : List (Nat × AV) × Mem := ([(1, .slice true 1 0 s.N none 1), (16, .int true .i64 (zer s.l : Int)), (13, s.k0), (14, s.k1), (15, s.k2)], lnM s)
def lnΛ (Λ : LoopH) : LoopH := famH 0 124 lnTs lnPat lnO lnF Λ
theorem ln_pay {s : lnP} {j : Nat} (h1 : s.n = s.N) (h3 : s.N < 1000000000000) (hi : s.i = (j : Int)) : (j < s.N ∧ s.l.getD j 0 = 0 → Paid (lnDt s)) ∧ (¬ (j < s.N ∧ s.l.getD j 0 = 0) → Paid (lnDf s)) := by
  have e : 0 + (j : Int).toNat * 1 = j := by omega
  refine ⟨fun hj => ?_, fun hj => ?_⟩
  · unfold lnDt
    simp only [hi, e, h1]
    refine paid_cons ?_ (paid_cons ?_ (paid_cons ?_ (paid_cons ?_ (paid_cons ?_ (paid_cons ?_ (paid_cons ?_ (paid_cons ?_ (paid_cons ?_ (fun _ h => by cases h)))))))))
    all_goals (try simp only [Bool.and_eq_true, Bool.or_eq_true, Bool.not_eq_true', Bool.not_true, Bool.not_false, Bool.not_eq_eq_eq_not, decide_eq_true_eq, decide_eq_false_iff_not, beq_iff_eq, beq_eq_false_iff_ne, bne_iff_ne, bne_eq_false_iff_eq, ne_eq, Bool.or_eq_false_iff, Bool.and_eq_false_imp, Bool.and_true, Bool.true_and, Bool.or_false, Bool.false_or, Bool.or_true, Bool.true_or, Bool.and_false, Bool.false_and, and_true, true_and, not_true_eq_false, not_false_eq_true]) <;> omega
  · unfold lnDf
    simp only [hi, e, h1]
    refine paid_cons ?_ (paid_cons ?_ (paid_cons ?_ (paid_cons ?_ (paid_cons ?_ (paid_cons ?_ (paid_cons ?_ (paid_cons ?_ (paid_cons ?_ (fun _ h => by cases h)))))))))
    all_goals (try simp only [Bool.and_eq_true, Bool.or_eq_true, Bool.not_eq_true', Bool.not_true, Bool.not_false, Bool.not_eq_eq_eq_not, decide_eq_true_eq, decide_eq_false_iff_not, beq_iff_eq, beq_eq_false_iff_ne, bne_iff_ne, bne_eq_false_iff_eq, ne_eq, Bool.or_eq_false_iff, Bool.and_eq_false_imp, Bool.and_true, Bool.true_and, Bool.or_false, Bool.false_or, Bool.or_true, Bool.true_or, Bool.and_false, Bool.false_and, and_true, true_and, not_true_eq_false, not_false_eq_true]) <;> omega
theorem ln_lok {Λ : LoopH} (hΛ : LOk Try.prog (bodyOf Try.prog 6) Λ) : LOk Try.prog (bodyOf Try.prog 6) (lnΛ Λ) := by
  refine fam_ok (q := qR) (n := 100) lnV lnM (fun s s1 => s.n = s.N ∧ s.l.length = s.N ∧ s.N < 1000000000000 ∧ ∃ j : Nat, j ≤ zer s.l ∧ s1 = { s with i := (j : Int) }) (fun s => s.N - s.i.toNat) mixed n0_ok hΛ LOk.none (by kernel_rfl) (by kernel_rfl) (fun s => s.hb) (fun s => ?_) (fun avs m s h ho => ?_) (fun s s1 hJ y => ?_)
  · have hk := s.hk
    simp only [bndL, Bool.and_true, Bool.and_eq_true] at hk
    simp [lnV, lnM, bndL, bndA, hk.1, hk.2.1, hk.2.2]
  · unfold lnPat at h
    split at h
    · split at h
      · split at h
        case isFalse => cases h
        cases h
        have o1 := of_decide_eq_true (ho _ (List.mem_cons_self ..))
        have o2 := of_decide_eq_true (ho _ (List.mem_cons_of_mem _ (List.mem_cons_self ..)))
        have o3 := of_decide_eq_true (ho _ (List.mem_cons_of_mem _ (List.mem_cons_of_mem _ (List.mem_cons_self ..))))
        have o4 := of_decide_eq_true (ho _ (List.mem_cons_of_mem _ (List.mem_cons_of_mem _ (List.mem_cons_of_mem _ (List.mem_cons_self ..)))))
        simp only at o1 o2 o3 o4
        refine ⟨_, ?_, rfl, o1, o2, o3, 0, Nat.zero_le _, rfl⟩
        subst o4
        exact .cons (.refl _) (.cons (.int _ _ _) (LeL.refl _))
        
      · cases h
    · cases h
  · obtain ⟨h1, h2, h3, j, h4, rfl⟩ := hJ
    obtain ⟨pt, pf⟩ := ln_pay (s := { s with i := (j : Int) }) (j := j) h1 h3 rfl
    by_cases hj : j < s.N ∧ s.l.getD j 0 = 0
    · have hz : j < zer s.l := by
        by_cases h : j < zer s.l
        · exact h
        · exfalso
          have e : j = zer s.l := by omega
          exact zer_end s.l (by omega) (e ▸ hj.2)
      exact Round.on (ln_t y _) { s with i := ((j + 1 : Nat) : Int) } [] (by rw [List.append_nil]; rfl) (pt hj)
        (by rw [show IntKind.wrap .i64 ((j : Int) + 1) = ((j + 1 : Nat) : Int) by rw [Go.De.wrap64]; omega]; exact LeL.refl _) ⟨h1, h2, h3, j + 1, hz, rfl⟩ rfl (by show s.N - ((j + 1 : Nat) : Int).toNat < s.N - ((j : Nat) : Int).toNat; omega)
    · have hz : j = zer s.l := by
        by_cases h : j < zer s.l
        · exfalso
          have := zer_le s.l
          exact hj ⟨by omega, zer_at s.l j h⟩
        · omega
      subst hz
      refine Round.out (ln_f y _) rfl rfl (pf hj) fun p hp => ⟨p.2, ?_, .refl _⟩
      simp only [lnF, List.mem_cons, List.not_mem_nil, or_false] at hp
      rcases hp with rfl | rfl | rfl | rfl | rfl <;> simp [lnTs, lnV, zipU]
end Go.Proofs.Ythpafpifpdeikaa
