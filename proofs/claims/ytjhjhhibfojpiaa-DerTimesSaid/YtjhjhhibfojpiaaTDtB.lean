/- Seconds of a moment, and the moment of seconds: the loops, and contracts. Own work. -/
import Derived.Test.YtjhjhhibfojpiaaTDtA
set_option linter.unusedSimpArgs false
set_option linter.unusedVariables false
set_option linter.unusedSectionVars false
namespace Go.Dt
theorem cum_372 (y : Nat) : ∀ j, cumM y j ≤ 31 * j
  | 0 => Nat.le_refl _
  | j + 1 => by
    have := cum_372 y j
    have := (lenM_range y (j + 1)).2
    show cumM y j + lenM y (j + 1) ≤ _
    omega
end Go.Dt
namespace Go.Proofs.Ytjhjhhibfojpiaa
open Go.Ev Go.De Go.Dt
set_option maxRecDepth 100000
set_option linter.unusedSimpArgs false
set_option linter.unusedVariables false
set_option linter.unusedSectionVars false
variable [Tab]
structure sqP where
  y : Int
  m : Int
  d : Int
  h : Int
  i : Int
  s : Int
  dd : Int
  mm : Int
def sqTs : List Nat := [1, 3, 4]
def sqV (s : sqP) : List AV := [.ptr false 1 0, .int true .u64 s.dd, .int true .u64 s.mm]
def sqM (s : sqP) : Mem := [none, some ⟨true, .ints .u64 (some 6) [s.y, s.m, s.d, s.h, s.i, s.s]⟩]
structure mqP where
  t : Int
  d : Int
  y : Int
  mo : Int
def mqZ : Mem := [none, some ⟨true, .ints .u64 (some 6) [0, 0, 0, 0, 0, 0]⟩]
def mqTs : List Nat := [0, 2, 3, 4]
def mqV (s : mqP) : List AV := [.int true .u64 s.t, .ptr false 1 0, .int true .u64 s.d, .int true .u64 s.y]
def mrTs : List Nat := [0, 2, 3, 4, 5]
def mrV (s : mqP) : List AV := [.int true .u64 s.t, .ptr false 1 0, .int true .u64 s.d, .int true .u64 s.y, .int true .u64 s.mo]
theorem sq_t (y : Nat → AV) (s : sqP) : seesL sqTs ((codeL Try.prog qR (hd1 n0) (fun _ _ => none) 100 (lp (blk 0 (bodyOf Try.prog 27))) ⟨tmOf (ups y (zipU sqTs (sqV s))) 37, sqM s⟩).go [true]) = some ([decide (((sqP.mm s) : Int) < (List.getD ((sqP.y s) :: ((sqP.m s) :: ((sqP.d s) :: ((sqP.h s) :: ((sqP.i s) :: ((sqP.s s) :: [])))))) 1 0)), decide ((0 : Int) ≤ (List.getD ((sqP.y s) :: ((sqP.m s) :: ((sqP.d s) :: ((sqP.h s) :: ((sqP.i s) :: ((sqP.s s) :: [])))))) 0 0)), decide ((0 : Int) ≤ (sqP.mm s))], 0, sqV { s with dd := IntKind.wrap .u64 (s.dd + (lenM s.y.toNat s.mm.toNat : Int)), mm := IntKind.wrap .u64 (s.mm + 1) }, 37, sqM s) := by kernel_rfl
theorem sq_f (y : Nat → AV) (s : sqP) : seesL sqTs ((codeL Try.prog qR (hd1 n0) (fun _ _ => none) 100 (lp (blk 0 (bodyOf Try.prog 27))) ⟨tmOf (ups y (zipU sqTs (sqV s))) 37, sqM s⟩).go [false]) = some ([(!decide (((sqP.mm s) : Int) < (List.getD ((sqP.y s) :: ((sqP.m s) :: ((sqP.d s) :: ((sqP.h s) :: ((sqP.i s) :: ((sqP.s s) :: [])))))) 1 0)))], 2, sqV s, 37, sqM s) := by kernel_rfl
theorem mq_t (y : Nat → AV) (s : mqP) : seesL mqTs ((codeL Try.prog qR (hd1 n0) (fun _ _ => none) 100 (lp (blk 0 (bodyOf Try.prog 22))) ⟨tmOf (ups y (zipU mqTs (mqV s))) 47, mqZ⟩).go [true]) = some ([decide ((1970 : Int) ≤ (IntKind.wrap .u64 ((mqP.y s) + 1))), decide (((IntKind.wrap .u64 ((mqP.y s) + 1)) : Int) ≤ 100000), decide (((((ahdY (Int.toNat (IntKind.wrap .u64 ((mqP.y s) + 1)))) : Nat) : Int) : Int) ≤ (mqP.d s))], 0, mqV { s with y := IntKind.wrap .u64 (s.y + 1) }, 47, mqZ) := by kernel_rfl
theorem mq_f (y : Nat → AV) (s : mqP) : seesL mqTs ((codeL Try.prog qR (hd1 n0) (fun _ _ => none) 100 (lp (blk 0 (bodyOf Try.prog 22))) ⟨tmOf (ups y (zipU mqTs (mqV s))) 47, mqZ⟩).go [false]) = some ([decide ((1970 : Int) ≤ (IntKind.wrap .u64 ((mqP.y s) + 1))), decide (((IntKind.wrap .u64 ((mqP.y s) + 1)) : Int) ≤ 100000), (!decide (((((ahdY (Int.toNat (IntKind.wrap .u64 ((mqP.y s) + 1)))) : Nat) : Int) : Int) ≤ (mqP.d s)))], 2, mqV s, 47, mqZ) := by kernel_rfl
theorem mr_t (y : Nat → AV) (s : mqP) : seesL mrTs ((codeL Try.prog qR (hd1 n0) (fun _ _ => none) 100 (lp (blk 2 (bodyOf Try.prog 22))) ⟨tmOf (ups y (zipU mrTs (mrV s))) 47, mqZ⟩).go [true]) = some ([decide ((0 : Int) ≤ (mqP.y s)), decide ((0 : Int) ≤ (mqP.mo s)), decide (((((lenM (Int.toNat (mqP.y s)) (Int.toNat (mqP.mo s))) : Nat) : Int) : Int) ≤ (mqP.d s)), decide ((0 : Int) ≤ (mqP.y s)), decide ((0 : Int) ≤ (mqP.mo s))], 0, mrV { s with d := IntKind.wrap .u64 (s.d - (lenM s.y.toNat s.mo.toNat : Int)), mo := IntKind.wrap .u64 (s.mo + 1) }, 47, mqZ) := by kernel_rfl
theorem mr_f (y : Nat → AV) (s : mqP) : seesL mrTs ((codeL Try.prog qR (hd1 n0) (fun _ _ => none) 100 (lp (blk 2 (bodyOf Try.prog 22))) ⟨tmOf (ups y (zipU mrTs (mrV s))) 47, mqZ⟩).go [false]) = some ([decide ((0 : Int) ≤ (mqP.y s)), decide ((0 : Int) ≤ (mqP.mo s)), (!decide (((((lenM (Int.toNat (mqP.y s)) (Int.toNat (mqP.mo s))) : Nat) : Int) : Int) ≤ (mqP.d s)))], 4, mrV s, 47, mqZ) := by kernel_rfl
def sqO (s : sqP) : List Bool := [decide (0 ≤ s.y), decide (1 ≤ s.m), decide (s.m ≤ 12), decide (s.mm = 1), decide (0 ≤ s.dd), decide (s.dd ≤ 1000000000)]
def sqF (s : sqP) : List (Nat × AV) × Mem := ([(1, .ptr false 1 0), (3, .int true .u64 (s.dd + (cumM s.y.toNat (s.m.toNat - 1) : Int)))], sqM s)
def sqPat : List AV → Mem → Option sqP
  | [.ptr false 1 0, .int _ .u64 dd, .int _ .u64 mm], [none, some ⟨true, .ints .u64 (some 6) [y, m, d, h, i, s]⟩] => some ⟨y, m, d, h, i, s, dd, mm⟩
  | _, _ => none
def sqΛ : LoopH := famH 0 37 sqTs sqPat sqO sqF fun _ _ => none
theorem sq_lok : LOk Try.prog (bodyOf Try.prog 27) sqΛ := by
  refine fam_ok (q := qR) (n := 100) sqV sqM (fun s s1 => 0 ≤ s.y ∧ 1 ≤ s.m ∧ s.m ≤ 12 ∧ 0 ≤ s.dd ∧ s.dd ≤ 1000000000 ∧ ∃ j : Nat, (j : Int) + 1 ≤ s.m ∧ s1 = { s with dd := s.dd + (cumM s.y.toNat j : Int), mm := 1 + (j : Int) }) (fun s => (s.m - s.mm).toNat) mixed (hd1_ok n0_ok) LOk.none LOk.none (by kernel_rfl) (by kernel_rfl) (fun s => rfl) (fun s => rfl) (fun avs m s h ho => ?_) (fun s s1 hJ y => ?_)
  · unfold sqPat at h
    split at h
    · rename_i b1 dd b2 mm y m d h0 i s
      cases h
      have o1 := of_decide_eq_true (ho _ (List.mem_cons_self ..))
      have o2 := of_decide_eq_true (ho _ (List.mem_cons_of_mem _ (List.mem_cons_self ..)))
      have o3 := of_decide_eq_true (ho _ (List.mem_cons_of_mem _ (List.mem_cons_of_mem _ (List.mem_cons_self ..))))
      have o4 := of_decide_eq_true (ho _ (List.mem_cons_of_mem _ (List.mem_cons_of_mem _ (List.mem_cons_of_mem _ (List.mem_cons_self ..)))))
      have o5 := of_decide_eq_true (ho _ (List.mem_cons_of_mem _ (List.mem_cons_of_mem _ (List.mem_cons_of_mem _ (List.mem_cons_of_mem _ (List.mem_cons_self ..))))))
      have o6 := of_decide_eq_true (ho _ (List.mem_cons_of_mem _ (List.mem_cons_of_mem _ (List.mem_cons_of_mem _ (List.mem_cons_of_mem _ (List.mem_cons_of_mem _ (List.mem_cons_self ..)))))))
      simp only at o1 o2 o3 o4 o5 o6
      subst o4
      exact ⟨⟨y, m, d, h0, i, s, dd, 1⟩, .cons (.refl _) (.cons (.int _ _ _) (.cons (.int _ _ _) .nil)), rfl, o1, o2, o3, o5, o6, 0, by simpa using o2, by simp [cumM]⟩
    · cases h
  · obtain ⟨h1, h2, h3, h4, h5, j, h6, rfl⟩ := hJ
    have hc := cum_372 s.y.toNat j
    have hl := (lenM_range s.y.toNat (j + 1)).2
    by_cases hj : 1 + (j : Int) < s.m
    · have e1 : (1 + (j : Int)).toNat = j + 1 := by omega
      refine Round.on (sq_t y _) { s with dd := s.dd + (cumM s.y.toNat (j + 1) : Int), mm := 1 + ((j + 1 : Nat) : Int) } [] (by rw [List.append_nil]; rfl) ?_ ?_ ⟨h1, h2, h3, h4, h5, j + 1, by omega, rfl⟩ rfl (by show (s.m - (1 + ((j + 1 : Nat) : Int))).toNat < (s.m - (1 + (j : Int))).toNat; omega)
      · refine paid_cons ?_ (paid_cons ?_ (paid_cons ?_ (fun _ h => by cases h)))
        all_goals (simp only [Bool.and_eq_true, Bool.or_eq_true, Bool.not_eq_true', Bool.not_true, Bool.not_false, Bool.not_eq_eq_eq_not, decide_eq_true_eq, decide_eq_false_iff_not, beq_iff_eq, beq_eq_false_iff_ne, bne_iff_ne, bne_eq_false_iff_eq, ne_eq, Bool.or_eq_false_iff, Bool.and_eq_false_imp, Bool.and_true, Bool.true_and, Bool.or_false, Bool.false_or, Bool.or_true, Bool.true_or, Bool.and_false, Bool.false_and, and_true, true_and, not_true_eq_false, not_false_eq_true, List.getD_cons_succ, List.getD_cons_zero]) <;> omega
      · have a1 : IntKind.wrap .u64 (s.dd + (cumM s.y.toNat j : Int) + (lenM s.y.toNat (1 + (j : Int)).toNat : Int)) = s.dd + (cumM s.y.toNat (j + 1) : Int) := by
          rw [wrapU64, e1]
          show _ = s.dd + ((cumM s.y.toNat j + lenM s.y.toNat (j + 1) : Nat) : Int)
          omega
        have a2 : IntKind.wrap .u64 (1 + (j : Int) + 1) = 1 + ((j + 1 : Nat) : Int) := by rw [wrapU64]; omega
        show LeL [.ptr false 1 0, .int true .u64 (IntKind.wrap .u64 (s.dd + (cumM s.y.toNat j : Int) + (lenM s.y.toNat (1 + (j : Int)).toNat : Int))), .int true .u64 (IntKind.wrap .u64 (1 + (j : Int) + 1))] [.ptr false 1 0, .int true .u64 (s.dd + (cumM s.y.toNat (j + 1) : Int)), .int true .u64 (1 + ((j + 1 : Nat) : Int))]
        rw [a1, a2]
        exact LeL.refl _
    · have ej : j = s.m.toNat - 1 := by omega
      refine Round.out (sq_f y _) rfl rfl ?_ fun p hp => ⟨p.2, ?_, .refl _⟩
      · refine paid_cons ?_ (fun _ h => by cases h)
        all_goals (simp only [Bool.and_eq_true, Bool.or_eq_true, Bool.not_eq_true', Bool.not_true, Bool.not_false, Bool.not_eq_eq_eq_not, decide_eq_true_eq, decide_eq_false_iff_not, beq_iff_eq, beq_eq_false_iff_ne, bne_iff_ne, bne_eq_false_iff_eq, ne_eq, Bool.or_eq_false_iff, Bool.and_eq_false_imp, Bool.and_true, Bool.true_and, Bool.or_false, Bool.false_or, Bool.or_true, Bool.true_or, Bool.and_false, Bool.false_and, and_true, true_and, not_true_eq_false, not_false_eq_true, List.getD_cons_succ, List.getD_cons_zero]) <;> omega
      · simp only [sqF, List.mem_cons, List.not_mem_nil, or_false] at hp
        subst ej
        rcases hp with rfl | rfl <;> simp [sqTs, sqV, zipU]
def mqO (s : mqP) : List Bool := [decide (0 ≤ s.d), decide (s.d < 2932897), decide (s.y = 1970 + ((s.d.toNat / 366 : Nat) : Int))]
def mqF (s : mqP) : List (Nat × AV) × Mem := ([(0, .int true .u64 s.t), (2, .ptr false 1 0), (3, .int true .u64 s.d), (4, .int true .u64 (yearOf s.d.toNat : Int))], mqZ)
def mqPat : List AV → Mem → Option mqP
  | [.int _ .u64 t, .ptr false 1 0, .int _ .u64 d, .int _ .u64 y], [none, some ⟨true, .ints .u64 (some 6) [0, 0, 0, 0, 0, 0]⟩] => some ⟨t, d, y, 0⟩
  | _, _ => none
def mrO (s : mqP) : List Bool := [decide (0 ≤ s.d), decide (0 ≤ s.y), decide (s.d.toNat < cumM s.y.toNat 12), decide (s.mo = 1)]
def mrF (s : mqP) : List (Nat × AV) × Mem := ([(0, .int true .u64 s.t), (2, .ptr false 1 0), (3, .int true .u64 (s.d - (cumM s.y.toNat (monthOf s.y.toNat s.d.toNat - 1) : Int))), (4, .int true .u64 s.y), (5, .int true .u64 (monthOf s.y.toNat s.d.toNat : Int))], mqZ)
def mrPat : List AV → Mem → Option mqP
  | [.int _ .u64 t, .ptr false 1 0, .int _ .u64 d, .int _ .u64 y, .int _ .u64 mo], [none, some ⟨true, .ints .u64 (some 6) [0, 0, 0, 0, 0, 0]⟩] => some ⟨t, d, y, mo⟩
  | _, _ => none
def mqΛ : LoopH := famH 0 47 mqTs mqPat mqO mqF (famH 2 47 mrTs mrPat mrO mrF fun _ _ => none)
theorem mr_lok : LOk Try.prog (bodyOf Try.prog 22) (famH 2 47 mrTs mrPat mrO mrF fun _ _ => none) := by
  refine fam_ok (q := qR) (n := 100) mrV (fun _ => mqZ) (fun s s1 => 0 ≤ s.d ∧ 0 ≤ s.y ∧ s.d.toNat < cumM s.y.toNat 12 ∧ ∃ j : Nat, j + 1 ≤ monthOf s.y.toNat s.d.toNat ∧ s1 = { s with d := s.d - (cumM s.y.toNat j : Int), mo := 1 + (j : Int) }) (fun s => (13 - s.mo).toNat) mixed (hd1_ok n0_ok) LOk.none LOk.none (by kernel_rfl) (by kernel_rfl) (fun s => rfl) (fun s => rfl) (fun avs m s h ho => ?_) (fun s s1 hJ y => ?_)
  · unfold mrPat at h
    split at h
    · rename_i b1 t b2 d b3 y b4 mo
      cases h
      have o1 := of_decide_eq_true (ho _ (List.mem_cons_self ..))
      have o2 := of_decide_eq_true (ho _ (List.mem_cons_of_mem _ (List.mem_cons_self ..)))
      have o3 := of_decide_eq_true (ho _ (List.mem_cons_of_mem _ (List.mem_cons_of_mem _ (List.mem_cons_self ..))))
      have o4 := of_decide_eq_true (ho _ (List.mem_cons_of_mem _ (List.mem_cons_of_mem _ (List.mem_cons_of_mem _ (List.mem_cons_self ..)))))
      simp only at o1 o2 o3 o4
      subst o4
      exact ⟨⟨t, d, y, 1⟩, .cons (.int _ _ _) (.cons (.refl _) (.cons (.int _ _ _) (.cons (.int _ _ _) (.cons (.int _ _ _) .nil)))), rfl, o1, o2, o3, 0, (monthOf_ok o3).2.2.1, by simp [cumM]⟩
    · cases h
  · obtain ⟨h1, h2, h3, j, h4, rfl⟩ := hJ
    obtain ⟨m1, m2, m3, m4⟩ := monthOf_ok h3
    have hm := month_lt (m := j + 1) h3
    have hs : cumM s.y.toNat (j + 1) = cumM s.y.toNat j + lenM s.y.toNat (j + 1) := rfl
    have hle := cum_le s.y.toNat (i := j) (j := monthOf s.y.toNat s.d.toNat - 1) (by omega)
    have h12 : cumM s.y.toNat 12 ≤ 372 := cum_372 s.y.toNat 12
    have e1 : (1 + (j : Int)).toNat = j + 1 := by omega
    by_cases hj : j + 1 < monthOf s.y.toNat s.d.toNat
    · have hj2 := hm.2 hj
      refine Round.on (mr_t y _) { s with d := s.d - (cumM s.y.toNat (j + 1) : Int), mo := 1 + ((j + 1 : Nat) : Int) } [] (List.append_nil _).symm ?_ ?_ ⟨h1, h2, h3, j + 1, by omega, rfl⟩ rfl (by show (13 - (1 + ((j + 1 : Nat) : Int))).toNat < (13 - (1 + (j : Int))).toNat; omega)
      · refine paid_cons ?_ (paid_cons ?_ (paid_cons ?_ (paid_cons ?_ (paid_cons ?_ (fun _ h => by cases h)))))
        all_goals (simp only [Bool.and_eq_true, Bool.or_eq_true, Bool.not_eq_true', Bool.not_true, Bool.not_false, Bool.not_eq_eq_eq_not, decide_eq_true_eq, decide_eq_false_iff_not, beq_iff_eq, beq_eq_false_iff_ne, bne_iff_ne, bne_eq_false_iff_eq, ne_eq, Bool.or_eq_false_iff, Bool.and_eq_false_imp, Bool.and_true, Bool.true_and, Bool.or_false, Bool.false_or, Bool.or_true, Bool.true_or, Bool.and_false, Bool.false_and, and_true, true_and, not_true_eq_false, not_false_eq_true, List.getD_cons_succ, List.getD_cons_zero, e1]) <;> omega
      · have a1 : IntKind.wrap .u64 (s.d - (cumM s.y.toNat j : Int) - (lenM s.y.toNat (1 + (j : Int)).toNat : Int)) = s.d - (cumM s.y.toNat (j + 1) : Int) := by
          rw [wrapU64, e1, hs]
          omega
        have a2 : IntKind.wrap .u64 (1 + (j : Int) + 1) = 1 + ((j + 1 : Nat) : Int) := by rw [wrapU64]; omega
        show LeL [.int true .u64 s.t, .ptr false 1 0, .int true .u64 (IntKind.wrap .u64 (s.d - (cumM s.y.toNat j : Int) - (lenM s.y.toNat (1 + (j : Int)).toNat : Int))), .int true .u64 s.y, .int true .u64 (IntKind.wrap .u64 (1 + (j : Int) + 1))] [.int true .u64 s.t, .ptr false 1 0, .int true .u64 (s.d - (cumM s.y.toNat (j + 1) : Int)), .int true .u64 s.y, .int true .u64 (1 + ((j + 1 : Nat) : Int))]
        rw [a1, a2]
        exact LeL.refl _
    · have ej : j = monthOf s.y.toNat s.d.toNat - 1 := by omega
      have hj2 : ¬ cumM s.y.toNat (j + 1) ≤ s.d.toNat := fun h => hj (hm.1 h)
      refine Round.out (mr_f y _) rfl rfl ?_ fun p hp => ⟨p.2, ?_, .refl _⟩
      · refine paid_cons ?_ (paid_cons ?_ (paid_cons ?_ (fun _ h => by cases h)))
        all_goals (simp only [Bool.and_eq_true, Bool.or_eq_true, Bool.not_eq_true', Bool.not_true, Bool.not_false, Bool.not_eq_eq_eq_not, decide_eq_true_eq, decide_eq_false_iff_not, beq_iff_eq, beq_eq_false_iff_ne, bne_iff_ne, bne_eq_false_iff_eq, ne_eq, Bool.or_eq_false_iff, Bool.and_eq_false_imp, Bool.and_true, Bool.true_and, Bool.or_false, Bool.false_or, Bool.or_true, Bool.true_or, Bool.and_false, Bool.false_and, and_true, true_and, not_true_eq_false, not_false_eq_true, List.getD_cons_succ, List.getD_cons_zero, e1]) <;> omega
      · simp only [mrF, List.mem_cons, List.not_mem_nil, or_false] at hp
        have e2 : (monthOf s.y.toNat s.d.toNat : Int) = 1 + (j : Int) := by omega
        rw [e2, ← ej] at hp
        rcases hp with rfl | rfl | rfl | rfl | rfl <;> simp [mrTs, mrV, zipU]
theorem mq_lok : LOk Try.prog (bodyOf Try.prog 22) mqΛ := by
  refine fam_ok (q := qR) (n := 100) mqV (fun _ => mqZ) (fun s s1 => 0 ≤ s.d ∧ s.d < 2932897 ∧ ∃ Y : Nat, 1970 ≤ Y ∧ Y ≤ yearOf s.d.toNat ∧ s1 = { s with y := (Y : Int) }) (fun s => (10001 - s.y).toNat) mixed (hd1_ok n0_ok) mr_lok LOk.none (by kernel_rfl) (by kernel_rfl) (fun s => rfl) (fun s => rfl) (fun avs m s h ho => ?_) (fun s s1 hJ y => ?_)
  · unfold mqPat at h
    split at h
    · rename_i b1 t b2 d b3 y
      cases h
      have o1 := of_decide_eq_true (ho _ (List.mem_cons_self ..))
      have o2 := of_decide_eq_true (ho _ (List.mem_cons_of_mem _ (List.mem_cons_self ..)))
      have o3 := of_decide_eq_true (ho _ (List.mem_cons_of_mem _ (List.mem_cons_of_mem _ (List.mem_cons_self ..))))
      simp only at o1 o2 o3
      subst o3
      have := year_first d.toNat
      exact ⟨⟨t, d, 1970 + ((d.toNat / 366 : Nat) : Int), 0⟩, .cons (.int _ _ _) (.cons (.refl _) (.cons (.int _ _ _) (.cons (.int _ _ _) .nil))), rfl, o1, o2, 1970 + d.toNat / 366, by omega, this, by simp⟩
    · cases h
  · obtain ⟨h1, h2, Y, h3, h4, rfl⟩ := hJ
    have h9 := year_9999 (d := s.d.toNat) (by omega)
    have hy := year_lt (d := s.d.toNat) h3
    have e1 : IntKind.wrap .u64 ((Y : Int) + 1) = ((Y + 1 : Nat) : Int) := by rw [wrapU64]; omega
    have e2 : (((Y + 1 : Nat) : Int)).toNat = Y + 1 := by omega
    by_cases hj : Y < yearOf s.d.toNat
    · have hj2 := hy.2 hj
      refine Round.on (mq_t y _) { s with y := ((Y + 1 : Nat) : Int) } [] (List.append_nil _).symm ?_ ?_ ⟨h1, h2, Y + 1, by omega, by omega, rfl⟩ rfl (by show (10001 - ((Y + 1 : Nat) : Int)).toNat < (10001 - (Y : Int)).toNat; omega)
      · simp only [e1, e2]
        refine paid_cons ?_ (paid_cons ?_ (paid_cons ?_ (fun _ h => by cases h)))
        all_goals (simp only [Bool.and_eq_true, Bool.or_eq_true, Bool.not_eq_true', Bool.not_true, Bool.not_false, Bool.not_eq_eq_eq_not, decide_eq_true_eq, decide_eq_false_iff_not, beq_iff_eq, beq_eq_false_iff_ne, bne_iff_ne, bne_eq_false_iff_eq, ne_eq, Bool.or_eq_false_iff, Bool.and_eq_false_imp, Bool.and_true, Bool.true_and, Bool.or_false, Bool.false_or, Bool.or_true, Bool.true_or, Bool.and_false, Bool.false_and, and_true, true_and, not_true_eq_false, not_false_eq_true, List.getD_cons_succ, List.getD_cons_zero]) <;> omega
      · show LeL [.int true .u64 s.t, .ptr false 1 0, .int true .u64 s.d, .int true .u64 (IntKind.wrap .u64 ((Y : Int) + 1))] [.int true .u64 s.t, .ptr false 1 0, .int true .u64 s.d, .int true .u64 ((Y + 1 : Nat) : Int)]
        rw [e1]
        exact LeL.refl _
    · have ej : Y = yearOf s.d.toNat := by omega
      have hj2 : ¬ ahdY (Y + 1) ≤ s.d.toNat := fun h => hj (hy.1 h)
      refine Round.out (mq_f y _) rfl rfl ?_ fun p hp => ⟨p.2, ?_, .refl _⟩
      · simp only [e1, e2]
        refine paid_cons ?_ (paid_cons ?_ (paid_cons ?_ (fun _ h => by cases h)))
        all_goals (simp only [Bool.and_eq_true, Bool.or_eq_true, Bool.not_eq_true', Bool.not_true, Bool.not_false, Bool.not_eq_eq_eq_not, decide_eq_true_eq, decide_eq_false_iff_not, beq_iff_eq, beq_eq_false_iff_ne, bne_iff_ne, bne_eq_false_iff_eq, ne_eq, Bool.or_eq_false_iff, Bool.and_eq_false_imp, Bool.and_true, Bool.true_and, Bool.or_false, Bool.false_or, Bool.or_true, Bool.true_or, Bool.and_false, Bool.false_and, and_true, true_and, not_true_eq_false, not_false_eq_true, List.getD_cons_succ, List.getD_cons_zero]) <;> omega
      · simp only [mqF, List.mem_cons, List.not_mem_nil, or_false] at hp
        rw [← ej] at hp
        rcases hp with rfl | rfl | rfl | rfl <;> simp [mqTs, mqV, zipU]
end Go.Proofs.Ytjhjhhibfojpiaa
