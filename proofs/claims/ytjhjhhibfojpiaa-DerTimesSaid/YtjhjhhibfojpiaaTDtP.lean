/- The reference's writing of a time: its loops. Own work. -/
import Derived.Test.YtjhjhhibfojpiaaTDtO
set_option linter.unusedSimpArgs false
set_option linter.unusedVariables false
set_option linter.unusedSectionVars false
namespace Go.Dt
theorem dayR_year {y : Nat} (h : 1970 ≤ y) : dayR y 1 1 = ahdY y := by
  rw [dayR_ahead h (Nat.le_refl _)]
  show ahdY y + 1 - 1 + cumM y 0 = ahdY y
  show ahdY y + 1 - 1 + 0 = ahdY y
  omega
theorem dayR_month {y m : Nat} (h : 1970 ≤ y) : dayR y (m + 1) 1 = ahdY y + cumM y m := by
  rw [dayR_ahead h (Nat.le_refl _), Nat.add_sub_cancel, Nat.add_sub_cancel]
end Go.Dt
namespace Go.Proofs.Ytjhjhhibfojpiaa
open Go.Ev Go.De Go.Dt
set_option maxRecDepth 100000
set_option linter.unusedSimpArgs false
set_option linter.unusedVariables false
set_option linter.unusedSectionVars false
variable [Tab]
structure rwP where
  d : Int
  s : Int
  y : Int
  m : Int
def raTs : List Nat := [3, 4, 5]
def rbTs : List Nat := [3, 4, 5, 6]
def raV (s : rwP) : List AV := [.int true .i64 s.d, .int true .i64 s.s, .int true .i64 s.y]
def rbV (s : rwP) : List AV := [.int true .i64 s.d, .int true .i64 s.s, .int true .i64 s.y, .int true .i64 s.m]
theorem rw0_ev (y : Nat → AV) (s : rwP) : seesL raTs ((codeL Try.prog qR (hdy n0) (fun _ _ => none) 100 (lp (blk 0 (bodyOf Try.prog 15))) ⟨tmOf (ups y (zipU raTs (raV s))) 90, [none]⟩).go [true]) = some ([decide ((1970 : Int) ≤ (IntKind.wrap .i64 ((rwP.y s) + 1))), decide (((IntKind.wrap .i64 ((rwP.y s) + 1)) : Int) ≤ 100000), true, true, true, true, decide (((((dayR (Int.toNat (IntKind.wrap .i64 ((rwP.y s) + 1))) 1 1) : Nat) : Int) : Int) ≤ (rwP.d s))], 0, raV { s with y := IntKind.wrap .i64 (s.y + 1) }, 90, [none]) := by kernel_rfl
theorem rw1_ev (y : Nat → AV) (s : rwP) : seesL raTs ((codeL Try.prog qR (hdy n0) (fun _ _ => none) 100 (lp (blk 0 (bodyOf Try.prog 15))) ⟨tmOf (ups y (zipU raTs (raV s))) 90, [none]⟩).go [false]) = some ([decide ((1970 : Int) ≤ (IntKind.wrap .i64 ((rwP.y s) + 1))), decide (((IntKind.wrap .i64 ((rwP.y s) + 1)) : Int) ≤ 100000), true, true, true, true, (!decide (((((dayR (Int.toNat (IntKind.wrap .i64 ((rwP.y s) + 1))) 1 1) : Nat) : Int) : Int) ≤ (rwP.d s)))], 2, raV s, 90, [none]) := by kernel_rfl
theorem rw2_ev (y : Nat → AV) (s : rwP) : seesL rbTs ((codeL Try.prog qR (hdy n0) (fun _ _ => none) 100 (lp (blk 2 (bodyOf Try.prog 15))) ⟨tmOf (ups y (zipU rbTs (rbV s))) 90, [none]⟩).go [true]) = some ([((!decide (((rwP.m s) : Int) < 12)) || decide (((rwP.m s) : Int) < 12)), ((!decide (((rwP.m s) : Int) < 12)) || decide ((1970 : Int) ≤ (rwP.y s))), ((!decide (((rwP.m s) : Int) < 12)) || decide (((rwP.y s) : Int) ≤ 100000)), ((!decide (((rwP.m s) : Int) < 12)) || decide ((1 : Int) ≤ (IntKind.wrap .i64 ((rwP.m s) + 1)))), ((!decide (((rwP.m s) : Int) < 12)) || decide (((IntKind.wrap .i64 ((rwP.m s) + 1)) : Int) ≤ 12)), ((!decide (((rwP.m s) : Int) < 12)) || decide ((1 : Int) ≤ 1)), ((!decide (((rwP.m s) : Int) < 12)) || decide ((1 : Int) ≤ 31)), ((!decide (((rwP.m s) : Int) < 12)) || decide (((rwP.m s) : Int) < 12)), ((!decide (((rwP.m s) : Int) < 12)) || decide (((rwP.m s) : Int) < 12)), ((!decide (((rwP.m s) : Int) < 12)) || decide (((rwP.m s) : Int) < 12)), ((!decide (((rwP.m s) : Int) < 12)) || decide (((rwP.m s) : Int) < 12)), ((!decide (((rwP.m s) : Int) < 12)) || decide (((rwP.m s) : Int) < 12)), (decide (((rwP.m s) : Int) < 12) && decide (((((dayR (Int.toNat (rwP.y s)) (Int.toNat (IntKind.wrap .i64 ((rwP.m s) + 1))) 1) : Nat) : Int) : Int) ≤ (rwP.d s)))], 0, rbV { s with m := IntKind.wrap .i64 (s.m + 1) }, 90, [none]) := by kernel_rfl
theorem rw3_ev (y : Nat → AV) (s : rwP) : seesL rbTs ((codeL Try.prog qR (hdy n0) (fun _ _ => none) 100 (lp (blk 2 (bodyOf Try.prog 15))) ⟨tmOf (ups y (zipU rbTs (rbV s))) 90, [none]⟩).go [false]) = some ([((!decide (((rwP.m s) : Int) < 12)) || decide (((rwP.m s) : Int) < 12)), ((!decide (((rwP.m s) : Int) < 12)) || decide ((1970 : Int) ≤ (rwP.y s))), ((!decide (((rwP.m s) : Int) < 12)) || decide (((rwP.y s) : Int) ≤ 100000)), ((!decide (((rwP.m s) : Int) < 12)) || decide ((1 : Int) ≤ (IntKind.wrap .i64 ((rwP.m s) + 1)))), ((!decide (((rwP.m s) : Int) < 12)) || decide (((IntKind.wrap .i64 ((rwP.m s) + 1)) : Int) ≤ 12)), ((!decide (((rwP.m s) : Int) < 12)) || decide ((1 : Int) ≤ 1)), ((!decide (((rwP.m s) : Int) < 12)) || decide ((1 : Int) ≤ 31)), ((!decide (((rwP.m s) : Int) < 12)) || decide (((rwP.m s) : Int) < 12)), ((!decide (((rwP.m s) : Int) < 12)) || decide (((rwP.m s) : Int) < 12)), ((!decide (((rwP.m s) : Int) < 12)) || decide (((rwP.m s) : Int) < 12)), ((!decide (((rwP.m s) : Int) < 12)) || decide (((rwP.m s) : Int) < 12)), ((!decide (((rwP.m s) : Int) < 12)) || decide (((rwP.m s) : Int) < 12)), (!(decide (((rwP.m s) : Int) < 12) && decide (((((dayR (Int.toNat (rwP.y s)) (Int.toNat (IntKind.wrap .i64 ((rwP.m s) + 1))) 1) : Nat) : Int) : Int) ≤ (rwP.d s))))], 4, rbV s, 90, [none]) := by kernel_rfl
def raO (s : rwP) : List Bool := [decide (0 ≤ s.d), decide (s.d < 2932897), decide (s.y = 1970 + ((s.d.toNat / 366 : Nat) : Int))]
def raF (s : rwP) : List (Nat × AV) × Mem := ([(3, .int true .i64 s.d), (4, .int true .i64 s.s), (5, .int true .i64 (yearOf s.d.toNat : Int))], [none])
def raPat : List AV → Mem → Option rwP
  | [.int _ .i64 d, .int _ .i64 s, .int _ .i64 y], [none] => some ⟨d, s, y, 0⟩
  | _, _ => none
def rbO (s : rwP) : List Bool := [decide (0 ≤ s.d), decide (s.d < 2932897), decide (s.y = (yearOf s.d.toNat : Int)), decide (s.m = 1)]
def rbF (s : rwP) : List (Nat × AV) × Mem := ([(3, .int true .i64 s.d), (4, .int true .i64 s.s), (5, .int true .i64 s.y), (6, .int true .i64 (monOf s.d.toNat : Int))], [none])
def rbPat : List AV → Mem → Option rwP
  | [.int _ .i64 d, .int _ .i64 s, .int _ .i64 y, .int _ .i64 m], [none] => some ⟨d, s, y, m⟩
  | _, _ => none
def rbΛ : LoopH := famH 2 90 rbTs rbPat rbO rbF fun _ _ => none
def raΛ : LoopH := famH 0 90 raTs raPat raO raF rbΛ
theorem rb_lok : LOk Try.prog (bodyOf Try.prog 15) rbΛ := by
  refine fam_ok (q := qR) (n := 100) rbV (fun _ => [none]) (fun s s1 => 0 ≤ s.d ∧ s.d < 2932897 ∧ s.y = (yearOf s.d.toNat : Int) ∧ ∃ j : Nat, 1 ≤ j ∧ j ≤ monOf s.d.toNat ∧ s1 = { s with m := (j : Int) }) (fun s => (13 - s.m).toNat) mixed (hdy_ok n0_ok) LOk.none LOk.none (by kernel_rfl) (by kernel_rfl) (fun s => rfl) (fun s => rfl) (fun avs m s h ho => ?_) (fun s s1 hJ y => ?_)
  · unfold rbPat at h
    split at h
    · rename_i b1 d b2 s b3 y b4 m
      cases h
      have o1 := of_decide_eq_true (ho _ (List.mem_cons_self ..))
      have o2 := of_decide_eq_true (ho _ (List.mem_cons_of_mem _ (List.mem_cons_self ..)))
      have o3 := of_decide_eq_true (ho _ (List.mem_cons_of_mem _ (List.mem_cons_of_mem _ (List.mem_cons_self ..))))
      have o4 := of_decide_eq_true (ho _ (List.mem_cons_of_mem _ (List.mem_cons_of_mem _ (List.mem_cons_of_mem _ (List.mem_cons_self ..)))))
      simp only at o1 o2 o3 o4
      subst o4
      exact ⟨⟨d, s, y, 1⟩, .cons (.int _ _ _) (.cons (.int _ _ _) (.cons (.int _ _ _) (.cons (.int _ _ _) .nil))), rfl, o1, o2, o3, 1, Nat.le_refl _, (mon_range d.toNat).1, rfl⟩
    · cases h
  · obtain ⟨h1, h2, h3, j, h4, h5, rfl⟩ := hJ
    obtain ⟨d, s, y0, m⟩ := s
    simp only at h1 h2 h3 h5
    subst h3
    obtain ⟨y1, y2, y3⟩ := yearOf_ok d.toNat
    have h9 := year_9999 (d := d.toNat) (by omega)
    have hr := rest_lt d.toNat
    have hm := month_lt (m := j) hr
    have h12 := (mon_range d.toNat).2
    have w1 : IntKind.wrap .i64 ((j : Int) + 1) = ((j + 1 : Nat) : Int) := by rw [wrap64]; omega
    have e1 : (((j + 1 : Nat) : Int)).toNat = j + 1 := Int.toNat_natCast _
    have e2 := dayR_month (m := j) y3
    have hrr : restOf d.toNat = d.toNat - ahdY (yearOf d.toNat) := rfl
    have hmo : monOf d.toNat = monthOf (yearOf d.toNat) (d.toNat - ahdY (yearOf d.toNat)) := rfl
    by_cases hj : j < monOf d.toNat
    · have hj2 := hm.2 (by rw [← hmo]; exact hj)
      refine Round.on (rw2_ev y _) ⟨d, s, (yearOf d.toNat : Int), ((j + 1 : Nat) : Int)⟩ [] (List.append_nil _).symm ?_ ?_ ⟨h1, h2, rfl, j + 1, by omega, by show j + 1 ≤ monOf d.toNat; exact hj, rfl⟩ rfl (by show (13 - ((j + 1 : Nat) : Int)).toNat < (13 - (j : Int)).toNat; omega)
      · simp only [w1, e1, Int.toNat_natCast, Int.toNat_one, e2]
        refine paid_cons ?_ (paid_cons ?_ (paid_cons ?_ (paid_cons ?_ (paid_cons ?_ (paid_cons ?_ (paid_cons ?_ (paid_cons ?_ (paid_cons ?_ (paid_cons ?_ (paid_cons ?_ (paid_cons ?_ (paid_cons ?_ (fun _ h => by cases h)))))))))))))
        all_goals ((try simp only [Bool.and_eq_true, Bool.or_eq_true, Bool.not_eq_true', Bool.not_true, Bool.not_false, Bool.not_eq_eq_eq_not, decide_eq_true_eq, decide_eq_false_iff_not, beq_iff_eq, beq_eq_false_iff_ne, bne_iff_ne, bne_eq_false_iff_eq, ne_eq, Bool.or_eq_false_iff, Bool.and_eq_false_imp, Bool.and_true, Bool.true_and, Bool.or_false, Bool.false_or, Bool.or_true, Bool.true_or, Bool.and_false, Bool.false_and, and_true, true_and, not_true_eq_false, not_false_eq_true]) <;> omega)
      · show LeL [.int true .i64 d, .int true .i64 s, .int true .i64 (yearOf d.toNat : Int), .int true .i64 (IntKind.wrap .i64 ((j : Int) + 1))] [.int true .i64 d, .int true .i64 s, .int true .i64 (yearOf d.toNat : Int), .int true .i64 ((j + 1 : Nat) : Int)]
        rw [w1]
        exact LeL.refl _
    · have ej : j = monOf d.toNat := by omega
      have hj2 : j < 12 → ¬ cumM (yearOf d.toNat) j ≤ d.toNat - ahdY (yearOf d.toNat) := fun _ h => hj (by rw [hmo]; exact hm.1 h)
      refine Round.out (rw3_ev y _) rfl rfl ?_ fun p hp => ⟨p.2, ?_, .refl _⟩
      · simp only [w1, e1, Int.toNat_natCast, Int.toNat_one, e2]
        refine paid_cons ?_ (paid_cons ?_ (paid_cons ?_ (paid_cons ?_ (paid_cons ?_ (paid_cons ?_ (paid_cons ?_ (paid_cons ?_ (paid_cons ?_ (paid_cons ?_ (paid_cons ?_ (paid_cons ?_ (paid_cons ?_ (fun _ h => by cases h)))))))))))))
        all_goals ((try simp only [Bool.and_eq_true, Bool.or_eq_true, Bool.not_eq_true', Bool.not_true, Bool.not_false, Bool.not_eq_eq_eq_not, decide_eq_true_eq, decide_eq_false_iff_not, beq_iff_eq, beq_eq_false_iff_ne, bne_iff_ne, bne_eq_false_iff_eq, ne_eq, Bool.or_eq_false_iff, Bool.and_eq_false_imp, Bool.and_true, Bool.true_and, Bool.or_false, Bool.false_or, Bool.or_true, Bool.true_or, Bool.and_false, Bool.false_and, and_true, true_and, not_true_eq_false, not_false_eq_true]) <;> omega)
      · simp only [rbF, List.mem_cons, List.not_mem_nil, or_false] at hp
        rw [← ej] at hp
        rcases hp with rfl | rfl | rfl | rfl <;> simp [rbTs, rbV, zipU]
theorem ra_lok : LOk Try.prog (bodyOf Try.prog 15) raΛ := by
  refine fam_ok (q := qR) (n := 100) raV (fun _ => [none]) (fun s s1 => 0 ≤ s.d ∧ s.d < 2932897 ∧ ∃ Y : Nat, 1970 ≤ Y ∧ Y ≤ yearOf s.d.toNat ∧ s1 = { s with y := (Y : Int) }) (fun s => (10001 - s.y).toNat) mixed (hdy_ok n0_ok) rb_lok LOk.none (by kernel_rfl) (by kernel_rfl) (fun s => rfl) (fun s => rfl) (fun avs m s h ho => ?_) (fun s s1 hJ y => ?_)
  · unfold raPat at h
    split at h
    · rename_i b1 d b2 s b3 y
      cases h
      have o1 := of_decide_eq_true (ho _ (List.mem_cons_self ..))
      have o2 := of_decide_eq_true (ho _ (List.mem_cons_of_mem _ (List.mem_cons_self ..)))
      have o3 := of_decide_eq_true (ho _ (List.mem_cons_of_mem _ (List.mem_cons_of_mem _ (List.mem_cons_self ..))))
      simp only at o1 o2 o3
      subst o3
      have := year_first d.toNat
      exact ⟨⟨d, s, 1970 + ((d.toNat / 366 : Nat) : Int), 0⟩, .cons (.int _ _ _) (.cons (.int _ _ _) (.cons (.int _ _ _) .nil)), rfl, o1, o2, 1970 + d.toNat / 366, by omega, this, by simp⟩
    · cases h
  · obtain ⟨h1, h2, Y, h3, h4, rfl⟩ := hJ
    have h9 := year_9999 (d := s.d.toNat) (by omega)
    have hy := year_lt (d := s.d.toNat) h3
    have w1 : IntKind.wrap .i64 ((Y : Int) + 1) = ((Y + 1 : Nat) : Int) := by rw [wrap64]; omega
    have e1 : (((Y + 1 : Nat) : Int)).toNat = Y + 1 := Int.toNat_natCast _
    have e2 := dayR_year (y := Y + 1) (by omega)
    by_cases hj : Y < yearOf s.d.toNat
    · have hj2 := hy.2 hj
      refine Round.on (rw0_ev y _) { s with y := ((Y + 1 : Nat) : Int) } [] (List.append_nil _).symm ?_ ?_ ⟨h1, h2, Y + 1, by omega, by omega, rfl⟩ rfl (by show (10001 - ((Y + 1 : Nat) : Int)).toNat < (10001 - (Y : Int)).toNat; omega)
      · simp only [w1]
        rw [e1, e2]
        refine paid_cons ?_ (paid_cons ?_ (paid_cons rfl (paid_cons rfl (paid_cons rfl (paid_cons rfl (paid_cons ?_ (fun _ h => by cases h)))))))
        all_goals ((try simp only [Bool.and_eq_true, Bool.or_eq_true, Bool.not_eq_true', Bool.not_true, Bool.not_false, Bool.not_eq_eq_eq_not, decide_eq_true_eq, decide_eq_false_iff_not, beq_iff_eq, beq_eq_false_iff_ne, bne_iff_ne, bne_eq_false_iff_eq, ne_eq, Bool.or_eq_false_iff, Bool.and_eq_false_imp, Bool.and_true, Bool.true_and, Bool.or_false, Bool.false_or, Bool.or_true, Bool.true_or, Bool.and_false, Bool.false_and, and_true, true_and, not_true_eq_false, not_false_eq_true]) <;> omega)
      · show LeL [.int true .i64 s.d, .int true .i64 s.s, .int true .i64 (IntKind.wrap .i64 ((Y : Int) + 1))] [.int true .i64 s.d, .int true .i64 s.s, .int true .i64 ((Y + 1 : Nat) : Int)]
        rw [w1]
        exact LeL.refl _
    · have ej : Y = yearOf s.d.toNat := by omega
      have hj2 : ¬ ahdY (Y + 1) ≤ s.d.toNat := fun h => hj (hy.1 h)
      refine Round.out (rw1_ev y _) rfl rfl ?_ fun p hp => ⟨p.2, ?_, .refl _⟩
      · simp only [w1]
        rw [e1, e2]
        refine paid_cons ?_ (paid_cons ?_ (paid_cons rfl (paid_cons rfl (paid_cons rfl (paid_cons rfl (paid_cons ?_ (fun _ h => by cases h)))))))
        all_goals ((try simp only [Bool.and_eq_true, Bool.or_eq_true, Bool.not_eq_true', Bool.not_true, Bool.not_false, Bool.not_eq_eq_eq_not, decide_eq_true_eq, decide_eq_false_iff_not, beq_iff_eq, beq_eq_false_iff_ne, bne_iff_ne, bne_eq_false_iff_eq, ne_eq, Bool.or_eq_false_iff, Bool.and_eq_false_imp, Bool.and_true, Bool.true_and, Bool.or_false, Bool.false_or, Bool.or_true, Bool.true_or, Bool.and_false, Bool.false_and, and_true, true_and, not_true_eq_false, not_false_eq_true]) <;> omega)
      · simp only [raF, List.mem_cons, List.not_mem_nil, or_false] at hp
        rw [← ej] at hp
        rcases hp with rfl | rfl | rfl <;> simp [raTs, raV, zipU]
end Go.Proofs.Ytjhjhhibfojpiaa
