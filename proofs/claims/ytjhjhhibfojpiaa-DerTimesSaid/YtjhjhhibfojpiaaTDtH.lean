/- The reference's days of a date: its loops, and a contract. Own work. -/
import Derived.Test.YtjhjhhibfojpiaaTDtB
set_option linter.unusedSimpArgs false
set_option linter.unusedVariables false
set_option linter.unusedSectionVars false
namespace Go.Ev
set_option linter.unusedSectionVars false
variable [Tab]
theorem pc_goL {P : Program} {q : FuncId → Bool} {H : CallH} {Λ : LoopH} (hm : P.follows .mixedOrders = true) (hng : noCount P = true) (hH : HOk P H) {n : Nat} {g : FuncId} (hΛ : ∀ fn c, P.funcs[g]? = some fn → fn.body = some c → LOk P c Λ) {args : List AV} {o : List Bool} {v : AV} (ds : List Bool) (hp : args.all plainA = true)
    (h : res ((funcL P q H Λ n g args []).go ds) = some (o, v)) (ho : Paid o) (hpl : plainAs v = true) : PC P g args v := by
  refine ⟨?_⟩
  intro ρ N vs ha w hT
  obtain ⟨hf, hc⟩ := funcL_sound hm hH hΛ (go_sound (sat_eq h ho rfl hpl)) (w0 := w) (S := fun _ => False) (ρ := fun _ => ⟨0, 0, 0⟩) (plainL_rep ha hp) (Inv.nothing w hT)
  exact callRun_of hng hf (hc.mono fun e w' ⟨u, h1, x', m2, ρ', k1, k2, k3, k4, k5⟩ => ⟨u, h1, fun ρ N => k1 k2, k3.none⟩)
theorem le_args3 {a b c : Bool} {k : IntKind} (x y z : Int) : LeL [.int a k x, .int b k y, .int c k z] [.int true k x, .int true k y, .int true k z] := .cons (.int _ _ _) (.cons (.int _ _ _) (.cons (.int _ _ _) .nil))
end Go.Ev
namespace Go.Dt
theorem cnt_le : ∀ j, cnt j ≤ j
  | 0 => Nat.le_refl _
  | j + 1 => by
    have := cnt_le j
    unfold cnt
    split <;> omega
end Go.Dt
namespace Go.Proofs.Ytjhjhhibfojpiaa
open Go.Ev Go.De Go.Dt
set_option maxRecDepth 100000
set_option linter.unusedSimpArgs false
set_option linter.unusedVariables false
set_option linter.unusedSectionVars false
variable [Tab]
structure dyP where
  y : Int
  m : Int
  n : Int
  k : Int
def daTs : List Nat := [0, 1, 7, 8]
def dbTs : List Nat := [0, 1, 7, 9]
def dyV (s : dyP) : List AV := [.int true .i64 s.y, .int true .i64 s.m, .int true .i64 s.n, .int true .i64 s.k]
theorem dy0_ev (y : Nat → AV) (s : dyP) : seesL daTs ((codeL Try.prog qR (hd1 n0) (fun _ _ => none) 100 (lp (blk 0 (bodyOf Try.prog 30))) ⟨tmOf (ups y (zipU daTs (dyV s))) 37, []⟩).go [true, true]) = some ([decide (((dyP.k s) : Int) < (dyP.y s)), decide ((0 : Int) ≤ (dyP.k s)), true, true, ((((lenM (Int.toNat (dyP.k s)) 2) : Nat) : Int) == 29)], 0, dyV { s with n := IntKind.wrap .i64 (s.n + 1), k := IntKind.wrap .i64 (s.k + 4) }, 37, []) := by kernel_rfl
theorem dy1_ev (y : Nat → AV) (s : dyP) : seesL daTs ((codeL Try.prog qR (hd1 n0) (fun _ _ => none) 100 (lp (blk 0 (bodyOf Try.prog 30))) ⟨tmOf (ups y (zipU daTs (dyV s))) 37, []⟩).go [true, false]) = some ([decide (((dyP.k s) : Int) < (dyP.y s)), decide ((0 : Int) ≤ (dyP.k s)), true, true, (!((((lenM (Int.toNat (dyP.k s)) 2) : Nat) : Int) == 29))], 0, dyV { s with k := IntKind.wrap .i64 (s.k + 4) }, 37, []) := by kernel_rfl
theorem dy2_ev (y : Nat → AV) (s : dyP) : seesL daTs ((codeL Try.prog qR (hd1 n0) (fun _ _ => none) 100 (lp (blk 0 (bodyOf Try.prog 30))) ⟨tmOf (ups y (zipU daTs (dyV s))) 37, []⟩).go [false]) = some ([(!decide (((dyP.k s) : Int) < (dyP.y s)))], 2, dyV s, 37, []) := by kernel_rfl
theorem dy3_ev (y : Nat → AV) (s : dyP) : seesL dbTs ((codeL Try.prog qR (hd1 n0) (fun _ _ => none) 100 (lp (blk 2 (bodyOf Try.prog 30))) ⟨tmOf (ups y (zipU dbTs (dyV s))) 37, []⟩).go [true]) = some ([decide (((dyP.k s) : Int) < (dyP.m s)), decide ((0 : Int) ≤ (dyP.y s)), decide ((1 : Int) ≤ (dyP.k s)), decide (((dyP.k s) : Int) ≤ 12)], 0, dyV { s with n := IntKind.wrap .i64 (s.n + (lenM s.y.toNat s.k.toNat : Int)), k := IntKind.wrap .i64 (s.k + 1) }, 37, []) := by kernel_rfl
theorem dy4_ev (y : Nat → AV) (s : dyP) : seesL dbTs ((codeL Try.prog qR (hd1 n0) (fun _ _ => none) 100 (lp (blk 2 (bodyOf Try.prog 30))) ⟨tmOf (ups y (zipU dbTs (dyV s))) 37, []⟩).go [false]) = some ([(!decide (((dyP.k s) : Int) < (dyP.m s)))], 4, dyV s, 37, []) := by kernel_rfl
def dbO (s : dyP) : List Bool := [decide (0 ≤ s.y), decide (1 ≤ s.m), decide (s.m ≤ 12), decide (0 ≤ s.n), decide (s.n ≤ 1000000000), decide (s.k = 1)]
def dbF (s : dyP) : List (Nat × AV) × Mem := ([(7, .int true .i64 (s.n + (cumM s.y.toNat (s.m.toNat - 1) : Int)))], [])
def daO (s : dyP) : List Bool := [decide (1970 ≤ s.y), decide (s.y ≤ 100000), decide (0 ≤ s.n), decide (s.n ≤ 900000000), decide (s.k = 1972)]
def daF (s : dyP) : List (Nat × AV) × Mem := ([(0, .int true .i64 s.y), (1, .int true .i64 s.m), (7, .int true .i64 (s.n + (cnt (jOf s.y.toNat) : Int)))], [])
def dyPat : List AV → Mem → Option dyP
  | [.int _ .i64 y, .int _ .i64 m, .int _ .i64 n, .int _ .i64 k], [] => some ⟨y, m, n, k⟩
  | _, _ => none
def dbΛ : LoopH := famH 2 37 dbTs dyPat dbO dbF fun _ _ => none
def dyΛ : LoopH := famH 0 37 daTs dyPat daO daF dbΛ
theorem dy_le (y m n k : Int) {a b c d : Bool} : LeL [.int a .i64 y, .int b .i64 m, .int c .i64 n, .int d .i64 k] (dyV ⟨y, m, n, k⟩) := .cons (.int _ _ _) (.cons (.int _ _ _) (.cons (.int _ _ _) (.cons (.int _ _ _) .nil)))
theorem db_lok : LOk Try.prog (bodyOf Try.prog 30) dbΛ := by
  refine fam_ok (q := qR) (n := 100) dyV (fun _ => []) (fun s s1 => 0 ≤ s.y ∧ 1 ≤ s.m ∧ s.m ≤ 12 ∧ 0 ≤ s.n ∧ s.n ≤ 1000000000 ∧ ∃ j : Nat, (j : Int) + 1 ≤ s.m ∧ s1 = { s with n := s.n + (cumM s.y.toNat j : Int), k := 1 + (j : Int) }) (fun s => (s.m - s.k).toNat) mixed (hd1_ok n0_ok) LOk.none LOk.none (by kernel_rfl) (by kernel_rfl) (fun s => rfl) (fun s => rfl) (fun avs m s h ho => ?_) (fun s s1 hJ y => ?_)
  · unfold dyPat at h
    split at h
    · rename_i b1 y b2 m b3 n b4 k
      cases h
      have o1 := of_decide_eq_true (ho _ (List.mem_cons_self ..))
      have o2 := of_decide_eq_true (ho _ (List.mem_cons_of_mem _ (List.mem_cons_self ..)))
      have o3 := of_decide_eq_true (ho _ (List.mem_cons_of_mem _ (List.mem_cons_of_mem _ (List.mem_cons_self ..))))
      have o4 := of_decide_eq_true (ho _ (List.mem_cons_of_mem _ (List.mem_cons_of_mem _ (List.mem_cons_of_mem _ (List.mem_cons_self ..)))))
      have o5 := of_decide_eq_true (ho _ (List.mem_cons_of_mem _ (List.mem_cons_of_mem _ (List.mem_cons_of_mem _ (List.mem_cons_of_mem _ (List.mem_cons_self ..))))))
      have o6 := of_decide_eq_true (ho _ (List.mem_cons_of_mem _ (List.mem_cons_of_mem _ (List.mem_cons_of_mem _ (List.mem_cons_of_mem _ (List.mem_cons_of_mem _ (List.mem_cons_self ..)))))))
      simp only at o1 o2 o3 o4 o5 o6
      subst o6
      exact ⟨⟨y, m, n, 1⟩, dy_le _ _ _ _, rfl, o1, o2, o3, o4, o5, 0, by simpa using o2, by simp [cumM]⟩
    · cases h
  · obtain ⟨h1, h2, h3, h4, h5, j, h6, rfl⟩ := hJ
    have hc := cum_372 s.y.toNat j
    have hl := (lenM_range s.y.toNat (j + 1)).2
    have e1 : (1 + (j : Int)).toNat = j + 1 := by omega
    by_cases hj : 1 + (j : Int) < s.m
    · refine Round.on (dy3_ev y _) { s with n := s.n + (cumM s.y.toNat (j + 1) : Int), k := 1 + ((j + 1 : Nat) : Int) } [] rfl ?_ ?_ ⟨h1, h2, h3, h4, h5, j + 1, by omega, rfl⟩ rfl (by show (s.m - (1 + ((j + 1 : Nat) : Int))).toNat < (s.m - (1 + (j : Int))).toNat; omega)
      · refine paid_cons ?_ (paid_cons ?_ (paid_cons ?_ (paid_cons ?_ (fun _ h => by cases h))))
        all_goals (simp only [Bool.and_eq_true, Bool.or_eq_true, Bool.not_eq_true', Bool.not_true, Bool.not_false, Bool.not_eq_eq_eq_not, decide_eq_true_eq, decide_eq_false_iff_not, beq_iff_eq, beq_eq_false_iff_ne, bne_iff_ne, bne_eq_false_iff_eq, ne_eq, Bool.or_eq_false_iff, Bool.and_eq_false_imp, Bool.and_true, Bool.true_and, Bool.or_false, Bool.false_or, Bool.or_true, Bool.true_or, Bool.and_false, Bool.false_and, and_true, true_and, not_true_eq_false, not_false_eq_true]) <;> omega
      · have a1 : IntKind.wrap .i64 (s.n + (cumM s.y.toNat j : Int) + (lenM s.y.toNat (1 + (j : Int)).toNat : Int)) = s.n + (cumM s.y.toNat (j + 1) : Int) := by
          rw [wrap64, e1]
          show _ = s.n + ((cumM s.y.toNat j + lenM s.y.toNat (j + 1) : Nat) : Int)
          omega
        have a2 : IntKind.wrap .i64 (1 + (j : Int) + 1) = 1 + ((j + 1 : Nat) : Int) := by rw [wrap64]; omega
        show LeL [.int true .i64 s.y, .int true .i64 s.m, .int true .i64 (IntKind.wrap .i64 (s.n + (cumM s.y.toNat j : Int) + (lenM s.y.toNat (1 + (j : Int)).toNat : Int))), .int true .i64 (IntKind.wrap .i64 (1 + (j : Int) + 1))] [.int true .i64 s.y, .int true .i64 s.m, .int true .i64 (s.n + (cumM s.y.toNat (j + 1) : Int)), .int true .i64 (1 + ((j + 1 : Nat) : Int))]
        rw [a1, a2]
        exact LeL.refl _
    · have ej : j = s.m.toNat - 1 := by omega
      refine Round.out (dy4_ev y _) rfl rfl ?_ fun p hp => ⟨p.2, ?_, .refl _⟩
      · refine paid_cons ?_ (fun _ h => by cases h)
        all_goals (simp only [Bool.and_eq_true, Bool.or_eq_true, Bool.not_eq_true', Bool.not_true, Bool.not_false, Bool.not_eq_eq_eq_not, decide_eq_true_eq, decide_eq_false_iff_not, beq_iff_eq, beq_eq_false_iff_ne, bne_iff_ne, bne_eq_false_iff_eq, ne_eq, Bool.or_eq_false_iff, Bool.and_eq_false_imp, Bool.and_true, Bool.true_and, Bool.or_false, Bool.false_or, Bool.or_true, Bool.true_or, Bool.and_false, Bool.false_and, and_true, true_and, not_true_eq_false, not_false_eq_true]) <;> omega
      · simp only [dbF, List.mem_cons, List.not_mem_nil, or_false] at hp
        subst ej
        subst hp
        simp [dbTs, dyV, zipU]
theorem da_lok : LOk Try.prog (bodyOf Try.prog 30) dyΛ := by
  refine fam_ok (q := qR) (n := 100) dyV (fun _ => []) (fun s s1 => 1970 ≤ s.y ∧ s.y ≤ 100000 ∧ 0 ≤ s.n ∧ s.n ≤ 900000000 ∧ ∃ j : Nat, j ≤ jOf s.y.toNat ∧ s1 = { s with n := s.n + (cnt j : Int), k := 1972 + 4 * (j : Int) }) (fun s => (s.y - s.k + 4).toNat) mixed (hd1_ok n0_ok) db_lok LOk.none (by kernel_rfl) (by kernel_rfl) (fun s => rfl) (fun s => rfl) (fun avs m s h ho => ?_) (fun s s1 hJ y => ?_)
  · unfold dyPat at h
    split at h
    · rename_i b1 y b2 m b3 n b4 k
      cases h
      have o1 := of_decide_eq_true (ho _ (List.mem_cons_self ..))
      have o2 := of_decide_eq_true (ho _ (List.mem_cons_of_mem _ (List.mem_cons_self ..)))
      have o3 := of_decide_eq_true (ho _ (List.mem_cons_of_mem _ (List.mem_cons_of_mem _ (List.mem_cons_self ..))))
      have o4 := of_decide_eq_true (ho _ (List.mem_cons_of_mem _ (List.mem_cons_of_mem _ (List.mem_cons_of_mem _ (List.mem_cons_self ..)))))
      have o5 := of_decide_eq_true (ho _ (List.mem_cons_of_mem _ (List.mem_cons_of_mem _ (List.mem_cons_of_mem _ (List.mem_cons_of_mem _ (List.mem_cons_self ..))))))
      simp only at o1 o2 o3 o4 o5
      subst o5
      exact ⟨⟨y, m, n, 1972⟩, dy_le _ _ _ _, rfl, o1, o2, o3, o4, 0, Nat.zero_le _, by simp [cnt]⟩
    · cases h
  · obtain ⟨h1, h2, h3, h4, j, h6, rfl⟩ := hJ
    have hc := cnt_le j
    have hJ2 : jOf s.y.toNat = (s.y.toNat - 1972 + 3) / 4 := rfl
    have e1 : (1972 + 4 * (j : Int)).toNat = 1972 + 4 * j := by omega
    have e2 : lenM (1972 + 4 * (j : Int)).toNat 2 = if leapB (1972 + 4 * j) then 29 else 28 := by rw [e1]; rfl
    have a2 : IntKind.wrap .i64 (1972 + 4 * (j : Int) + 4) = 1972 + 4 * ((j + 1 : Nat) : Int) := by rw [wrap64]; omega
    by_cases hj : j < jOf s.y.toNat
    · cases hlp : leapB (1972 + 4 * j) with
      | true =>
        rw [hlp, if_pos rfl] at e2
        have ec : cnt (j + 1) = cnt j + 1 := by show cnt j + (if leapB (1972 + 4 * j) then 1 else 0) = cnt j + 1; rw [hlp]; rfl
        refine Round.on (dy0_ev y _) { s with n := s.n + (cnt (j + 1) : Int), k := 1972 + 4 * ((j + 1 : Nat) : Int) } [] rfl ?_ ?_ ⟨h1, h2, h3, h4, j + 1, by omega, rfl⟩ rfl (by show (s.y - (1972 + 4 * ((j + 1 : Nat) : Int)) + 4).toNat < (s.y - (1972 + 4 * (j : Int)) + 4).toNat; omega)
        · simp only [e2]
          refine paid_cons ?_ (paid_cons ?_ (paid_cons ?_ (paid_cons ?_ (paid_cons ?_ (fun _ h => by cases h)))))
          all_goals (simp only [Bool.and_eq_true, Bool.or_eq_true, Bool.not_eq_true', Bool.not_true, Bool.not_false, Bool.not_eq_eq_eq_not, decide_eq_true_eq, decide_eq_false_iff_not, beq_iff_eq, beq_eq_false_iff_ne, bne_iff_ne, bne_eq_false_iff_eq, ne_eq, Bool.or_eq_false_iff, Bool.and_eq_false_imp, Bool.and_true, Bool.true_and, Bool.or_false, Bool.false_or, Bool.or_true, Bool.true_or, Bool.and_false, Bool.false_and, and_true, true_and, not_true_eq_false, not_false_eq_true]) <;> omega
        · have a1 : IntKind.wrap .i64 (s.n + (cnt j : Int) + 1) = s.n + (cnt (j + 1) : Int) := by rw [wrap64, ec]; omega
          show LeL [.int true .i64 s.y, .int true .i64 s.m, .int true .i64 (IntKind.wrap .i64 (s.n + (cnt j : Int) + 1)), .int true .i64 (IntKind.wrap .i64 (1972 + 4 * (j : Int) + 4))] [.int true .i64 s.y, .int true .i64 s.m, .int true .i64 (s.n + (cnt (j + 1) : Int)), .int true .i64 (1972 + 4 * ((j + 1 : Nat) : Int))]
          rw [a1, a2]
          exact LeL.refl _
      | false =>
        rw [hlp, if_neg (by decide)] at e2
        have ec : cnt (j + 1) = cnt j := by show cnt j + (if leapB (1972 + 4 * j) then 1 else 0) = cnt j; rw [hlp]; rfl
        refine Round.on (dy1_ev y _) { s with n := s.n + (cnt (j + 1) : Int), k := 1972 + 4 * ((j + 1 : Nat) : Int) } [] rfl ?_ ?_ ⟨h1, h2, h3, h4, j + 1, by omega, rfl⟩ rfl (by show (s.y - (1972 + 4 * ((j + 1 : Nat) : Int)) + 4).toNat < (s.y - (1972 + 4 * (j : Int)) + 4).toNat; omega)
        · simp only [e2]
          refine paid_cons ?_ (paid_cons ?_ (paid_cons ?_ (paid_cons ?_ (paid_cons ?_ (fun _ h => by cases h)))))
          all_goals (simp only [Bool.and_eq_true, Bool.or_eq_true, Bool.not_eq_true', Bool.not_true, Bool.not_false, Bool.not_eq_eq_eq_not, decide_eq_true_eq, decide_eq_false_iff_not, beq_iff_eq, beq_eq_false_iff_ne, bne_iff_ne, bne_eq_false_iff_eq, ne_eq, Bool.or_eq_false_iff, Bool.and_eq_false_imp, Bool.and_true, Bool.true_and, Bool.or_false, Bool.false_or, Bool.or_true, Bool.true_or, Bool.and_false, Bool.false_and, and_true, true_and, not_true_eq_false, not_false_eq_true]) <;> omega
        · show LeL [.int true .i64 s.y, .int true .i64 s.m, .int true .i64 (s.n + (cnt j : Int)), .int true .i64 (IntKind.wrap .i64 (1972 + 4 * (j : Int) + 4))] [.int true .i64 s.y, .int true .i64 s.m, .int true .i64 (s.n + (cnt (j + 1) : Int)), .int true .i64 (1972 + 4 * ((j + 1 : Nat) : Int))]
          rw [ec, a2]
          exact LeL.refl _
    · have ej : j = jOf s.y.toNat := by omega
      refine Round.out (dy2_ev y _) rfl rfl ?_ fun p hp => ⟨p.2, ?_, .refl _⟩
      · refine paid_cons ?_ (fun _ h => by cases h)
        all_goals (simp only [Bool.and_eq_true, Bool.or_eq_true, Bool.not_eq_true', Bool.not_true, Bool.not_false, Bool.not_eq_eq_eq_not, decide_eq_true_eq, decide_eq_false_iff_not, beq_iff_eq, beq_eq_false_iff_ne, bne_iff_ne, bne_eq_false_iff_eq, ne_eq, Bool.or_eq_false_iff, Bool.and_eq_false_imp, Bool.and_true, Bool.true_and, Bool.or_false, Bool.false_or, Bool.or_true, Bool.true_or, Bool.and_false, Bool.false_and, and_true, true_and, not_true_eq_false, not_false_eq_true]) <;> omega
      · simp only [daF, List.mem_cons, List.not_mem_nil, or_false] at hp
        subst ej
        rcases hp with rfl | rfl | rfl <;> simp [daTs, dyV, zipU]
def dyX (y d : Int) : Int := IntKind.wrap .i64 (IntKind.wrap .i64 (IntKind.wrap .i64 (IntKind.wrap .i64 (y - 1970) * 365) + d) - 1)
theorem day_eval (y m d : Int) : res ((funcL Try.prog qR (hd1 n0) dyΛ 100 30 [.int true .i64 y, .int true .i64 m, .int true .i64 d] []).go []) = some ([decide (1970 ≤ y), decide (y ≤ 100000), decide (0 ≤ dyX y d), decide (dyX y d ≤ 900000000), true, decide (0 ≤ y), decide (1 ≤ m), decide (m ≤ 12), decide (0 ≤ dyX y d + (cnt (jOf y.toNat) : Int)), decide (dyX y d + (cnt (jOf y.toNat) : Int) ≤ 1000000000), true], .int true .i64 (dyX y d + (cnt (jOf y.toNat) : Int) + (cumM y.toNat (m.toNat - 1) : Int))) := by kernel_rfl
theorem day_call {Y M D : Nat} (h0 : 1970 ≤ Y) (h1 : Y ≤ 100000) (h2 : 1 ≤ M) (h3 : M ≤ 12) (h4 : 1 ≤ D) (h5 : D ≤ 31) : PC Try.prog 30 [.int true .i64 (Y : Int), .int true .i64 (M : Int), .int true .i64 (D : Int)] (.int true .i64 (dayR Y M D : Int)) := by
  have e : dyX (Y : Int) (D : Int) = (((Y - 1970) * 365 + D - 1 : Nat) : Int) := by
    unfold dyX
    have b1 : IntKind.wrap .i64 ((Y : Int) - 1970) = ((Y - 1970 : Nat) : Int) := by rw [wrap64]; omega
    rw [b1]
    generalize hQ : Y - 1970 = Q at *
    have b2 : IntKind.wrap .i64 ((Q : Int) * 365) = (Q : Int) * 365 := by rw [wrap64]; omega
    have b3 : IntKind.wrap .i64 ((Q : Int) * 365 + D) = (Q : Int) * 365 + D := by rw [wrap64]; omega
    rw [b2, b3, wrap64]
    omega
  have hJ : jOf Y ≤ 100000 := by unfold jOf; omega
  have hc := cnt_le (jOf Y)
  have ev := day_eval (Y : Int) (M : Int) (D : Int)
  rw [e, Int.toNat_natCast, Int.toNat_natCast] at ev
  refine (pc_goL mixed noCount (hd1_ok n0_ok) (fun fn c hf hb => by rw [bodyOf_eq hf hb]; exact da_lok) [] rfl ev (paid_cons (decide_eq_true (by omega)) (paid_cons (decide_eq_true (by omega)) (paid_cons (decide_eq_true (by omega)) (paid_cons (decide_eq_true (by omega)) (paid_cons rfl (paid_cons (decide_eq_true (by omega)) (paid_cons (decide_eq_true (by omega)) (paid_cons (decide_eq_true (by omega)) (paid_cons (decide_eq_true (by omega)) (paid_cons (decide_eq_true (by omega)) (paid_cons rfl fun _ h => by cases h))))))))))) rfl).upInt ?_
  unfold dayR
  omega
def dayS : List AV → E AV
  | [.int _ .i64 y, .int _ .i64 m, .int _ .i64 d] => some ([decide (1970 ≤ y), decide (y ≤ 100000), decide (1 ≤ m), decide (m ≤ 12), decide (1 ≤ d), decide (d ≤ 31)], .int true .i64 (dayR y.toNat m.toNat d.toNat : Int))
  | _ => none
theorem dayS_ok {args : List AV} {o : List Bool} {v : AV} (h : dayS args = some (o, v)) (ho : Paid o) : PureCall Try.prog 30 args v := by
  unfold dayS at h
  split at h
  · rename_i a y b m c d
    cases h
    have o1 := of_decide_eq_true (ho _ (List.mem_cons_self ..))
    have o2 := of_decide_eq_true (ho _ (List.mem_cons_of_mem _ (List.mem_cons_self ..)))
    have o3 := of_decide_eq_true (ho _ (List.mem_cons_of_mem _ (List.mem_cons_of_mem _ (List.mem_cons_self ..))))
    have o4 := of_decide_eq_true (ho _ (List.mem_cons_of_mem _ (List.mem_cons_of_mem _ (List.mem_cons_of_mem _ (List.mem_cons_self ..)))))
    have o5 := of_decide_eq_true (ho _ (List.mem_cons_of_mem _ (List.mem_cons_of_mem _ (List.mem_cons_of_mem _ (List.mem_cons_of_mem _ (List.mem_cons_self ..))))))
    have o6 := of_decide_eq_true (ho _ (List.mem_cons_of_mem _ (List.mem_cons_of_mem _ (List.mem_cons_of_mem _ (List.mem_cons_of_mem _ (List.mem_cons_of_mem _ (List.mem_cons_self ..)))))))
    have := day_call (Y := y.toNat) (M := m.toNat) (D := d.toNat) (by omega) (by omega) (by omega) (by omega) (by omega) (by omega)
    rw [Int.toNat_of_nonneg (by omega : (0 : Int) ≤ y), Int.toNat_of_nonneg (by omega : (0 : Int) ≤ m), Int.toNat_of_nonneg (by omega : (0 : Int) ≤ d)] at this
    exact @PC.call _ _ _ _ _ (this.le (le_args3 _ _ _))
  · cases h
noncomputable def hdy (X : CallH) : CallH := withC 30 dayS (hd1 X)
theorem hdy_ok {X : CallH} (h : HOk Try.prog X) : HOk Try.prog (hdy X) := (hd1_ok h).withC fun _ _ _ h ho => dayS_ok h ho
end Go.Proofs.Ytjhjhhibfojpiaa
