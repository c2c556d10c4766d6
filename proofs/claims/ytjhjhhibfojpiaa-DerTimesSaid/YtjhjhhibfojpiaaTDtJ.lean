/- A time written: a contract. Own work. -/
import Derived.Test.YtjhjhhibfojpiaaTDtI
set_option linter.unusedSimpArgs false
set_option linter.unusedVariables false
set_option linter.unusedSectionVars false
namespace Go.Proofs.Ytjhjhhibfojpiaa
open Go.Ev Go.De Go.Dt
set_option maxRecDepth 100000
set_option linter.unusedSimpArgs false
set_option linter.unusedVariables false
set_option linter.unusedSectionVars false
variable [Tab]
def wd1 (p : Int) : Int := IntKind.wrap .u8 (IntKind.wrap .u64 (48 + IntKind.wrap .u64 (Int.tdiv p 10)))
def wd2 (p : Int) : Int := IntKind.wrap .u8 (IntKind.wrap .u64 (48 + Int.tmod p 10))
def txL (L : List Int) : List Int := [wd1 (IntKind.wrap .u64 (Int.tdiv (L.getD 0 0) 100)), wd2 (IntKind.wrap .u64 (Int.tdiv (L.getD 0 0) 100)), wd1 (Int.tmod (L.getD 0 0) 100), wd2 (Int.tmod (L.getD 0 0) 100), wd1 (L.getD 1 0), wd2 (L.getD 1 0), wd1 (L.getD 2 0), wd2 (L.getD 2 0), wd1 (L.getD 3 0), wd2 (L.getD 3 0), wd1 (L.getD 4 0), wd2 (L.getD 4 0), wd1 (L.getD 5 0), wd2 (L.getD 5 0), 90]
theorem wh0_eval (t : Int) : seeV 99 ((funcL Try.prog qR (dH (hd2 n0) 7) (fun _ _ => none) 200 12 (cArgs 0 [.pl (.int true .u64 t)]) (cMem [.pl (.int true .u64 t)])).go [true]) = some ([decide (mqd t ≥ 2932897)], .nilslice, none) := by kernel_rfl
theorem wh1_eval (t : Int) : seeV 23 ((funcL Try.prog qR (dH (hd2 n0) 7) (fun _ _ => none) 200 12 (cArgs 0 [.pl (.int true .u64 t)]) (cMem [.pl (.int true .u64 t)])).go [false, true]) = some ([!decide (mqd t ≥ 2932897), decide (0 ≤ t), decide (t < 253402300800), decide ((momL t.toNat).getD 0 0 ≤ 2049)], .slice false 23 0 15 none 1, some (some ⟨true, .ints .u8 (some 15) ([23, 13] ++ (txL (momL t.toNat)).drop 2)⟩)) := by kernel_rfl
theorem wh2_eval (t : Int) : seeV 23 ((funcL Try.prog qR (dH (hd2 n0) 7) (fun _ _ => none) 200 12 (cArgs 0 [.pl (.int true .u64 t)]) (cMem [.pl (.int true .u64 t)])).go [false, false]) = some ([!decide (mqd t ≥ 2932897), decide (0 ≤ t), decide (t < 253402300800), !decide ((momL t.toNat).getD 0 0 ≤ 2049)], .slice false 23 0 17 none 1, some (some ⟨true, .ints .u8 (some 17) ([24, 15] ++ txL (momL t.toNat))⟩)) := by kernel_rfl
theorem wd_dg {p : Nat} (h : p < 100) : [wd1 (p : Int), wd2 (p : Int)] = dg p := by
  unfold wd1 wd2 dg
  have e1 : Int.tdiv (p : Int) 10 = ((p / 10 : Nat) : Int) := td_nat p 10
  have e2 : Int.tmod (p : Int) 10 = ((p % 10 : Nat) : Int) := tm_nat p 10
  have w1 : IntKind.wrap .u64 ((p / 10 : Nat) : Int) = ((p / 10 : Nat) : Int) := wrapN (by omega)
  have w2 : IntKind.wrap .u64 (48 + ((p / 10 : Nat) : Int)) = 48 + ((p / 10 : Nat) : Int) := by rw [wrapU64]; omega
  have w3 : IntKind.wrap .u64 (48 + ((p % 10 : Nat) : Int)) = 48 + ((p % 10 : Nat) : Int) := by rw [wrapU64]; omega
  have w4 : IntKind.wrap .u8 (48 + ((p / 10 : Nat) : Int)) = 48 + ((p / 10 : Nat) : Int) := by rw [wrapU8]; omega
  have w5 : IntKind.wrap .u8 (48 + ((p % 10 : Nat) : Int)) = 48 + ((p % 10 : Nat) : Int) := by rw [wrapU8]; omega
  rw [e1, e2, w1, w2, w3, w4, w5]
/-- A time's digits, from the century on, and a Z. -/
def whT (T : Nat) : List Int := dg (yearOf (T / 86400) % 100) ++ dg (monOf (T / 86400)) ++ dg (dayOf (T / 86400)) ++ dg (T / 3600 % 24) ++ dg (T / 60 % 60) ++ dg (T % 60) ++ [90]
theorem txL_eq {T : Nat} (h : T < 253402300800) : txL (momL T) = dg (yearOf (T / 86400) / 100) ++ whT T := by
  have hy := year_9999 (d := T / 86400) (by omega)
  have hm := mon_range (T / 86400)
  have hd := day_range (T / 86400)
  have hl := (lenM_range (yearOf (T / 86400)) (monOf (T / 86400))).2
  have y1 : Int.tdiv ((yearOf (T / 86400) : Nat) : Int) 100 = ((yearOf (T / 86400) / 100 : Nat) : Int) := td_nat _ 100
  have y2 : Int.tmod ((yearOf (T / 86400) : Nat) : Int) 100 = ((yearOf (T / 86400) % 100 : Nat) : Int) := tm_nat _ 100
  have y3 : IntKind.wrap .u64 ((yearOf (T / 86400) / 100 : Nat) : Int) = ((yearOf (T / 86400) / 100 : Nat) : Int) := wrapN (by omega)
  unfold whT
  rw [← wd_dg (p := yearOf (T / 86400) / 100) (by omega), ← wd_dg (p := yearOf (T / 86400) % 100) (by omega), ← wd_dg (p := monOf (T / 86400)) (by omega), ← wd_dg (p := dayOf (T / 86400)) (by omega), ← wd_dg (p := T / 3600 % 24) (by omega), ← wd_dg (p := T / 60 % 60) (by omega), ← wd_dg (p := T % 60) (by omega)]
  unfold txL momL
  simp only [List.getD_cons_zero, List.getD_cons_succ, y1, y2, y3, List.cons_append, List.nil_append]
theorem mqd_ge {t : Int} (h0 : 0 ≤ t) (h1 : t < 18446744073709551616) : mqd t ≥ 2932897 ↔ 253402300800 ≤ t := by
  have e : t = (t.toNat : Int) := by omega
  unfold mqd
  rw [e, td_86400, wrapN (by omega)]
  omega
def whS (c : Nat) : List V → E (AV × Mem)
  | [.pl (.int true .u64 t)] => match c with
    | 0 => some ([decide (0 ≤ t), decide (t < 18446744073709551616), decide (253402300800 ≤ t)], (.nilslice, []))
    | 1 => some ([decide (0 ≤ t), decide (t < 253402300800), decide (yearOf (t.toNat / 86400) ≤ 2049)], (.slice false 0 0 15 none 1, [some ⟨true, .ints .u8 (some 15) ([23, 13] ++ whT t.toNat)⟩]))
    | _ => some ([decide (0 ≤ t), decide (t < 253402300800), decide (¬ yearOf (t.toNat / 86400) ≤ 2049)], (.slice false 0 0 17 none 1, [some ⟨true, .ints .u8 (some 17) ([24, 15] ++ (dg (yearOf (t.toNat / 86400) / 100) ++ whT t.toNat))⟩]))
  | _ => none
theorem whS_ok (c : Nat) {xs : List V} {o : List Bool} {v : AV} {bs : Mem} (h : whS c xs = some (o, (v, bs))) (ho : Paid o) : ViewCall Try.prog 12 xs v bs := by
  unfold whS at h
  split at h
  · rename_i t
    split at h
    · cases h
      have o1 := of_decide_eq_true (ho _ (List.mem_cons_self ..))
      have o2 := of_decide_eq_true (ho _ (List.mem_cons_of_mem _ (List.mem_cons_self ..)))
      have o3 := of_decide_eq_true (ho _ (List.mem_cons_of_mem _ (List.mem_cons_of_mem _ (List.mem_cons_self ..))))
      exact @viewN_none _ _ _ _ _ mixed noCount (dH_ok (hd2_ok n0_ok) 7) _ _ _ (fun _ _ _ _ => LOkN.none) _ _ _ _ [true] 99 (wh0_eval t) (paid_cons (decide_eq_true ((mqd_ge o1 o2).2 o3)) fun _ h => by cases h) rfl rfl (by rfl) (by rfl)
    · cases h
      have o1 := of_decide_eq_true (ho _ (List.mem_cons_self ..))
      have o2 := of_decide_eq_true (ho _ (List.mem_cons_of_mem _ (List.mem_cons_self ..)))
      have o3 := of_decide_eq_true (ho _ (List.mem_cons_of_mem _ (List.mem_cons_of_mem _ (List.mem_cons_self ..))))
      have hg : ¬ mqd t ≥ 2932897 := fun h => by have := (mqd_ge o1 (by omega)).1 h; omega
      have ev := wh1_eval t
      have e9 : [23, 13] ++ whT t.toNat = [23, 13] ++ (txL (momL t.toNat)).drop 2 := by
        rw [txL_eq (by omega)]
        rfl
      rw [← e9] at ev
      exact @viewN_one _ _ _ _ _ mixed noCount (dH_ok (hd2_ok n0_ok) 7) _ _ _ (fun _ _ _ _ => LOkN.none) _ (.slice false 0 0 15 none 1) _ _ _ _ [false, true] 23 ev (paid_cons (by rw [decide_eq_false hg]; rfl) (paid_cons (decide_eq_true o1) (paid_cons (decide_eq_true o2) (paid_cons (decide_eq_true (by unfold momL; simp only [List.getD_cons_zero]; omega)) fun _ h => by cases h)))) (by simp) rfl rfl
    · cases h
      have o1 := of_decide_eq_true (ho _ (List.mem_cons_self ..))
      have o2 := of_decide_eq_true (ho _ (List.mem_cons_of_mem _ (List.mem_cons_self ..)))
      have o3 := of_decide_eq_true (ho _ (List.mem_cons_of_mem _ (List.mem_cons_of_mem _ (List.mem_cons_self ..))))
      have hg : ¬ mqd t ≥ 2932897 := fun h => by have := (mqd_ge o1 (by omega)).1 h; omega
      have ev := wh2_eval t
      have e9 : [24, 15] ++ (dg (yearOf (t.toNat / 86400) / 100) ++ whT t.toNat) = [24, 15] ++ txL (momL t.toNat) := by
        rw [txL_eq (by omega)]
      rw [← e9] at ev
      exact @viewN_one _ _ _ _ _ mixed noCount (dH_ok (hd2_ok n0_ok) 7) _ _ _ (fun _ _ _ _ => LOkN.none) _ (.slice false 0 0 17 none 1) _ _ _ _ [false, false] 23 ev (paid_cons (by rw [decide_eq_false hg]; rfl) (paid_cons (decide_eq_true o1) (paid_cons (decide_eq_true o2) (paid_cons (by rw [Bool.not_eq_true']; exact decide_eq_false (by unfold momL; simp only [List.getD_cons_zero]; omega)) fun _ h => by cases h)))) (by simp) rfl rfl
  · cases h
noncomputable def hwh (c : Nat) (X : CallH) : CallH := withV 12 (whS c) X
theorem hwh_ok {X : CallH} (h : HOk Try.prog X) (c : Nat) : HOk Try.prog (hwh c X) := h.withV fun _ _ _ _ h ho => whS_ok c h ho
end Go.Proofs.Ytjhjhhibfojpiaa
