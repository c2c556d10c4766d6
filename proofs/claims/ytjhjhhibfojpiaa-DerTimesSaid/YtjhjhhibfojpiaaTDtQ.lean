/- The reference's writing of a time: a contract. Own work. -/
import Derived.Test.YtjhjhhibfojpiaaTDtP
set_option linter.unusedSimpArgs false
set_option linter.unusedVariables false
set_option linter.unusedSectionVars false
namespace Go.Proofs.Ytjhjhhibfojpiaa
open Go.Ev Go.De Go.Dt
set_option maxRecDepth 100000
set_option linter.unusedSimpArgs false
set_option linter.unusedVariables false
set_option linter.unusedSectionVars false
variable [Tab]
def rd1 (p : Int) : Int := IntKind.wrap .u8 (IntKind.wrap .i64 (48 + Int.tmod (IntKind.wrap .i64 (Int.tdiv p 10)) 10))
def rd2 (p : Int) : Int := IntKind.wrap .u8 (IntKind.wrap .i64 (48 + Int.tmod p 10))
def rdR (t : Int) : Int := IntKind.wrap .i64 (IntKind.wrap .u64 (Int.tdiv t 86400))
def ryR (t : Int) : Int := ((yearOf (rdR t).toNat : Nat) : Int)
def rmR (t : Int) : Int := ((monOf (rdR t).toNat : Nat) : Int)
def rsR (t : Int) : Int := IntKind.wrap .i64 (Int.tmod t 86400)
def reR (t : Int) : Int := IntKind.wrap .i64 (IntKind.wrap .i64 (rdR t - (dayR (ryR t).toNat (rmR t).toNat 1 : Int)) + 1)
def rwT (t : Int) : List Int := [rd1 (Int.tmod (ryR t) 100), rd2 (Int.tmod (ryR t) 100), rd1 (rmR t), rd2 (rmR t), rd1 (reR t), rd2 (reR t), rd1 (IntKind.wrap .i64 (Int.tdiv (rsR t) 3600)), rd2 (IntKind.wrap .i64 (Int.tdiv (rsR t) 3600)), rd1 (Int.tmod (IntKind.wrap .i64 (Int.tdiv (rsR t) 60)) 60), rd2 (Int.tmod (IntKind.wrap .i64 (Int.tdiv (rsR t) 60)) 60), rd1 (Int.tmod (rsR t) 60), rd2 (Int.tmod (rsR t) 60), 90]
theorem rwn_eval (t : Int) : seeV 99 ((funcL Try.prog qR (dH (hdy n0) 7) raΛ 200 15 (cArgs 0 [.pl (.int true .u64 t)]) (cMem [.pl (.int true .u64 t)])).go [true]) = some ([true, true, true, true, true, true, decide (t ≥ 253402300800)], .nilslice, none) := by kernel_rfl
theorem rwu_eval (t : Int) : seeV 18 ((funcL Try.prog qR (dH (hdy n0) 7) raΛ 200 15 (cArgs 0 [.pl (.int true .u64 t)]) (cMem [.pl (.int true .u64 t)])).go [false, false, false]) = some ([true, true, true, true, true, true, !decide (t ≥ 253402300800), decide (0 ≤ rdR t), decide (rdR t < 2932897), decide (IntKind.wrap .i64 (1970 + IntKind.wrap .i64 (Int.tdiv (rdR t) 366)) = 1970 + (((rdR t).toNat / 366 : Nat) : Int)), decide (0 ≤ rdR t), decide (rdR t < 2932897), decide (ryR t = ryR t), decide ((1 : Int) = 1), !decide (ryR t > 2049), decide (1970 ≤ ryR t), decide (ryR t ≤ 100000), decide (1 ≤ rmR t), decide (rmR t ≤ 12), true, true, !decide (ryR t > 2049)], .slice false 18 0 15 none 1, some (some ⟨true, .ints .u8 (some 15) ([23, 13] ++ rwT t)⟩)) := by kernel_rfl
theorem rwg_eval (t : Int) : seeV 20 ((funcL Try.prog qR (dH (hdy n0) 7) raΛ 200 15 (cArgs 0 [.pl (.int true .u64 t)]) (cMem [.pl (.int true .u64 t)])).go [false, true, true]) = some ([true, true, true, true, true, true, !decide (t ≥ 253402300800), decide (0 ≤ rdR t), decide (rdR t < 2932897), decide (IntKind.wrap .i64 (1970 + IntKind.wrap .i64 (Int.tdiv (rdR t) 366)) = 1970 + (((rdR t).toNat / 366 : Nat) : Int)), decide (0 ≤ rdR t), decide (rdR t < 2932897), decide (ryR t = ryR t), decide ((1 : Int) = 1), decide (ryR t > 2049), decide (1970 ≤ ryR t), decide (ryR t ≤ 100000), decide (1 ≤ rmR t), decide (rmR t ≤ 12), true, true, decide (ryR t > 2049)], .slice false 20 0 17 none 1, some (some ⟨true, .ints .u8 (some 17) ([24, 15] ++ ([rd1 (IntKind.wrap .i64 (Int.tdiv (ryR t) 100)), rd2 (IntKind.wrap .i64 (Int.tdiv (ryR t) 100))] ++ rwT t))⟩)) := by kernel_rfl
theorem wrapM {n : Nat} (h : n ≤ 1000000000000000000) : IntKind.wrap .i64 (n : Int) = n := by rw [wrap64]; omega
theorem rd_dg {p : Nat} (h : p < 100) : [rd1 (p : Int), rd2 (p : Int)] = dg p := by
  unfold rd1 rd2 dg
  have e1 : Int.tdiv (p : Int) 10 = ((p / 10 : Nat) : Int) := td_nat p 10
  have e2 : Int.tmod (p : Int) 10 = ((p % 10 : Nat) : Int) := tm_nat p 10
  have e3 : Int.tmod ((p / 10 : Nat) : Int) 10 = ((p / 10 % 10 : Nat) : Int) := tm_nat _ 10
  have e4 : p / 10 % 10 = p / 10 := by omega
  have w1 : IntKind.wrap .i64 ((p / 10 : Nat) : Int) = ((p / 10 : Nat) : Int) := wrapM (by omega)
  have w2 : IntKind.wrap .i64 (48 + ((p / 10 : Nat) : Int)) = 48 + ((p / 10 : Nat) : Int) := by rw [wrap64]; omega
  have w3 : IntKind.wrap .i64 (48 + ((p % 10 : Nat) : Int)) = 48 + ((p % 10 : Nat) : Int) := by rw [wrap64]; omega
  have w4 : IntKind.wrap .u8 (48 + ((p / 10 : Nat) : Int)) = 48 + ((p / 10 : Nat) : Int) := by rw [wrapU8]; omega
  have w5 : IntKind.wrap .u8 (48 + ((p % 10 : Nat) : Int)) = 48 + ((p % 10 : Nat) : Int) := by rw [wrapU8]; omega
  rw [e1, e2, w1, e3, e4, w2, w3, w4, w5]
theorem rw_eq {T : Nat} (h : T < 253402300800) : rdR T = ((T / 86400 : Nat) : Int) ∧ ryR T = (yearOf (T / 86400) : Int) ∧ rmR T = (monOf (T / 86400) : Int) ∧ reR T = (dayOf (T / 86400) : Int) ∧ rwT T = whT T ∧ [rd1 (IntKind.wrap .i64 (Int.tdiv (ryR T) 100)), rd2 (IntKind.wrap .i64 (Int.tdiv (ryR T) 100))] = dg (yearOf (T / 86400) / 100) := by
  have e1 : rdR T = ((T / 86400 : Nat) : Int) := by unfold rdR; rw [td_86400, wrapN (by omega), wrapM (by omega)]
  have e2 : ryR T = (yearOf (T / 86400) : Int) := by unfold ryR; rw [e1, Int.toNat_natCast]
  have e3 : rmR T = (monOf (T / 86400) : Int) := by unfold rmR; rw [e1, Int.toNat_natCast]
  obtain ⟨h1, h2, h3⟩ := yearOf_ok (T / 86400)
  have hr := rest_lt (T / 86400)
  obtain ⟨m1, m2, m3, m4⟩ := monthOf_ok hr
  have h12 := cum_372 (yearOf (T / 86400)) 12
  have hy := year_9999 (d := T / 86400) (by omega)
  have hm := mon_range (T / 86400)
  have hd := day_range (T / 86400)
  have hl := (lenM_range (yearOf (T / 86400)) (monOf (T / 86400))).2
  have e4 : reR T = (dayOf (T / 86400) : Int) := by
    unfold reR
    rw [e1, e2, e3, Int.toNat_natCast, Int.toNat_natCast, dayR_ahead h3 (Nat.le_refl _)]
    have q1 : cumM (yearOf (T / 86400)) (monOf (T / 86400) - 1) ≤ restOf (T / 86400) := m1
    have q2 : restOf (T / 86400) = T / 86400 - ahdY (yearOf (T / 86400)) := rfl
    have q3 : dayOf (T / 86400) = restOf (T / 86400) - cumM (yearOf (T / 86400)) (monOf (T / 86400) - 1) + 1 := rfl
    rw [q3, q2]
    have q4 : cumM (yearOf (T / 86400)) (monOf (T / 86400) - 1) ≤ T / 86400 - ahdY (yearOf (T / 86400)) := q1
    have hQ : T / 86400 ≤ 3000000 := by omega
    generalize cumM (yearOf (T / 86400)) (monOf (T / 86400) - 1) = C at *
    generalize ahdY (yearOf (T / 86400)) = A at *
    generalize T / 86400 = Q at *
    clear hr m1 m2 m3 m4 q1 q2 q3 hd hl hm hy h2
    have w1 : IntKind.wrap .i64 ((Q : Int) - ((A + 1 - 1 + C : Nat) : Int)) = ((Q - A - C : Nat) : Int) := by rw [wrap64]; omega
    have w2 : IntKind.wrap .i64 (((Q - A - C : Nat) : Int) + 1) = ((Q - A - C + 1 : Nat) : Int) := by rw [wrap64]; omega
    rw [w1, w2]
  have e5 : rsR T = ((T % 86400 : Nat) : Int) := by unfold rsR; rw [show Int.tmod (T : Int) 86400 = ((T % 86400 : Nat) : Int) from tm_nat T 86400, wrapM (by omega)]
  have y2 : Int.tmod ((yearOf (T / 86400) : Nat) : Int) 100 = ((yearOf (T / 86400) % 100 : Nat) : Int) := tm_nat _ 100
  have y1 : Int.tdiv ((yearOf (T / 86400) : Nat) : Int) 100 = ((yearOf (T / 86400) / 100 : Nat) : Int) := td_nat _ 100
  have s1 : Int.tdiv ((T % 86400 : Nat) : Int) 3600 = ((T % 86400 / 3600 : Nat) : Int) := td_nat _ 3600
  have s2 : Int.tdiv ((T % 86400 : Nat) : Int) 60 = ((T % 86400 / 60 : Nat) : Int) := td_nat _ 60
  have s3 : Int.tmod ((T % 86400 / 60 : Nat) : Int) 60 = ((T % 86400 / 60 % 60 : Nat) : Int) := tm_nat _ 60
  have s4 : Int.tmod ((T % 86400 : Nat) : Int) 60 = ((T % 86400 % 60 : Nat) : Int) := tm_nat _ 60
  have u1 : T % 86400 / 3600 = T / 3600 % 24 := by omega
  have u2 : T % 86400 / 60 % 60 = T / 60 % 60 := by omega
  have u3 : T % 86400 % 60 = T % 60 := by omega
  refine ⟨e1, e2, e3, e4, ?_, ?_⟩
  · unfold whT
    rw [← rd_dg (p := yearOf (T / 86400) % 100) (by omega), ← rd_dg (p := monOf (T / 86400)) (by omega), ← rd_dg (p := dayOf (T / 86400)) (by omega), ← rd_dg (p := T / 3600 % 24) (by omega), ← rd_dg (p := T / 60 % 60) (by omega), ← rd_dg (p := T % 60) (by omega)]
    unfold rwT
    rw [e2, e3, e4, e5, y2, s1, s2, wrapM (n := T % 86400 / 3600) (by omega), wrapM (n := T % 86400 / 60) (by omega), s3, s4, u1, u2, u3]
    rfl
  · rw [e2, y1, wrapM (by omega), rd_dg (by omega)]
def rwS (c : Nat) : List V → E (AV × Mem)
  | [.pl (.int true .u64 t)] => match c with
    | 0 => some ([decide (0 ≤ t), decide (t < 18446744073709551616), decide (253402300800 ≤ t)], (.nilslice, []))
    | 1 => some ([decide (0 ≤ t), decide (t < 253402300800), decide (yearOf (t.toNat / 86400) ≤ 2049)], (.slice false 0 0 15 none 1, [some ⟨true, .ints .u8 (some 15) ([23, 13] ++ whT t.toNat)⟩]))
    | _ => some ([decide (0 ≤ t), decide (t < 253402300800), decide (¬ yearOf (t.toNat / 86400) ≤ 2049)], (.slice false 0 0 17 none 1, [some ⟨true, .ints .u8 (some 17) ([24, 15] ++ (dg (yearOf (t.toNat / 86400) / 100) ++ whT t.toNat))⟩]))
  | _ => none
theorem rwS_ok (c : Nat) {xs : List V} {o : List Bool} {v : AV} {bs : Mem} (h : rwS c xs = some (o, (v, bs))) (ho : Paid o) : ViewCall Try.prog 15 xs v bs := by
  have lok : ∀ fn c, Try.prog.funcs[15]? = some fn → fn.body = some c → LOkN 1 Try.prog c raΛ := fun fn c hf hb => by rw [bodyOf_eq hf hb]; exact ra_lok.toN
  unfold rwS at h
  split at h
  · rename_i t
    split at h
    · cases h
      have o3 := of_decide_eq_true (ho _ (List.mem_cons_of_mem _ (List.mem_cons_of_mem _ (List.mem_cons_self ..))))
      exact @viewN_none _ _ _ _ _ mixed noCount (dH_ok (hdy_ok n0_ok) 7) _ _ _ lok _ _ _ _ [true] 99 (rwn_eval t) (paid_cons rfl (paid_cons rfl (paid_cons rfl (paid_cons rfl (paid_cons rfl (paid_cons rfl (paid_cons (decide_eq_true o3) fun _ h => by cases h))))))) rfl rfl (by rfl) (by rfl)
    · cases h
      have o1 := of_decide_eq_true (ho _ (List.mem_cons_self ..))
      have o2 := of_decide_eq_true (ho _ (List.mem_cons_of_mem _ (List.mem_cons_self ..)))
      have o3 := of_decide_eq_true (ho _ (List.mem_cons_of_mem _ (List.mem_cons_of_mem _ (List.mem_cons_self ..))))
      have et : t = (t.toNat : Int) := by omega
      obtain ⟨e1, e2, e3, e4, e5, e6⟩ := rw_eq (T := t.toNat) (by omega)
      rw [← et] at e1 e2 e3 e4 e5 e6
      have h9 := year_9999 (d := t.toNat / 86400) (by omega)
      have h0 := (yearOf_ok (t.toNat / 86400)).2.2
      have hm := mon_range (t.toNat / 86400)
      have w2 : IntKind.wrap .i64 (1970 + ((t.toNat / 86400 / 366 : Nat) : Int)) = 1970 + ((t.toNat / 86400 / 366 : Nat) : Int) := by rw [wrap64]; omega
      have hnt : (!decide (t ≥ 253402300800)) = true := by rw [Bool.not_eq_true']; exact decide_eq_false (by omega)
      have ev := rwu_eval t
      rw [e5, e2, e3, e1, Int.toNat_natCast, td_366, wrapM (n := t.toNat / 86400 / 366) (by omega), w2] at ev
      have hg : (!decide (((yearOf (t.toNat / 86400) : Nat) : Int) > 2049)) = true := by rw [Bool.not_eq_true']; exact decide_eq_false (by omega)
      exact @viewN_one _ _ _ _ _ mixed noCount (dH_ok (hdy_ok n0_ok) 7) _ _ _ lok _ (.slice false 0 0 15 none 1) _ _ _ _ [false, false, false] 18 ev (paid_cons (rfl) (paid_cons (rfl) (paid_cons (rfl) (paid_cons (rfl) (paid_cons (rfl) (paid_cons (rfl) (paid_cons (hnt) (paid_cons (decide_eq_true (by omega)) (paid_cons (decide_eq_true (by omega)) (paid_cons (decide_eq_true rfl) (paid_cons (decide_eq_true (by omega)) (paid_cons (decide_eq_true (by omega)) (paid_cons (decide_eq_true rfl) (paid_cons (decide_eq_true rfl) (paid_cons (hg) (paid_cons (decide_eq_true (by omega)) (paid_cons (decide_eq_true (by omega)) (paid_cons (decide_eq_true (by omega)) (paid_cons (decide_eq_true (by omega)) (paid_cons (rfl) (paid_cons (rfl) (paid_cons (hg) (fun _ h => by cases h))))))))))))))))))))))) (by simp) rfl rfl
    · cases h
      have o1 := of_decide_eq_true (ho _ (List.mem_cons_self ..))
      have o2 := of_decide_eq_true (ho _ (List.mem_cons_of_mem _ (List.mem_cons_self ..)))
      have o3 := of_decide_eq_true (ho _ (List.mem_cons_of_mem _ (List.mem_cons_of_mem _ (List.mem_cons_self ..))))
      have et : t = (t.toNat : Int) := by omega
      obtain ⟨e1, e2, e3, e4, e5, e6⟩ := rw_eq (T := t.toNat) (by omega)
      rw [← et] at e1 e2 e3 e4 e5 e6
      have h9 := year_9999 (d := t.toNat / 86400) (by omega)
      have h0 := (yearOf_ok (t.toNat / 86400)).2.2
      have hm := mon_range (t.toNat / 86400)
      have w2 : IntKind.wrap .i64 (1970 + ((t.toNat / 86400 / 366 : Nat) : Int)) = 1970 + ((t.toNat / 86400 / 366 : Nat) : Int) := by rw [wrap64]; omega
      have hnt : (!decide (t ≥ 253402300800)) = true := by rw [Bool.not_eq_true']; exact decide_eq_false (by omega)
      have ev := rwg_eval t
      rw [e5, e6, e2, e3, e1, Int.toNat_natCast, td_366, wrapM (n := t.toNat / 86400 / 366) (by omega), w2] at ev
      have hg : decide (((yearOf (t.toNat / 86400) : Nat) : Int) > 2049) = true := decide_eq_true (by omega)
      exact @viewN_one _ _ _ _ _ mixed noCount (dH_ok (hdy_ok n0_ok) 7) _ _ _ lok _ (.slice false 0 0 17 none 1) _ _ _ _ [false, true, true] 20 ev (paid_cons (rfl) (paid_cons (rfl) (paid_cons (rfl) (paid_cons (rfl) (paid_cons (rfl) (paid_cons (rfl) (paid_cons (hnt) (paid_cons (decide_eq_true (by omega)) (paid_cons (decide_eq_true (by omega)) (paid_cons (decide_eq_true rfl) (paid_cons (decide_eq_true (by omega)) (paid_cons (decide_eq_true (by omega)) (paid_cons (decide_eq_true rfl) (paid_cons (decide_eq_true rfl) (paid_cons (hg) (paid_cons (decide_eq_true (by omega)) (paid_cons (decide_eq_true (by omega)) (paid_cons (decide_eq_true (by omega)) (paid_cons (decide_eq_true (by omega)) (paid_cons (rfl) (paid_cons (rfl) (paid_cons (hg) (fun _ h => by cases h))))))))))))))))))))))) (by simp) rfl rfl
  · cases h
noncomputable def hrw (c : Nat) (X : CallH) : CallH := withV 15 (rwS c) X
theorem hrw_ok {X : CallH} (h : HOk Try.prog X) (c : Nat) : HOk Try.prog (hrw c X) := h.withV fun _ _ _ _ h ho => rwS_ok c h ho
end Go.Proofs.Ytjhjhhibfojpiaa
