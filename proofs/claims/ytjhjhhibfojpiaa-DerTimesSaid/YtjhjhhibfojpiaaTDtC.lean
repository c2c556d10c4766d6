/- Seconds of a moment, and the moment of seconds: contracts. Own work. -/
import Derived.Test.YtjhjhhibfojpiaaTDtB
import Derived.Test.YtjhjhhibfojpiaaTEvNone
set_option linter.unusedSimpArgs false
set_option linter.unusedVariables false
set_option linter.unusedSectionVars false
namespace Go.Proofs.Ytjhjhhibfojpiaa
open Go.Ev Go.De Go.Dt
set_option maxRecDepth 100000
set_option linter.unusedSimpArgs false
set_option linter.unusedVariables false
set_option linter.unusedSectionVars false
variable [Tab]
theorem ahd_9999 {Y : Nat} (h0 : 1970 ≤ Y) (h : Y ≤ 9999) : ahdY Y ≤ 2932897 := by
  have := ahead_le (a := Y) (b := 10000) h0 (by omega)
  rw [show ahdY 10000 = 2932897 by decide +kernel] at this
  exact this
def sd0 (y d : Int) : Int := IntKind.wrap .u64 (IntKind.wrap .u64 ((ahdY y.toNat : Int) + d) - 1)
def sqX (y m d h i s : Int) : Int := IntKind.wrap .u64 (IntKind.wrap .u64 (IntKind.wrap .u64 (IntKind.wrap .u64 (IntKind.wrap .u64 ((sd0 y d + (cumM y.toNat (m.toNat - 1) : Int)) * 24) + h) * 60) + i) * 60)
theorem sq_eval (y m d h i s : Int) : seeV 9 ((funcL Try.prog qR (hd1 n0) sqΛ 100 27 (cArgs 0 [.pl (.ints .u64 6 [y, m, d, h, i, s])]) (cMem [.pl (.ints .u64 6 [y, m, d, h, i, s])])).go []) = some ([decide (1970 ≤ y), decide (y ≤ 100000), decide (0 ≤ y), decide (1 ≤ m), decide (m ≤ 12), true, decide (0 ≤ sd0 y d), decide (sd0 y d ≤ 1000000000)], .int true .u64 (IntKind.wrap .u64 (sqX y m d h i s + s)), none) := by kernel_rfl
theorem sq_eq {Y M D H I S : Nat} (h0 : 1970 ≤ Y) (h1 : Y ≤ 9999) (hD1 : 1 ≤ D) (hM : M ≤ 12) (hD : D ≤ 31) (hH : H < 24) (hI : I < 60) (hS : S < 60) : sd0 Y D = ((ahdY Y + D - 1 : Nat) : Int) ∧ IntKind.wrap .u64 (sqX Y M D H I S + S) = (secs Y M D H I S : Int) := by
  have ha := ahd_9999 h0 h1
  have hc := cum_372 Y (M - 1)
  have e0 : sd0 (Y : Int) D = ((ahdY Y + D - 1 : Nat) : Int) := by
    unfold sd0
    rw [Int.toNat_natCast]
    generalize ahdY Y = A at *
    rw [wrapU64, wrapU64]; omega
  refine ⟨e0, ?_⟩
  unfold sqX secs
  rw [e0, Int.toNat_natCast, Int.toNat_natCast]
  generalize ahdY Y = A at *
  generalize cumM Y (M - 1) = C at *
  have hdd : A + D - 1 + C ≤ 3000000 := by omega
  have e9 : (((A + D - 1 : Nat) : Int) + (C : Int)) = ((A + D - 1 + C : Nat) : Int) := by omega
  rw [e9]
  generalize A + D - 1 + C = Q at *
  have a1 : IntKind.wrap .u64 ((Q : Int) * 24) = (Q : Int) * 24 := by rw [wrapU64]; omega
  have a2 : IntKind.wrap .u64 ((Q : Int) * 24 + H) = (Q : Int) * 24 + H := by rw [wrapU64]; omega
  have a3 : IntKind.wrap .u64 (((Q : Int) * 24 + H) * 60) = ((Q : Int) * 24 + H) * 60 := by rw [wrapU64]; omega
  have a4 : IntKind.wrap .u64 (((Q : Int) * 24 + H) * 60 + I) = ((Q : Int) * 24 + H) * 60 + I := by rw [wrapU64]; omega
  have a5 : IntKind.wrap .u64 ((((Q : Int) * 24 + H) * 60 + I) * 60) = (((Q : Int) * 24 + H) * 60 + I) * 60 := by rw [wrapU64]; omega
  rw [a1, a2, a3, a4, a5, wrapU64]
  omega
def secS : List V → E (AV × Mem)
  | [.pl (.ints .u64 6 [y, m, d, h, i, s])] => some ([decide (1970 ≤ y), decide (y ≤ 9999), decide (1 ≤ m), decide (m ≤ 12), decide (1 ≤ d), decide (d ≤ 31), decide (0 ≤ h), decide (h < 24), decide (0 ≤ i), decide (i < 60), decide (0 ≤ s), decide (s < 60)], (.int true .u64 (secs y.toNat m.toNat d.toNat h.toNat i.toNat s.toNat : Int), []))
  | _ => none
theorem secS_ok {xs : List V} {o : List Bool} {v : AV} {bs : Mem} (h : secS xs = some (o, (v, bs))) (ho : Paid o) : ViewCall Try.prog 27 xs v bs := by
  unfold secS at h
  split at h
  · rename_i y m d h0 i s
    cases h
    have o1 := of_decide_eq_true (ho _ (List.mem_cons_self ..))
    have o2 := of_decide_eq_true (ho _ (List.mem_cons_of_mem _ (List.mem_cons_self ..)))
    have o3 := of_decide_eq_true (ho _ (List.mem_cons_of_mem _ (List.mem_cons_of_mem _ (List.mem_cons_self ..))))
    have o4 := of_decide_eq_true (ho _ (List.mem_cons_of_mem _ (List.mem_cons_of_mem _ (List.mem_cons_of_mem _ (List.mem_cons_self ..)))))
    have o5 := of_decide_eq_true (ho _ (List.mem_cons_of_mem _ (List.mem_cons_of_mem _ (List.mem_cons_of_mem _ (List.mem_cons_of_mem _ (List.mem_cons_self ..))))))
    have o6 := of_decide_eq_true (ho _ (List.mem_cons_of_mem _ (List.mem_cons_of_mem _ (List.mem_cons_of_mem _ (List.mem_cons_of_mem _ (List.mem_cons_of_mem _ (List.mem_cons_self ..)))))))
    have o7 := of_decide_eq_true (ho _ (List.mem_cons_of_mem _ (List.mem_cons_of_mem _ (List.mem_cons_of_mem _ (List.mem_cons_of_mem _ (List.mem_cons_of_mem _ (List.mem_cons_of_mem _ (List.mem_cons_self ..))))))))
    have o8 := of_decide_eq_true (ho _ (List.mem_cons_of_mem _ (List.mem_cons_of_mem _ (List.mem_cons_of_mem _ (List.mem_cons_of_mem _ (List.mem_cons_of_mem _ (List.mem_cons_of_mem _ (List.mem_cons_of_mem _ (List.mem_cons_self ..)))))))))
    have o9 := of_decide_eq_true (ho _ (List.mem_cons_of_mem _ (List.mem_cons_of_mem _ (List.mem_cons_of_mem _ (List.mem_cons_of_mem _ (List.mem_cons_of_mem _ (List.mem_cons_of_mem _ (List.mem_cons_of_mem _ (List.mem_cons_of_mem _ (List.mem_cons_self ..))))))))))
    have o10 := of_decide_eq_true (ho _ (List.mem_cons_of_mem _ (List.mem_cons_of_mem _ (List.mem_cons_of_mem _ (List.mem_cons_of_mem _ (List.mem_cons_of_mem _ (List.mem_cons_of_mem _ (List.mem_cons_of_mem _ (List.mem_cons_of_mem _ (List.mem_cons_of_mem _ (List.mem_cons_self ..)))))))))))
    have o11 := of_decide_eq_true (ho _ (List.mem_cons_of_mem _ (List.mem_cons_of_mem _ (List.mem_cons_of_mem _ (List.mem_cons_of_mem _ (List.mem_cons_of_mem _ (List.mem_cons_of_mem _ (List.mem_cons_of_mem _ (List.mem_cons_of_mem _ (List.mem_cons_of_mem _ (List.mem_cons_of_mem _ (List.mem_cons_self ..))))))))))))
    have o12 := of_decide_eq_true (ho _ (List.mem_cons_of_mem _ (List.mem_cons_of_mem _ (List.mem_cons_of_mem _ (List.mem_cons_of_mem _ (List.mem_cons_of_mem _ (List.mem_cons_of_mem _ (List.mem_cons_of_mem _ (List.mem_cons_of_mem _ (List.mem_cons_of_mem _ (List.mem_cons_of_mem _ (List.mem_cons_of_mem _ (List.mem_cons_self ..)))))))))))))
    have ey : y = (y.toNat : Int) := by omega
    have em : m = (m.toNat : Int) := by omega
    have ed : d = (d.toNat : Int) := by omega
    have eh : h0 = (h0.toNat : Int) := by omega
    have ei : i = (i.toNat : Int) := by omega
    have es : s = (s.toNat : Int) := by omega
    obtain ⟨f1, f2⟩ := sq_eq (Y := y.toNat) (M := m.toNat) (D := d.toNat) (H := h0.toNat) (I := i.toNat) (S := s.toNat) (by omega) (by omega) (by omega) (by omega) (by omega) (by omega) (by omega) (by omega)
    rw [← ey, ← ed] at f1
    rw [← ey, ← em, ← ed, ← eh, ← ei, ← es] at f2
    have ev := sq_eval y m d h0 i s
    rw [f2, f1] at ev
    have ha := ahd_9999 (Y := y.toNat) (by omega) (by omega)
    exact @viewN_none _ _ _ _ _ mixed noCount (hd1_ok n0_ok) _ _ _ (fun fn c hf hb => by rw [bodyOf_eq hf hb]; exact sq_lok.toN) _ _ _ _ [] 9 ev (paid_cons (decide_eq_true o1) (paid_cons (decide_eq_true (by omega)) (paid_cons (decide_eq_true (by omega)) (paid_cons (decide_eq_true o3) (paid_cons (decide_eq_true o4) (paid_cons rfl (paid_cons (decide_eq_true (by omega)) (paid_cons (decide_eq_true (by omega)) fun _ h => by cases h)))))))) rfl rfl (by rfl) (by rfl)
  · cases h
def mqd (t : Int) : Int := IntKind.wrap .u64 (Int.tdiv t 86400)
def mqy (t : Int) : Int := ((yearOf (mqd t).toNat : Nat) : Int)
def mqr (t : Int) : Int := IntKind.wrap .u64 (mqd t - (ahdY (mqy t).toNat : Int))
def mqm (t : Int) : Int := ((monthOf (mqy t).toNat (mqr t).toNat : Nat) : Int)
def mqw (t : Int) : Int := IntKind.wrap .u64 (mqr t - (cumM (mqy t).toNat (monthOf (mqy t).toNat (mqr t).toNat - 1) : Int) + 1)
def mqL (t : Int) : List Int := [mqy t, mqm t, mqw t, Int.tmod (IntKind.wrap .u64 (Int.tdiv t 3600)) 24, Int.tmod (IntKind.wrap .u64 (Int.tdiv t 60)) 60, Int.tmod t 60]
theorem mq_eval (t : Int) : seeV 9 ((funcL Try.prog qR (hd1 n0) mqΛ 100 22 (cArgs 0 [.pl (.int true .u64 t)]) (cMem [.pl (.int true .u64 t)])).go []) = some ([decide (0 ≤ mqd t), decide (mqd t < 2932897), decide (IntKind.wrap .u64 (1970 + IntKind.wrap .u64 (Int.tdiv (mqd t) 366)) = 1970 + (((mqd t).toNat / 366 : Nat) : Int)), decide (1970 ≤ mqy t), decide (mqy t ≤ 100000), decide (0 ≤ mqr t), decide (0 ≤ mqy t), decide ((mqr t).toNat < cumM (mqy t).toNat 12), true], .ints .u64 6 (mqL t), none) := by kernel_rfl
theorem td_86400 (x : Nat) : Int.tdiv (x : Int) 86400 = ((x / 86400 : Nat) : Int) := td_nat x 86400
theorem td_3600 (x : Nat) : Int.tdiv (x : Int) 3600 = ((x / 3600 : Nat) : Int) := td_nat x 3600
theorem td_60 (x : Nat) : Int.tdiv (x : Int) 60 = ((x / 60 : Nat) : Int) := td_nat x 60
theorem td_366 (x : Nat) : Int.tdiv (x : Int) 366 = ((x / 366 : Nat) : Int) := td_nat x 366
theorem tm_24 (x : Nat) : Int.tmod (x : Int) 24 = ((x % 24 : Nat) : Int) := tm_nat x 24
theorem tm_60 (x : Nat) : Int.tmod (x : Int) 60 = ((x % 60 : Nat) : Int) := tm_nat x 60
theorem wrapN {n : Nat} (h : n ≤ 1000000000000000000) : IntKind.wrap .u64 (n : Int) = n := by rw [wrapU64]; omega
/-- A time's numbers. -/
def momL (T : Nat) : List Int := [(yearOf (T / 86400) : Int), (monOf (T / 86400) : Int), (dayOf (T / 86400) : Int), ((T / 3600 % 24 : Nat) : Int), ((T / 60 % 60 : Nat) : Int), ((T % 60 : Nat) : Int)]
theorem mq_eq {T : Nat} (h : T < 253402300800) : mqd T = ((T / 86400 : Nat) : Int) ∧ mqy T = (yearOf (T / 86400) : Int) ∧ mqr T = (restOf (T / 86400) : Int) ∧ mqL T = momL T := by
  have e1 : mqd T = ((T / 86400 : Nat) : Int) := by unfold mqd; rw [td_86400, wrapN (by omega)]
  have e2 : mqy T = (yearOf (T / 86400) : Int) := by unfold mqy; rw [e1, Int.toNat_natCast]
  obtain ⟨h1, h2, h3⟩ := yearOf_ok (T / 86400)
  have e3 : mqr T = (restOf (T / 86400) : Int) := by
    unfold mqr restOf
    rw [e1, e2, Int.toNat_natCast, ← Int.ofNat_sub h1, wrapN (by omega)]
  have e4 : mqm T = (monOf (T / 86400) : Int) := by
    unfold mqm monOf
    rw [e2, e3, Int.toNat_natCast, Int.toNat_natCast]
  have hr := rest_lt (T / 86400)
  obtain ⟨m1, m2, m3, m4⟩ := monthOf_ok hr
  have hr2 : restOf (T / 86400) < cumM (yearOf (T / 86400)) 12 := hr
  have h12 := cum_372 (yearOf (T / 86400)) 12
  have e5 : mqw T = (dayOf (T / 86400) : Int) := by
    unfold mqw dayOf monOf
    rw [e2, e3, Int.toNat_natCast, Int.toNat_natCast]
    have m1' : cumM (yearOf (T / 86400)) (monthOf (yearOf (T / 86400)) (restOf (T / 86400)) - 1) ≤ restOf (T / 86400) := m1
    rw [← Int.ofNat_sub m1', show ((restOf (T / 86400) - cumM (yearOf (T / 86400)) (monthOf (yearOf (T / 86400)) (restOf (T / 86400)) - 1) : Nat) : Int) + 1 = ((restOf (T / 86400) - cumM (yearOf (T / 86400)) (monthOf (yearOf (T / 86400)) (restOf (T / 86400)) - 1) + 1 : Nat) : Int) by omega]
    exact wrapN (by omega)
  refine ⟨e1, e2, e3, ?_⟩
  unfold mqL momL
  rw [e2, e4, e5, td_3600, td_60, wrapN (by omega), wrapN (by omega), tm_24, tm_60, tm_60]
def momS : List V → E (AV × Mem)
  | [.pl (.int true .u64 t)] => some ([decide (0 ≤ t), decide (t < 253402300800)], (.ints .u64 6 (momL t.toNat), []))
  | _ => none
theorem momS_ok {xs : List V} {o : List Bool} {v : AV} {bs : Mem} (h : momS xs = some (o, (v, bs))) (ho : Paid o) : ViewCall Try.prog 22 xs v bs := by
  unfold momS at h
  split at h
  · rename_i t
    cases h
    have o1 := of_decide_eq_true (ho _ (List.mem_cons_self ..))
    have o2 := of_decide_eq_true (ho _ (List.mem_cons_of_mem _ (List.mem_cons_self ..)))
    have et : t = (t.toNat : Int) := by omega
    obtain ⟨e1, e2, e3, e4⟩ := mq_eq (T := t.toNat) (by omega)
    have ev := mq_eval t
    rw [← et] at e1 e2 e3 e4
    have hr := rest_lt (t.toNat / 86400)
    have hr2 : restOf (t.toNat / 86400) < cumM (yearOf (t.toNat / 86400)) 12 := hr
    have h9 := year_9999 (d := t.toNat / 86400) (by omega)
    have h0 := (yearOf_ok (t.toNat / 86400)).2.2
    rw [e4, e3, e2, e1, Int.toNat_natCast, Int.toNat_natCast, Int.toNat_natCast, td_366] at ev
    have w1 : IntKind.wrap .u64 ((t.toNat / 86400 / 366 : Nat) : Int) = ((t.toNat / 86400 / 366 : Nat) : Int) := wrapN (by omega)
    have w2 : IntKind.wrap .u64 (1970 + ((t.toNat / 86400 / 366 : Nat) : Int)) = 1970 + ((t.toNat / 86400 / 366 : Nat) : Int) := by rw [wrapU64]; omega
    rw [w1, w2] at ev
    exact @viewN_none _ _ _ _ _ mixed noCount (hd1_ok n0_ok) _ _ _ (fun fn c hf hb => by rw [bodyOf_eq hf hb]; exact mq_lok.toN) _ _ _ _ [] 9 ev (paid_cons (decide_eq_true (by omega)) (paid_cons (decide_eq_true (by omega)) (paid_cons (decide_eq_true rfl) (paid_cons (decide_eq_true (by omega)) (paid_cons (decide_eq_true (by omega)) (paid_cons (decide_eq_true (by omega)) (paid_cons (decide_eq_true (by omega)) (paid_cons (decide_eq_true hr2) (paid_cons rfl fun _ h => by cases h))))))))) rfl (by rfl) (by rfl) (by rfl)
  · cases h
noncomputable def hd2 (X : CallH) : CallH := withV 27 secS (withV 22 momS (hd1 X))
theorem hd2_ok {X : CallH} (h : HOk Try.prog X) : HOk Try.prog (hd2 X) := ((hd1_ok h).withV fun _ _ _ _ h ho => momS_ok h ho).withV fun _ _ _ _ h ho => secS_ok h ho
end Go.Proofs.Ytjhjhhibfojpiaa
