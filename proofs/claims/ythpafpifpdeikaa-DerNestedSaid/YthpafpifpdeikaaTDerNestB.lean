/- Elements one in the other: the law with bytes in them. Own work. -/
import Derived.Test.YthpafpifpdeikaaTDeZ
set_option linter.unusedSimpArgs false
set_option linter.unusedVariables false
set_option linter.unusedSectionVars false
namespace Go.Proofs.Ythpafpifpdeikaa
open Go.Ev Go.De
set_option maxRecDepth 100000
variable [Tab]
set_option linter.unusedSimpArgs false
set_option linter.unusedVariables false
def kW (n : Int) : Int := IntKind.wrap .i64 (Int.tmod (IntKind.wrap .i64 (Int.tmod n 60 + 60)) 60 + 1)
theorem tmod60 (n : Int) : -59 ≤ Int.tmod n 60 ∧ Int.tmod n 60 ≤ 59 := by
  rcases Int.le_total 0 n with h | h
  · rw [Int.tmod_eq_emod_of_nonneg h]; omega
  · have e : n = -(-n) := by omega
    rw [e, Int.neg_tmod, Int.tmod_eq_emod_of_nonneg (by omega)]
    omega
theorem kW_in (n : Int) : 1 ≤ kW n ∧ kW n ≤ 60 := by
  have h := tmod60 n
  have w : IntKind.wrap .i64 (Int.tmod n 60 + 60) = Int.tmod n 60 + 60 := wrapU (by omega)
  unfold kW
  rw [w, Int.tmod_eq_emod_of_nonneg (by omega), wrapU (by omega)]
  omega
theorem nest_drop (c : List Int) : ∀ j, List.drop ((nest c j).length - c.length) (nest c j) = c
  | 0 => by simp [nest]
  | j + 1 => by
    have ih := nest_drop c j
    have hge := nest_ge c j
    have e : nest c (j + 1) = (48 :: lenB (nest c j).length) ++ nest c j := rfl
    rw [e]
    have hl : ((48 :: lenB (nest c j).length) ++ nest c j).length - c.length = (48 :: lenB (nest c j).length).length + ((nest c j).length - c.length) := by rw [List.length_append]; omega
    rw [hl, ← List.drop_drop, List.drop_left]
    exact ih
def r1 (N : Nat) (l : List Int) : List Int := (((4 :: []) ++ ((IntKind.wrap .u8 (IntKind.wrap .i64 (0 + ((N : Nat) : Int)))) :: [])) ++ (List.take N (List.drop 0 l)))
def e11 (n : Int) (N : Nat) (l : List Int) : p1B := (p1BE (p1B.mk (kW n) (kW n) 0 (2 + N) (r1 N l) N N l) (Int.toNat (kW n)))
def cc1 (n : Int) (N : Nat) (l : List Int) : List Int := ([] ++ (List.take (List.length (nest (r1 N l) (Int.toNat (kW n)))) (List.drop 0 (p1B.c (e11 n N l)))))
def s21 (n : Int) (N : Nat) (l : List Int) : p2B := (p2B.mk (kW n) 0 0 (0 + (List.length (nest (r1 N l) (Int.toNat (kW n))))) (cc1 n N l) (p1B.N (e11 n N l)) N (p1B.l (e11 n N l)))
def e21 (n : Int) (N : Nat) (l : List Int) : p2B := (p2BE (s21 n N l) (Int.toNat (kW n)) ((List.length (cc1 n N l)) - (List.length (p2BB (s21 n N l)))) (List.length (p2BB (s21 n N l))))
def neD1 (n : Int) (N : Nat) (l : List Int) : List Bool := [decide ((N : Nat) < 9223372036854775808), (!decide ((((N : Nat) : Int) : Int) > 200)), decide ((N : Nat) < 9223372036854775808), (!decide ((((N : Nat) : Int) : Int) > 65535)), decide ((N : Nat) < 9223372036854775808), decide (((IntKind.wrap .i64 (0 + ((N : Nat) : Int))) : Int) < 128), decide (((0 + N) : Nat) ≤ N), decide (((2 + N) : Nat) ≤ 1000000000), decide (((List.length (r1 N l)) : Nat) = (2 + N)), decide (((2 + N) : Nat) ≤ 210), decide ((1 : Int) ≤ (kW n)), decide (((kW n) : Int) ≤ 60), decide (((kW n) : Int) = (kW n)), decide ((0 : Int) = 0), decide (((0 + (List.length (nest (r1 N l) (Int.toNat (kW n))))) : Nat) ≤ (List.length (p1B.c (e11 n N l)))), decide (((0 + (List.length (nest (r1 N l) (Int.toNat (kW n))))) : Nat) ≤ 1000000000), decide (((cc1 n N l) : List Int) = (nest (p2BB (s21 n N l)) (Int.toNat (kW n)))), decide (((List.length (p2BB (s21 n N l))) : Nat) ≤ 210), decide ((1 : Int) ≤ (kW n)), decide (((kW n) : Int) ≤ 60), decide ((0 : Nat) = 0), decide (((0 + (List.length (nest (r1 N l) (Int.toNat (kW n))))) : Nat) = (List.length (cc1 n N l))), decide ((0 : Int) = 0), decide (((p2B.L (e21 n N l)) : Nat) < 9223372036854775808), (!((((p2B.L (e21 n N l)) : Nat) : Int) == 0)), (!((((p2B.L (e21 n N l)) : Nat) : Int) == 0)), (decide ((0 : Int) ≤ 0) && decide ((0 : Int) < (((p2B.L (e21 n N l)) : Nat) : Int))), (!((((p2B.L (e21 n N l)) : Nat) : Int) == 0)), decide (((((p2B.o (e21 n N l)) + 0) + 1) : Nat) ≤ (List.length (p2B.C (e21 n N l)))), (!((((p2B.L (e21 n N l)) : Nat) : Int) == 0)), (!((((p2B.L (e21 n N l)) : Nat) : Int) == 0)), (!((((p2B.L (e21 n N l)) : Nat) : Int) == 0)), (!((iand .u8 (List.getD (p2B.C (e21 n N l)) ((p2B.o (e21 n N l)) + 0) 0) 31) == 31)), (decide ((0 : Int) ≤ 1) && decide ((1 : Int) ≤ (((p2B.L (e21 n N l)) : Nat) : Int))), decide ((((p2B.L (e21 n N l)) - 1) : Nat) < 9223372036854775808), decide ((((((p2B.L (e21 n N l)) - 1) : Nat) : Int) : Int) ≥ 1), decide ((((((p2B.L (e21 n N l)) - 1) : Nat) : Int) : Int) ≥ 1), (decide ((0 : Int) ≤ 0) && decide ((0 : Int) < ((((p2B.L (e21 n N l)) - 1) : Nat) : Int))), decide ((((((p2B.L (e21 n N l)) - 1) : Nat) : Int) : Int) ≥ 1), decide ((((((p2B.o (e21 n N l)) + 1) + 0) + 1) : Nat) ≤ (List.length (p2B.C (e21 n N l)))), decide ((((((p2B.L (e21 n N l)) - 1) : Nat) : Int) : Int) ≥ 1), decide ((((((p2B.L (e21 n N l)) - 1) : Nat) : Int) : Int) ≥ 1), decide (((List.getD (p2B.C (e21 n N l)) (((p2B.o (e21 n N l)) + 1) + 0) 0) : Int) < 128), (decide ((0 : Int) ≤ 0) && decide ((0 : Int) < ((((p2B.L (e21 n N l)) - 1) : Nat) : Int))), decide ((((((p2B.o (e21 n N l)) + 1) + 0) + 1) : Nat) ≤ (List.length (p2B.C (e21 n N l)))), decide (((p2B.L (e21 n N l)) : Nat) < 9223372036854775808), (!decide (((IntKind.wrap .i64 (List.getD (p2B.C (e21 n N l)) (((p2B.o (e21 n N l)) + 1) + 0) 0)) : Int) > (IntKind.wrap .i64 ((IntKind.wrap .i64 ((((p2B.L (e21 n N l)) : Nat) : Int) - 1)) - 1)))), (decide ((0 : Int) ≤ 0) && decide ((0 : Int) < (((p2B.L (e21 n N l)) : Nat) : Int))), decide (((((p2B.o (e21 n N l)) + 0) + 1) : Nat) ≤ (List.length (p2B.C (e21 n N l)))), (decide ((0 : Int) ≤ (IntKind.wrap .i64 (2 + (IntKind.wrap .i64 (List.getD (p2B.C (e21 n N l)) (((p2B.o (e21 n N l)) + 1) + 0) 0))))) && decide (((IntKind.wrap .i64 (2 + (IntKind.wrap .i64 (List.getD (p2B.C (e21 n N l)) (((p2B.o (e21 n N l)) + 1) + 0) 0)))) : Int) ≤ (((p2B.L (e21 n N l)) : Nat) : Int))), (decide ((0 : Int) ≤ 2) && decide ((2 : Int) ≤ (((Int.toNat (IntKind.wrap .i64 (2 + (IntKind.wrap .i64 (List.getD (p2B.C (e21 n N l)) (((p2B.o (e21 n N l)) + 1) + 0) 0))))) : Nat) : Int))), (decide ((0 : Int) ≤ (IntKind.wrap .i64 (2 + (IntKind.wrap .i64 (List.getD (p2B.C (e21 n N l)) (((p2B.o (e21 n N l)) + 1) + 0) 0))))) && decide (((IntKind.wrap .i64 (2 + (IntKind.wrap .i64 (List.getD (p2B.C (e21 n N l)) (((p2B.o (e21 n N l)) + 1) + 0) 0)))) : Int) ≤ (((p2B.L (e21 n N l)) : Nat) : Int))), (!((List.getD (p2B.C (e21 n N l)) ((p2B.o (e21 n N l)) + 0) 0) != 4)), decide (((((p2B.o (e21 n N l)) + 2) + ((Int.toNat (IntKind.wrap .i64 (2 + (IntKind.wrap .i64 (List.getD (p2B.C (e21 n N l)) (((p2B.o (e21 n N l)) + 1) + 0) 0))))) - 2)) : Nat) ≤ (List.length (p2B.C (e21 n N l)))), decide (((0 + ((Int.toNat (IntKind.wrap .i64 (2 + (IntKind.wrap .i64 (List.getD (p2B.C (e21 n N l)) (((p2B.o (e21 n N l)) + 1) + 0) 0))))) - 2)) : Nat) ≤ 1000000000), decide (((0 + (0 + ((Int.toNat (IntKind.wrap .i64 (2 + (IntKind.wrap .i64 (List.getD (p2B.C (e21 n N l)) (((p2B.o (e21 n N l)) + 1) + 0) 0))))) - 2))) : Nat) ≤ (List.length ([] ++ (List.take ((Int.toNat (IntKind.wrap .i64 (2 + (IntKind.wrap .i64 (List.getD (p2B.C (e21 n N l)) (((p2B.o (e21 n N l)) + 1) + 0) 0))))) - 2) (List.drop ((p2B.o (e21 n N l)) + 2) (p2B.C (e21 n N l))))))), decide (((0 + N) : Nat) ≤ (p2B.N (e21 n N l))), decide (((List.take (0 + ((Int.toNat (IntKind.wrap .i64 (2 + (IntKind.wrap .i64 (List.getD (p2B.C (e21 n N l)) (((p2B.o (e21 n N l)) + 1) + 0) 0))))) - 2)) (List.drop 0 ([] ++ (List.take ((Int.toNat (IntKind.wrap .i64 (2 + (IntKind.wrap .i64 (List.getD (p2B.C (e21 n N l)) (((p2B.o (e21 n N l)) + 1) + 0) 0))))) - 2) (List.drop ((p2B.o (e21 n N l)) + 2) (p2B.C (e21 n N l))))))) : List Int) = (List.take N (List.drop 0 (p2B.l (e21 n N l))))), decide (((List.take (0 + ((Int.toNat (IntKind.wrap .i64 (2 + (IntKind.wrap .i64 (List.getD (p2B.C (e21 n N l)) (((p2B.o (e21 n N l)) + 1) + 0) 0))))) - 2)) (List.drop 0 ([] ++ (List.take ((Int.toNat (IntKind.wrap .i64 (2 + (IntKind.wrap .i64 (List.getD (p2B.C (e21 n N l)) (((p2B.o (e21 n N l)) + 1) + 0) 0))))) - 2) (List.drop ((p2B.o (e21 n N l)) + 2) (p2B.C (e21 n N l))))))) : List Int) = (List.take N (List.drop 0 (p2B.l (e21 n N l))))), decide ((((p2B.L (e21 n N l)) - (Int.toNat (IntKind.wrap .i64 (2 + (IntKind.wrap .i64 (List.getD (p2B.C (e21 n N l)) (((p2B.o (e21 n N l)) + 1) + 0) 0)))))) : Nat) < 9223372036854775808), decide (((List.take (0 + ((Int.toNat (IntKind.wrap .i64 (2 + (IntKind.wrap .i64 (List.getD (p2B.C (e21 n N l)) (((p2B.o (e21 n N l)) + 1) + 0) 0))))) - 2)) (List.drop 0 ([] ++ (List.take ((Int.toNat (IntKind.wrap .i64 (2 + (IntKind.wrap .i64 (List.getD (p2B.C (e21 n N l)) (((p2B.o (e21 n N l)) + 1) + 0) 0))))) - 2) (List.drop ((p2B.o (e21 n N l)) + 2) (p2B.C (e21 n N l))))))) : List Int) = (List.take N (List.drop 0 (p2B.l (e21 n N l)))))]
def neV1 (n : Int) (N : Nat) (l : List Int) : Bool := (((((p2B.L (e21 n N l)) - (Int.toNat (IntKind.wrap .i64 (2 + (IntKind.wrap .i64 (List.getD (p2B.C (e21 n N l)) (((p2B.o (e21 n N l)) + 1) + 0) 0)))))) : Nat) : Int) == 0)
theorem ne1_eval (n : Int) (N : Nat) (l : List Int) : res ((funcL Try.prog qA (dA (hS (putH 1 [false] (stH 1 n0))) 7) (p2BΛ (p1BΛ fun _ _ => none)) 100 10 (cArgs 0 [.pl (.int true .i64 n), .buf true .u8 N l]) (cMem [.pl (.int true .i64 n), .buf true .u8 N l])).go [false]) = some (neD1 n N l, .bool true (neV1 n N l)) := by kernel_rfl
theorem ne1_paid {n : Int} {N : Nat} {l : List Int} (hl : l.length = N) (hN : N ≤ 200) (hk : N < 128) : Paid (neD1 n N l) ∧ neV1 n N l = true := by
  have hK := kW_in n
  have hTN : List.take N l = l := List.take_of_length_le (by omega)
  have w : IntKind.wrap .i64 (0 + ((N : Nat) : Int)) = ((N : Nat) : Int) := by rw [Go.De.wrap64]; omega
  have hC : putB 4 l = 4 :: ([(N : Int)] ++ l) := by unfold putB; rw [hl, lenB_1 hk]
  have hr : r1 N l = putB 4 l := by
    unfold r1
    rw [w, lenw1 (by omega), List.drop_zero, hTN, hC]
    rfl
  have hB : p2BB (s21 n N l) = putB 4 l := rfl
  have hc0 : p1B.c (e11 n N l) = nest (putB 4 l) (kW n).toNat := by rw [← hr]; rfl
  have hcc : cc1 n N l = nest (putB 4 l) (kW n).toNat := by
    unfold cc1
    rw [hc0, hr, List.drop_zero, List.nil_append, List.take_of_length_le (Nat.le_refl _)]
  have hBl : (putB 4 l).length = 2 + N := by rw [hC]; simp only [List.length_cons, List.length_append, List.length_nil]; omega
  have hnl := nest_len (putB 4 l) (kW n).toNat
  have hng := nest_ge (putB 4 l) (kW n).toNat
  have hd0 := nest_drop (putB 4 l) (kW n).toNat
  have hE_C : p2B.C (e21 n N l) = nest (putB 4 l) (kW n).toNat := hcc
  have hE_o : p2B.o (e21 n N l) = (nest (putB 4 l) (kW n).toNat).length - (putB 4 l).length := by rw [← hcc]; rfl
  have hE_L : p2B.L (e21 n N l) = 2 + N := hBl
  have hE_N : p2B.N (e21 n N l) = N := rfl
  have hE_l : p2B.l (e21 n N l) = l := rfl
  generalize hoo : (nest (putB 4 l) (kW n).toNat).length - (putB 4 l).length = oo at hE_o hd0
  have hTl : oo + (2 + N) = (nest (putB 4 l) (kW n).toNat).length := by omega
  have hTT : (nest (putB 4 l) (kW n).toNat).length ≤ 600 := by omega
  have hd : List.drop oo (nest (putB 4 l) (kW n).toNat) = putB 4 l := hd0
  have f0 : (nest (putB 4 l) (kW n).toNat).getD (oo + 0) 0 = 4 := by rw [show oo + 0 = oo + 0 by omega, getD_drop', hd, hC]; rfl
  have f1 : (nest (putB 4 l) (kW n).toNat).getD (oo + 1 + 0) 0 = (N : Int) := by rw [show oo + 1 + 0 = oo + 1 by omega, getD_drop', hd, hC]; rfl
  have hdl : List.drop (oo + 2) (nest (putB 4 l) (kW n).toNat) = l := by rw [← List.drop_drop, hd, hC]; rfl
  have wn := wrapU (x := (N : Int)) (by omega)
  have hE2 : IntKind.wrap .i64 (2 + (N : Int)) = ((2 + N : Nat) : Int) := by rw [wrapU (by omega)]; omega
  have hw : IntKind.wrap .i64 (IntKind.wrap .i64 (((2 + N : Nat) : Int) - 1) - 1) = ((2 + N : Nat) : Int) - 1 - 1 := by simp only [Go.De.wrap64]; omega
  have i31 := iand31 (x := 4) (by decide)
  have hs : 2 + N - 2 = N := by omega
  refine ⟨?_, ?_⟩
  · unfold neD1
    simp only [hr, hB, hcc, hc0, hE_C, hE_o, hE_L, hE_N, hE_l, f0, f1, wn, hE2, hw, i31, w, Int.toNat_natCast, hs, Nat.zero_add, List.drop_zero, List.nil_append, hdl, hTN, hBl]
    clear hr hB hcc hc0 hE_C hE_o hE_L hE_N hE_l hnl hng hd0 hd hoo hdl hC hBl i31 f0 f1
    generalize nest (putB 4 l) (kW n).toNat = T at *
    generalize kW n = K at *
    refine paid_cons ?_ (paid_cons ?_ (paid_cons ?_ (paid_cons ?_ (paid_cons ?_ (paid_cons ?_ (paid_cons ?_ (paid_cons ?_ (paid_cons ?_ (paid_cons ?_ (paid_cons ?_ (paid_cons ?_ (paid_cons ?_ (paid_cons ?_ (paid_cons ?_ (paid_cons ?_ (paid_cons ?_ (paid_cons ?_ (paid_cons ?_ (paid_cons ?_ (paid_cons ?_ (paid_cons ?_ (paid_cons ?_ (paid_cons ?_ (paid_cons ?_ (paid_cons ?_ (paid_cons ?_ (paid_cons ?_ (paid_cons ?_ (paid_cons ?_ (paid_cons ?_ (paid_cons ?_ (paid_cons ?_ (paid_cons ?_ (paid_cons ?_ (paid_cons ?_ (paid_cons ?_ (paid_cons ?_ (paid_cons ?_ (paid_cons ?_ (paid_cons ?_ (paid_cons ?_ (paid_cons ?_ (paid_cons ?_ (paid_cons ?_ (paid_cons ?_ (paid_cons ?_ (paid_cons ?_ (paid_cons ?_ (paid_cons ?_ (paid_cons ?_ (paid_cons ?_ (paid_cons ?_ (paid_cons ?_ (paid_cons ?_ (paid_cons ?_ (paid_cons ?_ (paid_cons ?_ (paid_cons ?_ (paid_cons ?_ (paid_cons ?_ (fun _ h => by cases h)))))))))))))))))))))))))))))))))))))))))))))))))))))))))))))
    all_goals ((try simp only [Bool.and_eq_true, Bool.or_eq_true, Bool.not_eq_true', Bool.not_true, Bool.not_false, Bool.not_eq_eq_eq_not, decide_eq_true_eq, decide_eq_false_iff_not, beq_iff_eq, beq_eq_false_iff_ne, bne_iff_ne, bne_eq_false_iff_eq, ne_eq, Bool.or_eq_false_iff, Bool.and_eq_false_imp, Bool.and_true, Bool.true_and, Bool.or_false, Bool.false_or, Bool.or_true, Bool.true_or, Bool.and_false, Bool.false_and, and_true, true_and, not_true_eq_false, not_false_eq_true, hl, eq_self]) <;> omega)
  · unfold neV1
    simp only [hE_C, hE_o, hE_L, f0, f1, wn, hE2, Int.toNat_natCast, Nat.sub_self]
    exact beq_self_eq_true _
def r2 (N : Nat) (l : List Int) : List Int := (((4 :: []) ++ (129 :: ((IntKind.wrap .u8 (IntKind.wrap .i64 (0 + ((N : Nat) : Int)))) :: []))) ++ (List.take N (List.drop 0 l)))
def e12 (n : Int) (N : Nat) (l : List Int) : p1B := (p1BE (p1B.mk (kW n) (kW n) 0 (3 + N) (r2 N l) N N l) (Int.toNat (kW n)))
def cc2 (n : Int) (N : Nat) (l : List Int) : List Int := ([] ++ (List.take (List.length (nest (r2 N l) (Int.toNat (kW n)))) (List.drop 0 (p1B.c (e12 n N l)))))
def s22 (n : Int) (N : Nat) (l : List Int) : p2B := (p2B.mk (kW n) 0 0 (0 + (List.length (nest (r2 N l) (Int.toNat (kW n))))) (cc2 n N l) (p1B.N (e12 n N l)) N (p1B.l (e12 n N l)))
def e22 (n : Int) (N : Nat) (l : List Int) : p2B := (p2BE (s22 n N l) (Int.toNat (kW n)) ((List.length (cc2 n N l)) - (List.length (p2BB (s22 n N l)))) (List.length (p2BB (s22 n N l))))
def neD2 (n : Int) (N : Nat) (l : List Int) : List Bool := [decide ((N : Nat) < 9223372036854775808), (!decide ((((N : Nat) : Int) : Int) > 200)), decide ((N : Nat) < 9223372036854775808), (!decide ((((N : Nat) : Int) : Int) > 65535)), decide ((N : Nat) < 9223372036854775808), (!decide (((IntKind.wrap .i64 (0 + ((N : Nat) : Int))) : Int) < 128)), decide (((IntKind.wrap .i64 (0 + ((N : Nat) : Int))) : Int) < 256), decide (((0 + N) : Nat) ≤ N), decide (((3 + N) : Nat) ≤ 1000000000), decide (((List.length (r2 N l)) : Nat) = (3 + N)), decide (((3 + N) : Nat) ≤ 210), decide ((1 : Int) ≤ (kW n)), decide (((kW n) : Int) ≤ 60), decide (((kW n) : Int) = (kW n)), decide ((0 : Int) = 0), decide (((0 + (List.length (nest (r2 N l) (Int.toNat (kW n))))) : Nat) ≤ (List.length (p1B.c (e12 n N l)))), decide (((0 + (List.length (nest (r2 N l) (Int.toNat (kW n))))) : Nat) ≤ 1000000000), decide (((cc2 n N l) : List Int) = (nest (p2BB (s22 n N l)) (Int.toNat (kW n)))), decide (((List.length (p2BB (s22 n N l))) : Nat) ≤ 210), decide ((1 : Int) ≤ (kW n)), decide (((kW n) : Int) ≤ 60), decide ((0 : Nat) = 0), decide (((0 + (List.length (nest (r2 N l) (Int.toNat (kW n))))) : Nat) = (List.length (cc2 n N l))), decide ((0 : Int) = 0), decide (((p2B.L (e22 n N l)) : Nat) < 9223372036854775808), (!((((p2B.L (e22 n N l)) : Nat) : Int) == 0)), (!((((p2B.L (e22 n N l)) : Nat) : Int) == 0)), (decide ((0 : Int) ≤ 0) && decide ((0 : Int) < (((p2B.L (e22 n N l)) : Nat) : Int))), (!((((p2B.L (e22 n N l)) : Nat) : Int) == 0)), decide (((((p2B.o (e22 n N l)) + 0) + 1) : Nat) ≤ (List.length (p2B.C (e22 n N l)))), (!((((p2B.L (e22 n N l)) : Nat) : Int) == 0)), (!((((p2B.L (e22 n N l)) : Nat) : Int) == 0)), (!((((p2B.L (e22 n N l)) : Nat) : Int) == 0)), (!((iand .u8 (List.getD (p2B.C (e22 n N l)) ((p2B.o (e22 n N l)) + 0) 0) 31) == 31)), (decide ((0 : Int) ≤ 1) && decide ((1 : Int) ≤ (((p2B.L (e22 n N l)) : Nat) : Int))), decide ((((p2B.L (e22 n N l)) - 1) : Nat) < 9223372036854775808), decide ((((((p2B.L (e22 n N l)) - 1) : Nat) : Int) : Int) ≥ 1), decide ((((((p2B.L (e22 n N l)) - 1) : Nat) : Int) : Int) ≥ 1), (decide ((0 : Int) ≤ 0) && decide ((0 : Int) < ((((p2B.L (e22 n N l)) - 1) : Nat) : Int))), decide ((((((p2B.L (e22 n N l)) - 1) : Nat) : Int) : Int) ≥ 1), decide ((((((p2B.o (e22 n N l)) + 1) + 0) + 1) : Nat) ≤ (List.length (p2B.C (e22 n N l)))), decide ((((((p2B.L (e22 n N l)) - 1) : Nat) : Int) : Int) ≥ 1), decide ((((((p2B.L (e22 n N l)) - 1) : Nat) : Int) : Int) ≥ 1), (!decide (((List.getD (p2B.C (e22 n N l)) (((p2B.o (e22 n N l)) + 1) + 0) 0) : Int) < 128)), decide ((((p2B.L (e22 n N l)) - 1) : Nat) < 9223372036854775808), decide ((((((p2B.L (e22 n N l)) - 1) : Nat) : Int) : Int) ≥ 2), decide ((((((p2B.L (e22 n N l)) - 1) : Nat) : Int) : Int) ≥ 2), (decide ((0 : Int) ≤ 0) && decide ((0 : Int) < ((((p2B.L (e22 n N l)) - 1) : Nat) : Int))), decide ((((((p2B.L (e22 n N l)) - 1) : Nat) : Int) : Int) ≥ 2), decide ((((((p2B.o (e22 n N l)) + 1) + 0) + 1) : Nat) ≤ (List.length (p2B.C (e22 n N l)))), decide ((((((p2B.L (e22 n N l)) - 1) : Nat) : Int) : Int) ≥ 2), decide ((((((p2B.L (e22 n N l)) - 1) : Nat) : Int) : Int) ≥ 2), ((List.getD (p2B.C (e22 n N l)) (((p2B.o (e22 n N l)) + 1) + 0) 0) == 129), ((List.getD (p2B.C (e22 n N l)) (((p2B.o (e22 n N l)) + 1) + 0) 0) == 129), (decide ((0 : Int) ≤ 1) && decide ((1 : Int) < ((((p2B.L (e22 n N l)) - 1) : Nat) : Int))), ((List.getD (p2B.C (e22 n N l)) (((p2B.o (e22 n N l)) + 1) + 0) 0) == 129), decide ((((((p2B.o (e22 n N l)) + 1) + 1) + 1) : Nat) ≤ (List.length (p2B.C (e22 n N l)))), ((List.getD (p2B.C (e22 n N l)) (((p2B.o (e22 n N l)) + 1) + 0) 0) == 129), ((List.getD (p2B.C (e22 n N l)) (((p2B.o (e22 n N l)) + 1) + 0) 0) == 129), decide (((List.getD (p2B.C (e22 n N l)) (((p2B.o (e22 n N l)) + 1) + 1) 0) : Int) ≥ 128), (decide ((0 : Int) ≤ 1) && decide ((1 : Int) < ((((p2B.L (e22 n N l)) - 1) : Nat) : Int))), decide ((((((p2B.o (e22 n N l)) + 1) + 1) + 1) : Nat) ≤ (List.length (p2B.C (e22 n N l)))), decide (((p2B.L (e22 n N l)) : Nat) < 9223372036854775808), (!decide (((IntKind.wrap .i64 (List.getD (p2B.C (e22 n N l)) (((p2B.o (e22 n N l)) + 1) + 1) 0)) : Int) > (IntKind.wrap .i64 ((IntKind.wrap .i64 ((((p2B.L (e22 n N l)) : Nat) : Int) - 1)) - 2)))), (decide ((0 : Int) ≤ 0) && decide ((0 : Int) < (((p2B.L (e22 n N l)) : Nat) : Int))), decide (((((p2B.o (e22 n N l)) + 0) + 1) : Nat) ≤ (List.length (p2B.C (e22 n N l)))), (decide ((0 : Int) ≤ (IntKind.wrap .i64 (3 + (IntKind.wrap .i64 (List.getD (p2B.C (e22 n N l)) (((p2B.o (e22 n N l)) + 1) + 1) 0))))) && decide (((IntKind.wrap .i64 (3 + (IntKind.wrap .i64 (List.getD (p2B.C (e22 n N l)) (((p2B.o (e22 n N l)) + 1) + 1) 0)))) : Int) ≤ (((p2B.L (e22 n N l)) : Nat) : Int))), (decide ((0 : Int) ≤ 3) && decide ((3 : Int) ≤ (((Int.toNat (IntKind.wrap .i64 (3 + (IntKind.wrap .i64 (List.getD (p2B.C (e22 n N l)) (((p2B.o (e22 n N l)) + 1) + 1) 0))))) : Nat) : Int))), (decide ((0 : Int) ≤ (IntKind.wrap .i64 (3 + (IntKind.wrap .i64 (List.getD (p2B.C (e22 n N l)) (((p2B.o (e22 n N l)) + 1) + 1) 0))))) && decide (((IntKind.wrap .i64 (3 + (IntKind.wrap .i64 (List.getD (p2B.C (e22 n N l)) (((p2B.o (e22 n N l)) + 1) + 1) 0)))) : Int) ≤ (((p2B.L (e22 n N l)) : Nat) : Int))), (!((List.getD (p2B.C (e22 n N l)) ((p2B.o (e22 n N l)) + 0) 0) != 4)), decide (((((p2B.o (e22 n N l)) + 3) + ((Int.toNat (IntKind.wrap .i64 (3 + (IntKind.wrap .i64 (List.getD (p2B.C (e22 n N l)) (((p2B.o (e22 n N l)) + 1) + 1) 0))))) - 3)) : Nat) ≤ (List.length (p2B.C (e22 n N l)))), decide (((0 + ((Int.toNat (IntKind.wrap .i64 (3 + (IntKind.wrap .i64 (List.getD (p2B.C (e22 n N l)) (((p2B.o (e22 n N l)) + 1) + 1) 0))))) - 3)) : Nat) ≤ 1000000000), decide (((0 + (0 + ((Int.toNat (IntKind.wrap .i64 (3 + (IntKind.wrap .i64 (List.getD (p2B.C (e22 n N l)) (((p2B.o (e22 n N l)) + 1) + 1) 0))))) - 3))) : Nat) ≤ (List.length ([] ++ (List.take ((Int.toNat (IntKind.wrap .i64 (3 + (IntKind.wrap .i64 (List.getD (p2B.C (e22 n N l)) (((p2B.o (e22 n N l)) + 1) + 1) 0))))) - 3) (List.drop ((p2B.o (e22 n N l)) + 3) (p2B.C (e22 n N l))))))), decide (((0 + N) : Nat) ≤ (p2B.N (e22 n N l))), decide (((List.take (0 + ((Int.toNat (IntKind.wrap .i64 (3 + (IntKind.wrap .i64 (List.getD (p2B.C (e22 n N l)) (((p2B.o (e22 n N l)) + 1) + 1) 0))))) - 3)) (List.drop 0 ([] ++ (List.take ((Int.toNat (IntKind.wrap .i64 (3 + (IntKind.wrap .i64 (List.getD (p2B.C (e22 n N l)) (((p2B.o (e22 n N l)) + 1) + 1) 0))))) - 3) (List.drop ((p2B.o (e22 n N l)) + 3) (p2B.C (e22 n N l))))))) : List Int) = (List.take N (List.drop 0 (p2B.l (e22 n N l))))), decide (((List.take (0 + ((Int.toNat (IntKind.wrap .i64 (3 + (IntKind.wrap .i64 (List.getD (p2B.C (e22 n N l)) (((p2B.o (e22 n N l)) + 1) + 1) 0))))) - 3)) (List.drop 0 ([] ++ (List.take ((Int.toNat (IntKind.wrap .i64 (3 + (IntKind.wrap .i64 (List.getD (p2B.C (e22 n N l)) (((p2B.o (e22 n N l)) + 1) + 1) 0))))) - 3) (List.drop ((p2B.o (e22 n N l)) + 3) (p2B.C (e22 n N l))))))) : List Int) = (List.take N (List.drop 0 (p2B.l (e22 n N l))))), decide ((((p2B.L (e22 n N l)) - (Int.toNat (IntKind.wrap .i64 (3 + (IntKind.wrap .i64 (List.getD (p2B.C (e22 n N l)) (((p2B.o (e22 n N l)) + 1) + 1) 0)))))) : Nat) < 9223372036854775808), decide (((List.take (0 + ((Int.toNat (IntKind.wrap .i64 (3 + (IntKind.wrap .i64 (List.getD (p2B.C (e22 n N l)) (((p2B.o (e22 n N l)) + 1) + 1) 0))))) - 3)) (List.drop 0 ([] ++ (List.take ((Int.toNat (IntKind.wrap .i64 (3 + (IntKind.wrap .i64 (List.getD (p2B.C (e22 n N l)) (((p2B.o (e22 n N l)) + 1) + 1) 0))))) - 3) (List.drop ((p2B.o (e22 n N l)) + 3) (p2B.C (e22 n N l))))))) : List Int) = (List.take N (List.drop 0 (p2B.l (e22 n N l)))))]
def neV2 (n : Int) (N : Nat) (l : List Int) : Bool := (((((p2B.L (e22 n N l)) - (Int.toNat (IntKind.wrap .i64 (3 + (IntKind.wrap .i64 (List.getD (p2B.C (e22 n N l)) (((p2B.o (e22 n N l)) + 1) + 1) 0)))))) : Nat) : Int) == 0)
theorem ne2_eval (n : Int) (N : Nat) (l : List Int) : res ((funcL Try.prog qA (dA (hS (putH 2 [false] (stH 2 n0))) 7) (p2BΛ (p1BΛ fun _ _ => none)) 100 10 (cArgs 0 [.pl (.int true .i64 n), .buf true .u8 N l]) (cMem [.pl (.int true .i64 n), .buf true .u8 N l])).go [false]) = some (neD2 n N l, .bool true (neV2 n N l)) := by kernel_rfl
theorem ne2_paid {n : Int} {N : Nat} {l : List Int} (hl : l.length = N) (hN : N ≤ 200) (hk : ¬ N < 128) : Paid (neD2 n N l) ∧ neV2 n N l = true := by
  have hK := kW_in n
  have hTN : List.take N l = l := List.take_of_length_le (by omega)
  have w : IntKind.wrap .i64 (0 + ((N : Nat) : Int)) = ((N : Nat) : Int) := by rw [Go.De.wrap64]; omega
  have hC : putB 4 l = 4 :: ([129, (N : Int)] ++ l) := by unfold putB; rw [hl, lenB_2 hk (by omega)]
  have hr : r2 N l = putB 4 l := by
    unfold r2
    rw [w, lenw1 (by omega), List.drop_zero, hTN, hC]
    rfl
  have hB : p2BB (s22 n N l) = putB 4 l := rfl
  have hc0 : p1B.c (e12 n N l) = nest (putB 4 l) (kW n).toNat := by rw [← hr]; rfl
  have hcc : cc2 n N l = nest (putB 4 l) (kW n).toNat := by
    unfold cc2
    rw [hc0, hr, List.drop_zero, List.nil_append, List.take_of_length_le (Nat.le_refl _)]
  have hBl : (putB 4 l).length = 3 + N := by rw [hC]; simp only [List.length_cons, List.length_append, List.length_nil]; omega
  have hnl := nest_len (putB 4 l) (kW n).toNat
  have hng := nest_ge (putB 4 l) (kW n).toNat
  have hd0 := nest_drop (putB 4 l) (kW n).toNat
  have hE_C : p2B.C (e22 n N l) = nest (putB 4 l) (kW n).toNat := hcc
  have hE_o : p2B.o (e22 n N l) = (nest (putB 4 l) (kW n).toNat).length - (putB 4 l).length := by rw [← hcc]; rfl
  have hE_L : p2B.L (e22 n N l) = 3 + N := hBl
  have hE_N : p2B.N (e22 n N l) = N := rfl
  have hE_l : p2B.l (e22 n N l) = l := rfl
  generalize hoo : (nest (putB 4 l) (kW n).toNat).length - (putB 4 l).length = oo at hE_o hd0
  have hTl : oo + (3 + N) = (nest (putB 4 l) (kW n).toNat).length := by omega
  have hTT : (nest (putB 4 l) (kW n).toNat).length ≤ 600 := by omega
  have hd : List.drop oo (nest (putB 4 l) (kW n).toNat) = putB 4 l := hd0
  have f0 : (nest (putB 4 l) (kW n).toNat).getD (oo + 0) 0 = 4 := by rw [show oo + 0 = oo + 0 by omega, getD_drop', hd, hC]; rfl
  have f1 : (nest (putB 4 l) (kW n).toNat).getD (oo + 1 + 0) 0 = 129 := by rw [show oo + 1 + 0 = oo + 1 by omega, getD_drop', hd, hC]; rfl
  have f2 : (nest (putB 4 l) (kW n).toNat).getD (oo + 1 + 1) 0 = (N : Int) := by rw [show oo + 1 + 1 = oo + 2 by omega, getD_drop', hd, hC]; rfl
  have hdl : List.drop (oo + 3) (nest (putB 4 l) (kW n).toNat) = l := by rw [← List.drop_drop, hd, hC]; rfl
  have wn := wrapU (x := (N : Int)) (by omega)
  have hE2 : IntKind.wrap .i64 (3 + (N : Int)) = ((3 + N : Nat) : Int) := by rw [wrapU (by omega)]; omega
  have hw : IntKind.wrap .i64 (IntKind.wrap .i64 (((3 + N : Nat) : Int) - 1) - 2) = ((3 + N : Nat) : Int) - 1 - 2 := by simp only [Go.De.wrap64]; omega
  have i31 := iand31 (x := 4) (by decide)
  have hs : 3 + N - 3 = N := by omega
  refine ⟨?_, ?_⟩
  · unfold neD2
    simp only [hr, hB, hcc, hc0, hE_C, hE_o, hE_L, hE_N, hE_l, f0, f1, f2, wn, hE2, hw, i31, w, Int.toNat_natCast, hs, Nat.zero_add, List.drop_zero, List.nil_append, hdl, hTN, hBl]
    clear hr hB hcc hc0 hE_C hE_o hE_L hE_N hE_l hnl hng hd0 hd hoo hdl hC hBl i31 f0 f1 f2
    generalize nest (putB 4 l) (kW n).toNat = T at *
    generalize kW n = K at *
    refine paid_cons ?_ (paid_cons ?_ (paid_cons ?_ (paid_cons ?_ (paid_cons ?_ (paid_cons ?_ (paid_cons ?_ (paid_cons ?_ (paid_cons ?_ (paid_cons ?_ (paid_cons ?_ (paid_cons ?_ (paid_cons ?_ (paid_cons ?_ (paid_cons ?_ (paid_cons ?_ (paid_cons ?_ (paid_cons ?_ (paid_cons ?_ (paid_cons ?_ (paid_cons ?_ (paid_cons ?_ (paid_cons ?_ (paid_cons ?_ (paid_cons ?_ (paid_cons ?_ (paid_cons ?_ (paid_cons ?_ (paid_cons ?_ (paid_cons ?_ (paid_cons ?_ (paid_cons ?_ (paid_cons ?_ (paid_cons ?_ (paid_cons ?_ (paid_cons ?_ (paid_cons ?_ (paid_cons ?_ (paid_cons ?_ (paid_cons ?_ (paid_cons ?_ (paid_cons ?_ (paid_cons ?_ (paid_cons ?_ (paid_cons ?_ (paid_cons ?_ (paid_cons ?_ (paid_cons ?_ (paid_cons ?_ (paid_cons ?_ (paid_cons ?_ (paid_cons ?_ (paid_cons ?_ (paid_cons ?_ (paid_cons ?_ (paid_cons ?_ (paid_cons ?_ (paid_cons ?_ (paid_cons ?_ (paid_cons ?_ (paid_cons ?_ (paid_cons ?_ (paid_cons ?_ (paid_cons ?_ (paid_cons ?_ (paid_cons ?_ (paid_cons ?_ (paid_cons ?_ (paid_cons ?_ (paid_cons ?_ (paid_cons ?_ (paid_cons ?_ (paid_cons ?_ (paid_cons ?_ (paid_cons ?_ (paid_cons ?_ (paid_cons ?_ (paid_cons ?_ (fun _ h => by cases h))))))))))))))))))))))))))))))))))))))))))))))))))))))))))))))))))))))))))))))
    all_goals ((try simp only [Bool.and_eq_true, Bool.or_eq_true, Bool.not_eq_true', Bool.not_true, Bool.not_false, Bool.not_eq_eq_eq_not, decide_eq_true_eq, decide_eq_false_iff_not, beq_iff_eq, beq_eq_false_iff_ne, bne_iff_ne, bne_eq_false_iff_eq, ne_eq, Bool.or_eq_false_iff, Bool.and_eq_false_imp, Bool.and_true, Bool.true_and, Bool.or_false, Bool.false_or, Bool.or_true, Bool.true_or, Bool.and_false, Bool.false_and, and_true, true_and, not_true_eq_false, not_false_eq_true, hl, eq_self]) <;> omega)
  · unfold neV2
    simp only [hE_C, hE_o, hE_L, f0, f1, f2, wn, hE2, Int.toNat_natCast, Nat.sub_self]
    exact beq_self_eq_true _
end Go.Proofs.Ythpafpifpdeikaa
