/- Elements one in the other, however deep, are read by as many readers: for all numbers and bytes the law answers true. No condition. -/
import Derived.Test.YthpafpifpdeikaaTDerNestB
import Derived.Test.YthpafpifpdeikaaTAesL
set_option linter.unusedSimpArgs false
set_option linter.unusedVariables false
set_option linter.unusedSectionVars false
namespace Go.Proofs.Ythpafpifpdeikaa
open Go.Ev Go.De
open Go.ChangeShapes Go.WideShapes Go.ChangeAt Go.RowKit
set_option maxRecDepth 100000
set_option linter.unusedSimpArgs false
set_option linter.unusedVariables false
def r0 : List Int := (((4 :: []) ++ (0 :: [])) ++ [])
def e10 (n : Int) (ka : AV) (hk : bndA 2 ka = true) : p1A := p1AE (p1A.mk (kW n) (kW n) 0 2 r0 ka hk) (Int.toNat (kW n))
def cc0 (n : Int) (ka : AV) (hk : bndA 2 ka = true) : List Int := ([] ++ (List.take (List.length (nest r0 (Int.toNat (kW n)))) (List.drop 0 (p1A.c (e10 n ka hk)))))
def s20 (n : Int) (ka : AV) (hk : bndA 2 ka = true) : p2A := (p2A.mk (kW n) 0 0 (0 + (List.length (nest r0 (Int.toNat (kW n))))) (cc0 n ka hk) ka hk)
def e20 (n : Int) (ka : AV) (hk : bndA 2 ka = true) : p2A := (p2AE (s20 n ka hk) (Int.toNat (kW n)) ((List.length (cc0 n ka hk)) - (List.length (p2AB (s20 n ka hk)))) (List.length (p2AB (s20 n ka hk))))
def neD0 (n : Int) (ka : AV) (hk : bndA 2 ka = true) : List Bool := [decide ((2 : Nat) = 2), decide ((2 : Nat) ≤ 210), decide ((1 : Int) ≤ (kW n)), decide (((kW n) : Int) ≤ 60), decide (((kW n) : Int) = (kW n)), decide ((0 : Int) = 0), decide (((0 + (List.length (nest r0 (Int.toNat (kW n))))) : Nat) ≤ (List.length (p1A.c (e10 n ka hk)))), decide (((0 + (List.length (nest r0 (Int.toNat (kW n))))) : Nat) ≤ 1000000000), decide (((cc0 n ka hk) : List Int) = (nest (p2AB (s20 n ka hk)) (Int.toNat (kW n)))), decide (((List.length (p2AB (s20 n ka hk))) : Nat) ≤ 210), decide ((1 : Int) ≤ (kW n)), decide (((kW n) : Int) ≤ 60), decide ((0 : Nat) = 0), decide (((0 + (List.length (nest r0 (Int.toNat (kW n))))) : Nat) = (List.length (cc0 n ka hk))), decide ((0 : Int) = 0), decide (((p2A.L (e20 n ka hk)) : Nat) < 9223372036854775808), (!((((p2A.L (e20 n ka hk)) : Nat) : Int) == 0)), (!((((p2A.L (e20 n ka hk)) : Nat) : Int) == 0)), (decide ((0 : Int) ≤ 0) && decide ((0 : Int) < (((p2A.L (e20 n ka hk)) : Nat) : Int))), (!((((p2A.L (e20 n ka hk)) : Nat) : Int) == 0)), decide (((((p2A.o (e20 n ka hk)) + 0) + 1) : Nat) ≤ (List.length (p2A.C (e20 n ka hk)))), (!((((p2A.L (e20 n ka hk)) : Nat) : Int) == 0)), (!((((p2A.L (e20 n ka hk)) : Nat) : Int) == 0)), (!((((p2A.L (e20 n ka hk)) : Nat) : Int) == 0)), (!((iand .u8 (List.getD (p2A.C (e20 n ka hk)) ((p2A.o (e20 n ka hk)) + 0) 0) 31) == 31)), (decide ((0 : Int) ≤ 1) && decide ((1 : Int) ≤ (((p2A.L (e20 n ka hk)) : Nat) : Int))), decide ((((p2A.L (e20 n ka hk)) - 1) : Nat) < 9223372036854775808), decide ((((((p2A.L (e20 n ka hk)) - 1) : Nat) : Int) : Int) ≥ 1), decide ((((((p2A.L (e20 n ka hk)) - 1) : Nat) : Int) : Int) ≥ 1), (decide ((0 : Int) ≤ 0) && decide ((0 : Int) < ((((p2A.L (e20 n ka hk)) - 1) : Nat) : Int))), decide ((((((p2A.L (e20 n ka hk)) - 1) : Nat) : Int) : Int) ≥ 1), decide ((((((p2A.o (e20 n ka hk)) + 1) + 0) + 1) : Nat) ≤ (List.length (p2A.C (e20 n ka hk)))), decide ((((((p2A.L (e20 n ka hk)) - 1) : Nat) : Int) : Int) ≥ 1), decide ((((((p2A.L (e20 n ka hk)) - 1) : Nat) : Int) : Int) ≥ 1), decide (((List.getD (p2A.C (e20 n ka hk)) (((p2A.o (e20 n ka hk)) + 1) + 0) 0) : Int) < 128), (decide ((0 : Int) ≤ 0) && decide ((0 : Int) < ((((p2A.L (e20 n ka hk)) - 1) : Nat) : Int))), decide ((((((p2A.o (e20 n ka hk)) + 1) + 0) + 1) : Nat) ≤ (List.length (p2A.C (e20 n ka hk)))), decide (((p2A.L (e20 n ka hk)) : Nat) < 9223372036854775808), (!decide (((IntKind.wrap .i64 (List.getD (p2A.C (e20 n ka hk)) (((p2A.o (e20 n ka hk)) + 1) + 0) 0)) : Int) > (IntKind.wrap .i64 ((IntKind.wrap .i64 ((((p2A.L (e20 n ka hk)) : Nat) : Int) - 1)) - 1)))), (decide ((0 : Int) ≤ 0) && decide ((0 : Int) < (((p2A.L (e20 n ka hk)) : Nat) : Int))), decide (((((p2A.o (e20 n ka hk)) + 0) + 1) : Nat) ≤ (List.length (p2A.C (e20 n ka hk)))), (decide ((0 : Int) ≤ (IntKind.wrap .i64 (2 + (IntKind.wrap .i64 (List.getD (p2A.C (e20 n ka hk)) (((p2A.o (e20 n ka hk)) + 1) + 0) 0))))) && decide (((IntKind.wrap .i64 (2 + (IntKind.wrap .i64 (List.getD (p2A.C (e20 n ka hk)) (((p2A.o (e20 n ka hk)) + 1) + 0) 0)))) : Int) ≤ (((p2A.L (e20 n ka hk)) : Nat) : Int))), (decide ((0 : Int) ≤ 2) && decide ((2 : Int) ≤ (((Int.toNat (IntKind.wrap .i64 (2 + (IntKind.wrap .i64 (List.getD (p2A.C (e20 n ka hk)) (((p2A.o (e20 n ka hk)) + 1) + 0) 0))))) : Nat) : Int))), (decide ((0 : Int) ≤ (IntKind.wrap .i64 (2 + (IntKind.wrap .i64 (List.getD (p2A.C (e20 n ka hk)) (((p2A.o (e20 n ka hk)) + 1) + 0) 0))))) && decide (((IntKind.wrap .i64 (2 + (IntKind.wrap .i64 (List.getD (p2A.C (e20 n ka hk)) (((p2A.o (e20 n ka hk)) + 1) + 0) 0)))) : Int) ≤ (((p2A.L (e20 n ka hk)) : Nat) : Int))), (!((List.getD (p2A.C (e20 n ka hk)) ((p2A.o (e20 n ka hk)) + 0) 0) != 4)), decide (((((p2A.o (e20 n ka hk)) + 2) + ((Int.toNat (IntKind.wrap .i64 (2 + (IntKind.wrap .i64 (List.getD (p2A.C (e20 n ka hk)) (((p2A.o (e20 n ka hk)) + 1) + 0) 0))))) - 2)) : Nat) ≤ (List.length (p2A.C (e20 n ka hk)))), decide (((0 + ((Int.toNat (IntKind.wrap .i64 (2 + (IntKind.wrap .i64 (List.getD (p2A.C (e20 n ka hk)) (((p2A.o (e20 n ka hk)) + 1) + 0) 0))))) - 2)) : Nat) ≤ 1000000000), decide (((0 + (0 + ((Int.toNat (IntKind.wrap .i64 (2 + (IntKind.wrap .i64 (List.getD (p2A.C (e20 n ka hk)) (((p2A.o (e20 n ka hk)) + 1) + 0) 0))))) - 2))) : Nat) ≤ (List.length ([] ++ (List.take ((Int.toNat (IntKind.wrap .i64 (2 + (IntKind.wrap .i64 (List.getD (p2A.C (e20 n ka hk)) (((p2A.o (e20 n ka hk)) + 1) + 0) 0))))) - 2) (List.drop ((p2A.o (e20 n ka hk)) + 2) (p2A.C (e20 n ka hk))))))), decide (((List.take (0 + ((Int.toNat (IntKind.wrap .i64 (2 + (IntKind.wrap .i64 (List.getD (p2A.C (e20 n ka hk)) (((p2A.o (e20 n ka hk)) + 1) + 0) 0))))) - 2)) (List.drop 0 ([] ++ (List.take ((Int.toNat (IntKind.wrap .i64 (2 + (IntKind.wrap .i64 (List.getD (p2A.C (e20 n ka hk)) (((p2A.o (e20 n ka hk)) + 1) + 0) 0))))) - 2) (List.drop ((p2A.o (e20 n ka hk)) + 2) (p2A.C (e20 n ka hk))))))) : List Int) = []), decide (((List.take (0 + ((Int.toNat (IntKind.wrap .i64 (2 + (IntKind.wrap .i64 (List.getD (p2A.C (e20 n ka hk)) (((p2A.o (e20 n ka hk)) + 1) + 0) 0))))) - 2)) (List.drop 0 ([] ++ (List.take ((Int.toNat (IntKind.wrap .i64 (2 + (IntKind.wrap .i64 (List.getD (p2A.C (e20 n ka hk)) (((p2A.o (e20 n ka hk)) + 1) + 0) 0))))) - 2) (List.drop ((p2A.o (e20 n ka hk)) + 2) (p2A.C (e20 n ka hk))))))) : List Int) = []), decide ((((p2A.L (e20 n ka hk)) - (Int.toNat (IntKind.wrap .i64 (2 + (IntKind.wrap .i64 (List.getD (p2A.C (e20 n ka hk)) (((p2A.o (e20 n ka hk)) + 1) + 0) 0)))))) : Nat) < 9223372036854775808), decide (((List.take (0 + ((Int.toNat (IntKind.wrap .i64 (2 + (IntKind.wrap .i64 (List.getD (p2A.C (e20 n ka hk)) (((p2A.o (e20 n ka hk)) + 1) + 0) 0))))) - 2)) (List.drop 0 ([] ++ (List.take ((Int.toNat (IntKind.wrap .i64 (2 + (IntKind.wrap .i64 (List.getD (p2A.C (e20 n ka hk)) (((p2A.o (e20 n ka hk)) + 1) + 0) 0))))) - 2) (List.drop ((p2A.o (e20 n ka hk)) + 2) (p2A.C (e20 n ka hk))))))) : List Int) = [])]
def neV0 (n : Int) (ka : AV) (hk : bndA 2 ka = true) : Bool := (((((p2A.L (e20 n ka hk)) - (Int.toNat (IntKind.wrap .i64 (2 + (IntKind.wrap .i64 (List.getD (p2A.C (e20 n ka hk)) (((p2A.o (e20 n ka hk)) + 1) + 0) 0)))))) : Nat) : Int) == 0)
theorem nen_eval (n : Int) : res ((funcL Try.prog qA (dA (hS (putH 1 [] (stH 1 n0))) 7) (p2AΛ (p1AΛ fun _ _ => none)) 100 10 (cArgs 0 [.pl (.int true .i64 n), .pl .nilslice]) (cMem [.pl (.int true .i64 n), .pl .nilslice])).go []) = some (neD0 n .nilslice rfl, .bool true (neV0 n .nilslice rfl)) := by kernel_rfl
theorem nee_eval (n : Int) : res ((funcL Try.prog qA (dA (hS (putH 1 [] (stH 1 n0))) 7) (p2AΛ (p1AΛ fun _ _ => none)) 100 10 (cArgs 0 [.pl (.int true .i64 n), .empty]) (cMem [.pl (.int true .i64 n), .empty])).go []) = some (neD0 n (.slice false 1 0 0 none 1) rfl, .bool true (neV0 n (.slice false 1 0 0 none 1) rfl)) := by kernel_rfl
theorem ne0_paid {n : Int} {ka : AV} (hk : bndA 2 ka = true) : Paid (neD0 n ka hk) ∧ neV0 n ka hk = true := by
  have hK := kW_in n
  have hB : p2AB (s20 n ka hk) = [4, 0] := rfl
  have hr : r0 = [4, 0] := rfl
  have hc0 : p1A.c (e10 n ka hk) = nest [4, 0] (kW n).toNat := rfl
  have hcc : cc0 n ka hk = nest [4, 0] (kW n).toNat := by
    unfold cc0
    rw [hc0, hr, List.drop_zero, List.nil_append, List.take_of_length_le (Nat.le_refl _)]
  have hnl := nest_len [4, 0] (kW n).toNat
  have hng := nest_ge [4, 0] (kW n).toNat
  have hd0 := nest_drop [4, 0] (kW n).toNat
  have hE_C : p2A.C (e20 n ka hk) = nest [4, 0] (kW n).toNat := hcc
  have hE_o : p2A.o (e20 n ka hk) = (nest [4, 0] (kW n).toNat).length - 2 := by rw [← hcc]; rfl
  have hE_L : p2A.L (e20 n ka hk) = 2 := rfl
  have hB2 : ([4, 0] : List Int).length = 2 := rfl
  rw [hB2] at hnl hng hd0
  generalize hoo : (nest [4, 0] (kW n).toNat).length - 2 = oo at hE_o hd0
  have hTl : oo + 2 = (nest [4, 0] (kW n).toNat).length := by omega
  have hTT : (nest [4, 0] (kW n).toNat).length ≤ 600 := by omega
  have f0 : (nest [4, 0] (kW n).toNat).getD (oo + 0) 0 = 4 := by rw [getD_drop', hd0]; rfl
  have f1 : (nest [4, 0] (kW n).toNat).getD (oo + 1 + 0) 0 = 0 := by rw [show oo + 1 + 0 = oo + 1 by omega, getD_drop', hd0]; rfl
  have hdl : List.drop (oo + 2) (nest [4, 0] (kW n).toNat) = [] := by rw [← List.drop_drop, hd0]; rfl
  have wn : IntKind.wrap .i64 0 = 0 := by decide
  have hE2 : IntKind.wrap .i64 (2 + 0) = 2 := by decide
  have hw : IntKind.wrap .i64 (IntKind.wrap .i64 (((2 : Nat) : Int) - 1) - 1) = 0 := by decide
  have i31 := iand31 (x := 4) (by decide)
  have t2 : (2 : Int).toNat = 2 := rfl
  refine ⟨?_, ?_⟩
  · unfold neD0
    simp only [hr, hB, hB2, hcc, hc0, hE_C, hE_o, hE_L, f0, f1, wn, hE2, hw, i31, t2, Nat.sub_self, Nat.zero_add, List.drop_zero, List.nil_append, hdl, List.take_nil]
    clear hr hB hcc hc0 hE_C hE_o hE_L hnl hng hd0 hoo hdl i31 f0 f1
    generalize nest [4, 0] (kW n).toNat = T at *
    generalize kW n = K at *
    refine paid_cons ?_ (paid_cons ?_ (paid_cons ?_ (paid_cons ?_ (paid_cons ?_ (paid_cons ?_ (paid_cons ?_ (paid_cons ?_ (paid_cons ?_ (paid_cons ?_ (paid_cons ?_ (paid_cons ?_ (paid_cons ?_ (paid_cons ?_ (paid_cons ?_ (paid_cons ?_ (paid_cons ?_ (paid_cons ?_ (paid_cons ?_ (paid_cons ?_ (paid_cons ?_ (paid_cons ?_ (paid_cons ?_ (paid_cons ?_ (paid_cons ?_ (paid_cons ?_ (paid_cons ?_ (paid_cons ?_ (paid_cons ?_ (paid_cons ?_ (paid_cons ?_ (paid_cons ?_ (paid_cons ?_ (paid_cons ?_ (paid_cons ?_ (paid_cons ?_ (paid_cons ?_ (paid_cons ?_ (paid_cons ?_ (paid_cons ?_ (paid_cons ?_ (paid_cons ?_ (paid_cons ?_ (paid_cons ?_ (paid_cons ?_ (paid_cons ?_ (paid_cons ?_ (paid_cons ?_ (paid_cons ?_ (paid_cons ?_ (paid_cons ?_ (paid_cons ?_ (fun _ h => by cases h))))))))))))))))))))))))))))))))))))))))))))))))))))
    all_goals ((try simp only [Bool.and_eq_true, Bool.or_eq_true, Bool.not_eq_true', Bool.not_true, Bool.not_false, Bool.not_eq_eq_eq_not, decide_eq_true_eq, decide_eq_false_iff_not, beq_iff_eq, beq_eq_false_iff_ne, bne_iff_ne, bne_eq_false_iff_eq, ne_eq, Bool.or_eq_false_iff, Bool.and_eq_false_imp, Bool.and_true, Bool.true_and, Bool.or_false, Bool.false_or, Bool.or_true, Bool.true_or, Bool.and_false, Bool.false_and, and_true, true_and, not_true_eq_false, not_false_eq_true, eq_self]) <;> omega)
  · unfold neV0
    simp only [hE_C, hE_o, hE_L, f0, f1, wn, hE2, t2, Nat.sub_self]
    exact beq_self_eq_true _
theorem nel_eval (n : Int) (N : Nat) (l : List Int) : res ((funcL Try.prog qA (dA (hS (n0)) 7) (fun _ _ => none) 100 10 (cArgs 0 [.pl (.int true .i64 n), .buf true .u8 N l]) (cMem [.pl (.int true .i64 n), .buf true .u8 N l])).go [true]) = some ([decide ((N : Nat) < 9223372036854775808), decide ((((N : Nat) : Int) : Int) > 200)], .bool false true) := by kernel_rfl
theorem derNested_calls {W0 : World} {n : Int} (hn : inR .i64 n = true) {v : Value} (r : Nums W0 .u8 reachBytes v) (W : World) (hW : W0 = W := by rfl) : Calls Try.prog 10 #[.int .i64 n, v] W (fun e w' => e = .returned (.bool true) ∧ Below W.heap.size W w') := by
  subst hW
  have lokA : ∀ fn c, Try.prog.funcs[10]? = some fn → fn.body = some c → LOkN 2 Try.prog c (p2AΛ (p1AΛ fun _ _ => none)) := fun fn c hf hb => by rw [bodyOf_eq hf hb]; exact p2A_lok (p1A_lok LOkN.none)
  have lokB : ∀ fn c, Try.prog.funcs[10]? = some fn → fn.body = some c → LOkN 2 Try.prog c (p2BΛ (p1BΛ fun _ _ => none)) := fun fn c hf hb => by rw [bodyOf_eq hf hb]; exact p2B_lok (p1B_lok LOkN.none)
  rcases VOk.bytes (W := W0) 1 r with g | g | ⟨N, l, h1, hm, hl, hr, g⟩
  · exact law_of_goP (xs := [.pl (.int true .i64 n), .pl .nilslice]) (vs := [.int .i64 n, v]) (avs := [.int .i64 n, v]) mixed (dA_ok (hS_ok (putH_ok (stH_ok n0_ok 1) 1 _)) 7) lokA [] (nen_eval n) (ne0_paid _).1 (ne0_paid _).2 (.cons _ _ _ _ _ (VOk.plain fun ρ N => .int _ _ _ hn) (.cons _ _ _ _ _ g (.nil _))) (fun _ _ hr => hr) rfl
  · exact law_of_goP (xs := [.pl (.int true .i64 n), .empty]) (vs := [.int .i64 n, v]) (avs := [.int .i64 n, v]) mixed (dA_ok (hS_ok (putH_ok (stH_ok n0_ok 1) 1 _)) 7) lokA [] (nee_eval n) (ne0_paid _).1 (ne0_paid _).2 (.cons _ _ _ _ _ (VOk.plain fun ρ N => .int _ _ _ hn) (.cons _ _ _ _ _ g (.nil _))) (fun _ _ hr => hr) rfl
  · have hb63 : N < 9223372036854775808 := by
      have : (reachBytes : Nat) < 9223372036854775808 := by decide
      omega
    by_cases hN : N ≤ 200
    · have go : ∀ {X : CallH} (hX : HOk Try.prog X) {ds o : List Bool} {s b : Bool}, res ((funcL Try.prog qA (dA (hS (X)) 7) (p2BΛ (p1BΛ fun _ _ => none)) 100 10 (cArgs 0 [.pl (.int true .i64 n), .buf true .u8 N l]) (cMem [.pl (.int true .i64 n), .buf true .u8 N l])).go ds) = some (o, .bool s b) → Paid o → b = true → Calls Try.prog 10 #[.int .i64 n, v] W0 (fun e w' => e = .returned (.bool true) ∧ Below W0.heap.size W0 w') := fun hX _ _ _ _ ev po hb =>
        law_of_goP (xs := [.pl (.int true .i64 n), .buf true .u8 N l]) (vs := [.int .i64 n, v]) (avs := [.int .i64 n, v]) mixed (dA_ok (hS_ok hX) 7) lokB _ ev po hb (.cons _ _ _ _ _ (VOk.plain fun ρ N => .int _ _ _ hn) (.cons _ _ _ _ _ g (.nil _))) (fun _ _ hr => hr) rfl
      by_cases hk : N < 128
      · exact go (putH_ok (stH_ok n0_ok 1) 1 _) (ne1_eval n N l) (ne1_paid hl hN hk).1 (ne1_paid hl hN hk).2
      · exact go (putH_ok (stH_ok n0_ok 2) 2 _) (ne2_eval n N l) (ne2_paid hl hN hk).1 (ne2_paid hl hN hk).2
    · exact law_of_goP (xs := [.pl (.int true .i64 n), .buf true .u8 N l]) (vs := [.int .i64 n, v]) (avs := [.int .i64 n, v]) mixed (dA_ok (hS_ok n0_ok) 7) (fun _ _ _ _ => LOkN.none) [true] (nel_eval n N l) (paid_cons (decide_eq_true hb63) (paid_cons (decide_eq_true (by omega)) fun _ h => by cases h)) rfl (.cons _ _ _ _ _ (VOk.plain fun ρ N => .int _ _ _ hn) (.cons _ _ _ _ _ g (.nil _))) (fun _ _ hr => hr) rfl

theorem derNested_lifted (os : Os) (started : os.Started) (H : Type) (enc : TypeId × Value → H) :
    ReturnsInHanded {} Try.checked os 10 .any (Rows.derNestedSpec.pre6 enc Try.prog Try.f10 Rows.derNestedRow.domain false) (Rows.derNestedSpec.post enc Try.prog Try.f10 false true false false) := by
  refine returnsInHanded_of_change_sized (C := Try.checked) own started (by kernel_rfl) Try.func10
    (ChangeSpec.witness6 (enc := enc) (C := Try.checked) false ⟨#[], #[.int .i64 0, .slice none 0 0], []⟩ 8 (by kernel_rfl) (by kernel_rfl) (by kernel_rfl) (by kernel_rfl)) ?_
  intro W base args ds gs before hval0 hW hcnd hsz0 _
  have hval : ∀ (j : Nat) t v, Try.f10.params[j]? = some t → args[j]? = some v → Value.okWide Try.prog W .any base t v := hval0
  have hW' := hW
  obtain ⟨p, q, hA0, hV, rfl, hfz, hnd⟩ := hW
  have hA : DataW.TrodAll enc Try.prog W 0 (fun _ => true) true Try.f10.params.toList args.toList ds p := hA0
  have hsz := hsz0
  rw [Try.params10] at hA hval
  have hsz : (DataW.weightsEach Try.prog (Try.f10.params.toList ++ Rows.derNestedSpec.plain.varTypes Try.prog) (ds ++ gs)).all (· ≤ reachBytes) = true := hsz0
  rw [Try.params10] at hsz
  obtain ⟨v0, v1, d0, d1, p0, p1, hargs, rfl, rfl, g0, g1⟩ := trodAll_two hA
  have hargs' : args = #[v0, v1] := by simpa using hargs
  subst hargs'
  obtain ⟨rfl, rfl⟩ := trodVars_none hV
  obtain ⟨x0, rfl, rfl, rfl, w0⟩ := open_int Try.underlying3 (hval 0 _ v0 rfl rfl) g0
  have hv1 := nums_sized Try.underlying24 Try.underlying5 (by kernel_rfl) (by kernel_rfl) (hval 1 _ v1 rfl rfl) g1 (arg_sized hsz (j := 1) (t := 24) rfl rfl)
  refine (derNested_calls (wf_inR' w0) hv1 W).mono fun e W' ⟨he, hb⟩ => ?_
  exact ⟨_, he, post_of_law laidOut (by rw [Try.params10]; decide +kernel) hW' rfl rfl Try.underlying4 rfl rfl rfl hb⟩

theorem derNested_holds : Rows.DerNestedSaid :=
  OpenClaim.holds_of_wide 10 Try.f10 rfl rfl rfl rfl rfl rfl rfl ⟨rfl, rfl, rfl, rfl, rfl⟩ rfl rfl rfl rfl rfl (by kernel_rfl) Try.func10 (by kernel_rfl)
    (of_decide_eq_true (by kernel_rfl)) (by unfold Func.isWrapper; first | (rw [if_pos (by decide +kernel)]; kernel_rfl) | (rw [if_neg (by decide +kernel)]; exact ⟨rfl, rfl⟩))
    (fun os started H enc _ => derNested_lifted os started H enc)
end Go.Proofs.Ythpafpifpdeikaa
