/- The reference's Natural: the same answer. Own work. -/
import Derived.Test.YthpafpifpdeikaaSDeR0
set_option linter.unusedSimpArgs false
set_option linter.unusedVariables false
set_option linter.unusedSectionVars false
namespace Go.Ev
set_option linter.unusedSectionVars false
variable [Tab]
section
variable {P : Program} {q : FuncId → Bool} {H : CallH} {Λ : LoopH}
theorem viewN_oneC (hm : P.follows .mixedOrders = true) (hng : noCount P = true) (hH : HOk P H) {n : Nat} {g : FuncId} {xs : List V} (hΛ : ∀ fn c, P.funcs[g]? = some fn → fn.body = some c → LOkN xs.length P c Λ) {o : List Bool} {v v' : AV} {k : IntKind} {sz : Option Nat} {l : List Int} (ds : List Bool) (j : Nat)
    (h : seeV j ((funcL P q H Λ n g (cArgs 0 xs) (cMem xs)).go ds) = some (o, v', some (some ⟨true, .ints k sz l⟩))) (ho : Paid o) (hj : xs.length ≤ j) {sz2 : Option Nat} (hc2 : LeC (.ints k sz l) (.ints k sz2 l)) (hv : v' = renA (oneR xs.length j) (upA xs.length v)) (hba : bndA (xs.length + 1) (upA xs.length v) = true) :
    ViewCall P g xs v [some ⟨true, .ints k sz2 l⟩] := by
  unfold seeV at h
  split at h
  · rename_i o' v2 m' hf
    simp only [Option.some.injEq, Prod.mk.injEq] at h
    obtain ⟨h1, h2, h3⟩ := h
    subst h1 h2
    have one : oneR xs.length j (0 + xs.length) = j := by
      unfold oneR
      rw [show Nat.beq (0 + xs.length) xs.length = true by rw [Nat.zero_add]; exact Nat.beq_refl _]
    have pulls : ∀ (a b : Nat) (M : Mem), Pulls (oneR xs.length j) m' (b + a) M → Pulls (oneR xs.length j) m' b (List.replicate a none ++ M) := by
      intro a
      induction a with
      | zero => intro b M h; exact h
      | succ a ih =>
        intro b M h
        rw [List.replicate_succ, List.cons_append]
        exact ih (b + 1) M (by rw [show b + 1 + a = b + (a + 1) by omega]; exact h)
    have bnd : ∀ (a k' : Nat) (M : Mem), bndM k' M = true → bndM k' (List.replicate a none ++ M) = true := by
      intro a
      induction a with
      | zero => intro k' M h; exact h
      | succ a ih => intro k' M h; rw [List.replicate_succ, List.cons_append]; exact ih k' M h
    intro ρ vs w ha hi
    exact viewN_of_goR (bs := [some ⟨true, .ints k sz2 l⟩]) hm hng hH hΛ ds (oneR xs.length j) hf ho hv hba (pulls _ 0 _ ⟨⟨_, by rw [one]; exact h3, hc2⟩, trivial⟩) (bnd _ _ _ rfl) (oneR_inj hj) (oneR_fix _ _) ha hi
  · cases h
theorem ViewCall.weak {g : FuncId} {xs : List V} {v v2 : AV} {bs : Mem} (h : ViewCall P g xs v bs) (hw : ∀ {ρ : Nat → Loc3} {N : Nat → Prop} {u : Value}, Rep ρ N (upA xs.length v) u → Rep ρ N (upA xs.length v2) u) : ViewCall P g xs v2 bs := fun ha hi =>
  (h ha hi).mono fun u w' ⟨ρ', k1, k2⟩ => ⟨ρ', hw k1, k2⟩
end
end Go.Ev
namespace Go.Proofs.Ythpafpifpdeikaa
open Go.Ev Go.De
set_option maxRecDepth 100000
set_option linter.unusedSimpArgs false
set_option linter.unusedVariables false
variable [Tab]
def raA1D (N : Nat) (l : List Int) : List Bool := [decide ((N : Nat) = N), decide (((List.length l) : Nat) = N), decide ((N : Nat) < 1000000000000), decide ((0 : Int) = 0), (decide ((0 : Int) ≤ (((zer l) : Nat) : Int)) && decide (((((zer l) : Nat) : Int) : Int) ≤ ((N : Nat) : Int))), decide (((N - (Int.toNat (((zer l) : Nat) : Int))) : Nat) = 0)]
theorem raA1_eval (N : Nat) (l : List Int) : seeV 6 ((funcL Try.prog (qX [] [21]) (rputH 1 n0) (rnΛ (fun _ _ => none)) 100 24 (cArgs 0 [.buf true .u8 N l]) (cMem [.buf true .u8 N l])).go []) = some (raA1D N l, .slice false 6 0 3 none 1, some (some ⟨true, .ints .u8 (some 3) [2, 1, 0]⟩)) := by kernel_rfl
theorem raA1_call {N : Nat} {l : List Int} (hl : l.length = N) (hr : ∀ x ∈ l, inR .u8 x = true) (hN : N ≤ 60000) (hc : zer l = N) :
    ViewCall Try.prog 24 [.buf true .u8 N l] (.slice true 0 0 (natC l).length none 1) [some ⟨true, .ints .u8 none (natC l)⟩] := by
  have hC : natC l = [2, 1, 0] := by
    unfold natC
    rw [natB_0 (Or.inl (by omega)), tz_nil (by omega)]
    rfl
  rw [hC]
  have ez : ((zer l : Nat) : Int).toNat = zer l := by omega
  have key : Paid (raA1D N l) → ViewCall Try.prog 24 [.buf true .u8 N l] (.slice false 0 0 3 none 1) [some ⟨true, .ints .u8 none [2, 1, 0]⟩] := fun po => @viewN_oneC _ _ _ _ _ mixed noCount (rputH_ok n0_ok 1) _ _ _ (fun fn c hf hb => by rw [bodyOf_eq hf hb]; exact (rn_lok LOk.none).toN) _ _ _ _ _ _ [] 6 (raA1_eval N l) po (by show 1 ≤ 6; decide) none (.free _ _ _) rfl rfl
  have po : Paid (raA1D N l) := by
    unfold raA1D
    simp only [ez, hl]
    refine paid_cons ?_ (paid_cons ?_ (paid_cons ?_ (paid_cons ?_ (paid_cons ?_ (paid_cons ?_ (fun _ h => by cases h))))))
    all_goals (try simp only [Bool.and_eq_true, Bool.or_eq_true, Bool.not_eq_true', Bool.not_true, Bool.not_false, Bool.not_eq_eq_eq_not, decide_eq_true_eq, decide_eq_false_iff_not, beq_iff_eq, beq_eq_false_iff_ne, bne_iff_ne, bne_eq_false_iff_eq, ne_eq, Bool.or_eq_false_iff, Bool.and_eq_false_imp, Bool.and_true, Bool.true_and, Bool.or_false, Bool.false_or, Bool.or_true, Bool.true_or, Bool.and_false, Bool.false_and, and_true, true_and, not_true_eq_false, not_false_eq_true, Nat.add_zero, Nat.zero_add, Nat.mul_one]) <;> omega
  intro ρ vs w ha hi
  exact ViewCall.weak (v := .slice false 0 0 3 none 1) (v2 := .slice true 0 0 3 none 1) (xs := [.buf true .u8 N l]) (bs := [some ⟨true, .ints .u8 none [2, 1, 0]⟩]) (key po) (fun h => (LeS.slice false true 1 0 3 none none 1 (Or.inl rfl)).rep h) ha hi
def raB1D (N : Nat) (l : List Int) : List Bool := [decide ((N : Nat) = N), decide (((List.length l) : Nat) = N), decide ((N : Nat) < 1000000000000), decide ((0 : Int) = 0), (decide ((0 : Int) ≤ (((zer l) : Nat) : Int)) && decide (((((zer l) : Nat) : Int) : Int) ≤ ((N : Nat) : Int))), decide ((((0 + ((Int.toNat (((zer l) : Nat) : Int)) * 1)) + (N - (Int.toNat (((zer l) : Nat) : Int)))) : Nat) ≤ N), (decide ((1 : Nat) ≤ (N - (Int.toNat (((zer l) : Nat) : Int)))) && decide (((N - (Int.toNat (((zer l) : Nat) : Int))) : Nat) ≤ 1000000000)), decide (((N - (Int.toNat (((zer l) : Nat) : Int))) : Nat) < 9223372036854775808), (!((((N - (Int.toNat (((zer l) : Nat) : Int))) : Nat) : Int) == 0)), (!((((N - (Int.toNat (((zer l) : Nat) : Int))) : Nat) : Int) == 0)), (decide ((0 : Int) ≤ 0) && decide ((0 : Int) < (((N - (Int.toNat (((zer l) : Nat) : Int))) : Nat) : Int))), (!((((N - (Int.toNat (((zer l) : Nat) : Int))) : Nat) : Int) == 0)), decide ((1 : Nat) ≤ (List.length (List.take (N - (Int.toNat (((zer l) : Nat) : Int))) (List.drop (0 + ((Int.toNat (((zer l) : Nat) : Int)) * 1)) l)))), (!((((N - (Int.toNat (((zer l) : Nat) : Int))) : Nat) : Int) == 0)), (!((((N - (Int.toNat (((zer l) : Nat) : Int))) : Nat) : Int) == 0)), decide (((List.getD (List.take (N - (Int.toNat (((zer l) : Nat) : Int))) (List.drop (0 + ((Int.toNat (((zer l) : Nat) : Int)) * 1)) l)) 0 0) : Int) ≥ 128), decide (((0 + (N - (Int.toNat (((zer l) : Nat) : Int)))) : Nat) ≤ (List.length (List.take (N - (Int.toNat (((zer l) : Nat) : Int))) (List.drop (0 + ((Int.toNat (((zer l) : Nat) : Int)) * 1)) l)))), decide (((1 + (N - (Int.toNat (((zer l) : Nat) : Int)))) : Nat) ≤ 1000000000), decide (((1 + (N - (Int.toNat (((zer l) : Nat) : Int)))) : Nat) < 9223372036854775808), (!decide (((((1 + (N - (Int.toNat (((zer l) : Nat) : Int)))) : Nat) : Int) : Int) > 65535)), (!decide (((((1 + (N - (Int.toNat (((zer l) : Nat) : Int)))) : Nat) : Int) : Int) > 255)), (!decide (((((1 + (N - (Int.toNat (((zer l) : Nat) : Int)))) : Nat) : Int) : Int) > 127)), decide (((0 + (1 + (N - (Int.toNat (((zer l) : Nat) : Int))))) : Nat) ≤ (List.length ((0 :: []) ++ (List.take (N - (Int.toNat (((zer l) : Nat) : Int))) (List.drop 0 (List.take (N - (Int.toNat (((zer l) : Nat) : Int))) (List.drop (0 + ((Int.toNat (((zer l) : Nat) : Int)) * 1)) l))))))), decide (((2 + (1 + (N - (Int.toNat (((zer l) : Nat) : Int))))) : Nat) ≤ 1000000000)]
theorem raB1_eval (N : Nat) (l : List Int) : seeV 7 ((funcL Try.prog qA (rputH 1 n0) (rnΛ (fun _ _ => none)) 100 24 (cArgs 0 [.buf true .u8 N l]) (cMem [.buf true .u8 N l])).go [true]) = some (raB1D N l, .slice true 7 0 (2 + (1 + (N - ((zer l : Nat) : Int).toNat))) none 1, some (some ⟨true, .ints .u8 none (([2] ++ [IntKind.wrap .u8 (((1 + (N - ((zer l : Nat) : Int).toNat)) : Nat) : Int)]) ++ List.take (1 + (N - ((zer l : Nat) : Int).toNat)) (List.drop 0 ([0] ++ List.take (N - ((zer l : Nat) : Int).toNat) (List.drop 0 (List.take (N - ((zer l : Nat) : Int).toNat) (List.drop (0 + ((zer l : Nat) : Int).toNat * 1) l))))))⟩)) := by kernel_rfl
theorem raB1_call {N : Nat} {l : List Int} (hl : l.length = N) (hr : ∀ x ∈ l, inR .u8 x = true) (hN : N ≤ 60000) (hz : zer l < N) (hc : 128 ≤ l.getD (zer l) 0) (hk : (natB l).length < 128) :
    ViewCall Try.prog 24 [.buf true .u8 N l] (.slice true 0 0 (natC l).length none 1) [some ⟨true, .ints .u8 none (natC l)⟩] := by
  have hle := zer_le l
  have hbz := u8_at hr (zer l)
  have ez : ((zer l : Nat) : Int).toNat = zer l := by omega
  have eo : 0 + zer l * 1 = zer l := by omega
  have hT : List.take (N - zer l) (List.drop (zer l) l) = tz l := List.take_of_length_le (by simp only [List.length_drop]; omega)
  have hTl := tz_len l
  have hT2 : List.take (N - zer l) (tz l) = tz l := List.take_of_length_le (by omega)
  have hB := natB_0 (l := l) (Or.inr hc)
  have hn : (natB l).length = N - zer l + 1 := by rw [hB]; simp only [List.length_cons]; omega
  have hC : natC l = 2 :: (lenB (natB l).length ++ natB l) := rfl
  rw [lenB_1 hk] at hC
  have hlen : (2 + (1 + (N - ((zer l : Nat) : Int).toNat))) = (natC l).length := by rw [hC, ez]; simp only [List.length_cons, List.length_append, List.length_nil]; omega
  have ev := raB1_eval N l
  have hgz : (tz l).getD 0 0 = l.getD (zer l) 0 := by rw [tz_head (by omega)]; rfl
  have hblk : ([2] ++ [IntKind.wrap .u8 (((1 + (N - ((zer l : Nat) : Int).toNat)) : Nat) : Int)]) ++ List.take (1 + (N - ((zer l : Nat) : Int).toNat)) (List.drop 0 ([0] ++ List.take (N - ((zer l : Nat) : Int).toNat) (List.drop 0 (List.take (N - ((zer l : Nat) : Int).toNat) (List.drop (0 + ((zer l : Nat) : Int).toNat * 1) l))))) = natC l := by
    simp only [ez, eo, hT, List.drop_zero, hT2]
    rw [show 1 + (N - zer l) = (natB l).length by omega, hC, lenw1 (by omega)]
    rw [show [0] ++ tz l = natB l by rw [hB]; rfl, List.take_of_length_le (Nat.le_refl _)]; rfl
  rw [hblk, hlen] at ev
  refine @viewN_one _ _ _ _ _ mixed noCount (rputH_ok n0_ok 1) _ _ _ (fun fn c hf hb => by rw [bodyOf_eq hf hb]; exact (rn_lok LOk.none).toN) _ _ _ _ _ _ [true] 7 ev ?_ (by show 1 ≤ 7; decide) rfl rfl
  clear ev hblk hlen hC
  unfold raB1D
  simp only [ez, eo, hT, List.drop_zero, hT2, hgz, hTl, hl, List.length_append, List.length_cons, List.length_nil]
  refine paid_cons ?_ (paid_cons ?_ (paid_cons ?_ (paid_cons ?_ (paid_cons ?_ (paid_cons ?_ (paid_cons ?_ (paid_cons ?_ (paid_cons ?_ (paid_cons ?_ (paid_cons ?_ (paid_cons ?_ (paid_cons ?_ (paid_cons ?_ (paid_cons ?_ (paid_cons ?_ (paid_cons ?_ (paid_cons ?_ (paid_cons ?_ (paid_cons ?_ (paid_cons ?_ (paid_cons ?_ (paid_cons ?_ (paid_cons ?_ (fun _ h => by cases h))))))))))))))))))))))))
  all_goals (try simp only [Bool.and_eq_true, Bool.or_eq_true, Bool.not_eq_true', Bool.not_true, Bool.not_false, Bool.not_eq_eq_eq_not, decide_eq_true_eq, decide_eq_false_iff_not, beq_iff_eq, beq_eq_false_iff_ne, bne_iff_ne, bne_eq_false_iff_eq, ne_eq, Bool.or_eq_false_iff, Bool.and_eq_false_imp, Bool.and_true, Bool.true_and, Bool.or_false, Bool.false_or, Bool.or_true, Bool.true_or, Bool.and_false, Bool.false_and, and_true, true_and, not_true_eq_false, not_false_eq_true, List.length_cons, List.length_nil, List.length_append, List.length_take, hTl, hl, Nat.add_zero, Nat.zero_add]) <;> omega
def raB2D (N : Nat) (l : List Int) : List Bool := [decide ((N : Nat) = N), decide (((List.length l) : Nat) = N), decide ((N : Nat) < 1000000000000), decide ((0 : Int) = 0), (decide ((0 : Int) ≤ (((zer l) : Nat) : Int)) && decide (((((zer l) : Nat) : Int) : Int) ≤ ((N : Nat) : Int))), decide ((((0 + ((Int.toNat (((zer l) : Nat) : Int)) * 1)) + (N - (Int.toNat (((zer l) : Nat) : Int)))) : Nat) ≤ N), (decide ((1 : Nat) ≤ (N - (Int.toNat (((zer l) : Nat) : Int)))) && decide (((N - (Int.toNat (((zer l) : Nat) : Int))) : Nat) ≤ 1000000000)), decide (((N - (Int.toNat (((zer l) : Nat) : Int))) : Nat) < 9223372036854775808), (!((((N - (Int.toNat (((zer l) : Nat) : Int))) : Nat) : Int) == 0)), (!((((N - (Int.toNat (((zer l) : Nat) : Int))) : Nat) : Int) == 0)), (decide ((0 : Int) ≤ 0) && decide ((0 : Int) < (((N - (Int.toNat (((zer l) : Nat) : Int))) : Nat) : Int))), (!((((N - (Int.toNat (((zer l) : Nat) : Int))) : Nat) : Int) == 0)), decide ((1 : Nat) ≤ (List.length (List.take (N - (Int.toNat (((zer l) : Nat) : Int))) (List.drop (0 + ((Int.toNat (((zer l) : Nat) : Int)) * 1)) l)))), (!((((N - (Int.toNat (((zer l) : Nat) : Int))) : Nat) : Int) == 0)), (!((((N - (Int.toNat (((zer l) : Nat) : Int))) : Nat) : Int) == 0)), decide (((List.getD (List.take (N - (Int.toNat (((zer l) : Nat) : Int))) (List.drop (0 + ((Int.toNat (((zer l) : Nat) : Int)) * 1)) l)) 0 0) : Int) ≥ 128), decide (((0 + (N - (Int.toNat (((zer l) : Nat) : Int)))) : Nat) ≤ (List.length (List.take (N - (Int.toNat (((zer l) : Nat) : Int))) (List.drop (0 + ((Int.toNat (((zer l) : Nat) : Int)) * 1)) l)))), decide (((1 + (N - (Int.toNat (((zer l) : Nat) : Int)))) : Nat) ≤ 1000000000), decide (((1 + (N - (Int.toNat (((zer l) : Nat) : Int)))) : Nat) < 9223372036854775808), (!decide (((((1 + (N - (Int.toNat (((zer l) : Nat) : Int)))) : Nat) : Int) : Int) > 65535)), (!decide (((((1 + (N - (Int.toNat (((zer l) : Nat) : Int)))) : Nat) : Int) : Int) > 255)), decide (((((1 + (N - (Int.toNat (((zer l) : Nat) : Int)))) : Nat) : Int) : Int) > 127), decide (((0 + (1 + (N - (Int.toNat (((zer l) : Nat) : Int))))) : Nat) ≤ (List.length ((0 :: []) ++ (List.take (N - (Int.toNat (((zer l) : Nat) : Int))) (List.drop 0 (List.take (N - (Int.toNat (((zer l) : Nat) : Int))) (List.drop (0 + ((Int.toNat (((zer l) : Nat) : Int)) * 1)) l))))))), decide (((3 + (1 + (N - (Int.toNat (((zer l) : Nat) : Int))))) : Nat) ≤ 1000000000)]
theorem raB2_eval (N : Nat) (l : List Int) : seeV 7 ((funcL Try.prog qA (rputH 2 n0) (rnΛ (fun _ _ => none)) 100 24 (cArgs 0 [.buf true .u8 N l]) (cMem [.buf true .u8 N l])).go [true]) = some (raB2D N l, .slice true 7 0 (3 + (1 + (N - ((zer l : Nat) : Int).toNat))) none 1, some (some ⟨true, .ints .u8 none (([2] ++ [129, IntKind.wrap .u8 (((1 + (N - ((zer l : Nat) : Int).toNat)) : Nat) : Int)]) ++ List.take (1 + (N - ((zer l : Nat) : Int).toNat)) (List.drop 0 ([0] ++ List.take (N - ((zer l : Nat) : Int).toNat) (List.drop 0 (List.take (N - ((zer l : Nat) : Int).toNat) (List.drop (0 + ((zer l : Nat) : Int).toNat * 1) l))))))⟩)) := by kernel_rfl
theorem raB2_call {N : Nat} {l : List Int} (hl : l.length = N) (hr : ∀ x ∈ l, inR .u8 x = true) (hN : N ≤ 60000) (hz : zer l < N) (hc : 128 ≤ l.getD (zer l) 0) (hk : ¬ (natB l).length < 128) (hk2 : (natB l).length < 256) :
    ViewCall Try.prog 24 [.buf true .u8 N l] (.slice true 0 0 (natC l).length none 1) [some ⟨true, .ints .u8 none (natC l)⟩] := by
  have hle := zer_le l
  have hbz := u8_at hr (zer l)
  have ez : ((zer l : Nat) : Int).toNat = zer l := by omega
  have eo : 0 + zer l * 1 = zer l := by omega
  have hT : List.take (N - zer l) (List.drop (zer l) l) = tz l := List.take_of_length_le (by simp only [List.length_drop]; omega)
  have hTl := tz_len l
  have hT2 : List.take (N - zer l) (tz l) = tz l := List.take_of_length_le (by omega)
  have hB := natB_0 (l := l) (Or.inr hc)
  have hn : (natB l).length = N - zer l + 1 := by rw [hB]; simp only [List.length_cons]; omega
  have hC : natC l = 2 :: (lenB (natB l).length ++ natB l) := rfl
  rw [lenB_2 hk hk2] at hC
  have hlen : (3 + (1 + (N - ((zer l : Nat) : Int).toNat))) = (natC l).length := by rw [hC, ez]; simp only [List.length_cons, List.length_append, List.length_nil]; omega
  have ev := raB2_eval N l
  have hgz : (tz l).getD 0 0 = l.getD (zer l) 0 := by rw [tz_head (by omega)]; rfl
  have hblk : ([2] ++ [129, IntKind.wrap .u8 (((1 + (N - ((zer l : Nat) : Int).toNat)) : Nat) : Int)]) ++ List.take (1 + (N - ((zer l : Nat) : Int).toNat)) (List.drop 0 ([0] ++ List.take (N - ((zer l : Nat) : Int).toNat) (List.drop 0 (List.take (N - ((zer l : Nat) : Int).toNat) (List.drop (0 + ((zer l : Nat) : Int).toNat * 1) l))))) = natC l := by
    simp only [ez, eo, hT, List.drop_zero, hT2]
    rw [show 1 + (N - zer l) = (natB l).length by omega, hC, lenw1 (by omega)]
    rw [show [0] ++ tz l = natB l by rw [hB]; rfl, List.take_of_length_le (Nat.le_refl _)]; rfl
  rw [hblk, hlen] at ev
  refine @viewN_one _ _ _ _ _ mixed noCount (rputH_ok n0_ok 2) _ _ _ (fun fn c hf hb => by rw [bodyOf_eq hf hb]; exact (rn_lok LOk.none).toN) _ _ _ _ _ _ [true] 7 ev ?_ (by show 1 ≤ 7; decide) rfl rfl
  clear ev hblk hlen hC
  unfold raB2D
  simp only [ez, eo, hT, List.drop_zero, hT2, hgz, hTl, hl, List.length_append, List.length_cons, List.length_nil]
  refine paid_cons ?_ (paid_cons ?_ (paid_cons ?_ (paid_cons ?_ (paid_cons ?_ (paid_cons ?_ (paid_cons ?_ (paid_cons ?_ (paid_cons ?_ (paid_cons ?_ (paid_cons ?_ (paid_cons ?_ (paid_cons ?_ (paid_cons ?_ (paid_cons ?_ (paid_cons ?_ (paid_cons ?_ (paid_cons ?_ (paid_cons ?_ (paid_cons ?_ (paid_cons ?_ (paid_cons ?_ (paid_cons ?_ (paid_cons ?_ (fun _ h => by cases h))))))))))))))))))))))))
  all_goals (try simp only [Bool.and_eq_true, Bool.or_eq_true, Bool.not_eq_true', Bool.not_true, Bool.not_false, Bool.not_eq_eq_eq_not, decide_eq_true_eq, decide_eq_false_iff_not, beq_iff_eq, beq_eq_false_iff_ne, bne_iff_ne, bne_eq_false_iff_eq, ne_eq, Bool.or_eq_false_iff, Bool.and_eq_false_imp, Bool.and_true, Bool.true_and, Bool.or_false, Bool.false_or, Bool.or_true, Bool.true_or, Bool.and_false, Bool.false_and, and_true, true_and, not_true_eq_false, not_false_eq_true, List.length_cons, List.length_nil, List.length_append, List.length_take, hTl, hl, Nat.add_zero, Nat.zero_add]) <;> omega
def raB3D (N : Nat) (l : List Int) : List Bool := [decide ((N : Nat) = N), decide (((List.length l) : Nat) = N), decide ((N : Nat) < 1000000000000), decide ((0 : Int) = 0), (decide ((0 : Int) ≤ (((zer l) : Nat) : Int)) && decide (((((zer l) : Nat) : Int) : Int) ≤ ((N : Nat) : Int))), decide ((((0 + ((Int.toNat (((zer l) : Nat) : Int)) * 1)) + (N - (Int.toNat (((zer l) : Nat) : Int)))) : Nat) ≤ N), (decide ((1 : Nat) ≤ (N - (Int.toNat (((zer l) : Nat) : Int)))) && decide (((N - (Int.toNat (((zer l) : Nat) : Int))) : Nat) ≤ 1000000000)), decide (((N - (Int.toNat (((zer l) : Nat) : Int))) : Nat) < 9223372036854775808), (!((((N - (Int.toNat (((zer l) : Nat) : Int))) : Nat) : Int) == 0)), (!((((N - (Int.toNat (((zer l) : Nat) : Int))) : Nat) : Int) == 0)), (decide ((0 : Int) ≤ 0) && decide ((0 : Int) < (((N - (Int.toNat (((zer l) : Nat) : Int))) : Nat) : Int))), (!((((N - (Int.toNat (((zer l) : Nat) : Int))) : Nat) : Int) == 0)), decide ((1 : Nat) ≤ (List.length (List.take (N - (Int.toNat (((zer l) : Nat) : Int))) (List.drop (0 + ((Int.toNat (((zer l) : Nat) : Int)) * 1)) l)))), (!((((N - (Int.toNat (((zer l) : Nat) : Int))) : Nat) : Int) == 0)), (!((((N - (Int.toNat (((zer l) : Nat) : Int))) : Nat) : Int) == 0)), decide (((List.getD (List.take (N - (Int.toNat (((zer l) : Nat) : Int))) (List.drop (0 + ((Int.toNat (((zer l) : Nat) : Int)) * 1)) l)) 0 0) : Int) ≥ 128), decide (((0 + (N - (Int.toNat (((zer l) : Nat) : Int)))) : Nat) ≤ (List.length (List.take (N - (Int.toNat (((zer l) : Nat) : Int))) (List.drop (0 + ((Int.toNat (((zer l) : Nat) : Int)) * 1)) l)))), decide (((1 + (N - (Int.toNat (((zer l) : Nat) : Int)))) : Nat) ≤ 1000000000), decide (((1 + (N - (Int.toNat (((zer l) : Nat) : Int)))) : Nat) < 9223372036854775808), (!decide (((((1 + (N - (Int.toNat (((zer l) : Nat) : Int)))) : Nat) : Int) : Int) > 65535)), decide (((((1 + (N - (Int.toNat (((zer l) : Nat) : Int)))) : Nat) : Int) : Int) > 255), decide (((0 + (1 + (N - (Int.toNat (((zer l) : Nat) : Int))))) : Nat) ≤ (List.length ((0 :: []) ++ (List.take (N - (Int.toNat (((zer l) : Nat) : Int))) (List.drop 0 (List.take (N - (Int.toNat (((zer l) : Nat) : Int))) (List.drop (0 + ((Int.toNat (((zer l) : Nat) : Int)) * 1)) l))))))), decide (((4 + (1 + (N - (Int.toNat (((zer l) : Nat) : Int))))) : Nat) ≤ 1000000000)]
theorem raB3_eval (N : Nat) (l : List Int) : seeV 7 ((funcL Try.prog qA (rputH 3 n0) (rnΛ (fun _ _ => none)) 100 24 (cArgs 0 [.buf true .u8 N l]) (cMem [.buf true .u8 N l])).go [true]) = some (raB3D N l, .slice true 7 0 (4 + (1 + (N - ((zer l : Nat) : Int).toNat))) none 1, some (some ⟨true, .ints .u8 none (([2] ++ [130, IntKind.wrap .u8 (IntKind.wrap .i64 (Int.tdiv (((1 + (N - ((zer l : Nat) : Int).toNat)) : Nat) : Int) 256)), IntKind.wrap .u8 (Int.tmod (((1 + (N - ((zer l : Nat) : Int).toNat)) : Nat) : Int) 256)]) ++ List.take (1 + (N - ((zer l : Nat) : Int).toNat)) (List.drop 0 ([0] ++ List.take (N - ((zer l : Nat) : Int).toNat) (List.drop 0 (List.take (N - ((zer l : Nat) : Int).toNat) (List.drop (0 + ((zer l : Nat) : Int).toNat * 1) l))))))⟩)) := by kernel_rfl
theorem raB3_call {N : Nat} {l : List Int} (hl : l.length = N) (hr : ∀ x ∈ l, inR .u8 x = true) (hN : N ≤ 60000) (hz : zer l < N) (hc : 128 ≤ l.getD (zer l) 0) (hk : ¬ (natB l).length < 256) :
    ViewCall Try.prog 24 [.buf true .u8 N l] (.slice true 0 0 (natC l).length none 1) [some ⟨true, .ints .u8 none (natC l)⟩] := by
  have hle := zer_le l
  have hbz := u8_at hr (zer l)
  have ez : ((zer l : Nat) : Int).toNat = zer l := by omega
  have eo : 0 + zer l * 1 = zer l := by omega
  have hT : List.take (N - zer l) (List.drop (zer l) l) = tz l := List.take_of_length_le (by simp only [List.length_drop]; omega)
  have hTl := tz_len l
  have hT2 : List.take (N - zer l) (tz l) = tz l := List.take_of_length_le (by omega)
  have hB := natB_0 (l := l) (Or.inr hc)
  have hn : (natB l).length = N - zer l + 1 := by rw [hB]; simp only [List.length_cons]; omega
  have hC : natC l = 2 :: (lenB (natB l).length ++ natB l) := rfl
  rw [lenB_3 hk] at hC
  have hlen : (4 + (1 + (N - ((zer l : Nat) : Int).toNat))) = (natC l).length := by rw [hC, ez]; simp only [List.length_cons, List.length_append, List.length_nil]; omega
  have ev := raB3_eval N l
  have hgz : (tz l).getD 0 0 = l.getD (zer l) 0 := by rw [tz_head (by omega)]; rfl
  have hblk : ([2] ++ [130, IntKind.wrap .u8 (IntKind.wrap .i64 (Int.tdiv (((1 + (N - ((zer l : Nat) : Int).toNat)) : Nat) : Int) 256)), IntKind.wrap .u8 (Int.tmod (((1 + (N - ((zer l : Nat) : Int).toNat)) : Nat) : Int) 256)]) ++ List.take (1 + (N - ((zer l : Nat) : Int).toNat)) (List.drop 0 ([0] ++ List.take (N - ((zer l : Nat) : Int).toNat) (List.drop 0 (List.take (N - ((zer l : Nat) : Int).toNat) (List.drop (0 + ((zer l : Nat) : Int).toNat * 1) l))))) = natC l := by
    simp only [ez, eo, hT, List.drop_zero, hT2]
    rw [show 1 + (N - zer l) = (natB l).length by omega, hC, lenw2 (by omega), lenw3]
    rw [show [0] ++ tz l = natB l by rw [hB]; rfl, List.take_of_length_le (Nat.le_refl _)]; rfl
  rw [hblk, hlen] at ev
  refine @viewN_one _ _ _ _ _ mixed noCount (rputH_ok n0_ok 3) _ _ _ (fun fn c hf hb => by rw [bodyOf_eq hf hb]; exact (rn_lok LOk.none).toN) _ _ _ _ _ _ [true] 7 ev ?_ (by show 1 ≤ 7; decide) rfl rfl
  clear ev hblk hlen hC
  unfold raB3D
  simp only [ez, eo, hT, List.drop_zero, hT2, hgz, hTl, hl, List.length_append, List.length_cons, List.length_nil]
  refine paid_cons ?_ (paid_cons ?_ (paid_cons ?_ (paid_cons ?_ (paid_cons ?_ (paid_cons ?_ (paid_cons ?_ (paid_cons ?_ (paid_cons ?_ (paid_cons ?_ (paid_cons ?_ (paid_cons ?_ (paid_cons ?_ (paid_cons ?_ (paid_cons ?_ (paid_cons ?_ (paid_cons ?_ (paid_cons ?_ (paid_cons ?_ (paid_cons ?_ (paid_cons ?_ (paid_cons ?_ (paid_cons ?_ (fun _ h => by cases h)))))))))))))))))))))))
  all_goals (try simp only [Bool.and_eq_true, Bool.or_eq_true, Bool.not_eq_true', Bool.not_true, Bool.not_false, Bool.not_eq_eq_eq_not, decide_eq_true_eq, decide_eq_false_iff_not, beq_iff_eq, beq_eq_false_iff_ne, bne_iff_ne, bne_eq_false_iff_eq, ne_eq, Bool.or_eq_false_iff, Bool.and_eq_false_imp, Bool.and_true, Bool.true_and, Bool.or_false, Bool.false_or, Bool.or_true, Bool.true_or, Bool.and_false, Bool.false_and, and_true, true_and, not_true_eq_false, not_false_eq_true, List.length_cons, List.length_nil, List.length_append, List.length_take, hTl, hl, Nat.add_zero, Nat.zero_add]) <;> omega
def raC1D (N : Nat) (l : List Int) : List Bool := [decide ((N : Nat) = N), decide (((List.length l) : Nat) = N), decide ((N : Nat) < 1000000000000), decide ((0 : Int) = 0), (decide ((0 : Int) ≤ (((zer l) : Nat) : Int)) && decide (((((zer l) : Nat) : Int) : Int) ≤ ((N : Nat) : Int))), decide ((((0 + ((Int.toNat (((zer l) : Nat) : Int)) * 1)) + (N - (Int.toNat (((zer l) : Nat) : Int)))) : Nat) ≤ N), (decide ((1 : Nat) ≤ (N - (Int.toNat (((zer l) : Nat) : Int)))) && decide (((N - (Int.toNat (((zer l) : Nat) : Int))) : Nat) ≤ 1000000000)), decide (((N - (Int.toNat (((zer l) : Nat) : Int))) : Nat) < 9223372036854775808), (!((((N - (Int.toNat (((zer l) : Nat) : Int))) : Nat) : Int) == 0)), (!((((N - (Int.toNat (((zer l) : Nat) : Int))) : Nat) : Int) == 0)), (decide ((0 : Int) ≤ 0) && decide ((0 : Int) < (((N - (Int.toNat (((zer l) : Nat) : Int))) : Nat) : Int))), (!((((N - (Int.toNat (((zer l) : Nat) : Int))) : Nat) : Int) == 0)), decide ((1 : Nat) ≤ (List.length (List.take (N - (Int.toNat (((zer l) : Nat) : Int))) (List.drop (0 + ((Int.toNat (((zer l) : Nat) : Int)) * 1)) l)))), (!((((N - (Int.toNat (((zer l) : Nat) : Int))) : Nat) : Int) == 0)), (!((((N - (Int.toNat (((zer l) : Nat) : Int))) : Nat) : Int) == 0)), (!decide (((List.getD (List.take (N - (Int.toNat (((zer l) : Nat) : Int))) (List.drop (0 + ((Int.toNat (((zer l) : Nat) : Int)) * 1)) l)) 0 0) : Int) ≥ 128)), decide (((N - (Int.toNat (((zer l) : Nat) : Int))) : Nat) < 9223372036854775808), (!decide (((((N - (Int.toNat (((zer l) : Nat) : Int))) : Nat) : Int) : Int) > 65535)), (!decide (((((N - (Int.toNat (((zer l) : Nat) : Int))) : Nat) : Int) : Int) > 255)), (!decide (((((N - (Int.toNat (((zer l) : Nat) : Int))) : Nat) : Int) : Int) > 127)), decide (((0 + (N - (Int.toNat (((zer l) : Nat) : Int)))) : Nat) ≤ (List.length (List.take (N - (Int.toNat (((zer l) : Nat) : Int))) (List.drop (0 + ((Int.toNat (((zer l) : Nat) : Int)) * 1)) l)))), decide (((2 + (N - (Int.toNat (((zer l) : Nat) : Int)))) : Nat) ≤ 1000000000)]
theorem raC1_eval (N : Nat) (l : List Int) : seeV 5 ((funcL Try.prog qA (rputH 1 n0) (rnΛ (fun _ _ => none)) 100 24 (cArgs 0 [.buf true .u8 N l]) (cMem [.buf true .u8 N l])).go [false]) = some (raC1D N l, .slice true 5 0 (2 + (N - ((zer l : Nat) : Int).toNat)) none 1, some (some ⟨true, .ints .u8 none (([2] ++ [IntKind.wrap .u8 (((N - ((zer l : Nat) : Int).toNat) : Nat) : Int)]) ++ List.take (N - ((zer l : Nat) : Int).toNat) (List.drop 0 (List.take (N - ((zer l : Nat) : Int).toNat) (List.drop (0 + ((zer l : Nat) : Int).toNat * 1) l))))⟩)) := by kernel_rfl
theorem raC1_call {N : Nat} {l : List Int} (hl : l.length = N) (hr : ∀ x ∈ l, inR .u8 x = true) (hN : N ≤ 60000) (hz : zer l < N) (hc : l.getD (zer l) 0 < 128) (hk : (natB l).length < 128) :
    ViewCall Try.prog 24 [.buf true .u8 N l] (.slice true 0 0 (natC l).length none 1) [some ⟨true, .ints .u8 none (natC l)⟩] := by
  have hle := zer_le l
  have hbz := u8_at hr (zer l)
  have ez : ((zer l : Nat) : Int).toNat = zer l := by omega
  have eo : 0 + zer l * 1 = zer l := by omega
  have hT : List.take (N - zer l) (List.drop (zer l) l) = tz l := List.take_of_length_le (by simp only [List.length_drop]; omega)
  have hTl := tz_len l
  have hT2 : List.take (N - zer l) (tz l) = tz l := List.take_of_length_le (by omega)
  have hB := natB_t (l := l) (by omega) hc
  have hn : (natB l).length = N - zer l := by rw [hB, hTl, hl]
  have hC : natC l = 2 :: (lenB (natB l).length ++ natB l) := rfl
  rw [lenB_1 hk] at hC
  have hlen : (2 + (N - ((zer l : Nat) : Int).toNat)) = (natC l).length := by rw [hC, ez]; simp only [List.length_cons, List.length_append, List.length_nil]; omega
  have ev := raC1_eval N l
  have hgz : (tz l).getD 0 0 = l.getD (zer l) 0 := by rw [tz_head (by omega)]; rfl
  have hblk : ([2] ++ [IntKind.wrap .u8 (((N - ((zer l : Nat) : Int).toNat) : Nat) : Int)]) ++ List.take (N - ((zer l : Nat) : Int).toNat) (List.drop 0 (List.take (N - ((zer l : Nat) : Int).toNat) (List.drop (0 + ((zer l : Nat) : Int).toNat * 1) l))) = natC l := by
    simp only [ez, eo, hT, List.drop_zero, hT2]
    rw [show N - zer l = (natB l).length by omega, hC, lenw1 (by omega)]
    rw [hB]; rfl
  rw [hblk, hlen] at ev
  refine @viewN_one _ _ _ _ _ mixed noCount (rputH_ok n0_ok 1) _ _ _ (fun fn c hf hb => by rw [bodyOf_eq hf hb]; exact (rn_lok LOk.none).toN) _ _ _ _ _ _ [false] 5 ev ?_ (by show 1 ≤ 5; decide) rfl rfl
  clear ev hblk hlen hC
  unfold raC1D
  simp only [ez, eo, hT, List.drop_zero, hT2, hgz, hTl, hl, List.length_append, List.length_cons, List.length_nil]
  refine paid_cons ?_ (paid_cons ?_ (paid_cons ?_ (paid_cons ?_ (paid_cons ?_ (paid_cons ?_ (paid_cons ?_ (paid_cons ?_ (paid_cons ?_ (paid_cons ?_ (paid_cons ?_ (paid_cons ?_ (paid_cons ?_ (paid_cons ?_ (paid_cons ?_ (paid_cons ?_ (paid_cons ?_ (paid_cons ?_ (paid_cons ?_ (paid_cons ?_ (paid_cons ?_ (paid_cons ?_ (fun _ h => by cases h))))))))))))))))))))))
  all_goals (try simp only [Bool.and_eq_true, Bool.or_eq_true, Bool.not_eq_true', Bool.not_true, Bool.not_false, Bool.not_eq_eq_eq_not, decide_eq_true_eq, decide_eq_false_iff_not, beq_iff_eq, beq_eq_false_iff_ne, bne_iff_ne, bne_eq_false_iff_eq, ne_eq, Bool.or_eq_false_iff, Bool.and_eq_false_imp, Bool.and_true, Bool.true_and, Bool.or_false, Bool.false_or, Bool.or_true, Bool.true_or, Bool.and_false, Bool.false_and, and_true, true_and, not_true_eq_false, not_false_eq_true, List.length_cons, List.length_nil, List.length_append, List.length_take, hTl, hl, Nat.add_zero, Nat.zero_add]) <;> omega
def raC2D (N : Nat) (l : List Int) : List Bool := [decide ((N : Nat) = N), decide (((List.length l) : Nat) = N), decide ((N : Nat) < 1000000000000), decide ((0 : Int) = 0), (decide ((0 : Int) ≤ (((zer l) : Nat) : Int)) && decide (((((zer l) : Nat) : Int) : Int) ≤ ((N : Nat) : Int))), decide ((((0 + ((Int.toNat (((zer l) : Nat) : Int)) * 1)) + (N - (Int.toNat (((zer l) : Nat) : Int)))) : Nat) ≤ N), (decide ((1 : Nat) ≤ (N - (Int.toNat (((zer l) : Nat) : Int)))) && decide (((N - (Int.toNat (((zer l) : Nat) : Int))) : Nat) ≤ 1000000000)), decide (((N - (Int.toNat (((zer l) : Nat) : Int))) : Nat) < 9223372036854775808), (!((((N - (Int.toNat (((zer l) : Nat) : Int))) : Nat) : Int) == 0)), (!((((N - (Int.toNat (((zer l) : Nat) : Int))) : Nat) : Int) == 0)), (decide ((0 : Int) ≤ 0) && decide ((0 : Int) < (((N - (Int.toNat (((zer l) : Nat) : Int))) : Nat) : Int))), (!((((N - (Int.toNat (((zer l) : Nat) : Int))) : Nat) : Int) == 0)), decide ((1 : Nat) ≤ (List.length (List.take (N - (Int.toNat (((zer l) : Nat) : Int))) (List.drop (0 + ((Int.toNat (((zer l) : Nat) : Int)) * 1)) l)))), (!((((N - (Int.toNat (((zer l) : Nat) : Int))) : Nat) : Int) == 0)), (!((((N - (Int.toNat (((zer l) : Nat) : Int))) : Nat) : Int) == 0)), (!decide (((List.getD (List.take (N - (Int.toNat (((zer l) : Nat) : Int))) (List.drop (0 + ((Int.toNat (((zer l) : Nat) : Int)) * 1)) l)) 0 0) : Int) ≥ 128)), decide (((N - (Int.toNat (((zer l) : Nat) : Int))) : Nat) < 9223372036854775808), (!decide (((((N - (Int.toNat (((zer l) : Nat) : Int))) : Nat) : Int) : Int) > 65535)), (!decide (((((N - (Int.toNat (((zer l) : Nat) : Int))) : Nat) : Int) : Int) > 255)), decide (((((N - (Int.toNat (((zer l) : Nat) : Int))) : Nat) : Int) : Int) > 127), decide (((0 + (N - (Int.toNat (((zer l) : Nat) : Int)))) : Nat) ≤ (List.length (List.take (N - (Int.toNat (((zer l) : Nat) : Int))) (List.drop (0 + ((Int.toNat (((zer l) : Nat) : Int)) * 1)) l)))), decide (((3 + (N - (Int.toNat (((zer l) : Nat) : Int)))) : Nat) ≤ 1000000000)]
theorem raC2_eval (N : Nat) (l : List Int) : seeV 5 ((funcL Try.prog qA (rputH 2 n0) (rnΛ (fun _ _ => none)) 100 24 (cArgs 0 [.buf true .u8 N l]) (cMem [.buf true .u8 N l])).go [false]) = some (raC2D N l, .slice true 5 0 (3 + (N - ((zer l : Nat) : Int).toNat)) none 1, some (some ⟨true, .ints .u8 none (([2] ++ [129, IntKind.wrap .u8 (((N - ((zer l : Nat) : Int).toNat) : Nat) : Int)]) ++ List.take (N - ((zer l : Nat) : Int).toNat) (List.drop 0 (List.take (N - ((zer l : Nat) : Int).toNat) (List.drop (0 + ((zer l : Nat) : Int).toNat * 1) l))))⟩)) := by kernel_rfl
theorem raC2_call {N : Nat} {l : List Int} (hl : l.length = N) (hr : ∀ x ∈ l, inR .u8 x = true) (hN : N ≤ 60000) (hz : zer l < N) (hc : l.getD (zer l) 0 < 128) (hk : ¬ (natB l).length < 128) (hk2 : (natB l).length < 256) :
    ViewCall Try.prog 24 [.buf true .u8 N l] (.slice true 0 0 (natC l).length none 1) [some ⟨true, .ints .u8 none (natC l)⟩] := by
  have hle := zer_le l
  have hbz := u8_at hr (zer l)
  have ez : ((zer l : Nat) : Int).toNat = zer l := by omega
  have eo : 0 + zer l * 1 = zer l := by omega
  have hT : List.take (N - zer l) (List.drop (zer l) l) = tz l := List.take_of_length_le (by simp only [List.length_drop]; omega)
  have hTl := tz_len l
  have hT2 : List.take (N - zer l) (tz l) = tz l := List.take_of_length_le (by omega)
  have hB := natB_t (l := l) (by omega) hc
  have hn : (natB l).length = N - zer l := by rw [hB, hTl, hl]
  have hC : natC l = 2 :: (lenB (natB l).length ++ natB l) := rfl
  rw [lenB_2 hk hk2] at hC
  have hlen : (3 + (N - ((zer l : Nat) : Int).toNat)) = (natC l).length := by rw [hC, ez]; simp only [List.length_cons, List.length_append, List.length_nil]; omega
  have ev := raC2_eval N l
  have hgz : (tz l).getD 0 0 = l.getD (zer l) 0 := by rw [tz_head (by omega)]; rfl
  have hblk : ([2] ++ [129, IntKind.wrap .u8 (((N - ((zer l : Nat) : Int).toNat) : Nat) : Int)]) ++ List.take (N - ((zer l : Nat) : Int).toNat) (List.drop 0 (List.take (N - ((zer l : Nat) : Int).toNat) (List.drop (0 + ((zer l : Nat) : Int).toNat * 1) l))) = natC l := by
    simp only [ez, eo, hT, List.drop_zero, hT2]
    rw [show N - zer l = (natB l).length by omega, hC, lenw1 (by omega)]
    rw [hB]; rfl
  rw [hblk, hlen] at ev
  refine @viewN_one _ _ _ _ _ mixed noCount (rputH_ok n0_ok 2) _ _ _ (fun fn c hf hb => by rw [bodyOf_eq hf hb]; exact (rn_lok LOk.none).toN) _ _ _ _ _ _ [false] 5 ev ?_ (by show 1 ≤ 5; decide) rfl rfl
  clear ev hblk hlen hC
  unfold raC2D
  simp only [ez, eo, hT, List.drop_zero, hT2, hgz, hTl, hl, List.length_append, List.length_cons, List.length_nil]
  refine paid_cons ?_ (paid_cons ?_ (paid_cons ?_ (paid_cons ?_ (paid_cons ?_ (paid_cons ?_ (paid_cons ?_ (paid_cons ?_ (paid_cons ?_ (paid_cons ?_ (paid_cons ?_ (paid_cons ?_ (paid_cons ?_ (paid_cons ?_ (paid_cons ?_ (paid_cons ?_ (paid_cons ?_ (paid_cons ?_ (paid_cons ?_ (paid_cons ?_ (paid_cons ?_ (paid_cons ?_ (fun _ h => by cases h))))))))))))))))))))))
  all_goals (try simp only [Bool.and_eq_true, Bool.or_eq_true, Bool.not_eq_true', Bool.not_true, Bool.not_false, Bool.not_eq_eq_eq_not, decide_eq_true_eq, decide_eq_false_iff_not, beq_iff_eq, beq_eq_false_iff_ne, bne_iff_ne, bne_eq_false_iff_eq, ne_eq, Bool.or_eq_false_iff, Bool.and_eq_false_imp, Bool.and_true, Bool.true_and, Bool.or_false, Bool.false_or, Bool.or_true, Bool.true_or, Bool.and_false, Bool.false_and, and_true, true_and, not_true_eq_false, not_false_eq_true, List.length_cons, List.length_nil, List.length_append, List.length_take, hTl, hl, Nat.add_zero, Nat.zero_add]) <;> omega
def raC3D (N : Nat) (l : List Int) : List Bool := [decide ((N : Nat) = N), decide (((List.length l) : Nat) = N), decide ((N : Nat) < 1000000000000), decide ((0 : Int) = 0), (decide ((0 : Int) ≤ (((zer l) : Nat) : Int)) && decide (((((zer l) : Nat) : Int) : Int) ≤ ((N : Nat) : Int))), decide ((((0 + ((Int.toNat (((zer l) : Nat) : Int)) * 1)) + (N - (Int.toNat (((zer l) : Nat) : Int)))) : Nat) ≤ N), (decide ((1 : Nat) ≤ (N - (Int.toNat (((zer l) : Nat) : Int)))) && decide (((N - (Int.toNat (((zer l) : Nat) : Int))) : Nat) ≤ 1000000000)), decide (((N - (Int.toNat (((zer l) : Nat) : Int))) : Nat) < 9223372036854775808), (!((((N - (Int.toNat (((zer l) : Nat) : Int))) : Nat) : Int) == 0)), (!((((N - (Int.toNat (((zer l) : Nat) : Int))) : Nat) : Int) == 0)), (decide ((0 : Int) ≤ 0) && decide ((0 : Int) < (((N - (Int.toNat (((zer l) : Nat) : Int))) : Nat) : Int))), (!((((N - (Int.toNat (((zer l) : Nat) : Int))) : Nat) : Int) == 0)), decide ((1 : Nat) ≤ (List.length (List.take (N - (Int.toNat (((zer l) : Nat) : Int))) (List.drop (0 + ((Int.toNat (((zer l) : Nat) : Int)) * 1)) l)))), (!((((N - (Int.toNat (((zer l) : Nat) : Int))) : Nat) : Int) == 0)), (!((((N - (Int.toNat (((zer l) : Nat) : Int))) : Nat) : Int) == 0)), (!decide (((List.getD (List.take (N - (Int.toNat (((zer l) : Nat) : Int))) (List.drop (0 + ((Int.toNat (((zer l) : Nat) : Int)) * 1)) l)) 0 0) : Int) ≥ 128)), decide (((N - (Int.toNat (((zer l) : Nat) : Int))) : Nat) < 9223372036854775808), (!decide (((((N - (Int.toNat (((zer l) : Nat) : Int))) : Nat) : Int) : Int) > 65535)), decide (((((N - (Int.toNat (((zer l) : Nat) : Int))) : Nat) : Int) : Int) > 255), decide (((0 + (N - (Int.toNat (((zer l) : Nat) : Int)))) : Nat) ≤ (List.length (List.take (N - (Int.toNat (((zer l) : Nat) : Int))) (List.drop (0 + ((Int.toNat (((zer l) : Nat) : Int)) * 1)) l)))), decide (((4 + (N - (Int.toNat (((zer l) : Nat) : Int)))) : Nat) ≤ 1000000000)]
theorem raC3_eval (N : Nat) (l : List Int) : seeV 5 ((funcL Try.prog qA (rputH 3 n0) (rnΛ (fun _ _ => none)) 100 24 (cArgs 0 [.buf true .u8 N l]) (cMem [.buf true .u8 N l])).go [false]) = some (raC3D N l, .slice true 5 0 (4 + (N - ((zer l : Nat) : Int).toNat)) none 1, some (some ⟨true, .ints .u8 none (([2] ++ [130, IntKind.wrap .u8 (IntKind.wrap .i64 (Int.tdiv (((N - ((zer l : Nat) : Int).toNat) : Nat) : Int) 256)), IntKind.wrap .u8 (Int.tmod (((N - ((zer l : Nat) : Int).toNat) : Nat) : Int) 256)]) ++ List.take (N - ((zer l : Nat) : Int).toNat) (List.drop 0 (List.take (N - ((zer l : Nat) : Int).toNat) (List.drop (0 + ((zer l : Nat) : Int).toNat * 1) l))))⟩)) := by kernel_rfl
theorem raC3_call {N : Nat} {l : List Int} (hl : l.length = N) (hr : ∀ x ∈ l, inR .u8 x = true) (hN : N ≤ 60000) (hz : zer l < N) (hc : l.getD (zer l) 0 < 128) (hk : ¬ (natB l).length < 256) :
    ViewCall Try.prog 24 [.buf true .u8 N l] (.slice true 0 0 (natC l).length none 1) [some ⟨true, .ints .u8 none (natC l)⟩] := by
  have hle := zer_le l
  have hbz := u8_at hr (zer l)
  have ez : ((zer l : Nat) : Int).toNat = zer l := by omega
  have eo : 0 + zer l * 1 = zer l := by omega
  have hT : List.take (N - zer l) (List.drop (zer l) l) = tz l := List.take_of_length_le (by simp only [List.length_drop]; omega)
  have hTl := tz_len l
  have hT2 : List.take (N - zer l) (tz l) = tz l := List.take_of_length_le (by omega)
  have hB := natB_t (l := l) (by omega) hc
  have hn : (natB l).length = N - zer l := by rw [hB, hTl, hl]
  have hC : natC l = 2 :: (lenB (natB l).length ++ natB l) := rfl
  rw [lenB_3 hk] at hC
  have hlen : (4 + (N - ((zer l : Nat) : Int).toNat)) = (natC l).length := by rw [hC, ez]; simp only [List.length_cons, List.length_append, List.length_nil]; omega
  have ev := raC3_eval N l
  have hgz : (tz l).getD 0 0 = l.getD (zer l) 0 := by rw [tz_head (by omega)]; rfl
  have hblk : ([2] ++ [130, IntKind.wrap .u8 (IntKind.wrap .i64 (Int.tdiv (((N - ((zer l : Nat) : Int).toNat) : Nat) : Int) 256)), IntKind.wrap .u8 (Int.tmod (((N - ((zer l : Nat) : Int).toNat) : Nat) : Int) 256)]) ++ List.take (N - ((zer l : Nat) : Int).toNat) (List.drop 0 (List.take (N - ((zer l : Nat) : Int).toNat) (List.drop (0 + ((zer l : Nat) : Int).toNat * 1) l))) = natC l := by
    simp only [ez, eo, hT, List.drop_zero, hT2]
    rw [show N - zer l = (natB l).length by omega, hC, lenw2 (by omega), lenw3]
    rw [hB]; rfl
  rw [hblk, hlen] at ev
  refine @viewN_one _ _ _ _ _ mixed noCount (rputH_ok n0_ok 3) _ _ _ (fun fn c hf hb => by rw [bodyOf_eq hf hb]; exact (rn_lok LOk.none).toN) _ _ _ _ _ _ [false] 5 ev ?_ (by show 1 ≤ 5; decide) rfl rfl
  clear ev hblk hlen hC
  unfold raC3D
  simp only [ez, eo, hT, List.drop_zero, hT2, hgz, hTl, hl, List.length_append, List.length_cons, List.length_nil]
  refine paid_cons ?_ (paid_cons ?_ (paid_cons ?_ (paid_cons ?_ (paid_cons ?_ (paid_cons ?_ (paid_cons ?_ (paid_cons ?_ (paid_cons ?_ (paid_cons ?_ (paid_cons ?_ (paid_cons ?_ (paid_cons ?_ (paid_cons ?_ (paid_cons ?_ (paid_cons ?_ (paid_cons ?_ (paid_cons ?_ (paid_cons ?_ (paid_cons ?_ (paid_cons ?_ (fun _ h => by cases h)))))))))))))))))))))
  all_goals (try simp only [Bool.and_eq_true, Bool.or_eq_true, Bool.not_eq_true', Bool.not_true, Bool.not_false, Bool.not_eq_eq_eq_not, decide_eq_true_eq, decide_eq_false_iff_not, beq_iff_eq, beq_eq_false_iff_ne, bne_iff_ne, bne_eq_false_iff_eq, ne_eq, Bool.or_eq_false_iff, Bool.and_eq_false_imp, Bool.and_true, Bool.true_and, Bool.or_false, Bool.false_or, Bool.or_true, Bool.true_or, Bool.and_false, Bool.false_and, and_true, true_and, not_true_eq_false, not_false_eq_true, List.length_cons, List.length_nil, List.length_append, List.length_take, hTl, hl, Nat.add_zero, Nat.zero_add]) <;> omega
theorem rnat_call {N : Nat} {l : List Int} (hl : l.length = N) (hr : ∀ x ∈ l, inR .u8 x = true) (hN : N ≤ 60000) :
    ViewCall Try.prog 24 [.buf true .u8 N l] (.slice true 0 0 (natC l).length none 1) [some ⟨true, .ints .u8 none (natC l)⟩] := by
  intro ρ vs w ha hi
  have hle := zer_le l
  by_cases hc : zer l = N
  · exact raA1_call hl hr hN hc ha hi
  have hz : zer l < N := by omega
  by_cases hb : 128 ≤ l.getD (zer l) 0
  · by_cases hk : (natB l).length < 128
    · exact raB1_call hl hr hN hz hb hk ha hi
    by_cases hk2 : (natB l).length < 256
    · exact raB2_call hl hr hN hz hb hk hk2 ha hi
    exact raB3_call hl hr hN hz hb hk2 ha hi
  · have hb : l.getD (zer l) 0 < 128 := by omega
    by_cases hk : (natB l).length < 128
    · exact raC1_call hl hr hN hz hb hk ha hi
    by_cases hk2 : (natB l).length < 256
    · exact raC2_call hl hr hN hz hb hk hk2 ha hi
    exact raC3_call hl hr hN hz hb hk2 ha hi
theorem rnatS_ok {xs : List V} {o : List Bool} {v : AV} {bs : Mem} (h : natS xs = some (o, (v, bs))) (ho : Paid o) : ViewCall Try.prog 24 xs v bs := by
  unfold natS at h
  split at h
  · rename_i s N l
    cases h
    have hN := of_decide_eq_true (ho _ (List.mem_cons_self ..))
    intro ρ vs w ha hi
    obtain ⟨hl, hr⟩ := buf_arg hi 0 rfl
    refine rnat_call hl hr hN ?_ hi
    cases ha with
    | cons _ _ v0 vs0 h0 hs0 => exact .cons _ _ _ _ ((LeS.slice s true 0 0 N none none 1 (Or.inl rfl)).rep h0) hs0
  · cases h
noncomputable def hRNat (X : CallH) : CallH := withV 24 natS X
theorem hRNat_ok {X : CallH} (h : HOk Try.prog X) : HOk Try.prog (hRNat X) := h.withV fun _ _ _ _ h ho => rnatS_ok h ho
end Go.Proofs.Ythpafpifpdeikaa
