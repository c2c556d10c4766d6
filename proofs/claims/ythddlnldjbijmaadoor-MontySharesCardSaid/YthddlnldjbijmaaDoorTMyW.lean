/- What the program and the reference answer of 32 bytes. Own work. -/
import Derived.Test.YthddlnldjbijmaaDoorTMyV
set_option linter.unusedSimpArgs false
set_option linter.unusedVariables false
set_option linter.unusedSectionVars false
namespace Go.Proofs.YthddlnldjbijmaaDoor
open Go.Ev Go.Wn
set_option maxRecDepth 100000
theorem inR_B8 {x : Int} (h : inR .u8 x = true) : B8 x := inR_u8 h
def bigL : List Int → List Int
  | [b0, b1, b2, b3, b4, b5, b6, b7, b8, b9, b10, b11, b12, b13, b14, b15, b16, b17, b18, b19, b20, b21, b22, b23, b24, b25, b26, b27, b28, b29, b30, b31] => [W8 b24 b25 b26 b27 b28 b29 b30 b31, W8 b16 b17 b18 b19 b20 b21 b22 b23, W8 b8 b9 b10 b11 b12 b13 b14 b15, W8 b0 b1 b2 b3 b4 b5 b6 b7]
  | l => l
def litL : List Int → List Int
  | [b0, b1, b2, b3, b4, b5, b6, b7, b8, b9, b10, b11, b12, b13, b14, b15, b16, b17, b18, b19, b20, b21, b22, b23, b24, b25, b26, b27, b28, b29, b30, b31] => [W8 b7 b6 b5 b4 b3 b2 b1 b0, W8 b15 b14 b13 b12 b11 b10 b9 b8, W8 b23 b22 b21 b20 b19 b18 b17 b16, W8 b31 b30 b29 b28 b27 b26 b25 b24]
  | l => l
theorem thirty {l : List Int} (h : l.length = 32) : ∃ b0 b1 b2 b3 b4 b5 b6 b7 b8 b9 b10 b11 b12 b13 b14 b15 b16 b17 b18 b19 b20 b21 b22 b23 b24 b25 b26 b27 b28 b29 b30 b31, l = [b0, b1, b2, b3, b4, b5, b6, b7, b8, b9, b10, b11, b12, b13, b14, b15, b16, b17, b18, b19, b20, b21, b22, b23, b24, b25, b26, b27, b28, b29, b30, b31] := by
  match l, h with
  | [b0, b1, b2, b3, b4, b5, b6, b7, b8, b9, b10, b11, b12, b13, b14, b15, b16, b17, b18, b19, b20, b21, b22, b23, b24, b25, b26, b27, b28, b29, b30, b31], _ => exact ⟨b0, b1, b2, b3, b4, b5, b6, b7, b8, b9, b10, b11, b12, b13, b14, b15, b16, b17, b18, b19, b20, b21, b22, b23, b24, b25, b26, b27, b28, b29, b30, b31, rfl⟩
def litS : List V → E (AV × Mem)
  | [.buf false .u8 32 l] => some ([], (.tuple [.ints .u64 4 (litL l), .bool false true], []))
  | [.buf true .u8 n _] => some ([!decide ((n : Int) = 32), decide (n < 9223372036854775808)], (.tuple [.ints .u64 4 [0, 0, 0, 0], .bool false false], []))
  | _ => none
theorem lit_eval (b0 b1 b2 b3 b4 b5 b6 b7 b8 b9 b10 b11 b12 b13 b14 b15 b16 b17 b18 b19 b20 b21 b22 b23 b24 b25 b26 b27 b28 b29 b30 b31 : Int) : res (funcA Tryd.prog qAll h0 100 18 (cArgs 0 [.buf false .u8 32 [b0, b1, b2, b3, b4, b5, b6, b7, b8, b9, b10, b11, b12, b13, b14, b15, b16, b17, b18, b19, b20, b21, b22, b23, b24, b25, b26, b27, b28, b29, b30, b31]]) (cMem [.buf false .u8 32 [b0, b1, b2, b3, b4, b5, b6, b7, b8, b9, b10, b11, b12, b13, b14, b15, b16, b17, b18, b19, b20, b21, b22, b23, b24, b25, b26, b27, b28, b29, b30, b31]])) =
    some ([], .tuple [.ints .u64 4 [orL b0 b1 b2 b3 b4 b5 b6 b7, orL b8 b9 b10 b11 b12 b13 b14 b15, orL b16 b17 b18 b19 b20 b21 b22 b23, orL b24 b25 b26 b27 b28 b29 b30 b31], .bool false true]) := by kernel_rfl
theorem lit_other (n : Nat) (l : List Int) : res ((funcA Tryd.prog qAll h0 100 18 (cArgs 0 [.buf true .u8 n l]) (cMem [.buf true .u8 n l])).go [true]) =
    some ([decide (n < 9223372036854775808), (n : Int) != 32], .tuple [.ints .u64 4 [0, 0, 0, 0], .bool false false]) := by kernel_rfl
theorem lit_ok {xs : List V} {o : List Bool} {v : AV} {bs : Mem} (h : litS xs = some (o, (v, bs))) (ho : Paid o) : ViewCall Tryd.prog 18 xs v bs := by
  unfold litS at h
  split at h
  · rename_i l
    cases h
    intro ρ vs w ha hi
    obtain ⟨hl, hr⟩ := buf_arg hi 0 rfl
    obtain ⟨b0, b1, b2, b3, b4, b5, b6, b7, b8, b9, b10, b11, b12, b13, b14, b15, b16, b17, b18, b19, b20, b21, b22, b23, b24, b25, b26, b27, b28, b29, b30, b31, rfl⟩ := thirty hl
    have e : ([orL b0 b1 b2 b3 b4 b5 b6 b7, orL b8 b9 b10 b11 b12 b13 b14 b15, orL b16 b17 b18 b19 b20 b21 b22 b23, orL b24 b25 b26 b27 b28 b29 b30 b31] : List Int) = litL [b0, b1, b2, b3, b4, b5, b6, b7, b8, b9, b10, b11, b12, b13, b14, b15, b16, b17, b18, b19, b20, b21, b22, b23, b24, b25, b26, b27, b28, b29, b30, b31] := by
      rw [orL_eq (inR_B8 (hr b0 (by simp))) (inR_B8 (hr b1 (by simp))) (inR_B8 (hr b2 (by simp))) (inR_B8 (hr b3 (by simp))) (inR_B8 (hr b4 (by simp))) (inR_B8 (hr b5 (by simp))) (inR_B8 (hr b6 (by simp))) (inR_B8 (hr b7 (by simp))), orL_eq (inR_B8 (hr b8 (by simp))) (inR_B8 (hr b9 (by simp))) (inR_B8 (hr b10 (by simp))) (inR_B8 (hr b11 (by simp))) (inR_B8 (hr b12 (by simp))) (inR_B8 (hr b13 (by simp))) (inR_B8 (hr b14 (by simp))) (inR_B8 (hr b15 (by simp))), orL_eq (inR_B8 (hr b16 (by simp))) (inR_B8 (hr b17 (by simp))) (inR_B8 (hr b18 (by simp))) (inR_B8 (hr b19 (by simp))) (inR_B8 (hr b20 (by simp))) (inR_B8 (hr b21 (by simp))) (inR_B8 (hr b22 (by simp))) (inR_B8 (hr b23 (by simp))), orL_eq (inR_B8 (hr b24 (by simp))) (inR_B8 (hr b25 (by simp))) (inR_B8 (hr b26 (by simp))) (inR_B8 (hr b27 (by simp))) (inR_B8 (hr b28 (by simp))) (inR_B8 (hr b29 (by simp))) (inR_B8 (hr b30 (by simp))) (inR_B8 (hr b31 (by simp)))]; rfl
    exact view_of_res mixed noCount h0_ok (lit_eval b0 b1 b2 b3 b4 b5 b6 b7 b8 b9 b10 b11 b12 b13 b14 b15 b16 b17 b18 b19 b20 b21 b22 b23 b24 b25 b26 b27 b28 b29 b30 b31) Paid.nil (by rw [e]) (by kernel_rfl) ha hi
  · rename_i n l
    cases h
    have hn := ho _ (List.mem_cons_self ..)
    simp only [Bool.not_eq_true', decide_eq_false_iff_not] at hn
    intro ρ vs w ha hi
    have hlen := ho _ (List.mem_cons_of_mem _ (List.mem_cons_self ..))
    simp only [decide_eq_true_eq] at hlen
    exact view_of_go mixed noCount h0_ok [true] (lit_other n l) (paid_cons (decide_eq_true hlen) (paid_cons (by simpa using hn) Paid.nil)) rfl (by kernel_rfl) ha hi
  · cases h
def dg2 (x y : Int) : Int := IntKind.i64.wrap (IntKind.i64.wrap x + IntKind.i64.wrap (256 * IntKind.i64.wrap y))
theorem dg2_eq {x y : Int} (hx : B8 x) (hy : B8 y) : dg2 x y = x + 256 * y := by
  unfold B8 dg2 at *
  have w : ∀ {z : Int}, -9223372036854775808 ≤ z ∧ z < 9223372036854775808 → IntKind.i64.wrap z = z := by
    intro z hz; unfold IntKind.wrap; simp [IntKind.bits, IntKind.signed]; omega
  rw [w (z := x) (by omega), w (z := y) (by omega), w (z := 256 * y) (by omega), w (by omega)]
theorem dg2_D {x y : Int} (hx : B8 x) (hy : B8 y) : D (dg2 x y) := by
  rw [dg2_eq hx hy]; unfold B8 D at *; omega
def rbigS : List V → E (AV × Mem)
  | [.buf false .u8 32 l] => some ([], (.ints .u64 4 (bigL l), []))
  | _ => none
theorem rbig_eval (b0 b1 b2 b3 b4 b5 b6 b7 b8 b9 b10 b11 b12 b13 b14 b15 b16 b17 b18 b19 b20 b21 b22 b23 b24 b25 b26 b27 b28 b29 b30 b31 : Int) : res (funcA Tryd.prog qAll h6 100 16 (cArgs 0 [.buf false .u8 32 [b0, b1, b2, b3, b4, b5, b6, b7, b8, b9, b10, b11, b12, b13, b14, b15, b16, b17, b18, b19, b20, b21, b22, b23, b24, b25, b26, b27, b28, b29, b30, b31]]) (cMem [.buf false .u8 32 [b0, b1, b2, b3, b4, b5, b6, b7, b8, b9, b10, b11, b12, b13, b14, b15, b16, b17, b18, b19, b20, b21, b22, b23, b24, b25, b26, b27, b28, b29, b30, b31]])) =
    some ([allD [dg2 b31 b30, dg2 b29 b28, dg2 b27 b26, dg2 b25 b24, dg2 b23 b22, dg2 b21 b20, dg2 b19 b18, dg2 b17 b16, dg2 b15 b14, dg2 b13 b12, dg2 b11 b10, dg2 b9 b8, dg2 b7 b6, dg2 b5 b4, dg2 b3 b2, dg2 b1 b0]], .ints .u64 4 (numD [dg2 b31 b30, dg2 b29 b28, dg2 b27 b26, dg2 b25 b24, dg2 b23 b22, dg2 b21 b20, dg2 b19 b18, dg2 b17 b16, dg2 b15 b14, dg2 b13 b12, dg2 b11 b10, dg2 b9 b8, dg2 b7 b6, dg2 b5 b4, dg2 b3 b2, dg2 b1 b0])) := by kernel_rfl
theorem rbig_ok {xs : List V} {o : List Bool} {v : AV} {bs : Mem} (h : rbigS xs = some (o, (v, bs))) : ViewCall Tryd.prog 16 xs v bs := by
  unfold rbigS at h
  split at h
  · rename_i l
    cases h
    intro ρ vs w ha hi
    obtain ⟨hl, hr⟩ := buf_arg hi 0 rfl
    obtain ⟨b0, b1, b2, b3, b4, b5, b6, b7, b8, b9, b10, b11, b12, b13, b14, b15, b16, b17, b18, b19, b20, b21, b22, b23, b24, b25, b26, b27, b28, b29, b30, b31, rfl⟩ := thirty hl
    simp only [List.forall_mem_cons, List.not_mem_nil, false_implies, implies_true, and_true] at hr
    obtain ⟨k0, k1, k2, k3, k4, k5, k6, k7, k8, k9, k10, k11, k12, k13, k14, k15, k16, k17, k18, k19, k20, k21, k22, k23, k24, k25, k26, k27, k28, k29, k30, k31⟩ := hr
    have hD : allD [dg2 b31 b30, dg2 b29 b28, dg2 b27 b26, dg2 b25 b24, dg2 b23 b22, dg2 b21 b20, dg2 b19 b18, dg2 b17 b16, dg2 b15 b14, dg2 b13 b12, dg2 b11 b10, dg2 b9 b8, dg2 b7 b6, dg2 b5 b4, dg2 b3 b2, dg2 b1 b0] = true := by
      rw [allD_iff]
      simp only [List.forall_mem_cons, List.not_mem_nil, false_implies, implies_true, and_true]
      exact ⟨dg2_D (inR_B8 k31) (inR_B8 k30), dg2_D (inR_B8 k29) (inR_B8 k28), dg2_D (inR_B8 k27) (inR_B8 k26), dg2_D (inR_B8 k25) (inR_B8 k24), dg2_D (inR_B8 k23) (inR_B8 k22), dg2_D (inR_B8 k21) (inR_B8 k20), dg2_D (inR_B8 k19) (inR_B8 k18), dg2_D (inR_B8 k17) (inR_B8 k16), dg2_D (inR_B8 k15) (inR_B8 k14), dg2_D (inR_B8 k13) (inR_B8 k12), dg2_D (inR_B8 k11) (inR_B8 k10), dg2_D (inR_B8 k9) (inR_B8 k8), dg2_D (inR_B8 k7) (inR_B8 k6), dg2_D (inR_B8 k5) (inR_B8 k4), dg2_D (inR_B8 k3) (inR_B8 k2), dg2_D (inR_B8 k1) (inR_B8 k0)⟩
    have e : numD [dg2 b31 b30, dg2 b29 b28, dg2 b27 b26, dg2 b25 b24, dg2 b23 b22, dg2 b21 b20, dg2 b19 b18, dg2 b17 b16, dg2 b15 b14, dg2 b13 b12, dg2 b11 b10, dg2 b9 b8, dg2 b7 b6, dg2 b5 b4, dg2 b3 b2, dg2 b1 b0] = bigL [b0, b1, b2, b3, b4, b5, b6, b7, b8, b9, b10, b11, b12, b13, b14, b15, b16, b17, b18, b19, b20, b21, b22, b23, b24, b25, b26, b27, b28, b29, b30, b31] := by
      rw [dg2_eq (inR_B8 k31) (inR_B8 k30), dg2_eq (inR_B8 k29) (inR_B8 k28), dg2_eq (inR_B8 k27) (inR_B8 k26), dg2_eq (inR_B8 k25) (inR_B8 k24), dg2_eq (inR_B8 k23) (inR_B8 k22), dg2_eq (inR_B8 k21) (inR_B8 k20), dg2_eq (inR_B8 k19) (inR_B8 k18), dg2_eq (inR_B8 k17) (inR_B8 k16), dg2_eq (inR_B8 k15) (inR_B8 k14), dg2_eq (inR_B8 k13) (inR_B8 k12), dg2_eq (inR_B8 k11) (inR_B8 k10), dg2_eq (inR_B8 k9) (inR_B8 k8), dg2_eq (inR_B8 k7) (inR_B8 k6), dg2_eq (inR_B8 k5) (inR_B8 k4), dg2_eq (inR_B8 k3) (inR_B8 k2), dg2_eq (inR_B8 k1) (inR_B8 k0)]
      simp only [numD, bigL, W8, List.cons.injEq, and_true]
      refine ⟨?_, ?_, ?_, ?_⟩ <;> omega
    exact view_of_res mixed noCount h6_ok (rbig_eval b0 b1 b2 b3 b4 b5 b6 b7 b8 b9 b10 b11 b12 b13 b14 b15 b16 b17 b18 b19 b20 b21 b22 b23 b24 b25 b26 b27 b28 b29 b30 b31) (paid_cons hD Paid.nil) (by rw [e]) (by kernel_rfl) ha hi
  · cases h
def h7 : CallH := withV 16 rbigS (withV 18 litS h6)
end Go.Proofs.YthddlnldjbijmaaDoor
