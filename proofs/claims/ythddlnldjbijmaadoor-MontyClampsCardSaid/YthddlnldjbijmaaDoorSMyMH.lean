/- Sums, differences and products modulo what a Mod holds. Own work. -/
import Derived.Test.YthddlnldjbijmaaDoorSMyMG
set_option linter.unusedSimpArgs false
set_option linter.unusedVariables false
set_option linter.unusedSectionVars false
namespace Go.Proofs.YthddlnldjbijmaaDoor
open Go.Ev Go.Wn
set_option maxRecDepth 100000
theorem rest_lt {M : Int} (hM : 0 < M) (a : Int) : 0 ≤ a % M ∧ a % M < M := ⟨Int.emod_nonneg _ (by omega), Int.emod_lt_of_pos _ hM⟩
theorem sub_pick {M x y : Int} (_hM : 0 < M ∧ M < W4) (hx : 0 ≤ x ∧ x < M) (hy : 0 ≤ y ∧ y < M) : pickL (if x < y then 1 else 0) (limbs (val (limbs (x - y)) + M)) (limbs (x - y)) = limbs ((x - y) % M) := by
  unfold pickL
  by_cases h : x < y
  · rw [if_pos h, if_pos (by decide)]
    have e : (x - y) % M = x - y + M := by rw [← Int.add_emod_right, Int.emod_eq_of_lt (by omega) (by omega)]
    rw [e, val_limbs]
    apply limbs_congr
    unfold W4
    omega
  · rw [if_neg h, if_neg (by decide), Int.emod_eq_of_lt (by omega) (by omega)]
def madS : List V → E (AV × Mem)
  | [.pt (.ints .u64 (some 9) L), .pl (.ints .u64 4 a), .pl (.ints .u64 4 b)] => some ([good L], (.ints .u64 4 (limbs ((val a + val b) % val L)), []))
  | _ => none
theorem mad_eval (m0 m1 m2 m3 ni s0 s1 s2 s3 : Int) (a b : List Int) : res (funcA Tryd.prog qAll hm8 100 49 (cArgs 0 [.pt (.ints .u64 (some 9) [m0, m1, m2, m3, ni, s0, s1, s2, s3]), .pl (.ints .u64 4 a), .pl (.ints .u64 4 b)]) (cMem [.pt (.ints .u64 (some 9) [m0, m1, m2, m3, ni, s0, s1, s2, s3]), .pl (.ints .u64 4 a), .pl (.ints .u64 4 b)])) =
    some ([good [m0, m1, m2, m3, ni, s0, s1, s2, s3], good [m0, m1, m2, m3, ni, s0, s1, s2, s3], decide (0 < val [m0, m1, m2, m3, ni, s0, s1, s2, s3]), decide (val (limbs (val a % val [m0, m1, m2, m3, ni, s0, s1, s2, s3])) + val (limbs (val b % val [m0, m1, m2, m3, ni, s0, s1, s2, s3])) < 2 * val [m0, m1, m2, m3, ni, s0, s1, s2, s3])], .ints .u64 4 (limbs ((val (limbs (val a % val [m0, m1, m2, m3, ni, s0, s1, s2, s3])) + val (limbs (val b % val [m0, m1, m2, m3, ni, s0, s1, s2, s3]))) % val [m0, m1, m2, m3, ni, s0, s1, s2, s3]))) := by kernel_rfl
theorem mad_ok {xs : List V} {o : List Bool} {v : AV} {bs : Mem} (h : madS xs = some (o, (v, bs))) (ho : Paid o) : ViewCall Tryd.prog 49 xs v bs := by
  unfold madS at h
  split at h
  · rename_i L a b
    cases h
    have hg := ho _ (List.mem_cons_self ..)
    obtain ⟨h1, h2, h3, h4⟩ := good_iff.1 hg
    intro ρ vs w ha hi
    obtain ⟨m0, m1, m2, m3, ni, s0, s1, s2, s3, rfl, w0, w1, w2, w3, wi, _⟩ := mod_arg hi rfl
    have hM : 0 < val [m0, m1, m2, m3, ni, s0, s1, s2, s3] ∧ val [m0, m1, m2, m3, ni, s0, s1, s2, s3] < W4 := ⟨by omega, (val_range w0 w1 w2 w3).2⟩
    have ev := mad_eval m0 m1 m2 m3 ni s0 s1 s2 s3 a b
    generalize [m0, m1, m2, m3, ni, s0, s1, s2, s3] = L at *
    rw [lv hM, lv hM] at ev
    have x := rest_lt hM.1 (val a); have y := rest_lt hM.1 (val b)
    exact view_of_res mixed noCount hm8_ok ev (paid_cons hg (paid_cons hg (paid_cons (decide_eq_true hM.1) (paid_cons (decide_eq_true (by omega)) Paid.nil)))) (by rw [← Int.add_emod]) (by kernel_rfl) ha hi
  · cases h
def msbS : List V → E (AV × Mem)
  | [.pt (.ints .u64 (some 9) L), .pl (.ints .u64 4 a), .pl (.ints .u64 4 b)] => some ([good L], (.ints .u64 4 (limbs ((val a - val b) % val L)), []))
  | _ => none
theorem msb_eval (m0 m1 m2 m3 ni s0 s1 s2 s3 : Int) (a b : List Int) : res (funcA Tryd.prog qAll hm8 100 50 (cArgs 0 [.pt (.ints .u64 (some 9) [m0, m1, m2, m3, ni, s0, s1, s2, s3]), .pl (.ints .u64 4 a), .pl (.ints .u64 4 b)]) (cMem [.pt (.ints .u64 (some 9) [m0, m1, m2, m3, ni, s0, s1, s2, s3]), .pl (.ints .u64 4 a), .pl (.ints .u64 4 b)])) =
    some ([good [m0, m1, m2, m3, ni, s0, s1, s2, s3], good [m0, m1, m2, m3, ni, s0, s1, s2, s3]], .ints .u64 4 (pickL (if val (limbs (val a % val [m0, m1, m2, m3, ni, s0, s1, s2, s3])) < val (limbs (val b % val [m0, m1, m2, m3, ni, s0, s1, s2, s3])) then 1 else 0) (limbs (val (limbs (val (limbs (val a % val [m0, m1, m2, m3, ni, s0, s1, s2, s3])) - val (limbs (val b % val [m0, m1, m2, m3, ni, s0, s1, s2, s3])))) + val [m0, m1, m2, m3, ni, s0, s1, s2, s3])) (limbs (val (limbs (val a % val [m0, m1, m2, m3, ni, s0, s1, s2, s3])) - val (limbs (val b % val [m0, m1, m2, m3, ni, s0, s1, s2, s3])))))) := by kernel_rfl
theorem msb_ok {xs : List V} {o : List Bool} {v : AV} {bs : Mem} (h : msbS xs = some (o, (v, bs))) (ho : Paid o) : ViewCall Tryd.prog 50 xs v bs := by
  unfold msbS at h
  split at h
  · rename_i L a b
    cases h
    have hg := ho _ (List.mem_cons_self ..)
    obtain ⟨h1, h2, h3, h4⟩ := good_iff.1 hg
    intro ρ vs w ha hi
    obtain ⟨m0, m1, m2, m3, ni, s0, s1, s2, s3, rfl, w0, w1, w2, w3, wi, _⟩ := mod_arg hi rfl
    have hM : 0 < val [m0, m1, m2, m3, ni, s0, s1, s2, s3] ∧ val [m0, m1, m2, m3, ni, s0, s1, s2, s3] < W4 := ⟨by omega, (val_range w0 w1 w2 w3).2⟩
    have ev := msb_eval m0 m1 m2 m3 ni s0 s1 s2 s3 a b
    generalize [m0, m1, m2, m3, ni, s0, s1, s2, s3] = L at *
    rw [lv hM, lv hM] at ev
    exact view_of_res mixed noCount hm8_ok ev (paid_cons hg (paid_cons hg Paid.nil)) (by rw [sub_pick hM (rest_lt hM.1 _) (rest_lt hM.1 _), ← Int.sub_emod]) (by kernel_rfl) ha hi
  · cases h
def mmlS : List V → E (AV × Mem)
  | [.pt (.ints .u64 (some 9) L), .pl (.ints .u64 4 a), .pl (.ints .u64 4 b)] => some ([good L], (.ints .u64 4 (limbs ((val a * val b) % val L)), []))
  | _ => none
theorem mml_eval (m0 m1 m2 m3 ni s0 s1 s2 s3 : Int) (a b : List Int) : res (funcA Tryd.prog qAll hm8 100 35 (cArgs 0 [.pt (.ints .u64 (some 9) [m0, m1, m2, m3, ni, s0, s1, s2, s3]), .pl (.ints .u64 4 a), .pl (.ints .u64 4 b)]) (cMem [.pt (.ints .u64 (some 9) [m0, m1, m2, m3, ni, s0, s1, s2, s3]), .pl (.ints .u64 4 a), .pl (.ints .u64 4 b)])) =
    some ([good [m0, m1, m2, m3, ni, s0, s1, s2, s3], decide (val [m0, m1, m2, m3, ni, s0, s1, s2, s3] % 2 = 1), decide ((m0 * ni + 1) % 18446744073709551616 = 0), decide (val (limbs ((val a * 2 ^ 256) % val [m0, m1, m2, m3, ni, s0, s1, s2, s3])) < val [m0, m1, m2, m3, ni, s0, s1, s2, s3])], .ints .u64 4 (limbs (mont (val b) (val (limbs ((val a * 2 ^ 256) % val [m0, m1, m2, m3, ni, s0, s1, s2, s3]))) (val [m0, m1, m2, m3, ni, s0, s1, s2, s3])))) := by kernel_rfl
theorem mml_ok {xs : List V} {o : List Bool} {v : AV} {bs : Mem} (h : mmlS xs = some (o, (v, bs))) (ho : Paid o) : ViewCall Tryd.prog 35 xs v bs := by
  unfold mmlS at h
  split at h
  · rename_i L a b
    cases h
    have hg := ho _ (List.mem_cons_self ..)
    obtain ⟨h1, h2, h3, h4⟩ := good_iff.1 hg
    intro ρ vs w ha hi
    obtain ⟨m0, m1, m2, m3, ni, s0, s1, s2, s3, rfl, w0, w1, w2, w3, wi, _⟩ := mod_arg hi rfl
    have hM : 0 < val [m0, m1, m2, m3, ni, s0, s1, s2, s3] ∧ val [m0, m1, m2, m3, ni, s0, s1, s2, s3] < W4 := ⟨by omega, (val_range w0 w1 w2 w3).2⟩
    have ev := mml_eval m0 m1 m2 m3 ni s0 s1 s2 s3 a b
    rw [lv hM] at ev
    exact view_of_res mixed noCount hm8_ok ev (paid_cons hg (paid_cons (decide_eq_true h1) (paid_cons (decide_eq_true h3) (paid_cons (decide_eq_true (Int.emod_lt_of_pos _ hM.1)) Paid.nil)))) (by rw [mont_grown h1, Int.mul_comm]) (by kernel_rfl) ha hi
  · cases h
def hm9 : CallH := withV 35 mmlS (withV 50 msbS (withV 49 madS hm8))
theorem hm9_ok : HOk Tryd.prog hm9 := ((hm8_ok.withV fun _ _ _ _ h ho => mad_ok h ho).withV fun _ _ _ _ h ho => msb_ok h ho).withV fun _ _ _ _ h ho => mml_ok h ho
end Go.Proofs.YthddlnldjbijmaaDoor
