/- What the reference's functions of layer 2 answer: a number modulo another, sums, differences, products. Own work. -/
import Derived.Test.YthelmpjkkkhopaaDoorPEeRemI
import Derived.Test.YthelmpjkkkhopaaDoorPMyRd
import Derived.Test.YthelmpjkkkhopaaDoorPEwE
import Derived.Test.YthelmpjkkkhopaaDoorPEvOne
set_option linter.unusedSimpArgs false
set_option linter.unusedVariables false
set_option linter.unusedSectionVars false
namespace Go.Wn
open Go.Ev
theorem sm_r (x y M : Int) : (x - y % M) % M = (x - y) % M := by rw [Int.sub_emod, Int.emod_emod_of_dvd _ (Int.dvd_refl _), ← Int.sub_emod]
theorem sg9 (a b c d e f g h i : Int) : sg (fun t => [a, b, c, d, e, f, g, h, i].getD t 0) 9 = val [a, b, c, d] + W4 * (e + 18446744073709551616 * f + 340282366920938463463374607431768211456 * g + 6277101735386680763835789423207666416102355444464034512896 * h + W4 * i) := by
  simp only [sg, val, W4, Int.pow_zero, Int.reducePow, List.getD_cons_zero, List.getD_cons_succ]
  omega
end Go.Wn
namespace Go.Proofs.YthelmpjkkkhopaaDoor
open Go.Ev Go.Wn
set_option maxRecDepth 100000
def hf1 : CallH := withV 87 remZ hm11
theorem hf1_ok : HOk Tryd.prog hf1 := hm11_ok.withV fun _ _ _ _ h ho => rem_ok h ho
-- Low
def lw2S : List AV → E AV
  | [.ints .u64 4 a, .ints .u64 4 m] => some ([decide (0 < val m)], .ints .u64 4 (limbs (val a % val m)))
  | _ => none
theorem lw2_eval (a0 a1 a2 a3 : Int) (m : List Int) : res (funcA Tryd.prog qAll hf1 100 65 [.ints .u64 4 [a0, a1, a2, a3], .ints .u64 4 m] []) =
    some ([decide (0 < val m)], .ints .u64 4 (limbs (sg (fun t => [a0, a1, a2, a3, 0, 0, 0, 0, 0].getD t 0) 9 % val m))) := by kernel_rfl
theorem lw2_ok {args : List AV} {o : List Bool} {v : AV} (h : lw2S args = some (o, v)) (ho : Paid o) : PureCall Tryd.prog 65 args v := by
  unfold lw2S at h
  split at h
  · rename_i a m
    cases h
    intro ρ N vs ha
    have hb := ha
    cases hb with
    | cons _ _ _ _ r1 hb =>
      obtain ⟨a0, a1, a2, a3, rfl, _⟩ := num_arg r1
      have e : sg (fun t => [a0, a1, a2, a3, 0, 0, 0, 0, 0].getD t 0) 9 = val [a0, a1, a2, a3] := by rw [sg9]; omega
      exact pure_of_res mixed noCount hf1_ok (by kernel_rfl) (lw2_eval a0 a1 a2 a3 m) ho (by rw [e]) (by kernel_rfl) ha
  · cases h
-- less
def rflS : List AV → E AV
  | [.ints .u64 4 a, .ints .u64 4 b] => some ([], .ints .u64 4 (limbs (val a - val b)))
  | _ => none
theorem rfl_eval (a0 a1 a2 a3 b0 b1 b2 b3 : Int) : res (funcA Tryd.prog qAll hf1 100 66 [.ints .u64 4 [a0, a1, a2, a3], .ints .u64 4 [b0, b1, b2, b3]] []) =
    some ([decide ((0 : Int) ≤ 1), decide (bw a0 b0 0 ≤ 1), decide (bw a1 b1 (bw a0 b0 0) ≤ 1), decide (bw a2 b2 (bw a1 b1 (bw a0 b0 0)) ≤ 1)], .ints .u64 4 [df a0 b0 0, df a1 b1 (bw a0 b0 0), df a2 b2 (bw a1 b1 (bw a0 b0 0)), df a3 b3 (bw a2 b2 (bw a1 b1 (bw a0 b0 0)))]) := by kernel_rfl
theorem rfl_ok {args : List AV} {o : List Bool} {v : AV} (h : rflS args = some (o, v)) : PureCall Tryd.prog 66 args v := by
  unfold rflS at h
  split at h
  · rename_i a b
    cases h
    intro ρ N vs ha
    have hb := ha
    cases hb with
    | cons _ _ _ _ r1 hb => cases hb with
      | cons _ _ _ _ r2 hb =>
        obtain ⟨a0, a1, a2, a3, rfl, wa0, wa1, wa2, wa3⟩ := num_arg r1
        obtain ⟨b0, b1, b2, b3, rfl, wb0, wb1, wb2, wb3⟩ := num_arg r2
        obtain ⟨k1, k2, k3, k4, k5⟩ := sub_chain wa0 wa1 wa2 wa3 wb0 wb1 wb2 wb3
        exact pure_of_res mixed noCount hf1_ok (by kernel_rfl) (rfl_eval a0 a1 a2 a3 b0 b1 b2 b3) (paid_cons (by kernel_rfl) (paid_cons (decide_eq_true k3) (paid_cons (decide_eq_true k4) (paid_cons (decide_eq_true k5) Paid.nil)))) (by rw [k1]) (by kernel_rfl) ha
  · cases h
def hf2 : CallH := withC 66 rflS (withC 65 lw2S hf1)
theorem hf2_ok : HOk Tryd.prog hf2 := (hf1_ok.withC fun _ _ _ h ho => lw2_ok h ho).withC fun _ _ _ h _ => rfl_ok h
-- Neg
def rfnS : List AV → E AV
  | [.ints .u64 4 a, .ints .u64 4 m] => some ([decide (0 < val m ∧ val m < W4)], .ints .u64 4 (limbs ((0 - val a) % val m)))
  | _ => none
def negV (a m : List Int) : List Int := match decide (limbs (val a % val m) = [0, 0, 0, 0]) with | true => limbs (val a % val m) | false => limbs (val m - val (limbs (val a % val m)))
theorem rfn_eval (a m : List Int) : (funcA Tryd.prog qAll hf2 100 38 [.ints .u64 4 a, .ints .u64 4 m] []).mix = some ([decide (0 < val m)], .ints .u64 4 (negV a m)) := by kernel_rfl
theorem rfn_ok {args : List AV} {o : List Bool} {v : AV} (h : rfnS args = some (o, v)) (ho : Paid o) : PureCall Tryd.prog 38 args v := by
  unfold rfnS at h
  split at h
  · rename_i a m
    cases h
    have hM := ho _ (List.mem_cons_self ..)
    rw [decide_eq_true_eq] at hM
    intro ρ N vs ha
    refine pure_of_mix mixed noCount hf2_ok (by kernel_rfl) (rfn_eval a m) (paid_cons (decide_eq_true hM.1) Paid.nil) ?_ ha
    congr 1
    unfold negV
    have h0 := Int.emod_nonneg (val a) (show val m ≠ 0 by omega)
    have h1 := Int.emod_lt_of_pos (val a) hM.1
    have hv := lv (x := val a) hM
    have e : (0 - val a) % val m = (0 - val a % val m) % val m := by rw [sm_r]
    rw [e]
    cases hd : decide (limbs (val a % val m) = [0, 0, 0, 0]) with
    | true =>
      rw [decide_eq_true_eq] at hd
      rw [hd] at hv
      have hz : val a % val m = 0 := by rw [← hv]; rfl
      simp only
      rw [hz]
      rfl
    | false =>
      rw [decide_eq_false_iff_not] at hd
      have hz : ¬ val a % val m = 0 := fun hz => hd (by rw [hz]; rfl)
      simp only
      rw [hv]
      congr 1
      have e5 : (val m - val a % val m) % val m = val m - val a % val m := Int.emod_eq_of_lt (by omega) (by omega)
      rw [show 0 - val a % val m = (val m - val a % val m) - val m by omega, Int.sub_emod_right, e5]
  · cases h
def hf3 : CallH := withC 38 rfnS hf2
theorem hf3_ok : HOk Tryd.prog hf3 := hf2_ok.withC fun _ _ _ h ho => rfn_ok h ho
end Go.Proofs.YthelmpjkkkhopaaDoor
namespace Go.Mo
open Go.Ev Go.Wn
end Go.Mo
namespace Go.Proofs.YthelmpjkkkhopaaDoor
open Go.Ev Go.Wn Go.Mo
set_option maxRecDepth 100000
def tuS : List V → E (AV × Mem)
  | [.buf false .u8 32 l] => some ([], (.slice false 0 0 32 none 1, [some ⟨true, .ints .u8 (some 32) l.reverse⟩]))
  | _ => none
theorem tu_eval (b0 b1 b2 b3 b4 b5 b6 b7 b8 b9 b10 b11 b12 b13 b14 b15 b16 b17 b18 b19 b20 b21 b22 b23 b24 b25 b26 b27 b28 b29 b30 b31 : Int) : seeV 64 ((funcL Tryd.prog qn (fun _ _ _ => none) (fun _ _ => none) 200 14 (cArgs 0 [.buf false .u8 32 [b0, b1, b2, b3, b4, b5, b6, b7, b8, b9, b10, b11, b12, b13, b14, b15, b16, b17, b18, b19, b20, b21, b22, b23, b24, b25, b26, b27, b28, b29, b30, b31]]) (cMem [.buf false .u8 32 [b0, b1, b2, b3, b4, b5, b6, b7, b8, b9, b10, b11, b12, b13, b14, b15, b16, b17, b18, b19, b20, b21, b22, b23, b24, b25, b26, b27, b28, b29, b30, b31]])).go []) = some ([], .slice false 64 0 32 none 1, some (some ⟨true, .ints .u8 (some 32) [b31, b30, b29, b28, b27, b26, b25, b24, b23, b22, b21, b20, b19, b18, b17, b16, b15, b14, b13, b12, b11, b10, b9, b8, b7, b6, b5, b4, b3, b2, b1, b0]⟩)) := by kernel_rfl
theorem tu_ok {xs : List V} {o : List Bool} {v : AV} {bs : Mem} (h : tuS xs = some (o, (v, bs))) : ViewCall Tryd.prog 14 xs v bs := by
  unfold tuS at h
  split at h
  · rename_i l
    cases h
    intro ρ vs w ha hi
    obtain ⟨hl, _⟩ := buf_arg hi 0 rfl
    obtain ⟨b0, b1, b2, b3, b4, b5, b6, b7, b8, b9, b10, b11, b12, b13, b14, b15, b16, b17, b18, b19, b20, b21, b22, b23, b24, b25, b26, b27, b28, b29, b30, b31, rfl⟩ := thirty hl
    exact viewN_one mixed noCount HOk.none (lo1 _) [] 64 (tu_eval b0 b1 b2 b3 b4 b5 b6 b7 b8 b9 b10 b11 b12 b13 b14 b15 b16 b17 b18 b19 b20 b21 b22 b23 b24 b25 b26 b27 b28 b29 b30 b31) Paid.nil (by show 1 ≤ 64; decide) rfl rfl ha hi
  · cases h
def hr9 : CallH := withV 14 tuS (withV 13 rbigS hf3)
theorem hr9_ok : HOk Tryd.prog hr9 := (hf3_ok.withV fun _ _ _ _ h _ => rbig_ok h).withV fun _ _ _ _ h _ => tu_ok h
end Go.Proofs.YthelmpjkkkhopaaDoor
namespace Go.Proofs.YthelmpjkkkhopaaDoor
open Go.Ev Go.Wn Go.Mo
set_option maxRecDepth 100000
theorem pn_eval (a0 a1 a2 a3 b0 b1 b2 b3 : Int) : res (funcA Tryd.prog qAll h0 100 86 [.ints .u64 4 [a0, a1, a2, a3], .ints .u64 4 [b0, b1, b2, b3]] []) =
    some ([decide ((0 : Int) ≤ 1), decide (cy a0 b0 0 ≤ 1), decide (cy a1 b1 (cy a0 b0 0) ≤ 1), decide (cy a2 b2 (cy a1 b1 (cy a0 b0 0)) ≤ 1)],
      .tuple [.ints .u64 4 [sm a0 b0 0, sm a1 b1 (cy a0 b0 0), sm a2 b2 (cy a1 b1 (cy a0 b0 0)), sm a3 b3 (cy a2 b2 (cy a1 b1 (cy a0 b0 0)))], .int true .u64 (cy a3 b3 (cy a2 b2 (cy a1 b1 (cy a0 b0 0))))]) := by kernel_rfl
theorem pn_ok {args : List AV} {o : List Bool} {v : AV} (h : addS args = some (o, v)) : PureCall Tryd.prog 86 args v := by
  unfold addS at h
  split at h
  · rename_i a b
    cases h
    intro ρ N vs ha
    have hb := ha
    cases hb with
    | cons _ _ _ _ r1 hb => cases hb with
      | cons _ _ _ _ r2 hb =>
        obtain ⟨a0, a1, a2, a3, rfl, wa0, wa1, wa2, wa3⟩ := num_arg r1
        obtain ⟨b0, b1, b2, b3, rfl, wb0, wb1, wb2, wb3⟩ := num_arg r2
        obtain ⟨k1, k2, k3, k4, k5⟩ := add_chain wa0 wa1 wa2 wa3 wb0 wb1 wb2 wb3
        exact pure_of_res mixed noCount h0_ok (by kernel_rfl) (pn_eval a0 a1 a2 a3 b0 b1 b2 b3)
          (paid_cons (by kernel_rfl) (paid_cons (decide_eq_true k3) (paid_cons (decide_eq_true k4) (paid_cons (decide_eq_true k5) Paid.nil)))) (by rw [k1, k2]) (by kernel_rfl) ha
  · cases h

theorem mi_eval (a0 a1 a2 a3 b0 b1 b2 b3 : Int) : res (funcA Tryd.prog qAll h0 100 85 [.ints .u64 4 [a0, a1, a2, a3], .ints .u64 4 [b0, b1, b2, b3]] []) =
    some ([decide ((0 : Int) ≤ 1), decide (bw a0 b0 0 ≤ 1), decide (bw a1 b1 (bw a0 b0 0) ≤ 1), decide (bw a2 b2 (bw a1 b1 (bw a0 b0 0)) ≤ 1)],
      .tuple [.ints .u64 4 [df a0 b0 0, df a1 b1 (bw a0 b0 0), df a2 b2 (bw a1 b1 (bw a0 b0 0)), df a3 b3 (bw a2 b2 (bw a1 b1 (bw a0 b0 0)))], .int true .u64 (bw a3 b3 (bw a2 b2 (bw a1 b1 (bw a0 b0 0))))]) := by kernel_rfl
theorem mi_ok {args : List AV} {o : List Bool} {v : AV} (h : subS args = some (o, v)) : PureCall Tryd.prog 85 args v := by
  unfold subS at h
  split at h
  · rename_i a b
    cases h
    intro ρ N vs ha
    have hb := ha
    cases hb with
    | cons _ _ _ _ r1 hb => cases hb with
      | cons _ _ _ _ r2 hb =>
        obtain ⟨a0, a1, a2, a3, rfl, wa0, wa1, wa2, wa3⟩ := num_arg r1
        obtain ⟨b0, b1, b2, b3, rfl, wb0, wb1, wb2, wb3⟩ := num_arg r2
        obtain ⟨k1, k2, k3, k4, k5⟩ := sub_chain wa0 wa1 wa2 wa3 wb0 wb1 wb2 wb3
        exact pure_of_res mixed noCount h0_ok (by kernel_rfl) (mi_eval a0 a1 a2 a3 b0 b1 b2 b3)
          (paid_cons (by kernel_rfl) (paid_cons (decide_eq_true k3) (paid_cons (decide_eq_true k4) (paid_cons (decide_eq_true k5) Paid.nil)))) (by rw [k1, k2]) (by kernel_rfl) ha
  · cases h

def hr0 : CallH := withC 85 subS (withC 86 addS hr9)
theorem hr0_ok : HOk Tryd.prog hr0 := (hr9_ok.withC fun _ _ _ h _ => pn_ok h).withC fun _ _ _ h _ => mi_ok h
end Go.Proofs.YthelmpjkkkhopaaDoor
namespace Go.Mo
open Go.Ev Go.Wn
def PN : List Int := [18446744073709551597, 18446744073709551615, 18446744073709551615, 9223372036854775807]
def pN : Int := 57896044618658097711785492504343953926634992332820282019728792003956564819949
theorem vPN : val PN = pN := by decide +kernel
structure LwS where
  x : Int
  v : Int
def WW : Int := 115792089237316195423570985008687907853269984665640564039457584007913129639936
/-- So many times 2^256 are as many times 38. -/
def lowI (x v : Int) : Int := if x + 38 * v < WW then x + 38 * v else x + 38 * v - WW + 38
def q1 (x v : Int) : Int := (limbs x).getD 0 0 + IntKind.u64.wrap (38 * v) + 0
def q2 (x v : Int) : Int := (limbs x).getD 1 0 + 0 + q1 x v / 18446744073709551616
def q3 (x v : Int) : Int := (limbs x).getD 2 0 + 0 + q2 x v / 18446744073709551616
def q4 (x v : Int) : Int := (limbs x).getD 3 0 + 0 + q3 x v / 18446744073709551616
def lwL (x v : Int) : List Int := [q1 x v % 18446744073709551616, q2 x v % 18446744073709551616, q3 x v % 18446744073709551616, q4 x v % 18446744073709551616]
def lwV (x v : Int) : Int := q4 x v / 18446744073709551616
theorem lw_eq {x v : Int} (hx : 0 ≤ x ∧ x < WW) (hv : 0 ≤ v ∧ v < 1000) : lwL x v = limbs ((x + 38 * v) % WW) ∧ lwV x v = (x + 38 * v) / WW ∧ q1 x v / 18446744073709551616 ≤ 1 ∧ q2 x v / 18446744073709551616 ≤ 1 ∧ q3 x v / 18446744073709551616 ≤ 1 := by
  have hw : IntKind.u64.wrap (38 * v) = 38 * v := uw64 (by omega)
  have hW := limbs_W x
  have hv2 : val (limbs x) = x := by rw [val_limbs]; exact Int.emod_eq_of_lt hx.1 hx.2
  unfold lwL lwV q4 q3 q2 q1
  rw [hw]
  obtain ⟨a0, a1, a2, a3, e⟩ : ∃ a0 a1 a2 a3, limbs x = [a0, a1, a2, a3] := ⟨_, _, _, _, rfl⟩
  rw [e] at hW hv2 ⊢
  have z : W 0 := by unfold W; omega
  obtain ⟨k1, k2, k3, k4, k5⟩ := add_chain (hW a0 (by simp)) (hW a1 (by simp)) (hW a2 (by simp)) (hW a3 (by simp)) (show W (38 * v) by unfold W; omega) z z z
  have hb : val [38 * v, 0, 0, 0] = 38 * v := by unfold val; simp only [List.getD_cons_zero, List.getD_cons_succ]; omega
  rw [hb, hv2] at k1 k2
  refine ⟨?_, k2, k3, k4, k5⟩
  have e3 : limbs ((x + 38 * v) % WW) = limbs (x + 38 * v) := limbs_congr (Int.emod_emod_of_dvd _ (Int.dvd_refl _))
  rw [e3, ← k1]
  rfl
end Go.Mo
namespace Go.Proofs.YthelmpjkkkhopaaDoor
open Go.Ev Go.Wn Go.Mo
set_option maxRecDepth 100000
def lwTs : List Nat := [1, 2, 4]
def lwA (s : LwS) : List AV := [.int true .u64 s.v, .ptr false 2 0, .ptr false 3 0]
def lwM (s : LwS) : Mem := [none, none, some ⟨true, .ints .u64 (some 4) (limbs s.x)⟩, some ⟨true, .ints .u64 (some 4) [0, 0, 0, 0]⟩]
def lwO (x v : Int) : List Bool := [decide (v > 0), true, decide (q1 x v / 18446744073709551616 ≤ 1), decide (q2 x v / 18446744073709551616 ≤ 1), decide (q3 x v / 18446744073709551616 ≤ 1)]
theorem lw_t (w : Nat → AV) (s : LwS) : seesL lwTs ((codeL Tryd.prog qn (deep Tryd.prog qn hr0 100 3) (fun _ _ => none) 100 (lp (blk 0 (bodyOf Tryd.prog 84))) ⟨tmOf (ups w (zipU lwTs (lwA s))) 44, lwM s⟩).go [true]) =
    some (lwO s.x s.v, 0, [.int true .u64 (lwV s.x s.v), .ptr false 2 0, .ptr false 3 0], 44, [none, none, some ⟨true, .ints .u64 (some 4) (lwL s.x s.v)⟩, some ⟨true, .ints .u64 (some 4) [0, 0, 0, 0]⟩]) := by
  obtain ⟨x, v⟩ := s
  kernel_rfl
theorem lw_f (w : Nat → AV) (s : LwS) : seesL lwTs ((codeL Tryd.prog qn (deep Tryd.prog qn hr0 100 3) (fun _ _ => none) 100 (lp (blk 0 (bodyOf Tryd.prog 84))) ⟨tmOf (ups w (zipU lwTs (lwA s))) 44, lwM s⟩).go [false]) =
    some ([!decide (s.v > 0)], 2, lwA s, 44, lwM s) := by
  obtain ⟨x, v⟩ := s
  kernel_rfl
def lwTs2 : List Nat := [2, 4]
def lwA2 : List AV := [.ptr false 2 0, .ptr false 3 0]
theorem lw2_t (w : Nat → AV) (s : LwS) : seesL lwTs2 ((codeL Tryd.prog qn (deep Tryd.prog qn hr0 100 3) (fun _ _ => none) 100 (lp (blk 4 (bodyOf Tryd.prog 84))) ⟨tmOf (ups w (zipU lwTs2 lwA2)) 44, lwM s⟩).go [true]) =
    some ([!decide (vl s.x < val PN)], 0, lwA2, 44, lwM { s with x := vl s.x - val PN }) := by
  obtain ⟨x, v⟩ := s
  kernel_rfl
theorem lw2_f (w : Nat → AV) (s : LwS) : seesL lwTs2 ((codeL Tryd.prog qn (deep Tryd.prog qn hr0 100 3) (fun _ _ => none) 100 (lp (blk 4 (bodyOf Tryd.prog 84))) ⟨tmOf (ups w (zipU lwTs2 lwA2)) 44, lwM s⟩).go [false]) =
    some ([!(!decide (vl s.x < val PN))], 6, lwA2, 44, lwM s) := by
  obtain ⟨x, v⟩ := s
  kernel_rfl
def lwP : List AV → Mem → Option (LwS × List Bool)
  | [.int _ .u64 v, .ptr false 2 0, .ptr false 3 0], [none, none, some ⟨true, .ints .u64 (some 4) a⟩, some ⟨true, .ints .u64 (some 4) z⟩] => some (⟨val a, v⟩, [decide (a = limbs (val a)), decide (z = [0, 0, 0, 0]), decide (0 ≤ v), decide (v < 1000), decide (0 ≤ val a), decide (val a < WW)])
  | _, _ => none
def lwP2 : List AV → Mem → Option (LwS × List Bool)
  | [.ptr false 2 0, .ptr false 3 0], [none, none, some ⟨true, .ints .u64 (some 4) a⟩, some ⟨true, .ints .u64 (some 4) z⟩] => some (⟨val a, 0⟩, [decide (a = limbs (val a)), decide (z = [0, 0, 0, 0]), decide (0 ≤ val a), decide (val a < WW)])
  | _, _ => none
def lwF (p : LwS × List Bool) : List (Nat × AV) × Mem := ([(2, .ptr false 2 0), (4, .ptr false 3 0)], lwM ⟨lowI p.1.x p.1.v, 0⟩)
def lwF2 (p : LwS × List Bool) : List (Nat × AV) × Mem := ([(2, .ptr false 2 0), (4, .ptr false 3 0)], lwM ⟨p.1.x % pN, 0⟩)
def lwN (s : LwS) : LwS := ⟨(s.x + 38 * s.v) % WW, (s.x + 38 * s.v) / WW⟩
def lwJ (p s : LwS × List Bool) : Prop := 0 ≤ p.1.x ∧ p.1.x < WW ∧ 0 ≤ p.1.v ∧ p.1.v < 1000 ∧ (s.1 = p.1 ∨ s.1 = lwN p.1 ∨ s.1 = lwN (lwN p.1))
def lwJ2 (p s : LwS × List Bool) : Prop := 0 ≤ p.1.x ∧ p.1.x < WW ∧ 0 ≤ s.1.x ∧ s.1.x < WW ∧ s.1.x % pN = p.1.x % pN
def lwMu (s : LwS × List Bool) : Nat := if s.1.v = 0 then 0 else if s.1.x < 38000 then 1 else 2
theorem lw_lok {Λ : LoopH} (hΛ : LOk Tryd.prog (bodyOf Tryd.prog 84) Λ) : LOk Tryd.prog (bodyOf Tryd.prog 84) (famH 0 44 lwTs lwP (fun p => p.2) lwF Λ) := by
  refine fam_ok (q := qn) (n := 100) (fun p : LwS × List Bool => lwA p.1) (fun p => lwM p.1) lwJ lwMu mixed (hr0_ok.deep (q := qn) mixed noCount 100 3) hΛ LOk.none (by kernel_rfl) (by kernel_rfl) (fun s => rfl) (fun s => rfl) (fun avs mm p h ho => ?_) (fun p s hJ w => ?_)
  · unfold lwP at h
    split at h
    · rename_i sb v a z
      cases h
      have p0 := of_decide_eq_true (ho _ (List.mem_cons_self ..))
      have p1 := of_decide_eq_true (ho _ (List.mem_cons_of_mem _ (List.mem_cons_self ..)))
      have p2 := of_decide_eq_true (ho _ (List.mem_cons_of_mem _ (List.mem_cons_of_mem _ (List.mem_cons_self ..))))
      have p3 := of_decide_eq_true (ho _ (List.mem_cons_of_mem _ (List.mem_cons_of_mem _ (List.mem_cons_of_mem _ (List.mem_cons_self ..)))))
      have p4 := of_decide_eq_true (ho _ (List.mem_cons_of_mem _ (List.mem_cons_of_mem _ (List.mem_cons_of_mem _ (List.mem_cons_of_mem _ (List.mem_cons_self ..))))))
      have p5 := of_decide_eq_true (ho _ (List.mem_cons_of_mem _ (List.mem_cons_of_mem _ (List.mem_cons_of_mem _ (List.mem_cons_of_mem _ (List.mem_cons_of_mem _ (List.mem_cons_self ..)))))))
      refine ⟨(⟨val a, v⟩, []), ?_, ?_, p4, p5, p2, p3, .inl rfl⟩
      · cases sb
        · exact .cons (.int _ _ _) (.cons (.refl _) (.cons (.refl _) .nil))
        · exact .cons (.refl _) (.cons (.refl _) (.cons (.refl _) .nil))
      · rw [p1]
        unfold lwM
        simp only
        rw [← p0]
    · cases h
  · obtain ⟨h1, h2, h3, h4, hs⟩ := hJ
    obtain ⟨⟨x, v⟩, pb⟩ := p
    obtain ⟨⟨y, u⟩, sb⟩ := s
    simp only at h1 h2 h3 h4 hs
    -- the state's range, and what comes of it
    have hr : (0 ≤ y ∧ y < WW) ∧ (0 ≤ u ∧ u < 1000) ∧ (u = 0 → y = lowI x v) ∧ (u ≠ 0 → lwJ (⟨x, v⟩, pb) (lwN ⟨y, u⟩, sb) ∧ lwMu (lwN ⟨y, u⟩, sb) < lwMu (⟨y, u⟩, sb)) := by
      rcases hs with hs | hs | hs
      · cases hs
        refine ⟨⟨h1, h2⟩, ⟨h3, h4⟩, fun h0 => ?_, fun h0 => ⟨⟨h1, h2, h3, h4, .inr (.inl rfl)⟩, ?_⟩⟩
        · unfold lowI WW at *; rw [if_pos (by omega)]; omega
        · unfold lwMu lwN WW at *
          simp only
          rw [if_neg h0]
          split
          · split <;> omega
          · split <;> split <;> omega
      · unfold lwN at hs
        cases hs
        simp only
        refine ⟨by unfold WW at *; omega, by unfold WW at *; omega, fun h0 => ?_, fun h0 => ⟨⟨h1, h2, h3, h4, .inr (.inr rfl)⟩, ?_⟩⟩
        · unfold lowI WW at *; split <;> omega
        · unfold lwMu lwN WW at *
          simp only
          rw [if_neg h0]
          split
          · split <;> omega
          · split <;> split <;> omega
      · unfold lwN at hs
        cases hs
        simp only
        have e0 : ((x + 38 * v) % WW + 38 * ((x + 38 * v) / WW)) / WW = 0 := by unfold WW at *; omega
        refine ⟨by unfold WW at *; omega, by unfold WW at *; omega, fun h0 => ?_, fun h0 => absurd e0 h0⟩
        · unfold lowI WW at *; split <;> omega
    obtain ⟨r1, r2, r3, r4⟩ := hr
    by_cases h0 : u = 0
    · subst h0
      refine Round.out (lw_f w _) rfl (by show lwM ⟨y, 0⟩ = lwM ⟨lowI x v, 0⟩; rw [← r3 rfl]) (paid_cons rfl Paid.nil) fun q hq => ?_
      simp only [lwF, List.mem_cons, List.not_mem_nil, or_false] at hq
      rcases hq with rfl | rfl
      · exact ⟨_, List.mem_cons_of_mem _ (List.mem_cons_self ..), .refl _⟩
      · exact ⟨_, List.mem_cons_of_mem _ (List.mem_cons_of_mem _ (List.mem_cons_self ..)), .refl _⟩
    · obtain ⟨e1, e2, e3, e4, e5⟩ := lw_eq r1 r2
      obtain ⟨j1, j2⟩ := r4 h0
      refine Round.on (lw_t w ⟨y, u⟩) (lwN ⟨y, u⟩, sb) [] ?_ (paid_cons (decide_eq_true (by simp only; omega)) (paid_cons rfl (paid_cons (decide_eq_true e3) (paid_cons (decide_eq_true e4) (paid_cons (decide_eq_true e5) Paid.nil))))) ?_ j1 rfl j2
      · simp only [List.append_nil]
        rw [e1]
        rfl
      · rw [e2]
        exact LeL.refl _
theorem lw2_lok {Λ : LoopH} (hΛ : LOk Tryd.prog (bodyOf Tryd.prog 84) Λ) : LOk Tryd.prog (bodyOf Tryd.prog 84) (famH 4 44 lwTs2 lwP2 (fun p => p.2) lwF2 Λ) := by
  refine fam_ok (q := qn) (n := 100) (fun p : LwS × List Bool => lwA2) (fun p => lwM p.1) lwJ2 (fun s => s.1.x.toNat) mixed (hr0_ok.deep (q := qn) mixed noCount 100 3) hΛ LOk.none (by kernel_rfl) (by kernel_rfl) (fun s => rfl) (fun s => rfl) (fun avs mm p h ho => ?_) (fun p s hJ w => ?_)
  · unfold lwP2 at h
    split at h
    · rename_i a z
      cases h
      have p0 := of_decide_eq_true (ho _ (List.mem_cons_self ..))
      have p1 := of_decide_eq_true (ho _ (List.mem_cons_of_mem _ (List.mem_cons_self ..)))
      have p2 := of_decide_eq_true (ho _ (List.mem_cons_of_mem _ (List.mem_cons_of_mem _ (List.mem_cons_self ..))))
      have p3 := of_decide_eq_true (ho _ (List.mem_cons_of_mem _ (List.mem_cons_of_mem _ (List.mem_cons_of_mem _ (List.mem_cons_self ..)))))
      refine ⟨(⟨val a, 0⟩, []), .cons (.refl _) (.cons (.refl _) .nil), ?_, p2, p3, p2, p3, rfl⟩
      rw [p1]
      unfold lwM
      simp only
      rw [← p0]
    · cases h
  · obtain ⟨h1, h2, h3, h4, hs⟩ := hJ
    obtain ⟨⟨x, v⟩, pb⟩ := p
    obtain ⟨⟨y, u⟩, sb⟩ := s
    simp only at h1 h2 h3 h4 hs
    have hv : vl y = y := vl_ok ⟨h3, h4⟩
    have hP : pN = 57896044618658097711785492504343953926634992332820282019728792003956564819949 := rfl
    by_cases hlt : y < pN
    · refine Round.out (lw2_f w _) rfl ?_ (paid_cons (by simp only; rw [hv, vPN, decide_eq_true hlt]; rfl) Paid.nil) fun q hq => ?_
      · show lwM ⟨y, u⟩ = lwM ⟨x % pN, 0⟩
        rw [← hs, Int.emod_eq_of_lt h3 hlt]
        rfl
      · simp only [lwF2, List.mem_cons, List.not_mem_nil, or_false] at hq
        rcases hq with rfl | rfl
        · exact ⟨_, List.mem_cons_self .., .refl _⟩
        · exact ⟨_, List.mem_cons_of_mem _ (List.mem_cons_self ..), .refl _⟩
    · refine Round.on (lw2_t w ⟨y, u⟩) (⟨y - pN, u⟩, sb) [] ?_ (paid_cons (by simp only; rw [hv, vPN, decide_eq_false hlt]; rfl) Paid.nil) (LeL.refl _) ⟨h1, h2, by simp only; omega, by simp only; omega, ?_⟩ rfl (by simp only; omega)
      · simp only [List.append_nil]
        rw [hv, vPN]
      · simp only
        rw [← hs, Int.sub_emod, Int.emod_self, Int.sub_zero, Int.emod_emod_of_dvd _ (Int.dvd_refl _)]
def lwΛ : LoopH := famH 4 44 lwTs2 lwP2 (fun p => p.2) lwF2 (famH 0 44 lwTs lwP (fun p => p.2) lwF (fun _ _ => none))
theorem lwΛ_ok : LOk Tryd.prog (bodyOf Tryd.prog 84) lwΛ := lw2_lok (lw_lok LOk.none)
def lwO1 (a : List Int) (v : Int) : List Bool := [decide (a = limbs (val a)), true, decide (0 ≤ v), decide (v < 1000), decide (0 ≤ val a), decide (val a < WW), decide (limbs (lowI (val a) v) = limbs (val (limbs (lowI (val a) v)))), true, decide (0 ≤ val (limbs (lowI (val a) v))), decide (val (limbs (lowI (val a) v)) < WW)]
theorem low_eval (a0 a1 a2 a3 v : Int) (s : Bool) : res (funcL Tryd.prog qn (deep Tryd.prog qn hr0 100 3) lwΛ 100 84 (cArgs 0 [.pl (.ints .u64 4 [a0, a1, a2, a3]), .pl (.int s .u64 v)]) (cMem [.pl (.ints .u64 4 [a0, a1, a2, a3]), .pl (.int s .u64 v)])) =
    some (lwO1 [a0, a1, a2, a3] v, .ints .u64 4 (limbs (val (limbs (lowI (val [a0, a1, a2, a3]) v)) % pN))) := by kernel_rfl
end Go.Proofs.YthelmpjkkkhopaaDoor
