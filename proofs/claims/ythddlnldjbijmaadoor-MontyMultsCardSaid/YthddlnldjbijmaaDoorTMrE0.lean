/- The reference of layer 9: contracts of low, Mul, Add, Sub. Own work. -/
import Derived.Test.YthddlnldjbijmaaDoorTMrC
set_option linter.unusedSimpArgs false
set_option linter.unusedVariables false
set_option linter.unusedSectionVars false
namespace Go.Proofs.YthddlnldjbijmaaDoor
open Go.Ev Go.Wn Go.Mo
set_option maxRecDepth 100000
def lowS : List V → E (AV × Mem)
  | [.pl (.ints .u64 4 a), .pl (.int _ .u64 v)] => some ([decide (0 ≤ v), decide (v < 1000)], (.ints .u64 4 (limbs ((val a + v * WW) % pN)), []))
  | _ => none
theorem low_ok9 {xs : List V} {o : List Bool} {v : AV} {bs : Mem} (h : lowS xs = some (o, (v, bs))) (ho : Paid o) : ViewCall Tryd.prog 22 xs v bs := by
  unfold lowS at h
  split at h
  · rename_i a s v
    cases h
    have h1 := of_decide_eq_true (ho _ (List.mem_cons_self ..))
    have h2 := of_decide_eq_true (ho _ (List.mem_cons_of_mem _ (List.mem_cons_self ..)))
    intro ρ vs w ha hi
    have hb := ha
    cases hb with
    | cons _ _ _ _ r0 hb =>
      obtain ⟨a0, a1, a2, a3, rfl, w0, w1, w2, w3⟩ := num_arg r0
      have hr := val_range w0 w1 w2 w3
      have hl := limbs_of w0 w1 w2 w3
      obtain ⟨l1, l2⟩ := low_mod (x := val [a0, a1, a2, a3]) hr ⟨h1, h2⟩
      have hv : val (limbs (lowI (val [a0, a1, a2, a3]) v)) = lowI (val [a0, a1, a2, a3]) v := vl_ok l1
      have ev := low_eval a0 a1 a2 a3 v s
      refine view_of_resL mixed noCount (hr0_ok.deep (q := qn) mixed noCount 100 3) (fun fn c hf hb => by rw [bodyOf_eq hf hb]; exact lwΛ_ok) ev ?_ (by rw [hv, l2]) (by kernel_rfl) ha hi
      unfold lwO1
      rw [hv]
      exact paid_cons (decide_eq_true hl.symm) (paid_cons rfl (paid_cons (decide_eq_true h1) (paid_cons (decide_eq_true h2) (paid_cons (decide_eq_true hr.1) (paid_cons (decide_eq_true hr.2) (paid_cons (decide_eq_true rfl) (paid_cons rfl (paid_cons (decide_eq_true l1.1) (paid_cons (decide_eq_true l1.2) Paid.nil)))))))))
  · cases h
def hr1 : CallH := withV 22 lowS hr0
theorem hr1_ok : HOk Tryd.prog hr1 := hr0_ok.withV fun _ _ _ _ h ho => low_ok9 h ho
def rwl (r : Rw) : List Int := [r.y0, r.y1, r.y2, r.y3]
theorem rm_eval (a0 a1 a2 a3 b0 b1 b2 b3 : Int) : res (funcA Tryd.prog qn (deep Tryd.prog qn hr1 100 3) 200 44 [.ints .u64 4 [a0, a1, a2, a3], .ints .u64 4 [b0, b1, b2, b3]] []) =
    some (List.replicate 40 true ++ [decide (0 ≤ (muR a0 a1 a2 a3 b0 b1 b2 b3).c), decide ((muR a0 a1 a2 a3 b0 b1 b2 b3).c < 1000)], .ints .u64 4 (limbs ((val (rwl (muR a0 a1 a2 a3 b0 b1 b2 b3)) + (muR a0 a1 a2 a3 b0 b1 b2 b3).c * WW) % pN))) := by kernel_rfl
def rmS : List AV → E AV
  | [.ints .u64 4 a, .ints .u64 4 b] => some ([], .ints .u64 4 (limbs ((val a * val b) % pN)))
  | _ => none
theorem rm_ok {args : List AV} {o : List Bool} {v : AV} (h : rmS args = some (o, v)) : PureCall Tryd.prog 44 args v := by
  unfold rmS at h
  split at h
  · rename_i a b
    cases h
    intro ρ N vs ha
    have hb := ha
    cases hb with
    | cons _ _ _ _ r1 hb => cases hb with
      | cons _ _ _ _ r2 hb =>
        obtain ⟨a0, a1, a2, a3, rfl, wa0, wa1, wa2, wa3⟩ := num_arg r1
        obtain ⟨b0, b1, b2, b3, rfl, wb0, wb1, wb2, wb3⟩ := num_arg r2
        obtain ⟨m1, m2⟩ := mu_spec wa0 wa1 wa2 wa3 wb0 wb1 wb2 wb3
        exact pure_of_res mixed noCount (hr1_ok.deep (q := qn) mixed noCount 100 3) (by kernel_rfl) (rm_eval a0 a1 a2 a3 b0 b1 b2 b3)
          (paid_append.2 ⟨fun x hx => (List.mem_replicate.1 hx).2, paid_cons (decide_eq_true m1.1) (paid_cons (decide_eq_true m1.2) Paid.nil)⟩) (by rw [← m2]; rfl) (by kernel_rfl) ha
  · cases h
def raS : List AV → E AV
  | [.ints .u64 4 a, .ints .u64 4 b] => some ([], .ints .u64 4 (limbs ((val a + val b) % pN)))
  | _ => none
theorem ra_eval (a b : List Int) : res (funcA Tryd.prog qn (deep Tryd.prog qn hr1 100 3) 200 57 [.ints .u64 4 a, .ints .u64 4 b] []) =
    some ([decide (0 ≤ (val a + val b) / 115792089237316195423570985008687907853269984665640564039457584007913129639936), decide ((val a + val b) / 115792089237316195423570985008687907853269984665640564039457584007913129639936 < 1000)], .ints .u64 4 (limbs ((val (limbs (val a + val b)) + (val a + val b) / 115792089237316195423570985008687907853269984665640564039457584007913129639936 * WW) % pN))) := by kernel_rfl
theorem ra_ok {args : List AV} {o : List Bool} {v : AV} (h : raS args = some (o, v)) : PureCall Tryd.prog 57 args v := by
  unfold raS at h
  split at h
  · rename_i a b
    cases h
    intro ρ N vs ha
    have hb := ha
    cases hb with
    | cons _ _ _ _ r1 hb => cases hb with
      | cons _ _ _ _ r2 hb =>
        obtain ⟨a0, a1, a2, a3, ea, wa0, wa1, wa2, wa3⟩ := num_arg r1
        obtain ⟨b0, b1, b2, b3, eb, wb0, wb1, wb2, wb3⟩ := num_arg r2
        have h1 : 0 ≤ val a ∧ val a < WW := by rw [ea]; exact val_range wa0 wa1 wa2 wa3
        have h2 : 0 ≤ val b ∧ val b < WW := by rw [eb]; exact val_range wb0 wb1 wb2 wb3
        have ev := ra_eval a b
        rw [val_limbs] at ev
        generalize val a = x at *
        generalize val b = y at *
        have e : (x + y) % 115792089237316195423570985008687907853269984665640564039457584007913129639936 + (x + y) / 115792089237316195423570985008687907853269984665640564039457584007913129639936 * WW = x + y := by unfold WW at *; omega
        rw [e] at ev
        exact pure_of_res mixed noCount (hr1_ok.deep (q := qn) mixed noCount 100 3) (by kernel_rfl) ev
          (paid_cons (decide_eq_true (by unfold WW at *; omega)) (paid_cons (decide_eq_true (by unfold WW at *; omega)) Paid.nil)) rfl (by kernel_rfl) ha
  · cases h
theorem rs_n1 {x y : Int} (h1 : 0 ≤ x ∧ x < WW) (h2 : 0 ≤ y ∧ y < WW) (l1 : x < pN) (l2 : y < pN) (h : x < y) : limbs (val (limbs (x - y)) + val PN) = limbs ((x - y) % pN) := by
  rw [val_limbs, vPN]
  refine limbs_congr ?_
  unfold WW pN W4 at *
  omega
theorem rs_n2 {x y : Int} (h1 : 0 ≤ x ∧ x < WW) (h2 : 0 ≤ y ∧ y < WW) (l1 : x < pN) (l2 : y < pN) (h : ¬ x < y) : limbs (x - y) = limbs ((x - y) % pN) := by
  refine limbs_congr ?_
  unfold WW pN W4 at *
  omega
def rsS : List AV → E AV
  | [.ints .u64 4 a, .ints .u64 4 b] => some ([decide (val a < pN), decide (val b < pN)], .ints .u64 4 (limbs ((val a - val b) % pN)))
  | _ => none
theorem rs_t (a b : List Int) : res ((funcA Tryd.prog qn (deep Tryd.prog qn hr1 100 3) 200 56 [.ints .u64 4 a, .ints .u64 4 b] []).go [true]) =
    some ([decide ((if val a < val b then (1 : Int) else 0) > 0)], .ints .u64 4 (limbs (val (limbs (val a - val b)) + val PN))) := by kernel_rfl
theorem rs_f (a b : List Int) : res ((funcA Tryd.prog qn (deep Tryd.prog qn hr1 100 3) 200 56 [.ints .u64 4 a, .ints .u64 4 b] []).go [false]) =
    some ([!decide ((if val a < val b then (1 : Int) else 0) > 0)], .ints .u64 4 (limbs (val a - val b))) := by kernel_rfl
theorem rs_ok {args : List AV} {o : List Bool} {v : AV} (h : rsS args = some (o, v)) (ho : Paid o) : PureCall Tryd.prog 56 args v := by
  unfold rsS at h
  split at h
  · rename_i a b
    cases h
    have l1 := of_decide_eq_true (ho _ (List.mem_cons_self ..))
    have l2 := of_decide_eq_true (ho _ (List.mem_cons_of_mem _ (List.mem_cons_self ..)))
    intro ρ N vs ha
    have hb := ha
    cases hb with
    | cons _ _ _ _ r1 hb => cases hb with
      | cons _ _ _ _ r2 hb =>
        obtain ⟨a0, a1, a2, a3, ea, wa0, wa1, wa2, wa3⟩ := num_arg r1
        obtain ⟨b0, b1, b2, b3, eb, wb0, wb1, wb2, wb3⟩ := num_arg r2
        have h1 : 0 ≤ val a ∧ val a < WW := by rw [ea]; exact val_range wa0 wa1 wa2 wa3
        have h2 : 0 ≤ val b ∧ val b < WW := by rw [eb]; exact val_range wb0 wb1 wb2 wb3
        by_cases hlt : val a < val b
        · have ev := rs_t a b
          rw [if_pos hlt] at ev
          refine pure_of_go mixed noCount (hr1_ok.deep (q := qn) mixed noCount 100 3) [true] (by kernel_rfl) ev (paid_cons rfl Paid.nil) ?_ (by kernel_rfl) ha
          rw [rs_n1 h1 h2 l1 l2 hlt]
        · have ev := rs_f a b
          rw [if_neg hlt] at ev
          refine pure_of_go mixed noCount (hr1_ok.deep (q := qn) mixed noCount 100 3) [false] (by kernel_rfl) ev (paid_cons rfl Paid.nil) ?_ (by kernel_rfl) ha
          rw [rs_n2 h1 h2 l1 l2 hlt]
  · cases h
def hr2 : CallH := withC 44 rmS (withC 57 raS (withC 56 rsS hr1))
theorem hr2_ok : HOk Tryd.prog hr2 := ((hr1_ok.withC fun _ _ _ h ho => rs_ok h ho).withC fun _ _ _ h _ => ra_ok h).withC fun _ _ _ h _ => rm_ok h
end Go.Proofs.YthddlnldjbijmaaDoor
namespace Go.Mo
open Go.Ev Go.Wn
structure PwS where
  a0 : List Int
  e : List Int
  A : Int
  R : Int
  i : Int
def nM (x y : Int) : Int := (vl x * vl y) % pN
end Go.Mo
namespace Go.Proofs.YthddlnldjbijmaaDoor
open Go.Ev Go.Wn Go.Mo
set_option maxRecDepth 100000
def pwTs : List Nat := [2, 3, 4, 5, 6]
def pwV (s : PwS) : List AV := [.ptr false 2 0, .ptr false 3 0, .ptr false 4 0, .ptr false 5 0, .int true .i64 s.i]
def pwM (s : PwS) : Mem := [none, none, some ⟨true, .ints .u64 (some 4) (limbs s.A)⟩, some ⟨true, .ints .u64 (some 4) s.e⟩, some ⟨true, .ints .u64 (some 4) [0, 0, 0, 0]⟩, some ⟨true, .ints .u64 (some 4) (limbs s.R)⟩]
end Go.Proofs.YthddlnldjbijmaaDoor
