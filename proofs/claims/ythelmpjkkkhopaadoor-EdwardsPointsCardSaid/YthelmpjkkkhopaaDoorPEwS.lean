/- The reference of layer 10: what Read answers. Own work. -/
import Derived.Test.YthelmpjkkkhopaaDoorPEwR
import Derived.Test.YthelmpjkkkhopaaDoorPEvNone
set_option linter.unusedSimpArgs false
set_option linter.unusedVariables false
set_option linter.unusedSectionVars false
namespace Go.Mo
open Go.Ev Go.Wn
def ubL (u : List Int) : List Int := u.set 31 ((u.getD 31 0).tmod 128)
end Go.Mo
namespace Go.Proofs.YthelmpjkkkhopaaDoor
open Go.Ev Go.Wn Go.Mo
set_option maxRecDepth 100000
theorem ub_val {u : List Int} (h : okb u) : val (bigL (ubL u).reverse) = upI (leI u) := by
  obtain ⟨hl, hr⟩ := h
  have hu : (ubL u).length = 32 := by unfold ubL; rw [List.length_set]; exact hl
  rw [big_rev hu]
  obtain ⟨b0, b1, b2, b3, b4, b5, b6, b7, b8, b9, b10, b11, b12, b13, b14, b15, b16, b17, b18, b19, b20, b21, b22, b23, b24, b25, b26, b27, b28, b29, b30, b31, rfl⟩ := thirty hl
  have q31 := inR_B8 (hr b31 (by simp))
  have q24 := inR_B8 (hr b24 (by simp)); have q25 := inR_B8 (hr b25 (by simp)); have q26 := inR_B8 (hr b26 (by simp)); have q27 := inR_B8 (hr b27 (by simp)); have q28 := inR_B8 (hr b28 (by simp)); have q29 := inR_B8 (hr b29 (by simp)); have q30 := inR_B8 (hr b30 (by simp))
  have w0 := W8_W (inR_B8 (hr b7 (by simp))) (inR_B8 (hr b6 (by simp))) (inR_B8 (hr b5 (by simp))) (inR_B8 (hr b4 (by simp))) (inR_B8 (hr b3 (by simp))) (inR_B8 (hr b2 (by simp))) (inR_B8 (hr b1 (by simp))) (inR_B8 (hr b0 (by simp)))
  have w1 := W8_W (inR_B8 (hr b15 (by simp))) (inR_B8 (hr b14 (by simp))) (inR_B8 (hr b13 (by simp))) (inR_B8 (hr b12 (by simp))) (inR_B8 (hr b11 (by simp))) (inR_B8 (hr b10 (by simp))) (inR_B8 (hr b9 (by simp))) (inR_B8 (hr b8 (by simp)))
  have w2 := W8_W (inR_B8 (hr b23 (by simp))) (inR_B8 (hr b22 (by simp))) (inR_B8 (hr b21 (by simp))) (inR_B8 (hr b20 (by simp))) (inR_B8 (hr b19 (by simp))) (inR_B8 (hr b18 (by simp))) (inR_B8 (hr b17 (by simp))) (inR_B8 (hr b16 (by simp)))
  clear hl hr hu
  unfold B8 at q31 q24 q25 q26 q27 q28 q29 q30
  have e : ubL [b0, b1, b2, b3, b4, b5, b6, b7, b8, b9, b10, b11, b12, b13, b14, b15, b16, b17, b18, b19, b20, b21, b22, b23, b24, b25, b26, b27, b28, b29, b30, b31] = [b0, b1, b2, b3, b4, b5, b6, b7, b8, b9, b10, b11, b12, b13, b14, b15, b16, b17, b18, b19, b20, b21, b22, b23, b24, b25, b26, b27, b28, b29, b30, b31 % 128] := by
    rw [← Int.tmod_eq_emod_of_nonneg q31.1]
    rfl
  rw [e]
  unfold upI leI litL
  simp only
  generalize W8 b7 b6 b5 b4 b3 b2 b1 b0 = x0 at *
  generalize W8 b15 b14 b13 b12 b11 b10 b9 b8 = x1 at *
  generalize W8 b23 b22 b21 b20 b19 b18 b17 b16 = x2 at *
  unfold W8 val W at *
  simp only [List.getD_cons_zero, List.getD_cons_succ]
  omega
theorem top_bit {u : List Int} (h : okb u) : decide (u.getD 31 0 ≥ 128) = decide (leI u / T255 = 1) := by
  obtain ⟨hl, hr⟩ := h
  obtain ⟨b0, b1, b2, b3, b4, b5, b6, b7, b8, b9, b10, b11, b12, b13, b14, b15, b16, b17, b18, b19, b20, b21, b22, b23, b24, b25, b26, b27, b28, b29, b30, b31, rfl⟩ := thirty hl
  have q31 := inR_B8 (hr b31 (by simp))
  have q24 := inR_B8 (hr b24 (by simp)); have q25 := inR_B8 (hr b25 (by simp)); have q26 := inR_B8 (hr b26 (by simp)); have q27 := inR_B8 (hr b27 (by simp)); have q28 := inR_B8 (hr b28 (by simp)); have q29 := inR_B8 (hr b29 (by simp)); have q30 := inR_B8 (hr b30 (by simp))
  have w0 := W8_W (inR_B8 (hr b7 (by simp))) (inR_B8 (hr b6 (by simp))) (inR_B8 (hr b5 (by simp))) (inR_B8 (hr b4 (by simp))) (inR_B8 (hr b3 (by simp))) (inR_B8 (hr b2 (by simp))) (inR_B8 (hr b1 (by simp))) (inR_B8 (hr b0 (by simp)))
  have w1 := W8_W (inR_B8 (hr b15 (by simp))) (inR_B8 (hr b14 (by simp))) (inR_B8 (hr b13 (by simp))) (inR_B8 (hr b12 (by simp))) (inR_B8 (hr b11 (by simp))) (inR_B8 (hr b10 (by simp))) (inR_B8 (hr b9 (by simp))) (inR_B8 (hr b8 (by simp)))
  have w2 := W8_W (inR_B8 (hr b23 (by simp))) (inR_B8 (hr b22 (by simp))) (inR_B8 (hr b21 (by simp))) (inR_B8 (hr b20 (by simp))) (inR_B8 (hr b19 (by simp))) (inR_B8 (hr b18 (by simp))) (inR_B8 (hr b17 (by simp))) (inR_B8 (hr b16 (by simp)))
  clear hl hr
  unfold B8 at q31 q24 q25 q26 q27 q28 q29 q30
  show decide (b31 ≥ 128) = _
  refine decide_eq_decide.2 ?_
  unfold leI litL T255
  simp only
  generalize W8 b7 b6 b5 b4 b3 b2 b1 b0 = x0 at *
  generalize W8 b15 b14 b13 b12 b11 b10 b9 b8 = x1 at *
  generalize W8 b23 b22 b21 b20 b19 b18 b17 b16 = x2 at *
  unfold W8 val W at *
  simp only [List.getD_cons_zero, List.getD_cons_succ]
  omega
def rrl (b : List Int) : List Int := bigL (ubL b).reverse
def rYY (Y : Int) : Int := (Y * Y) % pN
def rNn (Y : Int) : Int := (val (limbs (rYY Y)) - val [1, 0, 0, 0]) % pN
def rDd (Y : Int) : Int := (val (limbs ((val dL * val (limbs (rYY Y))) % pN)) + val [1, 0, 0, 0]) % pN
def rXX (Y : Int) : Int := (val (limbs (rNn Y)) * val (limbs (fP (val (limbs (rDd Y))) pE))) % pN
def rrf (b : List Int) : Bool := rK (val (limbs (rXX (val (rrl b)))))
def rrx (b : List Int) : Int := rX (val (limbs (rXX (val (rrl b)))))
def rrz (b : List Int) : Bool := decide (limbs (rrx b) = [0, 0, 0, 0])
def rrc (b : List Int) : Bool := decide (b.getD 31 0 ≥ 128)
def rre (b : List Int) : Bool := ((limbs (rrx b)).getD 0 0).tmod 2 == 1
def g6 (f z : Bool) : List Bool := [!(!(!f)) || !(!f), !(!(!f)) || !(!f), !(!(!f)) || !(!f), !(!(!f)) || (!z || (!(!f) && z)), !(!(!f)) || !(!f), !f || !(!f)]
def rrO (b : List Int) : List Bool := [!(!decide (val (rrl b) < val PN)), decide (val (limbs (rYY (val (rrl b)))) < pN), true, decide (val (limbs (rDd (val (rrl b)))) < pN), decide (val (limbs (rXX (val (rrl b)))) < pN)] ++ g6 (rrf b) (rrz b)
def Z12 : List Int := [0, 0, 0, 0, 0, 0, 0, 0, 0, 0, 0, 0]
theorem rr_1 (b : List Int) : seeV 0 ((funcL Tryd.prog qn (deep Tryd.prog qn ht2 100 4) (fun _ _ => none) 200 11 (cArgs 0 [.buf false .u8 32 b]) (cMem [.buf false .u8 32 b])).go [true]) =
    some ([!decide (val (rrl b) < val PN)], .tuple [.ints .u64 12 Z12, .bool false false], some (some ⟨false, .ints .u8 (some 32) b⟩)) := by kernel_rfl
theorem rr_2 (b : List Int) : seeV 0 ((funcL Tryd.prog qn (deep Tryd.prog qn ht2 100 4) (fun _ _ => none) 200 11 (cArgs 0 [.buf false .u8 32 b]) (cMem [.buf false .u8 32 b])).go [false, true]) =
    some (rrO b ++ [lastM (rrf b) (rrz b) (rrc b)], .tuple [.ints .u64 12 Z12, .bool false false], some (some ⟨false, .ints .u8 (some 32) b⟩)) := by kernel_rfl
theorem rr_3 (b : List Int) : seeV 0 ((funcL Tryd.prog qn (deep Tryd.prog qn ht2 100 4) (fun _ _ => none) 200 11 (cArgs 0 [.buf false .u8 32 b]) (cMem [.buf false .u8 32 b])).go [false, false, true]) =
    some (rrO b ++ [!lastM (rrf b) (rrz b) (rrc b), !(rre b == rrc b), true], .tuple [.ints .u64 12 (limbs ((0 - val (limbs (rrx b))) % val PN) ++ g4 (rrl b) ++ [1, 0, 0, 0]), .bool false true], some (some ⟨false, .ints .u8 (some 32) b⟩)) := by kernel_rfl
theorem rr_4 (b : List Int) : seeV 0 ((funcL Tryd.prog qn (deep Tryd.prog qn ht2 100 4) (fun _ _ => none) 200 11 (cArgs 0 [.buf false .u8 32 b]) (cMem [.buf false .u8 32 b])).go [false, false, false]) =
    some (rrO b ++ [!lastM (rrf b) (rrz b) (rrc b), !(!(rre b == rrc b))], .tuple [.ints .u64 12 (limbs (rrx b) ++ g4 (rrl b) ++ [1, 0, 0, 0]), .bool false true], some (some ⟨false, .ints .u8 (some 32) b⟩)) := by kernel_rfl
theorem vl_in {x : Int} (h : inP x) : val (limbs x) = x := vl_ok (inP_ok h)
theorem pN_in (x : Int) : inP (x % pN) := by rw [pN_PL]; exact mod_inP x
theorem rYY_eq {y : Int} (h : ok y) : rYY y = mI y y := by unfold rYY mI; rw [vl_ok h, pN_PL]
theorem rNn_eq {y : Int} (h : ok y) : rNn y = sI (mI y y) 1 := by
  unfold rNn
  rw [rYY_eq h, pN_PL]
  rfl
theorem rDd_eq {y : Int} (h : ok y) : rDd y = aI 1 (mI dI (mI y y)) := by
  have e : val dL = vl dI := by decide +kernel
  unfold rDd
  rw [rYY_eq h, e, pN_PL]
  show (vl (mI dI (mI y y)) + vl 1) % val PL = (vl 1 + vl (mI dI (mI y y))) % val PL
  rw [Int.add_comm]
theorem rXX_eq {y : Int} (h : ok y) : rXX y = fXX y := by
  have e : (val PL - 2).toNat = pE := by decide +kernel
  unfold rXX fXX
  rw [rNn_eq h, rDd_eq h, pN_PL]
  unfold mI pI fP
  rw [e, pN_PL]
  rfl
theorem rrl_val {b : List Int} (h : okb b) : val (rrl b) = leI b % T255 := ub_val h
theorem rrl_limbs {b : List Int} (h : okb b) : g4 (rrl b) = limbs (leI b % T255) := by
  have e := ub_val h
  have hu : (ubL b).reverse.length = 32 := by rw [List.length_reverse]; unfold ubL; rw [List.length_set]; exact h.1
  have hr : ∀ x ∈ (ubL b).reverse, inR .u8 x = true := fun x hx => by
    have hx' := List.mem_reverse.1 hx
    unfold ubL at hx'
    rcases List.mem_or_eq_of_mem_set hx' with h1 | h1
    · exact h.2 x h1
    · have q := inR_B8 (h.2 (b.getD 31 0) (by
        rw [List.getD_eq_getElem?_getD, List.getElem?_eq_getElem (by rw [h.1]; decide : 31 < b.length)]
        exact List.getElem_mem _))
      unfold B8 at q
      rw [h1, inR_iff, Int.tmod_eq_emod_of_nonneg q.1]
      simp only [lo, hi]
      omega
  obtain ⟨b0, b1, b2, b3, b4, b5, b6, b7, b8, b9, b10, b11, b12, b13, b14, b15, b16, b17, b18, b19, b20, b21, b22, b23, b24, b25, b26, b27, b28, b29, b30, b31, hb⟩ := thirty hu
  rw [hb] at hr
  simp only [List.forall_mem_cons, List.not_mem_nil, false_implies, implies_true, and_true] at hr
  obtain ⟨k0, k1, k2, k3, k4, k5, k6, k7, k8, k9, k10, k11, k12, k13, k14, k15, k16, k17, k18, k19, k20, k21, k22, k23, k24, k25, k26, k27, k28, k29, k30, k31⟩ := hr
  have e' : val (rrl b) = leI b % T255 := e
  rw [← e']
  unfold rrl
  rw [hb]
  exact (limbs_val (W8_W (inR_B8 k24) (inR_B8 k25) (inR_B8 k26) (inR_B8 k27) (inR_B8 k28) (inR_B8 k29) (inR_B8 k30) (inR_B8 k31)) (W8_W (inR_B8 k16) (inR_B8 k17) (inR_B8 k18) (inR_B8 k19) (inR_B8 k20) (inR_B8 k21) (inR_B8 k22) (inR_B8 k23)) (W8_W (inR_B8 k8) (inR_B8 k9) (inR_B8 k10) (inR_B8 k11) (inR_B8 k12) (inR_B8 k13) (inR_B8 k14) (inR_B8 k15)) (W8_W (inR_B8 k0) (inR_B8 k1) (inR_B8 k2) (inR_B8 k3) (inR_B8 k4) (inR_B8 k5) (inR_B8 k6) (inR_B8 k7))).symm
theorem g6_paid (f z : Bool) : Paid (g6 f z) := by cases f <;> cases z <;> exact List.all_eq_true.1 rfl
theorem y_ok {b : List Int} (h : okb b) : ok (leI b % T255) := by
  have := le_range h
  unfold ok T255
  omega
theorem rr_same {b : List Int} (h : okb b) : rrf b = fOk (leI b % T255) ∧ rrx b = fX (leI b % T255) := by
  unfold rrf rrx
  rw [rrl_val h, rXX_eq (y_ok h), vl_in (fXX_inP _)]
  exact ⟨rfl, rfl⟩
theorem rrO_paid {b : List Int} (h : okb b) (hl : decide (val (rrl b) < val PN) = true) : Paid (rrO b) := by
  unfold rrO
  have lt : ∀ x, inP x → decide (val (limbs x) < pN) = true := fun x hx => decide_eq_true (by rw [vl_in hx]; exact hx.2)
  rw [hl, lt (rYY (val (rrl b))) (pN_in _), lt (rDd (val (rrl b))) (pN_in _), lt (rXX (val (rrl b))) (pN_in _)]
  exact paid_append.2 ⟨List.all_eq_true.1 rfl, g6_paid _ _⟩
def rrL (b : List Int) : List Int := match rdOk b with
  | true => limbs (ryX (leI b % T255) (leI b / T255)) ++ limbs (leI b % T255) ++ [1, 0, 0, 0]
  | false => Z12
theorem rr_is {b : List Int} (h : okb b) : rdOk b = (decide (val (rrl b) < val PN) && !lastM (rrf b) (rrz b) (rrc b)) := by
  obtain ⟨e1, e2⟩ := rr_same h
  have hz : rrz b = decide (fX (leI b % T255) = 0) := by
    unfold rrz
    rw [e2]
    exact decide_eq_decide.2 (limbs_inj (x := fX (leI b % T255)) (y := 0) (fX_inP _) ⟨by decide, by decide⟩)
  have hc : rrc b = decide (leI b / T255 = 1) := top_bit h
  unfold rdOk ryB
  rw [hz, hc, e1, rrl_val h, show val PN = (P25 : Int) by decide +kernel, lastM_eq, Bool.not_not]
theorem rr_par {b : List Int} (h : okb b) : (rre b == rrc b) = !decide ((leI b / T255 + fX (leI b % T255)) % 2 = 1) := by
  have hr := le_range h
  have ho : leI b / T255 = 0 ∨ leI b / T255 = 1 := by unfold T255; omega
  have hc : rrc b = decide (leI b / T255 = 1) := top_bit h
  have hx := fX_inP (leI b % T255)
  have he : rre b = decide (fX (leI b % T255) % 2 = 1) := by
    unfold rre
    rw [(rr_same h).2]
    generalize fX (leI b % T255) = x at *
    have : ((limbs x).getD 0 0).tmod 2 = x % 2 := by
      show (x % 18446744073709551616).tmod 2 = _
      rw [Int.tmod_eq_emod_of_nonneg (by omega)]
      omega
    rw [this, Bool.eq_iff_iff]
    simp
  rw [he, hc]
  generalize fX (leI b % T255) = x at *
  rcases ho with e | e <;> rw [e] <;> rcases (by omega : x % 2 = 0 ∨ x % 2 = 1) with k | k
  · rw [k, decide_eq_false (show ¬ (0 + x) % 2 = 1 by omega)]; rfl
  · rw [k, decide_eq_true (show (0 + x) % 2 = 1 by omega)]; rfl
  · rw [k, decide_eq_true (show (1 + x) % 2 = 1 by omega)]; rfl
  · rw [k, decide_eq_false (show ¬ (1 + x) % 2 = 1 by omega)]; rfl
def rrS : List V → E (AV × Mem)
  | [.buf false .u8 32 b] => some ([], (.tuple [.ints .u64 12 (rrL b), .bool true (rdOk b)], []))
  | _ => none
theorem view_mark2 {g : FuncId} {xs : List V} {l : List Int} {c : Bool} (h : ViewCall Tryd.prog g xs (.tuple [.ints .u64 12 l, .bool false c]) []) : ViewCall Tryd.prog g xs (.tuple [.ints .u64 12 l, .bool true c]) [] := by
  intro ρ vs w ha hi
  refine (h ha hi).mono fun u w' ⟨ρ', r, k⟩ => ⟨ρ', ?_, k⟩
  have r' : Rep ρ' (upto (xs.length + 0)) (.tuple [.ints .u64 12 l, .bool false c]) u := r
  show Rep ρ' (upto (xs.length + 0)) (.tuple [.ints .u64 12 l, .bool true c]) u
  cases r' with
  | tuple _ vs hs => cases hs with
    | cons _ _ _ _ r1 hs => cases hs with
      | cons _ _ _ _ r2 hs =>
        cases hs
        cases r2
        exact .tuple _ _ (.cons _ _ _ _ r1 (.cons _ _ _ _ (.bool _ _) .nil))
theorem rr_ok {xs : List V} {o : List Bool} {v : AV} {bs : Mem} (h : rrS xs = some (o, (v, bs))) : ViewCall Tryd.prog 11 xs v bs := by
  have D := ht2_ok.deep (q := qn) mixed noCount 100 4
  unfold rrS at h
  split at h
  · rename_i b
    cases h
    intro ρ vs w ha hi
    have hb : okb b := buf_arg hi 0 rfl
    have hk := rr_is hb
    refine view_mark2 (fun ha hi => ?_) ha hi
    cases hl : decide (val (rrl b) < val PN) with
    | false =>
      rw [hl, Bool.false_and] at hk
      have e := rr_1 b
      rw [hl] at e
      unfold rrL
      rw [hk]
      exact viewN_none mixed noCount D (lo1 _) [true] 0 e (paid_cons rfl Paid.nil) rfl rfl rfl rfl ha hi
    | true =>
      have hO := rrO_paid hb hl
      rw [hl, Bool.true_and] at hk
      cases hm : lastM (rrf b) (rrz b) (rrc b) with
      | true =>
        rw [hm] at hk
        have e := rr_2 b
        rw [hm] at e
        unfold rrL
        rw [hk]
        exact viewN_none mixed noCount D (lo1 _) [false, true] 0 e (paid_append.2 ⟨hO, paid_cons rfl Paid.nil⟩) rfl rfl rfl rfl ha hi
      | false =>
        rw [hm] at hk
        have hp := rr_par hb
        unfold rrL
        rw [hk]
        cases hx : decide ((leI b / T255 + fX (leI b % T255)) % 2 = 1) with
        | true =>
          have e := rr_3 b
          rw [hx] at hp
          rw [hm, hp, rrl_limbs hb, (rr_same hb).2] at e
          have ex : ryX (leI b % T255) (leI b / T255) = sI 0 (fX (leI b % T255)) := by unfold ryX; rw [if_pos (of_decide_eq_true hx)]
          rw [Bool.not_false, ex]
          exact viewN_none mixed noCount D (lo1 _) [false, false, true] 0 e (paid_append.2 ⟨hO, List.all_eq_true.1 rfl⟩) rfl rfl rfl rfl ha hi
        | false =>
          have e := rr_4 b
          rw [hx] at hp
          rw [hm, hp, rrl_limbs hb, (rr_same hb).2] at e
          have ex : ryX (leI b % T255) (leI b / T255) = fX (leI b % T255) := by unfold ryX; rw [if_neg (of_decide_eq_false hx)]
          rw [Bool.not_false, ex]
          exact viewN_none mixed noCount D (lo1 _) [false, false, false] 0 e (paid_append.2 ⟨hO, List.all_eq_true.1 rfl⟩) rfl rfl rfl rfl ha hi
  · cases h
def ht3 : CallH := withV 11 rrS ht2
theorem ht3_ok : HOk Tryd.prog ht3 := ht2_ok.withV fun _ _ _ _ h _ => rr_ok h
end Go.Proofs.YthelmpjkkkhopaaDoor
