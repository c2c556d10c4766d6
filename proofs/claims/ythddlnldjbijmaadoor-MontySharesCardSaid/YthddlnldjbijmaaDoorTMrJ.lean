/- The reference of layer 9: Mult's contract, by cases. Own work. -/
import Derived.Test.YthddlnldjbijmaaDoorTMrI
set_option linter.unusedSimpArgs false
set_option linter.unusedVariables false
set_option linter.unusedSectionVars false
namespace Go.Mo
open Go.Ev Go.Wn
def ubL (u : List Int) : List Int := u.set 31 ((u.getD 31 0).tmod 128)
end Go.Mo
namespace Go.Proofs.YthddlnldjbijmaaDoor
open Go.Ev Go.Wn Go.Mo
set_option maxRecDepth 100000
theorem ub_val {u : List Int} (h : okb u) : val (bigL (ubL u).reverse) = upI (leI u) := by
  obtain ⟨hl, hr⟩ := h
  have hu : (ubL u).length = 32 := by unfold ubL; rw [List.length_set]; exact hl
  rw [big_rev hu]
  obtain ⟨b0, b1, b2, b3, b4, b5, b6, b7, b8, b9, b10, b11, b12, b13, b14, b15, b16, b17, b18, b19, b20, b21, b22, b23, b24, b25, b26, b27, b28, b29, b30, b31, rfl⟩ := thirty hl
  have q31 := inR_B8 (hr b31 (by simp))
  have q24 := inR_B8 (hr b24 (by simp)); have q25 := inR_B8 (hr b25 (by simp)); have q26 := inR_B8 (hr b26 (by simp)); have q27 := inR_B8 (hr b27 (by simp)); have q28 := inR_B8 (hr b28 (by simp)); have q29 := inR_B8 (hr b29 (by simp)); have q30 := inR_B8 (hr b30 (by simp))
  have w0 := W8_W (inR_B8 (hr b7 (by simp))) (inR_B8 (hr b6 (by simp))) (inR_B8 (hr b5 (by simp))) (inR_B8 (hr b4 (by simp))) (inR_B8 (hr b3 (by simp))) (inR_B8 (hr b2 (by simp))) (inR_B8 (hr b1 (by simp))) (inR_B8 (hr b0 (by simp)))
  have w1 := W8_W (inR_B8 (hr b15 (by simp))) (inR_B8 (hr b14 (by simp))) (inR_B8 (hr b13 (by simp))) (inR_B8 (hr b12 (by simp))) (inR_B8 (hr b11 (by simp))) (inR_B8 (hr b10 (by simp))) (inR_B8 (hr b9 (by simp))) (inR_B8 (hr b8 (by simp)))
  have w2 := W8_W (inR_B8 (hr b23 (by simp))) (inR_B8 (hr b22 (by simp))) (inR_B8 (hr b21 (by simp))) (inR_B8 (hr b20 (by simp))) (inR_B8 (hr b19 (by simp))) (inR_B8 (hr b18 (by simp))) (inR_B8 (hr b17 (by simp))) (inR_B8 (hr b16 (by simp)))
  clear hl hr hu
  unfold B8 at q31 q24 q25 q26 q27 q28 q29 q30
  have e : ubL [b0, b1, b2, b3, b4, b5, b6, b7, b8, b9, b10, b11, b12, b13, b14, b15, b16, b17, b18, b19, b20, b21, b22, b23, b24, b25, b26, b27, b28, b29, b30, b31] = [b0, b1, b2, b3, b4, b5, b6, b7, b8, b9, b10, b11, b12, b13, b14, b15, b16, b17, b18, b19, b20, b21, b22, b23, b24, b25, b26, b27, b28, b29, b30, b31 % 128] := by
    rw [← Int.tmod_eq_emod_of_nonneg q31.1]
    rfl
  rw [e]
  unfold upI leI litL
  simp only
  generalize W8 b7 b6 b5 b4 b3 b2 b1 b0 = x0 at *
  generalize W8 b15 b14 b13 b12 b11 b10 b9 b8 = x1 at *
  generalize W8 b23 b22 b21 b20 b19 b18 b17 b16 = x2 at *
  unfold W8 val W at *
  simp only [List.getD_cons_zero, List.getD_cons_succ]
  omega
def rmX (u : List Int) : Int := (val (bigL (ubL u).reverse) + 0 * WW) % pN
def rmR (k u : List Int) : Int × Int × Int × Int := rl (leI (cbL k)) (val (limbs (rmX u))) 256
def rmE (k u : List Int) : List Bool := [true, true, true, decide (limbs (rmX u) = limbs (val (limbs (rmX u)))), true, decide ([(limbs (rmX u)).getD 0 0, (limbs (rmX u)).getD 1 0, (limbs (rmX u)).getD 2 0, (limbs (rmX u)).getD 3 0, 1, 0, 0, 0] = limbs (val (limbs (rmX u))) ++ limbs 1), Nat.beq (cbL k).length 32, (cbL k).all fun y => inR .u8 y]
def rmΛ : LoopH := famH 0 68 rmTs rmP (fun p => p.2) rmF (fun _ _ => none)
theorem rmΛ_ok (k0 : Nat) {fn : Func} {c : Code} (hf : Tryd.prog.funcs[10]? = some fn) (hb : fn.body = some c) : LOkN k0 Tryd.prog c rmΛ := by
  rw [bodyOf_eq hf hb]
  exact (rm_lok LOk.none).toN
theorem rmt_eval (k u : List Int) : seeV 8 ((funcL Tryd.prog qn (deep Tryd.prog qn hr5 100 3) rmΛ 200 10 (cArgs 0 [.buf false .u8 32 k, .buf false .u8 32 u]) (cMem [.buf false .u8 32 k, .buf false .u8 32 u])).go [true]) =
    some (rmE k u ++ [decide (limbs (rmR k u).2.1 = [0, 0, 0, 0])], .slice false 8 0 32 (some 32) 1, some (some ⟨true, .ints .u8 (some 32) zer⟩)) := by kernel_rfl
theorem rmf_eval (k u : List Int) : seeV 9 ((funcL Tryd.prog qn (deep Tryd.prog qn hr5 100 3) rmΛ 200 10 (cArgs 0 [.buf false .u8 32 k, .buf false .u8 32 u]) (cMem [.buf false .u8 32 k, .buf false .u8 32 u])).go [false]) =
    some (rmE k u ++ [!decide (limbs (rmR k u).2.1 = [0, 0, 0, 0]), decide (val (limbs (rmR k u).2.1) < pN)], .slice false 9 0 32 none 1, some (some ⟨true, .ints .u8 (some 32) (turnedL (limbs (nM (rmR k u).1 (fP (vl (rmR k u).2.1) pE)))).reverse.reverse⟩)) := by kernel_rfl
theorem rmE_paid {k : List Int} (u : List Int) (hk : okb k) : Paid (rmE k u) := by
  obtain ⟨c1, _⟩ := cb_words hk
  have e1 : limbs (rmX u) = limbs (val (limbs (rmX u))) := by
    have := vl_ok (ok_n (val (bigL (ubL u).reverse) + 0 * WW))
    unfold vl at this
    unfold rmX
    rw [this]
  unfold rmE
  refine paid_cons rfl (paid_cons rfl (paid_cons rfl (paid_cons (decide_eq_true e1) (paid_cons rfl (paid_cons (decide_eq_true ?_) (paid_cons (by rw [c1.1]; rfl) (paid_cons (List.all_eq_true.2 c1.2) Paid.nil)))))))
  rw [← e1]
  rfl
theorem rmR_ok {k u : List Int} (hk : okb k) (hu : okb u) : turnedL (limbs (nM (rmR k u).1 (fP (vl (rmR k u).2.1) pE))) = mulB k u ∧ 0 ≤ (rmR k u).2.1 ∧ (rmR k u).2.1 < pN := by
  obtain ⟨c1, c2⟩ := cb_words hk
  have e : leI (cbL k) = clI (leI k) := by
    unfold leI
    rw [c2]
    exact (kw_eq hk.1 hk.2).1
  obtain ⟨N, e1, n1, _, _⟩ := cl_nat hk
  have ex : rmX u = upI (leI u) % pN := by unfold rmX; rw [ub_val hu, Int.zero_mul, Int.add_zero]
  have h := refN_same n1 (up_ok (l := u))
  have hR : rmR k u = rl (N : Int) (vl (upI (leI u) % pN)) 256 := by unfold rmR; rw [e, e1, ex]; rfl
  refine ⟨?_, ?_⟩
  · rw [mulB_val hk hu, e1, ← h, hR]
    rfl
  · rw [hR]
    have hl : rl (N : Int) (vl (upI (leI u) % pN)) 256 = rstp (vl (upI (leI u) % pN)) ((N : Int) / 2 ^ (255 - 255) % 2) (rl (N : Int) (vl (upI (leI u) % pN)) 255) := rfl
    rw [hl]
    unfold rstp
    split
    · exact nM_range _ _
    · exact nM_range _ _
/-- The reference's ladder ends at nothing. -/
def rmZ (k u : List Int) : Bool := decide (limbs (rmR k u).2.1 = [0, 0, 0, 0])
theorem rmZ_zero {k u : List Int} (hk : okb k) (hu : okb u) (h : rmZ k u = true) : mulB k u = zer := by
  obtain ⟨e, h1, h2⟩ := rmR_ok hk hu
  have h3 := of_decide_eq_true h
  have h4 : (rmR k u).2.1 = 0 := by
    have h5 : vl (rmR k u).2.1 = (rmR k u).2.1 := vl_lt ⟨h1, h2⟩
    unfold vl at h5
    rw [h3] at h5
    exact h5.symm
  rw [← e, h4]
  have h6 : fP (vl 0) pE = 0 := by
    have : vl 0 = 0 := by decide +kernel
    rw [this]
    unfold fP
    rw [Int.zero_pow (Nat.ne_of_gt pE_pos)]
    rfl
  rw [h6]
  have h7 : nM (rmR k u).1 0 = 0 := by
    unfold nM
    rw [show vl 0 = 0 by decide +kernel, Int.mul_zero]
    rfl
  rw [h7]
  decide +kernel
def rmuS (z : Bool) : List V → E (AV × Mem)
  | [.buf false .u8 32 k, .buf false .u8 32 u] => (match z with
    | true => some ([rmZ k u], (.slice false 0 0 32 (some 32) 1, [some ⟨true, .ints .u8 (some 32) (mulB k u)⟩]))
    | false => some ([!rmZ k u], (.slice false 0 0 32 none 1, [some ⟨true, .ints .u8 (some 32) (mulB k u)⟩])))
  | _ => none
theorem rmu_ok {z : Bool} {xs : List V} {o : List Bool} {v : AV} {bs : Mem} (h : rmuS z xs = some (o, (v, bs))) (ho : Paid o) : ViewCall Tryd.prog 10 xs v bs := by
  unfold rmuS at h
  split at h
  · rename_i k u
    split at h
    · cases h
      have hz := ho _ (List.mem_cons_self ..)
      intro ρ vs w ha hi
      have hk : okb k := buf_arg hi 0 rfl
      have hu : okb u := buf_arg hi 1 rfl
      have ev := rmt_eval k u
      rw [← rmZ_zero hk hu hz] at ev
      exact viewN_one mixed noCount (hr5_ok.deep (q := qn) mixed noCount 100 3) (fun fn c hf hb => rmΛ_ok _ hf hb) [true] 8 ev (paid_append.2 ⟨rmE_paid u hk, paid_cons hz Paid.nil⟩) (by show 2 ≤ 8; decide) rfl rfl ha hi
    · cases h
      have hz := ho _ (List.mem_cons_self ..)
      intro ρ vs w ha hi
      have hk : okb k := buf_arg hi 0 rfl
      have hu : okb u := buf_arg hi 1 rfl
      obtain ⟨e, h1, h2⟩ := rmR_ok hk hu
      have ev := rmf_eval k u
      rw [e, List.reverse_reverse] at ev
      have hv : val (limbs (rmR k u).2.1) = (rmR k u).2.1 := vl_lt ⟨h1, h2⟩
      exact viewN_one mixed noCount (hr5_ok.deep (q := qn) mixed noCount 100 3) (fun fn c hf hb => rmΛ_ok _ hf hb) [false] 9 ev (paid_append.2 ⟨rmE_paid u hk, paid_cons hz (paid_cons (by rw [hv]; exact decide_eq_true h2) Paid.nil)⟩) (by show 2 ≤ 9; decide) rfl rfl ha hi
  · cases h
def hz9 (z : Bool) : CallH := withV 10 (rmuS z) hl9
theorem hz9_ok (z : Bool) : HOk Tryd.prog (hz9 z) := hl9_ok.withV fun _ _ _ _ h ho => rmu_ok h ho
end Go.Proofs.YthddlnldjbijmaaDoor
