/- The reference's Turn of 32 bytes; its Clamp. Own work. -/
import Derived.Test.YthddlnldjbijmaaDoorSMoN
set_option linter.unusedSimpArgs false
set_option linter.unusedVariables false
set_option linter.unusedSectionVars false
namespace Go.Mo
open Go.Ev Go.Wn
/-- A secret's bytes, as the reference leaves bits out. -/
def cbL (k : List Int) : List Int := (k.set 0 (IntKind.u8.wrap (IntKind.u8.wrap ((k.getD 0 0).tdiv 8) * 8))).set 31 (IntKind.u8.wrap (((k.set 0 (IntKind.u8.wrap (IntKind.u8.wrap ((k.getD 0 0).tdiv 8) * 8))).getD 31 0).tmod 64 + 64))
end Go.Mo
namespace Go.Proofs.YthddlnldjbijmaaDoor
open Go.Ev Go.Wn Go.Mo
set_option maxRecDepth 100000
def tuS : List V → E (AV × Mem)
  | [.buf false .u8 32 l] => some ([], (.slice false 0 0 32 none 1, [some ⟨true, .ints .u8 (some 32) l.reverse⟩]))
  | _ => none
theorem tu_eval (b0 b1 b2 b3 b4 b5 b6 b7 b8 b9 b10 b11 b12 b13 b14 b15 b16 b17 b18 b19 b20 b21 b22 b23 b24 b25 b26 b27 b28 b29 b30 b31 : Int) : seeV 64 ((funcL Tryd.prog qn (fun _ _ _ => none) (fun _ _ => none) 200 17 (cArgs 0 [.buf false .u8 32 [b0, b1, b2, b3, b4, b5, b6, b7, b8, b9, b10, b11, b12, b13, b14, b15, b16, b17, b18, b19, b20, b21, b22, b23, b24, b25, b26, b27, b28, b29, b30, b31]]) (cMem [.buf false .u8 32 [b0, b1, b2, b3, b4, b5, b6, b7, b8, b9, b10, b11, b12, b13, b14, b15, b16, b17, b18, b19, b20, b21, b22, b23, b24, b25, b26, b27, b28, b29, b30, b31]])).go []) = some ([], .slice false 64 0 32 none 1, some (some ⟨true, .ints .u8 (some 32) [b31, b30, b29, b28, b27, b26, b25, b24, b23, b22, b21, b20, b19, b18, b17, b16, b15, b14, b13, b12, b11, b10, b9, b8, b7, b6, b5, b4, b3, b2, b1, b0]⟩)) := by kernel_rfl
theorem tu_ok {xs : List V} {o : List Bool} {v : AV} {bs : Mem} (h : tuS xs = some (o, (v, bs))) : ViewCall Tryd.prog 17 xs v bs := by
  unfold tuS at h
  split at h
  · rename_i l
    cases h
    intro ρ vs w ha hi
    obtain ⟨hl, _⟩ := buf_arg hi 0 rfl
    obtain ⟨b0, b1, b2, b3, b4, b5, b6, b7, b8, b9, b10, b11, b12, b13, b14, b15, b16, b17, b18, b19, b20, b21, b22, b23, b24, b25, b26, b27, b28, b29, b30, b31, rfl⟩ := thirty hl
    exact viewN_one mixed noCount HOk.none (lo1 _) [] 64 (tu_eval b0 b1 b2 b3 b4 b5 b6 b7 b8 b9 b10 b11 b12 b13 b14 b15 b16 b17 b18 b19 b20 b21 b22 b23 b24 b25 b26 b27 b28 b29 b30 b31) Paid.nil (by show 1 ≤ 64; decide) rfl rfl ha hi
  · cases h
def rcS : List V → E (AV × Mem)
  | [.buf false .u8 32 k] => some ([], (.slice false 0 0 32 none 1, [some ⟨true, .ints .u8 (some 32) (cbL k)⟩]))
  | _ => none
theorem rc_eval (k : List Int) : seeV 1 ((funcL Tryd.prog qn (fun _ _ _ => none) (fun _ _ => none) 200 15 (cArgs 0 [.buf false .u8 32 k]) (cMem [.buf false .u8 32 k])).go []) = some ([], .slice false 1 0 32 none 1, some (some ⟨true, .ints .u8 (some 32) (cbL k)⟩)) := by kernel_rfl
theorem rc_ok {xs : List V} {o : List Bool} {v : AV} {bs : Mem} (h : rcS xs = some (o, (v, bs))) : ViewCall Tryd.prog 15 xs v bs := by
  unfold rcS at h
  split at h
  · rename_i k
    cases h
    intro ρ vs w ha hi
    exact viewN_one mixed noCount HOk.none (lo1 _) [] 1 (rc_eval k) Paid.nil (by show 1 ≤ 1; decide) rfl rfl ha hi
  · cases h
def hr9 : CallH := withV 15 rcS (withV 17 tuS (withV 16 rbigS hl9))
theorem hr9_ok : HOk Tryd.prog hr9 := ((hl9_ok.withV fun _ _ _ _ h _ => rbig_ok h).withV fun _ _ _ _ h _ => tu_ok h).withV fun _ _ _ _ h _ => rc_ok h
end Go.Proofs.YthddlnldjbijmaaDoor
namespace Go.Mo
open Go.Ev Go.Wn
def tpL (u : List Int) : List Int := u.set 31 (ixor .u8 (u.getD 31 0) 128)
theorem u8w {x : Int} (h : 0 ≤ x ∧ x < 256) : IntKind.u8.wrap x = x := by
  unfold IntKind.wrap; simp [IntKind.bits, IntKind.signed]; omega
theorem ixor_top {x : Int} (h : 0 ≤ x ∧ x < 256) : ixor .u8 x 128 = if x < 128 then x + 128 else x - 128 := by
  obtain ⟨X, rfl⟩ := Int.eq_ofNat_of_zero_le h.1
  have hX : X < 256 := by omega
  have key : ∀ X : Nat, X < 256 → ixor .u8 (X : Int) 128 = if (X : Int) < 128 then (X : Int) + 128 else (X : Int) - 128 := by decide +kernel
  exact key X hX
end Go.Mo
namespace Go.Proofs.YthddlnldjbijmaaDoor
open Go.Ev Go.Wn Go.Mo
set_option maxRecDepth 100000
theorem big_rev {l : List Int} (h : l.length = 32) : bigL l.reverse = litL l := by
  obtain ⟨b0, b1, b2, b3, b4, b5, b6, b7, b8, b9, b10, b11, b12, b13, b14, b15, b16, b17, b18, b19, b20, b21, b22, b23, b24, b25, b26, b27, b28, b29, b30, b31, rfl⟩ := thirty h
  rfl
theorem cb_words {k : List Int} (h : okb k) : okb (cbL k) ∧ litL (cbL k) = kwL (litL k) := by
  obtain ⟨hl, hr⟩ := h
  obtain ⟨b0, b1, b2, b3, b4, b5, b6, b7, b8, b9, b10, b11, b12, b13, b14, b15, b16, b17, b18, b19, b20, b21, b22, b23, b24, b25, b26, b27, b28, b29, b30, b31, rfl⟩ := thirty hl
  simp only [List.forall_mem_cons, List.not_mem_nil, false_implies, implies_true, and_true] at hr
  obtain ⟨k0, k1, k2, k3, k4, k5, k6, k7, k8, k9, k10, k11, k12, k13, k14, k15, k16, k17, k18, k19, k20, k21, k22, k23, k24, k25, k26, k27, k28, k29, k30, k31⟩ := hr
  have q0 := inR_B8 k0; have q31 := inR_B8 k31
  unfold B8 at q0 q31
  have e : cbL [b0, b1, b2, b3, b4, b5, b6, b7, b8, b9, b10, b11, b12, b13, b14, b15, b16, b17, b18, b19, b20, b21, b22, b23, b24, b25, b26, b27, b28, b29, b30, b31] = [b0 / 8 * 8, b1, b2, b3, b4, b5, b6, b7, b8, b9, b10, b11, b12, b13, b14, b15, b16, b17, b18, b19, b20, b21, b22, b23, b24, b25, b26, b27, b28, b29, b30, b31 % 64 + 64] := by
    have e1 : IntKind.u8.wrap (IntKind.u8.wrap (b0.tdiv 8) * 8) = b0 / 8 * 8 := by rw [Int.tdiv_eq_ediv_of_nonneg q0.1, u8w (x := b0 / 8) (by omega), u8w (by omega)]
    have e2 : IntKind.u8.wrap (b31.tmod 64 + 64) = b31 % 64 + 64 := by rw [Int.tmod_eq_emod_of_nonneg q31.1, u8w (by omega)]
    rw [← e1, ← e2]
    rfl
  have hb : ∀ x : Int, 0 ≤ x ∧ x < 256 → inR .u8 x = true := fun x hx => by rw [inR_iff]; simp only [lo, hi]; omega
  rw [e]
  refine ⟨⟨rfl, ?_⟩, ?_⟩
  · simp only [List.forall_mem_cons, List.not_mem_nil, false_implies, implies_true, and_true]
    exact ⟨hb _ (by omega), k1, k2, k3, k4, k5, k6, k7, k8, k9, k10, k11, k12, k13, k14, k15, k16, k17, k18, k19, k20, k21, k22, k23, k24, k25, k26, k27, k28, k29, k30, hb _ (by omega)⟩
  · have w0 := W8_W (inR_B8 k7) (inR_B8 k6) (inR_B8 k5) (inR_B8 k4) (inR_B8 k3) (inR_B8 k2) (inR_B8 k1) (inR_B8 k0)
    have w3 := W8_W (inR_B8 k31) (inR_B8 k30) (inR_B8 k29) (inR_B8 k28) (inR_B8 k27) (inR_B8 k26) (inR_B8 k25) (inR_B8 k24)
    have e2 : kwL (litL [b0, b1, b2, b3, b4, b5, b6, b7, b8, b9, b10, b11, b12, b13, b14, b15, b16, b17, b18, b19, b20, b21, b22, b23, b24, b25, b26, b27, b28, b29, b30, b31]) = [iandn .u64 (W8 b7 b6 b5 b4 b3 b2 b1 b0) 7, W8 b15 b14 b13 b12 b11 b10 b9 b8, W8 b23 b22 b21 b20 b19 b18 b17 b16, ior .u64 (iandn .u64 (W8 b31 b30 b29 b28 b27 b26 b25 b24) 9223372036854775808) 4611686018427387904] := rfl
    rw [e2, iandn_seven w0, iandn_top w3, ior_top (by omega)]
    have q1 := inR_B8 k1; have q2 := inR_B8 k2; have q3 := inR_B8 k3; have q4 := inR_B8 k4; have q5 := inR_B8 k5; have q6 := inR_B8 k6; have q7 := inR_B8 k7
    have q24 := inR_B8 k24; have q25 := inR_B8 k25; have q26 := inR_B8 k26; have q27 := inR_B8 k27; have q28 := inR_B8 k28; have q29 := inR_B8 k29; have q30 := inR_B8 k30
    simp only [litL, List.cons.injEq, and_true, true_and]
    unfold W8 B8 at *
    constructor <;> omega
theorem tp_words {u : List Int} (h : okb u) : okb (tpL u) ∧ upI (leI (tpL u)) = upI (leI u) := by
  obtain ⟨hl, hr⟩ := h
  obtain ⟨b0, b1, b2, b3, b4, b5, b6, b7, b8, b9, b10, b11, b12, b13, b14, b15, b16, b17, b18, b19, b20, b21, b22, b23, b24, b25, b26, b27, b28, b29, b30, b31, rfl⟩ := thirty hl
  simp only [List.forall_mem_cons, List.not_mem_nil, false_implies, implies_true, and_true] at hr
  obtain ⟨k0, k1, k2, k3, k4, k5, k6, k7, k8, k9, k10, k11, k12, k13, k14, k15, k16, k17, k18, k19, k20, k21, k22, k23, k24, k25, k26, k27, k28, k29, k30, k31⟩ := hr
  have q31 := inR_B8 k31
  unfold B8 at q31
  have e : tpL [b0, b1, b2, b3, b4, b5, b6, b7, b8, b9, b10, b11, b12, b13, b14, b15, b16, b17, b18, b19, b20, b21, b22, b23, b24, b25, b26, b27, b28, b29, b30, b31] = [b0, b1, b2, b3, b4, b5, b6, b7, b8, b9, b10, b11, b12, b13, b14, b15, b16, b17, b18, b19, b20, b21, b22, b23, b24, b25, b26, b27, b28, b29, b30, if b31 < 128 then b31 + 128 else b31 - 128] := by
    rw [← ixor_top q31]
    rfl
  have hb : ∀ x : Int, 0 ≤ x ∧ x < 256 → inR .u8 x = true := fun x hx => by rw [inR_iff]; simp only [lo, hi]; omega
  rw [e]
  refine ⟨⟨rfl, ?_⟩, ?_⟩
  · simp only [List.forall_mem_cons, List.not_mem_nil, false_implies, implies_true, and_true]
    exact ⟨k0, k1, k2, k3, k4, k5, k6, k7, k8, k9, k10, k11, k12, k13, k14, k15, k16, k17, k18, k19, k20, k21, k22, k23, k24, k25, k26, k27, k28, k29, k30, hb _ (by split <;> omega)⟩
  · unfold upI leI litL
    simp only
    generalize W8 b7 b6 b5 b4 b3 b2 b1 b0 = x0
    generalize W8 b15 b14 b13 b12 b11 b10 b9 b8 = x1
    generalize W8 b23 b22 b21 b20 b19 b18 b17 b16 = x2
    unfold W8 val
    simp only [List.getD_cons_zero, List.getD_cons_succ]
    split <;> omega
theorem cl_same {k u : List Int} (hk : okb k) (hu : okb u) : mulB k u = mulB (cbL k) (tpL u) := by
  obtain ⟨c1, c2⟩ := cb_words hk
  obtain ⟨t1, t2⟩ := tp_words hu
  rw [mulB_val hk hu, mulB_val c1 t1, t2]
  have e : leI (cbL k) = clI (leI k) := by
    unfold leI
    rw [c2]
    exact (kw_eq hk.1 hk.2).1
  rw [e]
  have hr := le_range hk
  generalize leI k = K at *
  have : clI (clI K) = clI K := by unfold clI; omega
  rw [this]
theorem kw_low {k : List Int} (hk : okb k) : ((kwL (litL k)).getD 0 0).tmod 8 = 0 ∧ ishr .u64 ((kwL (litL k)).getD 3 0) 62 = 1 := by
  obtain ⟨a, b, c, d, e, ha, hb, hc, hd⟩ := lit_words hk.1 hk.2
  rw [e]
  have e2 : kwL [a, b, c, d] = [iandn .u64 a 7, b, c, ior .u64 (iandn .u64 d 9223372036854775808) 4611686018427387904] := rfl
  rw [e2, iandn_seven ha, iandn_top hd, ior_top (by omega)]
  simp only [List.getD_cons_zero, List.getD_cons_succ]
  unfold W at ha hd
  refine ⟨by rw [Int.tmod_eq_emod_of_nonneg (by omega)]; omega, ?_⟩
  have h := ishr_eq (k := .u64) (x := d % 9223372036854775808 % 4611686018427387904 + 4611686018427387904) (r := 62) (by simp [IntKind.bits])
  simp only [Int.reducePow] at h
  have h2 : ((62 : Nat) : Int) = 62 := rfl
  rw [h2] at h
  rw [h]
  omega
end Go.Proofs.YthddlnldjbijmaaDoor
