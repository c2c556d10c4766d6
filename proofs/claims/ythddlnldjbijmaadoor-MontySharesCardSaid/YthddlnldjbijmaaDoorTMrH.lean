/- Layer 9: which bits of a secret and of a point play no part: numbers. Own work. -/
import Derived.Test.YthddlnldjbijmaaDoorTMrA
import Derived.Test.YthddlnldjbijmaaDoorTMrG
set_option linter.unusedSimpArgs false
set_option linter.unusedVariables false
set_option linter.unusedSectionVars false
namespace Go.Mo
open Go.Ev Go.Wn
theorem u8w {x : Int} (h : 0 ≤ x ∧ x < 256) : IntKind.u8.wrap x = x := by
  unfold IntKind.wrap; simp [IntKind.bits, IntKind.signed]; omega
end Go.Mo
namespace Go.Proofs.YthddlnldjbijmaaDoor
open Go.Ev Go.Wn Go.Mo
set_option maxRecDepth 100000
theorem big_rev {l : List Int} (h : l.length = 32) : bigL l.reverse = litL l := by
  obtain ⟨b0, b1, b2, b3, b4, b5, b6, b7, b8, b9, b10, b11, b12, b13, b14, b15, b16, b17, b18, b19, b20, b21, b22, b23, b24, b25, b26, b27, b28, b29, b30, b31, rfl⟩ := thirty h
  rfl
theorem cb_words {k : List Int} (h : okb k) : okb (cbL k) ∧ litL (cbL k) = kwL (litL k) := by
  obtain ⟨hl, hr⟩ := h
  obtain ⟨b0, b1, b2, b3, b4, b5, b6, b7, b8, b9, b10, b11, b12, b13, b14, b15, b16, b17, b18, b19, b20, b21, b22, b23, b24, b25, b26, b27, b28, b29, b30, b31, rfl⟩ := thirty hl
  simp only [List.forall_mem_cons, List.not_mem_nil, false_implies, implies_true, and_true] at hr
  obtain ⟨k0, k1, k2, k3, k4, k5, k6, k7, k8, k9, k10, k11, k12, k13, k14, k15, k16, k17, k18, k19, k20, k21, k22, k23, k24, k25, k26, k27, k28, k29, k30, k31⟩ := hr
  have q0 := inR_B8 k0; have q31 := inR_B8 k31
  unfold B8 at q0 q31
  have e : cbL [b0, b1, b2, b3, b4, b5, b6, b7, b8, b9, b10, b11, b12, b13, b14, b15, b16, b17, b18, b19, b20, b21, b22, b23, b24, b25, b26, b27, b28, b29, b30, b31] = [b0 / 8 * 8, b1, b2, b3, b4, b5, b6, b7, b8, b9, b10, b11, b12, b13, b14, b15, b16, b17, b18, b19, b20, b21, b22, b23, b24, b25, b26, b27, b28, b29, b30, b31 % 64 + 64] := by
    have e1 : IntKind.u8.wrap (IntKind.u8.wrap (b0.tdiv 8) * 8) = b0 / 8 * 8 := by rw [Int.tdiv_eq_ediv_of_nonneg q0.1, u8w (x := b0 / 8) (by omega), u8w (by omega)]
    have e2 : IntKind.u8.wrap (b31.tmod 64 + 64) = b31 % 64 + 64 := by rw [Int.tmod_eq_emod_of_nonneg q31.1, u8w (by omega)]
    rw [← e1, ← e2]
    rfl
  have hb : ∀ x : Int, 0 ≤ x ∧ x < 256 → inR .u8 x = true := fun x hx => by rw [inR_iff]; simp only [lo, hi]; omega
  rw [e]
  refine ⟨⟨rfl, ?_⟩, ?_⟩
  · simp only [List.forall_mem_cons, List.not_mem_nil, false_implies, implies_true, and_true]
    exact ⟨hb _ (by omega), k1, k2, k3, k4, k5, k6, k7, k8, k9, k10, k11, k12, k13, k14, k15, k16, k17, k18, k19, k20, k21, k22, k23, k24, k25, k26, k27, k28, k29, k30, hb _ (by omega)⟩
  · have w0 := W8_W (inR_B8 k7) (inR_B8 k6) (inR_B8 k5) (inR_B8 k4) (inR_B8 k3) (inR_B8 k2) (inR_B8 k1) (inR_B8 k0)
    have w3 := W8_W (inR_B8 k31) (inR_B8 k30) (inR_B8 k29) (inR_B8 k28) (inR_B8 k27) (inR_B8 k26) (inR_B8 k25) (inR_B8 k24)
    have e2 : kwL (litL [b0, b1, b2, b3, b4, b5, b6, b7, b8, b9, b10, b11, b12, b13, b14, b15, b16, b17, b18, b19, b20, b21, b22, b23, b24, b25, b26, b27, b28, b29, b30, b31]) = [iandn .u64 (W8 b7 b6 b5 b4 b3 b2 b1 b0) 7, W8 b15 b14 b13 b12 b11 b10 b9 b8, W8 b23 b22 b21 b20 b19 b18 b17 b16, ior .u64 (iandn .u64 (W8 b31 b30 b29 b28 b27 b26 b25 b24) 9223372036854775808) 4611686018427387904] := rfl
    rw [e2, iandn_seven w0, iandn_top w3, ior_top (by omega)]
    have q1 := inR_B8 k1; have q2 := inR_B8 k2; have q3 := inR_B8 k3; have q4 := inR_B8 k4; have q5 := inR_B8 k5; have q6 := inR_B8 k6; have q7 := inR_B8 k7
    have q24 := inR_B8 k24; have q25 := inR_B8 k25; have q26 := inR_B8 k26; have q27 := inR_B8 k27; have q28 := inR_B8 k28; have q29 := inR_B8 k29; have q30 := inR_B8 k30
    simp only [litL, List.cons.injEq, and_true, true_and]
    unfold W8 B8 at *
    constructor <;> omega
end Go.Proofs.YthddlnldjbijmaaDoor
namespace Go.Mo
open Go.Ev Go.Wn
def byR (l : List Int) : List Int := [IntKind.u8.wrap (IntKind.i64.wrap (((digs l).getD 15 0).tdiv 256)), IntKind.u8.wrap (((digs l).getD 15 0).tmod 256), IntKind.u8.wrap (IntKind.i64.wrap (((digs l).getD 14 0).tdiv 256)), IntKind.u8.wrap (((digs l).getD 14 0).tmod 256), IntKind.u8.wrap (IntKind.i64.wrap (((digs l).getD 13 0).tdiv 256)), IntKind.u8.wrap (((digs l).getD 13 0).tmod 256), IntKind.u8.wrap (IntKind.i64.wrap (((digs l).getD 12 0).tdiv 256)), IntKind.u8.wrap (((digs l).getD 12 0).tmod 256), IntKind.u8.wrap (IntKind.i64.wrap (((digs l).getD 11 0).tdiv 256)), IntKind.u8.wrap (((digs l).getD 11 0).tmod 256), IntKind.u8.wrap (IntKind.i64.wrap (((digs l).getD 10 0).tdiv 256)), IntKind.u8.wrap (((digs l).getD 10 0).tmod 256), IntKind.u8.wrap (IntKind.i64.wrap (((digs l).getD 9 0).tdiv 256)), IntKind.u8.wrap (((digs l).getD 9 0).tmod 256), IntKind.u8.wrap (IntKind.i64.wrap (((digs l).getD 8 0).tdiv 256)), IntKind.u8.wrap (((digs l).getD 8 0).tmod 256), IntKind.u8.wrap (IntKind.i64.wrap (((digs l).getD 7 0).tdiv 256)), IntKind.u8.wrap (((digs l).getD 7 0).tmod 256), IntKind.u8.wrap (IntKind.i64.wrap (((digs l).getD 6 0).tdiv 256)), IntKind.u8.wrap (((digs l).getD 6 0).tmod 256), IntKind.u8.wrap (IntKind.i64.wrap (((digs l).getD 5 0).tdiv 256)), IntKind.u8.wrap (((digs l).getD 5 0).tmod 256), IntKind.u8.wrap (IntKind.i64.wrap (((digs l).getD 4 0).tdiv 256)), IntKind.u8.wrap (((digs l).getD 4 0).tmod 256), IntKind.u8.wrap (IntKind.i64.wrap (((digs l).getD 3 0).tdiv 256)), IntKind.u8.wrap (((digs l).getD 3 0).tmod 256), IntKind.u8.wrap (IntKind.i64.wrap (((digs l).getD 2 0).tdiv 256)), IntKind.u8.wrap (((digs l).getD 2 0).tmod 256), IntKind.u8.wrap (IntKind.i64.wrap (((digs l).getD 1 0).tdiv 256)), IntKind.u8.wrap (((digs l).getD 1 0).tmod 256), IntKind.u8.wrap (IntKind.i64.wrap (((digs l).getD 0 0).tdiv 256)), IntKind.u8.wrap (((digs l).getD 0 0).tmod 256)]
theorem dg_hi {x : Int} (hx : 0 ≤ x ∧ x < 65536) : IntKind.u8.wrap (IntKind.i64.wrap (x.tdiv 256)) = x / 256 := by
  rw [Int.tdiv_eq_ediv_of_nonneg hx.1]
  have : IntKind.i64.wrap (x / 256) = x / 256 := w64_id (x := x / 256) (by omega)
  rw [this, u8w (by omega)]
theorem dg_lo {x : Int} (hx : 0 ≤ x ∧ x < 65536) : IntKind.u8.wrap (x.tmod 256) = x % 256 := by
  rw [Int.tmod_eq_emod_of_nonneg hx.1, u8w (by omega)]
end Go.Mo
namespace Go.Proofs.YthddlnldjbijmaaDoor
open Go.Ev Go.Wn Go.Mo
set_option maxRecDepth 100000
theorem byR_eq {a b c d : Int} (ha : W a) (hb : W b) (hc : W c) (hd : W d) : byR [a, b, c, d] = (turnedL [a, b, c, d]).reverse := by
  have e : (turnedL [a, b, c, d]).reverse = [byteW d 56, byteW d 48, byteW d 40, byteW d 32, byteW d 24, byteW d 16, byteW d 8, byteW d 0, byteW c 56, byteW c 48, byteW c 40, byteW c 32, byteW c 24, byteW c 16, byteW c 8, byteW c 0, byteW b 56, byteW b 48, byteW b 40, byteW b 32, byteW b 24, byteW b 16, byteW b 8, byteW b 0, byteW a 56, byteW a 48, byteW a 40, byteW a 32, byteW a 24, byteW a 16, byteW a 8, byteW a 0] := rfl
  rw [e]
  unfold byR
  simp only [digs, List.getD_cons_zero, List.getD_cons_succ]
  unfold W at *
  simp only [List.cons.injEq, and_true]
  refine ⟨?_, ?_, ?_, ?_, ?_, ?_, ?_, ?_, ?_, ?_, ?_, ?_, ?_, ?_, ?_, ?_, ?_, ?_, ?_, ?_, ?_, ?_, ?_, ?_, ?_, ?_, ?_, ?_, ?_, ?_, ?_, ?_⟩
  all_goals (first | rw [dg_hi (by omega)] | rw [dg_lo (by omega)])
  all_goals (unfold byteW; simp only [Int.reducePow]; omega)
def ybS : List V → E (AV × Mem)
  | [.pl (.ints .u64 4 l)] => some ([], (.slice false 0 0 32 none 1, [some ⟨true, .ints .u8 (some 32) (turnedL l).reverse⟩]))
  | _ => none
theorem yb_eval (l : List Int) : seeV 34 ((funcL Tryd.prog qn (deep Tryd.prog qn hr4 100 3) (fun _ _ => none) 200 25 (cArgs 0 [.pl (.ints .u64 4 l)]) (cMem [.pl (.ints .u64 4 l)])).go []) = some ([], .slice false 34 0 32 none 1, some (some ⟨true, .ints .u8 (some 32) (byR l)⟩)) := by kernel_rfl
theorem yb_ok {xs : List V} {o : List Bool} {v : AV} {bs : Mem} (h : ybS xs = some (o, (v, bs))) : ViewCall Tryd.prog 25 xs v bs := by
  unfold ybS at h
  split at h
  · rename_i l
    cases h
    intro ρ vs w ha hi
    have hb := ha
    cases hb with
    | cons _ _ _ _ r0 hb =>
      obtain ⟨a, b, c, d, rfl, w0, w1, w2, w3⟩ := num_arg r0
      have ev := yb_eval [a, b, c, d]
      rw [byR_eq w0 w1 w2 w3] at ev
      exact viewN_one mixed noCount (hr4_ok.deep (q := qn) mixed noCount 100 3) (lo1 _) [] 34 ev Paid.nil (by show 1 ≤ 34; decide) rfl rfl ha hi
  · cases h
def hr5 : CallH := withV 25 ybS hr4
theorem hr5_ok : HOk Tryd.prog hr5 := hr4_ok.withV fun _ _ _ _ h _ => yb_ok h
end Go.Proofs.YthddlnldjbijmaaDoor
