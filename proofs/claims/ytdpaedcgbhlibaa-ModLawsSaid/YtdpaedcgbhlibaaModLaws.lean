/- Modulo any odd number above 1 sums and products are reckoned in any order, and one in the other; of any other modulus nothing is made: for every modulus and every three numbers the law answers true. No condition. -/
import Derived.Test.YtdpaedcgbhlibaaModK
namespace Go.Proofs.Ytdpaedcgbhlibaa
open Go.Ev Go.Wn
open Go.ChangeShapes Go.WideShapes Go.ChangeAt Go.RowKit
set_option maxRecDepth 100000

def lawsO (d0 d1 d2 d3 d4 d5 d6 d7 : Bool) : List Bool :=
  runs [(1, d0), (1, d1), (2, d2), (4, d3), (1, d2), (4, d3), (1, d2), (2, d3), (5, d4), (1, d2), (2, d4), (1, d2), (6, d4), (1, d2), (1, d4), (1, d2), (2, d4), (5, d5), (1, d2), (2, d5), (1, d2), (6, d5), (1, d2), (1, d5), (1, d2), (2, d5), (6, d6), (1, d2), (1, d6), (1, d2), (5, d6), (1, d2), (4, d6), (1, d2), (1, d6), (1, d2), (2, d6), (5, d7), (1, d2), (2, d7), (1, d2), (4, d7), (1, d2), (2, d7)]
theorem laws_good (m0 m1 m2 m3 a b c d e f g h i j k l : Int) : res ((funcA Try.prog qAsm (deep Try.prog qAll hmA 100 3) 100 11 (cArgs 0 [.pl (.ints .u64 4 [m0, m1, m2, m3]), .pl (.ints .u64 12 [a, b, c, d, e, f, g, h, i, j, k, l])]) (cMem [.pl (.ints .u64 4 [m0, m1, m2, m3]), .pl (.ints .u64 12 [a, b, c, d, e, f, g, h, i, j, k, l])])).go []) =
    some (lawsO (decide (val [m0, m1, m2, m3] % 2 = 1)) (decide (1 < val [m0, m1, m2, m3])) (good (newL [m0, m1, m2, m3])) (decide (limbs ((val [a, b, c, d] + val [e, f, g, h]) % val (newL [m0, m1, m2, m3])) = limbs ((val [e, f, g, h] + val [a, b, c, d]) % val (newL [m0, m1, m2, m3])))) (decide (limbs ((val [a, b, c, d] * val [e, f, g, h]) % val (newL [m0, m1, m2, m3])) = limbs ((val [e, f, g, h] * val [a, b, c, d]) % val (newL [m0, m1, m2, m3])))) (decide (limbs ((val (limbs ((val [a, b, c, d] + val [e, f, g, h]) % val (newL [m0, m1, m2, m3]))) + val [i, j, k, l]) % val (newL [m0, m1, m2, m3])) = limbs ((val [a, b, c, d] + val (limbs ((val [e, f, g, h] + val [i, j, k, l]) % val (newL [m0, m1, m2, m3])))) % val (newL [m0, m1, m2, m3])))) (decide (limbs ((val (limbs ((val [a, b, c, d] * val [e, f, g, h]) % val (newL [m0, m1, m2, m3]))) * val [i, j, k, l]) % val (newL [m0, m1, m2, m3])) = limbs ((val [a, b, c, d] * val (limbs ((val [e, f, g, h] * val [i, j, k, l]) % val (newL [m0, m1, m2, m3])))) % val (newL [m0, m1, m2, m3])))) (decide (limbs ((val [a, b, c, d] * val (limbs ((val [e, f, g, h] + val [i, j, k, l]) % val (newL [m0, m1, m2, m3])))) % val (newL [m0, m1, m2, m3])) = limbs ((val (limbs ((val [a, b, c, d] * val [e, f, g, h]) % val (newL [m0, m1, m2, m3]))) + val (limbs ((val [a, b, c, d] * val [i, j, k, l]) % val (newL [m0, m1, m2, m3])))) % val (newL [m0, m1, m2, m3])))), .bool true (decide (limbs ((val (limbs ((val [a, b, c, d] - val [e, f, g, h]) % val (newL [m0, m1, m2, m3]))) + val [e, f, g, h]) % val (newL [m0, m1, m2, m3])) = limbs ((val [a, b, c, d] + val [0, 0, 0, 0]) % val (newL [m0, m1, m2, m3]))))) := by kernel_rfl
theorem laws_bad (m0 m1 m2 m3 a b c d e f g h i j k l : Int) : (funcA Try.prog qAll (deep Try.prog qAll hmB 100 3) 100 11 (cArgs 0 [.pl (.ints .u64 4 [m0, m1, m2, m3]), .pl (.ints .u64 12 [a, b, c, d, e, f, g, h, i, j, k, l])]) (cMem [.pl (.ints .u64 4 [m0, m1, m2, m3]), .pl (.ints .u64 12 [a, b, c, d, e, f, g, h, i, j, k, l])])).mix = some (badO [m0, m1, m2, m3], .bool true (badV m0 m1 m2 m3)) := by kernel_rfl
theorem modLaws_calls {m l : List Int} (hm : m.length = 4) (rm : ∀ x ∈ m, inR .u64 x = true) (hl : l.length = 12) (rl : ∀ x ∈ l, inR .u64 x = true) (W : World) :
    Calls Try.prog 11 #[.agg (m.map (Value.int .u64)).toArray, .agg (l.map (Value.int .u64)).toArray] W (fun e w' => e = .returned (.bool true) ∧ Below W.heap.size W w') := by
  obtain ⟨m0, m1, m2, m3, rfl⟩ := four hm
  obtain ⟨a, b, c, d, e, f, g, h, i, j, k, n, rfl⟩ := twelve hl
  have hv : VOks W 0 ([.pl (.ints .u64 4 [m0, m1, m2, m3]), .pl (.ints .u64 12 [a, b, c, d, e, f, g, h, i, j, k, n])]) [.agg ([m0, m1, m2, m3].map (Value.int .u64)).toArray, .agg ([a, b, c, d, e, f, g, h, i, j, k, n].map (Value.int .u64)).toArray] :=
    .cons _ _ _ _ _ (VOk.plain fun ρ N => .ints .u64 4 _ hm rm) (.cons _ _ _ _ _ (VOk.plain fun ρ N => .ints .u64 12 _ hl rl) (.nil _))
  have w0 := inR_W (rm m0 (by simp)); have w1 := inR_W (rm m1 (by simp)); have w2 := inR_W (rm m2 (by simp)); have w3 := inR_W (rm m3 (by simp))
  by_cases hbad : val [m0, m1, m2, m3] % 2 = 0 ∨ val [m0, m1, m2, m3] = 1
  · exact law_of_vmix mixed (hmB_ok.deep mixed noCount 100 3) (laws_bad m0 m1 m2 m3 a b c d e f g h i j k n) (bad_paid hbad) (badV_true w0 w1 w2 w3 hbad) hv
  · obtain ⟨hM1, hM2, hG, hM⟩ := good_case w0 w1 w2 w3 hbad
    have ev := laws_good m0 m1 m2 m3 a b c d e f g h i j k n
    generalize newL [m0, m1, m2, m3] = L at *
    simp only [lv hM] at ev
    refine law_of_go mixed (hmA_ok.deep mixed noCount 100 3) [] ev (runs_paid ?_) ?_ hv
    · simp only [List.forall_mem_cons, hM1, hM2, hG, decide_true, true_and, and_true, decide_eq_true_eq, List.not_mem_nil, false_implies, implies_true, mm_l, mul_mod_right, am_l, am_r]
      generalize val [a, b, c, d] = A
      generalize val [e, f, g, h] = B
      generalize val [i, j, k, n] = C
      rw [Int.add_comm B A, Int.mul_comm B A, Int.add_assoc, Int.mul_assoc, Int.mul_add]
      simp
    · rw [decide_eq_true_eq]
      generalize val [a, b, c, d] = A
      generalize val [e, f, g, h] = B
      rw [show val [0, 0, 0, 0] = 0 from rfl, am_l, Int.sub_add_cancel, Int.add_zero]

theorem modLaws_lifted (os : Os) (started : os.Started) (H : Type) (enc : TypeId × Value → H) :
    ReturnsInHanded {} Try.checked os 11 .any (Rows.modLawsSpec.pre6 enc Try.prog Try.f11 Rows.modLawsRow.domain false) (Rows.modLawsSpec.post enc Try.prog Try.f11 false true false false) := by
  refine returnsInHanded_of_change (C := Try.checked) own started (by kernel_rfl) Try.func11
    (ChangeSpec.witness6 (enc := enc) (C := Try.checked) false ⟨#[], #[.agg #[.int .u64 0, .int .u64 0, .int .u64 0, .int .u64 0], .agg #[.int .u64 0, .int .u64 0, .int .u64 0, .int .u64 0, .int .u64 0, .int .u64 0, .int .u64 0, .int .u64 0, .int .u64 0, .int .u64 0, .int .u64 0, .int .u64 0]], []⟩ 8 (by kernel_rfl) (by kernel_rfl) (by kernel_rfl) (by kernel_rfl)) ?_
  intro W base args ds gs before hval0 hW hcnd _
  have hval : ∀ (j : Nat) t v, Try.f11.params[j]? = some t → args[j]? = some v → Value.okWide Try.prog W .any base t v := hval0
  have hW' := hW
  obtain ⟨p, q, hA0, hV, rfl, hfz, hnd⟩ := hW
  have hA : DataW.TrodAll enc Try.prog W 0 (fun _ => true) true Try.f11.params.toList args.toList ds p := hA0
  rw [Try.params11] at hA hval
  obtain ⟨v0, v1, d0, d1, p0, p1, hargs, rfl, rfl, g0, g1⟩ := trodAll_two hA
  have hargs' : args = #[v0, v1] := by simpa using hargs
  subst hargs'
  obtain ⟨rfl, rfl⟩ := trodVars_none hV
  obtain ⟨l0, k0, rfl, r0⟩ := num_open (hval 0 _ v0 rfl rfl)
  obtain ⟨l1, k1, rfl, r1⟩ := arr_rep Try.underlying56 (n := 12) (by kernel_rfl) (show Try.prog.cellTypes Try.prog.depth 56 = some (List.replicate 12 22) by kernel_rfl) (e := 22) (by intro x hx; exact List.eq_of_mem_replicate hx) Try.underlying22 (hval 1 _ v1 rfl rfl)
  refine (modLaws_calls k0 r0 k1 r1 W).mono fun e W' ⟨he, hb⟩ => ?_
  exact ⟨_, he, post_of_law laidOut (by rw [Try.params11]; decide +kernel) hW' rfl rfl Try.underlying4 rfl rfl rfl hb⟩

theorem modLaws_holds : Rows.ModLawsSaid :=
  OpenClaim.holds_of_wide 11 Try.f11 rfl rfl rfl rfl rfl rfl rfl ⟨rfl, rfl, rfl, rfl, rfl⟩ rfl rfl rfl rfl rfl (by kernel_rfl) Try.func11 (by kernel_rfl)
    (of_decide_eq_true (by kernel_rfl)) (by unfold Func.isWrapper; first | (rw [if_pos (by decide +kernel)]; kernel_rfl) | (rw [if_neg (by decide +kernel)]; exact ⟨rfl, rfl⟩))
    (fun os started H enc _ => modLaws_lifted os started H enc)
end Go.Proofs.Ytdpaedcgbhlibaa
