/- Nothing less a number is what makes nothing of it, and numbers that are alike modulo the modulus are reckoned alike: for every modulus and every two numbers the law answers true. No condition. -/
import Derived.Test.YtdpaedcgbhlibaaRefA
namespace Go.Proofs.Ytdpaedcgbhlibaa
open Go.Ev Go.Wn
open Go.ChangeShapes Go.WideShapes Go.ChangeAt Go.RowKit
set_option maxRecDepth 100000

def negO (d0 d1 d2 d3 d4 d5 d6 d7 : Bool) : List Bool := runs [(1, d0), (1, d1), (1, d2), (1, d3), (1, d2), (4, d4), (1, d2), (6, d4), (1, d2), (1, d4), (1, d2), (2, d4), (4, d5), (1, d2), (4, d5), (1, d2), (2, d5), (4, d6), (1, d2), (4, d6), (1, d2), (2, d6), (4, d7), (1, d2), (4, d7), (1, d2), (2, d7)]
theorem neg_good (m0 m1 m2 m3 a b c d e f g h : Int) : res ((funcA Try.prog qAsm (deep Try.prog qAll hfA 100 3) 100 14 (cArgs 0 [.pl (.ints .u64 4 [m0, m1, m2, m3]), .pl (.ints .u64 4 [a, b, c, d]), .pl (.ints .u64 4 [e, f, g, h])]) (cMem [.pl (.ints .u64 4 [m0, m1, m2, m3]), .pl (.ints .u64 4 [a, b, c, d]), .pl (.ints .u64 4 [e, f, g, h])])).go []) =
    some (negO (decide (val [m0, m1, m2, m3] % 2 = 1)) (decide (1 < val [m0, m1, m2, m3])) (good (newL [m0, m1, m2, m3])) (decide (0 < val [m0, m1, m2, m3])) (decide (limbs ((val (limbs ((val [0, 0, 0, 0] - val [a, b, c, d]) % val (newL [m0, m1, m2, m3]))) + val [a, b, c, d]) % val (newL [m0, m1, m2, m3])) = [0, 0, 0, 0])) (decide (limbs ((val (limbs ((val [0, 0, 0, 0] - val [a, b, c, d]) % val (newL [m0, m1, m2, m3]))) * val [e, f, g, h]) % val (newL [m0, m1, m2, m3])) = limbs ((val [0, 0, 0, 0] - val (limbs ((val [a, b, c, d] * val [e, f, g, h]) % val (newL [m0, m1, m2, m3])))) % val (newL [m0, m1, m2, m3])))) (decide (limbs ((val (limbs (val [a, b, c, d] % val [m0, m1, m2, m3])) + val [e, f, g, h]) % val (newL [m0, m1, m2, m3])) = limbs ((val [a, b, c, d] + val [e, f, g, h]) % val (newL [m0, m1, m2, m3])))) (decide (limbs ((val (limbs (val [a, b, c, d] % val [m0, m1, m2, m3])) * val [e, f, g, h]) % val (newL [m0, m1, m2, m3])) = limbs ((val [a, b, c, d] * val [e, f, g, h]) % val (newL [m0, m1, m2, m3])))), .bool true (decide (limbs ((val [e, f, g, h] - val (limbs (val [a, b, c, d] % val [m0, m1, m2, m3]))) % val (newL [m0, m1, m2, m3])) = limbs ((val [e, f, g, h] - val [a, b, c, d]) % val (newL [m0, m1, m2, m3]))))) := by kernel_rfl
theorem neg_bad (m0 m1 m2 m3 a b c d e f g h : Int) : (funcA Try.prog qAll (deep Try.prog qAll hfB 100 3) 100 14 (cArgs 0 [.pl (.ints .u64 4 [m0, m1, m2, m3]), .pl (.ints .u64 4 [a, b, c, d]), .pl (.ints .u64 4 [e, f, g, h])]) (cMem [.pl (.ints .u64 4 [m0, m1, m2, m3]), .pl (.ints .u64 4 [a, b, c, d]), .pl (.ints .u64 4 [e, f, g, h])])).mix = some (badO [m0, m1, m2, m3], .bool true (badV m0 m1 m2 m3)) := by kernel_rfl
theorem modNegates_calls {m n l : List Int} (hm : m.length = 4) (rm : ∀ x ∈ m, inR .u64 x = true) (hn : n.length = 4) (rn : ∀ x ∈ n, inR .u64 x = true) (hl : l.length = 4) (rl : ∀ x ∈ l, inR .u64 x = true) (W : World) :
    Calls Try.prog 14 #[.agg (m.map (Value.int .u64)).toArray, .agg (n.map (Value.int .u64)).toArray, .agg (l.map (Value.int .u64)).toArray] W (fun e w' => e = .returned (.bool true) ∧ Below W.heap.size W w') := by
  obtain ⟨m0, m1, m2, m3, rfl⟩ := four hm
  obtain ⟨a, b, c, d, rfl⟩ := four hn
  obtain ⟨e, f, g, h, rfl⟩ := four hl
  have hv : VOks W 0 ([.pl (.ints .u64 4 [m0, m1, m2, m3]), .pl (.ints .u64 4 [a, b, c, d]), .pl (.ints .u64 4 [e, f, g, h])]) [.agg ([m0, m1, m2, m3].map (Value.int .u64)).toArray, .agg ([a, b, c, d].map (Value.int .u64)).toArray, .agg ([e, f, g, h].map (Value.int .u64)).toArray] :=
    .cons _ _ _ _ _ (VOk.plain fun ρ N => .ints .u64 4 _ hm rm) (.cons _ _ _ _ _ (VOk.plain fun ρ N => .ints .u64 4 _ hn rn) (.cons _ _ _ _ _ (VOk.plain fun ρ N => .ints .u64 4 _ hl rl) (.nil _)))
  have w0 := inR_W (rm m0 (by simp)); have w1 := inR_W (rm m1 (by simp)); have w2 := inR_W (rm m2 (by simp)); have w3 := inR_W (rm m3 (by simp))
  by_cases hbad : val [m0, m1, m2, m3] % 2 = 0 ∨ val [m0, m1, m2, m3] = 1
  · exact law_of_vmix mixed (hfB_ok.deep mixed noCount 100 3) (neg_bad m0 m1 m2 m3 a b c d e f g h) (bad_paid hbad) (badV_true w0 w1 w2 w3 hbad) hv
  · obtain ⟨hM1, hM2, hG, hM⟩ := good_case w0 w1 w2 w3 hbad
    have ev := neg_good m0 m1 m2 m3 a b c d e f g h
    have eM : val [m0, m1, m2, m3] = val (newL [m0, m1, m2, m3]) := rfl
    rw [eM] at ev hM1 hM2
    generalize newL [m0, m1, m2, m3] = L at *
    simp only [lv hM] at ev
    have z : val [0, 0, 0, 0] = 0 := rfl
    refine law_of_go mixed (hfA_ok.deep mixed noCount 100 3) [] ev (runs_paid ?_) ?_ hv
    · have d0 : (0 : Int) < val L := hM.1
      have g0 : (val [0, 0, 0, 0] - val [a, b, c, d] + val [a, b, c, d]) % val L = 0 := by rw [z, Int.sub_add_cancel]; exact Int.zero_emod _
      have g1 : (val [0, 0, 0, 0] - val [a, b, c, d]) * val [e, f, g, h] % val L = (val [0, 0, 0, 0] - val [a, b, c, d] * val [e, f, g, h]) % val L := by rw [z, Int.sub_mul, Int.zero_mul]
      simp only [List.forall_mem_cons, hM1, hM2, hG, d0, decide_true, and_true, decide_eq_true_eq, List.not_mem_nil, false_implies, implies_true, mm_l, am_l, sm_r, g0, g1]
      simp [limbs]
    · rw [decide_eq_true_eq, sm_r]

theorem modNegates_lifted (os : Os) (started : os.Started) (H : Type) (enc : TypeId × Value → H) :
    ReturnsInHanded {} Try.checked os 14 .any (Rows.modNegatesSpec.pre6 enc Try.prog Try.f14 Rows.modNegatesRow.domain false) (Rows.modNegatesSpec.post enc Try.prog Try.f14 false true false false) := by
  refine returnsInHanded_of_change (C := Try.checked) own started (by kernel_rfl) Try.func14
    (ChangeSpec.witness6 (enc := enc) (C := Try.checked) false ⟨#[], #[.agg #[.int .u64 0, .int .u64 0, .int .u64 0, .int .u64 0], .agg #[.int .u64 0, .int .u64 0, .int .u64 0, .int .u64 0], .agg #[.int .u64 0, .int .u64 0, .int .u64 0, .int .u64 0]], []⟩ 8 (by kernel_rfl) (by kernel_rfl) (by kernel_rfl) (by kernel_rfl)) ?_
  intro W base args ds gs before hval0 hW hcnd _
  have hval : ∀ (j : Nat) t v, Try.f14.params[j]? = some t → args[j]? = some v → Value.okWide Try.prog W .any base t v := hval0
  have hW' := hW
  obtain ⟨p, q, hA0, hV, rfl, hfz, hnd⟩ := hW
  have hA : DataW.TrodAll enc Try.prog W 0 (fun _ => true) true Try.f14.params.toList args.toList ds p := hA0
  rw [Try.params14] at hA hval
  obtain ⟨v0, v1, v2, d0, d1, d2, p0, p1, p2, hargs, rfl, rfl, g0, g1, g2⟩ := trodAll_three hA
  have hargs' : args = #[v0, v1, v2] := by simpa using hargs
  subst hargs'
  obtain ⟨rfl, rfl⟩ := trodVars_none hV
  obtain ⟨l0, k0, rfl, r0⟩ := num_open (hval 0 _ v0 rfl rfl)
  obtain ⟨l1, k1, rfl, r1⟩ := num_open (hval 1 _ v1 rfl rfl)
  obtain ⟨l2, k2, rfl, r2⟩ := num_open (hval 2 _ v2 rfl rfl)
  refine (modNegates_calls k0 r0 k1 r1 k2 r2 W).mono fun e W' ⟨he, hb⟩ => ?_
  exact ⟨_, he, post_of_law laidOut (by rw [Try.params14]; decide +kernel) hW' rfl rfl Try.underlying4 rfl rfl rfl hb⟩

theorem modNegates_holds : Rows.ModNegatesSaid :=
  OpenClaim.holds_of_wide 14 Try.f14 rfl rfl rfl rfl rfl rfl rfl ⟨rfl, rfl, rfl, rfl, rfl⟩ rfl rfl rfl rfl rfl (by kernel_rfl) Try.func14 (by kernel_rfl)
    (of_decide_eq_true (by kernel_rfl)) (by unfold Func.isWrapper; first | (rw [if_pos (by decide +kernel)]; kernel_rfl) | (rw [if_neg (by decide +kernel)]; exact ⟨rfl, rfl⟩))
    (fun os started H enc _ => modNegates_lifted os started H enc)
end Go.Proofs.Ytdpaedcgbhlibaa
