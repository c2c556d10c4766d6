/- Powers and inverses are the reference numbers, whatever the modulus, the number and the exponent, and a modulus that is even or 1 is refused: for every modulus and every two numbers the law answers true. No condition. -/
import Derived.Test.YtdpaedcgbhlibaaRefQ
namespace Go.Proofs.Ytdpaedcgbhlibaa
open Go.Ev Go.Wn
open Go.ChangeShapes Go.WideShapes Go.ChangeAt Go.RowKit
set_option maxRecDepth 100000

def powsO (d0 d1 d2 d3 d4 : Bool) : List Bool := runs [(1, d0), (1, d1), (1, d2), (1, d3), (3, d4), (1, d2), (3, d4), (1, d3), (2, d4)]
theorem pows_good (m0 m1 m2 m3 a b c d e f g h : Int) : res ((funcA Try.prog qAsm (deep Try.prog qAll hgA 100 3) 100 9 (cArgs 0 [.pl (.ints .u64 4 [m0, m1, m2, m3]), .pl (.ints .u64 4 [a, b, c, d]), .pl (.ints .u64 4 [e, f, g, h])]) (cMem [.pl (.ints .u64 4 [m0, m1, m2, m3]), .pl (.ints .u64 4 [a, b, c, d]), .pl (.ints .u64 4 [e, f, g, h])])).go []) =
    some (powsO (decide (val [m0, m1, m2, m3] % 2 = 1)) (decide (1 < val [m0, m1, m2, m3])) (good (newL [m0, m1, m2, m3])) (decide (0 < val [m0, m1, m2, m3] ∧ val [m0, m1, m2, m3] < W4)) (decide (limbs (val [a, b, c, d] ^ (val [e, f, g, h]).toNat % val (newL [m0, m1, m2, m3])) = limbs (val [a, b, c, d] ^ (val [e, f, g, h]).toNat % val [m0, m1, m2, m3]))), .bool true (decide (limbs (val [a, b, c, d] ^ (val (newL [m0, m1, m2, m3]) - 2).toNat % val (newL [m0, m1, m2, m3])) = limbs (val [a, b, c, d] ^ (val (limbs (val [m0, m1, m2, m3] - val [2, 0, 0, 0]))).toNat % val [m0, m1, m2, m3])))) := by kernel_rfl
theorem pows_bad (m0 m1 m2 m3 a b c d e f g h : Int) : (funcA Try.prog qAll (deep Try.prog qAll hgB 100 3) 100 9 (cArgs 0 [.pl (.ints .u64 4 [m0, m1, m2, m3]), .pl (.ints .u64 4 [a, b, c, d]), .pl (.ints .u64 4 [e, f, g, h])]) (cMem [.pl (.ints .u64 4 [m0, m1, m2, m3]), .pl (.ints .u64 4 [a, b, c, d]), .pl (.ints .u64 4 [e, f, g, h])])).mix = some (badO [m0, m1, m2, m3], .bool true (badV m0 m1 m2 m3)) := by kernel_rfl
theorem less_two {L : List Int} (h1 : 1 < val L) (hM : 0 < val L ∧ val L < W4) : val (limbs (val L - val [2, 0, 0, 0])) = val L - 2 := by
  rw [val_limbs, show val [2, 0, 0, 0] = 2 from rfl]
  exact Int.emod_eq_of_lt (by omega) (Int.lt_trans (by omega) hM.2)
theorem modPowers_calls {m n l : List Int} (hm : m.length = 4) (rm : ∀ x ∈ m, inR .u64 x = true) (hn : n.length = 4) (rn : ∀ x ∈ n, inR .u64 x = true) (hl : l.length = 4) (rl : ∀ x ∈ l, inR .u64 x = true) (W : World) :
    Calls Try.prog 9 #[.agg (m.map (Value.int .u64)).toArray, .agg (n.map (Value.int .u64)).toArray, .agg (l.map (Value.int .u64)).toArray] W (fun e w' => e = .returned (.bool true) ∧ Below W.heap.size W w') := by
  obtain ⟨m0, m1, m2, m3, rfl⟩ := four hm
  obtain ⟨a, b, c, d, rfl⟩ := four hn
  obtain ⟨e, f, g, h, rfl⟩ := four hl
  have hv : VOks W 0 ([.pl (.ints .u64 4 [m0, m1, m2, m3]), .pl (.ints .u64 4 [a, b, c, d]), .pl (.ints .u64 4 [e, f, g, h])]) [.agg ([m0, m1, m2, m3].map (Value.int .u64)).toArray, .agg ([a, b, c, d].map (Value.int .u64)).toArray, .agg ([e, f, g, h].map (Value.int .u64)).toArray] :=
    .cons _ _ _ _ _ (VOk.plain fun ρ N => .ints .u64 4 _ hm rm) (.cons _ _ _ _ _ (VOk.plain fun ρ N => .ints .u64 4 _ hn rn) (.cons _ _ _ _ _ (VOk.plain fun ρ N => .ints .u64 4 _ hl rl) (.nil _)))
  have w0 := inR_W (rm m0 (by simp)); have w1 := inR_W (rm m1 (by simp)); have w2 := inR_W (rm m2 (by simp)); have w3 := inR_W (rm m3 (by simp))
  by_cases hbad : val [m0, m1, m2, m3] % 2 = 0 ∨ val [m0, m1, m2, m3] = 1
  · exact law_of_vmix mixed (hgB_ok.deep mixed noCount 100 3) (pows_bad m0 m1 m2 m3 a b c d e f g h) (bad_paid hbad) (badV_true w0 w1 w2 w3 hbad) hv
  · obtain ⟨hM1, hM2, hG, hM⟩ := good_case w0 w1 w2 w3 hbad
    have ev := pows_good m0 m1 m2 m3 a b c d e f g h
    have eM : val [m0, m1, m2, m3] = val (newL [m0, m1, m2, m3]) := rfl
    rw [eM] at ev hM1 hM2
    generalize newL [m0, m1, m2, m3] = L at *
    rw [less_two hM2 hM] at ev
    refine law_of_go mixed (hgA_ok.deep mixed noCount 100 3) [] ev (runs_paid ?_) (decide_eq_true rfl) hv
    simp only [List.forall_mem_cons, hM1, hM2, hG, hM.1, hM.2, decide_true, and_self, List.not_mem_nil, false_implies, implies_true]

theorem modPowers_lifted (os : Os) (started : os.Started) (H : Type) (enc : TypeId × Value → H) :
    ReturnsInHanded {} Try.checked os 9 .any (Rows.modPowersSpec.pre6 enc Try.prog Try.f9 Rows.modPowersRow.domain false) (Rows.modPowersSpec.post enc Try.prog Try.f9 false true false false) := by
  refine returnsInHanded_of_change (C := Try.checked) own started (by kernel_rfl) Try.func9
    (ChangeSpec.witness6 (enc := enc) (C := Try.checked) false ⟨#[], #[.agg #[.int .u64 0, .int .u64 0, .int .u64 0, .int .u64 0], .agg #[.int .u64 0, .int .u64 0, .int .u64 0, .int .u64 0], .agg #[.int .u64 0, .int .u64 0, .int .u64 0, .int .u64 0]], []⟩ 8 (by kernel_rfl) (by kernel_rfl) (by kernel_rfl) (by kernel_rfl)) ?_
  intro W base args ds gs before hval0 hW hcnd _
  have hval : ∀ (j : Nat) t v, Try.f9.params[j]? = some t → args[j]? = some v → Value.okWide Try.prog W .any base t v := hval0
  have hW' := hW
  obtain ⟨p, q, hA0, hV, rfl, hfz, hnd⟩ := hW
  have hA : DataW.TrodAll enc Try.prog W 0 (fun _ => true) true Try.f9.params.toList args.toList ds p := hA0
  rw [Try.params9] at hA hval
  obtain ⟨v0, v1, v2, d0, d1, d2, p0, p1, p2, hargs, rfl, rfl, g0, g1, g2⟩ := trodAll_three hA
  have hargs' : args = #[v0, v1, v2] := by simpa using hargs
  subst hargs'
  obtain ⟨rfl, rfl⟩ := trodVars_none hV
  obtain ⟨l0, k0, rfl, r0⟩ := num_open (hval 0 _ v0 rfl rfl)
  obtain ⟨l1, k1, rfl, r1⟩ := num_open (hval 1 _ v1 rfl rfl)
  obtain ⟨l2, k2, rfl, r2⟩ := num_open (hval 2 _ v2 rfl rfl)
  refine (modPowers_calls k0 r0 k1 r1 k2 r2 W).mono fun e W' ⟨he, hb⟩ => ?_
  exact ⟨_, he, post_of_law laidOut (by rw [Try.params9]; decide +kernel) hW' rfl rfl Try.underlying4 rfl rfl rfl hb⟩

theorem modPowers_holds : Rows.ModPowersSaid :=
  OpenClaim.holds_of_wide 9 Try.f9 rfl rfl rfl rfl rfl rfl rfl ⟨rfl, rfl, rfl, rfl, rfl⟩ rfl rfl rfl rfl rfl (by kernel_rfl) Try.func9 (by kernel_rfl)
    (of_decide_eq_true (by kernel_rfl)) (by unfold Func.isWrapper; first | (rw [if_pos (by decide +kernel)]; kernel_rfl) | (rw [if_neg (by decide +kernel)]; exact ⟨rfl, rfl⟩))
    (fun os started H enc _ => modPowers_lifted os started H enc)
end Go.Proofs.Ytdpaedcgbhlibaa
