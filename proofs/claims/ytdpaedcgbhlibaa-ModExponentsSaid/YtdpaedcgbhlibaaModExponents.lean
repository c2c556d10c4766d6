/- Powers of one number are multiplied by adding their exponents: for every modulus, every number and every two exponents of a word the law answers true. No condition. -/
import Derived.Test.YtdpaedcgbhlibaaModK
namespace Go.Proofs.Ytdpaedcgbhlibaa
open Go.Ev Go.Wn
open Go.ChangeShapes Go.WideShapes Go.ChangeAt Go.RowKit
set_option maxRecDepth 100000

def expO (d0 d1 d2 d3 d4 d5 : Bool) : List Bool := runs [(1, d0), (1, d1), (1, d2), (4, d3), (4, d4), (1, d3), (4, d4), (1, d3), (2, d4), (4, d5), (1, d3), (4, d5), (1, d3), (2, d5)]
theorem exp_over (m0 m1 m2 m3 a b c d e f : Int) : res ((funcA Try.prog qAsm (deep Try.prog qAll hmA 100 3) 100 13 (cArgs 0 [.pl (.ints .u64 4 [m0, m1, m2, m3]), .pl (.ints .u64 4 [a, b, c, d]), .pl (.agg [.int true .u64 e, .int true .u64 f])]) (cMem [.pl (.ints .u64 4 [m0, m1, m2, m3]), .pl (.ints .u64 4 [a, b, c, d]), .pl (.agg [.int true .u64 e, .int true .u64 f])])).go [true]) =
    some (expO (decide (val [m0, m1, m2, m3] % 2 = 1)) (decide (1 < val [m0, m1, m2, m3])) (decide (IntKind.u64.wrap (e + f) < f)) (good (newL [m0, m1, m2, m3])) (decide (limbs (val (limbs (val [a, b, c, d] ^ (val [e, 0, 0, 0]).toNat % val (newL [m0, m1, m2, m3]))) * val (limbs (val [a, b, c, d] ^ (val [f, 0, 0, 0]).toNat % val (newL [m0, m1, m2, m3]))) % val (newL [m0, m1, m2, m3])) = limbs (val [a, b, c, d] ^ (val [IntKind.u64.wrap (e + f), 1, 0, 0]).toNat % val (newL [m0, m1, m2, m3])))) (decide (limbs (val [a, b, c, d] ^ (val [1, 0, 0, 0]).toNat % val (newL [m0, m1, m2, m3])) = limbs ((val [a, b, c, d] + val [0, 0, 0, 0]) % val (newL [m0, m1, m2, m3])))), .bool true (decide (limbs (val [a, b, c, d] ^ (val [0, 0, 0, 0]).toNat % val (newL [m0, m1, m2, m3])) = limbs ((val [1, 0, 0, 0] + val [0, 0, 0, 0]) % val (newL [m0, m1, m2, m3]))))) := by kernel_rfl
theorem exp_not (m0 m1 m2 m3 a b c d e f : Int) : res ((funcA Try.prog qAsm (deep Try.prog qAll hmA 100 3) 100 13 (cArgs 0 [.pl (.ints .u64 4 [m0, m1, m2, m3]), .pl (.ints .u64 4 [a, b, c, d]), .pl (.agg [.int true .u64 e, .int true .u64 f])]) (cMem [.pl (.ints .u64 4 [m0, m1, m2, m3]), .pl (.ints .u64 4 [a, b, c, d]), .pl (.agg [.int true .u64 e, .int true .u64 f])])).go [false]) =
    some (expO (decide (val [m0, m1, m2, m3] % 2 = 1)) (decide (1 < val [m0, m1, m2, m3])) (!decide (IntKind.u64.wrap (e + f) < f)) (good (newL [m0, m1, m2, m3])) (decide (limbs (val (limbs (val [a, b, c, d] ^ (val [e, 0, 0, 0]).toNat % val (newL [m0, m1, m2, m3]))) * val (limbs (val [a, b, c, d] ^ (val [f, 0, 0, 0]).toNat % val (newL [m0, m1, m2, m3]))) % val (newL [m0, m1, m2, m3])) = limbs (val [a, b, c, d] ^ (val [IntKind.u64.wrap (e + f), 0, 0, 0]).toNat % val (newL [m0, m1, m2, m3])))) (decide (limbs (val [a, b, c, d] ^ (val [1, 0, 0, 0]).toNat % val (newL [m0, m1, m2, m3])) = limbs ((val [a, b, c, d] + val [0, 0, 0, 0]) % val (newL [m0, m1, m2, m3])))), .bool true (decide (limbs (val [a, b, c, d] ^ (val [0, 0, 0, 0]).toNat % val (newL [m0, m1, m2, m3])) = limbs ((val [1, 0, 0, 0] + val [0, 0, 0, 0]) % val (newL [m0, m1, m2, m3]))))) := by kernel_rfl
theorem exp_bad (m0 m1 m2 m3 a b c d e f : Int) : (funcA Try.prog qAll (deep Try.prog qAll hmB 100 3) 100 13 (cArgs 0 [.pl (.ints .u64 4 [m0, m1, m2, m3]), .pl (.ints .u64 4 [a, b, c, d]), .pl (.agg [.int true .u64 e, .int true .u64 f])]) (cMem [.pl (.ints .u64 4 [m0, m1, m2, m3]), .pl (.ints .u64 4 [a, b, c, d]), .pl (.agg [.int true .u64 e, .int true .u64 f])])).mix = some (badO [m0, m1, m2, m3], .bool true (badV m0 m1 m2 m3)) := by kernel_rfl
theorem two_words {l : List Int} (h : l.length = 2) : ∃ a b, l = [a, b] := by
  match l, h with
  | [a, b], _ => exact ⟨a, b, rfl⟩
theorem exp_sum {A M : Int} {x y z : List Int} (hx : 0 ≤ val x) (hy : 0 ≤ val y) (h : val x + val y = val z) : A ^ (val x).toNat * A ^ (val y).toNat % M = A ^ (val z).toNat % M := by
  rw [← Int.pow_add, ← h, Int.toNat_add hx hy]
theorem modExponents_calls {m n l : List Int} (hm : m.length = 4) (rm : ∀ x ∈ m, inR .u64 x = true) (hn : n.length = 4) (rn : ∀ x ∈ n, inR .u64 x = true) (hl : l.length = 2) (rl : ∀ x ∈ l, inR .u64 x = true) (W : World) :
    Calls Try.prog 13 #[.agg (m.map (Value.int .u64)).toArray, .agg (n.map (Value.int .u64)).toArray, .agg (l.map (Value.int .u64)).toArray] W (fun e w' => e = .returned (.bool true) ∧ Below W.heap.size W w') := by
  obtain ⟨m0, m1, m2, m3, rfl⟩ := four hm
  obtain ⟨a, b, c, d, rfl⟩ := four hn
  obtain ⟨e, f, rfl⟩ := two_words hl
  have re := rl e (by simp); have rf := rl f (by simp)
  have hv : VOks W 0 ([.pl (.ints .u64 4 [m0, m1, m2, m3]), .pl (.ints .u64 4 [a, b, c, d]), .pl (.agg [.int true .u64 e, .int true .u64 f])]) [.agg ([m0, m1, m2, m3].map (Value.int .u64)).toArray, .agg ([a, b, c, d].map (Value.int .u64)).toArray, .agg ([e, f].map (Value.int .u64)).toArray] :=
    .cons _ _ _ _ _ (VOk.plain fun ρ N => .ints .u64 4 _ hm rm) (.cons _ _ _ _ _ (VOk.plain fun ρ N => .ints .u64 4 _ hn rn) (.cons _ _ _ _ _ (VOk.plain fun ρ N => .agg _ [_, _] (.cons _ _ _ _ (.int true .u64 e re) (.cons _ _ _ _ (.int true .u64 f rf) .nil))) (.nil _)))
  have w0 := inR_W (rm m0 (by simp)); have w1 := inR_W (rm m1 (by simp)); have w2 := inR_W (rm m2 (by simp)); have w3 := inR_W (rm m3 (by simp))
  have we := inR_W re; have wf := inR_W rf
  by_cases hbad : val [m0, m1, m2, m3] % 2 = 0 ∨ val [m0, m1, m2, m3] = 1
  · exact law_of_vmix mixed (hmB_ok.deep mixed noCount 100 3) (exp_bad m0 m1 m2 m3 a b c d e f) (bad_paid hbad) (badV_true w0 w1 w2 w3 hbad) hv
  · obtain ⟨hM1, hM2, hG, hM⟩ := good_case w0 w1 w2 w3 hbad
    have ev1 := exp_over m0 m1 m2 m3 a b c d e f
    have ev0 := exp_not m0 m1 m2 m3 a b c d e f
    generalize newL [m0, m1, m2, m3] = L at *
    generalize val [a, b, c, d] = A at *
    simp only [lv hM] at ev1 ev0
    have h1 : (val [1, 0, 0, 0]).toNat = 1 := rfl
    have h0 : (val [0, 0, 0, 0]).toNat = 0 := rfl
    have z0 : val [0, 0, 0, 0] = 0 := rfl
    have z1 : val [1, 0, 0, 0] = 1 := rfl
    have hs : IntKind.u64.wrap (e + f) = (e + f) % 18446744073709551616 := wrap_eq _
    obtain ⟨we1, we2⟩ := we
    obtain ⟨wf1, wf2⟩ := wf
    have pe : 0 ≤ val [e, 0, 0, 0] := by simp [val]; omega
    have pf : 0 ≤ val [f, 0, 0, 0] := by simp [val]; omega
    by_cases hc : IntKind.u64.wrap (e + f) < f
    · refine law_of_go mixed (hmA_ok.deep mixed noCount 100 3) [true] ev1 (runs_paid ?_) ?_ hv
      · have key := exp_sum (A := A) (M := val L) (z := [IntKind.u64.wrap (e + f), 1, 0, 0]) pe pf (by rw [hs] at hc ⊢; simp [val]; omega)
        simp only [List.forall_mem_cons, hM1, hM2, hG, hc, decide_true, true_and, and_true, decide_eq_true_eq, List.not_mem_nil, false_implies, implies_true, mm_l, mul_mod_right, h1, z0, Int.add_zero, Int.pow_one, key]
      · rw [decide_eq_true_eq, h0, z0, z1, Int.pow_zero, Int.add_zero]
    · refine law_of_go mixed (hmA_ok.deep mixed noCount 100 3) [false] ev0 (runs_paid ?_) ?_ hv
      · have key := exp_sum (A := A) (M := val L) (z := [IntKind.u64.wrap (e + f), 0, 0, 0]) pe pf (by rw [hs] at hc ⊢; simp [val]; omega)
        simp only [List.forall_mem_cons, hM1, hM2, hG, hc, decide_true, decide_false, Bool.not_false, true_and, and_true, decide_eq_true_eq, List.not_mem_nil, false_implies, implies_true, mm_l, mul_mod_right, h1, z0, Int.add_zero, Int.pow_one, key]
      · rw [decide_eq_true_eq, h0, z0, z1, Int.pow_zero, Int.add_zero]

theorem modExponents_lifted (os : Os) (started : os.Started) (H : Type) (enc : TypeId × Value → H) :
    ReturnsInHanded {} Try.checked os 13 .any (Rows.modExponentsSpec.pre6 enc Try.prog Try.f13 Rows.modExponentsRow.domain false) (Rows.modExponentsSpec.post enc Try.prog Try.f13 false true false false) := by
  refine returnsInHanded_of_change (C := Try.checked) own started (by kernel_rfl) Try.func13
    (ChangeSpec.witness6 (enc := enc) (C := Try.checked) false ⟨#[], #[.agg #[.int .u64 0, .int .u64 0, .int .u64 0, .int .u64 0], .agg #[.int .u64 0, .int .u64 0, .int .u64 0, .int .u64 0], .agg #[.int .u64 0, .int .u64 0]], []⟩ 8 (by kernel_rfl) (by kernel_rfl) (by kernel_rfl) (by kernel_rfl)) ?_
  intro W base args ds gs before hval0 hW hcnd _
  have hval : ∀ (j : Nat) t v, Try.f13.params[j]? = some t → args[j]? = some v → Value.okWide Try.prog W .any base t v := hval0
  have hW' := hW
  obtain ⟨p, q, hA0, hV, rfl, hfz, hnd⟩ := hW
  have hA : DataW.TrodAll enc Try.prog W 0 (fun _ => true) true Try.f13.params.toList args.toList ds p := hA0
  rw [Try.params13] at hA hval
  obtain ⟨v0, v1, v2, d0, d1, d2, p0, p1, p2, hargs, rfl, rfl, g0, g1, g2⟩ := trodAll_three hA
  have hargs' : args = #[v0, v1, v2] := by simpa using hargs
  subst hargs'
  obtain ⟨rfl, rfl⟩ := trodVars_none hV
  obtain ⟨l0, k0, rfl, r0⟩ := num_open (hval 0 _ v0 rfl rfl)
  obtain ⟨l1, k1, rfl, r1⟩ := num_open (hval 1 _ v1 rfl rfl)
  obtain ⟨l2, k2, rfl, r2⟩ := arr_rep Try.underlying59 (n := 2) (by kernel_rfl) (show Try.prog.cellTypes Try.prog.depth 59 = some (List.replicate 2 22) by kernel_rfl) (e := 22) (by intro x hx; exact List.eq_of_mem_replicate hx) Try.underlying22 (hval 2 _ v2 rfl rfl)
  refine (modExponents_calls k0 r0 k1 r1 k2 r2 W).mono fun e W' ⟨he, hb⟩ => ?_
  exact ⟨_, he, post_of_law laidOut (by rw [Try.params13]; decide +kernel) hW' rfl rfl Try.underlying4 rfl rfl rfl hb⟩

theorem modExponents_holds : Rows.ModExponentsSaid :=
  OpenClaim.holds_of_wide 13 Try.f13 rfl rfl rfl rfl rfl rfl rfl ⟨rfl, rfl, rfl, rfl, rfl⟩ rfl rfl rfl rfl rfl (by kernel_rfl) Try.func13 (by kernel_rfl)
    (of_decide_eq_true (by kernel_rfl)) (by unfold Func.isWrapper; first | (rw [if_pos (by decide +kernel)]; kernel_rfl) | (rw [if_neg (by decide +kernel)]; exact ⟨rfl, rfl⟩))
    (fun os started H enc _ => modExponents_lifted os started H enc)
end Go.Proofs.Ytdpaedcgbhlibaa
