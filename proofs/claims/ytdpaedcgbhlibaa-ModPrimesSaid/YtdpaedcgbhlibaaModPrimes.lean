/- Modulo the primes of the curves what is not nothing has an inverse: for every choice of the prime and every number the law answers true. No condition. -/
import Derived.Test.YtdpaedcgbhlibaaRefA
import Derived.Test.YtdpaedcgbhlibaaPrimM
namespace Go.Proofs.Ytdpaedcgbhlibaa
open Go.Ev Go.Wn
open Go.ChangeShapes Go.WideShapes Go.ChangeAt Go.RowKit
set_option maxRecDepth 100000

def rowL (w : Int) : List Int := (([18446744073709551597, 18446744073709551615, 18446744073709551615, 9223372036854775807, 6346243789798364141, 1503914060200516822, 0, 1152921504606846976, 18446744073709551615, 4294967295, 0, 18446744069414584321, 17562291160714782033, 13611842547513532036, 18446744073709551615, 18446744069414584320] : List Int).drop (((IntKind.i64.wrap (w.tmod 4 + 4)).tmod 4).toNat * 4)).take 4
def prmO (d0 d1 d2 d3 d4 d5 : Bool) : List Bool := runs [(1, d0), (1, d1), (1, d2), (1, d3), (1, d4), (2, d5)]
theorem prm_yes (w a b c d : Int) : res ((funcA Try.prog qAsm (deep Try.prog qAll hfA 100 3) 100 10 (cArgs 0 [.pl (.int true .i64 w), .pl (.ints .u64 4 [a, b, c, d])]) (cMem [.pl (.int true .i64 w), .pl (.ints .u64 4 [a, b, c, d])])).go [true]) =
    some (prmO (decide (0 ≤ (IntKind.i64.wrap (w.tmod 4 + 4)).tmod 4) && decide ((IntKind.i64.wrap (w.tmod 4 + 4)).tmod 4 < ((4 : Nat) : Int))) (decide (val (rowL w) % 2 = 1)) (decide (1 < val (rowL w))) (decide (0 < val (rowL w))) (decide (limbs (val [a, b, c, d] % val (rowL w)) = [0, 0, 0, 0])) (good (newL (rowL w))), .bool true (decide (limbs (val [a, b, c, d] * val (limbs (val [a, b, c, d] ^ (val (newL (rowL w)) - 2).toNat % val (newL (rowL w)))) % val (newL (rowL w))) = [0, 0, 0, 0]))) := by kernel_rfl
theorem prm_no (w a b c d : Int) : res ((funcA Try.prog qAsm (deep Try.prog qAll hfA 100 3) 100 10 (cArgs 0 [.pl (.int true .i64 w), .pl (.ints .u64 4 [a, b, c, d])]) (cMem [.pl (.int true .i64 w), .pl (.ints .u64 4 [a, b, c, d])])).go [false]) =
    some (prmO (decide (0 ≤ (IntKind.i64.wrap (w.tmod 4 + 4)).tmod 4) && decide ((IntKind.i64.wrap (w.tmod 4 + 4)).tmod 4 < ((4 : Nat) : Int))) (decide (val (rowL w) % 2 = 1)) (decide (1 < val (rowL w))) (decide (0 < val (rowL w))) (!decide (limbs (val [a, b, c, d] % val (rowL w)) = [0, 0, 0, 0])) (good (newL (rowL w))), .bool true (decide (limbs (val [a, b, c, d] * val (limbs (val [a, b, c, d] ^ (val (newL (rowL w)) - 2).toNat % val (newL (rowL w)))) % val (newL (rowL w))) = [1, 0, 0, 0]))) := by kernel_rfl
structure RowOk (r : List Int) (p : Nat) : Prop where
  sh : ∃ m0 m1 m2 m3, r = [m0, m1, m2, m3] ∧ W m0 ∧ W m1 ∧ W m2 ∧ W m3
  v : val r = (p : Int)
  good : Go.Wn.Good p
  gt : 2 < p
  odd : p % 2 = 1
theorem row0 : RowOk [18446744073709551597, 18446744073709551615, 18446744073709551615, 9223372036854775807] 57896044618658097711785492504343953926634992332820282019728792003956564819949 := ⟨⟨_, _, _, _, rfl, inR_W (by decide +kernel), inR_W (by decide +kernel), inR_W (by decide +kernel), inR_W (by decide +kernel)⟩, by decide +kernel, prime0, by decide +kernel, by decide +kernel⟩
theorem row1 : RowOk [6346243789798364141, 1503914060200516822, 0, 1152921504606846976] 7237005577332262213973186563042994240857116359379907606001950938285454250989 := ⟨⟨_, _, _, _, rfl, inR_W (by decide +kernel), inR_W (by decide +kernel), inR_W (by decide +kernel), inR_W (by decide +kernel)⟩, by decide +kernel, prime1, by decide +kernel, by decide +kernel⟩
theorem row2 : RowOk [18446744073709551615, 4294967295, 0, 18446744069414584321] 115792089210356248762697446949407573530086143415290314195533631308867097853951 := ⟨⟨_, _, _, _, rfl, inR_W (by decide +kernel), inR_W (by decide +kernel), inR_W (by decide +kernel), inR_W (by decide +kernel)⟩, by decide +kernel, prime2, by decide +kernel, by decide +kernel⟩
theorem row3 : RowOk [17562291160714782033, 13611842547513532036, 18446744073709551615, 18446744069414584320] 115792089210356248762697446949407573529996955224135760342422259061068512044369 := ⟨⟨_, _, _, _, rfl, inR_W (by decide +kernel), inR_W (by decide +kernel), inR_W (by decide +kernel), inR_W (by decide +kernel)⟩, by decide +kernel, prime3, by decide +kernel, by decide +kernel⟩
theorem idx_ok (w : Int) : ∃ j : Nat, (IntKind.i64.wrap (w.tmod 4 + 4)).tmod 4 = (j : Int) ∧ j < 4 := by
  have b1 : -4 < w.tmod 4 := Int.lt_tmod_of_pos w (by decide)
  have b2 : w.tmod 4 < 4 := Int.tmod_lt_of_pos w (by decide)
  have e : IntKind.i64.wrap (w.tmod 4 + 4) = w.tmod 4 + 4 := w64_id' (by omega)
  rw [e, Int.tmod_eq_emod_of_nonneg (by omega)]
  exact ⟨((w.tmod 4 + 4) % 4).toNat, by omega, by omega⟩
theorem idx_debt (w : Int) : (decide (0 ≤ (IntKind.i64.wrap (w.tmod 4 + 4)).tmod 4) && decide ((IntKind.i64.wrap (w.tmod 4 + 4)).tmod 4 < ((4 : Nat) : Int))) = true := by
  obtain ⟨j, hj, hlt⟩ := idx_ok w
  rw [hj, decide_eq_true (by omega), decide_eq_true (by omega)]; rfl
theorem row_ok (w : Int) : ∃ p, RowOk (rowL w) p := by
  obtain ⟨j, hj, hlt⟩ := idx_ok w
  unfold rowL
  rw [hj, Int.toNat_natCast]
  have : j = 0 ∨ j = 1 ∨ j = 2 ∨ j = 3 := by omega
  rcases this with rfl | rfl | rfl | rfl
  · exact ⟨_, row0⟩
  · exact ⟨_, row1⟩
  · exact ⟨_, row2⟩
  · exact ⟨_, row3⟩
theorem modPrimes_calls {w : Int} (hw : inR .i64 w = true) {n : List Int} (hn : n.length = 4) (rn : ∀ x ∈ n, inR .u64 x = true) (W : World) :
    Calls Try.prog 10 #[.int .i64 w, .agg (n.map (Value.int .u64)).toArray] W (fun e w' => e = .returned (.bool true) ∧ Below W.heap.size W w') := by
  obtain ⟨a, b, c, d, rfl⟩ := four hn
  have hv : VOks W 0 ([.pl (.int true .i64 w), .pl (.ints .u64 4 [a, b, c, d])]) [.int .i64 w, .agg ([a, b, c, d].map (Value.int .u64)).toArray] :=
    .cons _ _ _ _ _ (VOk.plain fun ρ N => .int true .i64 w hw) (.cons _ _ _ _ _ (VOk.plain fun ρ N => .ints .u64 4 _ hn rn) (.nil _))
  have h0 : 0 ≤ val [a, b, c, d] := (val_range (inR_W (rn a (by simp))) (inR_W (rn b (by simp))) (inR_W (rn c (by simp))) (inR_W (rn d (by simp)))).1
  obtain ⟨p, hR⟩ := row_ok w
  obtain ⟨⟨m0, m1, m2, m3, hr, w0, w1, w2, w3⟩, hp, hG, h2, ho⟩ := hR
  have ev1 := prm_yes w a b c d
  have ev0 := prm_no w a b c d
  rw [hr] at ev1 ev0 hp
  clear hr
  obtain ⟨hM1, hM2, hGd, hM⟩ := good_case w0 w1 w2 w3 (by rw [hp]; omega)
  have eM : val [m0, m1, m2, m3] = val (newL [m0, m1, m2, m3]) := rfl
  rw [eM] at ev1 ev0 hp hM1 hM2
  generalize newL [m0, m1, m2, m3] = L at *
  rw [lv hM] at ev1 ev0
  have key := inv_good hG h2 h0
  have e2 : (val L - 2).toNat = p - 2 := by rw [hp]; omega
  rw [e2, hp] at ev1 ev0
  rw [hp] at hM1 hM2 hM
  rw [key] at ev1 ev0
  have hx := idx_debt w
  have hl : val [a, b, c, d] % (p : Int) < W4 := Int.lt_trans (Int.emod_lt_of_pos _ hM.1) hM.2
  have hl0 : 0 ≤ val [a, b, c, d] % (p : Int) := Int.emod_nonneg _ (by omega)
  by_cases hz : val [a, b, c, d] % (p : Int) = 0
  · rw [if_pos hz] at ev1
    refine law_of_go mixed (hfA_ok.deep mixed noCount 100 3) [true] ev1 (runs_paid ?_) (by decide) hv
    simp only [List.forall_mem_cons, hM1, hM2, hGd, hM.1, hM.2, hx, hz, decide_true, and_true, and_self, List.not_mem_nil, false_implies, implies_true]
    decide
  · rw [if_neg hz] at ev0
    have hne : decide (limbs (val [a, b, c, d] % (p : Int)) = [0, 0, 0, 0]) = false := decide_eq_false fun e => hz (by
      have := val_limbs (val [a, b, c, d] % (p : Int))
      rw [e] at this
      have u : val [a, b, c, d] % (p : Int) % W4 = val [a, b, c, d] % (p : Int) := Int.emod_eq_of_lt hl0 hl
      have z : val [0, 0, 0, 0] = 0 := rfl
      exact (u.symm.trans this.symm).trans z)
    refine law_of_go mixed (hfA_ok.deep mixed noCount 100 3) [false] ev0 (runs_paid ?_) (by decide) hv
    simp only [List.forall_mem_cons, hM1, hM2, hGd, hM.1, hM.2, hx, hne, decide_true, Bool.not_false, and_true, and_self, List.not_mem_nil, false_implies, implies_true]

theorem modPrimes_lifted (os : Os) (started : os.Started) (H : Type) (enc : TypeId × Value → H) :
    ReturnsInHanded {} Try.checked os 10 .any (Rows.modPrimesSpec.pre6 enc Try.prog Try.f10 Rows.modPrimesRow.domain false) (Rows.modPrimesSpec.post enc Try.prog Try.f10 false true false false) := by
  refine returnsInHanded_of_change (C := Try.checked) own started (by kernel_rfl) Try.func10
    (ChangeSpec.witness6 (enc := enc) (C := Try.checked) false ⟨#[], #[.int .i64 0, .agg #[.int .u64 0, .int .u64 0, .int .u64 0, .int .u64 0]], []⟩ 8 (by kernel_rfl) (by kernel_rfl) (by kernel_rfl) (by kernel_rfl)) ?_
  intro W base args ds gs before hval0 hW hcnd _
  have hval : ∀ (j : Nat) t v, Try.f10.params[j]? = some t → args[j]? = some v → Value.okWide Try.prog W .any base t v := hval0
  have hW' := hW
  obtain ⟨p, q, hA0, hV, rfl, hfz, hnd⟩ := hW
  have hA : DataW.TrodAll enc Try.prog W 0 (fun _ => true) true Try.f10.params.toList args.toList ds p := hA0
  rw [Try.params10] at hA hval
  obtain ⟨v0, v1, d0, d1, p0, p1, hargs, rfl, rfl, g0, g1⟩ := trodAll_two hA
  have hargs' : args = #[v0, v1] := by simpa using hargs
  subst hargs'
  obtain ⟨rfl, rfl⟩ := trodVars_none hV
  obtain ⟨x0, rfl, rfl, rfl, w0⟩ := open_int Try.underlying3 (hval 0 _ v0 rfl rfl) g0
  obtain ⟨l1, k1, rfl, r1⟩ := num_open (hval 1 _ v1 rfl rfl)
  refine (modPrimes_calls (wf_inR' w0) k1 r1 W).mono fun e W' ⟨he, hb⟩ => ?_
  exact ⟨_, he, post_of_law laidOut (by rw [Try.params10]; decide +kernel) hW' rfl rfl Try.underlying4 rfl rfl rfl hb⟩

theorem modPrimes_holds : Rows.ModPrimesSaid :=
  OpenClaim.holds_of_wide 10 Try.f10 rfl rfl rfl rfl rfl rfl rfl ⟨rfl, rfl, rfl, rfl, rfl⟩ rfl rfl rfl rfl rfl (by kernel_rfl) Try.func10 (by kernel_rfl)
    (of_decide_eq_true (by kernel_rfl)) (by unfold Func.isWrapper; first | (rw [if_pos (by decide +kernel)]; kernel_rfl) | (rw [if_neg (by decide +kernel)]; exact ⟨rfl, rfl⟩))
    (fun os started H enc _ => modPrimes_lifted os started H enc)
end Go.Proofs.Ytdpaedcgbhlibaa
