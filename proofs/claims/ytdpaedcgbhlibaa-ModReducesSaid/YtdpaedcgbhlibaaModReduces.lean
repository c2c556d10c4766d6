/- Bytes are reduced as the reference has it, however many they are; a modulus that is even or 1 is refused; of no modulus at all nothing comes: for every modulus and every bytes the law answers true. No condition. -/
import Derived.Test.YtdpaedcgbhlibaaRedD
import Derived.Test.YtdpaedcgbhlibaaEvLawV
namespace Go.Proofs.Ytdpaedcgbhlibaa
open Go.Ev Go.Wn
open Go.ChangeShapes Go.WideShapes Go.ChangeAt Go.RowKit
set_option maxRecDepth 100000

def redV1 (X N Y : Bool) : Bool := match X with | true => (match N with | true => true | false => Y) | false => false
def redV2 (X N Y Z : Bool) : Bool := match redV1 X N Y with | true => Z | false => false
def redV3 (X N Y Z : Bool) : Bool := match redV2 X N Y Z with | true => Z | false => false
def redV (X N Y Z : Bool) : Bool := match redV3 X N Y Z with | true => Z | false => false
def redO (S C K1 K2 I G M0 X N Y Z E : Bool) : List Bool := runs [(1, S), (1, C), (1, K1), (1, K2), (1, I), (1, G), (1, S), (1, I), (1, M0), (1, S), (1, !X || S), (3, !X || X), (1, !(X && !N) || I), (1, !(X && !N) || G), (1, !(X && !N) || S), (2, !(X && !N) || X && !N), (1, !(X && !N) || I), (1, !(X && !N) || E), (1, !(X && !N) || X && !N), (1, !(X && !N) || G), (5, !(X && !N) || X && !N), (1, !X || (N || X && !N)), (2, !X || X),
  (5, (!redV1 X N Y) || redV1 X N Y), (6, (!redV2 X N Y Z) || redV2 X N Y Z), (4, (!redV3 X N Y Z) || redV3 X N Y Z)]
theorem redO_all : ∀ N Y E : Bool, (N = false → Y = true ∧ E = true) → all1 (redO true true true true true true true true N Y true E) = true ∧ redV true N Y true = true := by decide
theorem red_good (m0 m1 m2 m3 : Int) (n : Nat) (l : List Int) : res ((funcA Try.prog qAll (deep Try.prog qAll hdA 100 3) 100 12 (cArgs 0 [.pl (.ints .u64 4 [m0, m1, m2, m3]), .buf true .u8 n l]) (cMem [.pl (.ints .u64 4 [m0, m1, m2, m3]), .buf true .u8 n l])).go [false]) =
    some (redO (decide (n < 9223372036854775808)) (!decide ((n : Int) > 300)) (decide (val [m0, m1, m2, m3] % 2 = 1)) (decide (1 < val [m0, m1, m2, m3])) (decide (0 + n ≤ n)) (good (newL [m0, m1, m2, m3])) (decide (0 < val [m0, m1, m2, m3])) (decide (limbs (be ((l.drop 0).take n) % val (newL [m0, m1, m2, m3])) = limbs (be ((l.drop 0).take n) % val [m0, m1, m2, m3]))) ((n : Int) != 32) (decide (limbs (be ((l.drop 0).take n) % val (newL [m0, m1, m2, m3])) = limbs ((val (bigL ((l.drop 0).take n)) + val [([0, 0, 0, 0] : List Int).getD 0 0, ([0, 0, 0, 0] : List Int).getD 1 0, ([0, 0, 0, 0] : List Int).getD 2 0, ([0, 0, 0, 0] : List Int).getD 3 0]) % val (newL [m0, m1, m2, m3])))) (decide ([([0, 0, 0, 0] : List Int).getD 0 0, ([0, 0, 0, 0] : List Int).getD 1 0, ([0, 0, 0, 0] : List Int).getD 2 0, ([0, 0, 0, 0] : List Int).getD 3 0] = [([0, 0, 0, 0] : List Int).getD 0 0, ([0, 0, 0, 0] : List Int).getD 1 0, ([0, 0, 0, 0] : List Int).getD 2 0, ([0, 0, 0, 0] : List Int).getD 3 0])) (decide (n = 32)),
      .bool true (redV (decide (limbs (be ((l.drop 0).take n) % val (newL [m0, m1, m2, m3])) = limbs (be ((l.drop 0).take n) % val [m0, m1, m2, m3]))) ((n : Int) != 32) (decide (limbs (be ((l.drop 0).take n) % val (newL [m0, m1, m2, m3])) = limbs ((val (bigL ((l.drop 0).take n)) + val [([0, 0, 0, 0] : List Int).getD 0 0, ([0, 0, 0, 0] : List Int).getD 1 0, ([0, 0, 0, 0] : List Int).getD 2 0, ([0, 0, 0, 0] : List Int).getD 3 0]) % val (newL [m0, m1, m2, m3])))) (decide ([([0, 0, 0, 0] : List Int).getD 0 0, ([0, 0, 0, 0] : List Int).getD 1 0, ([0, 0, 0, 0] : List Int).getD 2 0, ([0, 0, 0, 0] : List Int).getD 3 0] = [([0, 0, 0, 0] : List Int).getD 0 0, ([0, 0, 0, 0] : List Int).getD 1 0, ([0, 0, 0, 0] : List Int).getD 2 0, ([0, 0, 0, 0] : List Int).getD 3 0])))) := by kernel_rfl
theorem red_bad (m0 m1 m2 m3 : Int) (n : Nat) (l : List Int) : res ((funcA Try.prog qAll (deep Try.prog qAll hdB 100 3) 100 12 (cArgs 0 [.pl (.ints .u64 4 [m0, m1, m2, m3]), .buf true .u8 n l]) (cMem [.pl (.ints .u64 4 [m0, m1, m2, m3]), .buf true .u8 n l])).go [false]) = some (decide (n < 9223372036854775808) :: (!decide ((n : Int) > 300)) :: badO [m0, m1, m2, m3], .bool true (badV m0 m1 m2 m3)) := by kernel_rfl
theorem red_long (m0 m1 m2 m3 : Int) (n : Nat) (l : List Int) : res ((funcA Try.prog qAll (deep Try.prog qAll hdA 100 3) 100 12 (cArgs 0 [.pl (.ints .u64 4 [m0, m1, m2, m3]), .buf true .u8 n l]) (cMem [.pl (.ints .u64 4 [m0, m1, m2, m3]), .buf true .u8 n l])).go [true]) = some ([decide (n < 9223372036854775808), decide ((n : Int) > 300)], .bool false true) := by kernel_rfl
theorem red_nilG (m0 m1 m2 m3 : Int) : res ((funcA Try.prog qAll (deep Try.prog qAll hdA 100 3) 100 12 (cArgs 0 [.pl (.ints .u64 4 [m0, m1, m2, m3]), .pl .nilslice]) (cMem [.pl (.ints .u64 4 [m0, m1, m2, m3]), .pl .nilslice])).go []) = some (decide (val [m0, m1, m2, m3] % 2 = 1) :: decide (1 < val [m0, m1, m2, m3]) :: good (newL [m0, m1, m2, m3]) :: rep 31 true [], .bool true true) := by kernel_rfl
theorem red_nilB (m0 m1 m2 m3 : Int) : res ((funcA Try.prog qAll (deep Try.prog qAll hdB 100 3) 100 12 (cArgs 0 [.pl (.ints .u64 4 [m0, m1, m2, m3]), .pl .nilslice]) (cMem [.pl (.ints .u64 4 [m0, m1, m2, m3]), .pl .nilslice])).go []) = some (badO [m0, m1, m2, m3], .bool true (badV m0 m1 m2 m3)) := by kernel_rfl
theorem red_empG (m0 m1 m2 m3 : Int) : res ((funcA Try.prog qAll (deep Try.prog qAll hdA 100 3) 100 12 (cArgs 0 [.pl (.ints .u64 4 [m0, m1, m2, m3]), .empty]) (cMem [.pl (.ints .u64 4 [m0, m1, m2, m3]), .empty])).go []) = some (decide (val [m0, m1, m2, m3] % 2 = 1) :: decide (1 < val [m0, m1, m2, m3]) :: good (newL [m0, m1, m2, m3]) :: rep 31 true [], .bool true true) := by kernel_rfl
theorem red_empB (m0 m1 m2 m3 : Int) : res ((funcA Try.prog qAll (deep Try.prog qAll hdB 100 3) 100 12 (cArgs 0 [.pl (.ints .u64 4 [m0, m1, m2, m3]), .empty]) (cMem [.pl (.ints .u64 4 [m0, m1, m2, m3]), .empty])).go []) = some (badO [m0, m1, m2, m3], .bool true (badV m0 m1 m2 m3)) := by kernel_rfl
theorem modReduces_calls {m : List Int} (hm : m.length = 4) (rm : ∀ x ∈ m, inR .u64 x = true) {v : Value} (W : World)
    (hv : v = .slice none 0 0 ∨ ∃ (a : Addr) (len cap : Nat) (zs : List Int), v = .slice (some a) len cap ∧ len ≤ cap ∧ cap ≤ maxLen ∧ zs.length = cap ∧ (∀ i, i < zs.length → W.cell? (a.add i) = some (.int .u8 (zs.getD i 0))) ∧ ∀ n ∈ zs, inR .u8 n = true) :
    Calls Try.prog 12 #[.agg (m.map (Value.int .u64)).toArray, v] W (fun e w' => e = .returned (.bool true) ∧ Below W.heap.size W w') := by
  obtain ⟨m0, m1, m2, m3, rfl⟩ := four hm
  have w0 := inR_W (rm m0 (by simp)); have w1 := inR_W (rm m1 (by simp)); have w2 := inR_W (rm m2 (by simp)); have w3 := inR_W (rm m3 (by simp))
  have h0 : ∀ j, ∃ L, VOk W j L (.pl (.ints .u64 4 [m0, m1, m2, m3])) (.agg ([m0, m1, m2, m3].map (Value.int .u64)).toArray) := fun j => VOk.plain fun ρ N => .ints .u64 4 _ hm rm
  rcases hv with rfl | ⟨ad, len, cap, zs, rfl, hlen, hcap, hz, hc, hw⟩
  · have hvs : VOks W 0 ([.pl (.ints .u64 4 [m0, m1, m2, m3]), .pl .nilslice]) [.agg ([m0, m1, m2, m3].map (Value.int .u64)).toArray, .slice none 0 0] := .cons _ _ _ _ _ (h0 0) (.cons _ _ _ _ _ (VOk.plain fun ρ N => .nilslice) (.nil _))
    by_cases hbad : val [m0, m1, m2, m3] % 2 = 0 ∨ val [m0, m1, m2, m3] = 1
    · exact law_of_go mixed (hdB_ok.deep mixed noCount 100 3) [] (red_nilB m0 m1 m2 m3) (bad_paid hbad) (badV_true w0 w1 w2 w3 hbad) hvs
    · obtain ⟨hM1, hM2, hG, hM⟩ := good_case w0 w1 w2 w3 hbad
      exact law_of_go mixed (hdA_ok.deep mixed noCount 100 3) [] (red_nilG m0 m1 m2 m3) (paid_cons (decide_eq_true hM1) (paid_cons (decide_eq_true hM2) (paid_cons hG (paid_rep rfl Paid.nil _)))) rfl hvs
  · by_cases hc0 : cap = 0
    · have hl0 : len = 0 := by omega
      subst hc0 hl0
      have hvs : VOks W 0 ([.pl (.ints .u64 4 [m0, m1, m2, m3]), .empty]) [.agg ([m0, m1, m2, m3].map (Value.int .u64)).toArray, .slice (some ad) 0 0] := .cons _ _ _ _ _ (h0 0) (.cons _ _ _ _ _ VOk.empty (.nil _))
      by_cases hbad : val [m0, m1, m2, m3] % 2 = 0 ∨ val [m0, m1, m2, m3] = 1
      · exact law_of_go mixed (hdB_ok.deep mixed noCount 100 3) [] (red_empB m0 m1 m2 m3) (bad_paid hbad) (badV_true w0 w1 w2 w3 hbad) hvs
      · obtain ⟨hM1, hM2, hG, hM⟩ := good_case w0 w1 w2 w3 hbad
        exact law_of_go mixed (hdA_ok.deep mixed noCount 100 3) [] (red_empG m0 m1 m2 m3) (paid_cons (decide_eq_true hM1) (paid_cons (decide_eq_true hM2) (paid_cons hG (paid_rep rfl Paid.nil _)))) rfl hvs
    · obtain ⟨L, hL⟩ := VOk.slice (W := W) (j := 1) true hz hlen (by omega) hc hw
      have hm' : len < 9223372036854775808 := by unfold maxLen at hcap; omega
      have hvs : VOks W 0 (.pl (.ints .u64 4 [m0, m1, m2, m3]) :: .buf true .u8 len (zs.take len) :: []) [.agg ([m0, m1, m2, m3].map (Value.int .u64)).toArray, .slice (some ad) len cap] := .cons _ _ _ _ _ (h0 0) (.cons _ _ _ _ _ ⟨L, hL⟩ (.nil _))
      by_cases hlong : (len : Int) > 300
      · exact law_of_go mixed (hdA_ok.deep mixed noCount 100 3) [true] (red_long m0 m1 m2 m3 len (zs.take len)) (paid_cons (decide_eq_true hm') (paid_cons (decide_eq_true hlong) Paid.nil)) rfl hvs
      · have hC : (!decide ((len : Int) > 300)) = true := by rw [decide_eq_false hlong]; rfl
        by_cases hbad : val [m0, m1, m2, m3] % 2 = 0 ∨ val [m0, m1, m2, m3] = 1
        · exact law_of_go mixed (hdB_ok.deep mixed noCount 100 3) [false] (red_bad m0 m1 m2 m3 len (zs.take len)) (paid_cons (decide_eq_true hm') (paid_cons hC (bad_paid hbad))) (badV_true w0 w1 w2 w3 hbad) hvs
        · obtain ⟨hM1, hM2, hG, hM⟩ := good_case w0 w1 w2 w3 hbad
          have hlt : (zs.take len).length = len := by rw [List.length_take]; omega
          have ev := red_good m0 m1 m2 m3 len (zs.take len)
          have eM : val [m0, m1, m2, m3] = val (newL [m0, m1, m2, m3]) := rfl
          rw [eM] at ev hM1 hM2
          generalize newL [m0, m1, m2, m3] = Q at *
          generalize zs.take len = l at *
          rw [decide_eq_true hm', hC, decide_eq_true hM1, decide_eq_true hM2, decide_eq_true (show 0 + len ≤ len by omega), hG, decide_eq_true hM.1, decide_eq_true (rfl : limbs (be ((l.drop 0).take len) % val Q) = _), decide_eq_true (rfl : [([0, 0, 0, 0] : List Int).getD 0 0, ([0, 0, 0, 0] : List Int).getD 1 0, ([0, 0, 0, 0] : List Int).getD 2 0, ([0, 0, 0, 0] : List Int).getD 3 0] = [([0, 0, 0, 0] : List Int).getD 0 0, ([0, 0, 0, 0] : List Int).getD 1 0, ([0, 0, 0, 0] : List Int).getD 2 0, ([0, 0, 0, 0] : List Int).getD 3 0])] at ev
          have key := redO_all ((len : Int) != 32) (decide (limbs (be ((l.drop 0).take len) % val Q) = limbs ((val (bigL ((l.drop 0).take len)) + val [([0, 0, 0, 0] : List Int).getD 0 0, ([0, 0, 0, 0] : List Int).getD 1 0, ([0, 0, 0, 0] : List Int).getD 2 0, ([0, 0, 0, 0] : List Int).getD 3 0]) % val Q))) (decide (len = 32)) (fun hN => by
            have h32 : len = 32 := by
              have : (len : Int) = 32 := by simpa using hN
              omega
            subst h32
            refine ⟨decide_eq_true ?_, decide_eq_true rfl⟩
            rw [List.drop_zero, List.take_of_length_le (by omega), val_bigL hlt, show val [([0, 0, 0, 0] : List Int).getD 0 0, ([0, 0, 0, 0] : List Int).getD 1 0, ([0, 0, 0, 0] : List Int).getD 2 0, ([0, 0, 0, 0] : List Int).getD 3 0] = 0 from rfl, Int.add_zero])
          exact law_of_go mixed (hdA_ok.deep mixed noCount 100 3) [false] ev (all1_paid key.1) key.2 hvs

theorem modReduces_lifted (os : Os) (started : os.Started) (H : Type) (enc : TypeId × Value → H) :
    ReturnsInHanded {} Try.checked os 12 .any (Rows.modReducesSpec.pre6 enc Try.prog Try.f12 Rows.modReducesRow.domain false) (Rows.modReducesSpec.post enc Try.prog Try.f12 false true false false) := by
  refine returnsInHanded_of_change (C := Try.checked) own started (by kernel_rfl) Try.func12
    (ChangeSpec.witness6 (enc := enc) (C := Try.checked) false ⟨#[], #[.agg #[.int .u64 0, .int .u64 0, .int .u64 0, .int .u64 0], .slice none 0 0], []⟩ 8 (by kernel_rfl) (by kernel_rfl) (by kernel_rfl) (by kernel_rfl)) ?_
  intro W base args ds gs before hval0 hW hcnd _
  have hval : ∀ (j : Nat) t v, Try.f12.params[j]? = some t → args[j]? = some v → Value.okWide Try.prog W .any base t v := hval0
  have hW' := hW
  obtain ⟨p, q, hA0, hV, rfl, hfz, hnd⟩ := hW
  have hA : DataW.TrodAll enc Try.prog W 0 (fun _ => true) true Try.f12.params.toList args.toList ds p := hA0
  rw [Try.params12] at hA hval
  obtain ⟨v0, v1, d0, d1, p0, p1, hargs, rfl, rfl, g0, g1⟩ := trodAll_two hA
  have hargs' : args = #[v0, v1] := by simpa using hargs
  subst hargs'
  obtain ⟨rfl, rfl⟩ := trodVars_none hV
  obtain ⟨l0, k0, rfl, r0⟩ := num_open (hval 0 _ v0 rfl rfl)
  have hv1 := nums_open Try.underlying29 Try.underlying5 (by kernel_rfl) (hval 1 _ v1 rfl rfl) g1
  refine (modReduces_calls k0 r0 W hv1).mono fun e W' ⟨he, hb⟩ => ?_
  exact ⟨_, he, post_of_law laidOut (by rw [Try.params12]; decide +kernel) hW' rfl rfl Try.underlying4 rfl rfl rfl hb⟩

theorem modReduces_holds : Rows.ModReducesSaid :=
  OpenClaim.holds_of_wide 12 Try.f12 rfl rfl rfl rfl rfl rfl rfl ⟨rfl, rfl, rfl, rfl, rfl⟩ rfl rfl rfl rfl rfl (by kernel_rfl) Try.func12 (by kernel_rfl)
    (of_decide_eq_true (by kernel_rfl)) (by unfold Func.isWrapper; first | (rw [if_pos (by decide +kernel)]; kernel_rfl) | (rw [if_neg (by decide +kernel)]; exact ⟨rfl, rfl⟩))
    (fun os started H enc _ => modReduces_lifted os started H enc)
end Go.Proofs.Ytdpaedcgbhlibaa
