/- Unlike blocks are enciphered unlike, under one key: for every key and every two blocks the law answers true. No condition. -/
import Derived.Test.YtclkicobnmjpoaaAesD
import Derived.Test.YtclkicobnmjpoaaAesI
import Derived.Test.YtclkicobnmjpoaaAesL
namespace Go.Proofs.Ytclkicobnmjpoaa
open Go.Ev Go.Sh Go.As
open Go.ChangeShapes Go.WideShapes Go.ChangeAt Go.RowKit
set_option maxRecDepth 100000
theorem apart_16 (n : Nat) (l a b : List Int) : res ((funcA Try.prog qP (deep Try.prog qP hc16 100 3) 100 4 (cArgs 0 [.buf true .u8 n l, .pl (.ints .u8 16 a), .pl (.ints .u8 16 b)]) (cMem [.buf true .u8 n l, .pl (.ints .u8 16 a), .pl (.ints .u8 16 b)])).go [false]) = some ([decide (n < 9223372036854775808), !decide ((n : Int) > 100), decide (0 + n ≤ n), decide (n = 16)], .bool true (decide (encB (keyL 4 ((l.drop 0).take n)) 10 a = encB (keyL 4 ((l.drop 0).take n)) 10 b) == decide (a = b))) := by kernel_rfl
theorem apart_32 (n : Nat) (l a b : List Int) : res ((funcA Try.prog qP (deep Try.prog qP hc32 100 3) 100 4 (cArgs 0 [.buf true .u8 n l, .pl (.ints .u8 16 a), .pl (.ints .u8 16 b)]) (cMem [.buf true .u8 n l, .pl (.ints .u8 16 a), .pl (.ints .u8 16 b)])).go [false]) = some ([decide (n < 9223372036854775808), !decide ((n : Int) > 100), decide (0 + n ≤ n), decide (n = 32)], .bool true (decide (encB (keyL 8 ((l.drop 0).take n)) 14 a = encB (keyL 8 ((l.drop 0).take n)) 14 b) == decide (a = b))) := by kernel_rfl
theorem apart_x (n : Nat) (l a b : List Int) : res ((funcA Try.prog qP (deep Try.prog qP hcX 100 3) 100 4 (cArgs 0 [.buf true .u8 n l, .pl (.ints .u8 16 a), .pl (.ints .u8 16 b)]) (cMem [.buf true .u8 n l, .pl (.ints .u8 16 a), .pl (.ints .u8 16 b)])).go [false]) = some ([decide (n < 9223372036854775808), !decide ((n : Int) > 100), decide (0 + n ≤ n), !decide (n = 16), !decide (n = 32), decide (n < 9223372036854775808)], .bool false true) := by kernel_rfl
theorem apart_long (n : Nat) (l a b : List Int) : res ((funcA Try.prog qP (deep Try.prog qP hcX 100 3) 100 4 (cArgs 0 [.buf true .u8 n l, .pl (.ints .u8 16 a), .pl (.ints .u8 16 b)]) (cMem [.buf true .u8 n l, .pl (.ints .u8 16 a), .pl (.ints .u8 16 b)])).go [true]) = some ([decide (n < 9223372036854775808), decide ((n : Int) > 100)], .bool false true) := by kernel_rfl
theorem apart_nil (a b : List Int) : res ((funcA Try.prog qP (deep Try.prog qP hcX 100 3) 100 4 (cArgs 0 [.pl .nilslice, .pl (.ints .u8 16 a), .pl (.ints .u8 16 b)]) (cMem [.pl .nilslice, .pl (.ints .u8 16 a), .pl (.ints .u8 16 b)])).go []) = some ([], .bool false true) := by kernel_rfl
theorem apart_emp (a b : List Int) : res ((funcA Try.prog qP (deep Try.prog qP hcX 100 3) 100 4 (cArgs 0 [.empty, .pl (.ints .u8 16 a), .pl (.ints .u8 16 b)]) (cMem [.empty, .pl (.ints .u8 16 a), .pl (.ints .u8 16 b)])).go []) = some ([], .bool false true) := by kernel_rfl
theorem apart_eq {a b : List Int} (ka : a.length = 16) (ra : ∀ x ∈ a, inR .u8 x = true) (kb : b.length = 16) (rb : ∀ x ∈ b, inR .u8 x = true) (W : List Int) (r : Nat) : (decide (encB W r a = encB W r b) == decide (a = b)) = true := by
  by_cases h : a = b
  · subst h; simp
  · have h2 : encB W r a ≠ encB W r b := fun e => h (encB_inj ⟨ka, fun x hx => inR_b8 (ra x hx)⟩ ⟨kb, fun x hx => inR_b8 (rb x hx)⟩ r e)
    rw [decide_eq_false h, decide_eq_false h2]; rfl
theorem aesApart_calls {a b : List Int} (ka : a.length = 16) (ra : ∀ x ∈ a, inR .u8 x = true) (kb : b.length = 16) (rb : ∀ x ∈ b, inR .u8 x = true) {v : Value} (W : World) (hv : v = .slice none 0 0 ∨ ∃ (a : Addr) (len cap : Nat) (zs : List Int), v = .slice (some a) len cap ∧ len ≤ cap ∧ cap ≤ maxLen ∧ zs.length = cap ∧ (∀ i, i < zs.length → W.cell? (a.add i) = some (.int .u8 (zs.getD i 0))) ∧ ∀ n ∈ zs, inR .u8 n = true) :
    Calls Try.prog 4 #[v, .agg (a.map (Value.int .u8)).toArray, .agg (b.map (Value.int .u8)).toArray] W (fun e w' => e = .returned (.bool true) ∧ Below W.heap.size W w') := by
  have h1 : ∃ L, VOk W 1 L (.pl (.ints .u8 16 a)) (.agg (a.map (Value.int .u8)).toArray) := VOk.plain fun ρ N => .ints .u8 16 _ ka ra
  have h2 : ∃ L, VOk W 2 L (.pl (.ints .u8 16 b)) (.agg (b.map (Value.int .u8)).toArray) := VOk.plain fun ρ N => .ints .u8 16 _ kb rb
  rcases VOk.bytes (W := W) 0 hv with h | h | ⟨n, l, hn, hm, hl, hr, h⟩
  · exact law_of_go mixed (hcX_ok.deep mixed noCount 100 3) [] (apart_nil a b) (all1_paid rfl) rfl (.cons _ _ _ _ _ h (.cons _ _ _ _ _ h1 (.cons _ _ _ _ _ h2 (.nil _))))
  · exact law_of_go mixed (hcX_ok.deep mixed noCount 100 3) [] (apart_emp a b) (all1_paid rfl) rfl (.cons _ _ _ _ _ h (.cons _ _ _ _ _ h1 (.cons _ _ _ _ _ h2 (.nil _))))
  · have hm' : n < 9223372036854775808 := by unfold maxLen at hm; omega
    have hvs : VOks W 0 [.buf true .u8 n l, .pl (.ints .u8 16 a), .pl (.ints .u8 16 b)] _ := .cons _ _ _ _ _ h (.cons _ _ _ _ _ h1 (.cons _ _ _ _ _ h2 (.nil _)))
    by_cases hlong : (n : Int) > 100
    · have ev := apart_long n l a b
      rw [decide_eq_true hm', decide_eq_true hlong] at ev
      exact law_of_go mixed (hcX_ok.deep mixed noCount 100 3) [true] ev (all1_paid rfl) rfl hvs
    · by_cases h16 : n = 16
      · have ev := apart_16 n l a b
        rw [decide_eq_true hm', decide_eq_false hlong, decide_eq_true (show 0 + n ≤ n by omega), decide_eq_true h16] at ev
        exact law_of_go mixed (hc16_ok.deep mixed noCount 100 3) [false] ev (all1_paid rfl) (apart_eq ka ra kb rb _ _) hvs
      · by_cases h32 : n = 32
        · have ev := apart_32 n l a b
          rw [decide_eq_true hm', decide_eq_false hlong, decide_eq_true (show 0 + n ≤ n by omega), decide_eq_true h32] at ev
          exact law_of_go mixed (hc32_ok.deep mixed noCount 100 3) [false] ev (all1_paid rfl) (apart_eq ka ra kb rb _ _) hvs
        · have ev := apart_x n l a b
          rw [decide_eq_true hm', decide_eq_false hlong, decide_eq_true (show 0 + n ≤ n by omega), decide_eq_false h16, decide_eq_false h32] at ev
          exact law_of_go mixed (hcX_ok.deep mixed noCount 100 3) [false] ev (all1_paid rfl) rfl hvs

theorem aesApart_lifted (os : Os) (started : os.Started) (H : Type) (enc : TypeId × Value → H) :
    ReturnsInHanded {} Try.checked os 4 .any (Rows.aesApartSpec.pre6 enc Try.prog Try.f4 Rows.aesApartRow.domain false) (Rows.aesApartSpec.post enc Try.prog Try.f4 false true false false) := by
  refine returnsInHanded_of_change (C := Try.checked) own started (by kernel_rfl) Try.func4
    (ChangeSpec.witness6 (enc := enc) (C := Try.checked) false ⟨#[], #[.slice none 0 0, .agg #[.int .u8 0, .int .u8 0, .int .u8 0, .int .u8 0, .int .u8 0, .int .u8 0, .int .u8 0, .int .u8 0, .int .u8 0, .int .u8 0, .int .u8 0, .int .u8 0, .int .u8 0, .int .u8 0, .int .u8 0, .int .u8 0], .agg #[.int .u8 0, .int .u8 0, .int .u8 0, .int .u8 0, .int .u8 0, .int .u8 0, .int .u8 0, .int .u8 0, .int .u8 0, .int .u8 0, .int .u8 0, .int .u8 0, .int .u8 0, .int .u8 0, .int .u8 0, .int .u8 0]], []⟩ 8 (by kernel_rfl) (by kernel_rfl) (by kernel_rfl) (by kernel_rfl)) ?_
  intro W base args ds gs before hval0 hW hcnd _
  have hval : ∀ (j : Nat) t v, Try.f4.params[j]? = some t → args[j]? = some v → Value.okWide Try.prog W .any base t v := hval0
  have hW' := hW
  obtain ⟨p, q, hA0, hV, rfl, hfz, hnd⟩ := hW
  have hA : DataW.TrodAll enc Try.prog W 0 (fun _ => true) true Try.f4.params.toList args.toList ds p := hA0
  rw [Try.params4] at hA hval
  obtain ⟨v0, v1, v2, d0, d1, d2, p0, p1, p2, hargs, rfl, rfl, g0, g1, g2⟩ := trodAll_three hA
  have hargs' : args = #[v0, v1, v2] := by simpa using hargs
  subst hargs'
  obtain ⟨rfl, rfl⟩ := trodVars_none hV
  have hv0 := nums_open Try.underlying22 Try.underlying5 (by kernel_rfl) (hval 0 _ v0 rfl rfl) g0
  obtain ⟨l1, k1, rfl, r1⟩ := arr_rep Try.underlying23 (n := 16) (by kernel_rfl) (show Try.prog.cellTypes Try.prog.depth 23 = some (List.replicate 16 5) by kernel_rfl) (e := 5) (by intro x hx; exact List.eq_of_mem_replicate hx) Try.underlying5 (hval 1 _ v1 rfl rfl)
  obtain ⟨l2, k2, rfl, r2⟩ := arr_rep Try.underlying23 (n := 16) (by kernel_rfl) (show Try.prog.cellTypes Try.prog.depth 23 = some (List.replicate 16 5) by kernel_rfl) (e := 5) (by intro x hx; exact List.eq_of_mem_replicate hx) Try.underlying5 (hval 2 _ v2 rfl rfl)
  refine (aesApart_calls k1 r1 k2 r2 W hv0).mono fun e W' ⟨he, hb⟩ => ?_
  exact ⟨_, he, post_of_law laidOut (by rw [Try.params4]; decide +kernel) hW' rfl rfl Try.underlying4 rfl rfl rfl hb⟩

theorem aesApart_holds : Rows.AesApartSaid :=
  OpenClaim.holds_of_wide 4 Try.f4 rfl rfl rfl rfl rfl rfl rfl ⟨rfl, rfl, rfl, rfl, rfl⟩ rfl rfl rfl rfl rfl (by kernel_rfl) Try.func4 (by kernel_rfl)
    (of_decide_eq_true (by kernel_rfl)) (by unfold Func.isWrapper; first | (rw [if_pos (by decide +kernel)]; kernel_rfl) | (rw [if_neg (by decide +kernel)]; exact ⟨rfl, rfl⟩))
    (fun os started H enc _ => aesApart_lifted os started H enc)
end Go.Proofs.Ytclkicobnmjpoaa
