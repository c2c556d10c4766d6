/- Blocks are enciphered as the reference has it; keys that have not 16 or 32 bytes are refused: for every key and every block the law answers true. No condition. -/
import Derived.Test.YtclkicobnmjpoaaAesV
import Derived.Test.YtclkicobnmjpoaaAesL
namespace Go.Proofs.Ytclkicobnmjpoaa
open Go.Ev Go.Sh Go.As
open Go.ChangeShapes Go.WideShapes Go.ChangeAt Go.RowKit
set_option maxRecDepth 100000
theorem blocks_16 (n : Nat) (l b : List Int) : res ((funcA Try.prog qP (deep Try.prog qP hd16 100 3) 100 3 (cArgs 0 [.buf true .u8 n l, .pl (.ints .u8 16 b)]) (cMem [.buf true .u8 n l, .pl (.ints .u8 16 b)])).go [false]) = some ([decide (n < 9223372036854775808), !decide ((n : Int) > 100), decide (0 + n ≤ n), decide (n = 16), decide (0 + n ≤ n), decide (n = 16), decide ((specW 4 ((l.drop 0).take n) 44).length = 4 * 44), (specW 4 ((l.drop 0).take n) 44).all (inR .u8)], .bool true (decide (encB (keyL 4 ((l.drop 0).take n)) 10 b = encB (specW 4 ((l.drop 0).take n) 44) 10 b))) := by kernel_rfl
theorem blocks_32 (n : Nat) (l b : List Int) : res ((funcA Try.prog qP (deep Try.prog qP hd32 100 3) 100 3 (cArgs 0 [.buf true .u8 n l, .pl (.ints .u8 16 b)]) (cMem [.buf true .u8 n l, .pl (.ints .u8 16 b)])).go [false]) = some ([decide (n < 9223372036854775808), !decide ((n : Int) > 100), decide (0 + n ≤ n), decide (n = 32), decide (0 + n ≤ n), decide (n = 32), decide ((specW 8 ((l.drop 0).take n) 60).length = 4 * 60), (specW 8 ((l.drop 0).take n) 60).all (inR .u8)], .bool true (decide (encB (keyL 8 ((l.drop 0).take n)) 14 b = encB (specW 8 ((l.drop 0).take n) 60) 14 b))) := by kernel_rfl
theorem blocks_x (n : Nat) (l b : List Int) : res ((funcA Try.prog qP (deep Try.prog qP hdX 100 3) 100 3 (cArgs 0 [.buf true .u8 n l, .pl (.ints .u8 16 b)]) (cMem [.buf true .u8 n l, .pl (.ints .u8 16 b)])).go [false]) = some ([decide (n < 9223372036854775808), !decide ((n : Int) > 100), decide (0 + n ≤ n), !decide (n = 16), !decide (n = 32), decide (n < 9223372036854775808), decide (0 + n ≤ n), !decide (n = 16), !decide (n = 32), decide (n < 9223372036854775808)], .bool true true) := by kernel_rfl
theorem blocks_long (n : Nat) (l b : List Int) : res ((funcA Try.prog qP (deep Try.prog qP hdX 100 3) 100 3 (cArgs 0 [.buf true .u8 n l, .pl (.ints .u8 16 b)]) (cMem [.buf true .u8 n l, .pl (.ints .u8 16 b)])).go [true]) = some ([decide (n < 9223372036854775808), decide ((n : Int) > 100)], .bool false true) := by kernel_rfl
theorem blocks_nil (b : List Int) : res ((funcA Try.prog qP (deep Try.prog qP hdX 100 3) 100 3 (cArgs 0 [.pl .nilslice, .pl (.ints .u8 16 b)]) (cMem [.pl .nilslice, .pl (.ints .u8 16 b)])).go []) = some ([], .bool true true) := by kernel_rfl
theorem blocks_emp (b : List Int) : res ((funcA Try.prog qP (deep Try.prog qP hdX 100 3) 100 3 (cArgs 0 [.empty, .pl (.ints .u8 16 b)]) (cMem [.empty, .pl (.ints .u8 16 b)])).go []) = some ([], .bool true true) := by kernel_rfl
theorem aesBlocks_calls {b : List Int} (kb : b.length = 16) (rb : ∀ x ∈ b, inR .u8 x = true) {v : Value} (W : World) (hv : v = .slice none 0 0 ∨ ∃ (a : Addr) (len cap : Nat) (zs : List Int), v = .slice (some a) len cap ∧ len ≤ cap ∧ cap ≤ maxLen ∧ zs.length = cap ∧ (∀ i, i < zs.length → W.cell? (a.add i) = some (.int .u8 (zs.getD i 0))) ∧ ∀ n ∈ zs, inR .u8 n = true) :
    Calls Try.prog 3 #[v, .agg (b.map (Value.int .u8)).toArray] W (fun e w' => e = .returned (.bool true) ∧ Below W.heap.size W w') := by
  have h2 : ∃ L, VOk W 1 L (.pl (.ints .u8 16 b)) (.agg (b.map (Value.int .u8)).toArray) := VOk.plain fun ρ N => .ints .u8 16 _ kb rb
  rcases VOk.bytes (W := W) 0 hv with h | h | ⟨n, l, hn, hm, hl, hr, h⟩
  · exact law_of_go mixed (hdX_ok.deep mixed noCount 100 3) [] (blocks_nil b) (all1_paid rfl) rfl (.cons _ _ _ _ _ h (.cons _ _ _ _ _ h2 (.nil _)))
  · exact law_of_go mixed (hdX_ok.deep mixed noCount 100 3) [] (blocks_emp b) (all1_paid rfl) rfl (.cons _ _ _ _ _ h (.cons _ _ _ _ _ h2 (.nil _)))
  · have hm' : n < 9223372036854775808 := by unfold maxLen at hm; omega
    have hvs : VOks W 0 [.buf true .u8 n l, .pl (.ints .u8 16 b)] _ := .cons _ _ _ _ _ h (.cons _ _ _ _ _ h2 (.nil _))
    have hB : ∀ x ∈ l, B8 x := fun x hx => inR_b8 (hr x hx)
    have hT : (l.drop 0).take n = l := by rw [List.drop_zero, List.take_of_length_le (by omega)]
    have hall : ∀ N k, ((specW N l k).all (inR .u8)) = true := fun N k => List.all_eq_true.2 fun x hx => b8_inR (specW_b8 N hB k x hx)
    by_cases hlong : (n : Int) > 100
    · have ev := blocks_long n l b
      rw [decide_eq_true hm', decide_eq_true hlong] at ev
      exact law_of_go mixed (hdX_ok.deep mixed noCount 100 3) [true] ev (all1_paid rfl) rfl hvs
    · by_cases h16 : n = 16
      · have ev := blocks_16 n l b
        rw [hT, decide_eq_true hm', decide_eq_false hlong, decide_eq_true (show 0 + n ≤ n by omega), decide_eq_true h16, decide_eq_true (specW_len 4 l 44), hall 4 44] at ev
        exact law_of_go mixed (hd16_ok.deep mixed noCount 100 3) [false] ev (all1_paid rfl) (decide_eq_true (enc_same (N := 4) (by decide) (by omega) hB b)) hvs
      · by_cases h32 : n = 32
        · have ev := blocks_32 n l b
          rw [hT, decide_eq_true hm', decide_eq_false hlong, decide_eq_true (show 0 + n ≤ n by omega), decide_eq_true h32, decide_eq_true (specW_len 8 l 60), hall 8 60] at ev
          exact law_of_go mixed (hd32_ok.deep mixed noCount 100 3) [false] ev (all1_paid rfl) (decide_eq_true (enc_same (N := 8) (by decide) (by omega) hB b)) hvs
        · have ev := blocks_x n l b
          rw [decide_eq_true hm', decide_eq_false hlong, decide_eq_true (show 0 + n ≤ n by omega), decide_eq_false h16, decide_eq_false h32] at ev
          exact law_of_go mixed (hdX_ok.deep mixed noCount 100 3) [false] ev (all1_paid rfl) rfl hvs

theorem aesBlocks_lifted (os : Os) (started : os.Started) (H : Type) (enc : TypeId × Value → H) :
    ReturnsInHanded {} Try.checked os 3 .any (Rows.aesBlocksSpec.pre6 enc Try.prog Try.f3 Rows.aesBlocksRow.domain false) (Rows.aesBlocksSpec.post enc Try.prog Try.f3 false true false false) := by
  refine returnsInHanded_of_change (C := Try.checked) own started (by kernel_rfl) Try.func3
    (ChangeSpec.witness6 (enc := enc) (C := Try.checked) false ⟨#[], #[.slice none 0 0, .agg #[.int .u8 0, .int .u8 0, .int .u8 0, .int .u8 0, .int .u8 0, .int .u8 0, .int .u8 0, .int .u8 0, .int .u8 0, .int .u8 0, .int .u8 0, .int .u8 0, .int .u8 0, .int .u8 0, .int .u8 0, .int .u8 0]], []⟩ 8 (by kernel_rfl) (by kernel_rfl) (by kernel_rfl) (by kernel_rfl)) ?_
  intro W base args ds gs before hval0 hW hcnd _
  have hval : ∀ (j : Nat) t v, Try.f3.params[j]? = some t → args[j]? = some v → Value.okWide Try.prog W .any base t v := hval0
  have hW' := hW
  obtain ⟨p, q, hA0, hV, rfl, hfz, hnd⟩ := hW
  have hA : DataW.TrodAll enc Try.prog W 0 (fun _ => true) true Try.f3.params.toList args.toList ds p := hA0
  rw [Try.params3] at hA hval
  obtain ⟨v0, v1, d0, d1, p0, p1, hargs, rfl, rfl, g0, g1⟩ := trodAll_two hA
  have hargs' : args = #[v0, v1] := by simpa using hargs
  subst hargs'
  obtain ⟨rfl, rfl⟩ := trodVars_none hV
  have hv0 := nums_open Try.underlying22 Try.underlying5 (by kernel_rfl) (hval 0 _ v0 rfl rfl) g0
  obtain ⟨l1, k1, rfl, r1⟩ := arr_rep Try.underlying23 (n := 16) (by kernel_rfl) (show Try.prog.cellTypes Try.prog.depth 23 = some (List.replicate 16 5) by kernel_rfl) (e := 5) (by intro x hx; exact List.eq_of_mem_replicate hx) Try.underlying5 (hval 1 _ v1 rfl rfl)
  refine (aesBlocks_calls k1 r1 W hv0).mono fun e W' ⟨he, hb⟩ => ?_
  exact ⟨_, he, post_of_law laidOut (by rw [Try.params3]; decide +kernel) hW' rfl rfl Try.underlying4 rfl rfl rfl hb⟩

theorem aesBlocks_holds : Rows.AesBlocksSaid :=
  OpenClaim.holds_of_wide 3 Try.f3 rfl rfl rfl rfl rfl rfl rfl ⟨rfl, rfl, rfl, rfl, rfl⟩ rfl rfl rfl rfl rfl (by kernel_rfl) Try.func3 (by kernel_rfl)
    (of_decide_eq_true (by kernel_rfl)) (by unfold Func.isWrapper; first | (rw [if_pos (by decide +kernel)]; kernel_rfl) | (rw [if_neg (by decide +kernel)]; exact ⟨rfl, rfl⟩))
    (fun os started H enc _ => aesBlocks_lifted os started H enc)
end Go.Proofs.Ytclkicobnmjpoaa
