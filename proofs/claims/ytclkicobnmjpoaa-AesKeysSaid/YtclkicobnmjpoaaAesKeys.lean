/- A key is taken as it was handed in, and what becomes of its bytes plays no part: for every key and every block the law answers true. No condition. -/
import Derived.Test.YtclkicobnmjpoaaAesV
import Derived.Test.YtclkicobnmjpoaaAesL
namespace Go.Proofs.Ytclkicobnmjpoaa
open Go.Ev Go.Sh Go.As
open Go.ChangeShapes Go.WideShapes Go.ChangeAt Go.RowKit
set_option maxRecDepth 100000
def keysO (p q r : Bool) : List Bool := [!p || p, !p || p, !p || p, !p || p, !p || p, !(match p with | true => p | false => false) || q, !(match p with | true => p | false => false) || r, !(match p with | true => p | false => false) || (match p with | true => p | false => false), !(match p with | true => p | false => false) || (match p with | true => p | false => false), !(match p with | true => p | false => false) || (match p with | true => p | false => false), !(match p with | true => p | false => false) || (match p with | true => p | false => false), !(match p with | true => p | false => false) || (match p with | true => p | false => false)]
def keysV (p v : Bool) : Bool := match (match p with | true => p | false => false) with | true => v | false => false
theorem keys_16 (l b : List Int) : res ((funcA Try.prog qP (deep Try.prog qP hdX 100 3) 100 5 (cArgs 0 [.buf false .u8 16 l, .pl (.ints .u8 16 b)]) (cMem [.buf false .u8 16 l, .pl (.ints .u8 16 b)])).go []) = some (keysO (decide (encB (keyL 4 l) 10 b = encB (keyL 4 l) 10 b)) (decide ((specW 4 l 44).length = 4 * 44)) ((specW 4 l 44).all (inR .u8)), .bool true (keysV (decide (encB (keyL 4 l) 10 b = encB (keyL 4 l) 10 b)) (decide (encB (keyL 4 l) 10 b = encB (specW 4 l 44) 10 b)))) := by kernel_rfl
theorem keys_32 (l b : List Int) : res ((funcA Try.prog qP (deep Try.prog qP hdX 100 3) 100 5 (cArgs 0 [.buf false .u8 32 l, .pl (.ints .u8 16 b)]) (cMem [.buf false .u8 32 l, .pl (.ints .u8 16 b)])).go []) = some (keysO (decide (encB (keyL 8 l) 14 b = encB (keyL 8 l) 14 b)) (decide ((specW 8 l 60).length = 4 * 60)) ((specW 8 l 60).all (inR .u8)), .bool true (keysV (decide (encB (keyL 8 l) 14 b = encB (keyL 8 l) 14 b)) (decide (encB (keyL 8 l) 14 b = encB (specW 8 l 60) 14 b)))) := by kernel_rfl
theorem keys_x (n : Nat) (l b : List Int) : res ((funcA Try.prog qP (deep Try.prog qP hdX 100 3) 100 5 (cArgs 0 [.buf true .u8 n l, .pl (.ints .u8 16 b)]) (cMem [.buf true .u8 n l, .pl (.ints .u8 16 b)])).go [true]) = some ([decide (n < 9223372036854775808), !((n : Int) != 16) || decide (n < 9223372036854775808), !((n : Int) != 16) || ((n : Int) != 16), !((n : Int) != 16) || ((n : Int) != 16), !((n : Int) != 16) || ((n : Int) != 16), match ((n : Int) != 16) with | true => ((n : Int) != 32) | false => false], .bool false true) := by kernel_rfl
theorem keys_nil (b : List Int) : res ((funcA Try.prog qP (deep Try.prog qP hdX 100 3) 100 5 (cArgs 0 [.pl .nilslice, .pl (.ints .u8 16 b)]) (cMem [.pl .nilslice, .pl (.ints .u8 16 b)])).go []) = some ([], .bool false true) := by kernel_rfl
theorem keys_emp (b : List Int) : res ((funcA Try.prog qP (deep Try.prog qP hdX 100 3) 100 5 (cArgs 0 [.empty, .pl (.ints .u8 16 b)]) (cMem [.empty, .pl (.ints .u8 16 b)])).go []) = some ([], .bool false true) := by kernel_rfl
theorem unmarkV {W : World} {j n : Nat} {k : IntKind} {l : List Int} {v : Value} (h : ∃ L, VOk W j L (.buf true k n l) v) : ∃ L, VOk W j L (.buf false k n l) v := by
  obtain ⟨L, h1, h2⟩ := h
  refine ⟨L, fun ρ N hρ hN => ?_, fun b hb => ⟨fun hrw => ?_, (h2 b hb).2⟩⟩
  · have hr := h1 ρ N hρ hN
    cases hr with
    | slice _ _ _ _ _ _ c ad hn hc hl hw had => exact .slice false _ _ _ _ _ c ad hn hc hl hw had
  · cases hb; cases hrw
theorem aesKeys_calls {b : List Int} (kb : b.length = 16) (rb : ∀ x ∈ b, inR .u8 x = true) {v : Value} (W : World) (hv : v = .slice none 0 0 ∨ ∃ (a : Addr) (len cap : Nat) (zs : List Int), v = .slice (some a) len cap ∧ len ≤ cap ∧ cap ≤ maxLen ∧ zs.length = cap ∧ (∀ i, i < zs.length → W.cell? (a.add i) = some (.int .u8 (zs.getD i 0))) ∧ ∀ n ∈ zs, inR .u8 n = true) :
    Calls Try.prog 5 #[v, .agg (b.map (Value.int .u8)).toArray] W (fun e w' => e = .returned (.bool true) ∧ Below W.heap.size W w') := by
  have h2 : ∃ L, VOk W 1 L (.pl (.ints .u8 16 b)) (.agg (b.map (Value.int .u8)).toArray) := VOk.plain fun ρ N => .ints .u8 16 _ kb rb
  rcases VOk.bytes (W := W) 0 hv with h | h | ⟨n, l, hn, hm, hl, hr, h⟩
  · exact law_of_go mixed (hdX_ok.deep mixed noCount 100 3) [] (keys_nil b) (all1_paid rfl) rfl (.cons _ _ _ _ _ h (.cons _ _ _ _ _ h2 (.nil _)))
  · exact law_of_go mixed (hdX_ok.deep mixed noCount 100 3) [] (keys_emp b) (all1_paid rfl) rfl (.cons _ _ _ _ _ h (.cons _ _ _ _ _ h2 (.nil _)))
  · have hm' : n < 9223372036854775808 := by unfold maxLen at hm; omega
    have hB : ∀ x ∈ l, B8 x := fun x hx => inR_b8 (hr x hx)
    have hall : ∀ N k, ((specW N l k).all (inR .u8)) = true := fun N k => List.all_eq_true.2 fun x hx => b8_inR (specW_b8 N hB k x hx)
    by_cases h16 : n = 16
    · subst h16
      have ev := keys_16 l b
      rw [decide_eq_true (rfl : encB (keyL 4 l) 10 b = encB (keyL 4 l) 10 b), decide_eq_true (specW_len 4 l 44), hall 4 44] at ev
      exact law_of_go mixed (hdX_ok.deep mixed noCount 100 3) [] ev (all1_paid rfl) (decide_eq_true (enc_same (N := 4) (by decide) (by omega) hB b)) (.cons _ _ _ _ _ (unmarkV h) (.cons _ _ _ _ _ h2 (.nil _)))
    · by_cases h32 : n = 32
      · subst h32
        have ev := keys_32 l b
        rw [decide_eq_true (rfl : encB (keyL 8 l) 14 b = encB (keyL 8 l) 14 b), decide_eq_true (specW_len 8 l 60), hall 8 60] at ev
        exact law_of_go mixed (hdX_ok.deep mixed noCount 100 3) [] ev (all1_paid rfl) (decide_eq_true (enc_same (N := 8) (by decide) (by omega) hB b)) (.cons _ _ _ _ _ (unmarkV h) (.cons _ _ _ _ _ h2 (.nil _)))
      · have ev := keys_x n l b
        have e1 : ((n : Int) != 16) = true := by simp; omega
        have e2 : ((n : Int) != 32) = true := by simp; omega
        rw [decide_eq_true hm', e1, e2] at ev
        exact law_of_go mixed (hdX_ok.deep mixed noCount 100 3) [true] ev (all1_paid rfl) rfl (.cons _ _ _ _ _ h (.cons _ _ _ _ _ h2 (.nil _)))

theorem aesKeys_lifted (os : Os) (started : os.Started) (H : Type) (enc : TypeId × Value → H) :
    ReturnsInHanded {} Try.checked os 5 .any (Rows.aesKeysSpec.pre6 enc Try.prog Try.f5 Rows.aesKeysRow.domain false) (Rows.aesKeysSpec.post enc Try.prog Try.f5 false true false false) := by
  refine returnsInHanded_of_change (C := Try.checked) own started (by kernel_rfl) Try.func5
    (ChangeSpec.witness6 (enc := enc) (C := Try.checked) false ⟨#[], #[.slice none 0 0, .agg #[.int .u8 0, .int .u8 0, .int .u8 0, .int .u8 0, .int .u8 0, .int .u8 0, .int .u8 0, .int .u8 0, .int .u8 0, .int .u8 0, .int .u8 0, .int .u8 0, .int .u8 0, .int .u8 0, .int .u8 0, .int .u8 0]], []⟩ 8 (by kernel_rfl) (by kernel_rfl) (by kernel_rfl) (by kernel_rfl)) ?_
  intro W base args ds gs before hval0 hW hcnd _
  have hval : ∀ (j : Nat) t v, Try.f5.params[j]? = some t → args[j]? = some v → Value.okWide Try.prog W .any base t v := hval0
  have hW' := hW
  obtain ⟨p, q, hA0, hV, rfl, hfz, hnd⟩ := hW
  have hA : DataW.TrodAll enc Try.prog W 0 (fun _ => true) true Try.f5.params.toList args.toList ds p := hA0
  rw [Try.params5] at hA hval
  obtain ⟨v0, v1, d0, d1, p0, p1, hargs, rfl, rfl, g0, g1⟩ := trodAll_two hA
  have hargs' : args = #[v0, v1] := by simpa using hargs
  subst hargs'
  obtain ⟨rfl, rfl⟩ := trodVars_none hV
  have hv0 := nums_open Try.underlying22 Try.underlying5 (by kernel_rfl) (hval 0 _ v0 rfl rfl) g0
  obtain ⟨l1, k1, rfl, r1⟩ := arr_rep Try.underlying23 (n := 16) (by kernel_rfl) (show Try.prog.cellTypes Try.prog.depth 23 = some (List.replicate 16 5) by kernel_rfl) (e := 5) (by intro x hx; exact List.eq_of_mem_replicate hx) Try.underlying5 (hval 1 _ v1 rfl rfl)
  refine (aesKeys_calls k1 r1 W hv0).mono fun e W' ⟨he, hb⟩ => ?_
  exact ⟨_, he, post_of_law laidOut (by rw [Try.params5]; decide +kernel) hW' rfl rfl Try.underlying4 rfl rfl rfl hb⟩

theorem aesKeys_holds : Rows.AesKeysSaid :=
  OpenClaim.holds_of_wide 5 Try.f5 rfl rfl rfl rfl rfl rfl rfl ⟨rfl, rfl, rfl, rfl, rfl⟩ rfl rfl rfl rfl rfl (by kernel_rfl) Try.func5 (by kernel_rfl)
    (of_decide_eq_true (by kernel_rfl)) (by unfold Func.isWrapper; first | (rw [if_pos (by decide +kernel)]; kernel_rfl) | (rw [if_neg (by decide +kernel)]; exact ⟨rfl, rfl⟩))
    (fun os started H enc _ => aesKeys_lifted os started H enc)
end Go.Proofs.Ytclkicobnmjpoaa
