/- Codes are the reference's, of all keys and texts: for every key and message the law answers true. No condition. -/
import Derived.Test.YtpbemjifhampcaaQCChPp
import Derived.Test.YtpbemjifhampcaaQCEvPut
import Derived.Test.YtpbemjifhampcaaQCAesL
set_option linter.unusedSimpArgs false
set_option linter.unusedVariables false
set_option linter.unusedSectionVars false
namespace Go.Proofs.Ytpbemjifhampcaa
open Go.Ev Go.Sh Go.Ch
open Go.ChangeShapes Go.WideShapes Go.ChangeAt Go.RowKit
set_option maxRecDepth 100000
theorem no_or (b : Bool) : (!b || b) = true := by cases b <;> rfl
theorem or_big (b : Bool) {x : Bool} (h : x = true) : (!b || x) = true := by rw [h]; cases b <;> rfl
theorem unmarkB {W : World} {j n : Nat} {k : IntKind} {l : List Int} {v : Value} (h : ∃ L, VOk W j L (.buf true k n l) v) : ∃ L, VOk W j L (.buf false k n l) v := by
  obtain ⟨L, h1, h2⟩ := h
  refine ⟨L, fun ρ N hρ hN => ?_, fun b hb => ⟨fun hrw => ?_, (h2 b hb).2⟩⟩
  · have hr := h1 ρ N hρ hN
    cases hr with
    | slice _ _ _ _ _ _ c ad hn hc hl hw had => exact .slice false _ _ _ _ _ c ad hn hc hl hw had
  · cases hb; cases hrw
theorem cc_nilbuf (n : Nat) (p : List Int) : res ((funcL Try.prog qD (deep Try.prog qD hy5 100 5) (fun _ _ => none) 100 6 (cArgs 0 [.pl .nilslice, .buf true .u8 n p]) (cMem [.pl .nilslice, .buf true .u8 n p])).go []) = some ([decide (0 + n ≤ n)], .bool true (true)) := by kernel_rfl
theorem cc_nilnil : res ((funcL Try.prog qD (deep Try.prog qD hy5 100 5) (fun _ _ => none) 100 6 (cArgs 0 [.pl .nilslice, .pl .nilslice]) (cMem [.pl .nilslice, .pl .nilslice])).go []) = some ([], .bool true (true)) := by kernel_rfl
theorem cc_nilemp : res ((funcL Try.prog qD (deep Try.prog qD hy5 100 5) (fun _ _ => none) 100 6 (cArgs 0 [.pl .nilslice, .empty]) (cMem [.pl .nilslice, .empty])).go []) = some ([], .bool true (true)) := by kernel_rfl
theorem cc_empbuf (n : Nat) (p : List Int) : res ((funcL Try.prog qD (deep Try.prog qD hy5 100 5) (fun _ _ => none) 100 6 (cArgs 0 [.empty, .buf true .u8 n p]) (cMem [.empty, .buf true .u8 n p])).go []) = some ([decide (0 + n ≤ n)], .bool true (true)) := by kernel_rfl
theorem cc_empnil : res ((funcL Try.prog qD (deep Try.prog qD hy5 100 5) (fun _ _ => none) 100 6 (cArgs 0 [.empty, .pl .nilslice]) (cMem [.empty, .pl .nilslice])).go []) = some ([], .bool true (true)) := by kernel_rfl
theorem cc_empemp : res ((funcL Try.prog qD (deep Try.prog qD hy5 100 5) (fun _ _ => none) 100 6 (cArgs 0 [.empty, .empty]) (cMem [.empty, .empty])).go []) = some ([], .bool true (true)) := by kernel_rfl
theorem cc_bufbuf (i : Nat) (k : List Int) (n : Nat) (p : List Int) : res ((funcL Try.prog qD (deep Try.prog qD hy5 100 5) (fun _ _ => none) 100 6 (cArgs 0 [.buf true .u8 i k, .buf true .u8 n p]) (cMem [.buf true .u8 i k, .buf true .u8 n p])).go [true]) = some ([decide (0 + i ≤ i), decide (0 + n ≤ n), decide (i < 9223372036854775808), !decide (i = 32), decide (i < 9223372036854775808), ((i : Int) != 32)], .bool true (true)) := by kernel_rfl
theorem cc_bufnil (i : Nat) (k : List Int) : res ((funcL Try.prog qD (deep Try.prog qD hy5 100 5) (fun _ _ => none) 100 6 (cArgs 0 [.buf true .u8 i k, .pl .nilslice]) (cMem [.buf true .u8 i k, .pl .nilslice])).go [true]) = some ([decide (0 + i ≤ i), decide (i < 9223372036854775808), !decide (i = 32), decide (i < 9223372036854775808), ((i : Int) != 32)], .bool true (true)) := by kernel_rfl
theorem cc_bufemp (i : Nat) (k : List Int) : res ((funcL Try.prog qD (deep Try.prog qD hy5 100 5) (fun _ _ => none) 100 6 (cArgs 0 [.buf true .u8 i k, .empty]) (cMem [.buf true .u8 i k, .empty])).go [true]) = some ([decide (0 + i ≤ i), decide (i < 9223372036854775808), !decide (i = 32), decide (i < 9223372036854775808), ((i : Int) != 32)], .bool true (true)) := by kernel_rfl
theorem cc_fitbuf (k : List Int) (n : Nat) (p : List Int) : res ((funcL Try.prog qD (deep Try.prog qD hy5 100 5) (fun _ _ => none) 100 6 (cArgs 0 [.buf false .u8 32 k, .buf true .u8 n p]) (cMem [.buf false .u8 32 k, .buf true .u8 n p])).go []) = some ([decide (0 + n ≤ n), decide (1 ≤ n), decide (n < 9223372036854775808), decide (n < 9223372036854775808), (!(!decide ((n : Int) > 500)) || !decide ((n : Int) > 500)), (!(!decide ((n : Int) > 500)) || !decide ((n : Int) > 500)), (!(!decide ((n : Int) > 500) && ((0 : Int) == 0)) || decide (0 + n ≤ n)), (!(!decide ((n : Int) > 500) && ((0 : Int) == 0)) || decide (n ≤ 140737488351232)), (!(!decide ((n : Int) > 500) && ((0 : Int) == 0)) || (!decide ((n : Int) > 500) && ((0 : Int) == 0))), (!(!decide ((n : Int) > 500) && ((0 : Int) == 0)) || (!decide ((n : Int) > 500) && ((0 : Int) == 0))), (!(!decide ((n : Int) > 500) && ((0 : Int) == 0)) || (!decide ((n : Int) > 500) && ((0 : Int) == 0))), (!(!decide ((n : Int) > 500) && ((0 : Int) == 0)) || (!decide ((n : Int) > 500) && ((0 : Int) == 0))), (!(!decide ((n : Int) > 500)) || !decide ((n : Int) > 500)), (decide ((n : Int) > 500) || (!decide ((n : Int) > 500) && (!decide ((n : Int) > 500) && ((0 : Int) == 0))))], .bool true ((match decide ((n : Int) > 500) with | true => true | false => decide (codB k ((p.drop 0).take n) = codB (k.take 32) ((p.drop 0).take n))))) := by kernel_rfl
theorem cc_fitnil (k : List Int) : res ((funcL Try.prog qD (deep Try.prog qD hy5 100 5) (fun _ _ => none) 100 6 (cArgs 0 [.buf false .u8 32 k, .pl .nilslice]) (cMem [.buf false .u8 32 k, .pl .nilslice])).go []) = some ([], .bool true (decide (codB k [] = codB (k.take 32) []))) := by kernel_rfl
theorem cc_fitemp (k : List Int) : res ((funcL Try.prog qD (deep Try.prog qD hy5 100 5) (fun _ _ => none) 100 6 (cArgs 0 [.buf false .u8 32 k, .empty]) (cMem [.buf false .u8 32 k, .empty])).go []) = some ([], .bool true (decide (codB k [] = codB (k.take 32) []))) := by kernel_rfl
theorem chachaCodes_calls {v0 v1 : Value} {W0 : World} (r0 : Nums W0 .u8 reachBytes v0) (r1 : Nums W0 .u8 reachBytes v1) (W : World) (hW : W0 = W := by rfl) :
    Calls Try.prog 6 #[v0, v1] W (fun e w' => e = .returned (.bool true) ∧ Below W.heap.size W w') := by
  subst hW
  have LO : ∀ (k0 : Nat) (fn : Func) (c : Code), Try.prog.funcs[6]? = some fn → fn.body = some c → LOkN k0 Try.prog c (fun _ _ => none) := fun k0 fn c hf hb => LOkN.none
  have fin : ∀ {xs : List V} {ds : List Bool} {o : List Bool} {s b : Bool}, res ((funcL Try.prog qD (deep Try.prog qD hy5 100 5) (fun _ _ => none) 100 6 (cArgs 0 xs) (cMem xs)).go ds) = some (o, .bool s b) → Paid o → b = true → VOks W0 0 xs [v0, v1] → noW xs = true → Calls Try.prog 6 #[v0, v1] W0 (fun e w' => e = .returned (.bool true) ∧ Below W0.heap.size W0 w') :=
    fun {xs ds o s b} h ho hb hv hw => law_of_goN mixed (hy5_ok.deep mixed noCount 100 5) (LO _) ds h ho hb hv hw
  rcases VOk.bytes (W := W0) 0 r0 with g0 | g0 | ⟨i, k, hi1, hi2, hi3, hi4, g0⟩ <;> rcases VOk.bytes (W := W0) 1 r1 with g1 | g1 | ⟨n, p, hn1, hn2, hn3, hn4, g1⟩
  · exact fin (ds := []) (cc_nilnil) (Paid.nil) (rfl) (.cons _ _ _ _ _ g0 (.cons _ _ _ _ _ g1 (.nil _))) rfl
  · exact fin (ds := []) (cc_nilemp) (Paid.nil) (rfl) (.cons _ _ _ _ _ g0 (.cons _ _ _ _ _ g1 (.nil _))) rfl
  · have bn : n ≤ 140737488351232 := hn2
    exact fin (ds := []) (cc_nilbuf n p) (paid_cons (decide_eq_true (by omega)) (Paid.nil)) (rfl) (.cons _ _ _ _ _ g0 (.cons _ _ _ _ _ g1 (.nil _))) rfl
  · exact fin (ds := []) (cc_empnil) (Paid.nil) (rfl) (.cons _ _ _ _ _ g0 (.cons _ _ _ _ _ g1 (.nil _))) rfl
  · exact fin (ds := []) (cc_empemp) (Paid.nil) (rfl) (.cons _ _ _ _ _ g0 (.cons _ _ _ _ _ g1 (.nil _))) rfl
  · have bn : n ≤ 140737488351232 := hn2
    exact fin (ds := []) (cc_empbuf n p) (paid_cons (decide_eq_true (by omega)) (Paid.nil)) (rfl) (.cons _ _ _ _ _ g0 (.cons _ _ _ _ _ g1 (.nil _))) rfl
  · have bi : i ≤ 140737488351232 := hi2
    by_cases hk0 : i = 32
    · subst hk0
      have ek : k.take 32 = k := List.take_of_length_le (by omega)
      exact fin (ds := []) (cc_fitnil k) (Paid.nil) (decide_eq_true (by rw [ek])) (.cons _ _ _ _ _ (unmarkB g0) (.cons _ _ _ _ _ g1 (.nil _))) rfl
    · exact fin (ds := [true]) (cc_bufnil i k) (paid_cons (decide_eq_true (by omega)) (paid_cons (decide_eq_true (by omega)) (paid_cons (by simp; omega) (paid_cons (decide_eq_true (by omega)) (paid_cons (by simp; omega) (Paid.nil)))))) (rfl) (.cons _ _ _ _ _ g0 (.cons _ _ _ _ _ g1 (.nil _))) rfl
  · have bi : i ≤ 140737488351232 := hi2
    by_cases hk0 : i = 32
    · subst hk0
      have ek : k.take 32 = k := List.take_of_length_le (by omega)
      exact fin (ds := []) (cc_fitemp k) (Paid.nil) (decide_eq_true (by rw [ek])) (.cons _ _ _ _ _ (unmarkB g0) (.cons _ _ _ _ _ g1 (.nil _))) rfl
    · exact fin (ds := [true]) (cc_bufemp i k) (paid_cons (decide_eq_true (by omega)) (paid_cons (decide_eq_true (by omega)) (paid_cons (by simp; omega) (paid_cons (decide_eq_true (by omega)) (paid_cons (by simp; omega) (Paid.nil)))))) (rfl) (.cons _ _ _ _ _ g0 (.cons _ _ _ _ _ g1 (.nil _))) rfl
  · have bi : i ≤ 140737488351232 := hi2
    have bn : n ≤ 140737488351232 := hn2
    by_cases hk0 : i = 32
    · subst hk0
      have ek : k.take 32 = k := List.take_of_length_le (by omega)
      have ep : (p.drop 0).take n = p := by rw [List.drop_zero, List.take_of_length_le (by omega)]
      exact fin (ds := []) (cc_fitbuf k n p) (paid_cons (decide_eq_true (by omega)) (paid_cons (decide_eq_true hn1) (paid_cons (decide_eq_true (by omega)) (paid_cons (decide_eq_true (by omega)) (paid_cons (by cases decide ((n : Int) > 500) <;> rfl) (paid_cons (by cases decide ((n : Int) > 500) <;> rfl) (paid_cons (or_big _ (decide_eq_true (by omega))) (paid_cons (or_big _ (decide_eq_true (by omega))) (paid_cons (no_or _) (paid_cons (no_or _) (paid_cons (no_or _) (paid_cons (no_or _) (paid_cons (by cases decide ((n : Int) > 500) <;> rfl) (paid_cons (by cases decide ((n : Int) > 500) <;> rfl) (Paid.nil))))))))))))))) (by rw [ep, ek, decide_eq_true rfl]; cases decide ((n : Int) > 500) <;> rfl) (.cons _ _ _ _ _ (unmarkB g0) (.cons _ _ _ _ _ g1 (.nil _))) rfl
    · exact fin (ds := [true]) (cc_bufbuf i k n p) (paid_cons (decide_eq_true (by omega)) (paid_cons (decide_eq_true (by omega)) (paid_cons (decide_eq_true (by omega)) (paid_cons (by simp; omega) (paid_cons (decide_eq_true (by omega)) (paid_cons (by simp; omega) (Paid.nil))))))) (rfl) (.cons _ _ _ _ _ g0 (.cons _ _ _ _ _ g1 (.nil _))) rfl

theorem chachaCodes_lifted (os : Os) (started : os.Started) (H : Type) (enc : TypeId × Value → H) :
    ReturnsInHanded {} Try.checked os 6 .any (Rows.chachaCodesSpec.pre6 enc Try.prog Try.f6 Rows.chachaCodesRow.domain false) (Rows.chachaCodesSpec.post enc Try.prog Try.f6 false true false false) := by
  refine returnsInHanded_of_change_sized (C := Try.checked) own started (by kernel_rfl) Try.func6
    (ChangeSpec.witness6 (enc := enc) (C := Try.checked) false ⟨#[], #[.slice none 0 0, .slice none 0 0], []⟩ 8 (by kernel_rfl) (by kernel_rfl) (by kernel_rfl) (by kernel_rfl)) ?_
  intro W base args ds gs before hval0 hW hcnd hsz0 _
  have hval : ∀ (j : Nat) t v, Try.f6.params[j]? = some t → args[j]? = some v → Value.okWide Try.prog W .any base t v := hval0
  have hW' := hW
  obtain ⟨p, q, hA0, hV, rfl, hfz, hnd⟩ := hW
  have hA : DataW.TrodAll enc Try.prog W 0 (fun _ => true) true Try.f6.params.toList args.toList ds p := hA0
  have hsz := hsz0
  rw [Try.params6] at hA hval
  have hsz : (DataW.weightsEach Try.prog (Try.f6.params.toList ++ Rows.chachaCodesSpec.plain.varTypes Try.prog) (ds ++ gs)).all (· ≤ reachBytes) = true := hsz0
  rw [Try.params6] at hsz
  obtain ⟨v0, v1, d0, d1, p0, p1, hargs, rfl, rfl, g0, g1⟩ := trodAll_two hA
  have hargs' : args = #[v0, v1] := by simpa using hargs
  subst hargs'
  obtain ⟨rfl, rfl⟩ := trodVars_none hV
  have hv0 := nums_sized Try.underlying22 Try.underlying5 (by kernel_rfl) (by kernel_rfl) (hval 0 _ v0 rfl rfl) g0 (arg_sized hsz (j := 0) (t := 22) rfl rfl)
  have hv1 := nums_sized Try.underlying22 Try.underlying5 (by kernel_rfl) (by kernel_rfl) (hval 1 _ v1 rfl rfl) g1 (arg_sized hsz (j := 1) (t := 22) rfl rfl)
  refine (chachaCodes_calls hv0 hv1 W).mono fun e W' ⟨he, hb⟩ => ?_
  exact ⟨_, he, post_of_law laidOut (by rw [Try.params6]; decide +kernel) hW' rfl rfl Try.underlying4 rfl rfl rfl hb⟩

theorem chachaCodes_holds : Rows.ChachaCodesSaid :=
  OpenClaim.holds_of_wide 6 Try.f6 rfl rfl rfl rfl rfl rfl rfl ⟨rfl, rfl, rfl, rfl, rfl⟩ rfl rfl rfl rfl rfl (by kernel_rfl) Try.func6 (by kernel_rfl)
    (of_decide_eq_true (by kernel_rfl)) (by unfold Func.isWrapper; first | (rw [if_pos (by decide +kernel)]; kernel_rfl) | (rw [if_neg (by decide +kernel)]; exact ⟨rfl, rfl⟩))
    (fun os started H enc _ => chachaCodes_lifted os started H enc)
end Go.Proofs.Ytpbemjifhampcaa
