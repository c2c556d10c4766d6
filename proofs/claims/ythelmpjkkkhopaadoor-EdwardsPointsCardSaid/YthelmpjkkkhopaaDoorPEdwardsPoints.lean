/- Any bytes are a point's, or not, as the document has it: for all bytes the law answers true. No condition. -/
import Derived.Test.YthelmpjkkkhopaaDoorPEeLenC
import Derived.Test.YthelmpjkkkhopaaDoorPEwS
set_option linter.unusedSimpArgs false
set_option linter.unusedVariables false
set_option linter.unusedSectionVars false
namespace Go.Proofs.YthelmpjkkkhopaaDoor
open Go.Ev Go.Wn Go.Mo
open Go.ChangeShapes Go.WideShapes Go.ChangeAt Go.RowKit
set_option maxRecDepth 100000
def hEP : CallH := orH hE4 ht3
theorem hEP_ok : HOk Tryd.prog hEP := hE4_ok.or ht3_ok
theorem ep_nil  : res ((funcA Tryd.prog qE (deep Tryd.prog qE hEP 100 5) 200 4 (cArgs 0 [.pl .nilslice]) (cMem [.pl .nilslice])).go []) = some ([], .bool false true) := by kernel_rfl
theorem ep_emp  : res ((funcA Tryd.prog qE (deep Tryd.prog qE hEP 100 5) 200 4 (cArgs 0 [.empty]) (cMem [.empty])).go []) = some ([], .bool false true) := by kernel_rfl
theorem ep_buf (n : Nat) (s : List Int) : res ((funcA Tryd.prog qE (deep Tryd.prog qE hEP 100 5) 200 4 (cArgs 0 [.buf true .u8 n s]) (cMem [.buf true .u8 n s])).go [true]) = some ([decide (0 + n ≤ n), !decide ((n : Int) = 32), decide (n < 9223372036854775808), decide (n < 9223372036854775808), (n : Int) != 32], .bool false true) := by kernel_rfl
theorem ep_32 (s : List Int) : res ((funcA Tryd.prog qE (deep Tryd.prog qE hEP 100 5) 200 4 (cArgs 0 [.buf false .u8 32 s]) (cMem [.buf false .u8 32 s])).go []) = some ([], .bool true (rdOk s == rdOk s)) := by kernel_rfl
theorem edwardsPoints_calls {va : Value} (W : World) (hT : TRep W) (ha : (va = .slice none 0 0 ∨ ∃ (a : Addr) (len cap : Nat) (zs : List Int), va = .slice (some a) len cap ∧ len ≤ cap ∧ cap ≤ maxLen ∧ zs.length = cap ∧ (∀ i, i < zs.length → W.cell? (a.add i) = some (.int .u8 (zs.getD i 0))) ∧ ∀ n ∈ zs, inR .u8 n = true)) :
    Calls Tryd.prog 4 #[va] W (fun e w' => e = .returned (.bool true) ∧ Below W.heap.size W w') := by
  have D := hEP_ok.deep (q := qE) mixed noCount 100 5
  rcases four_ways 0 ha with h | h | ⟨n, l, h1, h2, h⟩ | ⟨s, os, h⟩
  · exact law_of_go mixed D [] ep_nil Paid.nil rfl (.cons _ _ _ _ _ h (.nil _))
  · exact law_of_go mixed D [] ep_emp Paid.nil rfl (.cons _ _ _ _ _ h (.nil _))
  · have e : ((n : Int) != 32) = true := by simpa using h2
    have e2 : ¬ ((n : Int) = 32) := by simpa using h2
    exact law_of_go mixed D [true] (ep_buf n l) (paid_cons (decide_eq_true (by omega)) (paid_cons (by rw [decide_eq_false e2]; rfl) (paid_cons (decide_eq_true h1) (paid_cons (decide_eq_true h1) (paid_cons e Paid.nil))))) rfl (.cons _ _ _ _ _ h (.nil _))
  · exact law_of_go mixed D [] (ep_32 s) Paid.nil (by simp) (.cons _ _ _ _ _ h (.nil _))

theorem edwardsPoints_lifted (os : Os) (started : os.Started) (H : Type) (enc : TypeId × Value → H) :
    ReturnsInHanded {} Tryd.checked os 4 .any (fun w args => (Rows.edwardsPointsSpec.pre enc Tryd.prog Tryd.f4 Rows.edwardsPointsRow.domain false w args ∧ laidMetH Tryd.prog Rows.edwardsBackRow.laid w) ∧ sizedMet enc Tryd.prog Tryd.f4 (OpenSpec.ofChange Rows.edwardsPointsSpec) false w args)
      (Rows.edwardsPointsSpec.post enc Tryd.prog Tryd.f4 false true false false) := by
  refine returnsInHanded_of_change_and (C := Tryd.checked) (X := fun w _ => laidMetH Tryd.prog Rows.edwardsBackRow.laid w) (fun _ _ _ hh h => h.of_heap hh) own started (by kernel_rfl) Tryd.func4
    (ChangeSpec.witness_shaped (enc := enc) (C := Tryd.checked) (os := os) (X := fun w _ => laidMetH Tryd.prog Rows.edwardsBackRow.laid w) false (World.laidAll Tryd.prog os Rows.edwardsBackRow.laid) #[.slice none 0 0] 8 (World.laidAll_os _ _ _)
      (World.shaped_of_ZipB (by kernel_rfl) (by kernel_rfl)) (by kernel_rfl) (by kernel_rfl) (by kernel_rfl)
      (by rw [MakeChecks.laidMetH_plain _ _ _ (by kernel_rfl)]; exact laidMet_laidAll _ (by kernel_rfl) (by kernel_rfl))) ?_
  intro W base args ds gs before hval0 hW _ hsz hL _
  have hT : TRep W := trep_of hL
  have hval : ∀ (j : Nat) t v, Tryd.f4.params[j]? = some t → args[j]? = some v → Value.okWide Tryd.prog W .any base t v := hval0
  have hW' := hW
  obtain ⟨p, q, hA0, hV, rfl, hfz, hnd⟩ := hW
  have hA : DataW.TrodAll enc Tryd.prog W 0 (fun _ => true) true Tryd.f4.params.toList args.toList ds p := hA0
  rw [Tryd.params4] at hA hval
  obtain ⟨v0, d0, hargs, rfl, g0⟩ := trodAll_one hA
  have hargs' : args = #[v0] := by simpa using hargs
  subst hargs'
  obtain ⟨rfl, rfl⟩ := trodVars_none hV
  have hv0 := nums_open Tryd.underlying22 Tryd.underlying5 (by kernel_rfl) (hval 0 _ v0 rfl rfl) g0
  refine (edwardsPoints_calls W hT hv0).mono fun e W' ⟨he, hb⟩ => ?_
  exact ⟨_, he, post_of_law laidOut (by rw [Tryd.params4]; decide +kernel) hW' rfl rfl Tryd.underlying4 rfl rfl rfl hb⟩

theorem edwardsPoints_holds : Rows.EdwardsPointsSaid :=
  OpenClaim.holds_of_wide 4 Tryd.f4 rfl rfl rfl rfl rfl rfl rfl ⟨rfl, rfl, rfl, rfl, rfl⟩ rfl rfl rfl rfl rfl (by kernel_rfl) Tryd.func4 (by kernel_rfl)
    (of_decide_eq_true (by kernel_rfl)) (by unfold Func.isWrapper; first | (rw [if_pos (by decide +kernel)]; kernel_rfl) | (rw [if_neg (by decide +kernel)]; exact ⟨rfl, rfl⟩))
    (fun os started H enc _ => edwardsPoints_lifted os started H enc)
theorem edwardsPoints_card_holds : Rows.EdwardsPointsCardSaid :=
  Claim7.holds_tied_plain_at .later [] [.data, .data, .data, .data, .data, .data, .data, .data, .data] true (true, "4b3a3cee4f6664808991661bd1cf6d8c674ef379aed7c07be62c501b5e5ea160") false edwardsPoints_holds (fun _ h => by cases h) (by kernel_rfl) (fun _ h => by cases h) edwardsPoints_row_tie rfl ⟨rfl, rfl⟩ (by kernel_rfl) rfl
    (fun f fn hf hfn => by
      obtain rfl : f = 4 := Option.some.inj (hf.symm.trans (by kernel_rfl))
      obtain rfl : fn = Tryd.f4 := (Option.some.inj (Tryd.func4.symm.trans hfn)).symm
      exact ⟨by kernel_rfl, fun j t ht => by
        rw [Tryd.params4] at ht
        have hm : t ∈ [22] := by simpa using Array.mem_of_getElem? ht
        have hall : ([22].all fun u => !Tryd.prog.wantsStandIn u) = true := by kernel_rfl
        exact (show Tryd.prog.wantsStandIn t = false by simpa using List.all_eq_true.1 hall t hm)⟩)
    (by kernel_rfl)
end Go.Proofs.YthelmpjkkkhopaaDoor
