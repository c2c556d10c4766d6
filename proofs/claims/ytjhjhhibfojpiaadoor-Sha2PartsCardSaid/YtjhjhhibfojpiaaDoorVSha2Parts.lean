/- A hash of what is written in pieces is that of all of it, whatever is asked between: for every kind and all lists of bytes the law answers true. No condition. -/
import Derived.Test.YtjhjhhibfojpiaaDoorVPaD
set_option linter.unusedSimpArgs false
set_option linter.unusedVariables false
set_option linter.unusedSectionVars false
namespace Go.Proofs.YtjhjhhibfojpiaaDoor
open Go.Ev Go.Sh
open Go.ChangeShapes Go.WideShapes Go.ChangeAt Go.RowKit
set_option maxRecDepth 100000
/-- No rows: for what speaks of none. -/
instance rowNone : RowTab := ⟨0, fun _ => .slice none 0 0, fun _ => []⟩

theorem sha2Parts_lifted (os : Os) (started : os.Started) (H : Type) (enc : TypeId × Value → H) :
    ReturnsInHanded {} Tryd.checked os 3 .any (fun w args => (Rows.sha2PartsSpec.pre enc Tryd.prog Tryd.f3 Rows.sha2PartsRow.domain false w args ∧ laidMetH Tryd.prog Rows.sha2PartsRow.laid w) ∧ sizedMet enc Tryd.prog Tryd.f3 (OpenSpec.ofChange Rows.sha2PartsSpec) false w args)
      (Rows.sha2PartsSpec.post enc Tryd.prog Tryd.f3 false true false false) := by
  refine returnsInHanded_of_change_and (C := Tryd.checked) (X := fun w _ => laidMetH Tryd.prog Rows.sha2PartsRow.laid w) (fun _ _ _ hh h => h.of_heap hh) own started (by kernel_rfl) Tryd.func3
    (ChangeSpec.witness_shaped (enc := enc) (C := Tryd.checked) (os := os) (X := fun w _ => laidMetH Tryd.prog Rows.sha2PartsRow.laid w) false (World.laidAll Tryd.prog os Rows.sha2PartsRow.laid) #[.int .i64 0, .slice none 0 0] 8 (World.laidAll_os _ _ _)
      (World.shaped_of_ZipB (by kernel_rfl) (by kernel_rfl)) (by kernel_rfl) (by kernel_rfl) (by kernel_rfl)
      (by rw [MakeChecks.laidMetH_plain _ _ _ (by kernel_rfl)]; exact laidMet_laidAll _ (by kernel_rfl) (by kernel_rfl))) ?_
  intro W base args ds gs before hval0 hW _ hsz hL _
  have hval : ∀ (j : Nat) t v, Tryd.f3.params[j]? = some t → args[j]? = some v → Value.okWide Tryd.prog W .any base t v := hval0
  have hW' := hW
  obtain ⟨p, q, hA0, hV, rfl, hfz, hnd⟩ := hW
  have hA : DataW.TrodAll enc Tryd.prog W 0 (fun _ => true) true Tryd.f3.params.toList args.toList ds p := hA0
  have hs1 : (DataW.weightsEach Tryd.prog (Tryd.f3.params.toList ++ Rows.sha2PartsSpec.plain.varTypes Tryd.prog) (ds ++ gs)).all (· ≤ reachBytes) = true := hsz
  rw [Tryd.params3] at hA hval hs1
  obtain ⟨v0, v1, d0, d1, p0, p1, hargs, rfl, rfl, g0, g1⟩ := trodAll_two hA
  have hargs' : args = #[v0, v1] := by simpa using hargs
  subst hargs'
  obtain ⟨rfl, rfl⟩ := trodVars_none hV
  obtain ⟨x0, rfl, rfl, rfl, w0⟩ := open_int Tryd.underlying3 (hval 0 _ v0 rfl rfl) g0
  have hv1 := lists_open Tryd.underlying22 Tryd.underlying24 (by kernel_rfl) (of_decide_eq_true (by kernel_rfl)) Tryd.underlying5 (by kernel_rfl) (by kernel_rfl) (hval 1 _ v1 rfl rfl) g1 (arg_sized hs1 (j := 1) (t := 22) rfl rfl)
  refine (sha2Parts_calls (wf_inR' w0) hv1 W hL).mono fun e W' ⟨he, hb⟩ => ?_
  exact ⟨_, he, post_of_law laidOut (by rw [Tryd.params3]; decide +kernel) hW' rfl rfl Tryd.underlying4 rfl rfl rfl hb⟩

theorem sha2Parts_holds : Rows.Sha2PartsSaid :=
  OpenClaim.holds_of_wide 3 Tryd.f3 rfl rfl rfl rfl rfl rfl rfl ⟨rfl, rfl, rfl, rfl, rfl⟩ rfl rfl rfl rfl rfl (by kernel_rfl) Tryd.func3 (by kernel_rfl)
    (of_decide_eq_true (by kernel_rfl)) (by unfold Func.isWrapper; first | (rw [if_pos (by decide +kernel)]; kernel_rfl) | (rw [if_neg (by decide +kernel)]; exact ⟨rfl, rfl⟩))
    (fun os started H enc _ => sha2Parts_lifted os started H enc)
theorem sha2Parts_card_holds : Rows.Sha2PartsCardSaid :=
  Claim7.holds_tied_plain_at .later [] [.data, .data] true (true, "c7f7d2a1760deb5eba23935f706c8032166653fd28da9d8053e46a768c5533a4") false sha2Parts_holds (fun _ h => by cases h) (by kernel_rfl) (fun _ h => by cases h) sha2Parts_row_tie rfl ⟨rfl, rfl⟩ (by kernel_rfl) rfl
    (fun f fn hf hfn => by
      obtain rfl : f = 3 := Option.some.inj (hf.symm.trans (by kernel_rfl))
      obtain rfl : fn = Tryd.f3 := (Option.some.inj (Tryd.func3.symm.trans hfn)).symm
      exact ⟨by kernel_rfl, fun j t ht => by
        rw [Tryd.params3] at ht
        have hm : t ∈ [3, 22] := by simpa using Array.mem_of_getElem? ht
        have hall : ([3, 22].all fun u => !Tryd.prog.wantsStandIn u) = true := by kernel_rfl
        exact (show Tryd.prog.wantsStandIn t = false by simpa using List.all_eq_true.1 hall t hm)⟩)
    (by kernel_rfl)
end Go.Proofs.YtjhjhhibfojpiaaDoor
