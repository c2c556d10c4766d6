/- A copy of a hash goes on by itself: for every kind and all bytes the law answers true. No condition. -/
import Derived.Test.YtclkicobnmjpoaaDoorShaK
import Derived.Test.YtclkicobnmjpoaaDoorShaL
namespace Go.Proofs.YtclkicobnmjpoaaDoor
open Go.Ev Go.Sh
open Go.ChangeShapes Go.WideShapes Go.ChangeAt Go.RowKit
set_option maxRecDepth 100000

theorem sha2Copies_lifted (os : Os) (started : os.Started) (H : Type) (enc : TypeId × Value → H) :
    ReturnsInHanded {} Tryd.checked os 5 .any (fun w args => (Rows.sha2CopiesSpec.pre enc Tryd.prog Tryd.f5 Rows.sha2CopiesRow.domain false w args ∧ laidMetH Tryd.prog Rows.sha2SumsRow.laid w) ∧ sizedMet enc Tryd.prog Tryd.f5 (OpenSpec.ofChange Rows.sha2CopiesSpec) false w args)
      (Rows.sha2CopiesSpec.post enc Tryd.prog Tryd.f5 false true false false) := by
  refine returnsInHanded_of_change_and (C := Tryd.checked) (X := fun w _ => laidMetH Tryd.prog Rows.sha2SumsRow.laid w) (fun _ _ _ hh h => h.of_heap hh) own started (by kernel_rfl) Tryd.func5
    (ChangeSpec.witness_shaped (enc := enc) (C := Tryd.checked) (os := os) (X := fun w _ => laidMetH Tryd.prog Rows.sha2SumsRow.laid w) false (World.laidAll Tryd.prog os Rows.sha2SumsRow.laid) #[.int .i64 0, .slice none 0 0, .slice none 0 0] 8 (World.laidAll_os _ _ _)
      (World.shaped_of_ZipB (by kernel_rfl) (by kernel_rfl)) (by kernel_rfl) (by kernel_rfl) (by kernel_rfl)
      (by rw [MakeChecks.laidMetH_plain _ _ _ (by kernel_rfl)]; exact laidMet_laidAll _ (by kernel_rfl) (by kernel_rfl))) ?_
  intro W base args ds gs before hval0 hW _ hsz hL _
  have hT : TRep W := trep_of hL
  have hval : ∀ (j : Nat) t v, Tryd.f5.params[j]? = some t → args[j]? = some v → Value.okWide Tryd.prog W .any base t v := hval0
  have hW' := hW
  obtain ⟨p, q, hA0, hV, rfl, hfz, hnd⟩ := hW
  have hA : DataW.TrodAll enc Tryd.prog W 0 (fun _ => true) true Tryd.f5.params.toList args.toList ds p := hA0
  rw [Tryd.params5] at hA hval
  obtain ⟨v0, v1, v2, d0, d1, d2, p0, p1, p2, hargs, rfl, rfl, g0, g1, g2⟩ := trodAll_three hA
  have hargs' : args = #[v0, v1, v2] := by simpa using hargs
  subst hargs'
  obtain ⟨rfl, rfl⟩ := trodVars_none hV
  obtain ⟨x0, rfl, rfl, rfl, w0⟩ := open_int Tryd.underlying3 (hval 0 _ v0 rfl rfl) g0
  have hv1 := nums_open2 Tryd.underlying22 Tryd.underlying5 (by kernel_rfl) (hval 1 _ v1 rfl rfl) g1 (fun x y e => by subst e; have h9 := sized_slice hsz (j := 1) (t := 22) (e := 5) rfl rfl Tryd.underlying22; rw [show Tryd.checked.prog.bytesOf 5 = 1 by kernel_rfl] at h9; omega)
  have hv2 := nums_open2 Tryd.underlying22 Tryd.underlying5 (by kernel_rfl) (hval 2 _ v2 rfl rfl) g2 (fun x y e => by subst e; have h9 := sized_slice hsz (j := 2) (t := 22) (e := 5) rfl rfl Tryd.underlying22; rw [show Tryd.checked.prog.bytesOf 5 = 1 by kernel_rfl] at h9; omega)
  refine (sha2Copies_calls (wf_inR' w0) W hT hv1 hv2).mono fun e W' ⟨he, hb⟩ => ?_
  exact ⟨_, he, post_of_law laidOut (by rw [Tryd.params5]; decide +kernel) hW' rfl rfl Tryd.underlying4 rfl rfl rfl hb⟩

theorem sha2Copies_holds : Rows.Sha2CopiesSaid :=
  OpenClaim.holds_of_wide 5 Tryd.f5 rfl rfl rfl rfl rfl rfl rfl ⟨rfl, rfl, rfl, rfl, rfl⟩ rfl rfl rfl rfl rfl (by kernel_rfl) Tryd.func5 (by kernel_rfl)
    (of_decide_eq_true (by kernel_rfl)) (by unfold Func.isWrapper; first | (rw [if_pos (by decide +kernel)]; kernel_rfl) | (rw [if_neg (by decide +kernel)]; exact ⟨rfl, rfl⟩))
    (fun os started H enc _ => sha2Copies_lifted os started H enc)
theorem sha2Copies_card_holds : Rows.Sha2CopiesCardSaid :=
  Claim7.holds_tied_plain_at .later [] [.data, .data] true (true, "b7f51c3f02f86383c6dd5ed24a00553fb3921548d39dddfe28e2796c50cb5228") false sha2Copies_holds (fun _ h => by cases h) (by kernel_rfl) (fun _ h => by cases h) sha2Copies_row_tie rfl ⟨rfl, rfl⟩ (by kernel_rfl) rfl
    (fun f fn hf hfn => by
      obtain rfl : f = 5 := Option.some.inj (hf.symm.trans (by kernel_rfl))
      obtain rfl : fn = Tryd.f5 := (Option.some.inj (Tryd.func5.symm.trans hfn)).symm
      exact ⟨by kernel_rfl, fun j t ht => by
        rw [Tryd.params5] at ht
        have hm : t ∈ [3, 22, 22] := by simpa using Array.mem_of_getElem? ht
        have hall : ([3, 22, 22].all fun u => !Tryd.prog.wantsStandIn u) = true := by kernel_rfl
        exact (show Tryd.prog.wantsStandIn t = false by simpa using List.all_eq_true.1 hall t hm)⟩)
    (by kernel_rfl)
end Go.Proofs.YtclkicobnmjpoaaDoor
