/- A reader that is none has nothing: for all tags the law answers true. No condition. -/
import Derived.Test.YthpafpifpdeikaaSDeE
import Derived.Test.YthpafpifpdeikaaSAesL
set_option linter.unusedSimpArgs false
set_option linter.unusedVariables false
set_option linter.unusedSectionVars false
namespace Go.Proofs.Ythpafpifpdeikaa
open Go.Ev Go.De
open Go.ChangeShapes Go.WideShapes Go.ChangeAt Go.RowKit
set_option maxRecDepth 100000
theorem dn_eval (t : Int) : res ((funcL Try.prog qA (dA (hS n0) 9) (fun _ _ => none) 300 8 (cArgs 0 [.pl (.int true .u8 t)]) (cMem [.pl (.int true .u8 t)])).go []) = some ([], .bool false true) := by kernel_rfl
theorem derNone_calls {t : Int} (ht : inR .u8 t = true) (W : World) : Calls Try.prog 8 #[.int .u8 t] W (fun e w' => e = .returned (.bool true) ∧ Below W.heap.size W w') :=
  law_of_goP (xs := [.pl (.int true .u8 t)]) (vs := [.int .u8 t]) (avs := [.int .u8 t]) mixed (dA_ok (hS_ok n0_ok) 9) (fun _ _ _ _ => LOkN.none) [] (dn_eval t)
      (fun p hp => by cases hp) rfl
      (.cons _ _ _ _ _ (VOk.plain fun ρ N => .int _ _ _ ht) (.nil _)) (fun _ _ hr => hr) rfl

theorem derNone_lifted (os : Os) (started : os.Started) (H : Type) (enc : TypeId × Value → H) :
    ReturnsInHanded {} Try.checked os 8 .any (Rows.derNoneSpec.pre6 enc Try.prog Try.f8 Rows.derNoneRow.domain false) (Rows.derNoneSpec.post enc Try.prog Try.f8 false true false false) := by
  refine returnsInHanded_of_change_sized (C := Try.checked) own started (by kernel_rfl) Try.func8
    (ChangeSpec.witness6 (enc := enc) (C := Try.checked) false ⟨#[], #[.int .u8 0], []⟩ 8 (by kernel_rfl) (by kernel_rfl) (by kernel_rfl) (by kernel_rfl)) ?_
  intro W base args ds gs before hval0 hW hcnd hsz0 _
  have hval : ∀ (j : Nat) t v, Try.f8.params[j]? = some t → args[j]? = some v → Value.okWide Try.prog W .any base t v := hval0
  have hW' := hW
  obtain ⟨p, q, hA0, hV, rfl, hfz, hnd⟩ := hW
  have hA : DataW.TrodAll enc Try.prog W 0 (fun _ => true) true Try.f8.params.toList args.toList ds p := hA0
  have hsz := hsz0
  rw [Try.params8] at hA hval
  have hsz : (DataW.weightsEach Try.prog (Try.f8.params.toList ++ Rows.derNoneSpec.plain.varTypes Try.prog) (ds ++ gs)).all (· ≤ reachBytes) = true := hsz0
  rw [Try.params8] at hsz
  obtain ⟨v0, d0, hargs, rfl, g0⟩ := trodAll_one hA
  have hargs' : args = #[v0] := by simpa using hargs
  subst hargs'
  obtain ⟨rfl, rfl⟩ := trodVars_none hV
  obtain ⟨x0, rfl, rfl, rfl, w0⟩ := open_int Try.underlying5 (hval 0 _ v0 rfl rfl) g0
  refine (derNone_calls (wf_inR' w0) W).mono fun e W' ⟨he, hb⟩ => ?_
  exact ⟨_, he, post_of_law laidOut (by rw [Try.params8]; decide +kernel) hW' rfl rfl Try.underlying4 rfl rfl rfl hb⟩

theorem derNone_holds : Rows.DerNoneSaid :=
  OpenClaim.holds_of_wide 8 Try.f8 rfl rfl rfl rfl rfl rfl rfl ⟨rfl, rfl, rfl, rfl, rfl⟩ rfl rfl rfl rfl rfl (by kernel_rfl) Try.func8 (by kernel_rfl)
    (of_decide_eq_true (by kernel_rfl)) (by unfold Func.isWrapper; first | (rw [if_pos (by decide +kernel)]; kernel_rfl) | (rw [if_neg (by decide +kernel)]; exact ⟨rfl, rfl⟩))
    (fun os started H enc _ => derNone_lifted os started H enc)
end Go.Proofs.Ythpafpifpdeikaa
