/- A suite that is none seals nothing and opens nothing, and has no nonce; kinds of hashes and lengths of keys are the reference's: for all numbers and bytes the law answers true. No condition. -/
import Derived.Test.YtfmgodgakndjcaaSSuB
import Derived.Test.YtfmgodgakndjcaaSSuOr
set_option linter.unusedSimpArgs false
set_option linter.unusedVariables false
set_option linter.unusedSectionVars false
namespace Go.Proofs.Ytfmgodgakndjcaa
open Go.Ev Go.Sh Go.Su
open Go.ChangeShapes Go.WideShapes Go.ChangeAt Go.RowKit
set_option maxRecDepth 100000
/-- A suite's hash. -/
def hkI (id : Int) : Int := match id == 4865 with
  | true => (match id == 4865 with | true => 256 | false => (match id == 4866 with | true => 384 | false => 0))
  | false => (match id == 4867 with | true => 256 | false => (match id == 4866 with | true => 384 | false => 0))
/-- A suite's key length. -/
def klN (id : Int) : Int := match id == 4865 with
  | true => 16
  | false => (match id == 4866 with | true => (match id == 4866 with | true => 32 | false => 0) | false => (match id == 4867 with | true => 32 | false => 0))
theorem sn_eval (id n : Int) (y : V) : res ((funcL Try.prog qV (deep Try.prog qD hss 100 7) (fun _ _ => none) 100 8 (cArgs 0 [.pl (.int true .i64 id), .pl (.int true .u64 n), y]) (cMem [.pl (.int true .i64 id), .pl (.int true .u64 n), y])).go []) =
    some (List.replicate 6 (hkI id == hkI id), .bool true (klN id == klN id)) := by kernel_rfl
theorem suiteNone_calls {W0 : World} {id : Int} (hid : inR .i64 id = true) {n : Int} (hn : inR .u64 n = true) {v2 : Value} (r2 : Nums W0 .u8 reachBytes v2) (W : World) (hW : W0 = W := by rfl) :
    Calls Try.prog 8 #[.int .i64 id, .int .u64 n, v2] W (fun e w' => e = .returned (.bool true) ∧ Below W.heap.size W w') := by
  subst hW
  have go : ∀ {B : V}, (∃ L, VOk W0 2 L B v2) → noW [.pl (.int true .i64 id), .pl (.int true .u64 n), B] = true → Calls Try.prog 8 #[.int .i64 id, .int .u64 n, v2] W0 (fun e w' => e = .returned (.bool true) ∧ Below W0.heap.size W0 w') := by
    intro B hB hw
    exact law_of_goP (xs := [.pl (.int true .i64 id), .pl (.int true .u64 n), B]) (vs := [.int .i64 id, .int .u64 n, v2]) (avs := [.int .i64 id, .int .u64 n, v2]) mixed (hss_ok.deep mixed noCount 100 7) (fun _ _ _ _ => LOkN.none) [] (sn_eval id n B)
      (fun p hp => by rw [(List.mem_replicate.1 hp).2]; exact beq_self_eq_true _) (beq_self_eq_true _)
      (.cons _ _ _ _ _ (VOk.plain fun ρ N => .int _ _ _ hid) (.cons _ _ _ _ _ (VOk.plain fun ρ N => .int _ _ _ hn) (.cons _ _ _ _ _ hB (.nil _)))) (fun _ _ hr => hr) hw
  rcases VOk.bytes (W := W0) 2 r2 with g | g | ⟨m, l, _, _, _, _, g⟩
  · exact go g rfl
  · exact go g rfl
  · exact go g rfl

theorem suiteNone_lifted (os : Os) (started : os.Started) (H : Type) (enc : TypeId × Value → H) :
    ReturnsInHanded {} Try.checked os 8 .any (Rows.suiteNoneSpec.pre6 enc Try.prog Try.f8 Rows.suiteNoneRow.domain false) (Rows.suiteNoneSpec.post enc Try.prog Try.f8 false true false false) := by
  refine returnsInHanded_of_change_sized (C := Try.checked) own started (by kernel_rfl) Try.func8
    (ChangeSpec.witness6 (enc := enc) (C := Try.checked) false ⟨#[], #[.int .i64 0, .int .u64 0, .slice none 0 0], []⟩ 8 (by kernel_rfl) (by kernel_rfl) (by kernel_rfl) (by kernel_rfl)) ?_
  intro W base args ds gs before hval0 hW hcnd hsz0 _
  have hval : ∀ (j : Nat) t v, Try.f8.params[j]? = some t → args[j]? = some v → Value.okWide Try.prog W .any base t v := hval0
  have hW' := hW
  obtain ⟨p, q, hA0, hV, rfl, hfz, hnd⟩ := hW
  have hA : DataW.TrodAll enc Try.prog W 0 (fun _ => true) true Try.f8.params.toList args.toList ds p := hA0
  have hsz := hsz0
  rw [Try.params8] at hA hval
  have hsz : (DataW.weightsEach Try.prog (Try.f8.params.toList ++ Rows.suiteNoneSpec.plain.varTypes Try.prog) (ds ++ gs)).all (· ≤ reachBytes) = true := hsz0
  rw [Try.params8] at hsz
  obtain ⟨v0, v1, v2, d0, d1, d2, p0, p1, p2, hargs, rfl, rfl, g0, g1, g2⟩ := trodAll_three hA
  have hargs' : args = #[v0, v1, v2] := by simpa using hargs
  subst hargs'
  obtain ⟨rfl, rfl⟩ := trodVars_none hV
  obtain ⟨x0, rfl, rfl, rfl, w0⟩ := open_int Try.underlying3 (hval 0 _ v0 rfl rfl) g0
  obtain ⟨x1, rfl, rfl, rfl, w1⟩ := open_int Try.underlying44 (hval 1 _ v1 rfl rfl) g1
  have hv2 := nums_sized Try.underlying22 Try.underlying5 (by kernel_rfl) (by kernel_rfl) (hval 2 _ v2 rfl rfl) g2 (arg_sized hsz (j := 2) (t := 22) rfl rfl)
  refine (suiteNone_calls (wf_inR' w0) (wf_inR' w1) hv2 W).mono fun e W' ⟨he, hb⟩ => ?_
  exact ⟨_, he, post_of_law laidOut (by rw [Try.params8]; decide +kernel) hW' rfl rfl Try.underlying4 rfl rfl rfl hb⟩

theorem suiteNone_holds : Rows.SuiteNoneSaid :=
  OpenClaim.holds_of_wide 8 Try.f8 rfl rfl rfl rfl rfl rfl rfl ⟨rfl, rfl, rfl, rfl, rfl⟩ rfl rfl rfl rfl rfl (by kernel_rfl) Try.func8 (by kernel_rfl)
    (of_decide_eq_true (by kernel_rfl)) (by unfold Func.isWrapper; first | (rw [if_pos (by decide +kernel)]; kernel_rfl) | (rw [if_neg (by decide +kernel)]; exact ⟨rfl, rfl⟩))
    (fun os started H enc _ => suiteNone_lifted os started H enc)
end Go.Proofs.Ytfmgodgakndjcaa
