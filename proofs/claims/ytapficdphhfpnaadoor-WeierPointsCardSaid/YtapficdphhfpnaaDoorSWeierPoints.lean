/- Any bytes are a point's, or not, as the document has it; points are written as they were read: for all bytes the law answers true. No condition. -/
import Derived.Test.YtapficdphhfpnaaDoorSWqK
import Derived.Test.YtapficdphhfpnaaDoorSWpL
set_option linter.unusedSimpArgs false
set_option linter.unusedVariables false
set_option linter.unusedSectionVars false
namespace Go.Proofs.YtapficdphhfpnaaDoor
open Go.Ev Go.Wn Go.We
open Go.ChangeShapes Go.WideShapes Go.ChangeAt Go.RowKit
set_option maxRecDepth 100000
def eqD (l : List Int) (p : Pt) : Bool := decide ([(dcX l).getD 0 0, (dcX l).getD 1 0, (dcX l).getD 2 0, (dcX l).getD 3 0] = limbs p.x) && (decide ([(dcY l).getD 0 0, (dcY l).getD 1 0, (dcY l).getD 2 0, (dcY l).getD 3 0] = limbs p.y) && ((false == p.o) && true))
def wpO (l : List Int) : List Bool := [!(l.getD 0 0 != 4), onB (ptL l), !(l.getD 0 0 != 4), rdB l, jIn (j3V (rdLs l))] ++ List.replicate 3 (eqD l (jXY (j3V (rdLs l)))) ++ [onB (ptL l), onB (ptL l), true] ++ List.replicate 5 (onB (ptL l))
theorem wp_nil  : res ((funcA Tryd.prog qAs (deep Tryd.prog qn (hRd 3) 100 5) 200 4 (cArgs 0 [.pl .nilslice]) (cMem [.pl .nilslice])).go []) = some ([], .bool true true) := by kernel_rfl
theorem wp_emp  : res ((funcA Tryd.prog qAs (deep Tryd.prog qn (hRd 3) 100 5) 200 4 (cArgs 0 [.empty]) (cMem [.empty])).go []) = some ([], .bool true true) := by kernel_rfl
theorem wp_buf (n : Nat) (l : List Int) : res ((funcA Tryd.prog qAs (deep Tryd.prog qn (hRd 3) 100 5) 200 4 (cArgs 0 [.buf true .u8 n l]) (cMem [.buf true .u8 n l])).go []) = some ([decide (0 + n ≤ n), decide (n < 9223372036854775808), (n : Int) != 65, decide (0 + n ≤ n), decide (n < 9223372036854775808), (n : Int) != 65], .bool true true) := by kernel_rfl
theorem wp_3 (l : List Int) : res ((funcA Tryd.prog qAs (deep Tryd.prog qn (hRd 3) 100 5) 200 4 (cArgs 0 [.buf false .u8 65 l]) (cMem [.buf false .u8 65 l])).go []) = some ([l.getD 0 0 != 4, l.getD 0 0 != 4], .bool true true) := by kernel_rfl
theorem wp_4 (l : List Int) : res ((funcA Tryd.prog qAs (deep Tryd.prog qn (hRd 4) 100 5) 200 4 (cArgs 0 [.buf false .u8 65 l]) (cMem [.buf false .u8 65 l])).go []) = some ([!(l.getD 0 0 != 4), !onB (ptL l), !(l.getD 0 0 != 4), !rdB l], .bool true true) := by kernel_rfl
theorem wp_0 (l : List Int) : res ((funcA Tryd.prog qAs (deep Tryd.prog qn (hRd 0) 100 5) 200 4 (cArgs 0 [.buf false .u8 65 l]) (cMem [.buf false .u8 65 l])).go []) = some (wpO l, .bool true (decide (enB (ptL l) = l))) := by kernel_rfl
theorem weierPoints_calls {va : Value} (W : World) (hT : TRep W) (ha : (va = .slice none 0 0 ∨ ∃ (a : Addr) (len cap : Nat) (zs : List Int), va = .slice (some a) len cap ∧ len ≤ cap ∧ cap ≤ maxLen ∧ zs.length = cap ∧ (∀ i, i < zs.length → W.cell? (a.add i) = some (.int .u8 (zs.getD i 0))) ∧ ∀ n ∈ zs, inR .u8 n = true)) :
    Calls Tryd.prog 4 #[va] W (fun e w' => e = .returned (.bool true) ∧ Below W.heap.size W w') := by
  have D := fun k => (hRd_ok k).deep (q := qn) mixed noCount 100 5
  rcases ways 65 0 ha with h | h | ⟨n, l, h1, h2, h⟩ | ⟨l, hl, hr, h⟩
  · exact law_of_go mixed (D 3) [] wp_nil Paid.nil rfl (.cons _ _ _ _ _ h (.nil _))
  · exact law_of_go mixed (D 3) [] wp_emp Paid.nil rfl (.cons _ _ _ _ _ h (.nil _))
  · have e : ((n : Int) != 65) = true := by simpa using h2
    exact law_of_go mixed (D 3) [] (wp_buf n l) (paid_cons (decide_eq_true (by omega)) (paid_cons (decide_eq_true h1) (paid_cons e (paid_cons (decide_eq_true (by omega)) (paid_cons (decide_eq_true h1) (paid_cons e Paid.nil)))))) rfl (.cons _ _ _ _ _ h (.nil _))
  · by_cases h4 : l.getD 0 0 = 4
    · have e4 : (!(l.getD 0 0 != 4)) = true := by rw [h4]; rfl
      have hs := rd_same hl hr h4
      cases ho : onB (ptL l) with
      | false =>
        have ev := wp_4 l
        rw [hs, ho, e4] at ev
        exact law_of_go mixed (D 4) [] ev (List.all_eq_true.1 rfl) rfl (.cons _ _ _ _ _ h (.nil _))
      | true =>
        obtain ⟨d1, d2, d3, d4⟩ := en_dc hl hr h4
        obtain ⟨P, hP, e1, e2, e3⟩ := rd_J3 hl hr h4 ho
        have e5 := jXY_R e2
        have e6 : jIn (j3V (rdLs l)) = true := jIn_iff.2 e2.1
        have e7 : eqD l (jXY (j3V (rdLs l))) = true := by
          rw [e5, ← e1]
          unfold eqD
          have a : ∀ {z : Int}, [(limbs z).getD 0 0, (limbs z).getD 1 0, (limbs z).getD 2 0, (limbs z).getD 3 0] = limbs z := rfl
          rw [← d3, ← d4, a, a, decide_eq_true rfl, decide_eq_true rfl]
          rfl
        have ev := wp_0 l
        unfold wpO at ev
        rw [hs, ho, e4, e6, e7] at ev
        exact law_of_go mixed (D 0) [] ev (List.all_eq_true.1 rfl) (decide_eq_true d1) (.cons _ _ _ _ _ h (.nil _))
    · have e4 : (l.getD 0 0 != 4) = true := by simpa using h4
      exact law_of_go mixed (D 3) [] (wp_3 l) (paid_cons e4 (paid_cons e4 Paid.nil)) rfl (.cons _ _ _ _ _ h (.nil _))

theorem weierPoints_lifted (os : Os) (started : os.Started) (H : Type) (enc : TypeId × Value → H) :
    ReturnsInHanded {} Tryd.checked os 4 .any (fun w args => (Rows.weierPointsSpec.pre enc Tryd.prog Tryd.f4 Rows.weierPointsRow.domain false w args ∧ laidMetH Tryd.prog Rows.weierLawsRow.laid w) ∧ sizedMet enc Tryd.prog Tryd.f4 (OpenSpec.ofChange Rows.weierPointsSpec) false w args)
      (Rows.weierPointsSpec.post enc Tryd.prog Tryd.f4 false true false false) := by
  refine returnsInHanded_of_change_and (C := Tryd.checked) (X := fun w _ => laidMetH Tryd.prog Rows.weierLawsRow.laid w) (fun _ _ _ hh h => h.of_heap hh) own started (by kernel_rfl) Tryd.func4
    (ChangeSpec.witness_shaped (enc := enc) (C := Tryd.checked) (os := os) (X := fun w _ => laidMetH Tryd.prog Rows.weierLawsRow.laid w) false (World.laidAll Tryd.prog os Rows.weierLawsRow.laid) #[.slice none 0 0] 8 (World.laidAll_os _ _ _)
      (World.shaped_of_ZipB (by kernel_rfl) (by kernel_rfl)) (by kernel_rfl) (by kernel_rfl) (by kernel_rfl)
      (by rw [MakeChecks.laidMetH_plain _ _ _ (by kernel_rfl)]; exact laidMet_laidAll _ (by kernel_rfl) (by kernel_rfl))) ?_
  intro W base args ds gs before hval0 hW _ hsz hL _
  have hT : TRep W := trep_of hL
  have hval : ∀ (j : Nat) t v, Tryd.f4.params[j]? = some t → args[j]? = some v → Value.okWide Tryd.prog W .any base t v := hval0
  have hW' := hW
  obtain ⟨p, q, hA0, hV, rfl, hfz, hnd⟩ := hW
  have hA : DataW.TrodAll enc Tryd.prog W 0 (fun _ => true) true Tryd.f4.params.toList args.toList ds p := hA0
  rw [Tryd.params4] at hA hval
  obtain ⟨v0, d0, hargs, rfl, g0⟩ := trodAll_one hA
  have hargs' : args = #[v0] := by simpa using hargs
  subst hargs'
  obtain ⟨rfl, rfl⟩ := trodVars_none hV
  have hv0 := nums_open Tryd.underlying39 Tryd.underlying5 (by kernel_rfl) (hval 0 _ v0 rfl rfl) g0
  refine (weierPoints_calls W hT hv0).mono fun e W' ⟨he, hb⟩ => ?_
  exact ⟨_, he, post_of_law laidOut (by rw [Tryd.params4]; decide +kernel) hW' rfl rfl Tryd.underlying4 rfl rfl rfl hb⟩

theorem weierPoints_holds : Rows.WeierPointsSaid :=
  OpenClaim.holds_of_wide 4 Tryd.f4 rfl rfl rfl rfl rfl rfl rfl ⟨rfl, rfl, rfl, rfl, rfl⟩ rfl rfl rfl rfl rfl (by kernel_rfl) Tryd.func4 (by kernel_rfl)
    (of_decide_eq_true (by kernel_rfl)) (by unfold Func.isWrapper; first | (rw [if_pos (by decide +kernel)]; kernel_rfl) | (rw [if_neg (by decide +kernel)]; exact ⟨rfl, rfl⟩))
    (fun os started H enc _ => weierPoints_lifted os started H enc)
theorem weierPoints_card_holds : Rows.WeierPointsCardSaid :=
  Claim7.holds_tied_plain_at .later [] [.data, .data, .data, .data] true (true, "e54579148be440fa4486c4a898dc0a79d88a36e02d4ee253cc2847c36b208d9d") false weierPoints_holds (fun _ h => by cases h) (by kernel_rfl) (fun _ h => by cases h) weierPoints_row_tie rfl ⟨rfl, rfl⟩ (by kernel_rfl) rfl
    (fun f fn hf hfn => by
      obtain rfl : f = 4 := Option.some.inj (hf.symm.trans (by kernel_rfl))
      obtain rfl : fn = Tryd.f4 := (Option.some.inj (Tryd.func4.symm.trans hfn)).symm
      exact ⟨by kernel_rfl, fun j t ht => by
        rw [Tryd.params4] at ht
        have hm : t ∈ [39] := by simpa using Array.mem_of_getElem? ht
        have hall : ([39].all fun u => !Tryd.prog.wantsStandIn u) = true := by kernel_rfl
        exact (show Tryd.prog.wantsStandIn t = false by simpa using List.all_eq_true.1 hall t hm)⟩)
    (by kernel_rfl)
end Go.Proofs.YtapficdphhfpnaaDoor
