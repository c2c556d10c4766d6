/- What is signed is taken, by that key and for that message: for all bytes the law answers true. No condition. -/
import Derived.Test.YthelmpjkkkhopaaDoorSEwO
set_option linter.unusedSimpArgs false
set_option linter.unusedVariables false
set_option linter.unusedSectionVars false
namespace Go.Proofs.YthelmpjkkkhopaaDoor
open Go.Ev Go.Wn Go.Mo
open Go.ChangeShapes Go.WideShapes Go.ChangeAt Go.RowKit
set_option maxRecDepth 100000
theorem eb_nil (M : V) : res ((funcA Tryd.prog qE (deep Tryd.prog qE hE4 100 5) 200 3 (cArgs 0 [.pl .nilslice, M]) (cMem [.pl .nilslice, M])).go []) = some ([], .bool false true) := by kernel_rfl
theorem eb_emp (M : V) : res ((funcA Tryd.prog qE (deep Tryd.prog qE hE4 100 5) 200 3 (cArgs 0 [.empty, M]) (cMem [.empty, M])).go []) = some ([], .bool false true) := by kernel_rfl
theorem eb_bnil (n : Nat) (s : List Int) : res ((funcA Tryd.prog qE (deep Tryd.prog qE hE4 100 5) 200 3 (cArgs 0 [.buf true .u8 n s, .pl .nilslice]) (cMem [.buf true .u8 n s, .pl .nilslice])).go [true]) = some (decide (n < 9223372036854775808) :: (gP ((n : Int) != 32) ++ [orM ((n : Int) != 32) (decide ((0 : Int) > 300))]), .bool false true) := by kernel_rfl
theorem eb_bemp (n : Nat) (s : List Int) : res ((funcA Tryd.prog qE (deep Tryd.prog qE hE4 100 5) 200 3 (cArgs 0 [.buf true .u8 n s, .empty]) (cMem [.buf true .u8 n s, .empty])).go [true]) = some (decide (n < 9223372036854775808) :: (gP ((n : Int) != 32) ++ [orM ((n : Int) != 32) (decide ((0 : Int) > 300))]), .bool false true) := by kernel_rfl
theorem eb_bbuf (n : Nat) (s : List Int) (m : Nat) (l : List Int) : res ((funcA Tryd.prog qE (deep Tryd.prog qE hE4 100 5) 200 3 (cArgs 0 [.buf true .u8 n s, .buf true .u8 m l]) (cMem [.buf true .u8 n s, .buf true .u8 m l])).go [true]) = some (decide (n < 9223372036854775808) :: (gB ((n : Int) != 32) m ++ [orM ((n : Int) != 32) (decide ((m : Int) > 300))]), .bool false true) := by kernel_rfl
theorem eb_onil (s : List Int) : res ((funcA Tryd.prog qAs (deep Tryd.prog qE hE4 100 5) 200 3 (cArgs 0 [.buf false .u8 32 s, .pl .nilslice]) (cMem [.buf false .u8 32 s, .pl .nilslice])).go []) = some (List.replicate 6 (rdOk (pubB s)), .bool true (verE (verB (sgF []) (pubB s) (sigB (sgF []) s)) == 0)) := by kernel_rfl
theorem eb_oemp (s : List Int) : res ((funcA Tryd.prog qAs (deep Tryd.prog qE hE4 100 5) 200 3 (cArgs 0 [.buf false .u8 32 s, .empty]) (cMem [.buf false .u8 32 s, .empty])).go []) = some (List.replicate 6 (rdOk (pubB s)), .bool true (verE (verB (sgF []) (pubB s) (sigB (sgF []) s)) == 0)) := by kernel_rfl
theorem eb_long (s : List Int) (m : Nat) (l : List Int) : res ((funcA Tryd.prog qAs (deep Tryd.prog qE hE4 100 5) 200 3 (cArgs 0 [.buf false .u8 32 s, .buf true .u8 m l]) (cMem [.buf false .u8 32 s, .buf true .u8 m l])).go [true]) = some ([decide (m < 9223372036854775808), decide ((m : Int) > 300)], .bool false true) := by kernel_rfl
theorem eb_obuf (s : List Int) (m : Nat) (l : List Int) : res ((funcA Tryd.prog qAs (deep Tryd.prog qE hE4 100 5) 200 3 (cArgs 0 [.buf false .u8 32 s, .buf true .u8 m l]) (cMem [.buf false .u8 32 s, .buf true .u8 m l])).go [false]) = some ([decide (m < 9223372036854775808), !decide ((m : Int) > 300), decide (0 + m ≤ m), decide (m < 9223372036854775808), rdOk (pubB s), rdOk (pubB s), rdOk (pubB s), rdOk (pubB s), decide (0 + m ≤ m), decide (m < 9223372036854775808), rdOk (pubB s), rdOk (pubB s)], .bool true (verE (verB (sgF ((l.drop 0).take m)) (pubB s) (sigB (sgF ((l.drop 0).take m)) s)) == 0)) := by kernel_rfl
theorem edwardsBack_calls {va vb : Value} (W : World) (hT : TRep W) (ha : (va = .slice none 0 0 ∨ ∃ (a : Addr) (len cap : Nat) (zs : List Int), va = .slice (some a) len cap ∧ len ≤ cap ∧ cap ≤ maxLen ∧ zs.length = cap ∧ (∀ i, i < zs.length → W.cell? (a.add i) = some (.int .u8 (zs.getD i 0))) ∧ ∀ n ∈ zs, inR .u8 n = true)) (hb : (vb = .slice none 0 0 ∨ ∃ (a : Addr) (len cap : Nat) (zs : List Int), vb = .slice (some a) len cap ∧ len ≤ cap ∧ cap ≤ maxLen ∧ zs.length = cap ∧ (∀ i, i < zs.length → W.cell? (a.add i) = some (.int .u8 (zs.getD i 0))) ∧ ∀ n ∈ zs, inR .u8 n = true)) :
    Calls Tryd.prog 3 #[va, vb] W (fun e w' => e = .returned (.bool true) ∧ Below W.heap.size W w') := by
  have D := hE4_ok.deep (q := qE) mixed noCount 100 5
  rcases four_ways 0 ha with h | h | ⟨n, l, h1, h2, h⟩ | ⟨s, os, h⟩
  · obtain ⟨B, wB, gB'⟩ := some_way 1 hb
    exact law_of_go mixed D [] (eb_nil B) Paid.nil rfl (.cons _ _ _ _ _ h (.cons _ _ _ _ _ gB' (.nil _))) (by show noW [B] = true; rw [noW_c wB]; rfl)
  · obtain ⟨B, wB, gB'⟩ := some_way 1 hb
    exact law_of_go mixed D [] (eb_emp B) Paid.nil rfl (.cons _ _ _ _ _ h (.cons _ _ _ _ _ gB' (.nil _))) (by show noW [B] = true; rw [noW_c wB]; rfl)
  · have e : ((n : Int) != 32) = true := by simpa using h2
    rcases three_ways 1 hb with g | g | ⟨m, p, hm, g⟩
    · exact law_of_go mixed D [true] (eb_bnil n l) (by rw [e]; exact paid_cons (decide_eq_true h1) (paid_append.2 ⟨gP_paid, paid_cons rfl Paid.nil⟩)) rfl (.cons _ _ _ _ _ h (.cons _ _ _ _ _ g (.nil _)))
    · exact law_of_go mixed D [true] (eb_bemp n l) (by rw [e]; exact paid_cons (decide_eq_true h1) (paid_append.2 ⟨gP_paid, paid_cons rfl Paid.nil⟩)) rfl (.cons _ _ _ _ _ h (.cons _ _ _ _ _ g (.nil _)))
    · exact law_of_go mixed D [true] (eb_bbuf n l m p) (by rw [e]; exact paid_cons (decide_eq_true h1) (paid_append.2 ⟨gB_paid hm, paid_cons rfl Paid.nil⟩)) rfl (.cons _ _ _ _ _ h (.cons _ _ _ _ _ g (.nil _)))
  · have z := fun f => back_ok f s
    have r := fun k => (fun x hx => (List.mem_replicate.1 hx).2.trans (z id).1 : Paid (List.replicate k (rdOk (pubB s))))
    have v : ∀ f, (verE (verB f (pubB s) (sigB f s)) == 0) = true := fun f => by rw [(z f).2]; rfl
    rcases three_ways 1 hb with g | g | ⟨m, p, hm, g⟩
    · exact law_of_go mixed D [] (eb_onil s) (r 6) (v _) (.cons _ _ _ _ _ h (.cons _ _ _ _ _ g (.nil _)))
    · exact law_of_go mixed D [] (eb_oemp s) (r 6) (v _) (.cons _ _ _ _ _ h (.cons _ _ _ _ _ g (.nil _)))
    · by_cases hl : (m : Int) > 300
      · exact law_of_go mixed D [true] (eb_long s m p) (paid_cons (decide_eq_true hm) (paid_cons (decide_eq_true hl) Paid.nil)) rfl (.cons _ _ _ _ _ h (.cons _ _ _ _ _ g (.nil _)))
      · have a : decide (m < 9223372036854775808) = true := decide_eq_true hm
        have c : decide (0 + m ≤ m) = true := decide_eq_true (by omega)
        have k := (z id).1
        exact law_of_go mixed D [false] (eb_obuf s m p) (by rw [a, c, k, decide_eq_false hl]; exact List.all_eq_true.1 rfl) (v _) (.cons _ _ _ _ _ h (.cons _ _ _ _ _ g (.nil _)))

theorem edwardsBack_lifted (os : Os) (started : os.Started) (H : Type) (enc : TypeId × Value → H) :
    ReturnsInHanded {} Tryd.checked os 3 .any (fun w args => (Rows.edwardsBackSpec.pre enc Tryd.prog Tryd.f3 Rows.edwardsBackRow.domain false w args ∧ laidMetH Tryd.prog Rows.edwardsBackRow.laid w) ∧ sizedMet enc Tryd.prog Tryd.f3 (OpenSpec.ofChange Rows.edwardsBackSpec) false w args)
      (Rows.edwardsBackSpec.post enc Tryd.prog Tryd.f3 false true false false) := by
  refine returnsInHanded_of_change_and (C := Tryd.checked) (X := fun w _ => laidMetH Tryd.prog Rows.edwardsBackRow.laid w) (fun _ _ _ hh h => h.of_heap hh) own started (by kernel_rfl) Tryd.func3
    (ChangeSpec.witness_shaped (enc := enc) (C := Tryd.checked) (os := os) (X := fun w _ => laidMetH Tryd.prog Rows.edwardsBackRow.laid w) false (World.laidAll Tryd.prog os Rows.edwardsBackRow.laid) #[.slice none 0 0, .slice none 0 0] 8 (World.laidAll_os _ _ _)
      (World.shaped_of_ZipB (by kernel_rfl) (by kernel_rfl)) (by kernel_rfl) (by kernel_rfl) (by kernel_rfl)
      (by rw [MakeChecks.laidMetH_plain _ _ _ (by kernel_rfl)]; exact laidMet_laidAll _ (by kernel_rfl) (by kernel_rfl))) ?_
  intro W base args ds gs before hval0 hW _ hsz hL _
  have hT : TRep W := trep_of hL
  have hval : ∀ (j : Nat) t v, Tryd.f3.params[j]? = some t → args[j]? = some v → Value.okWide Tryd.prog W .any base t v := hval0
  have hW' := hW
  obtain ⟨p, q, hA0, hV, rfl, hfz, hnd⟩ := hW
  have hA : DataW.TrodAll enc Tryd.prog W 0 (fun _ => true) true Tryd.f3.params.toList args.toList ds p := hA0
  rw [Tryd.params3] at hA hval
  obtain ⟨v0, v1, d0, d1, p0, p1, hargs, rfl, rfl, g0, g1⟩ := trodAll_two hA
  have hargs' : args = #[v0, v1] := by simpa using hargs
  subst hargs'
  obtain ⟨rfl, rfl⟩ := trodVars_none hV
  have hv0 := nums_open Tryd.underlying22 Tryd.underlying5 (by kernel_rfl) (hval 0 _ v0 rfl rfl) g0
  have hv1 := nums_open Tryd.underlying22 Tryd.underlying5 (by kernel_rfl) (hval 1 _ v1 rfl rfl) g1
  refine (edwardsBack_calls W hT hv0 hv1).mono fun e W' ⟨he, hb⟩ => ?_
  exact ⟨_, he, post_of_law laidOut (by rw [Tryd.params3]; decide +kernel) hW' rfl rfl Tryd.underlying4 rfl rfl rfl hb⟩

theorem edwardsBack_holds : Rows.EdwardsBackSaid :=
  OpenClaim.holds_of_wide 3 Tryd.f3 rfl rfl rfl rfl rfl rfl rfl ⟨rfl, rfl, rfl, rfl, rfl⟩ rfl rfl rfl rfl rfl (by kernel_rfl) Tryd.func3 (by kernel_rfl)
    (of_decide_eq_true (by kernel_rfl)) (by unfold Func.isWrapper; first | (rw [if_pos (by decide +kernel)]; kernel_rfl) | (rw [if_neg (by decide +kernel)]; exact ⟨rfl, rfl⟩))
    (fun os started H enc _ => edwardsBack_lifted os started H enc)
theorem edwardsBack_card_holds : Rows.EdwardsBackCardSaid :=
  Claim7.holds_tied_plain_at .later [] [.data, .data, .data, .data, .data, .data, .data, .data, .data] true (true, "4b3a3cee4f6664808991661bd1cf6d8c674ef379aed7c07be62c501b5e5ea160") false edwardsBack_holds (fun _ h => by cases h) (by kernel_rfl) (fun _ h => by cases h) edwardsBack_row_tie rfl ⟨rfl, rfl⟩ (by kernel_rfl) rfl
    (fun f fn hf hfn => by
      obtain rfl : f = 3 := Option.some.inj (hf.symm.trans (by kernel_rfl))
      obtain rfl : fn = Tryd.f3 := (Option.some.inj (Tryd.func3.symm.trans hfn)).symm
      exact ⟨by kernel_rfl, fun j t ht => by
        rw [Tryd.params3] at ht
        have hm : t ∈ [22, 22] := by simpa using Array.mem_of_getElem? ht
        have hall : ([22, 22].all fun u => !Tryd.prog.wantsStandIn u) = true := by kernel_rfl
        exact (show Tryd.prog.wantsStandIn t = false by simpa using List.all_eq_true.1 hall t hm)⟩)
    (by kernel_rfl)
end Go.Proofs.YthelmpjkkkhopaaDoor
