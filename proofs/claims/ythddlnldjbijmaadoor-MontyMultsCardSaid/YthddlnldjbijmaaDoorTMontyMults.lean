/- Points are taken as often by themselves as the document has it, whatever the bytes: for all bytes the law answers true. No condition. -/
import Derived.Test.YthddlnldjbijmaaDoorTMrJ
set_option linter.unusedSimpArgs false
set_option linter.unusedVariables false
set_option linter.unusedSectionVars false
namespace Go.Proofs.YthddlnldjbijmaaDoor
open Go.Ev Go.Wn Go.Mo
open Go.ChangeShapes Go.WideShapes Go.ChangeAt Go.RowKit
set_option maxRecDepth 100000
def qM (f : FuncId) : Bool := !([19, 20, 21].any fun d => Nat.beq f (2000000000 + d))
def lbO (n : Nat) : List Bool := [decide (0 + n ≤ n), !decide ((n : Int) = 32), decide (n < 9223372036854775808)]
def lnO (n : Nat) : List Bool := [decide (n < 9223372036854775808), !(!((n : Int) != 32)), !(!((n : Int) != 32)), !(!((n : Int) != 32)), (n : Int) != 32]
theorem lbO_paid {n : Nat} (h1 : n < 9223372036854775808) (h2 : (n : Int) ≠ 32) : Paid (lbO n) := paid_cons (decide_eq_true (by omega)) (paid_cons (by rw [decide_eq_false h2]; rfl) (paid_cons (decide_eq_true h1) Paid.nil))
theorem lnO_paid {n : Nat} (h1 : n < 9223372036854775808) (h2 : (n : Int) ≠ 32) : Paid (lnO n) := by
  have e : ((n : Int) != 32) = true := by simpa using h2
  unfold lnO
  rw [e]
  exact paid_cons (decide_eq_true h1) (paid_cons rfl (paid_cons rfl (paid_cons rfl (paid_cons rfl Paid.nil))))
theorem mm_nilnil  : res ((funcA Tryd.prog qAs (deep Tryd.prog qn hl9 100 5) 200 3 (cArgs 0 [.pl .nilslice, .pl .nilslice]) (cMem [.pl .nilslice, .pl .nilslice])).go []) = some ([], .bool false true) := by kernel_rfl
theorem mm_nilemp  : res ((funcA Tryd.prog qAs (deep Tryd.prog qn hl9 100 5) 200 3 (cArgs 0 [.pl .nilslice, .empty]) (cMem [.pl .nilslice, .empty])).go []) = some ([], .bool false true) := by kernel_rfl
theorem mm_nilbuf (m : Nat) (p : List Int) : res ((funcA Tryd.prog qAs (deep Tryd.prog qn hl9 100 5) 200 3 (cArgs 0 [.pl .nilslice, .buf true .u8 m p]) (cMem [.pl .nilslice, .buf true .u8 m p])).go []) = some (lbO m, .bool false true) := by kernel_rfl
theorem mm_nilok (u : List Int) : res ((funcA Tryd.prog qAs (deep Tryd.prog qn hl9 100 5) 200 3 (cArgs 0 [.pl .nilslice, .buf false .u8 32 u]) (cMem [.pl .nilslice, .buf false .u8 32 u])).go []) = some ([], .bool false true) := by kernel_rfl
theorem mm_empnil  : res ((funcA Tryd.prog qAs (deep Tryd.prog qn hl9 100 5) 200 3 (cArgs 0 [.empty, .pl .nilslice]) (cMem [.empty, .pl .nilslice])).go []) = some ([], .bool false true) := by kernel_rfl
theorem mm_empemp  : res ((funcA Tryd.prog qAs (deep Tryd.prog qn hl9 100 5) 200 3 (cArgs 0 [.empty, .empty]) (cMem [.empty, .empty])).go []) = some ([], .bool false true) := by kernel_rfl
theorem mm_empbuf (m : Nat) (p : List Int) : res ((funcA Tryd.prog qAs (deep Tryd.prog qn hl9 100 5) 200 3 (cArgs 0 [.empty, .buf true .u8 m p]) (cMem [.empty, .buf true .u8 m p])).go []) = some (lbO m, .bool false true) := by kernel_rfl
theorem mm_empok (u : List Int) : res ((funcA Tryd.prog qAs (deep Tryd.prog qn hl9 100 5) 200 3 (cArgs 0 [.empty, .buf false .u8 32 u]) (cMem [.empty, .buf false .u8 32 u])).go []) = some ([], .bool false true) := by kernel_rfl
theorem mm_bufnil (n : Nat) (l : List Int)  : res ((funcA Tryd.prog qM (deep Tryd.prog qn hl9 100 5) 200 3 (cArgs 0 [.buf true .u8 n l, .pl .nilslice]) (cMem [.buf true .u8 n l, .pl .nilslice])).go []) = some (lbO n ++ lnO n, .bool false true) := by kernel_rfl
theorem mm_bufemp (n : Nat) (l : List Int)  : res ((funcA Tryd.prog qM (deep Tryd.prog qn hl9 100 5) 200 3 (cArgs 0 [.buf true .u8 n l, .empty]) (cMem [.buf true .u8 n l, .empty])).go []) = some (lbO n ++ lnO n, .bool false true) := by kernel_rfl
theorem mm_bufbuf (n : Nat) (l : List Int) (m : Nat) (p : List Int) : res ((funcA Tryd.prog qM (deep Tryd.prog qn hl9 100 5) 200 3 (cArgs 0 [.buf true .u8 n l, .buf true .u8 m p]) (cMem [.buf true .u8 n l, .buf true .u8 m p])).go []) = some (lbO n ++ (lbO m ++ lnO n), .bool false true) := by kernel_rfl
theorem mm_bufok (n : Nat) (l : List Int) (u : List Int) : res ((funcA Tryd.prog qM (deep Tryd.prog qn hl9 100 5) 200 3 (cArgs 0 [.buf true .u8 n l, .buf false .u8 32 u]) (cMem [.buf true .u8 n l, .buf false .u8 32 u])).go []) = some (lbO n ++ lnO n, .bool false true) := by kernel_rfl
theorem mm_oknil (k : List Int)  : res ((funcA Tryd.prog qAs (deep Tryd.prog qn hl9 100 5) 200 3 (cArgs 0 [.buf false .u8 32 k, .pl .nilslice]) (cMem [.buf false .u8 32 k, .pl .nilslice])).go []) = some ([], .bool false true) := by kernel_rfl
theorem mm_okemp (k : List Int)  : res ((funcA Tryd.prog qAs (deep Tryd.prog qn hl9 100 5) 200 3 (cArgs 0 [.buf false .u8 32 k, .empty]) (cMem [.buf false .u8 32 k, .empty])).go []) = some ([], .bool false true) := by kernel_rfl
theorem mm_okbuf (k : List Int) (m : Nat) (p : List Int) : res ((funcA Tryd.prog qAs (deep Tryd.prog qn hl9 100 5) 200 3 (cArgs 0 [.buf false .u8 32 k, .buf true .u8 m p]) (cMem [.buf false .u8 32 k, .buf true .u8 m p])).go [true]) = some (lbO m ++ [decide (m < 9223372036854775808), (m : Int) != 32], .bool false true) := by kernel_rfl
theorem mm_ok_t (k u : List Int) : res ((funcA Tryd.prog qAs (deep Tryd.prog qn (hz9 true) 100 5) 200 3 (cArgs 0 [.buf false .u8 32 k, .buf false .u8 32 u]) (cMem [.buf false .u8 32 k, .buf false .u8 32 u])).go []) = some ([rmZ k u], .bool true (decide (mulB k u = mulB k u))) := by kernel_rfl
theorem mm_ok_f (k u : List Int) : res ((funcA Tryd.prog qAs (deep Tryd.prog qn (hz9 false) 100 5) 200 3 (cArgs 0 [.buf false .u8 32 k, .buf false .u8 32 u]) (cMem [.buf false .u8 32 k, .buf false .u8 32 u])).go []) = some ([!rmZ k u], .bool true (decide (mulB k u = mulB k u))) := by kernel_rfl
theorem montyMults_calls {va vb : Value} (W : World) (hT : TRep W) (ha : (va = .slice none 0 0 ∨ ∃ (a : Addr) (len cap : Nat) (zs : List Int), va = .slice (some a) len cap ∧ len ≤ cap ∧ cap ≤ maxLen ∧ zs.length = cap ∧ (∀ i, i < zs.length → W.cell? (a.add i) = some (.int .u8 (zs.getD i 0))) ∧ ∀ n ∈ zs, inR .u8 n = true)) (hb : (vb = .slice none 0 0 ∨ ∃ (a : Addr) (len cap : Nat) (zs : List Int), vb = .slice (some a) len cap ∧ len ≤ cap ∧ cap ≤ maxLen ∧ zs.length = cap ∧ (∀ i, i < zs.length → W.cell? (a.add i) = some (.int .u8 (zs.getD i 0))) ∧ ∀ n ∈ zs, inR .u8 n = true)) :
    Calls Tryd.prog 3 #[va, vb] W (fun e w' => e = .returned (.bool true) ∧ Below W.heap.size W w') := by
  have D := hl9_ok.deep (q := qn) mixed noCount 100 5
  rcases four_ways 0 ha with h | h | ⟨n, l, h1, h2, h⟩ | ⟨k, ok, h⟩ <;> rcases four_ways 1 hb with g | g | ⟨m, p, g1, g2, g⟩ | ⟨u, ou, g⟩
  · exact law_of_go mixed D [] (mm_nilnil) (Paid.nil) rfl (.cons _ _ _ _ _ h (.cons _ _ _ _ _ g (.nil _)))
  · exact law_of_go mixed D [] (mm_nilemp) (Paid.nil) rfl (.cons _ _ _ _ _ h (.cons _ _ _ _ _ g (.nil _)))
  · exact law_of_go mixed D [] (mm_nilbuf m p) (lbO_paid g1 g2) rfl (.cons _ _ _ _ _ h (.cons _ _ _ _ _ g (.nil _)))
  · exact law_of_go mixed D [] (mm_nilok u) (Paid.nil) rfl (.cons _ _ _ _ _ h (.cons _ _ _ _ _ g (.nil _)))
  · exact law_of_go mixed D [] (mm_empnil) (Paid.nil) rfl (.cons _ _ _ _ _ h (.cons _ _ _ _ _ g (.nil _)))
  · exact law_of_go mixed D [] (mm_empemp) (Paid.nil) rfl (.cons _ _ _ _ _ h (.cons _ _ _ _ _ g (.nil _)))
  · exact law_of_go mixed D [] (mm_empbuf m p) (lbO_paid g1 g2) rfl (.cons _ _ _ _ _ h (.cons _ _ _ _ _ g (.nil _)))
  · exact law_of_go mixed D [] (mm_empok u) (Paid.nil) rfl (.cons _ _ _ _ _ h (.cons _ _ _ _ _ g (.nil _)))
  · exact law_of_go mixed D [] (mm_bufnil n l) (paid_append.2 ⟨lbO_paid h1 h2, lnO_paid h1 h2⟩) rfl (.cons _ _ _ _ _ h (.cons _ _ _ _ _ g (.nil _)))
  · exact law_of_go mixed D [] (mm_bufemp n l) (paid_append.2 ⟨lbO_paid h1 h2, lnO_paid h1 h2⟩) rfl (.cons _ _ _ _ _ h (.cons _ _ _ _ _ g (.nil _)))
  · exact law_of_go mixed D [] (mm_bufbuf n l m p) (paid_append.2 ⟨lbO_paid h1 h2, paid_append.2 ⟨lbO_paid g1 g2, lnO_paid h1 h2⟩⟩) rfl (.cons _ _ _ _ _ h (.cons _ _ _ _ _ g (.nil _)))
  · exact law_of_go mixed D [] (mm_bufok n l u) (paid_append.2 ⟨lbO_paid h1 h2, lnO_paid h1 h2⟩) rfl (.cons _ _ _ _ _ h (.cons _ _ _ _ _ g (.nil _)))
  · exact law_of_go mixed D [] (mm_oknil k) (Paid.nil) rfl (.cons _ _ _ _ _ h (.cons _ _ _ _ _ g (.nil _)))
  · exact law_of_go mixed D [] (mm_okemp k) (Paid.nil) rfl (.cons _ _ _ _ _ h (.cons _ _ _ _ _ g (.nil _)))
  · exact law_of_go mixed D [true] (mm_okbuf k m p) (paid_append.2 ⟨lbO_paid g1 g2, paid_cons (decide_eq_true g1) (paid_cons (by simpa using g2) Paid.nil)⟩) rfl (.cons _ _ _ _ _ h (.cons _ _ _ _ _ g (.nil _)))
  · by_cases hz : rmZ k u = true
    · exact law_of_go mixed ((hz9_ok true).deep (q := qn) mixed noCount 100 5) [] (mm_ok_t k u) (paid_cons hz Paid.nil) (decide_eq_true rfl) (.cons _ _ _ _ _ h (.cons _ _ _ _ _ g (.nil _)))
    · exact law_of_go mixed ((hz9_ok false).deep (q := qn) mixed noCount 100 5) [] (mm_ok_f k u) (paid_cons (by simpa using hz) Paid.nil) (decide_eq_true rfl) (.cons _ _ _ _ _ h (.cons _ _ _ _ _ g (.nil _)))

theorem montyMults_lifted (os : Os) (started : os.Started) (H : Type) (enc : TypeId × Value → H) :
    ReturnsInHanded {} Tryd.checked os 3 .any (fun w args => (Rows.montyMultsSpec.pre enc Tryd.prog Tryd.f3 Rows.montyMultsRow.domain false w args ∧ laidMetH Tryd.prog Rows.montyEdgesRow.laid w) ∧ sizedMet enc Tryd.prog Tryd.f3 (OpenSpec.ofChange Rows.montyMultsSpec) false w args)
      (Rows.montyMultsSpec.post enc Tryd.prog Tryd.f3 false true false false) := by
  refine returnsInHanded_of_change_and (C := Tryd.checked) (X := fun w _ => laidMetH Tryd.prog Rows.montyEdgesRow.laid w) (fun _ _ _ hh h => h.of_heap hh) own started (by kernel_rfl) Tryd.func3
    (ChangeSpec.witness_shaped (enc := enc) (C := Tryd.checked) (os := os) (X := fun w _ => laidMetH Tryd.prog Rows.montyEdgesRow.laid w) false (World.laidAll Tryd.prog os Rows.montyEdgesRow.laid) #[.slice none 0 0, .slice none 0 0] 8 (World.laidAll_os _ _ _)
      (World.shaped_of_ZipB (by kernel_rfl) (by kernel_rfl)) (by kernel_rfl) (by kernel_rfl) (by kernel_rfl)
      (by rw [MakeChecks.laidMetH_plain _ _ _ (by kernel_rfl)]; exact laidMet_laidAll _ (by kernel_rfl) (by kernel_rfl))) ?_
  intro W base args ds gs before hval0 hW _ hsz hL _
  have hT : TRep W := trep_of hL
  have hval : ∀ (j : Nat) t v, Tryd.f3.params[j]? = some t → args[j]? = some v → Value.okWide Tryd.prog W .any base t v := hval0
  have hW' := hW
  obtain ⟨p, q, hA0, hV, rfl, hfz, hnd⟩ := hW
  have hA : DataW.TrodAll enc Tryd.prog W 0 (fun _ => true) true Tryd.f3.params.toList args.toList ds p := hA0
  rw [Tryd.params3] at hA hval
  obtain ⟨v0, v1, d0, d1, p0, p1, hargs, rfl, rfl, g0, g1⟩ := trodAll_two hA
  have hargs' : args = #[v0, v1] := by simpa using hargs
  subst hargs'
  obtain ⟨rfl, rfl⟩ := trodVars_none hV
  have hv0 := nums_open Tryd.underlying22 Tryd.underlying5 (by kernel_rfl) (hval 0 _ v0 rfl rfl) g0
  have hv1 := nums_open Tryd.underlying22 Tryd.underlying5 (by kernel_rfl) (hval 1 _ v1 rfl rfl) g1
  refine (montyMults_calls W hT hv0 hv1).mono fun e W' ⟨he, hb⟩ => ?_
  exact ⟨_, he, post_of_law laidOut (by rw [Tryd.params3]; decide +kernel) hW' rfl rfl Tryd.underlying4 rfl rfl rfl hb⟩

theorem montyMults_holds : Rows.MontyMultsSaid :=
  OpenClaim.holds_of_wide 3 Tryd.f3 rfl rfl rfl rfl rfl rfl rfl ⟨rfl, rfl, rfl, rfl, rfl⟩ rfl rfl rfl rfl rfl (by kernel_rfl) Tryd.func3 (by kernel_rfl)
    (of_decide_eq_true (by kernel_rfl)) (by unfold Func.isWrapper; first | (rw [if_pos (by decide +kernel)]; kernel_rfl) | (rw [if_neg (by decide +kernel)]; exact ⟨rfl, rfl⟩))
    (fun os started H enc _ => montyMults_lifted os started H enc)
theorem montyMults_card_holds : Rows.MontyMultsCardSaid :=
  Claim7.holds_tied_plain_at .later [] [.data] true (true, "3a745010d6eb0f352dc2f4fabe89269b797367cebd2582267ae2147497439cd0") false montyMults_holds (fun _ h => by cases h) (by kernel_rfl) (fun _ h => by cases h) montyMults_row_tie rfl ⟨rfl, rfl⟩ (by kernel_rfl) rfl
    (fun f fn hf hfn => by
      obtain rfl : f = 3 := Option.some.inj (hf.symm.trans (by kernel_rfl))
      obtain rfl : fn = Tryd.f3 := (Option.some.inj (Tryd.func3.symm.trans hfn)).symm
      exact ⟨by kernel_rfl, fun j t ht => by
        rw [Tryd.params3] at ht
        have hm : t ∈ [22, 22] := by simpa using Array.mem_of_getElem? ht
        have hall : ([22, 22].all fun u => !Tryd.prog.wantsStandIn u) = true := by kernel_rfl
        exact (show Tryd.prog.wantsStandIn t = false by simpa using List.all_eq_true.1 hall t hm)⟩)
    (by kernel_rfl)
end Go.Proofs.YthddlnldjbijmaaDoor
