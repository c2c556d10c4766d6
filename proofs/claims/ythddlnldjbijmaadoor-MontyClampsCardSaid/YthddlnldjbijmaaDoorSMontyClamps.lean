/- A secret's number is a multiple of 8, from 2^254 on, below 2^255; the bits that are left out of a secret and of a point play no part: for all bytes the law answers true. No condition. -/
import Derived.Test.YthddlnldjbijmaaDoorSMoCl
set_option linter.unusedSimpArgs false
set_option linter.unusedVariables false
set_option linter.unusedSectionVars false
namespace Go.Proofs.YthddlnldjbijmaaDoor
open Go.Ev Go.Wn Go.Mo
open Go.ChangeShapes Go.WideShapes Go.ChangeAt Go.RowKit
set_option maxRecDepth 100000
def clO (k : List Int) : List Bool := List.replicate 5 (!!decide (kwL (litL k) = bigL (cbL k).reverse)) ++ (List.replicate 5 (!(((kwL (litL k)).getD 0 0).tmod 8 != 0)) ++ [!(ishr .u64 ((kwL (litL k)).getD 3 0) 62 != 1)])
theorem clO_paid {k : List Int} (hk : okb k) : Paid (clO k) := by
  obtain ⟨c1, c2⟩ := cb_words hk
  obtain ⟨l1, l2⟩ := kw_low hk
  have e : kwL (litL k) = bigL (cbL k).reverse := by rw [big_rev c1.1, c2]
  unfold clO
  rw [decide_eq_true e, l1, l2]
  exact paid_append.2 ⟨fun x hx => (List.mem_replicate.1 hx).2, paid_append.2 ⟨fun x hx => (List.mem_replicate.1 hx).2, paid_cons rfl Paid.nil⟩⟩
theorem cl_nil (U : V) : res ((funcA Tryd.prog qAs (deep Tryd.prog qn hr9 100 5) 200 5 (cArgs 0 [.pl .nilslice, U]) (cMem [.pl .nilslice, U])).go []) = some ([], .bool false true) := by kernel_rfl
theorem cl_emp (U : V) : res ((funcA Tryd.prog qAs (deep Tryd.prog qn hr9 100 5) 200 5 (cArgs 0 [.empty, U]) (cMem [.empty, U])).go []) = some ([], .bool false true) := by kernel_rfl
theorem cl_buf (n : Nat) (l : List Int) (U : V) : res ((funcA Tryd.prog qAs (deep Tryd.prog qn hr9 100 5) 200 5 (cArgs 0 [.buf true .u8 n l, U]) (cMem [.buf true .u8 n l, U])).go [true]) = some ([decide (0 + n ≤ n), !decide ((n : Int) = 32), decide (n < 9223372036854775808), decide (n < 9223372036854775808), (n : Int) != 32], .bool false true) := by kernel_rfl
theorem cl_onil (k : List Int) : res ((funcA Tryd.prog qAs (deep Tryd.prog qn hr9 100 5) 200 5 (cArgs 0 [.buf false .u8 32 k, .pl .nilslice]) (cMem [.buf false .u8 32 k, .pl .nilslice])).go [false]) = some (clO k, .bool false true) := by kernel_rfl
theorem cl_oemp (k : List Int) : res ((funcA Tryd.prog qAs (deep Tryd.prog qn hr9 100 5) 200 5 (cArgs 0 [.buf false .u8 32 k, .empty]) (cMem [.buf false .u8 32 k, .empty])).go [false]) = some (clO k, .bool false true) := by kernel_rfl
theorem cl_obuf (k : List Int) (n : Nat) (l : List Int) : res ((funcA Tryd.prog qAs (deep Tryd.prog qn hr9 100 5) 200 5 (cArgs 0 [.buf false .u8 32 k, .buf true .u8 n l]) (cMem [.buf false .u8 32 k, .buf true .u8 n l])).go [false, true]) = some (clO k ++ [decide (n < 9223372036854775808), (n : Int) != 32], .bool false true) := by kernel_rfl
theorem cl_oo (k u : List Int) : res ((funcA Tryd.prog qAs (deep Tryd.prog qn hr9 100 5) 200 5 (cArgs 0 [.buf false .u8 32 k, .buf false .u8 32 u]) (cMem [.buf false .u8 32 k, .buf false .u8 32 u])).go [false]) = some (clO k, .bool true (decide (mulB k u = mulB (cbL k) (tpL u)))) := by kernel_rfl
theorem montyClamps_calls {va vb : Value} (W : World) (hT : TRep W) (ha : (va = .slice none 0 0 ∨ ∃ (a : Addr) (len cap : Nat) (zs : List Int), va = .slice (some a) len cap ∧ len ≤ cap ∧ cap ≤ maxLen ∧ zs.length = cap ∧ (∀ i, i < zs.length → W.cell? (a.add i) = some (.int .u8 (zs.getD i 0))) ∧ ∀ n ∈ zs, inR .u8 n = true)) (hb : (vb = .slice none 0 0 ∨ ∃ (a : Addr) (len cap : Nat) (zs : List Int), vb = .slice (some a) len cap ∧ len ≤ cap ∧ cap ≤ maxLen ∧ zs.length = cap ∧ (∀ i, i < zs.length → W.cell? (a.add i) = some (.int .u8 (zs.getD i 0))) ∧ ∀ n ∈ zs, inR .u8 n = true)) :
    Calls Tryd.prog 5 #[va, vb] W (fun e w' => e = .returned (.bool true) ∧ Below W.heap.size W w') := by
  have D := hr9_ok.deep (q := qn) mixed noCount 100 5
  obtain ⟨U, wU, gU⟩ := some_way 1 hb
  rcases four_ways 0 ha with h | h | ⟨n, l, h1, h2, h⟩ | ⟨k, ok, h⟩
  · exact law_of_go mixed D [] (cl_nil U) Paid.nil rfl (.cons _ _ _ _ _ h (.cons _ _ _ _ _ gU (.nil _))) (by show noW [U] = true; rw [noW_c wU]; rfl)
  · exact law_of_go mixed D [] (cl_emp U) Paid.nil rfl (.cons _ _ _ _ _ h (.cons _ _ _ _ _ gU (.nil _))) (by show noW [U] = true; rw [noW_c wU]; rfl)
  · have e : ((n : Int) != 32) = true := by simpa using h2
    exact law_of_go mixed D [true] (cl_buf n l U) (paid_cons (decide_eq_true (by omega)) (paid_cons (by rw [decide_eq_false h2]; rfl) (paid_cons (decide_eq_true h1) (paid_cons (decide_eq_true h1) (paid_cons e Paid.nil))))) rfl (.cons _ _ _ _ _ h (.cons _ _ _ _ _ gU (.nil _))) (by show noW [U] = true; rw [noW_c wU]; rfl)
  · rcases four_ways 1 hb with g | g | ⟨n, l, h1, h2, g⟩ | ⟨u, ou, g⟩
    · exact law_of_go mixed D [false] (cl_onil k) (clO_paid ok) rfl (.cons _ _ _ _ _ h (.cons _ _ _ _ _ g (.nil _)))
    · exact law_of_go mixed D [false] (cl_oemp k) (clO_paid ok) rfl (.cons _ _ _ _ _ h (.cons _ _ _ _ _ g (.nil _)))
    · have e : ((n : Int) != 32) = true := by simpa using h2
      exact law_of_go mixed D [false, true] (cl_obuf k n l) (paid_append.2 ⟨clO_paid ok, paid_cons (decide_eq_true h1) (paid_cons e Paid.nil)⟩) rfl (.cons _ _ _ _ _ h (.cons _ _ _ _ _ g (.nil _)))
    · exact law_of_go mixed D [false] (cl_oo k u) (clO_paid ok) (decide_eq_true (cl_same ok ou)) (.cons _ _ _ _ _ h (.cons _ _ _ _ _ g (.nil _)))

theorem montyClamps_lifted (os : Os) (started : os.Started) (H : Type) (enc : TypeId × Value → H) :
    ReturnsInHanded {} Tryd.checked os 5 .any (fun w args => (Rows.montyClampsSpec.pre enc Tryd.prog Tryd.f5 Rows.montyClampsRow.domain false w args ∧ laidMetH Tryd.prog Rows.montyEdgesRow.laid w) ∧ sizedMet enc Tryd.prog Tryd.f5 (OpenSpec.ofChange Rows.montyClampsSpec) false w args)
      (Rows.montyClampsSpec.post enc Tryd.prog Tryd.f5 false true false false) := by
  refine returnsInHanded_of_change_and (C := Tryd.checked) (X := fun w _ => laidMetH Tryd.prog Rows.montyEdgesRow.laid w) (fun _ _ _ hh h => h.of_heap hh) own started (by kernel_rfl) Tryd.func5
    (ChangeSpec.witness_shaped (enc := enc) (C := Tryd.checked) (os := os) (X := fun w _ => laidMetH Tryd.prog Rows.montyEdgesRow.laid w) false (World.laidAll Tryd.prog os Rows.montyEdgesRow.laid) #[.slice none 0 0, .slice none 0 0] 8 (World.laidAll_os _ _ _)
      (World.shaped_of_ZipB (by kernel_rfl) (by kernel_rfl)) (by kernel_rfl) (by kernel_rfl) (by kernel_rfl)
      (by rw [MakeChecks.laidMetH_plain _ _ _ (by kernel_rfl)]; exact laidMet_laidAll _ (by kernel_rfl) (by kernel_rfl))) ?_
  intro W base args ds gs before hval0 hW _ hsz hL _
  have hT : TRep W := trep_of hL
  have hval : ∀ (j : Nat) t v, Tryd.f5.params[j]? = some t → args[j]? = some v → Value.okWide Tryd.prog W .any base t v := hval0
  have hW' := hW
  obtain ⟨p, q, hA0, hV, rfl, hfz, hnd⟩ := hW
  have hA : DataW.TrodAll enc Tryd.prog W 0 (fun _ => true) true Tryd.f5.params.toList args.toList ds p := hA0
  rw [Tryd.params5] at hA hval
  obtain ⟨v0, v1, d0, d1, p0, p1, hargs, rfl, rfl, g0, g1⟩ := trodAll_two hA
  have hargs' : args = #[v0, v1] := by simpa using hargs
  subst hargs'
  obtain ⟨rfl, rfl⟩ := trodVars_none hV
  have hv0 := nums_open Tryd.underlying22 Tryd.underlying5 (by kernel_rfl) (hval 0 _ v0 rfl rfl) g0
  have hv1 := nums_open Tryd.underlying22 Tryd.underlying5 (by kernel_rfl) (hval 1 _ v1 rfl rfl) g1
  refine (montyClamps_calls W hT hv0 hv1).mono fun e W' ⟨he, hb⟩ => ?_
  exact ⟨_, he, post_of_law laidOut (by rw [Tryd.params5]; decide +kernel) hW' rfl rfl Tryd.underlying4 rfl rfl rfl hb⟩

theorem montyClamps_holds : Rows.MontyClampsSaid :=
  OpenClaim.holds_of_wide 5 Tryd.f5 rfl rfl rfl rfl rfl rfl rfl ⟨rfl, rfl, rfl, rfl, rfl⟩ rfl rfl rfl rfl rfl (by kernel_rfl) Tryd.func5 (by kernel_rfl)
    (of_decide_eq_true (by kernel_rfl)) (by unfold Func.isWrapper; first | (rw [if_pos (by decide +kernel)]; kernel_rfl) | (rw [if_neg (by decide +kernel)]; exact ⟨rfl, rfl⟩))
    (fun os started H enc _ => montyClamps_lifted os started H enc)
theorem montyClamps_card_holds : Rows.MontyClampsCardSaid :=
  Claim7.holds_tied_plain_at .later [] [.data] true (true, "3a745010d6eb0f352dc2f4fabe89269b797367cebd2582267ae2147497439cd0") false montyClamps_holds (fun _ h => by cases h) (by kernel_rfl) (fun _ h => by cases h) montyClamps_row_tie rfl ⟨rfl, rfl⟩ (by kernel_rfl) rfl
    (fun f fn hf hfn => by
      obtain rfl : f = 5 := Option.some.inj (hf.symm.trans (by kernel_rfl))
      obtain rfl : fn = Tryd.f5 := (Option.some.inj (Tryd.func5.symm.trans hfn)).symm
      exact ⟨by kernel_rfl, fun j t ht => by
        rw [Tryd.params5] at ht
        have hm : t ∈ [22, 22] := by simpa using Array.mem_of_getElem? ht
        have hall : ([22, 22].all fun u => !Tryd.prog.wantsStandIn u) = true := by kernel_rfl
        exact (show Tryd.prog.wantsStandIn t = false by simpa using List.all_eq_true.1 hall t hm)⟩)
    (by kernel_rfl)
end Go.Proofs.YthddlnldjbijmaaDoor
