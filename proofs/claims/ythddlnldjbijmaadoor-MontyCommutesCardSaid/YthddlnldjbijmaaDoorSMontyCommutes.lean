/- Of any point two secrets make the same, in whatever order: for all bytes the law answers true. No condition. -/
import Derived.Test.YthddlnldjbijmaaDoorSMoN
set_option linter.unusedSimpArgs false
set_option linter.unusedVariables false
set_option linter.unusedSectionVars false
namespace Go.Proofs.YthddlnldjbijmaaDoor
open Go.Ev Go.Wn Go.Mo
open Go.ChangeShapes Go.WideShapes Go.ChangeAt Go.RowKit
set_option maxRecDepth 100000
theorem mc_nil (B U : V) : res ((funcA Tryd.prog qAs (deep Tryd.prog qn hl9 100 5) 200 6 (cArgs 0 [.pl .nilslice, B, U]) (cMem [.pl .nilslice, B, U])).go []) = some ([], .bool false true) := by kernel_rfl
theorem mc_emp (B U : V) : res ((funcA Tryd.prog qAs (deep Tryd.prog qn hl9 100 5) 200 6 (cArgs 0 [.empty, B, U]) (cMem [.empty, B, U])).go []) = some ([], .bool false true) := by kernel_rfl
theorem mc_onil (a : List Int) (U : V) : res ((funcA Tryd.prog qAs (deep Tryd.prog qn hl9 100 5) 200 6 (cArgs 0 [.buf false .u8 32 a, .pl .nilslice, U]) (cMem [.buf false .u8 32 a, .pl .nilslice, U])).go []) = some ([], .bool false true) := by kernel_rfl
theorem mc_oemp (a : List Int) (U : V) : res ((funcA Tryd.prog qAs (deep Tryd.prog qn hl9 100 5) 200 6 (cArgs 0 [.buf false .u8 32 a, .empty, U]) (cMem [.buf false .u8 32 a, .empty, U])).go []) = some ([], .bool false true) := by kernel_rfl
theorem mc_oonil (a b : List Int) : res ((funcA Tryd.prog qAs (deep Tryd.prog qn hl9 100 5) 200 6 (cArgs 0 [.buf false .u8 32 a, .buf false .u8 32 b, .pl .nilslice]) (cMem [.buf false .u8 32 a, .buf false .u8 32 b, .pl .nilslice])).go []) = some ([], .bool false true) := by kernel_rfl
theorem mc_ooemp (a b : List Int) : res ((funcA Tryd.prog qAs (deep Tryd.prog qn hl9 100 5) 200 6 (cArgs 0 [.buf false .u8 32 a, .buf false .u8 32 b, .empty]) (cMem [.buf false .u8 32 a, .buf false .u8 32 b, .empty])).go []) = some ([], .bool false true) := by kernel_rfl
theorem mc_oobuf (a b : List Int) (n : Nat) (l : List Int) : res ((funcA Tryd.prog qAs (deep Tryd.prog qn hl9 100 5) 200 6 (cArgs 0 [.buf false .u8 32 a, .buf false .u8 32 b, .buf true .u8 n l]) (cMem [.buf false .u8 32 a, .buf false .u8 32 b, .buf true .u8 n l])).go [true]) = some ([decide (n < 9223372036854775808), (n : Int) != 32], .bool false true) := by kernel_rfl
theorem mc_ooo (a b u : List Int) : res ((funcA Tryd.prog qAs (deep Tryd.prog qn hl9 100 5) 200 6 (cArgs 0 [.buf false .u8 32 a, .buf false .u8 32 b, .buf false .u8 32 u]) (cMem [.buf false .u8 32 a, .buf false .u8 32 b, .buf false .u8 32 u])).go []) = some ([], .bool true (decide (mulB b (mulB a u) = mulB a (mulB b u)))) := by kernel_rfl
theorem mc_bnilnil (n m k : Nat) (l p r : List Int) : res ((funcA Tryd.prog qn (deep Tryd.prog qn hl9 100 5) 200 6 (cArgs 0 [.buf true .u8 n l, .pl .nilslice, .pl .nilslice]) (cMem [.buf true .u8 n l, .pl .nilslice, .pl .nilslice])).go [true]) = some (decide (n < 9223372036854775808) :: (gP ((n : Int) != 32) ++ (gP (orM ((n : Int) != 32) ((0 : Int) != 32)) ++ [orM (orM ((n : Int) != 32) ((0 : Int) != 32)) ((0 : Int) != 32)])), .bool false true) := by kernel_rfl
theorem mc_bnilemp (n m k : Nat) (l p r : List Int) : res ((funcA Tryd.prog qn (deep Tryd.prog qn hl9 100 5) 200 6 (cArgs 0 [.buf true .u8 n l, .pl .nilslice, .empty]) (cMem [.buf true .u8 n l, .pl .nilslice, .empty])).go [true]) = some (decide (n < 9223372036854775808) :: (gP ((n : Int) != 32) ++ (gP (orM ((n : Int) != 32) ((0 : Int) != 32)) ++ [orM (orM ((n : Int) != 32) ((0 : Int) != 32)) (((0 : Nat) : Int) != 32)])), .bool false true) := by kernel_rfl
theorem mc_bnilbuf (n m k : Nat) (l p r : List Int) : res ((funcA Tryd.prog qn (deep Tryd.prog qn hl9 100 5) 200 6 (cArgs 0 [.buf true .u8 n l, .pl .nilslice, .buf true .u8 k r]) (cMem [.buf true .u8 n l, .pl .nilslice, .buf true .u8 k r])).go [true]) = some (decide (n < 9223372036854775808) :: (gP ((n : Int) != 32) ++ (gB (orM ((n : Int) != 32) ((0 : Int) != 32)) k ++ [orM (orM ((n : Int) != 32) ((0 : Int) != 32)) ((k : Int) != 32)])), .bool false true) := by kernel_rfl
theorem mc_bempnil (n m k : Nat) (l p r : List Int) : res ((funcA Tryd.prog qn (deep Tryd.prog qn hl9 100 5) 200 6 (cArgs 0 [.buf true .u8 n l, .empty, .pl .nilslice]) (cMem [.buf true .u8 n l, .empty, .pl .nilslice])).go [true]) = some (decide (n < 9223372036854775808) :: (gP ((n : Int) != 32) ++ (gP (orM ((n : Int) != 32) (((0 : Nat) : Int) != 32)) ++ [orM (orM ((n : Int) != 32) (((0 : Nat) : Int) != 32)) ((0 : Int) != 32)])), .bool false true) := by kernel_rfl
theorem mc_bempemp (n m k : Nat) (l p r : List Int) : res ((funcA Tryd.prog qn (deep Tryd.prog qn hl9 100 5) 200 6 (cArgs 0 [.buf true .u8 n l, .empty, .empty]) (cMem [.buf true .u8 n l, .empty, .empty])).go [true]) = some (decide (n < 9223372036854775808) :: (gP ((n : Int) != 32) ++ (gP (orM ((n : Int) != 32) (((0 : Nat) : Int) != 32)) ++ [orM (orM ((n : Int) != 32) (((0 : Nat) : Int) != 32)) (((0 : Nat) : Int) != 32)])), .bool false true) := by kernel_rfl
theorem mc_bempbuf (n m k : Nat) (l p r : List Int) : res ((funcA Tryd.prog qn (deep Tryd.prog qn hl9 100 5) 200 6 (cArgs 0 [.buf true .u8 n l, .empty, .buf true .u8 k r]) (cMem [.buf true .u8 n l, .empty, .buf true .u8 k r])).go [true]) = some (decide (n < 9223372036854775808) :: (gP ((n : Int) != 32) ++ (gB (orM ((n : Int) != 32) (((0 : Nat) : Int) != 32)) k ++ [orM (orM ((n : Int) != 32) (((0 : Nat) : Int) != 32)) ((k : Int) != 32)])), .bool false true) := by kernel_rfl
theorem mc_bbufnil (n m k : Nat) (l p r : List Int) : res ((funcA Tryd.prog qn (deep Tryd.prog qn hl9 100 5) 200 6 (cArgs 0 [.buf true .u8 n l, .buf true .u8 m p, .pl .nilslice]) (cMem [.buf true .u8 n l, .buf true .u8 m p, .pl .nilslice])).go [true]) = some (decide (n < 9223372036854775808) :: (gB ((n : Int) != 32) m ++ (gP (orM ((n : Int) != 32) ((m : Int) != 32)) ++ [orM (orM ((n : Int) != 32) ((m : Int) != 32)) ((0 : Int) != 32)])), .bool false true) := by kernel_rfl
theorem mc_bbufemp (n m k : Nat) (l p r : List Int) : res ((funcA Tryd.prog qn (deep Tryd.prog qn hl9 100 5) 200 6 (cArgs 0 [.buf true .u8 n l, .buf true .u8 m p, .empty]) (cMem [.buf true .u8 n l, .buf true .u8 m p, .empty])).go [true]) = some (decide (n < 9223372036854775808) :: (gB ((n : Int) != 32) m ++ (gP (orM ((n : Int) != 32) ((m : Int) != 32)) ++ [orM (orM ((n : Int) != 32) ((m : Int) != 32)) (((0 : Nat) : Int) != 32)])), .bool false true) := by kernel_rfl
theorem mc_bbufbuf (n m k : Nat) (l p r : List Int) : res ((funcA Tryd.prog qn (deep Tryd.prog qn hl9 100 5) 200 6 (cArgs 0 [.buf true .u8 n l, .buf true .u8 m p, .buf true .u8 k r]) (cMem [.buf true .u8 n l, .buf true .u8 m p, .buf true .u8 k r])).go [true]) = some (decide (n < 9223372036854775808) :: (gB ((n : Int) != 32) m ++ (gB (orM ((n : Int) != 32) ((m : Int) != 32)) k ++ [orM (orM ((n : Int) != 32) ((m : Int) != 32)) ((k : Int) != 32)])), .bool false true) := by kernel_rfl
theorem mc_obnil (a : List Int) (n k : Nat) (l r : List Int) : res ((funcA Tryd.prog qn (deep Tryd.prog qn hl9 100 5) 200 6 (cArgs 0 [.buf false .u8 32 a, .buf true .u8 n l, .pl .nilslice]) (cMem [.buf false .u8 32 a, .buf true .u8 n l, .pl .nilslice])).go [true]) = some (decide (n < 9223372036854775808) :: (gP ((n : Int) != 32) ++ [orM ((n : Int) != 32) ((0 : Int) != 32)]), .bool false true) := by kernel_rfl
theorem mc_obemp (a : List Int) (n k : Nat) (l r : List Int) : res ((funcA Tryd.prog qn (deep Tryd.prog qn hl9 100 5) 200 6 (cArgs 0 [.buf false .u8 32 a, .buf true .u8 n l, .empty]) (cMem [.buf false .u8 32 a, .buf true .u8 n l, .empty])).go [true]) = some (decide (n < 9223372036854775808) :: (gP ((n : Int) != 32) ++ [orM ((n : Int) != 32) (((0 : Nat) : Int) != 32)]), .bool false true) := by kernel_rfl
theorem mc_obbuf (a : List Int) (n k : Nat) (l r : List Int) : res ((funcA Tryd.prog qn (deep Tryd.prog qn hl9 100 5) 200 6 (cArgs 0 [.buf false .u8 32 a, .buf true .u8 n l, .buf true .u8 k r]) (cMem [.buf false .u8 32 a, .buf true .u8 n l, .buf true .u8 k r])).go [true]) = some (decide (n < 9223372036854775808) :: (gB ((n : Int) != 32) k ++ [orM ((n : Int) != 32) ((k : Int) != 32)]), .bool false true) := by kernel_rfl
theorem montyCommutes_calls {va vb vu : Value} (W : World) (hT : TRep W) (ha : (va = .slice none 0 0 ∨ ∃ (a : Addr) (len cap : Nat) (zs : List Int), va = .slice (some a) len cap ∧ len ≤ cap ∧ cap ≤ maxLen ∧ zs.length = cap ∧ (∀ i, i < zs.length → W.cell? (a.add i) = some (.int .u8 (zs.getD i 0))) ∧ ∀ n ∈ zs, inR .u8 n = true)) (hb : (vb = .slice none 0 0 ∨ ∃ (a : Addr) (len cap : Nat) (zs : List Int), vb = .slice (some a) len cap ∧ len ≤ cap ∧ cap ≤ maxLen ∧ zs.length = cap ∧ (∀ i, i < zs.length → W.cell? (a.add i) = some (.int .u8 (zs.getD i 0))) ∧ ∀ n ∈ zs, inR .u8 n = true)) (hu : (vu = .slice none 0 0 ∨ ∃ (a : Addr) (len cap : Nat) (zs : List Int), vu = .slice (some a) len cap ∧ len ≤ cap ∧ cap ≤ maxLen ∧ zs.length = cap ∧ (∀ i, i < zs.length → W.cell? (a.add i) = some (.int .u8 (zs.getD i 0))) ∧ ∀ n ∈ zs, inR .u8 n = true)) :
    Calls Tryd.prog 6 #[va, vb, vu] W (fun e w' => e = .returned (.bool true) ∧ Below W.heap.size W w') := by
  have D := hl9_ok.deep (q := qn) mixed noCount 100 5
  obtain ⟨B, wB, gB⟩ := some_way 1 hb
  obtain ⟨U, wU, gU⟩ := some_way 2 hu
  rcases four_ways 0 ha with h | h | ⟨n, l, h1, h2, h⟩ | ⟨a, oa, h⟩
  · exact law_of_go mixed D [] (mc_nil B U) Paid.nil rfl (.cons _ _ _ _ _ h (.cons _ _ _ _ _ gB (.cons _ _ _ _ _ gU (.nil _)))) (by show noW [B, U] = true; rw [noW_c wB, noW_c wU]; rfl)
  · exact law_of_go mixed D [] (mc_emp B U) Paid.nil rfl (.cons _ _ _ _ _ h (.cons _ _ _ _ _ gB (.cons _ _ _ _ _ gU (.nil _)))) (by show noW [B, U] = true; rw [noW_c wB, noW_c wU]; rfl)
  · have e : ((n : Int) != 32) = true := by simpa using h2
    rcases three_ways 1 hb with g | g | ⟨m, p, hm, g⟩ <;> rcases three_ways 2 hu with f | f | ⟨k, r, hk, f⟩
    · exact law_of_go mixed D [true] (mc_bnilnil n 0 0 l [] []) (by rw [e]; exact paid_cons (decide_eq_true h1) (paid_append.2 ⟨gP_paid, paid_append.2 ⟨gP_paid, paid_cons rfl Paid.nil⟩⟩)) rfl (.cons _ _ _ _ _ h (.cons _ _ _ _ _ g (.cons _ _ _ _ _ f (.nil _))))
    · exact law_of_go mixed D [true] (mc_bnilemp n 0 0 l [] []) (by rw [e]; exact paid_cons (decide_eq_true h1) (paid_append.2 ⟨gP_paid, paid_append.2 ⟨gP_paid, paid_cons rfl Paid.nil⟩⟩)) rfl (.cons _ _ _ _ _ h (.cons _ _ _ _ _ g (.cons _ _ _ _ _ f (.nil _))))
    · exact law_of_go mixed D [true] (mc_bnilbuf n 0 k l [] r) (by rw [e]; exact paid_cons (decide_eq_true h1) (paid_append.2 ⟨gP_paid, paid_append.2 ⟨gB_paid hk, paid_cons rfl Paid.nil⟩⟩)) rfl (.cons _ _ _ _ _ h (.cons _ _ _ _ _ g (.cons _ _ _ _ _ f (.nil _))))
    · exact law_of_go mixed D [true] (mc_bempnil n 0 0 l [] []) (by rw [e]; exact paid_cons (decide_eq_true h1) (paid_append.2 ⟨gP_paid, paid_append.2 ⟨gP_paid, paid_cons rfl Paid.nil⟩⟩)) rfl (.cons _ _ _ _ _ h (.cons _ _ _ _ _ g (.cons _ _ _ _ _ f (.nil _))))
    · exact law_of_go mixed D [true] (mc_bempemp n 0 0 l [] []) (by rw [e]; exact paid_cons (decide_eq_true h1) (paid_append.2 ⟨gP_paid, paid_append.2 ⟨gP_paid, paid_cons rfl Paid.nil⟩⟩)) rfl (.cons _ _ _ _ _ h (.cons _ _ _ _ _ g (.cons _ _ _ _ _ f (.nil _))))
    · exact law_of_go mixed D [true] (mc_bempbuf n 0 k l [] r) (by rw [e]; exact paid_cons (decide_eq_true h1) (paid_append.2 ⟨gP_paid, paid_append.2 ⟨gB_paid hk, paid_cons rfl Paid.nil⟩⟩)) rfl (.cons _ _ _ _ _ h (.cons _ _ _ _ _ g (.cons _ _ _ _ _ f (.nil _))))
    · exact law_of_go mixed D [true] (mc_bbufnil n m 0 l p []) (by rw [e]; exact paid_cons (decide_eq_true h1) (paid_append.2 ⟨gB_paid hm, paid_append.2 ⟨gP_paid, paid_cons rfl Paid.nil⟩⟩)) rfl (.cons _ _ _ _ _ h (.cons _ _ _ _ _ g (.cons _ _ _ _ _ f (.nil _))))
    · exact law_of_go mixed D [true] (mc_bbufemp n m 0 l p []) (by rw [e]; exact paid_cons (decide_eq_true h1) (paid_append.2 ⟨gB_paid hm, paid_append.2 ⟨gP_paid, paid_cons rfl Paid.nil⟩⟩)) rfl (.cons _ _ _ _ _ h (.cons _ _ _ _ _ g (.cons _ _ _ _ _ f (.nil _))))
    · exact law_of_go mixed D [true] (mc_bbufbuf n m k l p r) (by rw [e]; exact paid_cons (decide_eq_true h1) (paid_append.2 ⟨gB_paid hm, paid_append.2 ⟨gB_paid hk, paid_cons rfl Paid.nil⟩⟩)) rfl (.cons _ _ _ _ _ h (.cons _ _ _ _ _ g (.cons _ _ _ _ _ f (.nil _))))
  · rcases four_ways 1 hb with g | g | ⟨n, l, h1, h2, g⟩ | ⟨b, ob, g⟩
    · exact law_of_go mixed D [] (mc_onil a U) Paid.nil rfl (.cons _ _ _ _ _ h (.cons _ _ _ _ _ g (.cons _ _ _ _ _ gU (.nil _)))) (by show noW [U] = true; rw [noW_c wU]; rfl)
    · exact law_of_go mixed D [] (mc_oemp a U) Paid.nil rfl (.cons _ _ _ _ _ h (.cons _ _ _ _ _ g (.cons _ _ _ _ _ gU (.nil _)))) (by show noW [U] = true; rw [noW_c wU]; rfl)
    · have e : ((n : Int) != 32) = true := by simpa using h2
      rcases three_ways 2 hu with f | f | ⟨k, r, hk, f⟩
      · exact law_of_go mixed D [true] (mc_obnil a n 0 l []) (by rw [e]; exact paid_cons (decide_eq_true h1) (paid_append.2 ⟨gP_paid, paid_cons rfl Paid.nil⟩)) rfl (.cons _ _ _ _ _ h (.cons _ _ _ _ _ g (.cons _ _ _ _ _ f (.nil _))))
      · exact law_of_go mixed D [true] (mc_obemp a n 0 l []) (by rw [e]; exact paid_cons (decide_eq_true h1) (paid_append.2 ⟨gP_paid, paid_cons rfl Paid.nil⟩)) rfl (.cons _ _ _ _ _ h (.cons _ _ _ _ _ g (.cons _ _ _ _ _ f (.nil _))))
      · exact law_of_go mixed D [true] (mc_obbuf a n k l r) (by rw [e]; exact paid_cons (decide_eq_true h1) (paid_append.2 ⟨gB_paid hk, paid_cons rfl Paid.nil⟩)) rfl (.cons _ _ _ _ _ h (.cons _ _ _ _ _ g (.cons _ _ _ _ _ f (.nil _))))
    · rcases four_ways 2 hu with f | f | ⟨n, l, h1, h2, f⟩ | ⟨u, ou, f⟩
      · exact law_of_go mixed D [] (mc_oonil a b) Paid.nil rfl (.cons _ _ _ _ _ h (.cons _ _ _ _ _ g (.cons _ _ _ _ _ f (.nil _))))
      · exact law_of_go mixed D [] (mc_ooemp a b) Paid.nil rfl (.cons _ _ _ _ _ h (.cons _ _ _ _ _ g (.cons _ _ _ _ _ f (.nil _))))
      · have e : ((n : Int) != 32) = true := by simpa using h2
        exact law_of_go mixed D [true] (mc_oobuf a b n l) (paid_cons (decide_eq_true h1) (paid_cons e Paid.nil)) rfl (.cons _ _ _ _ _ h (.cons _ _ _ _ _ g (.cons _ _ _ _ _ f (.nil _))))
      · exact law_of_go mixed D [] (mc_ooo a b u) Paid.nil (decide_eq_true (mul_comm9 oa ob ou)) (.cons _ _ _ _ _ h (.cons _ _ _ _ _ g (.cons _ _ _ _ _ f (.nil _))))

theorem montyCommutes_lifted (os : Os) (started : os.Started) (H : Type) (enc : TypeId × Value → H) :
    ReturnsInHanded {} Tryd.checked os 6 .any (fun w args => (Rows.montyCommutesSpec.pre enc Tryd.prog Tryd.f6 Rows.montyCommutesRow.domain false w args ∧ laidMetH Tryd.prog Rows.montyEdgesRow.laid w) ∧ sizedMet enc Tryd.prog Tryd.f6 (OpenSpec.ofChange Rows.montyCommutesSpec) false w args)
      (Rows.montyCommutesSpec.post enc Tryd.prog Tryd.f6 false true false false) := by
  refine returnsInHanded_of_change_and (C := Tryd.checked) (X := fun w _ => laidMetH Tryd.prog Rows.montyEdgesRow.laid w) (fun _ _ _ hh h => h.of_heap hh) own started (by kernel_rfl) Tryd.func6
    (ChangeSpec.witness_shaped (enc := enc) (C := Tryd.checked) (os := os) (X := fun w _ => laidMetH Tryd.prog Rows.montyEdgesRow.laid w) false (World.laidAll Tryd.prog os Rows.montyEdgesRow.laid) #[.slice none 0 0, .slice none 0 0, .slice none 0 0] 8 (World.laidAll_os _ _ _)
      (World.shaped_of_ZipB (by kernel_rfl) (by kernel_rfl)) (by kernel_rfl) (by kernel_rfl) (by kernel_rfl)
      (by rw [MakeChecks.laidMetH_plain _ _ _ (by kernel_rfl)]; exact laidMet_laidAll _ (by kernel_rfl) (by kernel_rfl))) ?_
  intro W base args ds gs before hval0 hW _ hsz hL _
  have hT : TRep W := trep_of hL
  have hval : ∀ (j : Nat) t v, Tryd.f6.params[j]? = some t → args[j]? = some v → Value.okWide Tryd.prog W .any base t v := hval0
  have hW' := hW
  obtain ⟨p, q, hA0, hV, rfl, hfz, hnd⟩ := hW
  have hA : DataW.TrodAll enc Tryd.prog W 0 (fun _ => true) true Tryd.f6.params.toList args.toList ds p := hA0
  rw [Tryd.params6] at hA hval
  obtain ⟨v0, v1, v2, d0, d1, d2, p0, p1, p2, hargs, rfl, rfl, g0, g1, g2⟩ := trodAll_three hA
  have hargs' : args = #[v0, v1, v2] := by simpa using hargs
  subst hargs'
  obtain ⟨rfl, rfl⟩ := trodVars_none hV
  have hv0 := nums_open Tryd.underlying22 Tryd.underlying5 (by kernel_rfl) (hval 0 _ v0 rfl rfl) g0
  have hv1 := nums_open Tryd.underlying22 Tryd.underlying5 (by kernel_rfl) (hval 1 _ v1 rfl rfl) g1
  have hv2 := nums_open Tryd.underlying22 Tryd.underlying5 (by kernel_rfl) (hval 2 _ v2 rfl rfl) g2
  refine (montyCommutes_calls W hT hv0 hv1 hv2).mono fun e W' ⟨he, hb⟩ => ?_
  exact ⟨_, he, post_of_law laidOut (by rw [Tryd.params6]; decide +kernel) hW' rfl rfl Tryd.underlying4 rfl rfl rfl hb⟩

theorem montyCommutes_holds : Rows.MontyCommutesSaid :=
  OpenClaim.holds_of_wide 6 Tryd.f6 rfl rfl rfl rfl rfl rfl rfl ⟨rfl, rfl, rfl, rfl, rfl⟩ rfl rfl rfl rfl rfl (by kernel_rfl) Tryd.func6 (by kernel_rfl)
    (of_decide_eq_true (by kernel_rfl)) (by unfold Func.isWrapper; first | (rw [if_pos (by decide +kernel)]; kernel_rfl) | (rw [if_neg (by decide +kernel)]; exact ⟨rfl, rfl⟩))
    (fun os started H enc _ => montyCommutes_lifted os started H enc)
theorem montyCommutes_card_holds : Rows.MontyCommutesCardSaid :=
  Claim7.holds_tied_plain_at .later [] [.data] true (true, "3a745010d6eb0f352dc2f4fabe89269b797367cebd2582267ae2147497439cd0") false montyCommutes_holds (fun _ h => by cases h) (by kernel_rfl) (fun _ h => by cases h) montyCommutes_row_tie rfl ⟨rfl, rfl⟩ (by kernel_rfl) rfl
    (fun f fn hf hfn => by
      obtain rfl : f = 6 := Option.some.inj (hf.symm.trans (by kernel_rfl))
      obtain rfl : fn = Tryd.f6 := (Option.some.inj (Tryd.func6.symm.trans hfn)).symm
      exact ⟨by kernel_rfl, fun j t ht => by
        rw [Tryd.params6] at ht
        have hm : t ∈ [22, 22, 22] := by simpa using Array.mem_of_getElem? ht
        have hall : ([22, 22, 22].all fun u => !Tryd.prog.wantsStandIn u) = true := by kernel_rfl
        exact (show Tryd.prog.wantsStandIn t = false by simpa using List.all_eq_true.1 hall t hm)⟩)
    (by kernel_rfl)
end Go.Proofs.YthddlnldjbijmaaDoor
