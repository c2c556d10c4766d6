/- A signature whose number is the order more is refused, and one of another length: for all bytes and cuts the law answers true. No condition. -/
import Derived.Test.YthelmpjkkkhopaaDoorPEwX
set_option linter.unusedSimpArgs false
set_option linter.unusedVariables false
set_option linter.unusedSectionVars false
namespace Go.Proofs.YthelmpjkkkhopaaDoor
open Go.Ev Go.Wn Go.Mo
open Go.ChangeShapes Go.WideShapes Go.ChangeAt Go.RowKit
set_option maxRecDepth 100000
def cutO (c : Int) : Bool := decide (0 ≤ cutK c) && decide (cutK c ≤ ((64 : Nat) : Int))
def cutP (c : Int) : List Bool := [decide (0 + 0 + ((cutK c).toNat - 0) ≤ 64), decide ((cutK c).toNat - 0 < 9223372036854775808), ((((cutK c).toNat - 0 : Nat) : Int) != 64)]
def esO0 (a b v : Bool) (c : Int) : List Bool := [a, a, a, b, b, b, b, b, b, v, v, v, v, v, cutO c, v] ++ cutP c ++ [v, v]
def esOn (a b v : Bool) (c : Int) (n : Nat) : List Bool := [decide (n < 9223372036854775808), !decide ((n : Int) > 200), decide (0 + n ≤ n), decide (n < 9223372036854775808), decide (0 + n ≤ n), decide (n < 9223372036854775808), a, a, a, b, b, b, b, decide (0 + n ≤ n), decide (n < 9223372036854775808), b, b, v, v, v, v, v, cutO c, v, decide (0 + n ≤ n)] ++ cutP c ++ [v, v, decide (0 + n ≤ n)]
def ovB (g : List Int) : Bool := esA g / 115792089237316195423570985008687907853269984665640564039457584007913129639936 == 0
theorem es_nil (fp : List Int → List Int) (fs : List Int → List Int → List Int) (fv : List Int → List Int → List Int → Bool) (M C : V) : res ((funcA Tryd.prog qE (deep Tryd.prog qE (hEx fp fs fv) 100 5) 200 5 (cArgs 0 [.pl .nilslice, M, C]) (cMem [.pl .nilslice, M, C])).go []) = some ([], .bool false true) := by kernel_rfl
theorem es_emp (fp : List Int → List Int) (fs : List Int → List Int → List Int) (fv : List Int → List Int → List Int → Bool) (M C : V) : res ((funcA Tryd.prog qE (deep Tryd.prog qE (hEx fp fs fv) 100 5) 200 5 (cArgs 0 [.empty, M, C]) (cMem [.empty, M, C])).go []) = some ([], .bool false true) := by kernel_rfl
theorem es_bnil (fp : List Int → List Int) (fs : List Int → List Int → List Int) (fv : List Int → List Int → List Int → Bool) (n : Nat) (s : List Int) (C : V) : res ((funcA Tryd.prog qE (deep Tryd.prog qE (hEx fp fs fv) 100 5) 200 5 (cArgs 0 [.buf true .u8 n s, .pl .nilslice, C]) (cMem [.buf true .u8 n s, .pl .nilslice, C])).go [true]) = some (decide (n < 9223372036854775808) :: (gP ((n : Int) != 32) ++ [orM ((n : Int) != 32) (decide ((0 : Int) > 200))]), .bool false true) := by kernel_rfl
theorem es_bemp (fp : List Int → List Int) (fs : List Int → List Int → List Int) (fv : List Int → List Int → List Int → Bool) (n : Nat) (s : List Int) (C : V) : res ((funcA Tryd.prog qE (deep Tryd.prog qE (hEx fp fs fv) 100 5) 200 5 (cArgs 0 [.buf true .u8 n s, .empty, C]) (cMem [.buf true .u8 n s, .empty, C])).go [true]) = some (decide (n < 9223372036854775808) :: (gP ((n : Int) != 32) ++ [orM ((n : Int) != 32) (decide ((0 : Int) > 200))]), .bool false true) := by kernel_rfl
theorem es_bbuf (fp : List Int → List Int) (fs : List Int → List Int → List Int) (fv : List Int → List Int → List Int → Bool) (n : Nat) (s : List Int) (m : Nat) (l : List Int) (C : V) : res ((funcA Tryd.prog qE (deep Tryd.prog qE (hEx fp fs fv) 100 5) 200 5 (cArgs 0 [.buf true .u8 n s, .buf true .u8 m l, C]) (cMem [.buf true .u8 n s, .buf true .u8 m l, C])).go [true]) = some (decide (n < 9223372036854775808) :: (gB ((n : Int) != 32) m ++ [orM ((n : Int) != 32) (decide ((m : Int) > 200))]), .bool false true) := by kernel_rfl
theorem es_onil (fp : List Int → List Int) (fs : List Int → List Int → List Int) (fv : List Int → List Int → List Int → Bool) (s : List Int) (c : Int) : res ((funcA Tryd.prog qAs (deep Tryd.prog qE (hEx fp fs fv) 100 5) 200 5 (cArgs 0 [.buf false .u8 32 s, .pl .nilslice, .pl (.int true .i64 c)]) (cMem [.buf false .u8 32 s, .pl .nilslice, .pl (.int true .i64 c)])).go []) = some (esO0 (decide (fs [] s = fs [] s)) (ovB (fs [] s)) (verE (fv [] (fp s) (esB (fs [] s))) == 6) c, .bool false true) := by kernel_rfl
theorem es_oemp (fp : List Int → List Int) (fs : List Int → List Int → List Int) (fv : List Int → List Int → List Int → Bool) (s : List Int) (c : Int) : res ((funcA Tryd.prog qAs (deep Tryd.prog qE (hEx fp fs fv) 100 5) 200 5 (cArgs 0 [.buf false .u8 32 s, .empty, .pl (.int true .i64 c)]) (cMem [.buf false .u8 32 s, .empty, .pl (.int true .i64 c)])).go []) = some (esO0 (decide (fs [] s = fs [] s)) (ovB (fs [] s)) (verE (fv [] (fp s) (esB (fs [] s))) == 6) c, .bool false true) := by kernel_rfl
theorem es_long (fp : List Int → List Int) (fs : List Int → List Int → List Int) (fv : List Int → List Int → List Int → Bool) (s : List Int) (m : Nat) (l : List Int) (C : V) : res ((funcA Tryd.prog qE (deep Tryd.prog qE (hEx fp fs fv) 100 5) 200 5 (cArgs 0 [.buf false .u8 32 s, .buf true .u8 m l, C]) (cMem [.buf false .u8 32 s, .buf true .u8 m l, C])).go [true]) = some ([decide (m < 9223372036854775808), decide ((m : Int) > 200)], .bool false true) := by kernel_rfl
theorem es_obuf (fp : List Int → List Int) (fs : List Int → List Int → List Int) (fv : List Int → List Int → List Int → Bool) (s : List Int) (m : Nat) (l : List Int) (c : Int) : res ((funcA Tryd.prog qAs (deep Tryd.prog qE (hEx fp fs fv) 100 5) 200 5 (cArgs 0 [.buf false .u8 32 s, .buf true .u8 m l, .pl (.int true .i64 c)]) (cMem [.buf false .u8 32 s, .buf true .u8 m l, .pl (.int true .i64 c)])).go [false]) = some (esOn (decide (fs ((l.drop 0).take m) s = fs ((l.drop 0).take m) s)) (ovB (fs ((l.drop 0).take m) s)) (verE (fv ((l.drop 0).take m) (fp s) (esB (fs ((l.drop 0).take m) s))) == 6) c m, .bool false true) := by kernel_rfl
theorem cutO_ok (c : Int) : cutO c = true := by
  have h := cutK_b c
  unfold cutO
  rw [decide_eq_true h.1, decide_eq_true (by omega)]
  rfl
theorem cutP_ok (c : Int) : Paid (cutP c) := by
  have h := cutK_b c
  unfold cutP
  refine paid_cons (decide_eq_true (by omega)) (paid_cons (decide_eq_true (by omega)) (paid_cons ?_ Paid.nil))
  simp only [bne_iff_ne, ne_eq]
  omega
theorem esO0_ok {a b v : Bool} (ha : a = true) (hb : b = true) (hv : v = true) (c : Int) : Paid (esO0 a b v c) := by
  subst ha hb hv
  unfold esO0
  rw [cutO_ok]
  exact paid_append.2 ⟨paid_append.2 ⟨List.all_eq_true.1 rfl, cutP_ok c⟩, List.all_eq_true.1 rfl⟩
theorem esOn_ok {a b v : Bool} (ha : a = true) (hb : b = true) (hv : v = true) (c : Int) {n : Nat} (hn : n < 9223372036854775808) (hl : ¬ (n : Int) > 200) : Paid (esOn a b v c n) := by
  subst ha hb hv
  unfold esOn
  rw [cutO_ok, decide_eq_true hn, decide_eq_false hl, show decide (0 + n ≤ n) = true from decide_eq_true (by omega)]
  exact paid_append.2 ⟨paid_append.2 ⟨List.all_eq_true.1 rfl, cutP_ok c⟩, List.all_eq_true.1 rfl⟩
theorem edwardsShifts_calls {va vb : Value} {c : Int} (W : World) (hT : TRep W) (ha : (va = .slice none 0 0 ∨ ∃ (a : Addr) (len cap : Nat) (zs : List Int), va = .slice (some a) len cap ∧ len ≤ cap ∧ cap ≤ maxLen ∧ zs.length = cap ∧ (∀ i, i < zs.length → W.cell? (a.add i) = some (.int .u8 (zs.getD i 0))) ∧ ∀ n ∈ zs, inR .u8 n = true)) (hb : (vb = .slice none 0 0 ∨ ∃ (a : Addr) (len cap : Nat) (zs : List Int), vb = .slice (some a) len cap ∧ len ≤ cap ∧ cap ≤ maxLen ∧ zs.length = cap ∧ (∀ i, i < zs.length → W.cell? (a.add i) = some (.int .u8 (zs.getD i 0))) ∧ ∀ n ∈ zs, inR .u8 n = true)) (hc : inR .i64 c = true) :
    Calls Tryd.prog 5 #[va, vb, .int .i64 c] W (fun e w' => e = .returned (.bool true) ∧ Below W.heap.size W w') := by
  have D := hEx_ok.deep (q := qE) mixed noCount 100 5
  have hC : ∃ L, VOk W 2 L (.pl (.int true .i64 c)) (.int .i64 c) := VOk.plain fun ρ N => .int _ _ _ hc
  rcases four_ways 0 ha with h | h | ⟨n, l, h1, h2, h⟩ | ⟨s, os, h⟩
  · obtain ⟨B, wB, gB'⟩ := some_way 1 hb
    exact law_of_go mixed D [] (es_nil pubB fsB fvB B _) Paid.nil rfl (.cons _ _ _ _ _ h (.cons _ _ _ _ _ gB' (.cons _ _ _ _ _ hC (.nil _)))) (by show noW (B :: _) = true; rw [noW_c wB]; rfl)
  · obtain ⟨B, wB, gB'⟩ := some_way 1 hb
    exact law_of_go mixed D [] (es_emp pubB fsB fvB B _) Paid.nil rfl (.cons _ _ _ _ _ h (.cons _ _ _ _ _ gB' (.cons _ _ _ _ _ hC (.nil _)))) (by show noW (B :: _) = true; rw [noW_c wB]; rfl)
  · have e : ((n : Int) != 32) = true := by simpa using h2
    rcases three_ways 1 hb with g | g | ⟨m, p, hm, g⟩
    · exact law_of_go mixed D [true] (es_bnil pubB fsB fvB n l _) (by rw [e]; exact paid_cons (decide_eq_true h1) (paid_append.2 ⟨gP_paid, paid_cons rfl Paid.nil⟩)) rfl (.cons _ _ _ _ _ h (.cons _ _ _ _ _ g (.cons _ _ _ _ _ hC (.nil _))))
    · exact law_of_go mixed D [true] (es_bemp pubB fsB fvB n l _) (by rw [e]; exact paid_cons (decide_eq_true h1) (paid_append.2 ⟨gP_paid, paid_cons rfl Paid.nil⟩)) rfl (.cons _ _ _ _ _ h (.cons _ _ _ _ _ g (.cons _ _ _ _ _ hC (.nil _))))
    · exact law_of_go mixed D [true] (es_bbuf pubB fsB fvB n l m p _) (by rw [e]; exact paid_cons (decide_eq_true h1) (paid_append.2 ⟨gB_paid hm, paid_cons rfl Paid.nil⟩)) rfl (.cons _ _ _ _ _ h (.cons _ _ _ _ _ g (.cons _ _ _ _ _ hC (.nil _))))
  · have z := fun M => es_ok (sgF M) s
    have k := fun M => (decide_eq_true rfl : decide (fsB M s = fsB M s) = true)
    have v := fun M => (by unfold fvB fsB; rw [(z M).2]; rfl : (verE (fvB M (pubB s) (esB (fsB M s))) == 6) = true)
    rcases three_ways 1 hb with g | g | ⟨m, p, hm, g⟩
    · exact law_of_go mixed D [] (es_onil pubB fsB fvB s c) (esO0_ok (k _) (z _).1 (v _) c) rfl (.cons _ _ _ _ _ h (.cons _ _ _ _ _ g (.cons _ _ _ _ _ hC (.nil _))))
    · exact law_of_go mixed D [] (es_oemp pubB fsB fvB s c) (esO0_ok (k _) (z _).1 (v _) c) rfl (.cons _ _ _ _ _ h (.cons _ _ _ _ _ g (.cons _ _ _ _ _ hC (.nil _))))
    · by_cases hl : (m : Int) > 200
      · exact law_of_go mixed D [true] (es_long pubB fsB fvB s m p _) (paid_cons (decide_eq_true hm) (paid_cons (decide_eq_true hl) Paid.nil)) rfl (.cons _ _ _ _ _ h (.cons _ _ _ _ _ g (.cons _ _ _ _ _ hC (.nil _))))
      · exact law_of_go mixed D [false] (es_obuf pubB fsB fvB s m p c) (esOn_ok (k _) (z _).1 (v _) c hm hl) rfl (.cons _ _ _ _ _ h (.cons _ _ _ _ _ g (.cons _ _ _ _ _ hC (.nil _))))

theorem edwardsShifts_lifted (os : Os) (started : os.Started) (H : Type) (enc : TypeId × Value → H) :
    ReturnsInHanded {} Tryd.checked os 5 .any (fun w args => (Rows.edwardsShiftsSpec.pre enc Tryd.prog Tryd.f5 Rows.edwardsShiftsRow.domain false w args ∧ laidMetH Tryd.prog Rows.edwardsBackRow.laid w) ∧ sizedMet enc Tryd.prog Tryd.f5 (OpenSpec.ofChange Rows.edwardsShiftsSpec) false w args)
      (Rows.edwardsShiftsSpec.post enc Tryd.prog Tryd.f5 false true false false) := by
  refine returnsInHanded_of_change_and (C := Tryd.checked) (X := fun w _ => laidMetH Tryd.prog Rows.edwardsBackRow.laid w) (fun _ _ _ hh h => h.of_heap hh) own started (by kernel_rfl) Tryd.func5
    (ChangeSpec.witness_shaped (enc := enc) (C := Tryd.checked) (os := os) (X := fun w _ => laidMetH Tryd.prog Rows.edwardsBackRow.laid w) false (World.laidAll Tryd.prog os Rows.edwardsBackRow.laid) #[.slice none 0 0, .slice none 0 0, .int .i64 0] 8 (World.laidAll_os _ _ _)
      (World.shaped_of_ZipB (by kernel_rfl) (by kernel_rfl)) (by kernel_rfl) (by kernel_rfl) (by kernel_rfl)
      (by rw [MakeChecks.laidMetH_plain _ _ _ (by kernel_rfl)]; exact laidMet_laidAll _ (by kernel_rfl) (by kernel_rfl))) ?_
  intro W base args ds gs before hval0 hW _ hsz hL _
  have hT : TRep W := trep_of hL
  have hval : ∀ (j : Nat) t v, Tryd.f5.params[j]? = some t → args[j]? = some v → Value.okWide Tryd.prog W .any base t v := hval0
  have hW' := hW
  obtain ⟨p, q, hA0, hV, rfl, hfz, hnd⟩ := hW
  have hA : DataW.TrodAll enc Tryd.prog W 0 (fun _ => true) true Tryd.f5.params.toList args.toList ds p := hA0
  rw [Tryd.params5] at hA hval
  obtain ⟨v0, v1, v2, d0, d1, d2, p0, p1, p2, hargs, rfl, rfl, g0, g1, g2⟩ := trodAll_three hA
  have hargs' : args = #[v0, v1, v2] := by simpa using hargs
  subst hargs'
  obtain ⟨rfl, rfl⟩ := trodVars_none hV
  have hv0 := nums_open Tryd.underlying22 Tryd.underlying5 (by kernel_rfl) (hval 0 _ v0 rfl rfl) g0
  have hv1 := nums_open Tryd.underlying22 Tryd.underlying5 (by kernel_rfl) (hval 1 _ v1 rfl rfl) g1
  obtain ⟨x2, rfl, rfl, rfl, w2⟩ := open_int Tryd.underlying3 (hval 2 _ v2 rfl rfl) g2
  refine (edwardsShifts_calls W hT hv0 hv1 (wf_inR' w2)).mono fun e W' ⟨he, hb⟩ => ?_
  exact ⟨_, he, post_of_law laidOut (by rw [Tryd.params5]; decide +kernel) hW' rfl rfl Tryd.underlying4 rfl rfl rfl hb⟩

theorem edwardsShifts_holds : Rows.EdwardsShiftsSaid :=
  OpenClaim.holds_of_wide 5 Tryd.f5 rfl rfl rfl rfl rfl rfl rfl ⟨rfl, rfl, rfl, rfl, rfl⟩ rfl rfl rfl rfl rfl (by kernel_rfl) Tryd.func5 (by kernel_rfl)
    (of_decide_eq_true (by kernel_rfl)) (by unfold Func.isWrapper; first | (rw [if_pos (by decide +kernel)]; kernel_rfl) | (rw [if_neg (by decide +kernel)]; exact ⟨rfl, rfl⟩))
    (fun os started H enc _ => edwardsShifts_lifted os started H enc)
theorem edwardsShifts_card_holds : Rows.EdwardsShiftsCardSaid :=
  Claim7.holds_tied_plain_at .later [] [.data, .data, .data, .data, .data, .data, .data, .data, .data] true (true, "4b3a3cee4f6664808991661bd1cf6d8c674ef379aed7c07be62c501b5e5ea160") false edwardsShifts_holds (fun _ h => by cases h) (by kernel_rfl) (fun _ h => by cases h) edwardsShifts_row_tie rfl ⟨rfl, rfl⟩ (by kernel_rfl) rfl
    (fun f fn hf hfn => by
      obtain rfl : f = 5 := Option.some.inj (hf.symm.trans (by kernel_rfl))
      obtain rfl : fn = Tryd.f5 := (Option.some.inj (Tryd.func5.symm.trans hfn)).symm
      exact ⟨by kernel_rfl, fun j t ht => by
        rw [Tryd.params5] at ht
        have hm : t ∈ [22, 22, 3] := by simpa using Array.mem_of_getElem? ht
        have hall : ([22, 22, 3].all fun u => !Tryd.prog.wantsStandIn u) = true := by kernel_rfl
        exact (show Tryd.prog.wantsStandIn t = false by simpa using List.all_eq_true.1 hall t hm)⟩)
    (by kernel_rfl)
end Go.Proofs.YthelmpjkkkhopaaDoor
