/- Numbers that are alike modulo the prime are one point; of 0 nothing comes: for all bytes and numbers the law answers true. No condition. -/
import Derived.Test.YthddlnldjbijmaaDoorSMoCl
set_option linter.unusedSimpArgs false
set_option linter.unusedVariables false
set_option linter.unusedSectionVars false
namespace Go.Proofs.YthddlnldjbijmaaDoor
open Go.Ev Go.Wn Go.Mo
open Go.ChangeShapes Go.WideShapes Go.ChangeAt Go.RowKit
set_option maxRecDepth 100000
def nE (n : Int) : Int := (IntKind.i64.wrap (n.tmod 19 + 19)).tmod 19
def uE (n : Int) : List Int := one8 (IntKind.u8.wrap (nE n))
def vE (n : Int) : List Int := [IntKind.u8.wrap (IntKind.i64.wrap (237 + nE n)), 255, 255, 255, 255, 255, 255, 255, 255, 255, 255, 255, 255, 255, 255, 255, 255, 255, 255, 255, 255, 255, 255, 255, 255, 255, 255, 255, 255, 255, 255, 127]
def edE (k : List Int) (n : Int) : Bool := decide (mulB k (uE n) = mulB k (vE n))
def edO (E N : Bool) : List Bool := [E, E, E, N, N, N, N, N, E]
def qE (f : FuncId) : Bool := !([70, 71, 72, 73, 74].any fun d => Nat.beq f (2000000000 + d))
theorem nE_range (n : Int) (h : inR .i64 n = true) : 0 ≤ nE n ∧ nE n < 19 := by
  rw [inR_iff] at h
  simp only [lo, hi] at h
  have h1 : n.tmod 19 < 19 ∧ -19 < n.tmod 19 := ⟨Int.tmod_lt_of_pos _ (by decide), by have := Int.lt_tmod_of_pos n (show (0 : Int) < 19 by decide); omega⟩
  have h2 := w64_id (x := n.tmod 19 + 19) (by omega)
  unfold w64 at h2
  unfold nE
  rw [h2, Int.tmod_eq_emod_of_nonneg (by omega)]
  omega
theorem ed_words {n : Int} (h : 0 ≤ nE n ∧ nE n < 19) : okb (uE n) ∧ okb (vE n) ∧ ph (upI (leI (uE n))) = ph (upI (leI (vE n))) ∧ (nE n = 0 → ph (upI (leI (uE n))) = 0) := by
  unfold uE vE
  generalize nE n = x at *
  have e1 : IntKind.u8.wrap x = x := u8w (by omega)
  have e2 : IntKind.u8.wrap (IntKind.i64.wrap (237 + x)) = 237 + x := by
    have := w64_id (x := 237 + x) (by omega)
    unfold w64 at this
    rw [this, u8w (by omega)]
  have hb : ∀ x : Int, 0 ≤ x ∧ x < 256 → inR .u8 x = true := fun x hx => by rw [inR_iff]; simp only [lo, hi]; omega
  rw [e1, e2]
  refine ⟨⟨rfl, ?_⟩, ⟨rfl, ?_⟩, ?_, fun h0 => ?_⟩
  · unfold one8
    simp only [List.forall_mem_cons, List.not_mem_nil, false_implies, implies_true, and_true]
    exact ⟨hb _ (by omega), by decide, by decide, by decide, by decide, by decide, by decide, by decide, by decide, by decide, by decide, by decide, by decide, by decide, by decide, by decide, by decide, by decide, by decide, by decide, by decide, by decide, by decide, by decide, by decide, by decide, by decide, by decide, by decide, by decide, by decide, by decide⟩
  · simp only [List.forall_mem_cons, List.not_mem_nil, false_implies, implies_true, and_true]
    exact ⟨hb _ (by omega), by decide, by decide, by decide, by decide, by decide, by decide, by decide, by decide, by decide, by decide, by decide, by decide, by decide, by decide, by decide, by decide, by decide, by decide, by decide, by decide, by decide, by decide, by decide, by decide, by decide, by decide, by decide, by decide, by decide, by decide, by decide⟩
  · have a1 : upI (leI (one8 x)) = x := by
      unfold upI leI litL one8 W8 val
      simp only [List.getD_cons_zero, List.getD_cons_succ]
      omega
    have a2 : upI (leI [237 + x, 255, 255, 255, 255, 255, 255, 255, 255, 255, 255, 255, 255, 255, 255, 255, 255, 255, 255, 255, 255, 255, 255, 255, 255, 255, 255, 255, 255, 255, 255, 127]) = 57896044618658097711785492504343953926634992332820282019728792003956564819949 + x := by
      unfold upI leI litL W8 val
      simp only [List.getD_cons_zero, List.getD_cons_succ]
      omega
    rw [a1, a2]
    refine ph_ext ?_
    have hp : (P25 : Int) = 57896044618658097711785492504343953926634992332820282019728792003956564819949 := by decide +kernel
    rw [hp]
    omega
  · subst h0
    decide +kernel
theorem ed_same {k : List Int} {n : Int} (hk : okb k) (h : 0 ≤ nE n ∧ nE n < 19) : mulB k (uE n) = mulB k (vE n) := by
  obtain ⟨c1, c2, c3, _⟩ := ed_words h
  obtain ⟨N, e1, n1, _, _⟩ := cl_nat hk
  rw [mulB_val hk c1, mulB_val hk c2, e1, res_alike n1 up_ok up_ok c3]
theorem turned_zero : turnedL (limbs 0) = zer := by decide +kernel
theorem ed_zero {k : List Int} {n : Int} (hk : okb k) (h : 0 ≤ nE n ∧ nE n < 19) (h0 : nE n = 0) : mulB k (uE n) = zer := by
  obtain ⟨c1, _, _, c4⟩ := ed_words h
  rw [mulB_val hk c1, res_zero _ up_ok (c4 h0), turned_zero]
theorem ed_nil (n : Int) : res ((funcA Tryd.prog qAs (deep Tryd.prog qn hl9 100 5) 200 7 (cArgs 0 [.pl .nilslice, .pl (.int true .i64 n)]) (cMem [.pl .nilslice, .pl (.int true .i64 n)])).go []) = some ([], .bool false true) := by kernel_rfl
theorem ed_emp (n : Int) : res ((funcA Tryd.prog qAs (deep Tryd.prog qn hl9 100 5) 200 7 (cArgs 0 [.empty, .pl (.int true .i64 n)]) (cMem [.empty, .pl (.int true .i64 n)])).go []) = some ([], .bool false true) := by kernel_rfl
theorem ed_buf (m : Nat) (l : List Int) (n : Int) : res ((funcA Tryd.prog qAs (deep Tryd.prog qn hl9 100 5) 200 7 (cArgs 0 [.buf true .u8 m l, .pl (.int true .i64 n)]) (cMem [.buf true .u8 m l, .pl (.int true .i64 n)])).go [true]) = some ([decide (m < 9223372036854775808), (m : Int) != 32], .bool false true) := by kernel_rfl
theorem ed_pos (k : List Int) (n : Int) : res ((funcA Tryd.prog qE (deep Tryd.prog qn hl9 100 5) 200 7 (cArgs 0 [.buf false .u8 32 k, .pl (.int true .i64 n)]) (cMem [.buf false .u8 32 k, .pl (.int true .i64 n)])).go []) = some (edO (edE k n) (!!decide (nE n > 0)) ++ [decide (nE n > 0), edE k n], .bool false true) := by kernel_rfl
theorem ed_zer (k : List Int) (n : Int) : res ((funcA Tryd.prog qAs (deep Tryd.prog qn hl9 100 5) 200 7 (cArgs 0 [.buf false .u8 32 k, .pl (.int true .i64 n)]) (cMem [.buf false .u8 32 k, .pl (.int true .i64 n)])).go []) = some (edO (edE k n) (!decide (nE n > 0)) ++ [!decide (nE n > 0), edE k n], .bool true (decide (mulB k (uE n) = zer))) := by kernel_rfl
theorem montyEdges_calls {va : Value} {n : Int} (W : World) (hT : TRep W) (ha : (va = .slice none 0 0 ∨ ∃ (a : Addr) (len cap : Nat) (zs : List Int), va = .slice (some a) len cap ∧ len ≤ cap ∧ cap ≤ maxLen ∧ zs.length = cap ∧ (∀ i, i < zs.length → W.cell? (a.add i) = some (.int .u8 (zs.getD i 0))) ∧ ∀ n ∈ zs, inR .u8 n = true)) (hn : inR .i64 n = true) :
    Calls Tryd.prog 7 #[va, .int .i64 n] W (fun e w' => e = .returned (.bool true) ∧ Below W.heap.size W w') := by
  have D := hl9_ok.deep (q := qn) mixed noCount 100 5
  have g : ∃ L, VOk W 1 L (.pl (.int true .i64 n)) (.int .i64 n) := VOk.plain fun ρ N => .int true _ _ hn
  rcases four_ways 0 ha with h | h | ⟨m, l, h1, h2, h⟩ | ⟨k, ok, h⟩
  · exact law_of_go mixed D [] (ed_nil n) Paid.nil rfl (.cons _ _ _ _ _ h (.cons _ _ _ _ _ g (.nil _)))
  · exact law_of_go mixed D [] (ed_emp n) Paid.nil rfl (.cons _ _ _ _ _ h (.cons _ _ _ _ _ g (.nil _)))
  · have e : ((m : Int) != 32) = true := by simpa using h2
    exact law_of_go mixed D [true] (ed_buf m l n) (paid_cons (decide_eq_true h1) (paid_cons e Paid.nil)) rfl (.cons _ _ _ _ _ h (.cons _ _ _ _ _ g (.nil _)))
  · have hr := nE_range n hn
    have e : edE k n = true := decide_eq_true (ed_same ok hr)
    have eo : ∀ t, t = true → Paid (edO true t) := fun t ht => by
      subst ht
      exact paid_cons rfl (paid_cons rfl (paid_cons rfl (paid_cons rfl (paid_cons rfl (paid_cons rfl (paid_cons rfl (paid_cons rfl (paid_cons rfl Paid.nil))))))))
    by_cases hz : nE n > 0
    · have ev := ed_pos k n
      rw [e] at ev
      exact law_of_go mixed D [] ev (paid_append.2 ⟨eo _ (by rw [decide_eq_true hz]; rfl), paid_cons (decide_eq_true hz) (paid_cons rfl Paid.nil)⟩) rfl (.cons _ _ _ _ _ h (.cons _ _ _ _ _ g (.nil _)))
    · have ev := ed_zer k n
      rw [e] at ev
      exact law_of_go mixed D [] ev (paid_append.2 ⟨eo _ (by rw [decide_eq_false hz]; rfl), paid_cons (by rw [decide_eq_false hz]; rfl) (paid_cons rfl Paid.nil)⟩) (decide_eq_true (ed_zero ok hr (by omega))) (.cons _ _ _ _ _ h (.cons _ _ _ _ _ g (.nil _)))

theorem montyEdges_lifted (os : Os) (started : os.Started) (H : Type) (enc : TypeId × Value → H) :
    ReturnsInHanded {} Tryd.checked os 7 .any (fun w args => (Rows.montyEdgesSpec.pre enc Tryd.prog Tryd.f7 Rows.montyEdgesRow.domain false w args ∧ laidMetH Tryd.prog Rows.montyEdgesRow.laid w) ∧ sizedMet enc Tryd.prog Tryd.f7 (OpenSpec.ofChange Rows.montyEdgesSpec) false w args)
      (Rows.montyEdgesSpec.post enc Tryd.prog Tryd.f7 false true false false) := by
  refine returnsInHanded_of_change_and (C := Tryd.checked) (X := fun w _ => laidMetH Tryd.prog Rows.montyEdgesRow.laid w) (fun _ _ _ hh h => h.of_heap hh) own started (by kernel_rfl) Tryd.func7
    (ChangeSpec.witness_shaped (enc := enc) (C := Tryd.checked) (os := os) (X := fun w _ => laidMetH Tryd.prog Rows.montyEdgesRow.laid w) false (World.laidAll Tryd.prog os Rows.montyEdgesRow.laid) #[.slice none 0 0, .int .i64 0] 8 (World.laidAll_os _ _ _)
      (World.shaped_of_ZipB (by kernel_rfl) (by kernel_rfl)) (by kernel_rfl) (by kernel_rfl) (by kernel_rfl)
      (by rw [MakeChecks.laidMetH_plain _ _ _ (by kernel_rfl)]; exact laidMet_laidAll _ (by kernel_rfl) (by kernel_rfl))) ?_
  intro W base args ds gs before hval0 hW _ hsz hL _
  have hT : TRep W := trep_of hL
  have hval : ∀ (j : Nat) t v, Tryd.f7.params[j]? = some t → args[j]? = some v → Value.okWide Tryd.prog W .any base t v := hval0
  have hW' := hW
  obtain ⟨p, q, hA0, hV, rfl, hfz, hnd⟩ := hW
  have hA : DataW.TrodAll enc Tryd.prog W 0 (fun _ => true) true Tryd.f7.params.toList args.toList ds p := hA0
  rw [Tryd.params7] at hA hval
  obtain ⟨v0, v1, d0, d1, p0, p1, hargs, rfl, rfl, g0, g1⟩ := trodAll_two hA
  have hargs' : args = #[v0, v1] := by simpa using hargs
  subst hargs'
  obtain ⟨rfl, rfl⟩ := trodVars_none hV
  have hv0 := nums_open Tryd.underlying22 Tryd.underlying5 (by kernel_rfl) (hval 0 _ v0 rfl rfl) g0
  obtain ⟨x1, rfl, rfl, rfl, w1⟩ := open_int Tryd.underlying3 (hval 1 _ v1 rfl rfl) g1
  refine (montyEdges_calls W hT hv0 (wf_inR' w1)).mono fun e W' ⟨he, hb⟩ => ?_
  exact ⟨_, he, post_of_law laidOut (by rw [Tryd.params7]; decide +kernel) hW' rfl rfl Tryd.underlying4 rfl rfl rfl hb⟩

theorem montyEdges_holds : Rows.MontyEdgesSaid :=
  OpenClaim.holds_of_wide 7 Tryd.f7 rfl rfl rfl rfl rfl rfl rfl ⟨rfl, rfl, rfl, rfl, rfl⟩ rfl rfl rfl rfl rfl (by kernel_rfl) Tryd.func7 (by kernel_rfl)
    (of_decide_eq_true (by kernel_rfl)) (by unfold Func.isWrapper; first | (rw [if_pos (by decide +kernel)]; kernel_rfl) | (rw [if_neg (by decide +kernel)]; exact ⟨rfl, rfl⟩))
    (fun os started H enc _ => montyEdges_lifted os started H enc)
theorem montyEdges_card_holds : Rows.MontyEdgesCardSaid :=
  Claim7.holds_tied_plain_at .later [] [.data] true (true, "3a745010d6eb0f352dc2f4fabe89269b797367cebd2582267ae2147497439cd0") false montyEdges_holds (fun _ h => by cases h) (by kernel_rfl) (fun _ h => by cases h) montyEdges_row_tie rfl ⟨rfl, rfl⟩ (by kernel_rfl) rfl
    (fun f fn hf hfn => by
      obtain rfl : f = 7 := Option.some.inj (hf.symm.trans (by kernel_rfl))
      obtain rfl : fn = Tryd.f7 := (Option.some.inj (Tryd.func7.symm.trans hfn)).symm
      exact ⟨by kernel_rfl, fun j t ht => by
        rw [Tryd.params7] at ht
        have hm : t ∈ [22, 3] := by simpa using Array.mem_of_getElem? ht
        have hall : ([22, 3].all fun u => !Tryd.prog.wantsStandIn u) = true := by kernel_rfl
        exact (show Tryd.prog.wantsStandIn t = false by simpa using List.all_eq_true.1 hall t hm)⟩)
    (by kernel_rfl)
end Go.Proofs.YthddlnldjbijmaaDoor
