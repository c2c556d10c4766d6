/- Pairs of numbers lie on the curve, or not, as the document has it: for all pairs of numbers, and the point at infinity, the law answers true. No condition. -/
import Derived.Test.YtapficdphhfpnaaDoorSWpL
set_option linter.unusedSimpArgs false
set_option linter.unusedVariables false
set_option linter.unusedSectionVars false
namespace Go.Proofs.YtapficdphhfpnaaDoor
open Go.Ev Go.Wn Go.We
open Go.ChangeShapes Go.WideShapes Go.ChangeAt Go.RowKit
set_option maxRecDepth 100000
def qz1 (f : FuncId) : Bool := !([2000000018, 2000000019, 2000000020, 4000000021].any fun d => Nat.beq f d)
def woP (x y : Int) (b : Bool) : Bool := onB ⟨vl x, vl y, b⟩
theorem wo_t (x y : Int) (b : Bool) : res ((funcA Tryd.prog qAs (deep Tryd.prog qn hq9 100 5) 200 5 (cArgs 0 [.pl (.ints .u64 4 (limbs x)), .pl (.ints .u64 4 (limbs y)), .pl (.bool true b)]) (cMem [.pl (.ints .u64 4 (limbs x)), .pl (.ints .u64 4 (limbs y)), .pl (.bool true b)])).go [true]) = some (b :: (List.replicate 4 (zB x) ++ List.replicate 5 (woP x y b == zB y)), .bool false true) := by kernel_rfl
theorem wo_z (x y : Int) (b : Bool) : res ((funcA Tryd.prog qz1 (deep Tryd.prog qn hq9 100 5) 200 5 (cArgs 0 [.pl (.ints .u64 4 (limbs x)), .pl (.ints .u64 4 (limbs y)), .pl (.bool true b)]) (cMem [.pl (.ints .u64 4 (limbs x)), .pl (.ints .u64 4 (limbs y)), .pl (.bool true b)])).go [true]) = some (b :: (List.replicate 4 (!zB x) ++ List.replicate 5 (woP x y b == false)), .bool false true) := by kernel_rfl
theorem wo_f (x y : Int) (b : Bool) : res ((funcA Tryd.prog qAs (deep Tryd.prog qn hq9 100 5) 200 5 (cArgs 0 [.pl (.ints .u64 4 (limbs x)), .pl (.ints .u64 4 (limbs y)), .pl (.bool true b)]) (cMem [.pl (.ints .u64 4 (limbs x)), .pl (.ints .u64 4 (limbs y)), .pl (.bool true b)])).go [false]) = some ((!b) :: List.replicate 5 (woP x y b == rOn (vl x) (vl y)), .bool false true) := by kernel_rfl
theorem weierOn_calls {m n : List Int} {b : Bool} (W : World) (hT : TRep W) (hm : m.length = 4) (rm : ∀ x ∈ m, inR .u64 x = true) (hn : n.length = 4) (rn : ∀ x ∈ n, inR .u64 x = true) :
    Calls Tryd.prog 5 #[.agg (m.map (Value.int .u64)).toArray, .agg (n.map (Value.int .u64)).toArray, .bool b] W (fun e w' => e = .returned (.bool true) ∧ Below W.heap.size W w') := by
  have D := hq9_ok.deep (q := qn) mixed noCount 100 5
  obtain ⟨M, eM, lM, sM⟩ := mu_of hm rm
  obtain ⟨N, eN, lN, sN⟩ := mu_of hn rn
  have hv : VOks W 0 [.pl (.ints .u64 4 m), .pl (.ints .u64 4 n), .pl (.bool true b)] [.agg (m.map (Value.int .u64)).toArray, .agg (n.map (Value.int .u64)).toArray, .bool b] :=
    .cons _ _ _ _ _ (VOk.plain fun ρ N => .ints .u64 4 _ hm rm) (.cons _ _ _ _ _ (VOk.plain fun ρ N => .ints .u64 4 _ hn rn) (.cons _ _ _ _ _ (VOk.plain fun ρ N => .bool _ _) (.nil _)))
  have kx : ok6 (val m) := by rw [eM]; unfold ok6 M6; omega
  have ky : ok6 (val n) := by rw [eN]; unfold ok6 M6; omega
  generalize val m = x at *
  generalize val n = y at *
  rw [← sM, ← sN] at hv
  subst sM sN
  have zx := zB_eq kx
  have zy := zB_eq ky
  have vx := vl_ok kx
  have vy := vl_ok ky
  cases b with
  | true =>
    have hw : woP x y true = (decide (x = 0) && decide (y = 0)) := by unfold woP; rw [vx, vy]; rfl
    by_cases h0 : x = 0
    · have hd : (woP x y true == zB y) = true := by rw [hw, zy, decide_eq_true h0, Bool.true_and]; exact beq_self_eq_true _
      exact law_of_go mixed D [true] (wo_t x y true) (paid_cons rfl (paid_append.2 ⟨rep_paid (by rw [zx]; exact decide_eq_true h0) 4, rep_paid hd 5⟩)) rfl hv
    · have hd : (woP x y true == false) = true := by rw [hw, decide_eq_false h0, Bool.false_and]; rfl
      exact law_of_go mixed D [true] (wo_z x y true) (paid_cons rfl (paid_append.2 ⟨rep_paid (by rw [zx, decide_eq_false h0]; rfl) 4, rep_paid hd 5⟩)) rfl hv
  | false =>
    have hd : (woP x y false == rOn (vl x) (vl y)) = true := by
      unfold woP
      rw [vx, vy, on_same kx ky]
      exact beq_self_eq_true _
    exact law_of_go mixed D [false] (wo_f x y false) (paid_cons rfl (rep_paid hd 5)) rfl hv

theorem weierOn_lifted (os : Os) (started : os.Started) (H : Type) (enc : TypeId × Value → H) :
    ReturnsInHanded {} Tryd.checked os 5 .any (fun w args => (Rows.weierOnSpec.pre enc Tryd.prog Tryd.f5 Rows.weierOnRow.domain false w args ∧ laidMetH Tryd.prog Rows.weierLawsRow.laid w) ∧ sizedMet enc Tryd.prog Tryd.f5 (OpenSpec.ofChange Rows.weierOnSpec) false w args)
      (Rows.weierOnSpec.post enc Tryd.prog Tryd.f5 false true false false) := by
  refine returnsInHanded_of_change_and (C := Tryd.checked) (X := fun w _ => laidMetH Tryd.prog Rows.weierLawsRow.laid w) (fun _ _ _ hh h => h.of_heap hh) own started (by kernel_rfl) Tryd.func5
    (ChangeSpec.witness_shaped (enc := enc) (C := Tryd.checked) (os := os) (X := fun w _ => laidMetH Tryd.prog Rows.weierLawsRow.laid w) false (World.laidAll Tryd.prog os Rows.weierLawsRow.laid) #[.agg #[.int .u64 0, .int .u64 0, .int .u64 0, .int .u64 0], .agg #[.int .u64 0, .int .u64 0, .int .u64 0, .int .u64 0], .bool false] 8 (World.laidAll_os _ _ _)
      (World.shaped_of_ZipB (by kernel_rfl) (by kernel_rfl)) (by kernel_rfl) (by kernel_rfl) (by kernel_rfl)
      (by rw [MakeChecks.laidMetH_plain _ _ _ (by kernel_rfl)]; exact laidMet_laidAll _ (by kernel_rfl) (by kernel_rfl))) ?_
  intro W base args ds gs before hval0 hW _ hsz hL _
  have hT : TRep W := trep_of hL
  have hval : ∀ (j : Nat) t v, Tryd.f5.params[j]? = some t → args[j]? = some v → Value.okWide Tryd.prog W .any base t v := hval0
  have hW' := hW
  obtain ⟨p, q, hA0, hV, rfl, hfz, hnd⟩ := hW
  have hA : DataW.TrodAll enc Tryd.prog W 0 (fun _ => true) true Tryd.f5.params.toList args.toList ds p := hA0
  rw [Tryd.params5] at hA hval
  obtain ⟨v0, v1, v2, d0, d1, d2, p0, p1, p2, hargs, rfl, rfl, g0, g1, g2⟩ := trodAll_three hA
  have hargs' : args = #[v0, v1, v2] := by simpa using hargs
  subst hargs'
  obtain ⟨rfl, rfl⟩ := trodVars_none hV
  obtain ⟨l0, k0, rfl, r0⟩ := arr_rep Tryd.underlying24 (n := 4) (by kernel_rfl) (show Tryd.prog.cellTypes Tryd.prog.depth 24 = some (List.replicate 4 22) by kernel_rfl) (e := 22) (by intro x hx; exact List.eq_of_mem_replicate hx) Tryd.underlying22 (hval 0 _ v0 rfl rfl)
  obtain ⟨l1, k1, rfl, r1⟩ := arr_rep Tryd.underlying24 (n := 4) (by kernel_rfl) (show Tryd.prog.cellTypes Tryd.prog.depth 24 = some (List.replicate 4 22) by kernel_rfl) (e := 22) (by intro x hx; exact List.eq_of_mem_replicate hx) Tryd.underlying22 (hval 1 _ v1 rfl rfl)
  obtain ⟨x2, rfl, rfl, rfl⟩ := open_bool Tryd.underlying4 (hval 2 _ v2 rfl rfl) g2
  refine (weierOn_calls (b := x2) W hT k0 r0 k1 r1).mono fun e W' ⟨he, hb⟩ => ?_
  exact ⟨_, he, post_of_law laidOut (by rw [Tryd.params5]; decide +kernel) hW' rfl rfl Tryd.underlying4 rfl rfl rfl hb⟩

theorem weierOn_holds : Rows.WeierOnSaid :=
  OpenClaim.holds_of_wide 5 Tryd.f5 rfl rfl rfl rfl rfl rfl rfl ⟨rfl, rfl, rfl, rfl, rfl⟩ rfl rfl rfl rfl rfl (by kernel_rfl) Tryd.func5 (by kernel_rfl)
    (of_decide_eq_true (by kernel_rfl)) (by unfold Func.isWrapper; first | (rw [if_pos (by decide +kernel)]; kernel_rfl) | (rw [if_neg (by decide +kernel)]; exact ⟨rfl, rfl⟩))
    (fun os started H enc _ => weierOn_lifted os started H enc)
theorem weierOn_card_holds : Rows.WeierOnCardSaid :=
  Claim7.holds_tied_plain_at .later [] [.data, .data, .data, .data] true (true, "e54579148be440fa4486c4a898dc0a79d88a36e02d4ee253cc2847c36b208d9d") false weierOn_holds (fun _ h => by cases h) (by kernel_rfl) (fun _ h => by cases h) weierOn_row_tie rfl ⟨rfl, rfl⟩ (by kernel_rfl) rfl
    (fun f fn hf hfn => by
      obtain rfl : f = 5 := Option.some.inj (hf.symm.trans (by kernel_rfl))
      obtain rfl : fn = Tryd.f5 := (Option.some.inj (Tryd.func5.symm.trans hfn)).symm
      exact ⟨by kernel_rfl, fun j t ht => by
        rw [Tryd.params5] at ht
        have hm : t ∈ [24, 24, 4] := by simpa using Array.mem_of_getElem? ht
        have hall : ([24, 24, 4].all fun u => !Tryd.prog.wantsStandIn u) = true := by kernel_rfl
        exact (show Tryd.prog.wantsStandIn t = false by simpa using List.all_eq_true.1 hall t hm)⟩)
    (by kernel_rfl)
end Go.Proofs.YtapficdphhfpnaaDoor
