/- The base is taken as often by itself as the document has it, and sums are of multiples: for all two numbers the law answers true. No condition. -/
import Derived.Test.YtapficdphhfpnaaDoorSWpL
set_option linter.unusedSimpArgs false
set_option linter.unusedVariables false
set_option linter.unusedSectionVars false
namespace Go.Proofs.YtapficdphhfpnaaDoor
open Go.Ev Go.Wn Go.We
open Go.ChangeShapes Go.WideShapes Go.ChangeAt Go.RowKit
set_option maxRecDepth 100000
def rr (n : List Int) : J3 := j3V (j3L (rB n))
def wmX (n : List Int) : Bool := eqP (xB n) (jXY (rr n))
def wmS (m n : List Int) : Pt := addP (rd (xB m)) (rd (xB n))
def wmR (m n : List Int) : J3 := j3V (j3L (jPl (rr m) (rr n)))
def wmO (m n : List Int) : List Bool := [true, true, jIn (rr m)] ++ List.replicate 3 (wmX m) ++ [jIn (rr n)] ++ List.replicate 2 (wmX m) ++ List.replicate 7 (wmX n) ++ [jIn (wmR m n)] ++ List.replicate 2 (wmX n) ++ List.replicate 3 (eqP (wmS m n) (jXY (wmR m n))) ++ List.replicate 5 (onB (rd (xB m)))
theorem wm_eval (m n : List Int) : res ((funcA Tryd.prog qAs (deep Tryd.prog qn hq9 100 5) 200 3 (cArgs 0 [.pl (.ints .u64 4 m), .pl (.ints .u64 4 n)]) (cMem [.pl (.ints .u64 4 m), .pl (.ints .u64 4 n)])).go []) = some (wmO m n, .bool true (onB (rd (wmS m n)))) := by kernel_rfl
theorem weierMults_calls {m n : List Int} (W : World) (hT : TRep W) (hm : m.length = 4) (rm : ∀ x ∈ m, inR .u64 x = true) (hn : n.length = 4) (rn : ∀ x ∈ n, inR .u64 x = true) :
    Calls Tryd.prog 3 #[.agg (m.map (Value.int .u64)).toArray, .agg (n.map (Value.int .u64)).toArray] W (fun e w' => e = .returned (.bool true) ∧ Below W.heap.size W w') := by
  have D := hq9_ok.deep (q := qn) mixed noCount 100 5
  obtain ⟨M, eM, lM, _⟩ := mu_of hm rm
  obtain ⟨N, eN, lN, _⟩ := mu_of hn rn
  obtain ⟨m1, m2⟩ := j3_R (rB_R eM lM)
  obtain ⟨n1, n2⟩ := j3_R (rB_R eN lN)
  have xm := xB_Q eM lM
  have xn := xB_Q eN lN
  have em : wmX m = true := by unfold wmX rr; rw [m1]; exact eqP_of (xm.trans (jXY_R (rB_R eM lM)).symm)
  have en : wmX n = true := by unfold wmX rr; rw [n1]; exact eqP_of (xn.trans (jXY_R (rB_R eN lN)).symm)
  have hS : wmS m n = ofQ (c6.add (c6.mul M g6) (c6.mul N g6)) := by unfold wmS; rw [xm, xn, rdQ, rdQ]; exact addP_Q (mu_on M) (mu_on N)
  have hR : (jPl (rr m) (rr n)).R (c6.add (c6.mul M g6) (c6.mul N g6)) := by unfold rr; rw [m1, n1]; exact jPl_R (mu_on M) (mu_on N) (rB_R eM lM) (rB_R eN lN)
  obtain ⟨r1, r2⟩ := j3_R hR
  have er : eqP (wmS m n) (jXY (wmR m n)) = true := by unfold wmR; rw [r1, jXY_R hR]; exact eqP_of hS
  have i1 : jIn (rr m) = true := by unfold rr; rw [m1]; exact m2
  have i2 : jIn (rr n) = true := by unfold rr; rw [n1]; exact n2
  have i3 : jIn (wmR m n) = true := by unfold wmR; rw [r1]; exact r2
  have o1 : onB (rd (xB m)) = true := by rw [xm, rdQ]; exact onB_Q (mu_on M)
  have o2 : onB (rd (wmS m n)) = true := by rw [hS, rdQ]; exact onB_Q (c6.on_add (mu_on M) (mu_on N))
  have hv : VOks W 0 [.pl (.ints .u64 4 m), .pl (.ints .u64 4 n)] [.agg (m.map (Value.int .u64)).toArray, .agg (n.map (Value.int .u64)).toArray] :=
    .cons _ _ _ _ _ (VOk.plain fun ρ N => .ints .u64 4 _ hm rm) (.cons _ _ _ _ _ (VOk.plain fun ρ N => .ints .u64 4 _ hn rn) (.nil _))
  refine law_of_go mixed D [] (wm_eval m n) ?_ o2 hv
  unfold wmO
  rw [em, en, er, i1, i2, i3, o1]
  exact List.all_eq_true.1 rfl

theorem weierMults_lifted (os : Os) (started : os.Started) (H : Type) (enc : TypeId × Value → H) :
    ReturnsInHanded {} Tryd.checked os 3 .any (fun w args => (Rows.weierMultsSpec.pre enc Tryd.prog Tryd.f3 Rows.weierMultsRow.domain false w args ∧ laidMetH Tryd.prog Rows.weierLawsRow.laid w) ∧ sizedMet enc Tryd.prog Tryd.f3 (OpenSpec.ofChange Rows.weierMultsSpec) false w args)
      (Rows.weierMultsSpec.post enc Tryd.prog Tryd.f3 false true false false) := by
  refine returnsInHanded_of_change_and (C := Tryd.checked) (X := fun w _ => laidMetH Tryd.prog Rows.weierLawsRow.laid w) (fun _ _ _ hh h => h.of_heap hh) own started (by kernel_rfl) Tryd.func3
    (ChangeSpec.witness_shaped (enc := enc) (C := Tryd.checked) (os := os) (X := fun w _ => laidMetH Tryd.prog Rows.weierLawsRow.laid w) false (World.laidAll Tryd.prog os Rows.weierLawsRow.laid) #[.agg #[.int .u64 0, .int .u64 0, .int .u64 0, .int .u64 0], .agg #[.int .u64 0, .int .u64 0, .int .u64 0, .int .u64 0]] 8 (World.laidAll_os _ _ _)
      (World.shaped_of_ZipB (by kernel_rfl) (by kernel_rfl)) (by kernel_rfl) (by kernel_rfl) (by kernel_rfl)
      (by rw [MakeChecks.laidMetH_plain _ _ _ (by kernel_rfl)]; exact laidMet_laidAll _ (by kernel_rfl) (by kernel_rfl))) ?_
  intro W base args ds gs before hval0 hW _ hsz hL _
  have hT : TRep W := trep_of hL
  have hval : ∀ (j : Nat) t v, Tryd.f3.params[j]? = some t → args[j]? = some v → Value.okWide Tryd.prog W .any base t v := hval0
  have hW' := hW
  obtain ⟨p, q, hA0, hV, rfl, hfz, hnd⟩ := hW
  have hA : DataW.TrodAll enc Tryd.prog W 0 (fun _ => true) true Tryd.f3.params.toList args.toList ds p := hA0
  rw [Tryd.params3] at hA hval
  obtain ⟨v0, v1, d0, d1, p0, p1, hargs, rfl, rfl, g0, g1⟩ := trodAll_two hA
  have hargs' : args = #[v0, v1] := by simpa using hargs
  subst hargs'
  obtain ⟨rfl, rfl⟩ := trodVars_none hV
  obtain ⟨l0, k0, rfl, r0⟩ := arr_rep Tryd.underlying24 (n := 4) (by kernel_rfl) (show Tryd.prog.cellTypes Tryd.prog.depth 24 = some (List.replicate 4 22) by kernel_rfl) (e := 22) (by intro x hx; exact List.eq_of_mem_replicate hx) Tryd.underlying22 (hval 0 _ v0 rfl rfl)
  obtain ⟨l1, k1, rfl, r1⟩ := arr_rep Tryd.underlying24 (n := 4) (by kernel_rfl) (show Tryd.prog.cellTypes Tryd.prog.depth 24 = some (List.replicate 4 22) by kernel_rfl) (e := 22) (by intro x hx; exact List.eq_of_mem_replicate hx) Tryd.underlying22 (hval 1 _ v1 rfl rfl)
  refine (weierMults_calls W hT k0 r0 k1 r1).mono fun e W' ⟨he, hb⟩ => ?_
  exact ⟨_, he, post_of_law laidOut (by rw [Tryd.params3]; decide +kernel) hW' rfl rfl Tryd.underlying4 rfl rfl rfl hb⟩

theorem weierMults_holds : Rows.WeierMultsSaid :=
  OpenClaim.holds_of_wide 3 Tryd.f3 rfl rfl rfl rfl rfl rfl rfl ⟨rfl, rfl, rfl, rfl, rfl⟩ rfl rfl rfl rfl rfl (by kernel_rfl) Tryd.func3 (by kernel_rfl)
    (of_decide_eq_true (by kernel_rfl)) (by unfold Func.isWrapper; first | (rw [if_pos (by decide +kernel)]; kernel_rfl) | (rw [if_neg (by decide +kernel)]; exact ⟨rfl, rfl⟩))
    (fun os started H enc _ => weierMults_lifted os started H enc)
theorem weierMults_card_holds : Rows.WeierMultsCardSaid :=
  Claim7.holds_tied_plain_at .later [] [.data, .data, .data, .data] true (true, "e54579148be440fa4486c4a898dc0a79d88a36e02d4ee253cc2847c36b208d9d") false weierMults_holds (fun _ h => by cases h) (by kernel_rfl) (fun _ h => by cases h) weierMults_row_tie rfl ⟨rfl, rfl⟩ (by kernel_rfl) rfl
    (fun f fn hf hfn => by
      obtain rfl : f = 3 := Option.some.inj (hf.symm.trans (by kernel_rfl))
      obtain rfl : fn = Tryd.f3 := (Option.some.inj (Tryd.func3.symm.trans hfn)).symm
      exact ⟨by kernel_rfl, fun j t ht => by
        rw [Tryd.params3] at ht
        have hm : t ∈ [24, 24] := by simpa using Array.mem_of_getElem? ht
        have hall : ([24, 24].all fun u => !Tryd.prog.wantsStandIn u) = true := by kernel_rfl
        exact (show Tryd.prog.wantsStandIn t = false by simpa using List.all_eq_true.1 hall t hm)⟩)
    (by kernel_rfl)
end Go.Proofs.YtapficdphhfpnaaDoor
