/- Sums hang on no order, a point and its mirror make nothing, and the order's multiple of any point is nothing: for all three numbers the law answers true. No condition. -/
import Derived.Test.YtapficdphhfpnaaDoorSWqK
import Derived.Test.YtapficdphhfpnaaDoorSWpL
set_option linter.unusedSimpArgs false
set_option linter.unusedVariables false
set_option linter.unusedSectionVars false
namespace Go.Proofs.YtapficdphhfpnaaDoor
open Go.Ev Go.Wn Go.We
open Go.ChangeShapes Go.WideShapes Go.ChangeAt Go.RowKit
set_option maxRecDepth 100000
def l0 (l : List Int) : List Int := (l.drop 0).take 4
def l1 (l : List Int) : List Int := (l.drop 4).take 4
def l2 (l : List Int) : List Int := (l.drop 8).take 4
def wnL (y : Int) : List Int := match zB y with
  | true => limbs y
  | false => limbs (val primeL - vl y)
def mP (p : Pt) : Pt := ⟨vl p.x, val (wnL p.y), p.o⟩
def wlA (l : List Int) : Pt := xB (l0 l)
def wlB (l : List Int) : Pt := xB (l1 l)
def wlC (l : List Int) : Pt := xB (l2 l)
def wlS (l : List Int) : Pt := addP (rd (wlA l)) (rd (wlB l))
def wl1 (l : List Int) : Bool := eqP (wlS l) (addP (rd (wlB l)) (rd (wlA l)))
def wl2 (l : List Int) : Bool := eqP (addP (rd (wlS l)) (rd (wlC l))) (addP (rd (wlA l)) (rd (addP (rd (wlB l)) (rd (wlC l)))))
def wl3 (l : List Int) (m : Pt) : Bool := eqP (addP (rd (wlA l)) m) Pt.none
def wl4 (l : List Int) : Bool := eqP (addP (rd (wlA l)) Pt.none) (wlA l)
def wl5 (l : List Int) : Bool := eqP (mulP (val orderL) (rd (wlA l))) Pt.none
def wlO (l : List Int) (m : Pt) : List Bool := List.replicate 12 (wl1 l) ++ List.replicate 6 (wl2 l) ++ List.replicate 6 (wl3 l m) ++ List.replicate 6 (wl4 l)
theorem wl_t (l : List Int) : res ((funcA Tryd.prog qAs (deep Tryd.prog qn hq9 100 5) 200 7 (cArgs 0 [.pl (.ints .u64 12 l)]) (cMem [.pl (.ints .u64 12 l)])).go [true]) = some ((!(wlA l).o) :: wlO l (mP (wlA l)), .bool true (wl5 l)) := by kernel_rfl
theorem wl_f (l : List Int) : res ((funcA Tryd.prog qAs (deep Tryd.prog qn hq9 100 5) 200 7 (cArgs 0 [.pl (.ints .u64 12 l)]) (cMem [.pl (.ints .u64 12 l)])).go [false]) = some ((!(!(wlA l).o)) :: wlO l (rd (wlA l)), .bool true (wl5 l)) := by kernel_rfl
theorem neg_pt (x y : Fin P6) : mP (ofQ (.p x y)) = ofQ (.p x (-y)) := by
  have hx := val_in6 x
  have hy := val_in6 y
  have hn := val_in6 (-y)
  have e : val (wnL (y.val : Int)) = ((-y).val : Int) := by
    unfold wnL
    rw [zB_eq (in6_ok hy)]
    by_cases h0 : (y.val : Int) = 0
    · rw [decide_eq_true h0]
      have : y = 0 := Fin.ext (by show y.val = 0; omega)
      subst this
      rfl
    · rw [decide_eq_false h0]
      simp only
      rw [vPr, vl_in hy, show val (limbs (I6 - (y.val : Int))) = vl (I6 - (y.val : Int)) from rfl]
      have hi : in6 (I6 - (y.val : Int)) := ⟨by have := hy.2; omega, by have := hy.1; omega⟩
      rw [vl_in hi]
      refine h6_inj hi hn ?_
      rw [h6_sub, h6_valF, h6_valF]
      have hz : Go.We.h6 I6 = 0 := by decide +kernel
      rw [hz]
      grind
  show (⟨vl (x.val : Int), val (wnL (y.val : Int)), false⟩ : Pt) = ⟨(x.val : Int), ((-y).val : Int), false⟩
  rw [e, vl_in hx]
theorem ord_val : val orderL = ((N6 : Nat) : Int) := by decide +kernel
theorem ord_mul (N : Nat) : c6.mul N6 (c6.mul N g6) = .o := by
  rw [c6.mul_mul _ _ g_on, Nat.mul_comm, ← c6.mul_mul _ _ g_on, g6_ord, c6.mul_o]
theorem part_ok {l : List Int} (h : l.length = 12) (hr : ∀ x ∈ l, inR .u64 x = true) (k : Nat) (hk : k + 4 ≤ 12) : ((l.drop k).take 4).length = 4 ∧ ∀ x ∈ (l.drop k).take 4, inR .u64 x = true :=
  ⟨by rw [List.length_take, List.length_drop]; omega, fun x hx => hr x (List.mem_of_mem_drop (List.mem_of_mem_take hx))⟩
theorem weierLaws_calls {l : List Int} (W : World) (hT : TRep W) (hl : l.length = 12) (rl : ∀ x ∈ l, inR .u64 x = true) :
    Calls Tryd.prog 7 #[.agg (l.map (Value.int .u64)).toArray] W (fun e w' => e = .returned (.bool true) ∧ Below W.heap.size W w') := by
  have D := hq9_ok.deep (q := qn) mixed noCount 100 5
  have hv : VOks W 0 [.pl (.ints .u64 12 l)] [.agg (l.map (Value.int .u64)).toArray] := .cons _ _ _ _ _ (VOk.plain fun ρ N => .ints .u64 12 _ hl rl) (.nil _)
  obtain ⟨a1, a2⟩ := part_ok hl rl 0 (by omega)
  obtain ⟨b1, b2⟩ := part_ok hl rl 4 (by omega)
  obtain ⟨c1, c2⟩ := part_ok hl rl 8 (by omega)
  obtain ⟨A, eA, lA, _⟩ := mu_of a1 a2
  obtain ⟨B, eB, lB, _⟩ := mu_of b1 b2
  obtain ⟨C, eC, lC, _⟩ := mu_of c1 c2
  have xA : wlA l = ofQ (c6.mul A g6) := xB_Q eA lA
  have xB : wlB l = ofQ (c6.mul B g6) := xB_Q eB lB
  have xC : wlC l = ofQ (c6.mul C g6) := xB_Q eC lC
  have pA := mu_on A
  have pB := mu_on B
  have pC := mu_on C
  have hN := ord_mul A
  have t := wl_t l
  have f := wl_f l
  have w1 : wl1 l = true := by
    unfold wl1 wlS
    rw [xA, xB, rdQ, rdQ, addP_Q pA pB, addP_Q pB pA, c6.comm pA pB]
    exact eqP_rfl _
  have w2 : wl2 l = true := by
    unfold wl2 wlS
    rw [xA, xB, xC, rdQ, rdQ, rdQ, addP_Q pA pB, addP_Q pB pC, rdQ, rdQ, addP_Q (c6.on_add pA pB) pC, addP_Q pA (c6.on_add pB pC), c6.assoc pA pB pC]
    exact eqP_rfl _
  have hno : Pt.none = ofQ .o := rfl
  have w4 : wl4 l = true := by
    unfold wl4
    rw [xA, rdQ, hno, addP_Q pA (R := .o) trivial, c6.add_o]
    exact eqP_rfl _
  have w5 : wl5 l = true := by
    unfold wl5
    rw [xA, rdQ, ord_val, mulP_Q N6_lt pA, hN]
    exact eqP_rfl _
  have hO : ∀ m, wl3 l m = true → Paid (wlO l m) := fun m h3 => by
    unfold wlO
    rw [w1, w2, w4, h3]
    exact List.all_eq_true.1 rfl
  generalize c6.mul A g6 = P at *
  cases P with
  | o =>
    refine law_of_go mixed D [false] f (paid_cons (by rw [xA]; rfl) (hO _ ?_)) w5 hv
    unfold wl3
    rw [xA, rdQ, addP_Q pA pA]
    exact eqP_rfl _
  | p x y =>
    refine law_of_go mixed D [true] t (paid_cons (by rw [xA]; rfl) (hO _ ?_)) w5 hv
    unfold wl3
    rw [xA, rdQ, neg_pt]
    have e := c6.add_neg (.p x y)
    have e2 : addP (ofQ (.p x y)) (ofQ (.p x (-y))) = ofQ (c6.add (.p x y) (c6.neg (.p x y))) := addP_Q pA (c6.on_neg pA)
    rw [e2, e]
    exact eqP_rfl _

theorem weierLaws_lifted (os : Os) (started : os.Started) (H : Type) (enc : TypeId × Value → H) :
    ReturnsInHanded {} Tryd.checked os 7 .any (fun w args => (Rows.weierLawsSpec.pre enc Tryd.prog Tryd.f7 Rows.weierLawsRow.domain false w args ∧ laidMetH Tryd.prog Rows.weierLawsRow.laid w) ∧ sizedMet enc Tryd.prog Tryd.f7 (OpenSpec.ofChange Rows.weierLawsSpec) false w args)
      (Rows.weierLawsSpec.post enc Tryd.prog Tryd.f7 false true false false) := by
  refine returnsInHanded_of_change_and (C := Tryd.checked) (X := fun w _ => laidMetH Tryd.prog Rows.weierLawsRow.laid w) (fun _ _ _ hh h => h.of_heap hh) own started (by kernel_rfl) Tryd.func7
    (ChangeSpec.witness_shaped (enc := enc) (C := Tryd.checked) (os := os) (X := fun w _ => laidMetH Tryd.prog Rows.weierLawsRow.laid w) false (World.laidAll Tryd.prog os Rows.weierLawsRow.laid) #[.agg #[.int .u64 0, .int .u64 0, .int .u64 0, .int .u64 0, .int .u64 0, .int .u64 0, .int .u64 0, .int .u64 0, .int .u64 0, .int .u64 0, .int .u64 0, .int .u64 0]] 8 (World.laidAll_os _ _ _)
      (World.shaped_of_ZipB (by kernel_rfl) (by kernel_rfl)) (by kernel_rfl) (by kernel_rfl) (by kernel_rfl)
      (by rw [MakeChecks.laidMetH_plain _ _ _ (by kernel_rfl)]; exact laidMet_laidAll _ (by kernel_rfl) (by kernel_rfl))) ?_
  intro W base args ds gs before hval0 hW _ hsz hL _
  have hT : TRep W := trep_of hL
  have hval : ∀ (j : Nat) t v, Tryd.f7.params[j]? = some t → args[j]? = some v → Value.okWide Tryd.prog W .any base t v := hval0
  have hW' := hW
  obtain ⟨p, q, hA0, hV, rfl, hfz, hnd⟩ := hW
  have hA : DataW.TrodAll enc Tryd.prog W 0 (fun _ => true) true Tryd.f7.params.toList args.toList ds p := hA0
  rw [Tryd.params7] at hA hval
  obtain ⟨v0, d0, hargs, rfl, g0⟩ := trodAll_one hA
  have hargs' : args = #[v0] := by simpa using hargs
  subst hargs'
  obtain ⟨rfl, rfl⟩ := trodVars_none hV
  obtain ⟨l0, k0, rfl, r0⟩ := arr_rep Tryd.underlying59 (n := 12) (by kernel_rfl) (show Tryd.prog.cellTypes Tryd.prog.depth 59 = some (List.replicate 12 22) by kernel_rfl) (e := 22) (by intro x hx; exact List.eq_of_mem_replicate hx) Tryd.underlying22 (hval 0 _ v0 rfl rfl)
  refine (weierLaws_calls W hT k0 r0).mono fun e W' ⟨he, hb⟩ => ?_
  exact ⟨_, he, post_of_law laidOut (by rw [Tryd.params7]; decide +kernel) hW' rfl rfl Tryd.underlying4 rfl rfl rfl hb⟩

theorem weierLaws_holds : Rows.WeierLawsSaid :=
  OpenClaim.holds_of_wide 7 Tryd.f7 rfl rfl rfl rfl rfl rfl rfl ⟨rfl, rfl, rfl, rfl, rfl⟩ rfl rfl rfl rfl rfl (by kernel_rfl) Tryd.func7 (by kernel_rfl)
    (of_decide_eq_true (by kernel_rfl)) (by unfold Func.isWrapper; first | (rw [if_pos (by decide +kernel)]; kernel_rfl) | (rw [if_neg (by decide +kernel)]; exact ⟨rfl, rfl⟩))
    (fun os started H enc _ => weierLaws_lifted os started H enc)
theorem weierLaws_card_holds : Rows.WeierLawsCardSaid :=
  Claim7.holds_tied_plain_at .later [] [.data, .data, .data, .data] true (true, "e54579148be440fa4486c4a898dc0a79d88a36e02d4ee253cc2847c36b208d9d") false weierLaws_holds (fun _ h => by cases h) (by kernel_rfl) (fun _ h => by cases h) weierLaws_row_tie rfl ⟨rfl, rfl⟩ (by kernel_rfl) rfl
    (fun f fn hf hfn => by
      obtain rfl : f = 7 := Option.some.inj (hf.symm.trans (by kernel_rfl))
      obtain rfl : fn = Tryd.f7 := (Option.some.inj (Tryd.func7.symm.trans hfn)).symm
      exact ⟨by kernel_rfl, fun j t ht => by
        rw [Tryd.params7] at ht
        have hm : t ∈ [59] := by simpa using Array.mem_of_getElem? ht
        have hall : ([59].all fun u => !Tryd.prog.wantsStandIn u) = true := by kernel_rfl
        exact (show Tryd.prog.wantsStandIn t = false by simpa using List.all_eq_true.1 hall t hm)⟩)
    (by kernel_rfl)
end Go.Proofs.YtapficdphhfpnaaDoor
