/- Multiples are added by adding how often, and what is read of the bytes of a point is that point: for all two numbers of 64 bits the law answers true. No condition. -/
import Derived.Test.YtapficdphhfpnaaDoorSWqK
import Derived.Test.YtapficdphhfpnaaDoorSWpL
set_option linter.unusedSimpArgs false
set_option linter.unusedVariables false
set_option linter.unusedSectionVars false
namespace Go.Proofs.YtapficdphhfpnaaDoor
open Go.Ev Go.Wn Go.We
open Go.ChangeShapes Go.WideShapes Go.ChangeAt Go.RowKit
set_option maxRecDepth 100000
def hEn (b : Bool) (k : Nat) : CallH := withV 20 (enS b) (withV 18 (dcS k) hq9)
theorem hEn_ok (b : Bool) (k : Nat) : HOk Tryd.prog (hEn b k) := (hq9_ok.withV fun _ _ _ _ h ho => dc_ok h ho).withV fun _ _ _ _ h ho => en_ok h ho
def wsW (a b : Int) : Int := IntKind.u64.wrap (a + b)
def wsE (s : List Int) (a b : Int) : Bool := eqP (xB s) (addP (rd (xB [a, 0, 0, 0])) (rd (xB [b, 0, 0, 0])))
def wsA (o c : Bool) : Bool := match o with
  | true => c
  | false => false
def wsG (z : Bool) : Bool := !(!z) || !z
def wsT (o c d : Bool) : List Bool := [!o || o, !o || o, wsG (wsA o c), wsG (wsA o c), wsG (wsA o c), !((!wsA o c) && !o) || ((!wsA o c) && !o), !(!wsA o c) || (!(!o) || ((!wsA o c) && !o)), wsG (wsA o c), wsG (wsA o c), !((!wsA o c) && wsA (!o) d) || ((!wsA o c) && wsA (!o) d), !((!wsA o c) && wsA (!o) d) || ((!wsA o c) && wsA (!o) d), !(!wsA o c) || (!wsA (!o) d || ((!wsA o c) && wsA (!o) d)), wsG (wsA o c), wsA o c || !wsA o c]
theorem wsT_paid (o c d : Bool) : Paid (wsT o c d) := by cases o <;> cases c <;> cases d <;> exact List.all_eq_true.1 rfl
def wsV (o c d e : Bool) : Bool := match wsA o c with
  | true => true
  | false => match wsA (!o) d with
    | true => e
    | false => false
def eq9 (x y : List Int) (p : Pt) : Bool := decide ([x.getD 0 0, x.getD 1 0, x.getD 2 0, x.getD 3 0] = limbs p.x) && (decide ([y.getD 0 0, y.getD 1 0, y.getD 2 0, y.getD 3 0] = limbs p.y) && ((false == p.o) && true))
theorem ws_nt (a b : Int) : res ((funcA Tryd.prog qn (deep Tryd.prog qn (hEn true 0) 100 5) 200 8 (cArgs 0 [.pl (.int true .u64 a), .pl (.int true .u64 b)]) (cMem [.pl (.int true .u64 a), .pl (.int true .u64 b)])).go [true, false]) = some ([decide (wsW a b < b), !(!wsE [wsW a b, 1, 0, 0] a b), (rd (xB [wsW a b, 1, 0, 0])).o] ++ wsT (rd (xB [wsW a b, 1, 0, 0])).o true false, .bool true (wsV (rd (xB [wsW a b, 1, 0, 0])).o true false (eq9 [0, 0, 0, 0] [0, 0, 0, 0] (xB [wsW a b, 1, 0, 0])))) := by kernel_rfl
theorem ws_st (a b : Int) : res ((funcA Tryd.prog qn (deep Tryd.prog qn (hEn false 0) 100 5) 200 8 (cArgs 0 [.pl (.int true .u64 a), .pl (.int true .u64 b)]) (cMem [.pl (.int true .u64 a), .pl (.int true .u64 b)])).go [true, false]) = some ([decide (wsW a b < b), !(!wsE [wsW a b, 1, 0, 0] a b), !(rd (xB [wsW a b, 1, 0, 0])).o, !((enB (rd (xB [wsW a b, 1, 0, 0]))).getD 0 0 != 4), onB (ptL (enB (rd (xB [wsW a b, 1, 0, 0]))))] ++ wsT (rd (xB [wsW a b, 1, 0, 0])).o false true, .bool true (wsV (rd (xB [wsW a b, 1, 0, 0])).o false true (eq9 (dcX (enB (rd (xB [wsW a b, 1, 0, 0])))) (dcY (enB (rd (xB [wsW a b, 1, 0, 0])))) (xB [wsW a b, 1, 0, 0])))) := by kernel_rfl
theorem ws_nf (a b : Int) : res ((funcA Tryd.prog qn (deep Tryd.prog qn (hEn true 0) 100 5) 200 8 (cArgs 0 [.pl (.int true .u64 a), .pl (.int true .u64 b)]) (cMem [.pl (.int true .u64 a), .pl (.int true .u64 b)])).go [false, false]) = some ([!decide (wsW a b < b), !(!wsE [wsW a b, 0, 0, 0] a b), (rd (xB [wsW a b, 0, 0, 0])).o] ++ wsT (rd (xB [wsW a b, 0, 0, 0])).o true false, .bool true (wsV (rd (xB [wsW a b, 0, 0, 0])).o true false (eq9 [0, 0, 0, 0] [0, 0, 0, 0] (xB [wsW a b, 0, 0, 0])))) := by kernel_rfl
theorem ws_sf (a b : Int) : res ((funcA Tryd.prog qn (deep Tryd.prog qn (hEn false 0) 100 5) 200 8 (cArgs 0 [.pl (.int true .u64 a), .pl (.int true .u64 b)]) (cMem [.pl (.int true .u64 a), .pl (.int true .u64 b)])).go [false, false]) = some ([!decide (wsW a b < b), !(!wsE [wsW a b, 0, 0, 0] a b), !(rd (xB [wsW a b, 0, 0, 0])).o, !((enB (rd (xB [wsW a b, 0, 0, 0]))).getD 0 0 != 4), onB (ptL (enB (rd (xB [wsW a b, 0, 0, 0]))))] ++ wsT (rd (xB [wsW a b, 0, 0, 0])).o false true, .bool true (wsV (rd (xB [wsW a b, 0, 0, 0])).o false true (eq9 (dcX (enB (rd (xB [wsW a b, 0, 0, 0])))) (dcY (enB (rd (xB [wsW a b, 0, 0, 0])))) (xB [wsW a b, 0, 0, 0])))) := by kernel_rfl
theorem ws_row {a b : Int} {s : List Int} {A B : Nat} (ha : val [a, 0, 0, 0] = (A : Int)) (hb : val [b, 0, 0, 0] = (B : Int)) (hs : val s = ((A + B : Nat) : Int)) (lA : A < 2 ^ 64) (lB : B < 2 ^ 64) :
    wsE s a b = true ∧ xB s = ofQ (c6.mul (A + B) g6) := by
  have e1 := xB_Q ha (by omega : A < 2 ^ 256)
  have e2 := xB_Q hb (by omega : B < 2 ^ 256)
  have e3 := xB_Q hs (by omega : A + B < 2 ^ 256)
  refine ⟨?_, e3⟩
  unfold wsE
  rw [e1, e2, rdQ, rdQ, addP_Q (mu_on A) (mu_on B), e3, c6.mul_add _ _ g_on]
  exact eqP_rfl _
theorem weierSums_calls {a b : Int} (W : World) (hT : TRep W) (ha : inR .u64 a = true) (hb : inR .u64 b = true) :
    Calls Tryd.prog 8 #[.int .u64 a, .int .u64 b] W (fun e w' => e = .returned (.bool true) ∧ Below W.heap.size W w') := by
  have hv : VOks W 0 [.pl (.int true .u64 a), .pl (.int true .u64 b)] [.int .u64 a, .int .u64 b] :=
    .cons _ _ _ _ _ (VOk.plain fun ρ N => .int _ _ _ ha) (.cons _ _ _ _ _ (VOk.plain fun ρ N => .int _ _ _ hb) (.nil _))
  have wa := inR_W ha
  have wb := inR_W hb
  obtain ⟨A, rfl⟩ := Int.eq_ofNat_of_zero_le wa.1
  obtain ⟨B, rfl⟩ := Int.eq_ofNat_of_zero_le wb.1
  have lA : A < 2 ^ 64 := by unfold Go.Wn.W at wa; omega
  have lB : B < 2 ^ 64 := by unfold Go.Wn.W at wb; omega
  have vA : ∀ x : Int, val [x, 0, 0, 0] = x := fun x => by unfold val; simp only [List.getD_cons_zero, List.getD_cons_succ]; omega
  have vA1 : ∀ x : Int, val [x, 1, 0, 0] = x + 18446744073709551616 := fun x => by unfold val; simp only [List.getD_cons_zero, List.getD_cons_succ]; omega
  have hW : wsW (A : Int) (B : Int) = ((A : Int) + B) % 18446744073709551616 := wrap_eq _
  have key : ∀ (s : List Int) (ds : List Bool) (d : Bool) (hd : d = true) (hs : val s = ((A + B : Nat) : Int))
      (hn : res ((funcA Tryd.prog qn (deep Tryd.prog qn (hEn true 0) 100 5) 200 8 (cArgs 0 [.pl (.int true .u64 A), .pl (.int true .u64 B)]) (cMem [.pl (.int true .u64 A), .pl (.int true .u64 B)])).go ds) = some ([d, !(!wsE s A B), (rd (xB s)).o] ++ wsT (rd (xB s)).o true false, .bool true (wsV (rd (xB s)).o true false (eq9 [0, 0, 0, 0] [0, 0, 0, 0] (xB s)))))
      (hm : res ((funcA Tryd.prog qn (deep Tryd.prog qn (hEn false 0) 100 5) 200 8 (cArgs 0 [.pl (.int true .u64 A), .pl (.int true .u64 B)]) (cMem [.pl (.int true .u64 A), .pl (.int true .u64 B)])).go ds) = some ([d, !(!wsE s A B), !(rd (xB s)).o, !((enB (rd (xB s))).getD 0 0 != 4), onB (ptL (enB (rd (xB s))))] ++ wsT (rd (xB s)).o false true, .bool true (wsV (rd (xB s)).o false true (eq9 (dcX (enB (rd (xB s)))) (dcY (enB (rd (xB s)))) (xB s))))),
      Calls Tryd.prog 8 #[.int .u64 A, .int .u64 B] W (fun e w' => e = .returned (.bool true) ∧ Below W.heap.size W w') := by
    intro s ds d hd hs hn hm
    obtain ⟨h1, h2⟩ := ws_row (vA A) (vA B) hs lA lB
    have hP := mu_on (A + B)
    rw [h1, h2, rdQ] at hn hm
    generalize c6.mul (A + B) g6 = P at *
    cases P with
    | o => exact law_of_go mixed ((hEn_ok true 0).deep (q := qn) mixed noCount 100 5) ds hn (paid_append.2 ⟨paid_cons hd (paid_cons rfl (paid_cons rfl Paid.nil)), wsT_paid _ _ _⟩) rfl hv
    | p x y =>
      obtain ⟨c1, c2, c3⟩ := dc_en (p := ofQ (.p x y)) (ofQ_In _).ok
      have e3 : ptL (enB (ofQ (.p x y))) = ofQ (.p x y) := c3
      refine law_of_go mixed ((hEn_ok false 0).deep (q := qn) mixed noCount 100 5) ds hm (paid_append.2 ⟨paid_cons hd (paid_cons rfl (paid_cons rfl (paid_cons rfl (paid_cons ?_ Paid.nil)))), wsT_paid _ _ _⟩) ?_ hv
      · rw [e3]; exact onB_Q hP
      · rw [c1, c2]
        show (decide (limbs (ofQ (.p x y)).x = limbs (ofQ (.p x y)).x) && (decide (limbs (ofQ (.p x y)).y = limbs (ofQ (.p x y)).y) && true)) = true
        rw [decide_eq_true rfl, decide_eq_true rfl]
        rfl
  by_cases hc : wsW (A : Int) (B : Int) < (B : Int)
  · exact key [wsW A B, 1, 0, 0] [true, false] _ (decide_eq_true hc) (by rw [vA1]; omega) (ws_nt A B) (ws_st A B)
  · exact key [wsW A B, 0, 0, 0] [false, false] _ (by rw [decide_eq_false hc]; rfl) (by rw [vA]; omega) (ws_nf A B) (ws_sf A B)

theorem weierSums_lifted (os : Os) (started : os.Started) (H : Type) (enc : TypeId × Value → H) :
    ReturnsInHanded {} Tryd.checked os 8 .any (fun w args => (Rows.weierSumsSpec.pre enc Tryd.prog Tryd.f8 Rows.weierSumsRow.domain false w args ∧ laidMetH Tryd.prog Rows.weierLawsRow.laid w) ∧ sizedMet enc Tryd.prog Tryd.f8 (OpenSpec.ofChange Rows.weierSumsSpec) false w args)
      (Rows.weierSumsSpec.post enc Tryd.prog Tryd.f8 false true false false) := by
  refine returnsInHanded_of_change_and (C := Tryd.checked) (X := fun w _ => laidMetH Tryd.prog Rows.weierLawsRow.laid w) (fun _ _ _ hh h => h.of_heap hh) own started (by kernel_rfl) Tryd.func8
    (ChangeSpec.witness_shaped (enc := enc) (C := Tryd.checked) (os := os) (X := fun w _ => laidMetH Tryd.prog Rows.weierLawsRow.laid w) false (World.laidAll Tryd.prog os Rows.weierLawsRow.laid) #[.int .u64 0, .int .u64 0] 8 (World.laidAll_os _ _ _)
      (World.shaped_of_ZipB (by kernel_rfl) (by kernel_rfl)) (by kernel_rfl) (by kernel_rfl) (by kernel_rfl)
      (by rw [MakeChecks.laidMetH_plain _ _ _ (by kernel_rfl)]; exact laidMet_laidAll _ (by kernel_rfl) (by kernel_rfl))) ?_
  intro W base args ds gs before hval0 hW _ hsz hL _
  have hT : TRep W := trep_of hL
  have hval : ∀ (j : Nat) t v, Tryd.f8.params[j]? = some t → args[j]? = some v → Value.okWide Tryd.prog W .any base t v := hval0
  have hW' := hW
  obtain ⟨p, q, hA0, hV, rfl, hfz, hnd⟩ := hW
  have hA : DataW.TrodAll enc Tryd.prog W 0 (fun _ => true) true Tryd.f8.params.toList args.toList ds p := hA0
  rw [Tryd.params8] at hA hval
  obtain ⟨v0, v1, d0, d1, p0, p1, hargs, rfl, rfl, g0, g1⟩ := trodAll_two hA
  have hargs' : args = #[v0, v1] := by simpa using hargs
  subst hargs'
  obtain ⟨rfl, rfl⟩ := trodVars_none hV
  obtain ⟨x0, rfl, rfl, rfl, w0⟩ := open_int Tryd.underlying22 (hval 0 _ v0 rfl rfl) g0
  obtain ⟨x1, rfl, rfl, rfl, w1⟩ := open_int Tryd.underlying22 (hval 1 _ v1 rfl rfl) g1
  refine (weierSums_calls W hT (wf_inR' w0) (wf_inR' w1)).mono fun e W' ⟨he, hb⟩ => ?_
  exact ⟨_, he, post_of_law laidOut (by rw [Tryd.params8]; decide +kernel) hW' rfl rfl Tryd.underlying4 rfl rfl rfl hb⟩

theorem weierSums_holds : Rows.WeierSumsSaid :=
  OpenClaim.holds_of_wide 8 Tryd.f8 rfl rfl rfl rfl rfl rfl rfl ⟨rfl, rfl, rfl, rfl, rfl⟩ rfl rfl rfl rfl rfl (by kernel_rfl) Tryd.func8 (by kernel_rfl)
    (of_decide_eq_true (by kernel_rfl)) (by unfold Func.isWrapper; first | (rw [if_pos (by decide +kernel)]; kernel_rfl) | (rw [if_neg (by decide +kernel)]; exact ⟨rfl, rfl⟩))
    (fun os started H enc _ => weierSums_lifted os started H enc)
theorem weierSums_card_holds : Rows.WeierSumsCardSaid :=
  Claim7.holds_tied_plain_at .later [] [.data, .data, .data, .data] true (true, "e54579148be440fa4486c4a898dc0a79d88a36e02d4ee253cc2847c36b208d9d") false weierSums_holds (fun _ h => by cases h) (by kernel_rfl) (fun _ h => by cases h) weierSums_row_tie rfl ⟨rfl, rfl⟩ (by kernel_rfl) rfl
    (fun f fn hf hfn => by
      obtain rfl : f = 8 := Option.some.inj (hf.symm.trans (by kernel_rfl))
      obtain rfl : fn = Tryd.f8 := (Option.some.inj (Tryd.func8.symm.trans hfn)).symm
      exact ⟨by kernel_rfl, fun j t ht => by
        rw [Tryd.params8] at ht
        have hm : t ∈ [22, 22] := by simpa using Array.mem_of_getElem? ht
        have hall : ([22, 22].all fun u => !Tryd.prog.wantsStandIn u) = true := by kernel_rfl
        exact (show Tryd.prog.wantsStandIn t = false by simpa using List.all_eq_true.1 hall t hm)⟩)
    (by kernel_rfl)
end Go.Proofs.YtapficdphhfpnaaDoor
