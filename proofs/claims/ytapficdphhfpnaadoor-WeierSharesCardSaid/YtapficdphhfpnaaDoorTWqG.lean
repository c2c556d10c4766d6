/- The reference of layer 11: x and y, On, Read, Secret: contracts; points handed to the program. Own work. -/
import Derived.Test.YtapficdphhfpnaaDoorTWe11
set_option linter.unusedSimpArgs false
set_option linter.unusedVariables false
set_option linter.unusedSectionVars false
namespace Go.Proofs.YtapficdphhfpnaaDoor
open Go.Ev Go.Wn Go.We
set_option maxRecDepth 100000
def xyE (a : J3) : Pt := ⟨mV a.x (jI (vl a.z)), mV a.y (jI (vl a.z)), false⟩
theorem xyv_t (a : J3) : seeV 0 ((funcL Tryd.prog qn (deep Tryd.prog qn hq6 100 3) (fun _ _ => none) 200 40 (cArgs 0 [.pl (.ints .u64 12 (j3L a))]) (cMem [.pl (.ints .u64 12 (j3L a))])).go [true]) =
    some ([zB a.z], .tuple [.ints .u64 4 [0, 0, 0, 0], .ints .u64 4 [0, 0, 0, 0], .bool false false], some none) := by kernel_rfl
theorem xyv_f (a : J3) : seeV 0 ((funcL Tryd.prog qn (deep Tryd.prog qn hq6 100 3) (fun _ _ => none) 200 40 (cArgs 0 [.pl (.ints .u64 12 (j3L a))]) (cMem [.pl (.ints .u64 12 (j3L a))])).go [false]) =
    some ([!zB a.z, decide (vl a.z < I6)], .tuple [.ints .u64 4 (limbs (xyE a).x), .ints .u64 4 (limbs (xyE a).y), .bool false true], some none) := by kernel_rfl
theorem xyE_eq {a : J3} (h : a.In) (hz : a.z ≠ 0) : xyE a = jXY a := by
  unfold xyE jXY mV
  rw [if_neg hz, vl_in h.1, vl_in h.2.1, vl_in h.2.2, vl_in (in6_jI _)]
def xyS : List V → E (AV × Mem)
  | [.pl (.ints .u64 12 p)] => some ([jIn (j3V p)], (.tuple [.ints .u64 4 (limbs (jXY (j3V p)).x), .ints .u64 4 (limbs (jXY (j3V p)).y), .bool true (!(jXY (j3V p)).o)], []))
  | _ => none
theorem xy_ok {xs : List V} {o : List Bool} {v : AV} {bs : Mem} (h : xyS xs = some (o, (v, bs))) (ho : Paid o) : ViewCall Tryd.prog 40 xs v bs := by
  have D := hq6_ok.deep (q := qn) mixed noCount 100 3
  unfold xyS at h
  split at h
  · rename_i p
    cases h
    have hn := jIn_iff.1 (ho _ (List.mem_cons_self ..))
    intro ρ vs w ha hi
    have hk : j3L (j3V p) = p ∧ (j3V p).Ok := by
      cases ha with
      | cons _ _ _ _ r0 hr => exact j3_rep r0
    obtain ⟨hb, hk⟩ := hk
    generalize j3V p = a at *
    subst hb
    have z1 := zB_eq hk.2.2
    by_cases hz : a.z = 0
    · have e : jXY a = Pt.none := if_pos hz
      rw [e]
      exact @ViewCall.marked _ _ _ _ _ (.tuple [.ints .u64 4 [0, 0, 0, 0], .ints .u64 4 [0, 0, 0, 0], .bool false false]) _
        (fun {_ _ _} ha hi => viewN_none mixed noCount D (lo1 _) [true] 0 (xyv_t a) (paid_cons (by rw [z1, decide_eq_true hz]) Paid.nil) rfl rfl rfl rfl ha hi)
        (.tuple (.cons (.one (.refl _)) (.cons (.one (.refl _)) (.cons (.one (.bool _ _)) .nil)))) rfl rfl _ _ _ ha hi
    · rw [← xyE_eq hn hz]
      exact @ViewCall.marked _ _ _ _ _ (.tuple [.ints .u64 4 (limbs (xyE a).x), .ints .u64 4 (limbs (xyE a).y), .bool false true]) _
        (fun {_ _ _} ha hi => viewN_none mixed noCount D (lo1 _) [false] 0 (xyv_f a) (paid_cons (by rw [z1, decide_eq_false hz]; rfl) (paid_cons (decide_eq_true (by rw [vl_ok hk.2.2]; exact hn.2.2.2)) Paid.nil)) rfl rfl rfl rfl ha hi)
        (.tuple (.cons (.one (.refl _)) (.cons (.one (.refl _)) (.cons (.one (.bool _ _)) .nil)))) rfl rfl _ _ _ ha hi
  · cases h
def hq7 : CallH := withV 40 xyS hq6
theorem hq7_ok : HOk Tryd.prog hq7 := hq6_ok.withV fun _ _ _ _ h ho => xy_ok h ho
theorem of_eval (p : List Int) : res ((funcL Tryd.prog qn (deep Tryd.prog qn hq7 100 3) (fun _ _ => none) 200 14 (cArgs 0 [.pl (.ints .u64 12 p)]) (cMem [.pl (.ints .u64 12 p)])).go []) =
    some ([jIn (j3V p)], .agg ((ptC (jXY (j3V p))).take 8 ++ [.bool true (!(!(jXY (j3V p)).o))])) := by kernel_rfl
def ofS : List V → E (AV × Mem)
  | [.pl (.ints .u64 12 p)] => some ([jIn (j3V p)], (.agg (ptC (jXY (j3V p))), []))
  | _ => none
theorem of_ok {xs : List V} {o : List Bool} {v : AV} {bs : Mem} (h : ofS xs = some (o, (v, bs))) (ho : Paid o) : ViewCall Tryd.prog 14 xs v bs := by
  unfold ofS at h
  split at h
  · rename_i p
    cases h
    intro ρ vs w ha hi
    exact view_goL mixed noCount (hq7_ok.deep (q := qn) mixed noCount 100 3) (fun _ _ _ _ => LOk.none) [] (of_eval p) ho (by rw [Bool.not_not]; rfl) (by kernel_rfl) ha hi
  · cases h
def rlX (x : List Int) : Bool := decide (val x < val primeL)
def rFit (x y : Int) : Bool := decide (limbs (mV y y) = limbs (aV (sV (mV x (mV x x)) (mV 3 x)) bI))
def rOn (x y : Int) : Bool := decide (x < I6) && (decide (y < I6) && rFit x y)
theorem rn_t (x y : Int) : res ((funcL Tryd.prog qn (deep Tryd.prog qn hq7 100 3) (fun _ _ => none) 200 21 (cArgs 0 [.pl (.ints .u64 4 (limbs x)), .pl (.ints .u64 4 (limbs y))]) (cMem [.pl (.ints .u64 4 (limbs x)), .pl (.ints .u64 4 (limbs y))])).go [true]) =
    some (g8 (!rlX (limbs x)) ++ [twM (!rlX (limbs x)) (!rlX (limbs y))], .bool false false) := by kernel_rfl
theorem rn_f (x y : Int) : res ((funcL Tryd.prog qn (deep Tryd.prog qn hq7 100 3) (fun _ _ => none) 200 21 (cArgs 0 [.pl (.ints .u64 4 (limbs x)), .pl (.ints .u64 4 (limbs y))]) (cMem [.pl (.ints .u64 4 (limbs x)), .pl (.ints .u64 4 (limbs y))])).go [false]) =
    some (g8 (!rlX (limbs x)) ++ [!twM (!rlX (limbs x)) (!rlX (limbs y))], .bool true (rFit x y)) := by kernel_rfl
def rnS : List V → E (AV × Mem)
  | [.pl (.ints .u64 4 x), .pl (.ints .u64 4 y)] => some ([], (.bool true (rOn (val x) (val y)), []))
  | _ => none
theorem rlX_eq {x : Int} (h : ok6 x) : rlX (limbs x) = decide (x < I6) := by
  unfold rlX
  rw [vPr]
  exact decide_eq_decide.2 (by rw [show val (limbs x) = vl x from rfl, vl_ok h])
theorem rn_ok {xs : List V} {o : List Bool} {v : AV} {bs : Mem} (h : rnS xs = some (o, (v, bs))) : ViewCall Tryd.prog 21 xs v bs := by
  have D := hq7_ok.deep (q := qn) mixed noCount 100 3
  unfold rnS at h
  split at h
  · rename_i x y
    cases h
    intro ρ vs w ha hi
    have h2 := ha
    cases h2 with
    | cons _ _ _ _ r1 h2 => cases h2 with
      | cons _ _ _ _ r2 h2 =>
        obtain ⟨a, b, c, d, rfl, w0, w1, w2, w3⟩ := num_arg r1
        obtain ⟨e, f, g, h, rfl, u0, u1, u2, u3⟩ := num_arg r2
        have k1 := ok6_of w0 w1 w2 w3
        have k2 := ok6_of u0 u1 u2 u3
        have e1 := limbs_val w0 w1 w2 w3
        have e2 := limbs_val u0 u1 u2 u3
        generalize val [a, b, c, d] = X at *
        generalize val [e, f, g, h] = Y at *
        rw [← e1, ← e2] at ha hi
        have t := rn_t X Y
        have fl := rn_f X Y
        rw [rlX_eq k1, rlX_eq k2] at t fl
        unfold rOn
        by_cases hx : X < I6
        · by_cases hy : Y < I6
          · rw [decide_eq_true hx, decide_eq_true hy] at fl
            rw [decide_eq_true hx, decide_eq_true hy, Bool.true_and, Bool.true_and]
            exact view_goL mixed noCount D (fun _ _ _ _ => LOk.none) [false] fl (paid_append.2 ⟨g8_paid _, paid_cons rfl Paid.nil⟩) rfl (by kernel_rfl) ha hi
          · rw [decide_eq_true hx, decide_eq_false hy] at t
            rw [decide_eq_true hx, decide_eq_false hy, Bool.true_and, Bool.false_and]
            exact @ViewCall.marked _ _ _ _ _ (.bool false false) _ (fun {_ _ _} ha hi => view_goL mixed noCount D (fun _ _ _ _ => LOk.none) [true] t (paid_append.2 ⟨g8_paid _, paid_cons rfl Paid.nil⟩) rfl (by kernel_rfl) ha hi) (.two (.one (.bool _ _))) rfl rfl _ _ _ ha hi
        · rw [decide_eq_false hx] at t
          rw [decide_eq_false hx, Bool.false_and]
          exact @ViewCall.marked _ _ _ _ _ (.bool false false) _ (fun {_ _ _} ha hi => view_goL mixed noCount D (fun _ _ _ _ => LOk.none) [true] t (paid_append.2 ⟨g8_paid _, paid_cons rfl Paid.nil⟩) rfl (by kernel_rfl) ha hi) (.two (.one (.bool _ _))) rfl rfl _ _ _ ha hi
  · cases h
/-- Program and reference have the same points. -/
theorem fit_same {x y : Int} (hx : in6 x) (hy : in6 y) : fitI x y = rFit x y := by
  rw [Bool.eq_iff_iff]
  unfold fitI rFit
  rw [decide_eq_true_iff, decide_eq_true_iff, limbs_inj (in6_ok (in6_mI _ _)) (in6_ok (in6_aI _ _))]
  refine Iff.trans ?_ (limbs_inj (x := mV y y) (y := aV (sV (mV x (mV x x)) (mV 3 x)) bI) (in6_ok (in6_m _ _)) (in6_ok (in6_a _ _))).symm
  exact (fitP_iff hx hy).trans (fitR_iff hx hy).symm
theorem on_same {x y : Int} (hx : ok6 x) (hy : ok6 y) : onB ⟨x, y, false⟩ = rOn x y := by
  show (decide (x < I6) && (decide (y < I6) && fitI x y)) = _
  unfold rOn
  by_cases h1 : x < I6
  · by_cases h2 : y < I6
    · rw [fit_same ⟨hx.1, h1⟩ ⟨hy.1, h2⟩]
    · rw [decide_eq_false h2, Bool.false_and, Bool.false_and]
  · rw [decide_eq_false h1, Bool.false_and, Bool.false_and]
theorem onB_Q {P : Q P6} (h : c6.on P) : onB (ofQ P) = true := by
  cases P with
  | o => rfl
  | p x y =>
    have hx := val_in6 x
    have hy := val_in6 y
    have hf : fitI (x.val : Int) (y.val : Int) = true := decide_eq_true ((limbs_inj (in6_ok (in6_mI _ _)) (in6_ok (in6_aI _ _))).2 ((fitP_iff hx hy).2 (by rw [h6_valF, h6_valF]; exact h)))
    show (decide ((x.val : Int) < I6) && (decide ((y.val : Int) < I6) && fitI (x.val : Int) (y.val : Int))) = true
    rw [hf, decide_eq_true hx.2, decide_eq_true hy.2]
    rfl
theorem onB_in {x y : Int} (hx : ok6 x) (hy : ok6 y) (h : onB ⟨x, y, false⟩ = true) : in6 x ∧ in6 y ∧ c6.on (.p (Go.We.h6 x) (Go.We.h6 y)) := by
  have h' : (decide (x < I6) && (decide (y < I6) && fitI x y)) = true := h
  simp only [Bool.and_eq_true, decide_eq_true_eq] at h'
  have ix : in6 x := ⟨hx.1, h'.1⟩
  have iy : in6 y := ⟨hy.1, h'.2.1⟩
  exact ⟨ix, iy, (fitP_iff ix iy).1 ((limbs_inj (in6_ok (in6_mI _ _)) (in6_ok (in6_aI _ _))).1 (of_decide_eq_true h'.2.2))⟩
def hq8 : CallH := withV 21 rnS (withV 14 ofS hq7)
theorem hq8_ok : HOk Tryd.prog hq8 := (hq7_ok.withV fun _ _ _ _ h ho => of_ok h ho).withV fun _ _ _ _ h _ => rn_ok h
end Go.Proofs.YtapficdphhfpnaaDoor
namespace Go.Proofs.YtapficdphhfpnaaDoor
open Go.Ev Go.Wn Go.We
set_option maxRecDepth 100000
def adV (f : Pt → Pt → Pt) : List V → E (AV × Mem)
  | [.pl x, .pl y] => (match ptOf x, ptOf y with | some p, some q => some ([], (.agg (ptC (f p q)), [])) | _, _ => none)
  | _ => none
def muV (f : Int → Pt → Pt) : List V → E (AV × Mem)
  | [.pl (.ints .u64 4 n), .pl x] => (match ptOf x with | some p => some ([], (.agg (ptC (f (val n) p)), [])) | none => none)
  | _ => none
def onV (f : Pt → Bool) : List V → E (AV × Mem)
  | [.pl x] => (match ptOf x with | some p => some ([], (.bool true (f p), [])) | none => none)
  | _ => none
def hA (fA : Pt → Pt → Pt) (fM : Int → Pt → Pt) (fO : Pt → Bool) : CallH := withV 17 (onV fO) (withV 12 (muV fM) (withV 15 (adV fA) hq8))
theorem hA_ok : HOk Tryd.prog (hA addP mulP onB) := ((hq8_ok.withV fun _ _ _ _ h _ => ad_ok h).withV fun _ _ _ _ h _ => mu_ok h).withV fun _ _ _ _ h _ => on_ok h
def bP : Pt := ⟨val baseX, val baseY, false⟩
theorem bP_eq : bP = ofQ g6 := by
  rw [ofQ_g6]
  have e1 : val baseX = gJ.x := by decide +kernel
  have e2 : val baseY = gJ.y := by decide +kernel
  unfold bP
  rw [e1, e2]
def eqP (p q : Pt) : Bool := decide (limbs p.x = limbs q.x) && (decide (limbs p.y = limbs q.y) && ((p.o == q.o) && true))
theorem eqP_rfl (p : Pt) : eqP p p = true := by
  unfold eqP
  rw [decide_eq_true rfl, decide_eq_true rfl, beq_self_eq_true]
  rfl
def soO (A B C D : Bool) : List Bool := List.replicate 3 A ++ (List.replicate 5 B ++ (List.replicate 6 C ++ [D, true, true, D, true, D, D, D]))
theorem so_eval (fA : Pt → Pt → Pt) (fM : Int → Pt → Pt) (fO : Pt → Bool) : res (funcA Tryd.prog qAs (deep Tryd.prog qn (hA fA fM fO) 100 5) 200 9 [] []) =
    some (soO (fO bP) (fO (rd (fA bP bP))) ((limbs (fA bP bP).x).getD 3 0 == 9003393950442278782) (eqP (fA bP bP) (fM 2 bP)), .bool true true) := by kernel_rfl
theorem pure_of_bool {P : Program} {q : FuncId → Bool} {H : CallH} (hm : P.follows .mixedOrders = true) (hng : Go.Ev.noCount P = true) (hH : HOk P H) {n : Nat} {g : FuncId} {args : List AV} {b : Bool} {o : List Bool} (hp : args.all plainA = true)
    (h : res (funcA P q H n g args []) = some (o, .bool true b)) (ho : Paid o) : PureCall P g args (.bool false b) :=
  pure_of_eval hm hng hH hp (sat_plain h ho unmark)
theorem g_on : c6.on g6 := g6_on
theorem so_A : onB bP = true := by rw [bP_eq]; exact onB_Q g_on
theorem so_S : addP bP bP = ofQ (c6.add g6 g6) := by rw [bP_eq]; exact addP_Q g_on g_on
theorem so_M : mulP 2 bP = ofQ (c6.add g6 g6) := by
  rw [bP_eq, show (2 : Int) = ((2 : Nat) : Int) from rfl, mulP_Q (by decide) g_on]
  show ofQ (c6.add g6 (c6.add g6 .o)) = _
  rw [c6.add_o]
theorem so_paid : Paid (soO (onB bP) (onB (rd (addP bP bP))) ((limbs (addP bP bP).x).getD 3 0 == 9003393950442278782) (eqP (addP bP bP) (mulP 2 bP))) := by
  rw [so_A, so_M, so_S, rd_ok (ofQ_In _).ok, onB_Q (c6.on_add g_on g_on), eqP_rfl, two_g]
  have e : ((limbs (⟨x2, y2, false⟩ : Pt).x).getD 3 0 == 9003393950442278782) = true := by decide +kernel
  rw [e]
  exact List.all_eq_true.1 rfl
def sndS : List AV → E AV
  | [] => some ([], .bool false true)
  | _ => none
theorem snd_ok {args : List AV} {o : List Bool} {v : AV} (h : sndS args = some (o, v)) : PureCall Tryd.prog 9 args v := by
  unfold sndS at h
  split at h
  · cases h
    exact pure_of_bool mixed noCount (hA_ok.deep (q := qn) mixed noCount 100 5) (by kernel_rfl) (so_eval addP mulP onB) so_paid
  · cases h
def hq9 : CallH := withC 9 sndS hq8
theorem hq9_ok : HOk Tryd.prog hq9 := hq8_ok.withC fun _ _ _ h _ => snd_ok h
end Go.Proofs.YtapficdphhfpnaaDoor
