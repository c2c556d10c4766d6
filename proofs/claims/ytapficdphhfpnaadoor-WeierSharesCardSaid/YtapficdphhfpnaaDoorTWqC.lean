/- The reference of layer 11: fold, products, sums, differences modulo the prime: contracts. Own work. -/
import Derived.Test.YtapficdphhfpnaaDoorTWqA
import Derived.Test.YtapficdphhfpnaaDoorTWe9
import Derived.Test.YtapficdphhfpnaaDoorTWe7
set_option linter.unusedSimpArgs false
set_option linter.unusedVariables false
set_option linter.unusedSectionVars false
namespace Go.Proofs.YtapficdphhfpnaaDoor
open Go.Ev Go.Wn Go.We
set_option maxRecDepth 100000
def fdS : List V → E (AV × Mem)
  | [.pl (.ints .i64 8 w)] => some ([allSm w, decide (-8 * M6 ≤ v32 w), decide (v32 w < 8 * M6)], (.ints .u64 4 (limbs (v32 w % I6)), []))
  | _ => none
theorem fd_ok {xs : List V} {o : List Bool} {v : AV} {bs : Mem} (h : fdS xs = some (o, (v, bs))) (ho : Paid o) : ViewCall Tryd.prog 69 xs v bs := by
  have D := hq0_ok.deep (q := qn) mixed noCount 100 3
  have hΛ : ∀ fn c, Tryd.prog.funcs[69]? = some fn → fn.body = some c → LOk Tryd.prog c (foΛ fun _ _ => none) := fun fn c hf hb => by rw [bodyOf_eq hf hb]; exact fo_lok LOk.none
  unfold fdS at h
  split at h
  · rename_i w
    cases h
    intro ρ vs w' ha hi
    have hw : w.length = 8 := by
      cases ha with
      | cons _ _ _ _ r0 hr => cases r0 with | ints _ _ _ hn _ => exact hn
    have q0 := allSm_iff.1 (ho _ (List.mem_cons_self ..))
    have q1 := of_decide_eq_true (ho _ (List.mem_cons_of_mem _ (List.mem_cons_self ..)))
    have q2 := of_decide_eq_true (ho _ (List.mem_cons_of_mem _ (List.mem_cons_of_mem _ (List.mem_cons_self ..))))
    have hP : Paid (fdO w) := paid_cons (decide_eq_true hw) ho
    obtain ⟨k1, k2, k3⟩ := passes_ok hw q1 q2
    have km := passes_mod hw q1 q2
    obtain ⟨n1, n2⟩ := nwL_val k1 k2
    have hr := v32_range k2
    rw [k1, pow8] at hr
    have e0 := fd_0 w
    have e1 := fd_1 w
    rw [n1, vPr] at e0 e1
    rw [km]
    generalize v32 (passes 3 w) = r at *
    by_cases hlt : r < I6
    · rw [if_pos hlt, n2]
      exact view_goL mixed noCount D hΛ [false] e0 (paid_cons rfl (paid_append.2 ⟨hP, paid_cons (by rw [decide_eq_true hlt]; rfl) Paid.nil⟩)) rfl (by kernel_rfl) ha hi
    · rw [if_neg hlt]
      have hv : val (limbs (r - I6)) = r - I6 := vl_ok (x := r - I6) (by unfold ok6 M6 I6 at *; omega)
      rw [hv] at e1
      exact view_goL mixed noCount D hΛ [true, false] e1 (paid_cons rfl (paid_append.2 ⟨hP, paid_cons (by rw [decide_eq_false hlt]; rfl) (paid_cons (by rw [decide_eq_true (show r - I6 < I6 by unfold M6 I6 at *; omega)]; rfl) Paid.nil)⟩)) rfl (by kernel_rfl) ha hi
  · cases h
def hq1 : CallH := withV 69 fdS hq0
theorem hq1_ok : HOk Tryd.prog hq1 := hq0_ok.withV fun _ _ _ _ h ho => fd_ok h ho
def fO (w : List Int) : List Bool := [allSm w, decide (-8 * M6 ≤ v32 w), decide (v32 w < 8 * M6)]
theorem ra_eval (a0 a1 a2 a3 b0 b1 b2 b3 : Int) : res (funcA Tryd.prog qn hq1 200 44 [.ints .u64 4 [a0, a1, a2, a3], .ints .u64 4 [b0, b1, b2, b3]] []) =
    some (fO (adE (w32 [a0, a1, a2, a3]) (w32 [b0, b1, b2, b3])), .ints .u64 4 (limbs (v32 (adE (w32 [a0, a1, a2, a3]) (w32 [b0, b1, b2, b3])) % I6))) := by kernel_rfl
theorem rs_eval (a0 a1 a2 a3 b0 b1 b2 b3 : Int) : res (funcA Tryd.prog qn hq1 200 43 [.ints .u64 4 [a0, a1, a2, a3], .ints .u64 4 [b0, b1, b2, b3]] []) =
    some (fO (sbE (w32 [a0, a1, a2, a3]) (w32 [b0, b1, b2, b3])), .ints .u64 4 (limbs (v32 (sbE (w32 [a0, a1, a2, a3]) (w32 [b0, b1, b2, b3])) % I6))) := by kernel_rfl
theorem rm_eval (a0 a1 a2 a3 b0 b1 b2 b3 : Int) : res (funcA Tryd.prog qn hq1 200 42 [.ints .u64 4 [a0, a1, a2, a3], .ints .u64 4 [b0, b1, b2, b3]] []) =
    some (List.replicate 32 true ++ fO (colE (w32 (muLo a0 a1 a2 a3 b0 b1 b2 b3)) (w32 (muHi a0 a1 a2 a3 b0 b1 b2 b3))), .ints .u64 4 (limbs (v32 (colE (w32 (muLo a0 a1 a2 a3 b0 b1 b2 b3)) (w32 (muHi a0 a1 a2 a3 b0 b1 b2 b3))) % I6))) := by kernel_rfl
theorem fO_paid {w : List Int} (h0 : ∀ x ∈ w, Sm x) (h1 : -8 * M6 ≤ v32 w) (h2 : v32 w < 8 * M6) : Paid (fO w) := paid_cons (allSm_iff.2 h0) (paid_cons (decide_eq_true h1) (paid_cons (decide_eq_true h2) Paid.nil))
theorem val_M {a b c d : Int} (ha : W a) (hb : W b) (hc : W c) (hd : W d) : 0 ≤ val [a, b, c, d] ∧ val [a, b, c, d] < M6 := val_range ha hb hc hd
def raS : List AV → E AV
  | [.ints .u64 4 a, .ints .u64 4 b] => some ([], .ints .u64 4 (limbs (aJ (val a) (val b))))
  | _ => none
theorem ra_ok {args : List AV} {o : List Bool} {v : AV} (h : raS args = some (o, v)) : PureCall Tryd.prog 44 args v := by
  unfold raS at h
  split at h
  · rename_i a b
    cases h
    intro ρ N vs ha
    have hb := ha
    cases hb with
    | cons _ _ _ _ r1 hb => cases hb with
      | cons _ _ _ _ r2 hb =>
        obtain ⟨a0, a1, a2, a3, rfl, wa0, wa1, wa2, wa3⟩ := num_arg r1
        obtain ⟨b0, b1, b2, b3, rfl, wb0, wb1, wb2, wb3⟩ := num_arg r2
        obtain ⟨ea, da⟩ := w32_val wa0 wa1 wa2 wa3
        obtain ⟨eb, db⟩ := w32_val wb0 wb1 wb2 wb3
        obtain ⟨k1, k2⟩ := ad_eq da db
        have k2' : v32 (adE (w32 [a0, a1, a2, a3]) (w32 [b0, b1, b2, b3])) = val [a0, a1, a2, a3] + val [b0, b1, b2, b3] := by rw [← ea, ← eb]; exact k2
        have ra := val_M wa0 wa1 wa2 wa3
        have rb := val_M wb0 wb1 wb2 wb3
        exact pure_of_res mixed noCount hq1_ok (by kernel_rfl) (ra_eval a0 a1 a2 a3 b0 b1 b2 b3) (fO_paid k1 (by rw [k2']; unfold M6 at *; omega) (by rw [k2']; unfold M6 at *; omega)) (by rw [k2']; rfl) (by kernel_rfl) ha
  · cases h
def rsS : List AV → E AV
  | [.ints .u64 4 a, .ints .u64 4 b] => some ([], .ints .u64 4 (limbs (sJ (val a) (val b))))
  | _ => none
theorem rs_ok {args : List AV} {o : List Bool} {v : AV} (h : rsS args = some (o, v)) : PureCall Tryd.prog 43 args v := by
  unfold rsS at h
  split at h
  · rename_i a b
    cases h
    intro ρ N vs ha
    have hb := ha
    cases hb with
    | cons _ _ _ _ r1 hb => cases hb with
      | cons _ _ _ _ r2 hb =>
        obtain ⟨a0, a1, a2, a3, rfl, wa0, wa1, wa2, wa3⟩ := num_arg r1
        obtain ⟨b0, b1, b2, b3, rfl, wb0, wb1, wb2, wb3⟩ := num_arg r2
        obtain ⟨ea, da⟩ := w32_val wa0 wa1 wa2 wa3
        obtain ⟨eb, db⟩ := w32_val wb0 wb1 wb2 wb3
        obtain ⟨k1, k2⟩ := sb_eq da db
        have k2' : v32 (sbE (w32 [a0, a1, a2, a3]) (w32 [b0, b1, b2, b3])) = val [a0, a1, a2, a3] - val [b0, b1, b2, b3] := by rw [← ea, ← eb]; exact k2
        have ra := val_M wa0 wa1 wa2 wa3
        have rb := val_M wb0 wb1 wb2 wb3
        exact pure_of_res mixed noCount hq1_ok (by kernel_rfl) (rs_eval a0 a1 a2 a3 b0 b1 b2 b3) (fO_paid k1 (by rw [k2']; unfold M6 at *; omega) (by rw [k2']; unfold M6 at *; omega)) (by rw [k2']; rfl) (by kernel_rfl) ha
  · cases h
def rmS : List AV → E AV
  | [.ints .u64 4 a, .ints .u64 4 b] => some ([], .ints .u64 4 (limbs (mJ (val a) (val b))))
  | _ => none
theorem four_of {a b c d : Int} {P : Int → Prop} (h : ∀ x ∈ [a, b, c, d], P x) : P a ∧ P b ∧ P c ∧ P d := by
  simp only [List.forall_mem_cons, List.not_mem_nil, false_implies, implies_true, and_true] at h
  exact h
theorem rm_ok {args : List AV} {o : List Bool} {v : AV} (h : rmS args = some (o, v)) : PureCall Tryd.prog 42 args v := by
  unfold rmS at h
  split at h
  · rename_i a b
    cases h
    intro ρ N vs ha
    have hb := ha
    cases hb with
    | cons _ _ _ _ r1 hb => cases hb with
      | cons _ _ _ _ r2 hb =>
        obtain ⟨a0, a1, a2, a3, rfl, wa0, wa1, wa2, wa3⟩ := num_arg r1
        obtain ⟨b0, b1, b2, b3, rfl, wb0, wb1, wb2, wb3⟩ := num_arg r2
        obtain ⟨m1, m2, m3⟩ := mu_val wa0 wa1 wa2 wa3 wb0 wb1 wb2 wb3
        have ev := rm_eval a0 a1 a2 a3 b0 b1 b2 b3
        have key : ∃ C : List Int, colE (w32 (muLo a0 a1 a2 a3 b0 b1 b2 b3)) (w32 (muHi a0 a1 a2 a3 b0 b1 b2 b3)) = C ∧ (∀ x ∈ C, Sm x) ∧ -8 * M6 ≤ v32 C ∧ v32 C < 8 * M6 ∧ v32 C % I6 = mJ (val [a0, a1, a2, a3]) (val [b0, b1, b2, b3]) := by
          unfold mJ
          rw [m3]
          unfold muLo at m1 ⊢
          unfold muHi at m2 ⊢
          obtain ⟨u0, u1, u2, u3⟩ := four_of m1
          obtain ⟨v0, v1, v2, v3⟩ := four_of m2
          obtain ⟨ea, da⟩ := w32_val u0 u1 u2 u3
          obtain ⟨eb, db⟩ := w32_val v0 v1 v2 v3
          obtain ⟨k1, k2, k3, k4⟩ := col_eq da db
          refine ⟨_, k1, k2, k3, k4, ?_⟩
          rw [prod_cols, ← ea, ← eb]
          rfl
        obtain ⟨C, c1, c2, c3, c4, c5⟩ := key
        rw [c1, c5] at ev
        exact pure_of_res mixed noCount hq1_ok (by kernel_rfl) ev (paid_append.2 ⟨rep_true _, fO_paid c2 c3 c4⟩) rfl (by kernel_rfl) ha
  · cases h
def hq2 : CallH := withC 42 rmS (withC 43 rsS (withC 44 raS hq1))
theorem hq2_ok : HOk Tryd.prog hq2 := ((hq1_ok.withC fun _ _ _ h _ => ra_ok h).withC fun _ _ _ h _ => rs_ok h).withC fun _ _ _ h _ => rm_ok h
end Go.Proofs.YtapficdphhfpnaaDoor
namespace Go.We
open Go.Wn
def mV (x y : Int) : Int := mJ (vl x) (vl y)
def aV (x y : Int) : Int := aJ (vl x) (vl y)
def sV (x y : Int) : Int := sJ (vl x) (vl y)
theorem vl_in {x : Int} (h : in6 x) : vl x = x := vl_ok (in6_ok h)
theorem vl_mJ (x y : Int) : vl (mJ x y) = mJ x y := vl_in (in6_m _ _)
theorem vl_aJ (x y : Int) : vl (aJ x y) = aJ x y := vl_in (in6_a _ _)
theorem vl_sJ (x y : Int) : vl (sJ x y) = sJ x y := vl_in (in6_s _ _)
theorem vl_2 : vl 2 = 2 := by decide +kernel
theorem vl_3 : vl 3 = 3 := by decide +kernel
theorem vl_4 : vl 4 = 4 := by decide +kernel
theorem vl_8 : vl 8 = 8 := by decide +kernel
def J3.Ok (p : J3) : Prop := ok6 p.x ∧ ok6 p.y ∧ ok6 p.z
def J3.In (p : J3) : Prop := in6 p.x ∧ in6 p.y ∧ in6 p.z
theorem J3.In.ok {p : J3} (h : p.In) : p.Ok := ⟨in6_ok h.1, in6_ok h.2.1, in6_ok h.2.2⟩
def tTe (a : J3) : Int := mV 3 (sV (mV a.x a.x) (mV a.z a.z))
def tUe (a : J3) : Int := mV a.y a.z
def tVe (a : J3) : Int := mV (tUe a) (mV a.x a.y)
def tWe (a : J3) : Int := sV (mV (tTe a) (tTe a)) (mV 8 (tVe a))
def tUYe (a : J3) : Int := mV (tUe a) a.y
def tTwoe (a : J3) : J3 := ⟨mV 2 (mV (tUe a) (tWe a)), sV (mV (tTe a) (sV (mV 4 (tVe a)) (tWe a))) (mV 8 (mV (tUYe a) (tUYe a))), mV 8 (mV (tUe a) (mV (tUe a) (tUe a)))⟩
theorem tTwo_eq {a : J3} (h : a.Ok) : tTwoe a = jTwo a := by
  obtain ⟨h1, h2, h3⟩ := h
  have e1 := vl_ok h1; have e2 := vl_ok h2; have e3 := vl_ok h3
  unfold tTwoe jTwo tWe tTe tVe tUYe tUe jW jT jV jUY jU mV sV
  simp only [vl_mJ, vl_sJ, e1, e2, e3, vl_2, vl_3, vl_4, vl_8]
theorem jTwo_In (a : J3) : (jTwo a).In := ⟨in6_m _ _, in6_s _ _, in6_m _ _⟩
theorem jnone_In : J3.none.In := ⟨in6_0, in6_1, in6_0⟩
theorem jTw_In (a : J3) : (jTw a).In := by
  unfold jTw
  split
  · exact jnone_In
  · exact jTwo_In a
def pXe (a c : J3) : Int := mV a.x c.z
def pYe (a c : J3) : Int := mV a.y c.z
def pUe (a c : J3) : Int := sV (mV c.y a.z) (pYe a c)
def pVe (a c : J3) : Int := sV (mV c.x a.z) (pXe a c)
def pWe (a c : J3) : Int := mV a.z c.z
def pVVe (a c : J3) : Int := mV (pVe a c) (pVe a c)
def pVVVe (a c : J3) : Int := mV (pVe a c) (pVVe a c)
def pRe (a c : J3) : Int := mV (pVVe a c) (pXe a c)
def pKe (a c : J3) : Int := sV (sV (mV (mV (pUe a c) (pUe a c)) (pWe a c)) (pVVVe a c)) (aV (pRe a c) (pRe a c))
def pSume (a c : J3) : J3 := ⟨mV (pVe a c) (pKe a c), sV (mV (pUe a c) (sV (pRe a c) (pKe a c))) (mV (pVVVe a c) (pYe a c)), mV (pVVVe a c) (pWe a c)⟩
theorem pU_eq {a c : J3} (h : a.Ok) (h' : c.Ok) : pUe a c = kU a c ∧ pVe a c = kV a c := by
  obtain ⟨h1, h2, h3⟩ := h
  obtain ⟨g1, g2, g3⟩ := h'
  have e1 := vl_ok h1; have e2 := vl_ok h2; have e3 := vl_ok h3
  have f1 := vl_ok g1; have f2 := vl_ok g2; have f3 := vl_ok g3
  unfold pUe pVe kU kV pXe pYe kX kY mV sV
  simp only [vl_mJ, e1, e2, e3, f1, f2, f3, and_self]
theorem pSum_eq {a c : J3} (h : a.Ok) (h' : c.Ok) : pSume a c = kSum a c := by
  obtain ⟨h1, h2, h3⟩ := h
  obtain ⟨g1, g2, g3⟩ := h'
  have e1 := vl_ok h1; have e2 := vl_ok h2; have e3 := vl_ok h3
  have f1 := vl_ok g1; have f2 := vl_ok g2; have f3 := vl_ok g3
  unfold pSume kSum pKe kK pRe kR pVVVe kVVV pVVe kVV pUe pVe kU kV pXe pYe kX kY pWe kW mV sV aV
  simp only [vl_mJ, vl_sJ, vl_aJ, e1, e2, e3, f1, f2, f3]
theorem kSum_In (a c : J3) : (kSum a c).In := ⟨in6_m _ _, in6_s _ _, in6_m _ _⟩
theorem jPl_In {a c : J3} (h : a.In) (h' : c.In) : (jPl a c).In := by
  unfold jPl
  split
  · exact h'
  · split
    · exact h
    · split
      · split
        · exact jTw_In a
        · exact jnone_In
      · exact kSum_In a c
end Go.We
namespace Go.We
open Go.Wn
def j3L (p : J3) : List Int := limbs p.x ++ limbs p.y ++ limbs p.z
def j3V (l : List Int) : J3 := ⟨val (l.take 4), val ((l.drop 4).take 4), val (l.drop 8)⟩
end Go.We
namespace Go.Proofs.YtapficdphhfpnaaDoor
open Go.Ev Go.Wn Go.We
set_option maxRecDepth 100000
theorem j3_rep {ρ : Nat → Loc3} {N : Nat → Prop} {l : List Int} {v : Value} (h : Rep ρ N (.ints .u64 12 l) v) : j3L (j3V l) = l ∧ (j3V l).Ok := ⟨r3_rep h, r3_args h⟩
theorem j3_ok {p : J3} (h : p.Ok) : j3V (j3L p) = p := by
  show (⟨vl p.x, vl p.y, vl p.z⟩ : J3) = p
  rw [vl_ok h.1, vl_ok h.2.1, vl_ok h.2.2]
def zB (x : Int) : Bool := decide (limbs x = [0, 0, 0, 0])
def twM (z y : Bool) : Bool := match z with
  | true => true
  | false => y
theorem tw_t (a : J3) : res ((funcL Tryd.prog qn (deep Tryd.prog qn hq2 100 3) (fun _ _ => none) 200 34 (cArgs 0 [.pl (.ints .u64 12 (j3L a))]) (cMem [.pl (.ints .u64 12 (j3L a))])).go [true]) =
    some (g8 (zB a.z) ++ [twM (zB a.z) (zB a.y)], .ints .u64 12 (j3L J3.none)) := by kernel_rfl
theorem tw_f (a : J3) : res ((funcL Tryd.prog qn (deep Tryd.prog qn hq2 100 3) (fun _ _ => none) 200 34 (cArgs 0 [.pl (.ints .u64 12 (j3L a))]) (cMem [.pl (.ints .u64 12 (j3L a))])).go [false]) =
    some (g8 (zB a.z) ++ [!twM (zB a.z) (zB a.y)], .ints .u64 12 (j3L (tTwoe a))) := by kernel_rfl
theorem zB_eq {x : Int} (h : ok6 x) : zB x = decide (x = 0) := decide_eq_decide.2 (limbs_zero h)
def twS : List V → E (AV × Mem)
  | [.pl (.ints .u64 12 p)] => some ([], (.ints .u64 12 (j3L (jTw (j3V p))), []))
  | _ => none
theorem tw_ok {xs : List V} {o : List Bool} {v : AV} {bs : Mem} (h : twS xs = some (o, (v, bs))) : ViewCall Tryd.prog 34 xs v bs := by
  have D := hq2_ok.deep (q := qn) mixed noCount 100 3
  unfold twS at h
  split at h
  · rename_i p
    cases h
    intro ρ vs w ha hi
    have hk : j3L (j3V p) = p ∧ (j3V p).Ok := by
      cases ha with
      | cons _ _ _ _ r0 hr => exact j3_rep r0
    obtain ⟨hb, hk⟩ := hk
    generalize j3V p = a at *
    subst hb
    have z1 := zB_eq hk.2.2
    have z2 := zB_eq hk.2.1
    have e1 := tw_t a
    have e2 := tw_f a
    by_cases h0 : a.z = 0 ∨ a.y = 0
    · have e : jTw a = J3.none := if_pos h0
      rw [e]
      refine view_goL mixed noCount D (fun _ _ _ _ => LOk.none) [true] e1 (paid_append.2 ⟨g8_paid _, paid_cons ?_ Paid.nil⟩) rfl (by kernel_rfl) ha hi
      rw [z1, z2]
      unfold twM
      by_cases hz : a.z = 0
      · rw [decide_eq_true hz]
      · rw [decide_eq_false hz, decide_eq_true (h0.resolve_left hz)]
    · have e : jTw a = jTwo a := if_neg h0
      have n1 : ¬ a.z = 0 := fun x => h0 (.inl x)
      have n2 : ¬ a.y = 0 := fun x => h0 (.inr x)
      rw [e]
      refine view_goL mixed noCount D (fun _ _ _ _ => LOk.none) [false] e2 (paid_append.2 ⟨g8_paid _, paid_cons ?_ Paid.nil⟩) (by rw [tTwo_eq hk]) (by kernel_rfl) ha hi
      rw [z1, z2, decide_eq_false n1, decide_eq_false n2]
      rfl
  · cases h
def hq3 : CallH := withV 34 twS hq2
theorem hq3_ok : HOk Tryd.prog hq3 := hq2_ok.withV fun _ _ _ _ h _ => tw_ok h
theorem pl_1 (a c : J3) : res ((funcL Tryd.prog qn (deep Tryd.prog qn hq3 100 3) (fun _ _ => none) 200 16 (cArgs 0 [.pl (.ints .u64 12 (j3L a)), .pl (.ints .u64 12 (j3L c))]) (cMem [.pl (.ints .u64 12 (j3L a)), .pl (.ints .u64 12 (j3L c))])).go [true]) =
    some ([zB a.z], .ints .u64 12 (j3L c)) := by kernel_rfl
theorem pl_2 (a c : J3) : res ((funcL Tryd.prog qn (deep Tryd.prog qn hq3 100 3) (fun _ _ => none) 200 16 (cArgs 0 [.pl (.ints .u64 12 (j3L a)), .pl (.ints .u64 12 (j3L c))]) (cMem [.pl (.ints .u64 12 (j3L a)), .pl (.ints .u64 12 (j3L c))])).go [false, true]) =
    some ([!zB a.z, zB c.z], .ints .u64 12 (j3L a)) := by kernel_rfl
theorem pl_3 (a c : J3) : res ((funcL Tryd.prog qn (deep Tryd.prog qn hq3 100 3) (fun _ _ => none) 200 16 (cArgs 0 [.pl (.ints .u64 12 (j3L a)), .pl (.ints .u64 12 (j3L c))]) (cMem [.pl (.ints .u64 12 (j3L a)), .pl (.ints .u64 12 (j3L c))])).go [false, false, true, true]) =
    some ([!zB a.z, !zB c.z, zB (pVe a c), zB (pUe a c)], .ints .u64 12 (j3L (jTw (j3V (j3L a))))) := by kernel_rfl
theorem pl_4 (a c : J3) : res ((funcL Tryd.prog qn (deep Tryd.prog qn hq3 100 3) (fun _ _ => none) 200 16 (cArgs 0 [.pl (.ints .u64 12 (j3L a)), .pl (.ints .u64 12 (j3L c))]) (cMem [.pl (.ints .u64 12 (j3L a)), .pl (.ints .u64 12 (j3L c))])).go [false, false, true, false]) =
    some ([!zB a.z, !zB c.z, zB (pVe a c), !zB (pUe a c)], .ints .u64 12 (j3L J3.none)) := by kernel_rfl
theorem pl_5 (a c : J3) : res ((funcL Tryd.prog qn (deep Tryd.prog qn hq3 100 3) (fun _ _ => none) 200 16 (cArgs 0 [.pl (.ints .u64 12 (j3L a)), .pl (.ints .u64 12 (j3L c))]) (cMem [.pl (.ints .u64 12 (j3L a)), .pl (.ints .u64 12 (j3L c))])).go [false, false, false]) =
    some ([!zB a.z, !zB c.z, !zB (pVe a c)], .ints .u64 12 (j3L (pSume a c))) := by kernel_rfl
def plS : List V → E (AV × Mem)
  | [.pl (.ints .u64 12 p), .pl (.ints .u64 12 q)] => some ([], (.ints .u64 12 (j3L (jPl (j3V p) (j3V q))), []))
  | _ => none
theorem pl_ok {xs : List V} {o : List Bool} {v : AV} {bs : Mem} (h : plS xs = some (o, (v, bs))) : ViewCall Tryd.prog 16 xs v bs := by
  have D := hq3_ok.deep (q := qn) mixed noCount 100 3
  unfold plS at h
  split at h
  · rename_i p q
    cases h
    intro ρ vs w ha hi
    have hk : (j3L (j3V p) = p ∧ (j3V p).Ok) ∧ j3L (j3V q) = q ∧ (j3V q).Ok := by
      cases ha with
      | cons _ _ _ _ r0 hr => cases hr with
        | cons _ _ _ _ r1 hr => exact ⟨j3_rep r0, j3_rep r1⟩
    obtain ⟨⟨hb, hk⟩, hb', hk'⟩ := hk
    generalize j3V p = a at *
    generalize j3V q = c at *
    subst hb
    subst hb'
    have z1 := zB_eq hk.2.2
    have z2 := zB_eq hk'.2.2
    obtain ⟨u1, u2⟩ := pU_eq hk hk'
    have z3 : zB (pVe a c) = decide (kV a c = 0) := by rw [u2]; exact zB_eq (in6_ok (in6_s _ _))
    have z4 : zB (pUe a c) = decide (kU a c = 0) := by rw [u1]; exact zB_eq (in6_ok (in6_s _ _))
    have e1 := pl_1 a c
    have e2 := pl_2 a c
    have e3 := pl_3 a c
    have e4 := pl_4 a c
    have e5 := pl_5 a c
    rw [z1] at e1 e2 e3 e4 e5
    rw [z2] at e2 e3 e4 e5
    rw [z3] at e3 e4 e5
    rw [z4] at e3 e4
    unfold jPl
    by_cases h1 : a.z = 0
    · rw [if_pos h1]
      exact view_goL mixed noCount D (fun _ _ _ _ => LOk.none) [true] e1 (paid_cons (decide_eq_true h1) Paid.nil) rfl (by kernel_rfl) ha hi
    · rw [if_neg h1]
      have d1 : (!decide (a.z = 0)) = true := by rw [decide_eq_false h1]; rfl
      by_cases h2 : c.z = 0
      · rw [if_pos h2]
        exact view_goL mixed noCount D (fun _ _ _ _ => LOk.none) [false, true] e2 (paid_cons d1 (paid_cons (decide_eq_true h2) Paid.nil)) rfl (by kernel_rfl) ha hi
      · rw [if_neg h2]
        have d2 : (!decide (c.z = 0)) = true := by rw [decide_eq_false h2]; rfl
        by_cases h3 : kV a c = 0
        · rw [if_pos h3]
          by_cases h4 : kU a c = 0
          · rw [if_pos h4]
            exact view_goL mixed noCount D (fun _ _ _ _ => LOk.none) [false, false, true, true] e3 (paid_cons d1 (paid_cons d2 (paid_cons (decide_eq_true h3) (paid_cons (decide_eq_true h4) Paid.nil)))) (by rw [j3_ok hk]) (by kernel_rfl) ha hi
          · rw [if_neg h4]
            exact view_goL mixed noCount D (fun _ _ _ _ => LOk.none) [false, false, true, false] e4 (paid_cons d1 (paid_cons d2 (paid_cons (decide_eq_true h3) (paid_cons (by rw [decide_eq_false h4]; rfl) Paid.nil)))) rfl (by kernel_rfl) ha hi
        · rw [if_neg h3]
          exact view_goL mixed noCount D (fun _ _ _ _ => LOk.none) [false, false, false] e5 (paid_cons d1 (paid_cons d2 (paid_cons (by rw [decide_eq_false h3]; rfl) Paid.nil))) (by rw [pSum_eq hk hk']) (by kernel_rfl) ha hi
  · cases h
def hq4 : CallH := withV 16 plS hq3
theorem hq4_ok : HOk Tryd.prog hq4 := hq3_ok.withV fun _ _ _ _ h _ => pl_ok h
end Go.Proofs.YtapficdphhfpnaaDoor
