/- Layer 11: points as the program hands them out: opened, closed, fits. Own work. -/
import Derived.Test.YtapficdphhfpnaaDoorTWpB
set_option linter.unusedSimpArgs false
set_option linter.unusedVariables false
set_option linter.unusedSectionVars false
namespace Go.We
open Go.Ev Go.Wn
/-- A point's cells. -/
def ptC (p : Pt) : List AV := [.int true .u64 ((limbs p.x).getD 0 0), .int true .u64 ((limbs p.x).getD 1 0), .int true .u64 ((limbs p.x).getD 2 0), .int true .u64 ((limbs p.x).getD 3 0),
  .int true .u64 ((limbs p.y).getD 0 0), .int true .u64 ((limbs p.y).getD 1 0), .int true .u64 ((limbs p.y).getD 2 0), .int true .u64 ((limbs p.y).getD 3 0), .bool true p.o]
/-- The point of cells. -/
def ptOf : AV → Option Pt
  | .agg [.int _ .u64 a, .int _ .u64 b, .int _ .u64 c, .int _ .u64 d, .int _ .u64 e, .int _ .u64 f, .int _ .u64 g, .int _ .u64 h, .bool _ o] => some ⟨val [a, b, c, d], val [e, f, g, h], o⟩
  | _ => none
def rd (p : Pt) : Pt := ⟨vl p.x, vl p.y, p.o⟩
def Pt.Ok (p : Pt) : Prop := ok6 p.x ∧ ok6 p.y
theorem Pt.In.ok {p : Pt} (h : p.In) : p.Ok := ⟨in6_ok h.1, in6_ok h.2⟩
theorem rd_ok {p : Pt} (h : p.Ok) : rd p = p := by
  unfold rd
  rw [vl_ok h.1, vl_ok h.2]
theorem ok6_of {a b c d : Int} (ha : W a) (hb : W b) (hc : W c) (hd : W d) : ok6 (val [a, b, c, d]) := by
  have := val_range ha hb hc hd
  unfold ok6 M6
  exact this
theorem pt_rep {ρ : Nat → Loc3} {N : Nat → Prop} {x : AV} {p : Pt} {v : Value} (h : ptOf x = some p) (hr : Rep ρ N x v) : Rep ρ N (.agg (ptC p)) v ∧ p.Ok := by
  unfold ptOf at h
  split at h
  · cases h
    cases hr with
    | agg _ us hs =>
      cases hs with
      | cons _ _ _ _ r0 hs => cases hs with
        | cons _ _ _ _ r1 hs => cases hs with
          | cons _ _ _ _ r2 hs => cases hs with
            | cons _ _ _ _ r3 hs => cases hs with
              | cons _ _ _ _ r4 hs => cases hs with
                | cons _ _ _ _ r5 hs => cases hs with
                  | cons _ _ _ _ r6 hs => cases hs with
                    | cons _ _ _ _ r7 hs => cases hs with
                      | cons _ _ _ _ r8 hs =>
                        cases hs
                        cases r0 with
                        | int _ _ _ k0 => cases r1 with
                          | int _ _ _ k1 => cases r2 with
                            | int _ _ _ k2 => cases r3 with
                              | int _ _ _ k3 => cases r4 with
                                | int _ _ _ k4 => cases r5 with
                                  | int _ _ _ k5 => cases r6 with
                                    | int _ _ _ k6 => cases r7 with
                                      | int _ _ _ k7 =>
                                        cases r8
                                        have w : ∀ {x : Int}, inR .u64 x = true → W x := fun h => by rw [inR_iff] at h; simp only [lo, hi] at h; unfold W; omega
                                        refine ⟨?_, ok6_of (w k0) (w k1) (w k2) (w k3), ok6_of (w k4) (w k5) (w k6) (w k7)⟩
                                        unfold ptC
                                        rw [limbs_val (w k0) (w k1) (w k2) (w k3), limbs_val (w k4) (w k5) (w k6) (w k7)]
                                        exact .agg _ _ (.cons _ _ _ _ (.int _ _ _ k0) (.cons _ _ _ _ (.int _ _ _ k1) (.cons _ _ _ _ (.int _ _ _ k2) (.cons _ _ _ _ (.int _ _ _ k3) (.cons _ _ _ _ (.int _ _ _ k4) (.cons _ _ _ _ (.int _ _ _ k5) (.cons _ _ _ _ (.int _ _ _ k6) (.cons _ _ _ _ (.int _ _ _ k7) (.cons _ _ _ _ (.bool _ _) .nil)))))))))
  · cases h
def fitI (x y : Int) : Bool := decide (limbs (mI y y) = limbs (aI (mI x (sI (mI x x) 3)) bI))
theorem limbs_inj {x y : Int} (hx : ok6 x) (hy : ok6 y) : limbs x = limbs y ↔ x = y := by
  refine ⟨fun h => ?_, fun h => by rw [h]⟩
  have h1 : vl x = vl y := by unfold vl; rw [h]
  rwa [vl_ok hx, vl_ok hy] at h1
def R3.Ok (p : R3) : Prop := ok6 p.x ∧ ok6 p.y ∧ ok6 p.z
theorem R3.In.ok {p : R3} (h : p.In) : p.Ok := ⟨in6_ok h.1, in6_ok h.2.1, in6_ok h.2.2⟩
theorem r3_ok' {p : R3} (h : p.Ok) : r3V (r3L p) = p := by
  show (⟨vl p.x, vl p.y, vl p.z⟩ : R3) = p
  rw [vl_ok h.1, vl_ok h.2.1, vl_ok h.2.2]
theorem opn_Ok {a : Pt} (h : a.Ok) : (opn a).Ok := by
  unfold opn
  split
  · exact R3.In.ok ⟨in6_0, in6_1, in6_0⟩
  · exact ⟨h.1, h.2, in6_ok in6_1⟩
end Go.We
namespace Go.Proofs.YtapficdphhfpnaaDoor
open Go.Ev Go.Wn Go.We
set_option maxRecDepth 100000
theorem op_t (p : Pt) : res ((funcL Tryd.prog qn (deep Tryd.prog qn hp2 100 3) (fun _ _ => none) 100 39 (cArgs 0 [.pl (.agg (ptC p))]) (cMem [.pl (.agg (ptC p))])).go [true]) =
    some ([p.o], .ints .u64 12 (r3L R3.none)) := by kernel_rfl
theorem op_f (p : Pt) : res ((funcL Tryd.prog qn (deep Tryd.prog qn hp2 100 3) (fun _ _ => none) 100 39 (cArgs 0 [.pl (.agg (ptC p))]) (cMem [.pl (.agg (ptC p))])).go [false]) =
    some ([!p.o], .ints .u64 12 (r3L ⟨p.x, p.y, 1⟩)) := by kernel_rfl
theorem cl_t (p : R3) : seeV 0 ((funcL Tryd.prog qn (deep Tryd.prog qn hp2 100 3) (fun _ _ => none) 100 37 (uArgs [.pl (.ints .u64 12 (r3L p))]) (uMem pC [.pl (.ints .u64 12 (r3L p))])).go [true]) =
    some ([decide (limbs p.z = [0, 0, 0, 0])], .agg [.int false .u64 0, .int false .u64 0, .int false .u64 0, .int false .u64 0, .int false .u64 0, .int false .u64 0, .int false .u64 0, .int false .u64 0, .bool false true], some (some ⟨false, pC⟩)) := by kernel_rfl
theorem cl_f (p : R3) : seeV 0 ((funcL Tryd.prog qn (deep Tryd.prog qn hp2 100 3) (fun _ _ => none) 100 37 (uArgs [.pl (.ints .u64 12 (r3L p))]) (uMem pC [.pl (.ints .u64 12 (r3L p))])).go [false]) =
    some ([!decide (limbs p.z = [0, 0, 0, 0]), true, true, true], .agg ((ptC ⟨mI p.x (pI p.z), mI p.y (pI p.z), false⟩).take 8 ++ [.bool false false]), some (some ⟨false, pC⟩)) := by kernel_rfl
theorem ft_eval (x y : Int) : seeV 0 ((funcL Tryd.prog qn (deep Tryd.prog qn hp2 100 3) (fun _ _ => none) 100 46 (uArgs [.pl (.ints .u64 4 (limbs x)), .pl (.ints .u64 4 (limbs y))]) (uMem pC [.pl (.ints .u64 4 (limbs x)), .pl (.ints .u64 4 (limbs y))])).go []) =
    some ([true, true, true, true, true], .bool true (fitI x y), some (some ⟨false, pC⟩)) := by kernel_rfl
theorem ViewCall.of_args {g : FuncId} {xs ys : List V} {v : AV} {bs : Mem} (h : ViewCall Tryd.prog g ys v bs) (hl : xs.length = ys.length) (hm : cMem xs = cMem ys) (ha : ∀ {ρ : Nat → Loc3} {vs : List Value}, Reps ρ (upto xs.length) (cArgs 0 xs) vs → Reps ρ (upto xs.length) (cArgs 0 ys) vs) : ViewCall Tryd.prog g xs v bs := by
  intro ρ vs w h1 h2
  have := h (w := w) (ρ := ρ) (vs := vs) (by rw [← hl]; exact ha h1) (by rw [← hl, ← hm]; exact h2)
  rw [← hl, ← hm] at this
  exact this
def opS : List V → E (AV × Mem)
  | [.pl x] => (match ptOf x with | some p => some ([], (.ints .u64 12 (r3L (opn p)), [])) | none => none)
  | _ => none
theorem op_ok {xs : List V} {o : List Bool} {v : AV} {bs : Mem} (h : opS xs = some (o, (v, bs))) : ViewCall Tryd.prog 39 xs v bs := by
  have D := hp2_ok.deep (q := qn) mixed noCount 100 3
  unfold opS at h
  split at h
  · rename_i x
    split at h
    · rename_i p hp
      cases h
      refine @ViewCall.of_args _ _ [.pl (.agg (ptC p))] _ _ (fun {ρ vs w} ha hi => ?_) rfl rfl fun ha => ?_
      · cases ho : p.o with
        | true =>
          have e := op_t p
          rw [ho] at e
          have e2 : opn p = R3.none := by unfold opn; rw [ho]
          rw [e2]
          exact view_goL mixed noCount D (fun _ _ _ _ => LOk.none) [true] e (paid_cons rfl Paid.nil) rfl (by kernel_rfl) ha hi
        | false =>
          have e := op_f p
          rw [ho] at e
          have e2 : opn p = ⟨p.x, p.y, 1⟩ := by unfold opn; rw [ho]
          rw [e2]
          exact view_goL mixed noCount D (fun _ _ _ _ => LOk.none) [false] e (paid_cons rfl Paid.nil) rfl (by kernel_rfl) ha hi
      · cases ha with
        | cons _ _ _ _ r0 hr => exact .cons _ _ _ _ (pt_rep hp r0).1 hr
    · cases h
  · cases h
def clS : Cells → List V → E (AV × Mem)
  | .ints .u64 (some 9) L, [.pl (.ints .u64 12 p)] => some ([isP L], (.agg (ptC (cls (r3V p))), []))
  | _, _ => none
theorem limbs_zero {x : Int} (h : ok6 x) : limbs x = [0, 0, 0, 0] ↔ x = 0 := limbs_inj (y := 0) h (in6_ok in6_0)
theorem r3_args {ρ : Nat → Loc3} {N : Nat → Prop} {l : List Int} {v : Value} (h : Rep ρ N (.ints .u64 12 l) v) : (r3V l).Ok := by
  cases h with | ints _ _ _ hn hr =>
    obtain ⟨x0, x1, x2, x3, x4, x5, x6, x7, x8, x9, xa, xb, rfl⟩ := twelve hn
    simp only [List.forall_mem_cons, List.not_mem_nil, false_implies, implies_true, and_true] at hr
    obtain ⟨k0, k1, k2, k3, k4, k5, k6, k7, k8, k9, ka, kb⟩ := hr
    exact ⟨ok6_of (inR_W k0) (inR_W k1) (inR_W k2) (inR_W k3), ok6_of (inR_W k4) (inR_W k5) (inR_W k6) (inR_W k7), ok6_of (inR_W k8) (inR_W k9) (inR_W ka) (inR_W kb)⟩
theorem clS_ok {c : Cells} {xs : List V} {o : List Bool} {v : AV} {bs : Mem} (h : clS c xs = some (o, (v, bs))) (ho : Paid o) : RCall Tryd.prog 37 (uArgs xs) (uMem c xs) v bs := by
  have D := hp2_ok.deep (q := qn) mixed noCount 100 3
  unfold clS at h
  split at h
  · rename_i L p
    cases h
    obtain rfl := q_paid ho
    intro ρ vs w ha hi
    have h2 := ha
    cases h2 with
    | cons _ _ _ _ _ h2 => cases h2 with
      | cons _ _ _ _ r1 h2 =>
        have hb := r3_rep r1
        have hk := r3_args r1
        rw [← hb] at ha hi
        have hz := limbs_zero hk.2.2
        generalize r3V p = s at *
        by_cases h0 : s.z = 0
        · have e := cl_t s
          rw [decide_eq_true (hz.2 h0)] at e
          have e2 : cls s = Pt.none := if_pos h0
          rw [e2]
          exact RCall.mark (.agg [.int false .u64 0, .int false .u64 0, .int false .u64 0, .int false .u64 0, .int false .u64 0, .int false .u64 0, .int false .u64 0, .int false .u64 0, .bool false true]) (.agg (ptC Pt.none)) (fun ha hi => rcall_none mixed noCount D (lo1 _) [true] 0 e (paid_cons rfl Paid.nil) rfl rfl rfl rfl ha hi)
            (.two (.agg (.cons (.int _ _ _) (.cons (.int _ _ _) (.cons (.int _ _ _) (.cons (.int _ _ _) (.cons (.int _ _ _) (.cons (.int _ _ _) (.cons (.int _ _ _) (.cons (.int _ _ _) (.cons (.bool _ _) .nil))))))))))) rfl rfl ha hi
        · have e := cl_f s
          rw [decide_eq_false (fun x => h0 (hz.1 x))] at e
          have e2 : cls s = ⟨mI s.x (pI s.z), mI s.y (pI s.z), false⟩ := if_neg h0
          rw [e2]
          exact RCall.mark (.agg ((ptC ⟨mI s.x (pI s.z), mI s.y (pI s.z), false⟩).take 8 ++ [.bool false false])) (.agg (ptC ⟨mI s.x (pI s.z), mI s.y (pI s.z), false⟩)) (fun ha hi => rcall_none mixed noCount D (lo1 _) [false] 0 e (rep_true 4) rfl rfl rfl rfl ha hi)
            (.two (.agg (.cons (.refl _) (.cons (.refl _) (.cons (.refl _) (.cons (.refl _) (.cons (.refl _) (.cons (.refl _) (.cons (.refl _) (.cons (.refl _) (.cons (.bool _ _) .nil))))))))))) rfl rfl ha hi
  · cases h
def ftS : Cells → List V → E (AV × Mem)
  | .ints .u64 (some 9) L, [.pl (.ints .u64 4 x), .pl (.ints .u64 4 y)] => some ([isP L], (.bool true (fitI (val x) (val y)), []))
  | _, _ => none
theorem ftS_ok {c : Cells} {xs : List V} {o : List Bool} {v : AV} {bs : Mem} (h : ftS c xs = some (o, (v, bs))) (ho : Paid o) : RCall Tryd.prog 46 (uArgs xs) (uMem c xs) v bs := by
  unfold ftS at h
  split at h
  · rename_i L x y
    cases h
    obtain rfl := q_paid ho
    intro ρ vs w ha hi
    have h2 := ha
    cases h2 with
    | cons _ _ _ _ _ h2 => cases h2 with
      | cons _ _ _ _ r1 h2 => cases h2 with
        | cons _ _ _ _ r2 h2 =>
          obtain ⟨a, b, c, d, rfl, w0, w1, w2, w3⟩ := num_arg r1
          obtain ⟨e, f, g, h, rfl, u0, u1, u2, u3⟩ := num_arg r2
          have ev := ft_eval (val [a, b, c, d]) (val [e, f, g, h])
          rw [limbs_val w0 w1 w2 w3, limbs_val u0 u1 u2 u3] at ev
          exact rcall_none mixed noCount (hp2_ok.deep mixed noCount 100 3) (lo1 _) [] 0 ev (rep_true 5) rfl rfl rfl rfl ha hi
  · cases h
def hp3 : CallH := withU 46 ftS (withU 37 clS (withV 39 opS hp2))
theorem hp3_ok : HOk Tryd.prog hp3 := ((hp2_ok.withV fun _ _ _ _ h _ => op_ok h).withU fun _ _ _ _ _ h ho => clS_ok h ho).withU fun _ _ _ _ _ h ho => ftS_ok h ho
end Go.Proofs.YtapficdphhfpnaaDoor
