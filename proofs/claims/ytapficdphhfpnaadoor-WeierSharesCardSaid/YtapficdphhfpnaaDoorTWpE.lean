/- Layer 11: Add, Mult, On of the program: contracts. Own work. -/
import Derived.Test.YtapficdphhfpnaaDoorTWpC
import Derived.Test.YtapficdphhfpnaaDoorTEvNone
set_option linter.unusedSimpArgs false
set_option linter.unusedVariables false
set_option linter.unusedSectionVars false
namespace Go.We
open Go.Ev Go.Wn
def onB (p : Pt) : Bool := match p.o with
  | true => decide (p.x = 0) && decide (p.y = 0)
  | false => decide (p.x < I6) && (decide (p.y < I6) && fitI p.x p.y)
def onZ (p : Pt) : Bool := decide (limbs p.x = [0, 0, 0, 0]) && (decide (limbs p.y = [0, 0, 0, 0]) && ((p.o == true) && true))
def onX (p : Pt) : Bool := decide (vl p.x < val primeL)
def onY (p : Pt) : Bool := decide (vl p.y < val primeL)
theorem vPr : val primeL = I6 := by decide +kernel
end Go.We
namespace Go.Proofs.YtapficdphhfpnaaDoor
open Go.Ev Go.Wn Go.We
set_option maxRecDepth 100000
theorem ad_eval (p q : Pt) : res ((funcL Tryd.prog qn (deep Tryd.prog qn hp3 100 3) (fun _ _ => none) 100 15 (cArgs 0 [.pl (.agg (ptC p)), .pl (.agg (ptC q))]) (cMem [.pl (.agg (ptC p)), .pl (.agg (ptC q))])).go []) =
    some (List.replicate 4 true, .agg (ptC (cls (r3V (r3L (rS (r3V (r3L (opn (rd p)))) (r3V (r3L (opn (rd q)))))))))) := by kernel_rfl
theorem mu_eval (n : List Int) (p : Pt) : res ((funcL Tryd.prog qn (deep Tryd.prog qn hp3 100 3) (fun _ _ => none) 100 12 (cArgs 0 [.pl (.ints .u64 4 n), .pl (.agg (ptC p))]) (cMem [.pl (.ints .u64 4 n), .pl (.agg (ptC p))])).go []) =
    some (List.replicate 4 true, .agg (ptC (cls (r3V (r3L (rMul (val n) (r3V (r3L (opn (rd p)))))))))) := by kernel_rfl
def qo1 (f : FuncId) : Bool := !([2000000013, 2000000014, 2000000015, 2000000016, 4000000017, 2000000019, 2000000020, 2000000021, 2000000022, 2000000023, 2000000024, 4000000025].any fun d => Nat.beq f d)
def qo2 (f : FuncId) : Bool := !([2000000019, 2000000020, 2000000021, 2000000022, 2000000023, 2000000024, 4000000025].any fun d => Nat.beq f d)
def qAs (_ : FuncId) : Bool := true
theorem on_z (p : Pt) : res ((funcL Tryd.prog qn (deep Tryd.prog qn hp3 100 3) (fun _ _ => none) 100 17 (cArgs 0 [.pl (.agg (ptC p))]) (cMem [.pl (.agg (ptC p))])).go [true]) =
    some ([p.o], .bool true (onZ p)) := by kernel_rfl
theorem on_1 (p : Pt) : res ((funcL Tryd.prog qo1 (deep Tryd.prog qn hp3 100 3) (fun _ _ => none) 100 17 (cArgs 0 [.pl (.agg (ptC p))]) (cMem [.pl (.agg (ptC p))])).go [false]) =
    some ((!p.o) :: List.replicate 5 (!onX p), .bool false false) := by kernel_rfl
theorem on_2 (p : Pt) : res ((funcL Tryd.prog qo2 (deep Tryd.prog qn hp3 100 3) (fun _ _ => none) 100 17 (cArgs 0 [.pl (.agg (ptC p))]) (cMem [.pl (.agg (ptC p))])).go [false]) =
    some ((!p.o) :: (List.replicate 5 (onX p) ++ List.replicate 7 (!onY p)), .bool false false) := by kernel_rfl
theorem on_3 (p : Pt) : res ((funcL Tryd.prog qAs (deep Tryd.prog qn hp3 100 3) (fun _ _ => none) 100 17 (cArgs 0 [.pl (.agg (ptC p))]) (cMem [.pl (.agg (ptC p))])).go [false]) =
    some ((!p.o) :: (List.replicate 5 (onX p) ++ [onY p, true, true, onY p, onY p, onY p, onY p, onY p, true, onY p]), .bool true (fitI (vl p.x) (vl p.y))) := by kernel_rfl
def adS : List V → E (AV × Mem)
  | [.pl x, .pl y] => (match ptOf x, ptOf y with | some p, some q => some ([], (.agg (ptC (addP p q)), [])) | _, _ => none)
  | _ => none
theorem ad_ok {xs : List V} {o : List Bool} {v : AV} {bs : Mem} (h : adS xs = some (o, (v, bs))) : ViewCall Tryd.prog 15 xs v bs := by
  have D := hp3_ok.deep (q := qn) mixed noCount 100 3
  unfold adS at h
  split at h
  · rename_i x y
    split at h
    · rename_i p q hp hq
      cases h
      intro ρ vs w ha0 hi0
      have hk : p.Ok ∧ q.Ok := by
        cases ha0 with
        | cons _ _ _ _ r0 hr => cases hr with
          | cons _ _ _ _ r1 hr => exact ⟨(pt_rep hp r0).2, (pt_rep hq r1).2⟩
      have e : cls (r3V (r3L (rS (r3V (r3L (opn (rd p)))) (r3V (r3L (opn (rd q))))))) = addP p q := by
        rw [rd_ok hk.1, rd_ok hk.2, r3_ok' (opn_Ok hk.1), r3_ok' (opn_Ok hk.2), r3_ok (rS_In _ _)]
        rfl
      have ha : Reps ρ (upto 2) (cArgs 0 [.pl (.agg (ptC p)), .pl (.agg (ptC q))]) vs := by
        cases ha0 with
        | cons _ _ _ _ r0 hr => cases hr with
          | cons _ _ _ _ r1 hr => exact .cons _ _ _ _ (pt_rep hp r0).1 (.cons _ _ _ _ (pt_rep hq r1).1 hr)
      exact view_goL (xs := [.pl (.agg (ptC p)), .pl (.agg (ptC q))]) mixed noCount D (fun _ _ _ _ => LOk.none) [] (ad_eval p q) (rep_true _) (by rw [e]) (by kernel_rfl) ha hi0
    · cases h
  · cases h
theorem rMul_In (N : Int) (p : R3) : (rMul N p).In := rPr_In N p 256
def muS : List V → E (AV × Mem)
  | [.pl (.ints .u64 4 n), .pl x] => (match ptOf x with | some p => some ([], (.agg (ptC (mulP (val n) p)), [])) | none => none)
  | _ => none
theorem mu_ok {xs : List V} {o : List Bool} {v : AV} {bs : Mem} (h : muS xs = some (o, (v, bs))) : ViewCall Tryd.prog 12 xs v bs := by
  have D := hp3_ok.deep (q := qn) mixed noCount 100 3
  unfold muS at h
  split at h
  · rename_i n x
    split at h
    · rename_i p hp
      cases h
      intro ρ vs w ha0 hi0
      have hk : p.Ok := by
        cases ha0 with
        | cons _ _ _ _ r0 hr => cases hr with
          | cons _ _ _ _ r1 hr => exact (pt_rep hp r1).2
      have e : cls (r3V (r3L (rMul (val n) (r3V (r3L (opn (rd p))))))) = mulP (val n) p := by
        rw [rd_ok hk, r3_ok' (opn_Ok hk), r3_ok (rMul_In _ _)]
        rfl
      have ha : Reps ρ (upto 2) (cArgs 0 [.pl (.ints .u64 4 n), .pl (.agg (ptC p))]) vs := by
        cases ha0 with
        | cons _ _ _ _ r0 hr => cases hr with
          | cons _ _ _ _ r1 hr => exact .cons _ _ _ _ r0 (.cons _ _ _ _ (pt_rep hp r1).1 hr)
      exact view_goL (xs := [.pl (.ints .u64 4 n), .pl (.agg (ptC p))]) mixed noCount D (fun _ _ _ _ => LOk.none) [] (mu_eval n p) (rep_true _) (by rw [e]) (by kernel_rfl) ha hi0
    · cases h
  · cases h
theorem onX_eq {p : Pt} (h : p.Ok) : onX p = decide (p.x < I6) := by unfold onX; rw [vl_ok h.1, vPr]
theorem onY_eq {p : Pt} (h : p.Ok) : onY p = decide (p.y < I6) := by unfold onY; rw [vl_ok h.2, vPr]
theorem rep_b {b : Bool} (h : b = true) (k : Nat) : Paid (List.replicate k b) := fun x hx => by rw [(List.mem_replicate.1 hx).2]; exact h
def onS : List V → E (AV × Mem)
  | [.pl x] => (match ptOf x with | some p => some ([], (.bool true (onB p), [])) | none => none)
  | _ => none
theorem on_ok {xs : List V} {o : List Bool} {v : AV} {bs : Mem} (h : onS xs = some (o, (v, bs))) : ViewCall Tryd.prog 17 xs v bs := by
  have D := hp3_ok.deep (q := qn) mixed noCount 100 3
  unfold onS at h
  split at h
  · rename_i x
    split at h
    · rename_i p hp
      cases h
      intro ρ vs w ha0 hi0
      have hk : p.Ok := by
        cases ha0 with
        | cons _ _ _ _ r0 hr => exact (pt_rep hp r0).2
      have ha1 : Reps ρ (upto 1) (cArgs 0 [.pl (.agg (ptC p))]) vs := by
        cases ha0 with
        | cons _ _ _ _ r0 hr => exact .cons _ _ _ _ (pt_rep hp r0).1 hr
      have key : ViewCall Tryd.prog 17 [.pl (.agg (ptC p))] (.bool true (onB p)) [] := by
        have mark : ∀ {b : Bool}, ViewCall Tryd.prog 17 [.pl (.agg (ptC p))] (.bool false b) [] → ViewCall Tryd.prog 17 [.pl (.agg (ptC p))] (.bool true b) [] := fun h => @ViewCall.marked _ _ _ _ _ _ _ @h (.two (.one (.bool _ _))) rfl rfl
        cases ho : p.o with
        | true =>
          have ev := on_z p
          have e : onZ p = onB p := by
            unfold onZ onB
            rw [ho]
            simp only
            have a1 : decide (limbs p.x = [0, 0, 0, 0]) = decide (p.x = 0) := decide_eq_decide.2 (limbs_zero hk.1)
            have a2 : decide (limbs p.y = [0, 0, 0, 0]) = decide (p.y = 0) := decide_eq_decide.2 (limbs_zero hk.2)
            rw [a1, a2]
            simp
          rw [e, ho] at ev
          exact fun {_ _ _} ha hi => view_goL mixed noCount D (fun _ _ _ _ => LOk.none) [true] ev (paid_cons rfl Paid.nil) rfl (by kernel_rfl) ha hi
        | false =>
          have eB : onB p = (onX p && (onY p && fitI p.x p.y)) := by unfold onB; rw [ho, onX_eq hk, onY_eq hk]
          rw [eB]
          cases hx : onX p with
          | false =>
            have ev := on_1 p
            rw [ho, hx] at ev
            exact @mark _ (fun ha hi => view_goL mixed noCount D (fun _ _ _ _ => LOk.none) [false] ev (paid_cons rfl (rep_b rfl _)) rfl (by kernel_rfl) ha hi)
          | true => cases hy : onY p with
            | false =>
              have ev := on_2 p
              rw [ho, hx, hy] at ev
              exact @mark _ (fun ha hi => view_goL mixed noCount D (fun _ _ _ _ => LOk.none) [false] ev (paid_cons rfl (paid_append.2 ⟨rep_b rfl _, rep_b rfl _⟩)) rfl (by kernel_rfl) ha hi)
            | true =>
              have ev := on_3 p
              rw [ho, hx, hy, vl_ok hk.1, vl_ok hk.2] at ev
              exact fun {_ _ _} ha hi => view_goL mixed noCount D (fun _ _ _ _ => LOk.none) [false] ev (paid_cons rfl (paid_append.2 ⟨rep_b rfl _, rep_true 10⟩)) rfl (by kernel_rfl) ha hi
      exact key ha1 hi0
    · cases h
  · cases h
def hp4 : CallH := withV 17 onS (withV 12 muS (withV 15 adS hp3))
theorem hp4_ok : HOk Tryd.prog hp4 := ((hp3_ok.withV fun _ _ _ _ h _ => ad_ok h).withV fun _ _ _ _ h _ => mu_ok h).withV fun _ _ _ _ h _ => on_ok h
end Go.Proofs.YtapficdphhfpnaaDoor
namespace Go.We
open Go.Ev Go.Wn
def zeP : List AV := [.int false .u64 0, .int false .u64 0, .int false .u64 0, .int false .u64 0, .int false .u64 0, .int false .u64 0, .int false .u64 0, .int false .u64 0, .bool false false]
end Go.We
namespace Go.Proofs.YtapficdphhfpnaaDoor
open Go.Ev Go.Wn Go.We
set_option maxRecDepth 100000
/-- A point's bytes. -/
def enB (p : Pt) : List Int := 4 :: (bytesL (limbs p.x) ++ bytesL (limbs p.y))
def dcX (l : List Int) : List Int := bigL ((l.drop 1).take 32)
def dcY (l : List Int) : List Int := bigL ((l.drop 33).take 32)
def ptL (l : List Int) : Pt := ⟨val (dcX l), val (dcY l), false⟩
def scT (l : List Int) : Bool := match decide (bigL l = [0, 0, 0, 0]) with
  | true => true
  | false => !decide (val (bigL l) < val orderL)
def dcC (l : List Int) : List AV := [.int true .u64 ((dcX l).getD 0 0), .int true .u64 ((dcX l).getD 1 0), .int true .u64 ((dcX l).getD 2 0), .int true .u64 ((dcX l).getD 3 0), .int true .u64 ((dcY l).getD 0 0), .int true .u64 ((dcY l).getD 1 0), .int true .u64 ((dcY l).getD 2 0), .int true .u64 ((dcY l).getD 3 0), .bool false false]
def g8 (z : Bool) : List Bool := [!(!z) || !z, !(!z) || !z, !(!z) || !z, z || !z]
theorem g8_paid (z : Bool) : Paid (g8 z) := by cases z <;> exact List.all_eq_true.1 rfl
def gN (n : Nat) (l : List Int) : List Bool := [decide (n < 9223372036854775808), !(!((n : Int) != 65)) || (decide ((0 : Int) ≤ 0) && decide ((0 : Int) < n)), !(!((n : Int) != 65)) || !((n : Int) != 65), !(!((n : Int) != 65)) || decide (0 + 1 ≤ n), !(!((n : Int) != 65)) || !((n : Int) != 65), !(!((n : Int) != 65)) || !((n : Int) != 65), ((n : Int) != 65) || !((n : Int) != 65),
  match (n : Int) != 65 with
  | true => true
  | false => l.getD 0 0 != 4]
theorem gN_paid {n : Nat} {l : List Int} (h1 : n < 9223372036854775808) (h2 : (n : Int) ≠ 65) : Paid (gN n l) := by
  have e : ((n : Int) != 65) = true := by simpa using h2
  unfold gN
  rw [e, decide_eq_true h1]
  exact List.all_eq_true.1 rfl
theorem en_t (p : Pt) : seeV 0 ((funcL Tryd.prog qn (deep Tryd.prog qn hp4 100 5) (fun _ _ => none) 200 20 (cArgs 0 [.pl (.agg (ptC p))]) (cMem [.pl (.agg (ptC p))])).go [true]) =
    some ([p.o], .nilslice, some none) := by kernel_rfl
theorem en_f (p : Pt) : seeV 9 ((funcL Tryd.prog qn (deep Tryd.prog qn hp4 100 5) (fun _ _ => none) 200 20 (cArgs 0 [.pl (.agg (ptC p))]) (cMem [.pl (.agg (ptC p))])).go [false]) =
    some ([!p.o], .slice false 9 0 65 none 1, some (some ⟨true, .ints .u8 (some 65) (enB p)⟩)) := by kernel_rfl
theorem dc_3 (l : List Int) : seeV 0 ((funcL Tryd.prog qn (deep Tryd.prog qn hp4 100 5) (fun _ _ => none) 200 18 (cArgs 0 [.buf false .u8 65 l]) (cMem [.buf false .u8 65 l])).go [true]) =
    some ([l.getD 0 0 != 4], .tuple [.agg zeP, .int false .i64 3], some (some ⟨false, .ints .u8 (some 65) l⟩)) := by kernel_rfl
theorem dc_4 (l : List Int) : seeV 0 ((funcL Tryd.prog qn (deep Tryd.prog qn hp4 100 5) (fun _ _ => none) 200 18 (cArgs 0 [.buf false .u8 65 l]) (cMem [.buf false .u8 65 l])).go [false, true]) =
    some ([!(l.getD 0 0 != 4), !onB (ptL l)], .tuple [.agg zeP, .int false .i64 4], some (some ⟨false, .ints .u8 (some 65) l⟩)) := by kernel_rfl
theorem dc_0 (l : List Int) : seeV 0 ((funcL Tryd.prog qn (deep Tryd.prog qn hp4 100 5) (fun _ _ => none) 200 18 (cArgs 0 [.buf false .u8 65 l]) (cMem [.buf false .u8 65 l])).go [false, false]) =
    some ([!(l.getD 0 0 != 4), !(!onB (ptL l))], .tuple [.agg (dcC l), .int false .i64 0], some (some ⟨false, .ints .u8 (some 65) l⟩)) := by kernel_rfl
theorem dc_b (n : Nat) (l : List Int) : seeV 0 ((funcL Tryd.prog qn (deep Tryd.prog qn hp4 100 5) (fun _ _ => none) 200 18 (cArgs 0 [.buf true .u8 n l]) (cMem [.buf true .u8 n l])).go [true]) =
    some (gN n l, .tuple [.agg zeP, .int false .i64 3], some (some ⟨false, .ints .u8 (some n) l⟩)) := by kernel_rfl
theorem dc_n  : seeV 0 ((funcL Tryd.prog qn (deep Tryd.prog qn hp4 100 5) (fun _ _ => none) 200 18 (cArgs 0 [.pl .nilslice]) (cMem [.pl .nilslice])).go []) =
    some ([], .tuple [.agg zeP, .int false .i64 3], some none) := by kernel_rfl
theorem dc_e  : seeV 0 ((funcL Tryd.prog qn (deep Tryd.prog qn hp4 100 5) (fun _ _ => none) 200 18 (cArgs 0 [.empty]) (cMem [.empty])).go []) =
    some ([], .tuple [.agg zeP, .int false .i64 3], some none) := by kernel_rfl
theorem sc_1 (l : List Int) : seeV 0 ((funcL Tryd.prog qn (deep Tryd.prog qn hp4 100 5) (fun _ _ => none) 200 24 (cArgs 0 [.buf false .u8 32 l]) (cMem [.buf false .u8 32 l])).go [true]) =
    some (g8 (decide (bigL l = [0, 0, 0, 0])) ++ [scT l], .tuple [.ints .u64 4 [0, 0, 0, 0], .int false .i64 1], some (some ⟨false, .ints .u8 (some 32) l⟩)) := by kernel_rfl
theorem sc_0 (l : List Int) : seeV 0 ((funcL Tryd.prog qn (deep Tryd.prog qn hp4 100 5) (fun _ _ => none) 200 24 (cArgs 0 [.buf false .u8 32 l]) (cMem [.buf false .u8 32 l])).go [false]) =
    some (g8 (decide (bigL l = [0, 0, 0, 0])) ++ [!scT l], .tuple [.ints .u64 4 (bigL l), .int false .i64 0], some (some ⟨false, .ints .u8 (some 32) l⟩)) := by kernel_rfl
theorem sc_b (n : Nat) (l : List Int) : seeV 0 ((funcL Tryd.prog qn (deep Tryd.prog qn hp4 100 5) (fun _ _ => none) 200 24 (cArgs 0 [.buf true .u8 n l]) (cMem [.buf true .u8 n l])).go []) =
    some ([decide (0 + n ≤ n), !decide ((n : Int) = 32), decide (n < 9223372036854775808)], .tuple [.ints .u64 4 [0, 0, 0, 0], .int false .i64 2], some (some ⟨false, .ints .u8 (some n) l⟩)) := by kernel_rfl
theorem sc_n  : seeV 0 ((funcL Tryd.prog qn (deep Tryd.prog qn hp4 100 5) (fun _ _ => none) 200 24 (cArgs 0 [.pl .nilslice]) (cMem [.pl .nilslice])).go []) =
    some ([], .tuple [.ints .u64 4 [0, 0, 0, 0], .int false .i64 2], some none) := by kernel_rfl
theorem sc_e  : seeV 0 ((funcL Tryd.prog qn (deep Tryd.prog qn hp4 100 5) (fun _ _ => none) 200 24 (cArgs 0 [.empty]) (cMem [.empty])).go []) =
    some ([], .tuple [.ints .u64 4 [0, 0, 0, 0], .int false .i64 2], some none) := by kernel_rfl
def enS (b : Bool) : List V → E (AV × Mem)
  | [.pl x] => (match ptOf x with
    | some p => (match b with
      | true => some ([p.o], (.nilslice, []))
      | false => some ([!p.o], (.slice false 0 0 65 none 1, [some ⟨true, .ints .u8 (some 65) (enB p)⟩])))
    | none => none)
  | _ => none
theorem en_ok {b : Bool} {xs : List V} {o : List Bool} {v : AV} {bs : Mem} (h : enS b xs = some (o, (v, bs))) (ho : Paid o) : ViewCall Tryd.prog 20 xs v bs := by
  have D := hp4_ok.deep (q := qn) mixed noCount 100 5
  unfold enS at h
  split at h
  · rename_i x
    split at h
    · rename_i p hp
      intro ρ vs w ha0 hi
      have ha : Reps ρ (upto 1) (cArgs 0 [.pl (.agg (ptC p))]) vs := by
        cases ha0 with
        | cons _ _ _ _ r0 hr => exact .cons _ _ _ _ (pt_rep hp r0).1 hr
      split at h
      · cases h
        exact viewN_none (xs := [.pl (.agg (ptC p))]) mixed noCount D (lo1 _) [true] 0 (en_t p) ho rfl rfl rfl rfl ha hi
      · cases h
        exact viewN_one (xs := [.pl (.agg (ptC p))]) mixed noCount D (lo1 _) [false] 9 (en_f p) ho (show 1 ≤ 9 by decide) rfl rfl ha hi
    · cases h
  · cases h
def dcS (k : Nat) : List V → E (AV × Mem)
  | [.buf false .u8 65 l] => (match k with
    | 3 => some ([l.getD 0 0 != 4], (.tuple [.agg zeP, .int false .i64 3], []))
    | 4 => some ([!(l.getD 0 0 != 4), !onB (ptL l)], (.tuple [.agg zeP, .int false .i64 4], []))
    | 0 => some ([!(l.getD 0 0 != 4), onB (ptL l)], (.tuple [.agg (dcC l), .int false .i64 0], []))
    | _ => none)
  | [.buf true .u8 n _] => some ([decide (n < 9223372036854775808), (n : Int) != 65], (.tuple [.agg zeP, .int false .i64 3], []))
  | [.pl .nilslice] => some ([], (.tuple [.agg zeP, .int false .i64 3], []))
  | [.empty] => some ([], (.tuple [.agg zeP, .int false .i64 3], []))
  | _ => none
theorem dc_ok {k : Nat} {xs : List V} {o : List Bool} {v : AV} {bs : Mem} (h : dcS k xs = some (o, (v, bs))) (ho : Paid o) : ViewCall Tryd.prog 18 xs v bs := by
  have D := hp4_ok.deep (q := qn) mixed noCount 100 5
  unfold dcS at h
  split at h
  · rename_i l
    split at h
    · cases h
      intro ρ vs w ha hi
      exact viewN_none mixed noCount D (lo1 _) [true] 0 (dc_3 l) ho rfl rfl rfl rfl ha hi
    · cases h
      intro ρ vs w ha hi
      exact viewN_none mixed noCount D (lo1 _) [false, true] 0 (dc_4 l) ho rfl rfl rfl rfl ha hi
    · cases h
      intro ρ vs w ha hi
      exact viewN_none mixed noCount D (lo1 _) [false, false] 0 (dc_0 l) (by rw [Bool.not_not]; exact ho) rfl rfl rfl rfl ha hi
    · cases h
  · rename_i n l
    cases h
    intro ρ vs w ha hi
    have h1 := of_decide_eq_true (ho _ (List.mem_cons_self ..))
    have h2 := ho _ (List.mem_cons_of_mem _ (List.mem_cons_self ..))
    exact viewN_none mixed noCount D (lo1 _) [true] 0 (dc_b n l) (gN_paid h1 (by simpa using h2)) rfl rfl rfl rfl ha hi
  · cases h
    intro ρ vs w ha hi
    exact viewN_none mixed noCount D (lo1 _) [] 0 dc_n Paid.nil rfl rfl rfl rfl ha hi
  · cases h
    intro ρ vs w ha hi
    exact viewN_none mixed noCount D (lo1 _) [] 0 dc_e Paid.nil rfl rfl rfl rfl ha hi
  · cases h
def scS (k : Nat) : List V → E (AV × Mem)
  | [.buf false .u8 32 l] => (match k with
    | 1 => some ([scT l], (.tuple [.ints .u64 4 [0, 0, 0, 0], .int false .i64 1], []))
    | 0 => some ([!scT l], (.tuple [.ints .u64 4 (bigL l), .int false .i64 0], []))
    | _ => none)
  | [.buf true .u8 n _] => some ([decide (n < 9223372036854775808), (n : Int) != 32], (.tuple [.ints .u64 4 [0, 0, 0, 0], .int false .i64 2], []))
  | [.pl .nilslice] => some ([], (.tuple [.ints .u64 4 [0, 0, 0, 0], .int false .i64 2], []))
  | [.empty] => some ([], (.tuple [.ints .u64 4 [0, 0, 0, 0], .int false .i64 2], []))
  | _ => none
theorem sc_ok {k : Nat} {xs : List V} {o : List Bool} {v : AV} {bs : Mem} (h : scS k xs = some (o, (v, bs))) (ho : Paid o) : ViewCall Tryd.prog 24 xs v bs := by
  have D := hp4_ok.deep (q := qn) mixed noCount 100 5
  unfold scS at h
  split at h
  · rename_i l
    split at h
    · cases h
      intro ρ vs w ha hi
      exact viewN_none mixed noCount D (lo1 _) [true] 0 (sc_1 l) (paid_append.2 ⟨g8_paid _, ho⟩) rfl rfl rfl rfl ha hi
    · cases h
      intro ρ vs w ha hi
      exact viewN_none mixed noCount D (lo1 _) [false] 0 (sc_0 l) (paid_append.2 ⟨g8_paid _, ho⟩) rfl rfl rfl rfl ha hi
    · cases h
  · rename_i n l
    cases h
    intro ρ vs w ha hi
    have h1 := ho _ (List.mem_cons_self ..)
    have h2 : (n : Int) ≠ 32 := by simpa using ho _ (List.mem_cons_of_mem _ (List.mem_cons_self ..))
    exact viewN_none mixed noCount D (lo1 _) [] 0 (sc_b n l) (paid_cons (decide_eq_true (by omega)) (paid_cons (by rw [decide_eq_false h2]; rfl) (paid_cons h1 Paid.nil))) rfl rfl rfl rfl ha hi
  · cases h
    intro ρ vs w ha hi
    exact viewN_none mixed noCount D (lo1 _) [] 0 sc_n Paid.nil rfl rfl rfl rfl ha hi
  · cases h
    intro ρ vs w ha hi
    exact viewN_none mixed noCount D (lo1 _) [] 0 sc_e Paid.nil rfl rfl rfl rfl ha hi
  · cases h
end Go.Proofs.YtapficdphhfpnaaDoor
