/- Layer 10: handlers of the program; points as sixteen words; sums. Own work. -/
import Derived.Test.YthelmpjkkkhopaaDoorPMyRd
import Derived.Test.YthelmpjkkkhopaaDoorPEoS
import Derived.Test.YthelmpjkkkhopaaDoorPShaN
import Derived.Test.YthelmpjkkkhopaaDoorPShaE
set_option linter.unusedSimpArgs false
set_option linter.unusedVariables false
set_option linter.unusedSectionVars false
namespace Go.Mo
open Go.Ev Go.Wn
def e4L (e : E4) : List Int := limbs e.x ++ limbs e.y ++ limbs e.z ++ limbs e.t
def e4V (l : List Int) : E4 := ⟨val (l.take 4), val ((l.drop 4).take 4), val ((l.drop 8).take 4), val (l.drop 12)⟩
end Go.Mo
namespace Go.Proofs.YthelmpjkkkhopaaDoor
open Go.Ev Go.Wn Go.Mo Go.Sh
set_option maxRecDepth 100000
theorem e4_back {l : List Int} (h : l.length = 16) (hr : ∀ x ∈ l, inR .u64 x = true) : e4L (e4V l) = l := by
  obtain ⟨x0, x1, x2, x3, x4, x5, x6, x7, x8, x9, xa, xb, xc, xd, xe, xf, rfl⟩ := sixteen h
  simp only [List.forall_mem_cons, List.not_mem_nil, false_implies, implies_true, and_true] at hr
  obtain ⟨k0, k1, k2, k3, k4, k5, k6, k7, k8, k9, ka, kb, kc, kd, ke, kf⟩ := hr
  have e0 := limbs_val (inR_W k0) (inR_W k1) (inR_W k2) (inR_W k3)
  have e1 := limbs_val (inR_W k4) (inR_W k5) (inR_W k6) (inR_W k7)
  have e2 := limbs_val (inR_W k8) (inR_W k9) (inR_W ka) (inR_W kb)
  have e3 := limbs_val (inR_W kc) (inR_W kd) (inR_W ke) (inR_W kf)
  unfold e4L e4V
  simp only [List.take_succ_cons, List.take_zero, List.drop_succ_cons, List.drop_zero]
  rw [e0, e1, e2, e3]
  rfl
def qn (f : FuncId) : Bool := !Nat.beq f 1000000000
def redK : List V → E (AV × Mem)
  | [.pt (.ints .u64 (some 9) L), .buf false .u8 n l] => some ([good L, decide (n < 9223372036854775808)], (.ints .u64 4 (limbs (be l % val L)), []))
  | _ => none
theorem redK_ok {xs : List V} {o : List Bool} {v : AV} {bs : Mem} (h : redK xs = some (o, (v, bs))) (ho : Paid o) : ViewCall Tryd.prog 50 xs v bs := by
  unfold redK at h
  split at h
  · rename_i L n l
    cases h
    intro ρ vs w ha hi
    have hb : Reps ρ (upto 2) (cArgs 0 [.pt (.ints .u64 (some 9) L), .buf true .u8 n l]) vs := by
      cases ha with
      | cons _ _ _ _ r0 hr => cases hr with
        | cons _ _ _ _ r1 hr => cases hr with
          | nil => cases r1 with
            | slice _ _ _ _ _ _ c ad hn hc hl hw had => exact .cons _ _ _ _ r0 (.cons _ _ _ _ (.slice true 1 0 n none 1 c ad hn hc hl hw had) .nil)
    exact red_ok (xs := [.pt (.ints .u64 (some 9) L), .buf true .u8 n l]) (o := [good L, decide (n < 9223372036854775808)]) rfl ho hb hi
  · cases h
def hn0 : CallH := withV 26 litS (withC 22 trnS (withV 41 newG (withV 50 redK hd1)))
theorem hn0_ok : HOk Tryd.prog hn0 := (((hd1_ok.withV fun _ _ _ _ h ho => redK_ok h ho).withV fun _ _ _ _ h ho => newG_ok h ho).withC fun _ _ _ h _ => trn_ok h).withV fun _ _ _ _ h ho => lit_ok h ho
/-- The two Mods, as a curve shows them. -/
def pC : Cells := .ints .u64 (some 9) PL
def oC (T : List Int) : Cells := .ints .u64 (some 9) T
end Go.Proofs.YthelmpjkkkhopaaDoor
namespace Go.Mo
open Go.Ev Go.Wn
/-- The words that are written. -/
def wnL (p : E4) : List Int := (limbs (eWy p)).set 3 (ior .u64 ((limbs (eWy p)).getD 3 0) (ishl .u64 ((limbs (eWx p)).getD 0 0) 63))
theorem wnL_eq (p : E4) : wnL p = limbs (wnI p) := by
  have hx := mI_inP p.x (pI p.z)
  have hy := mI_inP p.y (pI p.z)
  have h25 : (P25 : Int) < 57896044618658097711785492504343953926634992332820282019728792003956564819968 := by decide
  unfold wnL wnI
  rw [show eWx p = mI p.x (pI p.z) from rfl, show eWy p = mI p.y (pI p.z) from rfl]
  unfold inP at hx hy
  generalize mI p.x (pI p.z) = x at *
  generalize mI p.y (pI p.z) = y at *
  have e1 : ishl .u64 ((limbs x).getD 0 0) 63 = (x % 2) * 2 ^ 63 := by
    unfold limbs ishl
    simp only [List.getD_cons_zero]
    show IntKind.u64.wrap (x % 18446744073709551616 * 2 ^ (min (Int.toNat 63) 64)) = _
    rw [show min (Int.toNat 63) 64 = 63 by decide, wrap_eq]
    omega
  have e2 : (limbs y).getD 3 0 = y / 6277101735386680763835789423207666416102355444464034512896 % 18446744073709551616 := rfl
  rw [e1, e2]
  have e3 := (ior_sum (x := (x % 2) * 2 ^ 63) (y := y / 6277101735386680763835789423207666416102355444464034512896 % 18446744073709551616) (s := 63) (A := x % 2) (by omega) rfl (by omega) (by omega) (by omega)).2
  rw [e3]
  unfold limbs T255
  simp only [List.set_cons_succ, List.set_cons_zero, List.cons.injEq, and_true]
  refine ⟨?_, ?_, ?_, ?_⟩ <;> omega
end Go.Mo
namespace Go.Proofs.YthelmpjkkkhopaaDoor
open Go.Ev Go.Wn Go.Mo Go.Sh
set_option maxRecDepth 100000
theorem su_eval (T : List Int) (p q : E4) : seeV 0 ((funcL Tryd.prog qn (deep Tryd.prog qn hn0 100 3) (fun _ _ => none) 100 28 (qArgs [.pl (.ints .u64 16 (e4L p)), .pl (.ints .u64 16 (e4L q))]) (qMem pC (oC T) [.pl (.ints .u64 16 (e4L p)), .pl (.ints .u64 16 (e4L q))])).go []) =
    some (List.replicate 18 true, .ints .u64 16 (e4L (eSum p q)), some (some ⟨false, pC⟩)) := by kernel_rfl
theorem ng_eval (T : List Int) (p : E4) : seeV 0 ((funcL Tryd.prog qn (deep Tryd.prog qn hn0 100 3) (fun _ _ => none) 100 29 (qArgs [.pl (.ints .u64 16 (e4L p))]) (qMem pC (oC T) [.pl (.ints .u64 16 (e4L p))])).go []) =
    some (List.replicate 2 true, .ints .u64 16 (e4L (eNeg p)), some (some ⟨false, pC⟩)) := by kernel_rfl
theorem wr_eval (T : List Int) (p : E4) : seeV 0 ((funcL Tryd.prog qn (deep Tryd.prog qn hn0 100 3) (fun _ _ => none) 100 19 (qArgs [.pl (.ints .u64 16 (e4L p))]) (qMem pC (oC T) [.pl (.ints .u64 16 (e4L p))])).go []) =
    some (List.replicate 3 true, .ints .u8 32 (turnedL (wnL p)), some (some ⟨false, pC⟩)) := by kernel_rfl
def isP (L : List Int) : Bool := decide (L = PL)
def suS : Cells → Cells → List V → E (AV × Mem)
  | .ints .u64 (some 9) L, .ints .u64 (some 9) _, [.pl (.ints .u64 16 p), .pl (.ints .u64 16 q)] => some ([isP L], (.ints .u64 16 (e4L (eSum (e4V p) (e4V q))), []))
  | _, _, _ => none
def ngS : Cells → Cells → List V → E (AV × Mem)
  | .ints .u64 (some 9) L, .ints .u64 (some 9) _, [.pl (.ints .u64 16 p)] => some ([isP L], (.ints .u64 16 (e4L (eNeg (e4V p))), []))
  | _, _, _ => none
def wrS : Cells → Cells → List V → E (AV × Mem)
  | .ints .u64 (some 9) L, .ints .u64 (some 9) _, [.pl (.ints .u64 16 p)] => some ([isP L], (.ints .u8 32 (turnedL (limbs (wnI (e4V p)))), []))
  | _, _, _ => none
theorem lo1 (k0 : Nat) {F : FuncId} (fn : Func) (c : Code) (_ : Tryd.prog.funcs[F]? = some fn) (_ : fn.body = some c) : LOkN k0 Tryd.prog c (fun _ _ => none) := LOkN.none
theorem rep_true (k : Nat) : Paid (List.replicate k true) := fun x hx => (List.mem_replicate.1 hx).2
theorem pt_rep {ρ : Nat → Loc3} {N : Nat → Prop} {l : List Int} {v : Value} (h : Rep ρ N (.ints .u64 16 l) v) : e4L (e4V l) = l := by
  cases h with | ints _ _ _ hn hr => exact e4_back hn hr
theorem q_paid {L : List Int} {o : List Bool} (ho : Paid (isP L :: o)) : L = PL := of_decide_eq_true (ho _ (List.mem_cons_self ..))
theorem suS_ok {c d : Cells} {xs : List V} {o : List Bool} {v : AV} {bs : Mem} (h : suS c d xs = some (o, (v, bs))) (ho : Paid o) : RCall Tryd.prog 28 (qArgs xs) (qMem c d xs) v bs := by
  unfold suS at h
  split at h
  · rename_i L T p q
    cases h
    obtain rfl := q_paid ho
    intro ρ vs w ha hi
    have h2 := ha
    cases h2 with
    | cons _ _ _ _ _ h2 => cases h2 with
      | cons _ _ _ _ r1 h2 => cases h2 with
        | cons _ _ _ _ r2 h2 =>
          have e := su_eval T (e4V p) (e4V q)
          rw [pt_rep r1, pt_rep r2] at e
          exact rcall_none mixed noCount (hn0_ok.deep mixed noCount 100 3) (lo1 _) [] 0 e (rep_true _) rfl rfl rfl rfl ha hi
  · cases h
theorem ngS_ok {c d : Cells} {xs : List V} {o : List Bool} {v : AV} {bs : Mem} (h : ngS c d xs = some (o, (v, bs))) (ho : Paid o) : RCall Tryd.prog 29 (qArgs xs) (qMem c d xs) v bs := by
  unfold ngS at h
  split at h
  · rename_i L T p
    cases h
    obtain rfl := q_paid ho
    intro ρ vs w ha hi
    have h2 := ha
    cases h2 with
    | cons _ _ _ _ _ h2 => cases h2 with
      | cons _ _ _ _ r1 h2 =>
        have e := ng_eval T (e4V p)
        rw [pt_rep r1] at e
        exact rcall_none mixed noCount (hn0_ok.deep mixed noCount 100 3) (lo1 _) [] 0 e (rep_true _) rfl rfl rfl rfl ha hi
  · cases h
theorem wrS_ok {c d : Cells} {xs : List V} {o : List Bool} {v : AV} {bs : Mem} (h : wrS c d xs = some (o, (v, bs))) (ho : Paid o) : RCall Tryd.prog 19 (qArgs xs) (qMem c d xs) v bs := by
  unfold wrS at h
  split at h
  · rename_i L T p
    cases h
    obtain rfl := q_paid ho
    intro ρ vs w ha hi
    have h2 := ha
    cases h2 with
    | cons _ _ _ _ _ h2 => cases h2 with
      | cons _ _ _ _ r1 h2 =>
        have e := wr_eval T (e4V p)
        rw [pt_rep r1, wnL_eq] at e
        exact rcall_none mixed noCount (hn0_ok.deep mixed noCount 100 3) (lo1 _) [] 0 e (rep_true _) rfl rfl rfl rfl ha hi
  · cases h
def hn1 : CallH := withQ 28 suS (withQ 29 ngS (withQ 19 wrS hn0))
theorem hn1_ok : HOk Tryd.prog hn1 := ((hn0_ok.withQ fun _ _ _ _ _ _ h ho => wrS_ok h ho).withQ fun _ _ _ _ _ _ h ho => ngS_ok h ho).withQ fun _ _ _ _ _ _ h ho => suS_ok h ho
end Go.Proofs.YthelmpjkkkhopaaDoor
namespace Go.Proofs.YthelmpjkkkhopaaDoor
open Go.Ev Go.Wn Go.Mo Go.Sh
set_option maxRecDepth 100000
def bitF (b : Int) : List AV → E AV
  | [.ints .u64 4 a, .int _ .i64 i] => some ([decide (bitV a i = b)], .int false .u64 b)
  | _ => none
theorem bitF_ok {b : Int} {args : List AV} {o : List Bool} {v : AV} (h : bitF b args = some (o, v)) (ho : Paid o) : PureCall Tryd.prog 45 args v := by
  unfold bitF at h
  split at h
  · rename_i a s i
    cases h
    have e := of_decide_eq_true (ho _ (List.mem_cons_self ..))
    intro ρ N vs ha w hT
    refine (bit_ok (args := [.ints .u64 4 a, .int s .i64 i]) rfl ha w hT).mono fun u w' ⟨h1, h2⟩ => ⟨fun ρ' N' => ?_, h2⟩
    have h3 := h1 ρ' N'
    rw [e] at h3
    cases h3 with | int _ _ _ h => exact .int _ _ _ h
  · cases h
def hnB (b : Int) : CallH := withC 45 (bitF b) hn1
theorem hnB_ok (b : Int) : HOk Tryd.prog (hnB b) := hn1_ok.withC fun _ _ _ h ho => bitF_ok h ho
structure PrS where
  T : List Int
  n : List Int
  p : List Int
  a : List Int
  i : Int
def prTs : List Nat := [3, 4, 5, 6, 7, 12]
def prV (s : PrS) : List AV := [.ptr false 4 0, .ptr false 5 0, .ptr false 6 0, .ptr false 7 0, .ptr false 8 0, .int true .i64 s.i]
def prM (s : PrS) : Mem := [some ⟨false, pC⟩, some ⟨false, oC s.T⟩, none, none, some ⟨true, .vals [.ptr false 0 0, .ptr false 1 0]⟩, some ⟨true, .ints .u64 (some 4) s.n⟩, some ⟨true, .ints .u64 (some 16) s.p⟩,
  some ⟨true, .ints .u64 (some 16) [0, 0, 0, 0, 0, 0, 0, 0, 0, 0, 0, 0, 0, 0, 0, 0]⟩, some ⟨true, .ints .u64 (some 16) s.a⟩]
def prO (n : List Int) (b i : Int) : List Bool := [decide (i < 255), true, decide (bitV n (IntKind.i64.wrap (254 - i)) = b), true]
def pr0 (a : List Int) : List Int := e4L (eSum (e4V a) (e4V a))
def pr1 (a p : List Int) : List Int := e4L (eSum (e4V (pr0 a)) (e4V p))
theorem pr_0 (w : Nat → AV) (s : PrS) : seesL prTs ((codeL Tryd.prog qn (deep Tryd.prog qn (hnB 0) 100 3) (fun _ _ => none) 100 (lp (blk 0 (bodyOf Tryd.prog 20))) ⟨tmOf (ups w (zipU prTs (prV s))) 31, prM s⟩).go [true]) =
    some (prO s.n 0 s.i, 0, prV { s with i := IntKind.i64.wrap (s.i + 1) }, 31, prM { s with a := pr0 s.a }) := by
  obtain ⟨T, n, p, a, i⟩ := s
  kernel_rfl
theorem pr_1 (w : Nat → AV) (s : PrS) : seesL prTs ((codeL Tryd.prog qn (deep Tryd.prog qn (hnB 1) 100 3) (fun _ _ => none) 100 (lp (blk 0 (bodyOf Tryd.prog 20))) ⟨tmOf (ups w (zipU prTs (prV s))) 31, prM s⟩).go [true]) =
    some (prO s.n 1 s.i, 0, prV { s with i := IntKind.i64.wrap (s.i + 1) }, 31, prM { s with a := pr1 s.a s.p }) := by
  obtain ⟨T, n, p, a, i⟩ := s
  kernel_rfl
theorem pr_f (w : Nat → AV) (s : PrS) : seesL prTs ((codeL Tryd.prog qn (deep Tryd.prog qn (hnB 1) 100 3) (fun _ _ => none) 100 (lp (blk 0 (bodyOf Tryd.prog 20))) ⟨tmOf (ups w (zipU prTs (prV s))) 31, prM s⟩).go [false]) =
    some ([!decide (s.i < 255)], 2, prV s, 31, prM s) := by
  obtain ⟨T, n, p, a, i⟩ := s
  kernel_rfl
def Z16 : List Int := [0, 0, 0, 0, 0, 0, 0, 0, 0, 0, 0, 0, 0, 0, 0, 0]
def prP : List AV → Mem → Option (PrS × List Bool)
  | [.ptr false 4 0, .ptr false 5 0, .ptr false 6 0, .ptr false 7 0, .ptr false 8 0, .int false .i64 i], [some ⟨false, .ints .u64 (some 9) L⟩, some ⟨false, .ints .u64 (some 9) T⟩, none, none, some ⟨true, .vals [.ptr false 0 0, .ptr false 1 0]⟩, some ⟨true, .ints .u64 (some 4) n⟩, some ⟨true, .ints .u64 (some 16) p⟩, some ⟨true, .ints .u64 (some 16) z⟩, some ⟨true, .ints .u64 (some 16) a⟩] =>
    some (⟨T, n, p, a, 0⟩, [decide (i = 0), decide (L = PL), decide (z = Z16), decide (a = e4L eO), decide (limbs (val n) = n)])
  | _, _ => none
def prR (N : Int) (p : List Int) (j : Nat) : List Int := e4L (ePr N (e4V p) j)
def prF (p : PrS × List Bool) : List (Nat × AV) × Mem := ([(6, .ptr false 7 0), (7, .ptr false 8 0)], prM { p.1 with a := prR (val p.1.n) p.1.p 255 })
def prΛ (Λ : LoopH) : LoopH := famH 0 31 prTs prP (fun p => p.2) prF Λ
def prJ (p s : PrS × List Bool) : Prop := limbs (val p.1.n) = p.1.n ∧ ∃ j : Nat, j ≤ 255 ∧ s.1 = { p.1 with a := prR (val p.1.n) p.1.p j, i := (j : Int) }
theorem ld_bit {n : List Int} (h : limbs (val n) = n) {j : Nat} (hj : j < 255) : bitV n (IntKind.i64.wrap (254 - (j : Int))) = val n / 2 ^ (254 - j) % 2 := by
  have e : IntKind.i64.wrap (254 - (j : Int)) = ((254 - j : Nat) : Int) := by
    have := w64_id (x := 254 - (j : Int)) (by omega)
    unfold w64 at this
    rw [this]; omega
  rw [e]
  obtain ⟨e0, e1, e2, e3, he, w0, w1, w2, w3⟩ := limbs_self h
  have hc : bitC ((254 - j : Nat) : Int) = false := by unfold bitC; rw [decide_eq_false (by omega : ¬ ((254 - j : Nat) : Int) < 0), decide_eq_false (by omega : ¬ ((254 - j : Nat) : Int) > 255)]
  unfold bitV
  rw [hc, he]
  exact bit_word w0 w1 w2 w3 (by omega)
theorem ePr_ok (N : Int) (p : E4) : ∀ j, (ePr N p j).ok
  | 0 => ⟨ok_0, ok_1, ok_1, ok_0⟩
  | j + 1 => by
    show (if _ then _ else _ : E4).ok
    split
    · exact eSum_ok _ _
    · exact eSum_ok _ _
theorem e4_ok {e : E4} (h : e.ok) : e4V (e4L e) = e := by
  show (⟨vl e.x, vl e.y, vl e.z, vl e.t⟩ : E4) = e
  rw [vl_ok h.1, vl_ok h.2.1, vl_ok h.2.2.1, vl_ok h.2.2.2]
theorem pr_step (N : Int) (p : List Int) (j : Nat) : prR N p (j + 1) = if N / 2 ^ (254 - j) % 2 = 1 then pr1 (prR N p j) p else pr0 (prR N p j) := by
  have h1 : e4V (prR N p j) = ePr N (e4V p) j := e4_ok (ePr_ok _ _ _)
  unfold pr1 pr0
  rw [h1, e4_ok (eSum_ok _ _)]
  show e4L (if N / 2 ^ (254 - j) % 2 = 1 then _ else _) = _
  split <;> rfl
theorem pr_lok {Λ : LoopH} (hΛ : LOk Tryd.prog (bodyOf Tryd.prog 20) Λ) : LOk Tryd.prog (bodyOf Tryd.prog 20) (prΛ Λ) := by
  refine fam_okx (q := qn) (n := 100) (fun p : PrS × List Bool => prV p.1) (fun p => prM p.1) prJ (fun s => 255 - s.1.i.toNat) mixed hΛ LOk.none (by kernel_rfl) (by kernel_rfl) (fun s => rfl) (fun s => rfl) (fun avs mm p h ho => ?_) (fun p s hJ w => ?_)
  · unfold prP at h
    split at h
    · rename_i i L T n p z a
      cases h
      have p0 := of_decide_eq_true (ho _ (List.mem_cons_self ..))
      have p1 := of_decide_eq_true (ho _ (List.mem_cons_of_mem _ (List.mem_cons_self ..)))
      have p2 := of_decide_eq_true (ho _ (List.mem_cons_of_mem _ (List.mem_cons_of_mem _ (List.mem_cons_self ..))))
      have p3 := of_decide_eq_true (ho _ (List.mem_cons_of_mem _ (List.mem_cons_of_mem _ (List.mem_cons_of_mem _ (List.mem_cons_self ..)))))
      have p4 := of_decide_eq_true (ho _ (List.mem_cons_of_mem _ (List.mem_cons_of_mem _ (List.mem_cons_of_mem _ (List.mem_cons_of_mem _ (List.mem_cons_self ..))))))
      refine ⟨(⟨T, n, p, a, 0⟩, []), ?_, ?_, p4, 0, Nat.zero_le _, ?_⟩
      · rw [p0]
        exact .cons (.refl _) (.cons (.refl _) (.cons (.refl _) (.cons (.refl _) (.cons (.refl _) (.cons (.int _ _ _) .nil)))))
      · rw [p1, p2]
        rfl
      · rw [p3]
        rfl
    · cases h
  · obtain ⟨hn, j, hj, hs⟩ := hJ
    obtain ⟨p, pb⟩ := p
    obtain ⟨s, sb⟩ := s
    simp only at hs hn
    subst hs
    by_cases hend : j = 255
    · subst hend
      refine ⟨_, (hnB_ok 1).deep (q := qn) mixed noCount 100 3, Round.out (pr_f w _) rfl rfl (paid_cons (by simp) Paid.nil) fun q hq => ?_⟩
      simp only [prF, List.mem_cons, List.not_mem_nil, or_false] at hq
      rcases hq with rfl | rfl
      · exact ⟨_, List.mem_cons_of_mem _ (List.mem_cons_of_mem _ (List.mem_cons_of_mem _ (List.mem_cons_self ..))), .refl _⟩
      · exact ⟨_, List.mem_cons_of_mem _ (List.mem_cons_of_mem _ (List.mem_cons_of_mem _ (List.mem_cons_of_mem _ (List.mem_cons_self ..)))), .refl _⟩
    · have hlt : j < 255 := by omega
      have hb := ld_bit hn hlt
      have hw : IntKind.i64.wrap ((j : Int) + 1) = ((j + 1 : Nat) : Int) := by
        have := w64_id (x := (j : Int) + 1) (by omega)
        unfold w64 at this
        rw [this]; omega
      have hdebt : ∀ b : Int, val p.n / 2 ^ (254 - j) % 2 = b → Paid (prO p.n b (j : Int)) := fun b h => paid_cons (decide_eq_true (by omega)) (paid_cons rfl (paid_cons (decide_eq_true (by rw [hb, h])) (paid_cons rfl Paid.nil)))
      have h01 : val p.n / 2 ^ (254 - j) % 2 = 0 ∨ val p.n / 2 ^ (254 - j) % 2 = 1 := by omega
      have hl := pr_step (val p.n) p.p j
      rcases h01 with h | h
      · refine ⟨_, (hnB_ok 0).deep (q := qn) mixed noCount 100 3, Round.on (pr_0 w _) ({ p with a := prR (val p.n) p.p (j + 1), i := ((j + 1 : Nat) : Int) }, sb) [] ?_ (hdebt 0 h) ?_ ⟨hn, j + 1, by omega, rfl⟩ rfl (by simp only; omega)⟩
        · rw [hl, h, if_neg (by decide), List.append_nil]
          rfl
        · simp only [hw]
          exact LeL.refl _
      · refine ⟨_, (hnB_ok 1).deep (q := qn) mixed noCount 100 3, Round.on (pr_1 w _) ({ p with a := prR (val p.n) p.p (j + 1), i := ((j + 1 : Nat) : Int) }, sb) [] ?_ (hdebt 1 h) ?_ ⟨hn, j + 1, by omega, rfl⟩ rfl (by simp only; omega)⟩
        · rw [hl, h, if_pos rfl, List.append_nil]
          rfl
        · simp only [hw]
          exact LeL.refl _
theorem pr_eval (T n p : List Int) : seeV 0 ((funcL Tryd.prog qn (deep Tryd.prog qn hn1 100 3) (prΛ fun _ _ => none) 100 20 (qArgs [.pl (.ints .u64 4 n), .pl (.ints .u64 16 p)]) (qMem pC (oC T) [.pl (.ints .u64 4 n), .pl (.ints .u64 16 p)])).go []) =
    some ([true, true, true, true, decide (limbs (val n) = n)], .ints .u64 16 (e4L (eMul (val n) (e4V p))), some (some ⟨false, pC⟩)) := by kernel_rfl
def prS : Cells → Cells → List V → E (AV × Mem)
  | .ints .u64 (some 9) L, .ints .u64 (some 9) _, [.pl (.ints .u64 4 n), .pl (.ints .u64 16 p)] => some ([isP L], (.ints .u64 16 (e4L (eMul (val n) (e4V p))), []))
  | _, _, _ => none
theorem prS_ok {c d : Cells} {xs : List V} {o : List Bool} {v : AV} {bs : Mem} (h : prS c d xs = some (o, (v, bs))) (ho : Paid o) : RCall Tryd.prog 20 (qArgs xs) (qMem c d xs) v bs := by
  unfold prS at h
  split at h
  · rename_i L T n p
    cases h
    obtain rfl := q_paid ho
    intro ρ vs w ha hi
    have h2 := ha
    cases h2 with
    | cons _ _ _ _ _ h2 => cases h2 with
      | cons _ _ _ _ r1 h2 =>
        obtain ⟨a, b, c, d, rfl, w0, w1, w2, w3⟩ := num_arg r1
        exact rcall_none mixed noCount (hn1_ok.deep mixed noCount 100 3) (fun fn c hf hb => by rw [bodyOf_eq hf hb]; exact (pr_lok LOk.none).toN) [] 0 (pr_eval T [a, b, c, d] p) (paid_cons rfl (paid_cons rfl (paid_cons rfl (paid_cons rfl (paid_cons (decide_eq_true (limbs_val w0 w1 w2 w3)) Paid.nil))))) rfl rfl rfl rfl ha hi
  · cases h
def hn2 : CallH := withQ 20 prS hn1
theorem hn2_ok : HOk Tryd.prog hn2 := hn1_ok.withQ fun _ _ _ _ _ _ h ho => prS_ok h ho
end Go.Proofs.YthelmpjkkkhopaaDoor
namespace Go.Proofs.YthelmpjkkkhopaaDoor
open Go.Ev Go.Wn Go.Mo Go.Sh
set_option maxRecDepth 100000
theorem ft_t (T : List Int) (y : Int) : seeV 0 ((funcL Tryd.prog qn (deep Tryd.prog qn hn2 100 3) (fun _ _ => none) 100 55 (qArgs [.pl (.ints .u64 4 (limbs y))]) (qMem pC (oC T) [.pl (.ints .u64 4 (limbs y))])).go [true]) =
    some (List.replicate 8 true ++ [!decide (limbs (mI (fX0 y) (fX0 y)) = limbs (fXX y)), true, true], .tuple [.ints .u64 4 (limbs (mI (fX0 y) iI)), .bool true (decide (limbs (mI (mI (fX0 y) iI) (mI (fX0 y) iI)) = limbs (fXX y)))], some (some ⟨false, pC⟩)) := by kernel_rfl
theorem ft_f (T : List Int) (y : Int) : seeV 0 ((funcL Tryd.prog qn (deep Tryd.prog qn hn2 100 3) (fun _ _ => none) 100 55 (qArgs [.pl (.ints .u64 4 (limbs y))]) (qMem pC (oC T) [.pl (.ints .u64 4 (limbs y))])).go [false]) =
    some (List.replicate 8 true ++ [!!decide (limbs (mI (fX0 y) (fX0 y)) = limbs (fXX y)), true], .tuple [.ints .u64 4 (limbs (fX0 y)), .bool true (decide (limbs (mI (fX0 y) (fX0 y)) = limbs (fXX y)))], some (some ⟨false, pC⟩)) := by kernel_rfl
theorem limbs_inj {x y : Int} (hx : inP x) (hy : inP y) : limbs x = limbs y ↔ x = y := by
  refine ⟨fun h => ?_, fun h => by rw [h]⟩
  have h1 : vl x = vl y := by unfold vl; rw [h]
  rwa [vl_ok (inP_ok hx), vl_ok (inP_ok hy)] at h1
def ftS : Cells → Cells → List V → E (AV × Mem)
  | .ints .u64 (some 9) L, .ints .u64 (some 9) _, [.pl (.ints .u64 4 y)] => some ([isP L], (.tuple [.ints .u64 4 (limbs (fX (val y))), .bool true (fOk (val y))], []))
  | _, _, _ => none
theorem ftS_ok {c d : Cells} {xs : List V} {o : List Bool} {v : AV} {bs : Mem} (h : ftS c d xs = some (o, (v, bs))) (ho : Paid o) : RCall Tryd.prog 55 (qArgs xs) (qMem c d xs) v bs := by
  unfold ftS at h
  split at h
  · rename_i L T y
    cases h
    obtain rfl := q_paid ho
    intro ρ vs w ha hi
    have h2 := ha
    cases h2 with
    | cons _ _ _ _ _ h2 => cases h2 with
      | cons _ _ _ _ r1 h2 =>
        obtain ⟨a, b, c, d, rfl, w0, w1, w2, w3⟩ := num_arg r1
        have e := limbs_val w0 w1 w2 w3
        generalize val [a, b, c, d] = z at *
        rw [← e] at ha hi ⊢
        have i0 := mI_inP (fX0 z) (fX0 z)
        have i1 := fXX_inP z
        by_cases hc : mI (fX0 z) (fX0 z) = fXX z
        · have hx : fX z = fX0 z := by unfold fX; rw [if_pos hc]
          have hd : decide (limbs (mI (fX0 z) (fX0 z)) = limbs (fXX z)) = true := decide_eq_true ((limbs_inj i0 i1).2 hc)
          have ev := ft_f T z
          rw [hd] at ev
          rw [show fOk z = true by unfold fOk; rw [hx]; exact decide_eq_true hc, hx]
          exact rcall_none mixed noCount (hn2_ok.deep mixed noCount 100 3) (lo1 _) [false] 0 ev (paid_append.2 ⟨rep_true _, paid_cons rfl (paid_cons rfl Paid.nil)⟩) rfl rfl rfl rfl ha hi
        · have hx : fX z = mI (fX0 z) iI := by unfold fX; rw [if_neg hc]
          have hd : decide (limbs (mI (fX0 z) (fX0 z)) = limbs (fXX z)) = false := decide_eq_false fun h => hc ((limbs_inj i0 i1).1 h)
          have ev := ft_t T z
          rw [hd] at ev
          have hk : decide (limbs (mI (mI (fX0 z) iI) (mI (fX0 z) iI)) = limbs (fXX z)) = fOk z := by
            unfold fOk
            rw [hx]
            exact decide_eq_decide.2 (limbs_inj (mI_inP _ _) i1)
          rw [hk] at ev
          rw [hx]
          exact rcall_none mixed noCount (hn2_ok.deep mixed noCount 100 3) (lo1 _) [true] 0 ev (paid_append.2 ⟨rep_true _, paid_cons rfl (paid_cons rfl (paid_cons rfl Paid.nil))⟩) rfl rfl rfl rfl ha hi
  · cases h
def hn3 : CallH := withQ 55 ftS hn2
theorem hn3_ok : HOk Tryd.prog hn3 := hn2_ok.withQ fun _ _ _ _ _ _ h ho => ftS_ok h ho
end Go.Proofs.YthelmpjkkkhopaaDoor
namespace Go.Proofs.YthelmpjkkkhopaaDoor
open Go.Ev Go.Wn Go.Mo Go.Sh
set_option maxRecDepth 100000
def pY (b : List Int) : List Int := uwL (litL b)
def pX (b : List Int) : List Int := pickL (ixor .u64 (bitV (litL b) 255) ((limbs (fX (val (pY b)))).getD 0 0)) (limbs (sI 0 (fX (val (pY b))))) (limbs (fX (val (pY b))))
def g4 (l : List Int) : List Int := [l.getD 0 0, l.getD 1 0, l.getD 2 0, l.getD 3 0]
def ptL (b : List Int) : List Int := g4 (pX b) ++ g4 (pY b) ++ [1, 0, 0, 0] ++ g4 (limbs (val (pX b) * val (pY b) % val PL))
def g7 (f z : Bool) : List Bool := [true, !(!(!f)) || !(!f), !(!(!f)) || !(!f), !(!(!f)) || !(!f), !(!(!f) && z) || (!(!f) && z), !(!(!f)) || (!z || (!(!f) && z)), !(!(!f)) || !(!f), !f || !(!f)]
def lastM (f z c : Bool) : Bool := match !f with
  | true => true
  | false => match z with
    | true => c
    | false => false
def rdz (b : List Int) : Bool := decide (limbs (fX (val (pY b))) = [0, 0, 0, 0])
def rdc (b : List Int) : Bool := bitV (litL b) 255 == 1
theorem rdp_t (T b : List Int) : seeV 0 ((funcL Tryd.prog qn (deep Tryd.prog qn hn3 100 3) (fun _ _ => none) 100 25 (qArgs [.buf false .u8 32 b]) (qMem pC (oC T) [.buf false .u8 32 b])).go [true]) =
    some ([!decide (val (pY b) < val primeL)], .tuple [.ints .u64 16 Z16, .bool false false], some (some ⟨false, pC⟩)) := by kernel_rfl
theorem rdp_ft (T b : List Int) : seeV 0 ((funcL Tryd.prog qn (deep Tryd.prog qn hn3 100 3) (fun _ _ => none) 100 25 (qArgs [.buf false .u8 32 b]) (qMem pC (oC T) [.buf false .u8 32 b])).go [false, true]) =
    some ((!(!decide (val (pY b) < val primeL))) :: (g7 (fOk (val (pY b))) (rdz b) ++ [lastM (fOk (val (pY b))) (rdz b) (rdc b)]), .tuple [.ints .u64 16 Z16, .bool false false], some (some ⟨false, pC⟩)) := by kernel_rfl
theorem rdp_ff (T b : List Int) : seeV 0 ((funcL Tryd.prog qn (deep Tryd.prog qn hn3 100 3) (fun _ _ => none) 100 25 (qArgs [.buf false .u8 32 b]) (qMem pC (oC T) [.buf false .u8 32 b])).go [false, false]) =
    some ((!(!decide (val (pY b) < val primeL))) :: (g7 (fOk (val (pY b))) (rdz b) ++ [!lastM (fOk (val (pY b))) (rdz b) (rdc b), true, true]), .tuple [.ints .u64 16 (ptL b), .bool false true], some (some ⟨false, pC⟩)) := by kernel_rfl
theorem rdp_nil (T : List Int) : seeV 0 ((funcL Tryd.prog qn (deep Tryd.prog qn hn3 100 3) (fun _ _ => none) 100 25 (qArgs [.pl .nilslice]) (qMem pC (oC T) [.pl .nilslice])).go []) =
    some ([], .tuple [.ints .u64 16 Z16, .bool false false], some (some ⟨false, pC⟩)) := by kernel_rfl
theorem rdp_emp (T : List Int) : seeV 0 ((funcL Tryd.prog qn (deep Tryd.prog qn hn3 100 3) (fun _ _ => none) 100 25 (qArgs [.empty]) (qMem pC (oC T) [.empty])).go []) =
    some ([], .tuple [.ints .u64 16 Z16, .bool false false], some (some ⟨false, pC⟩)) := by kernel_rfl
theorem rdp_buf (T b : List Int) (n : Nat) : seeV 0 ((funcL Tryd.prog qn (deep Tryd.prog qn hn3 100 3) (fun _ _ => none) 100 25 (qArgs [.buf true .u8 n b]) (qMem pC (oC T) [.buf true .u8 n b])).go []) =
    some ([decide (0 + n ≤ n), !decide ((n : Int) = 32), decide (n < 9223372036854775808)], .tuple [.ints .u64 16 Z16, .bool false false], some (some ⟨false, pC⟩)) := by kernel_rfl
/-- Are these a point's bytes? -/
def rdOk (b : List Int) : Bool := ryB (leI b % T255) (leI b / T255)
def rdL (b : List Int) : List Int := match rdOk b with
  | true => e4L (ryP (leI b % T255) (leI b / T255))
  | false => Z16
theorem g7_paid (f z : Bool) : Paid (g7 f z) := by cases f <;> cases z <;> exact List.all_eq_true.1 rfl
theorem pY_eq {b : List Int} (h : okb b) : val (pY b) = leI b % T255 ∧ limbs (val (pY b)) = pY b := by
  obtain ⟨h1, h2, _⟩ := uw_eq h.1 h.2
  exact ⟨h1, h2⟩
theorem bit255 {b : List Int} (h : okb b) : bitV (litL b) 255 = leI b / T255 := by
  obtain ⟨x0, x1, x2, x3, e, w0, w1, w2, w3⟩ := lit_words h.1 h.2
  have hr := val_range w0 w1 w2 w3
  have hv : leI b = val [x0, x1, x2, x3] := by unfold leI; rw [e]
  rw [e, hv]
  have h1 := bit_word w0 w1 w2 w3 (k := 255) (by omega)
  show bitP [x0, x1, x2, x3] ((255 : Nat) : Int) = _
  rw [h1]
  unfold T255
  omega
theorem ixor_2 {x y : Int} (hx : W x) (hy : W y) : ixor .u64 x y % 2 = (x + y) % 2 := by
  rw [ixor_eq, BitVec.toNat_xor]
  have h1 := bv_W hx; have h2 := bv_W hy
  have h3 := Nat.xor_mod_two_pow (a := (bv x).toNat) (b := (bv y).toNat) (n := 1)
  rw [Nat.pow_one] at h3
  rcases Nat.mod_two_eq_zero_or_one (bv x).toNat with e1 | e1 <;> rcases Nat.mod_two_eq_zero_or_one (bv y).toNat with e2 | e2 <;> rw [e1, e2] at h3
  · have : (0 ^^^ 0 : Nat) = 0 := rfl
    omega
  · have : (0 ^^^ 1 : Nat) = 1 := rfl
    omega
  · have : (1 ^^^ 0 : Nat) = 1 := rfl
    omega
  · have : (1 ^^^ 1 : Nat) = 0 := rfl
    omega
theorem pX_eq {b : List Int} (h : okb b) : pX b = limbs (ryX (leI b % T255) (leI b / T255)) := by
  have hr := le_range h
  have ho : leI b / T255 = 0 ∨ leI b / T255 = 1 := by unfold T255; omega
  unfold pX ryX
  rw [bit255 h, (pY_eq h).1]
  generalize leI b / T255 = o at *
  have hx := fX_inP (leI b % T255)
  generalize fX (leI b % T255) = x at *
  have hw : W ((limbs x).getD 0 0) := limbs_W x _ (by unfold limbs; simp)
  have e : ixor .u64 o ((limbs x).getD 0 0) % 2 = (o + x) % 2 := by
    rw [ixor_2 (by unfold W; omega) hw]
    show (o + x % 18446744073709551616) % 2 = _
    omega
  unfold pickL
  rw [e]
  split <;> rfl
theorem g4_limbs (x : Int) : g4 (limbs x) = limbs x := rfl
theorem ptL_eq {b : List Int} (h : okb b) : ptL b = e4L (ryP (leI b % T255) (leI b / T255)) := by
  obtain ⟨h1, h2⟩ := pY_eq h
  unfold ptL
  rw [pX_eq h, ← h2, h1, g4_limbs, g4_limbs, g4_limbs]
  rfl
theorem pr_val : val primeL = (P25 : Int) := by decide +kernel
theorem lastM_eq {f z c : Bool} : lastM f z c = !(f && !(z && c)) := by cases f <;> cases z <;> cases c <;> rfl
theorem rdOk_eq {b : List Int} (h : okb b) : rdOk b = (decide (val (pY b) < val primeL) && !lastM (fOk (val (pY b))) (rdz b) (rdc b)) := by
  have hz : rdz b = decide (fX (leI b % T255) = 0) := by
    unfold rdz
    rw [(pY_eq h).1]
    exact decide_eq_decide.2 (limbs_inj (x := fX (leI b % T255)) (y := 0) (fX_inP _) ⟨by decide, by decide⟩)
  have hc : rdc b = decide (leI b / T255 = 1) := by
    unfold rdc
    rw [bit255 h]
    rw [Bool.eq_iff_iff]
    simp
  unfold rdOk ryB
  rw [hz, hc, (pY_eq h).1, pr_val, lastM_eq, Bool.not_not]
def rdS : Cells → Cells → List V → E (AV × Mem)
  | .ints .u64 (some 9) L, .ints .u64 (some 9) _, [.buf false .u8 32 b] => some ([isP L], (.tuple [.ints .u64 16 (rdL b), .bool true (rdOk b)], []))
  | .ints .u64 (some 9) L, .ints .u64 (some 9) _, [.buf true .u8 n _] => some ([isP L, !decide ((n : Int) = 32), decide (n < 9223372036854775808)], (.tuple [.ints .u64 16 Z16, .bool false false], []))
  | .ints .u64 (some 9) L, .ints .u64 (some 9) _, [.pl .nilslice] => some ([isP L], (.tuple [.ints .u64 16 Z16, .bool false false], []))
  | .ints .u64 (some 9) L, .ints .u64 (some 9) _, [.empty] => some ([isP L], (.tuple [.ints .u64 16 Z16, .bool false false], []))
  | _, _, _ => none
theorem rcall_mark {g : FuncId} {cas : List AV} {M : Mem} {l : List Int} {c : Bool} (h : RCall Tryd.prog g cas M (.tuple [.ints .u64 16 l, .bool false c]) []) : RCall Tryd.prog g cas M (.tuple [.ints .u64 16 l, .bool true c]) [] := by
  intro ρ vs w ha hi
  refine (h ha hi).mono fun u w' ⟨ρ', r, k⟩ => ⟨ρ', ?_, k⟩
  have r' : Rep ρ' (upto (M.length + 0)) (.tuple [.ints .u64 16 l, .bool false c]) u := r
  show Rep ρ' (upto (M.length + 0)) (.tuple [.ints .u64 16 l, .bool true c]) u
  cases r' with
  | tuple _ vs hs => cases hs with
    | cons _ _ _ _ r1 hs => cases hs with
      | cons _ _ _ _ r2 hs =>
        cases hs
        cases r2
        exact .tuple _ _ (.cons _ _ _ _ r1 (.cons _ _ _ _ (.bool _ _) .nil))
theorem rdS_ok {c d : Cells} {xs : List V} {o : List Bool} {v : AV} {bs : Mem} (h : rdS c d xs = some (o, (v, bs))) (ho : Paid o) : RCall Tryd.prog 25 (qArgs xs) (qMem c d xs) v bs := by
  have D := hn3_ok.deep (q := qn) mixed noCount 100 3
  unfold rdS at h
  split at h
  · rename_i L T b
    cases h
    obtain rfl := q_paid ho
    intro ρ vs w ha hi
    have hb : okb b := by
      obtain ⟨cs, t, lo', hi', b1, b2, b3, b4, b5⟩ := (hi.sim.blk 2 _ rfl).ex
      exact ⟨b5.1 _ rfl, crep_all b5⟩
    have hk := rdOk_eq hb
    cases hl : decide (val (pY b) < val primeL) with
    | false =>
      rw [hl, Bool.false_and] at hk
      have e := rdp_t T b
      rw [hl] at e
      unfold rdL
      rw [hk]
      exact rcall_mark (fun ha hi => rcall_none mixed noCount D (lo1 _) [true] 0 e (paid_cons rfl Paid.nil) rfl rfl rfl rfl ha hi) ha hi
    | true =>
      rw [hl, Bool.true_and] at hk
      cases hm : lastM (fOk (val (pY b))) (rdz b) (rdc b) with
      | true =>
        rw [hm] at hk
        have e := rdp_ft T b
        rw [hl, hm] at e
        unfold rdL
        rw [hk]
        exact rcall_mark (fun ha hi => rcall_none mixed noCount D (lo1 _) [false, true] 0 e (paid_cons rfl (paid_append.2 ⟨g7_paid _ _, paid_cons rfl Paid.nil⟩)) rfl rfl rfl rfl ha hi) ha hi
      | false =>
        rw [hm] at hk
        have e := rdp_ff T b
        rw [hl, hm, ptL_eq hb] at e
        unfold rdL
        rw [hk]
        exact rcall_mark (fun ha hi => rcall_none mixed noCount D (lo1 _) [false, false] 0 e (paid_cons rfl (paid_append.2 ⟨g7_paid _ _, paid_cons rfl (paid_cons rfl (paid_cons rfl Paid.nil))⟩)) rfl rfl rfl rfl ha hi) ha hi
  · rename_i L T n b
    cases h
    obtain rfl := q_paid ho
    intro ρ vs w ha hi
    exact rcall_none mixed noCount D (lo1 _) [] 0 (rdp_buf T b n) (paid_cons (decide_eq_true (by omega)) fun x hx => ho x (List.mem_cons_of_mem _ hx)) rfl rfl rfl rfl ha hi
  · rename_i L T
    cases h
    obtain rfl := q_paid ho
    intro ρ vs w ha hi
    exact rcall_none mixed noCount D (lo1 _) [] 0 (rdp_nil T) Paid.nil rfl rfl rfl rfl ha hi
  · rename_i L T
    cases h
    obtain rfl := q_paid ho
    intro ρ vs w ha hi
    exact rcall_none mixed noCount D (lo1 _) [] 0 (rdp_emp T) Paid.nil rfl rfl rfl rfl ha hi
  · cases h
def hn4 : CallH := withQ 25 rdS hn3
theorem hn4_ok : HOk Tryd.prog hn4 := hn3_ok.withQ fun _ _ _ _ _ _ h ho => rdS_ok h ho
end Go.Proofs.YthelmpjkkkhopaaDoor
