/- Layer 11: handlers of the program; points as twelve words; sums. Own work. -/
import Derived.Test.YtapficdphhfpnaaDoorTMyMI
import Derived.Test.YtapficdphhfpnaaDoorTEvWr
import Derived.Test.YtapficdphhfpnaaDoorTEvIn
import Derived.Test.YtapficdphhfpnaaDoorTEvOne
import Derived.Test.YtapficdphhfpnaaDoorTWe7
set_option linter.unusedSimpArgs false
set_option linter.unusedVariables false
set_option linter.unusedSectionVars false
namespace Go.We
open Go.Ev Go.Wn
def r3L (p : R3) : List Int := limbs p.x ++ limbs p.y ++ limbs p.z
def r3V (l : List Int) : R3 := ⟨val (l.take 4), val ((l.drop 4).take 4), val (l.drop 8)⟩
end Go.We
namespace Go.Proofs.YtapficdphhfpnaaDoor
open Go.Ev Go.Wn Go.We
set_option maxRecDepth 100000
theorem twelve {l : List Int} (h : l.length = 12) : ∃ x0 x1 x2 x3 x4 x5 x6 x7 x8 x9 xa xb, l = [x0, x1, x2, x3, x4, x5, x6, x7, x8, x9, xa, xb] := by
  match l, h with
  | [x0, x1, x2, x3, x4, x5, x6, x7, x8, x9, xa, xb], _ => exact ⟨x0, x1, x2, x3, x4, x5, x6, x7, x8, x9, xa, xb, rfl⟩
theorem r3_back {l : List Int} (h : l.length = 12) (hr : ∀ x ∈ l, inR .u64 x = true) : r3L (r3V l) = l := by
  obtain ⟨x0, x1, x2, x3, x4, x5, x6, x7, x8, x9, xa, xb, rfl⟩ := twelve h
  simp only [List.forall_mem_cons, List.not_mem_nil, false_implies, implies_true, and_true] at hr
  obtain ⟨k0, k1, k2, k3, k4, k5, k6, k7, k8, k9, ka, kb⟩ := hr
  have e0 := limbs_val (inR_W k0) (inR_W k1) (inR_W k2) (inR_W k3)
  have e1 := limbs_val (inR_W k4) (inR_W k5) (inR_W k6) (inR_W k7)
  have e2 := limbs_val (inR_W k8) (inR_W k9) (inR_W ka) (inR_W kb)
  unfold r3L r3V
  simp only [List.take_succ_cons, List.take_zero, List.drop_succ_cons, List.drop_zero]
  rw [e0, e1, e2]
  rfl
theorem r3_ok {p : R3} (h : p.In) : r3V (r3L p) = p := by
  show (⟨vl p.x, vl p.y, vl p.z⟩ : R3) = p
  rw [vl_ok (in6_ok h.1), vl_ok (in6_ok h.2.1), vl_ok (in6_ok h.2.2)]
def qn (f : FuncId) : Bool := !Nat.beq f 1000000000
def hp0 : CallH := withV 47 bigS (withC 48 bytS (withV 56 newG hm11))
theorem hp0_ok : HOk Tryd.prog hp0 := ((hm11_ok.withV fun _ _ _ _ h ho => newG_ok h ho).withC fun _ _ _ h _ => byt_ok h).withV fun _ _ _ _ h ho => big_ok h ho
/-- The Mod, as a curve shows it. -/
def pC : Cells := .ints .u64 (some 9) PL
theorem su_eval (p q : R3) : seeV 0 ((funcL Tryd.prog qn (deep Tryd.prog qn hp0 100 3) (fun _ _ => none) 100 41 (uArgs [.pl (.ints .u64 12 (r3L p)), .pl (.ints .u64 12 (r3L q))]) (uMem pC [.pl (.ints .u64 12 (r3L p)), .pl (.ints .u64 12 (r3L q))])).go []) =
    some (List.replicate 37 true, .ints .u64 12 (r3L (rS p q)), some (some ⟨false, pC⟩)) := by kernel_rfl
def isP (L : List Int) : Bool := decide (L = PL)
def suS : Cells → List V → E (AV × Mem)
  | .ints .u64 (some 9) L, [.pl (.ints .u64 12 p), .pl (.ints .u64 12 q)] => some ([isP L], (.ints .u64 12 (r3L (rS (r3V p) (r3V q))), []))
  | _, _ => none
theorem lo1 (k0 : Nat) {F : FuncId} (fn : Func) (c : Code) (_ : Tryd.prog.funcs[F]? = some fn) (_ : fn.body = some c) : LOkN k0 Tryd.prog c (fun _ _ => none) := LOkN.none
theorem rep_true (k : Nat) : Paid (List.replicate k true) := fun x hx => (List.mem_replicate.1 hx).2
theorem r3_rep {ρ : Nat → Loc3} {N : Nat → Prop} {l : List Int} {v : Value} (h : Rep ρ N (.ints .u64 12 l) v) : r3L (r3V l) = l := by
  cases h with | ints _ _ _ hn hr => exact r3_back hn hr
theorem q_paid {L : List Int} {o : List Bool} (ho : Paid (isP L :: o)) : L = PL := of_decide_eq_true (ho _ (List.mem_cons_self ..))
theorem suS_ok {c : Cells} {xs : List V} {o : List Bool} {v : AV} {bs : Mem} (h : suS c xs = some (o, (v, bs))) (ho : Paid o) : RCall Tryd.prog 41 (uArgs xs) (uMem c xs) v bs := by
  unfold suS at h
  split at h
  · rename_i L p q
    cases h
    obtain rfl := q_paid ho
    intro ρ vs w ha hi
    have h2 := ha
    cases h2 with
    | cons _ _ _ _ _ h2 => cases h2 with
      | cons _ _ _ _ r1 h2 => cases h2 with
        | cons _ _ _ _ r2 h2 =>
          have e := su_eval (r3V p) (r3V q)
          rw [r3_rep r1, r3_rep r2] at e
          exact rcall_none mixed noCount (hp0_ok.deep mixed noCount 100 3) (lo1 _) [] 0 e (rep_true _) rfl rfl rfl rfl ha hi
  · cases h
def hp1 : CallH := withU 41 suS hp0
theorem hp1_ok : HOk Tryd.prog hp1 := hp0_ok.withU fun _ _ _ _ _ h ho => suS_ok h ho
end Go.Proofs.YtapficdphhfpnaaDoor
namespace Go.Proofs.YtapficdphhfpnaaDoor
open Go.Ev Go.Wn Go.We
set_option maxRecDepth 100000
def bitF (b : Int) : List AV → E AV
  | [.ints .u64 4 a, .int _ .i64 i] => some ([decide (bitV a i = b)], .int false .u64 b)
  | _ => none
theorem bitF_ok {b : Int} {args : List AV} {o : List Bool} {v : AV} (h : bitF b args = some (o, v)) (ho : Paid o) : PureCall Tryd.prog 61 args v := by
  unfold bitF at h
  split at h
  · rename_i a s i
    cases h
    have e := of_decide_eq_true (ho _ (List.mem_cons_self ..))
    intro ρ N vs ha w hT
    refine (bit_ok (args := [.ints .u64 4 a, .int s .i64 i]) rfl ha w hT).mono fun u w' ⟨h1, h2⟩ => ⟨fun ρ' N' => ?_, h2⟩
    have h3 := h1 ρ' N'
    rw [e] at h3
    cases h3 with | int _ _ _ h => exact .int _ _ _ h
  · cases h
def hpB (b : Int) : CallH := withC 61 (bitF b) hp1
theorem hpB_ok (b : Int) : HOk Tryd.prog (hpB b) := hp1_ok.withC fun _ _ _ h ho => bitF_ok h ho
structure PrS where
  n : List Int
  p : List Int
  a : List Int
  i : Int
def prTs : List Nat := [3, 4, 5, 6, 7, 10]
def prV (s : PrS) : List AV := [.ptr false 3 0, .ptr false 4 0, .ptr false 5 0, .ptr false 6 0, .ptr false 7 0, .int true .i64 s.i]
def prM (s : PrS) : Mem := [some ⟨false, pC⟩, none, none, some ⟨true, .vals [.ptr false 0 0]⟩, some ⟨true, .ints .u64 (some 4) s.n⟩, some ⟨true, .ints .u64 (some 12) s.p⟩,
  some ⟨true, .ints .u64 (some 12) [0, 0, 0, 0, 0, 0, 0, 0, 0, 0, 0, 0]⟩, some ⟨true, .ints .u64 (some 12) s.a⟩]
def prO (n : List Int) (b i : Int) : List Bool := [decide (i < 256), true, decide (bitV n (IntKind.i64.wrap (255 - i)) = b), true]
def pr0 (a : List Int) : List Int := r3L (rS (r3V a) (r3V a))
def pr1 (a p : List Int) : List Int := r3L (rS (r3V (pr0 a)) (r3V p))
theorem pr_0 (w : Nat → AV) (s : PrS) : seesL prTs ((codeL Tryd.prog qn (deep Tryd.prog qn (hpB 0) 100 3) (fun _ _ => none) 100 (lp (blk 0 (bodyOf Tryd.prog 38))) ⟨tmOf (ups w (zipU prTs (prV s))) 29, prM s⟩).go [true]) =
    some (prO s.n 0 s.i, 0, prV { s with i := IntKind.i64.wrap (s.i + 1) }, 29, prM { s with a := pr0 s.a }) := by
  obtain ⟨n, p, a, i⟩ := s
  kernel_rfl
theorem pr_1 (w : Nat → AV) (s : PrS) : seesL prTs ((codeL Tryd.prog qn (deep Tryd.prog qn (hpB 1) 100 3) (fun _ _ => none) 100 (lp (blk 0 (bodyOf Tryd.prog 38))) ⟨tmOf (ups w (zipU prTs (prV s))) 29, prM s⟩).go [true]) =
    some (prO s.n 1 s.i, 0, prV { s with i := IntKind.i64.wrap (s.i + 1) }, 29, prM { s with a := pr1 s.a s.p }) := by
  obtain ⟨n, p, a, i⟩ := s
  kernel_rfl
theorem pr_f (w : Nat → AV) (s : PrS) : seesL prTs ((codeL Tryd.prog qn (deep Tryd.prog qn (hpB 1) 100 3) (fun _ _ => none) 100 (lp (blk 0 (bodyOf Tryd.prog 38))) ⟨tmOf (ups w (zipU prTs (prV s))) 29, prM s⟩).go [false]) =
    some ([!decide (s.i < 256)], 2, prV s, 29, prM s) := by
  obtain ⟨n, p, a, i⟩ := s
  kernel_rfl
def Z12 : List Int := [0, 0, 0, 0, 0, 0, 0, 0, 0, 0, 0, 0]
def prP : List AV → Mem → Option (PrS × List Bool)
  | [.ptr false 3 0, .ptr false 4 0, .ptr false 5 0, .ptr false 6 0, .ptr false 7 0, .int false .i64 i], [some ⟨false, .ints .u64 (some 9) L⟩, none, none, some ⟨true, .vals [.ptr false 0 0]⟩, some ⟨true, .ints .u64 (some 4) n⟩, some ⟨true, .ints .u64 (some 12) p⟩, some ⟨true, .ints .u64 (some 12) z⟩, some ⟨true, .ints .u64 (some 12) a⟩] =>
    some (⟨n, p, a, 0⟩, [decide (i = 0), decide (L = PL), decide (z = Z12), decide (a = r3L R3.none), decide (limbs (val n) = n)])
  | _, _ => none
def prR (N : Int) (p : List Int) (j : Nat) : List Int := r3L (rPr N (r3V p) j)
def prF (p : PrS × List Bool) : List (Nat × AV) × Mem := ([(6, .ptr false 6 0), (7, .ptr false 7 0)], prM { p.1 with a := prR (val p.1.n) p.1.p 256 })
def prΛ (Λ : LoopH) : LoopH := famH 0 29 prTs prP (fun p => p.2) prF Λ
def prJ (p s : PrS × List Bool) : Prop := limbs (val p.1.n) = p.1.n ∧ ∃ j : Nat, j ≤ 256 ∧ s.1 = { p.1 with a := prR (val p.1.n) p.1.p j, i := (j : Int) }
theorem ld_bit {n : List Int} (h : limbs (val n) = n) {j : Nat} (hj : j < 256) : bitV n (IntKind.i64.wrap (255 - (j : Int))) = val n / 2 ^ (255 - j) % 2 := by
  have e : IntKind.i64.wrap (255 - (j : Int)) = ((255 - j : Nat) : Int) := by
    have := w64_id (x := 255 - (j : Int)) (by omega)
    unfold w64 at this
    rw [this]; omega
  rw [e]
  obtain ⟨e0, e1, e2, e3, he, w0, w1, w2, w3⟩ := limbs_self h
  have hc : bitC ((255 - j : Nat) : Int) = false := by unfold bitC; rw [decide_eq_false (by omega : ¬ ((255 - j : Nat) : Int) < 0), decide_eq_false (by omega : ¬ ((255 - j : Nat) : Int) > 255)]
  unfold bitV
  rw [hc, he]
  exact bit_word w0 w1 w2 w3 (by omega)
theorem pr_step (N : Int) (p : List Int) (j : Nat) : prR N p (j + 1) = if N / 2 ^ (255 - j) % 2 = 1 then pr1 (prR N p j) p else pr0 (prR N p j) := by
  have h1 : r3V (prR N p j) = rPr N (r3V p) j := r3_ok (rPr_In _ _ _)
  unfold pr1 pr0
  rw [h1, r3_ok (rS_In _ _)]
  show r3L (if N / 2 ^ (255 - j) % 2 = 1 then _ else _) = _
  split <;> rfl
theorem pr_lok {Λ : LoopH} (hΛ : LOk Tryd.prog (bodyOf Tryd.prog 38) Λ) : LOk Tryd.prog (bodyOf Tryd.prog 38) (prΛ Λ) := by
  refine fam_okx (q := qn) (n := 100) (fun p : PrS × List Bool => prV p.1) (fun p => prM p.1) prJ (fun s => 256 - s.1.i.toNat) mixed hΛ LOk.none (by kernel_rfl) (by kernel_rfl) (fun s => rfl) (fun s => rfl) (fun avs mm p h ho => ?_) (fun p s hJ w => ?_)
  · unfold prP at h
    split at h
    · rename_i i L n p z a
      cases h
      have p0 := of_decide_eq_true (ho _ (List.mem_cons_self ..))
      have p1 := of_decide_eq_true (ho _ (List.mem_cons_of_mem _ (List.mem_cons_self ..)))
      have p2 := of_decide_eq_true (ho _ (List.mem_cons_of_mem _ (List.mem_cons_of_mem _ (List.mem_cons_self ..))))
      have p3 := of_decide_eq_true (ho _ (List.mem_cons_of_mem _ (List.mem_cons_of_mem _ (List.mem_cons_of_mem _ (List.mem_cons_self ..)))))
      have p4 := of_decide_eq_true (ho _ (List.mem_cons_of_mem _ (List.mem_cons_of_mem _ (List.mem_cons_of_mem _ (List.mem_cons_of_mem _ (List.mem_cons_self ..))))))
      refine ⟨(⟨n, p, a, 0⟩, []), ?_, ?_, p4, 0, Nat.zero_le _, ?_⟩
      · rw [p0]
        exact .cons (.refl _) (.cons (.refl _) (.cons (.refl _) (.cons (.refl _) (.cons (.refl _) (.cons (.int _ _ _) .nil)))))
      · rw [p1, p2]
        rfl
      · rw [p3]
        rfl
    · cases h
  · obtain ⟨hn, j, hj, hs⟩ := hJ
    obtain ⟨p, pb⟩ := p
    obtain ⟨s, sb⟩ := s
    simp only at hs hn
    subst hs
    by_cases hend : j = 256
    · subst hend
      refine ⟨_, (hpB_ok 1).deep (q := qn) mixed noCount 100 3, Round.out (pr_f w _) rfl rfl (paid_cons (by simp) Paid.nil) fun q hq => ?_⟩
      simp only [prF, List.mem_cons, List.not_mem_nil, or_false] at hq
      rcases hq with rfl | rfl
      · exact ⟨_, List.mem_cons_of_mem _ (List.mem_cons_of_mem _ (List.mem_cons_of_mem _ (List.mem_cons_self ..))), .refl _⟩
      · exact ⟨_, List.mem_cons_of_mem _ (List.mem_cons_of_mem _ (List.mem_cons_of_mem _ (List.mem_cons_of_mem _ (List.mem_cons_self ..)))), .refl _⟩
    · have hlt : j < 256 := by omega
      have hb := ld_bit hn hlt
      have hw : IntKind.i64.wrap ((j : Int) + 1) = ((j + 1 : Nat) : Int) := by
        have := w64_id (x := (j : Int) + 1) (by omega)
        unfold w64 at this
        rw [this]; omega
      have hdebt : ∀ b : Int, val p.n / 2 ^ (255 - j) % 2 = b → Paid (prO p.n b (j : Int)) := fun b h => paid_cons (decide_eq_true (by omega)) (paid_cons rfl (paid_cons (decide_eq_true (by rw [hb, h])) (paid_cons rfl Paid.nil)))
      have h01 : val p.n / 2 ^ (255 - j) % 2 = 0 ∨ val p.n / 2 ^ (255 - j) % 2 = 1 := by omega
      have hl := pr_step (val p.n) p.p j
      rcases h01 with h | h
      · refine ⟨_, (hpB_ok 0).deep (q := qn) mixed noCount 100 3, Round.on (pr_0 w _) ({ p with a := prR (val p.n) p.p (j + 1), i := ((j + 1 : Nat) : Int) }, sb) [] ?_ (hdebt 0 h) ?_ ⟨hn, j + 1, by omega, rfl⟩ rfl (by simp only; omega)⟩
        · rw [hl, h, if_neg (by decide), List.append_nil]
          rfl
        · simp only [hw]
          exact LeL.refl _
      · refine ⟨_, (hpB_ok 1).deep (q := qn) mixed noCount 100 3, Round.on (pr_1 w _) ({ p with a := prR (val p.n) p.p (j + 1), i := ((j + 1 : Nat) : Int) }, sb) [] ?_ (hdebt 1 h) ?_ ⟨hn, j + 1, by omega, rfl⟩ rfl (by simp only; omega)⟩
        · rw [hl, h, if_pos rfl, List.append_nil]
          rfl
        · simp only [hw]
          exact LeL.refl _
theorem pr_eval (n p : List Int) : seeV 0 ((funcL Tryd.prog qn (deep Tryd.prog qn hp1 100 3) (prΛ fun _ _ => none) 100 38 (uArgs [.pl (.ints .u64 4 n), .pl (.ints .u64 12 p)]) (uMem pC [.pl (.ints .u64 4 n), .pl (.ints .u64 12 p)])).go []) =
    some ([true, true, true, true, decide (limbs (val n) = n)], .ints .u64 12 (r3L (rMul (val n) (r3V p))), some (some ⟨false, pC⟩)) := by kernel_rfl
def prS : Cells → List V → E (AV × Mem)
  | .ints .u64 (some 9) L, [.pl (.ints .u64 4 n), .pl (.ints .u64 12 p)] => some ([isP L], (.ints .u64 12 (r3L (rMul (val n) (r3V p))), []))
  | _, _ => none
theorem prS_ok {c : Cells} {xs : List V} {o : List Bool} {v : AV} {bs : Mem} (h : prS c xs = some (o, (v, bs))) (ho : Paid o) : RCall Tryd.prog 38 (uArgs xs) (uMem c xs) v bs := by
  unfold prS at h
  split at h
  · rename_i L n p
    cases h
    obtain rfl := q_paid ho
    intro ρ vs w ha hi
    have h2 := ha
    cases h2 with
    | cons _ _ _ _ _ h2 => cases h2 with
      | cons _ _ _ _ r1 h2 =>
        obtain ⟨a, b, c, d, rfl, w0, w1, w2, w3⟩ := num_arg r1
        exact rcall_none mixed noCount (hp1_ok.deep mixed noCount 100 3) (fun fn c hf hb => by rw [bodyOf_eq hf hb]; exact (pr_lok LOk.none).toN) [] 0 (pr_eval [a, b, c, d] p) (paid_cons rfl (paid_cons rfl (paid_cons rfl (paid_cons rfl (paid_cons (decide_eq_true (limbs_val w0 w1 w2 w3)) Paid.nil))))) rfl rfl rfl rfl ha hi
  · cases h
def hp2 : CallH := withU 38 prS hp1
theorem hp2_ok : HOk Tryd.prog hp2 := hp1_ok.withU fun _ _ _ _ _ h ho => prS_ok h ho
end Go.Proofs.YtapficdphhfpnaaDoor
