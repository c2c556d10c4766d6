/- The reference of layer 9: powers: the loop as a family, Inv's contract. Own work. -/
import Derived.Test.YthelmpjkkkhopaaDoorPMrE0
import Derived.Test.YthelmpjkkkhopaaDoorPEwN
set_option linter.unusedSimpArgs false
set_option linter.unusedVariables false
set_option linter.unusedSectionVars false
namespace Go.Mo
open Go.Ev Go.Wn
def fP (x : Int) (n : Nat) : Int := x ^ n % pN
theorem pN_pos : 0 < pN := by decide
theorem fP_range (x : Int) (n : Nat) : 0 ≤ fP x n ∧ fP x n < pN := ⟨Int.emod_nonneg _ (by decide), Int.emod_lt_of_pos _ pN_pos⟩
theorem vl_lt {x : Int} (h : 0 ≤ x ∧ x < pN) : vl x = x := vl_ok ⟨h.1, by unfold pN at h; omega⟩
theorem fP_mul (x : Int) (m n : Nat) : nM (fP x m) (fP x n) = fP x (m + n) := by
  unfold nM
  rw [vl_lt (fP_range _ _), vl_lt (fP_range _ _)]
  unfold fP
  rw [← Int.mul_emod, ← Int.pow_add]
def pwQ (e : List Int) (i : Int) : Int := ishr .u64 (e.getD (0 + (IntKind.i64.wrap (i.tdiv 64)).toNat * 1) 0) (i.tmod 64)
def pwO (e : List Int) (i : Int) (b : Bool) : List Bool := [decide (i < 256), decide (0 ≤ IntKind.i64.wrap (i.tdiv 64)) && decide (IntKind.i64.wrap (i.tdiv 64) < ((4 : Nat) : Int)), decide (0 + (IntKind.i64.wrap (i.tdiv 64)).toNat * 1 + 1 ≤ 4), !decide (i.tmod 64 < 0), b]
theorem pw_bit {e : List Int} (h : limbs (val e) = e) {i : Nat} (hi : i < 256) : ((pwQ e i).tmod 2 == 1) = decide (val e / 2 ^ i % 2 = 1) ∧ ∀ b, b = true → Paid (pwO e i b) := by
  obtain ⟨a0, a1, a2, a3, rfl, w0, w1, w2, w3⟩ := limbs_self h
  have hb := bit_word w0 w1 w2 w3 (k := i) (by omega)
  have e1 : ((i : Int)).tdiv 64 = ((i / 64 : Nat) : Int) := by rw [Int.tdiv_eq_ediv_of_nonneg (by omega)]; omega
  have e2 : ((i : Int)).tmod 64 = ((i % 64 : Nat) : Int) := by rw [Int.tmod_eq_emod_of_nonneg (by omega)]; omega
  have e3 : IntKind.i64.wrap (((i / 64 : Nat) : Int)) = ((i / 64 : Nat) : Int) := by
    have := w64_id (x := ((i / 64 : Nat) : Int)) (by omega)
    exact this
  refine ⟨?_, fun b hbt => ?_⟩
  · have hq : bitP [a0, a1, a2, a3] i = iand .u64 (pwQ [a0, a1, a2, a3] i) 1 := rfl
    have hW : W (pwQ [a0, a1, a2, a3] i) := by
      unfold pwQ
      rw [e1, e2, e3]
      have hx : ∀ j, W (([a0, a1, a2, a3] : List Int).getD j 0) := fun j => by
        have z : W 0 := by unfold W; omega
        rcases j with _ | _ | _ | _ | j
        · exact w0
        · exact w1
        · exact w2
        · exact w3
        · simpa using z
      have hj := hx (0 + ((i / 64 : Nat) : Int).toNat * 1)
      generalize ([a0, a1, a2, a3] : List Int).getD (0 + ((i / 64 : Nat) : Int).toNat * 1) 0 = x at *
      rw [ishr_eq (by simp [IntKind.bits]; omega)]
      have hp : (0 : Int) < 2 ^ (i % 64) := Int.pow_pos (by omega)
      unfold W at *
      exact ⟨Int.ediv_nonneg hj.1 (by omega), Int.lt_of_le_of_lt (Int.ediv_le_self _ hj.1) hj.2⟩
    rw [hq, iand_one hW] at hb
    rw [← hb, Int.tmod_eq_emod_of_nonneg hW.1]
    by_cases h1 : pwQ [a0, a1, a2, a3] i % 2 = 1
    · rw [decide_eq_true h1, h1]; rfl
    · rw [decide_eq_false h1]
      simpa using h1
  · unfold pwO
    rw [e1, e2, e3]
    exact paid_cons (decide_eq_true (by omega)) (paid_cons (by rw [decide_eq_true (by omega), decide_eq_true (by omega)]; rfl) (paid_cons (decide_eq_true (by omega)) (paid_cons (by rw [decide_eq_false (by omega)]; rfl) (paid_cons hbt Paid.nil))))
end Go.Mo
namespace Go.Proofs.YthelmpjkkkhopaaDoor
open Go.Ev Go.Wn Go.Mo
set_option maxRecDepth 100000
theorem pw_1 (w : Nat → AV) (s : PwS) : seesL pwTs ((codeL Tryd.prog qn (deep Tryd.prog qn hr2 100 3) (fun _ _ => none) 100 (lp (blk 0 (bodyOf Tryd.prog 64))) ⟨tmOf (ups w (zipU pwTs (pwV s))) 28, pwM s⟩).go [true, true]) =
    some (pwO s.e s.i ((pwQ s.e s.i).tmod 2 == 1), 0, pwV { s with i := IntKind.i64.wrap (s.i + 1) }, 28, pwM { s with A := nM s.A s.A, R := nM s.R s.A }) := by
  obtain ⟨a0, e, A, R, i⟩ := s
  kernel_rfl
theorem pw_0 (w : Nat → AV) (s : PwS) : seesL pwTs ((codeL Tryd.prog qn (deep Tryd.prog qn hr2 100 3) (fun _ _ => none) 100 (lp (blk 0 (bodyOf Tryd.prog 64))) ⟨tmOf (ups w (zipU pwTs (pwV s))) 28, pwM s⟩).go [true, false]) =
    some (pwO s.e s.i (!((pwQ s.e s.i).tmod 2 == 1)), 0, pwV { s with i := IntKind.i64.wrap (s.i + 1) }, 28, pwM { s with A := nM s.A s.A }) := by
  obtain ⟨a0, e, A, R, i⟩ := s
  kernel_rfl
theorem pw_f (w : Nat → AV) (s : PwS) : seesL pwTs ((codeL Tryd.prog qn (deep Tryd.prog qn hr2 100 3) (fun _ _ => none) 100 (lp (blk 0 (bodyOf Tryd.prog 64))) ⟨tmOf (ups w (zipU pwTs (pwV s))) 28, pwM s⟩).go [false]) =
    some ([!decide (s.i < 256)], 2, pwV s, 28, pwM s) := by
  obtain ⟨a0, e, A, R, i⟩ := s
  kernel_rfl
def pwP : List AV → Mem → Option (PwS × List Bool)
  | [.ptr false 2 0, .ptr false 3 0, .ptr false 4 0, .ptr false 5 0, .int false .i64 i], [none, none, some ⟨true, .ints .u64 (some 4) a⟩, some ⟨true, .ints .u64 (some 4) e⟩, some ⟨true, .ints .u64 (some 4) z⟩, some ⟨true, .ints .u64 (some 4) r⟩] =>
    some (⟨a, e, val a, 1, 0⟩, [decide (i = 0), decide (z = [0, 0, 0, 0]), decide (r = limbs 1), decide (limbs (val e) = e), decide (a = limbs (val a)), decide (0 ≤ val a), decide (val a < pN)])
  | _, _ => none
def pwF (p : PwS × List Bool) : List (Nat × AV) × Mem := ([(2, .ptr false 2 0), (4, .ptr false 4 0), (5, .ptr false 5 0)], pwM { p.1 with A := fP p.1.A (2 ^ 256), R := fP p.1.A (val p.1.e).toNat })
def pwJ (p s : PwS × List Bool) : Prop := limbs (val p.1.e) = p.1.e ∧ 0 ≤ p.1.A ∧ p.1.A < pN ∧ ∃ j : Nat, j ≤ 256 ∧ s.1 = { p.1 with A := fP p.1.A (2 ^ j), R := fP p.1.A ((val p.1.e).toNat % 2 ^ j), i := (j : Int) }
theorem pw_lok {Λ : LoopH} (hΛ : LOk Tryd.prog (bodyOf Tryd.prog 64) Λ) : LOk Tryd.prog (bodyOf Tryd.prog 64) (famH 0 28 pwTs pwP (fun p => p.2) pwF Λ) := by
  refine fam_ok (q := qn) (n := 100) (fun p : PwS × List Bool => pwV p.1) (fun p => pwM p.1) pwJ (fun s => 256 - s.1.i.toNat) mixed (hr2_ok.deep (q := qn) mixed noCount 100 3) hΛ LOk.none (by kernel_rfl) (by kernel_rfl) (fun s => rfl) (fun s => rfl) (fun avs mm p h ho => ?_) (fun p s hJ w => ?_)
  · unfold pwP at h
    split at h
    · rename_i i a e z r
      cases h
      have p0 := of_decide_eq_true (ho _ (List.mem_cons_self ..))
      have p1 := of_decide_eq_true (ho _ (List.mem_cons_of_mem _ (List.mem_cons_self ..)))
      have p2 := of_decide_eq_true (ho _ (List.mem_cons_of_mem _ (List.mem_cons_of_mem _ (List.mem_cons_self ..))))
      have p3 := of_decide_eq_true (ho _ (List.mem_cons_of_mem _ (List.mem_cons_of_mem _ (List.mem_cons_of_mem _ (List.mem_cons_self ..)))))
      have p4 := of_decide_eq_true (ho _ (List.mem_cons_of_mem _ (List.mem_cons_of_mem _ (List.mem_cons_of_mem _ (List.mem_cons_of_mem _ (List.mem_cons_self ..))))))
      have p5 := of_decide_eq_true (ho _ (List.mem_cons_of_mem _ (List.mem_cons_of_mem _ (List.mem_cons_of_mem _ (List.mem_cons_of_mem _ (List.mem_cons_of_mem _ (List.mem_cons_self ..)))))))
      have p6 := of_decide_eq_true (ho _ (List.mem_cons_of_mem _ (List.mem_cons_of_mem _ (List.mem_cons_of_mem _ (List.mem_cons_of_mem _ (List.mem_cons_of_mem _ (List.mem_cons_of_mem _ (List.mem_cons_self ..))))))))
      refine ⟨(⟨a, e, val a, 1, 0⟩, []), ?_, ?_, p3, p5, p6, 0, Nat.zero_le _, ?_⟩
      · rw [p0]
        exact .cons (.refl _) (.cons (.refl _) (.cons (.refl _) (.cons (.refl _) (.cons (.int _ _ _) .nil))))
      · rw [p1, p2]
        unfold pwM
        simp only
        rw [← p4]
      · unfold fP
        rw [Nat.pow_zero, Nat.mod_one, Int.pow_zero]
        have e1 : (1 : Int) % pN = 1 := by decide
        rw [e1, show val a ^ 1 % pN = val a by rw [Int.pow_succ, Int.pow_zero, Int.one_mul]; exact Int.emod_eq_of_lt p5 p6]
        rfl
    · cases h
  · obtain ⟨h1, h2, h3, j, hj, hs⟩ := hJ
    obtain ⟨⟨a0, e, A, R, i⟩, pb⟩ := p
    obtain ⟨s, sb⟩ := s
    simp only at h1 h2 h3 hs
    subst hs
    by_cases hend : j = 256
    · subst hend
      have hE : (val e).toNat % 2 ^ 256 = (val e).toNat := by
        obtain ⟨e0, e1, e2, e3, he, w0, w1, w2, w3⟩ := limbs_self h1
        have hr : 0 ≤ val e ∧ val e < 115792089237316195423570985008687907853269984665640564039457584007913129639936 := by rw [he]; exact val_range w0 w1 w2 w3
        exact Nat.mod_eq_of_lt (by omega)
      refine Round.out (pw_f w _) rfl ?_ (paid_cons rfl Paid.nil) fun q hq => ?_
      · unfold pwF
        simp only
        rw [hE]
        rfl
      · simp only [pwF, List.mem_cons, List.not_mem_nil, or_false] at hq
        rcases hq with rfl | rfl | rfl
        · exact ⟨_, List.mem_cons_self .., .refl _⟩
        · exact ⟨_, List.mem_cons_of_mem _ (List.mem_cons_of_mem _ (List.mem_cons_self ..)), .refl _⟩
        · exact ⟨_, List.mem_cons_of_mem _ (List.mem_cons_of_mem _ (List.mem_cons_of_mem _ (List.mem_cons_self ..))), .refl _⟩
    · have hlt : j < 256 := by omega
      obtain ⟨hb, hd⟩ := pw_bit h1 hlt
      have hw : IntKind.i64.wrap ((j : Int) + 1) = ((j + 1 : Nat) : Int) := by
        have := w64_id (x := (j : Int) + 1) (by omega)
        unfold w64 at this
        rw [this]; omega
      have hE : 0 ≤ val e := by
        obtain ⟨e0, e1, e2, e3, he, w0, w1, w2, w3⟩ := limbs_self h1
        rw [he]; exact (val_range w0 w1 w2 w3).1
      have hA : nM (fP A (2 ^ j)) (fP A (2 ^ j)) = fP A (2 ^ (j + 1)) := by rw [fP_mul, Nat.pow_succ, Nat.mul_two]
      have hm : (val e).toNat % 2 ^ (j + 1) = (val e).toNat % 2 ^ j + 2 ^ j * ((val e).toNat / 2 ^ j % 2) := by
        rw [Nat.pow_succ, Nat.mod_mul]
      have hbn : (val e / 2 ^ j % 2 = 1) ↔ (val e).toNat / 2 ^ j % 2 = 1 := by
        obtain ⟨n, hn⟩ := Int.eq_ofNat_of_zero_le hE
        rw [hn, Int.toNat_natCast]
        have : ((n : Int) / 2 ^ j % 2) = ((n / 2 ^ j % 2 : Nat) : Int) := by rw [Int.natCast_emod, Int.natCast_ediv, Int.natCast_pow]; rfl
        rw [this]
        omega
      by_cases h : val e / 2 ^ j % 2 = 1
      · have hN := hbn.1 h
        rw [decide_eq_true h] at hb
        refine Round.on (pw_1 w ⟨a0, e, _, _, j⟩) (⟨a0, e, fP A (2 ^ (j + 1)), fP A ((val e).toNat % 2 ^ (j + 1)), ((j + 1 : Nat) : Int)⟩, sb) [] ?_ (hd _ hb) ?_ ⟨h1, h2, h3, j + 1, by omega, rfl⟩ rfl (by simp only; omega)
        · simp only [List.append_nil]
          rw [hA, fP_mul, hm, hN, Nat.mul_one]
          rfl
        · simp only [hw]
          exact LeL.refl _
      · have hN : (val e).toNat / 2 ^ j % 2 = 0 := by
          have : ¬ (val e).toNat / 2 ^ j % 2 = 1 := fun h2 => h (hbn.2 h2)
          omega
        rw [decide_eq_false h] at hb
        refine Round.on (pw_0 w ⟨a0, e, _, _, j⟩) (⟨a0, e, fP A (2 ^ (j + 1)), fP A ((val e).toNat % 2 ^ (j + 1)), ((j + 1 : Nat) : Int)⟩, sb) [] ?_ (hd _ (by rw [hb]; rfl)) ?_ ⟨h1, h2, h3, j + 1, by omega, rfl⟩ rfl (by simp only; omega)
        · simp only [List.append_nil]
          rw [hA, hm, hN, Nat.mul_zero, Nat.add_zero]
          rfl
        · simp only [hw]
          exact LeL.refl _
end Go.Proofs.YthelmpjkkkhopaaDoor
namespace Go.Proofs.YthelmpjkkkhopaaDoor
open Go.Ev Go.Wn Go.Mo
set_option maxRecDepth 100000
def powS : List V → E (AV × Mem)
  | [.pl (.ints .u64 4 a), .pl (.ints .u64 4 e)] => some ([decide (limbs (val e) = e), decide (val a < pN)], (.ints .u64 4 (limbs (fP (val a) (val e).toNat)), []))
  | _ => none
def rpO (a e : List Int) : List Bool := [decide ((0 : Int) = 0), true, true, decide (limbs (val e) = e), decide (a = limbs (val a)), decide (0 ≤ val a), decide (val a < pN)]
theorem rp_eval (a e : List Int) : res (funcL Tryd.prog qn (deep Tryd.prog qn hr2 100 3) (famH 0 28 pwTs pwP (fun p => p.2) pwF (fun _ _ => none)) 100 64 (cArgs 0 [.pl (.ints .u64 4 a), .pl (.ints .u64 4 e)]) (cMem [.pl (.ints .u64 4 a), .pl (.ints .u64 4 e)])) =
    some (rpO a e, .ints .u64 4 (limbs (fP (val a) (val e).toNat))) := by kernel_rfl
theorem rpow_ok {xs : List V} {o : List Bool} {v : AV} {bs : Mem} (h : powS xs = some (o, (v, bs))) (ho : Paid o) : ViewCall Tryd.prog 64 xs v bs := by
  unfold powS at h
  split at h
  · rename_i a e
    cases h
    have h1 := ho _ (List.mem_cons_self ..)
    have h2 := ho _ (List.mem_cons_of_mem _ (List.mem_cons_self ..))
    intro ρ vs w ha hi
    have hb := ha
    cases hb with
    | cons _ _ _ _ r0 hb =>
      obtain ⟨a0, a1, a2, a3, ea, w0, w1, w2, w3⟩ := num_arg r0
      have hr : 0 ≤ val a := by rw [ea]; exact (val_range w0 w1 w2 w3).1
      have hl : a = limbs (val a) := by rw [ea]; exact (limbs_of w0 w1 w2 w3).symm
      refine view_of_resL mixed noCount (hr2_ok.deep (q := qn) mixed noCount 100 3) (fun fn c hf hb => by rw [bodyOf_eq hf hb]; exact pw_lok LOk.none) (rp_eval a e) ?_ rfl (by kernel_rfl) ha hi
      exact paid_cons (decide_eq_true rfl) (paid_cons rfl (paid_cons rfl (paid_cons h1 (paid_cons (decide_eq_true hl) (paid_cons (decide_eq_true hr) (paid_cons h2 Paid.nil))))))
  · cases h
def hr3 : CallH := withV 64 powS hr2
theorem hr3_ok : HOk Tryd.prog hr3 := hr2_ok.withV fun _ _ _ _ h ho => rpow_ok h ho
def rinS : List AV → E AV
  | [.ints .u64 4 a] => some ([decide (val a < pN)], .ints .u64 4 (limbs (fP (val a) pE)))
  | _ => none
theorem ri_eval (a : List Int) : res (funcA Tryd.prog qn (deep Tryd.prog qn hr3 100 3) 100 62 [.ints .u64 4 a] []) =
    some ([true, decide (val a < pN)], .ints .u64 4 (limbs (fP (val a) (val (limbs (val PN - val [2, 0, 0, 0]))).toNat))) := by kernel_rfl
theorem ri_ok {args : List AV} {o : List Bool} {v : AV} (h : rinS args = some (o, v)) (ho : Paid o) : PureCall Tryd.prog 62 args v := by
  unfold rinS at h
  split at h
  · rename_i a
    cases h
    have ev := ri_eval a
    rw [show (val (limbs (val PN - val [2, 0, 0, 0]))).toNat = pE by decide +kernel] at ev
    intro ρ N vs ha
    exact pure_of_res mixed noCount (hr3_ok.deep (q := qn) mixed noCount 100 3) (by kernel_rfl) ev (paid_cons rfl ho) rfl (by kernel_rfl) ha
  · cases h
def hr4 : CallH := withC 62 rinS hr3
theorem hr4_ok : HOk Tryd.prog hr4 := hr3_ok.withC fun _ _ _ h ho => ri_ok h ho
end Go.Proofs.YthelmpjkkkhopaaDoor
namespace Go.Mo
open Go.Ev Go.Wn
theorem pN_PL : pN = val PL := vPL.symm
/-- A root, as both reckon it. -/
def rX (w : Int) : Int := if mI (fR w) (fR w) = w then fR w else mI (fR w) iI
def rK (w : Int) : Bool := decide (mI (rX w) (rX w) = w)
theorem fP_pw (n : Nat) {e : Nat} (he : e < 2 ^ 256) : fP (n : Int) e = ((pw 57896044618658097711785492504343953926634992332820282019728792003956564819949 256 n e 1 : Nat) : Int) := pw_int n he
end Go.Mo
namespace Go.Proofs.YthelmpjkkkhopaaDoor
open Go.Ev Go.Wn Go.Mo
set_option maxRecDepth 100000
def iL : List Int := [14190309331451158704, 3405592160176694392, 3120150775007532967, 3135389899092516619]
def e4c : List Int := [18446744073709551611, 18446744073709551615, 18446744073709551615, 2305843009213693951]
def v66 : List Int := [8496970652267935908, 31536524315187371, 10144147576115030168, 5909686906226998899]
theorem i_pow : limbs (fP (val [2, 0, 0, 0]) (val e4c).toNat) = iL := by
  have h : (val e4c).toNat < 2 ^ 256 := by decide +kernel
  rw [show val [2, 0, 0, 0] = ((2 : Nat) : Int) from rfl, fP_pw 2 h]
  decide +kernel
theorem i_66 : limbs (fP (val [121666, 0, 0, 0]) pE) = v66 := by
  have h : pE < 2 ^ 256 := by decide +kernel
  rw [show val [121666, 0, 0, 0] = ((121666 : Nat) : Int) from rfl, fP_pw 121666 h]
  decide +kernel
/-- 2 to the power (p - 1)/4; and what times 121666 is 1. -/
def pwcS : List V → E (AV × Mem)
  | [.pl (.ints .u64 4 a), .pl (.ints .u64 4 e)] => match decide (e = e4c) with
    | true => some ([decide (a = [2, 0, 0, 0])], (.ints .u64 4 iL, []))
    | false => none
  | _ => none
theorem pwc_ok {xs : List V} {o : List Bool} {v : AV} {bs : Mem} (h : pwcS xs = some (o, (v, bs))) (ho : Paid o) : ViewCall Tryd.prog 64 xs v bs := by
  unfold pwcS at h
  split at h
  · rename_i a e
    split at h
    · rename_i he
      cases h
      have he' := of_decide_eq_true he
      have ha := of_decide_eq_true (ho _ (List.mem_cons_self ..))
      subst he' ha
      rw [← i_pow]
      intro ρ vs w ha hi
      exact rpow_ok (xs := [.pl (.ints .u64 4 [2, 0, 0, 0]), .pl (.ints .u64 4 e4c)]) (o := [decide (limbs (val e4c) = e4c), decide (val [2, 0, 0, 0] < pN)]) rfl (paid_cons (by decide +kernel) (paid_cons (by decide +kernel) Paid.nil)) ha hi
    · cases h
  · cases h
def ivcS : List AV → E AV
  | [.ints .u64 4 [121666, 0, 0, 0]] => some ([], .ints .u64 4 v66)
  | _ => none
theorem ivc_ok {args : List AV} {o : List Bool} {v : AV} (h : ivcS args = some (o, v)) : PureCall Tryd.prog 62 args v := by
  unfold ivcS at h
  split at h
  · cases h
    rw [← i_66]
    exact ri_ok (args := [.ints .u64 4 [121666, 0, 0, 0]]) (o := [decide (val [121666, 0, 0, 0] < pN)]) rfl (paid_cons (by decide +kernel) Paid.nil)
  · cases h
def ht0 : CallH := withC 62 ivcS hr4
theorem ht0_ok : HOk Tryd.prog ht0 := hr4_ok.withC fun _ _ _ h _ => ivc_ok h
theorem dd_eval : res (funcA Tryd.prog qn (deep Tryd.prog qn ht0 100 4) 100 36 [] []) = some ([true], .ints .u64 4 dL) := by kernel_rfl
def ddS : List AV → E AV
  | [] => some ([], .ints .u64 4 dL)
  | _ => none
theorem dd_ok {args : List AV} {o : List Bool} {v : AV} (h : ddS args = some (o, v)) : PureCall Tryd.prog 36 args v := by
  unfold ddS at h
  split at h
  · cases h
    exact pure_of_res mixed noCount (ht0_ok.deep (q := qn) mixed noCount 100 4) (by kernel_rfl) dd_eval (paid_cons rfl Paid.nil) rfl (by kernel_rfl)
  · cases h
def ht1 : CallH := withC 36 ddS (withV 64 pwcS hr4)
theorem ht1_ok : HOk Tryd.prog ht1 := (hr4_ok.withV fun _ _ _ _ h ho => pwc_ok h ho).withC fun _ _ _ h _ => dd_ok h
/-- The same, as the reference writes it. -/
def qX (w : Int) : Int := fP (val (limbs w)) (val eighthL).toNat
def qM (a b : Int) : Int := (val (limbs a) * val (limbs b)) % pN
theorem rt_1 (w : Int) : res ((funcA Tryd.prog qn (deep Tryd.prog qn ht1 100 4) 100 37 [.ints .u64 4 (limbs w)] []).go [true]) =
    some ([decide (limbs w = [0, 0, 0, 0])], .tuple [.ints .u64 4 (limbs w), .bool false true]) := by kernel_rfl
theorem rt_2 (w : Int) : res ((funcA Tryd.prog qn (deep Tryd.prog qn ht1 100 4) 100 37 [.ints .u64 4 (limbs w)] []).go [false, true]) =
    some ([!decide (limbs w = [0, 0, 0, 0]), true, decide (val (limbs w) < pN), true, decide (limbs (qM (qX w) (qX w)) = limbs w)], .tuple [.ints .u64 4 (limbs (qX w)), .bool false true]) := by kernel_rfl
theorem rt_3 (w : Int) : res ((funcA Tryd.prog qn (deep Tryd.prog qn ht1 100 4) 100 37 [.ints .u64 4 (limbs w)] []).go [false, false]) =
    some ([!decide (limbs w = [0, 0, 0, 0]), true, decide (val (limbs w) < pN), true, !decide (limbs (qM (qX w) (qX w)) = limbs w)], .tuple [.ints .u64 4 (limbs (qM (qX w) iI)), .bool true (decide (limbs (qM (qM (qX w) iI) (qM (qX w) iI)) = limbs w))]) := by kernel_rfl
theorem q_X {w : Int} (h : inP w) : qX w = fR w := by
  have e : (val eighthL).toNat = p8 := by decide +kernel
  unfold qX fR fP
  rw [e, ← pN_PL]
  rfl
theorem q_M (a b : Int) : qM a b = mI a b := by unfold qM mI; rw [pN_PL]; rfl
def rtS : List AV → E AV
  | [.ints .u64 4 a] => some ([decide (val a < pN)], .tuple [.ints .u64 4 (limbs (rX (val a))), .bool true (rK (val a))])
  | _ => none
theorem pure_mark {g : FuncId} {args : List AV} {l : List Int} {c : Bool} (h : PureCall Tryd.prog g args (.tuple [.ints .u64 4 l, .bool false c])) : PureCall Tryd.prog g args (.tuple [.ints .u64 4 l, .bool true c]) := by
  intro ρ N vs ha w hT
  refine (h ha w hT).mono fun u w' ⟨h1, h2⟩ => ⟨fun ρ' N' => ?_, h2⟩
  have r := h1 ρ' N'
  cases r with
  | tuple _ vs hs => cases hs with
    | cons _ _ _ _ r1 hs => cases hs with
      | cons _ _ _ _ r2 hs =>
        cases hs
        cases r2
        exact .tuple _ _ (.cons _ _ _ _ r1 (.cons _ _ _ _ (.bool _ _) .nil))
theorem fR_0 : fR 0 = 0 := by rw [fRF_eq]; decide +kernel
theorem rt_ok {args : List AV} {o : List Bool} {v : AV} (h : rtS args = some (o, v)) (ho : Paid o) : PureCall Tryd.prog 37 args v := by
  have D := ht1_ok.deep (q := qn) mixed noCount 100 4
  unfold rtS at h
  split at h
  · rename_i a
    cases h
    have hp := ho _ (List.mem_cons_self ..)
    have hp' := of_decide_eq_true hp
    intro ρ N vs ha
    have hb := ha
    cases hb with
    | cons _ _ _ _ r1 hb =>
      obtain ⟨a0, a1, a2, a3, rfl, w0, w1, w2, w3⟩ := num_arg r1
      have e := limbs_val w0 w1 w2 w3
      have hr := val_range w0 w1 w2 w3
      have hw : inP (val [a0, a1, a2, a3]) := ⟨hr.1, hp'⟩
      generalize val [a0, a1, a2, a3] = w at *
      rw [← e] at ha
      have h1 := rt_1 w; have h2 := rt_2 w; have h3 := rt_3 w
      rw [q_X hw, q_M] at h2
      rw [q_X hw, q_M, q_M, q_M] at h3
      rw [show decide (val (limbs w) < pN) = true from decide_eq_true (by rw [show val (limbs w) = vl w from rfl, vl_ok (inP_ok hw)]; exact hp')] at h2 h3
      by_cases hz : w = 0
      · subst hz
        have e0 : mI (fR 0) (fR 0) = 0 := by rw [fR_0]; decide +kernel
        have ex : rX 0 = 0 := by unfold rX; rw [if_pos e0, fR_0]
        have ek : rK 0 = true := by unfold rK; rw [ex]; decide +kernel
        rw [ex, ek]
        exact pure_mark (pure_of_go mixed noCount D [true] (by kernel_rfl) h1 (paid_cons rfl Paid.nil) rfl (by kernel_rfl)) ha
      · have hz' : decide (limbs w = [0, 0, 0, 0]) = false := decide_eq_false fun h => hz ((limbs_inj hw (y := 0) ⟨by decide, by decide⟩).1 h)
        rw [hz'] at h2 h3
        by_cases hc : mI (fR w) (fR w) = w
        · have ex : rX w = fR w := by unfold rX; rw [if_pos hc]
          have ek : rK w = true := by unfold rK; rw [ex]; exact decide_eq_true hc
          rw [decide_eq_true ((limbs_inj (mI_inP _ _) hw).2 hc)] at h2
          rw [ex, ek]
          exact pure_mark (pure_of_go mixed noCount D [false, true] (by kernel_rfl) h2 (List.all_eq_true.1 rfl) rfl (by kernel_rfl)) ha
        · have ex : rX w = mI (fR w) iI := by unfold rX; rw [if_neg hc]
          have ek : decide (limbs (mI (mI (fR w) iI) (mI (fR w) iI)) = limbs w) = rK w := by
            unfold rK
            rw [ex]
            exact decide_eq_decide.2 (limbs_inj (mI_inP _ _) hw)
          rw [decide_eq_false fun h => hc ((limbs_inj (mI_inP _ _) hw).1 h), ek] at h3
          rw [ex]
          exact pure_of_go mixed noCount D [false, false] (by kernel_rfl) h3 (List.all_eq_true.1 rfl) rfl (by kernel_rfl) ha
  · cases h
def ht2 : CallH := withC 37 rtS ht1
theorem ht2_ok : HOk Tryd.prog ht2 := ht1_ok.withC fun _ _ _ h ho => rt_ok h ho
end Go.Proofs.YthelmpjkkkhopaaDoor
