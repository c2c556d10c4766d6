/- The reference of layer 11: inverses: the loop as a family; inv's contract. Own work. -/
import Derived.Test.YtapficdphhfpnaaDoorTWqC
set_option linter.unusedSimpArgs false
set_option linter.unusedVariables false
set_option linter.unusedSectionVars false
namespace Go.We
open Go.Ev Go.Wn
structure PwS where
  a0 : List Int
  e : List Int
  A : Int
  R : Int
  i : Int
def fP (x : Int) (n : Nat) : Int := x ^ n % I6
theorem fP_range (x : Int) (n : Nat) : in6 (fP x n) := in6_mod _
theorem fP_mul (x : Int) (m n : Nat) : mV (fP x m) (fP x n) = fP x (m + n) := by
  unfold mV mJ
  rw [vl_in (fP_range _ _), vl_in (fP_range _ _)]
  unfold fP
  rw [← Int.mul_emod, ← Int.pow_add]
def pwQ (e : List Int) (i : Int) : Int := ishr .u64 (e.getD (0 + (IntKind.i64.wrap (i.tdiv 64)).toNat * 1) 0) (i.tmod 64)
def pwO (e : List Int) (i : Int) (b : Bool) : List Bool := [decide (i < 256), decide (0 ≤ IntKind.i64.wrap (i.tdiv 64)) && decide (IntKind.i64.wrap (i.tdiv 64) < ((4 : Nat) : Int)), decide (0 + (IntKind.i64.wrap (i.tdiv 64)).toNat * 1 + 1 ≤ 4), !decide (i.tmod 64 < 0), b]
theorem pw_bit {e : List Int} (h : limbs (val e) = e) {i : Nat} (hi : i < 256) : ((pwQ e i).tmod 2 == 1) = decide (val e / 2 ^ i % 2 = 1) ∧ ∀ b, b = true → Paid (pwO e i b) := by
  obtain ⟨a0, a1, a2, a3, rfl, w0, w1, w2, w3⟩ := limbs_self h
  have hb := bit_word w0 w1 w2 w3 (k := i) (by omega)
  have e1 : ((i : Int)).tdiv 64 = ((i / 64 : Nat) : Int) := by rw [Int.tdiv_eq_ediv_of_nonneg (by omega)]; omega
  have e2 : ((i : Int)).tmod 64 = ((i % 64 : Nat) : Int) := by rw [Int.tmod_eq_emod_of_nonneg (by omega)]; omega
  have e3 : IntKind.i64.wrap (((i / 64 : Nat) : Int)) = ((i / 64 : Nat) : Int) := by
    have := w64_id (x := ((i / 64 : Nat) : Int)) (by omega)
    exact this
  refine ⟨?_, fun b hbt => ?_⟩
  · have hq : bitP [a0, a1, a2, a3] i = iand .u64 (pwQ [a0, a1, a2, a3] i) 1 := rfl
    have hW : W (pwQ [a0, a1, a2, a3] i) := by
      unfold pwQ
      rw [e1, e2, e3]
      have hx : ∀ j, W (([a0, a1, a2, a3] : List Int).getD j 0) := fun j => by
        have z : W 0 := by unfold W; omega
        rcases j with _ | _ | _ | _ | j
        · exact w0
        · exact w1
        · exact w2
        · exact w3
        · simpa using z
      have hj := hx (0 + ((i / 64 : Nat) : Int).toNat * 1)
      generalize ([a0, a1, a2, a3] : List Int).getD (0 + ((i / 64 : Nat) : Int).toNat * 1) 0 = x at *
      rw [ishr_eq (by simp [IntKind.bits]; omega)]
      have hp : (0 : Int) < 2 ^ (i % 64) := Int.pow_pos (by omega)
      unfold W at *
      exact ⟨Int.ediv_nonneg hj.1 (by omega), Int.lt_of_le_of_lt (Int.ediv_le_self _ hj.1) hj.2⟩
    rw [hq, iand_one hW] at hb
    rw [← hb, Int.tmod_eq_emod_of_nonneg hW.1]
    by_cases h1 : pwQ [a0, a1, a2, a3] i % 2 = 1
    · rw [decide_eq_true h1, h1]; rfl
    · rw [decide_eq_false h1]
      simpa using h1
  · unfold pwO
    rw [e1, e2, e3]
    exact paid_cons (decide_eq_true (by omega)) (paid_cons (by rw [decide_eq_true (by omega), decide_eq_true (by omega)]; rfl) (paid_cons (decide_eq_true (by omega)) (paid_cons (by rw [decide_eq_false (by omega)]; rfl) (paid_cons hbt Paid.nil))))
end Go.We
namespace Go.Proofs.YtapficdphhfpnaaDoor
open Go.Ev Go.Wn Go.We
set_option maxRecDepth 100000
def pwTs : List Nat := [1, 2, 3, 4, 5]
def pwV (s : PwS) : List AV := [.ptr false 1 0, .ptr false 2 0, .ptr false 3 0, .ptr false 4 0, .int true .i64 s.i]
def pwM (s : PwS) : Mem := [none, some ⟨true, .ints .u64 (some 4) (limbs s.A)⟩, some ⟨true, .ints .u64 (some 4) [0, 0, 0, 0]⟩, some ⟨true, .ints .u64 (some 4) s.e⟩, some ⟨true, .ints .u64 (some 4) (limbs s.R)⟩]
theorem pw_1 (w : Nat → AV) (s : PwS) : seesL pwTs ((codeL Tryd.prog qn (deep Tryd.prog qn hq4 100 3) (fun _ _ => none) 100 (lp (blk 0 (bodyOf Tryd.prog 62))) ⟨tmOf (ups w (zipU pwTs (pwV s))) 30, pwM s⟩).go [true, true]) =
    some (pwO s.e s.i ((pwQ s.e s.i).tmod 2 == 1), 0, pwV { s with i := IntKind.i64.wrap (s.i + 1) }, 30, pwM { s with A := mV s.A s.A, R := mV s.R s.A }) := by
  obtain ⟨a0, e, A, R, i⟩ := s
  kernel_rfl
theorem pw_0 (w : Nat → AV) (s : PwS) : seesL pwTs ((codeL Tryd.prog qn (deep Tryd.prog qn hq4 100 3) (fun _ _ => none) 100 (lp (blk 0 (bodyOf Tryd.prog 62))) ⟨tmOf (ups w (zipU pwTs (pwV s))) 30, pwM s⟩).go [true, false]) =
    some (pwO s.e s.i (!((pwQ s.e s.i).tmod 2 == 1)), 0, pwV { s with i := IntKind.i64.wrap (s.i + 1) }, 30, pwM { s with A := mV s.A s.A }) := by
  obtain ⟨a0, e, A, R, i⟩ := s
  kernel_rfl
theorem pw_f (w : Nat → AV) (s : PwS) : seesL pwTs ((codeL Tryd.prog qn (deep Tryd.prog qn hq4 100 3) (fun _ _ => none) 100 (lp (blk 0 (bodyOf Tryd.prog 62))) ⟨tmOf (ups w (zipU pwTs (pwV s))) 30, pwM s⟩).go [false]) =
    some ([!decide (s.i < 256)], 2, pwV s, 30, pwM s) := by
  obtain ⟨a0, e, A, R, i⟩ := s
  kernel_rfl
def pwP : List AV → Mem → Option (PwS × List Bool)
  | [.ptr false 1 0, .ptr false 2 0, .ptr false 3 0, .ptr false 4 0, .int false .i64 i], [none, some ⟨true, .ints .u64 (some 4) a⟩, some ⟨true, .ints .u64 (some 4) z⟩, some ⟨true, .ints .u64 (some 4) e⟩, some ⟨true, .ints .u64 (some 4) r⟩] =>
    some (⟨a, e, val a, 1, 0⟩, [decide (i = 0), decide (z = [0, 0, 0, 0]), decide (r = limbs 1), decide (limbs (val e) = e), decide (a = limbs (val a)), decide (0 ≤ val a), decide (val a < I6)])
  | _, _ => none
def pwF (p : PwS × List Bool) : List (Nat × AV) × Mem := ([(1, .ptr false 1 0), (2, .ptr false 2 0), (4, .ptr false 4 0)], pwM { p.1 with A := fP p.1.A (2 ^ 256), R := fP p.1.A (val p.1.e).toNat })
def pwJ (p s : PwS × List Bool) : Prop := limbs (val p.1.e) = p.1.e ∧ 0 ≤ p.1.A ∧ p.1.A < I6 ∧ ∃ j : Nat, j ≤ 256 ∧ s.1 = { p.1 with A := fP p.1.A (2 ^ j), R := fP p.1.A ((val p.1.e).toNat % 2 ^ j), i := (j : Int) }
theorem pw_lok {Λ : LoopH} (hΛ : LOk Tryd.prog (bodyOf Tryd.prog 62) Λ) : LOk Tryd.prog (bodyOf Tryd.prog 62) (famH 0 30 pwTs pwP (fun p => p.2) pwF Λ) := by
  refine fam_ok (q := qn) (n := 100) (fun p : PwS × List Bool => pwV p.1) (fun p => pwM p.1) pwJ (fun s => 256 - s.1.i.toNat) mixed (hq4_ok.deep (q := qn) mixed noCount 100 3) hΛ LOk.none (by kernel_rfl) (by kernel_rfl) (fun s => rfl) (fun s => rfl) (fun avs mm p h ho => ?_) (fun p s hJ w => ?_)
  · unfold pwP at h
    split at h
    · rename_i i a z e r
      cases h
      have p0 := of_decide_eq_true (ho _ (List.mem_cons_self ..))
      have p1 := of_decide_eq_true (ho _ (List.mem_cons_of_mem _ (List.mem_cons_self ..)))
      have p2 := of_decide_eq_true (ho _ (List.mem_cons_of_mem _ (List.mem_cons_of_mem _ (List.mem_cons_self ..))))
      have p3 := of_decide_eq_true (ho _ (List.mem_cons_of_mem _ (List.mem_cons_of_mem _ (List.mem_cons_of_mem _ (List.mem_cons_self ..)))))
      have p4 := of_decide_eq_true (ho _ (List.mem_cons_of_mem _ (List.mem_cons_of_mem _ (List.mem_cons_of_mem _ (List.mem_cons_of_mem _ (List.mem_cons_self ..))))))
      have p5 := of_decide_eq_true (ho _ (List.mem_cons_of_mem _ (List.mem_cons_of_mem _ (List.mem_cons_of_mem _ (List.mem_cons_of_mem _ (List.mem_cons_of_mem _ (List.mem_cons_self ..)))))))
      have p6 := of_decide_eq_true (ho _ (List.mem_cons_of_mem _ (List.mem_cons_of_mem _ (List.mem_cons_of_mem _ (List.mem_cons_of_mem _ (List.mem_cons_of_mem _ (List.mem_cons_of_mem _ (List.mem_cons_self ..))))))))
      refine ⟨(⟨a, e, val a, 1, 0⟩, []), ?_, ?_, p3, p5, p6, 0, Nat.zero_le _, ?_⟩
      · rw [p0]
        exact .cons (.refl _) (.cons (.refl _) (.cons (.refl _) (.cons (.refl _) (.cons (.int _ _ _) .nil))))
      · rw [p1, p2]
        unfold pwM
        simp only
        rw [← p4]
      · unfold fP
        rw [Nat.pow_zero, Nat.mod_one, Int.pow_zero]
        have e1 : (1 : Int) % I6 = 1 := by decide +kernel
        rw [e1, show val a ^ 1 % I6 = val a by rw [Int.pow_succ, Int.pow_zero, Int.one_mul]; exact Int.emod_eq_of_lt p5 p6]
        rfl
    · cases h
  · obtain ⟨h1, h2, h3, j, hj, hs⟩ := hJ
    obtain ⟨⟨a0, e, A, R, i⟩, pb⟩ := p
    obtain ⟨s, sb⟩ := s
    simp only at h1 h2 h3 hs
    subst hs
    by_cases hend : j = 256
    · subst hend
      have hE : (val e).toNat % 2 ^ 256 = (val e).toNat := by
        obtain ⟨e0, e1, e2, e3, he, w0, w1, w2, w3⟩ := limbs_self h1
        have hr : 0 ≤ val e ∧ val e < 115792089237316195423570985008687907853269984665640564039457584007913129639936 := by rw [he]; exact val_range w0 w1 w2 w3
        exact Nat.mod_eq_of_lt (by omega)
      refine Round.out (pw_f w _) rfl ?_ (paid_cons rfl Paid.nil) fun q hq => ?_
      · unfold pwF
        simp only
        rw [hE]
        rfl
      · simp only [pwF, List.mem_cons, List.not_mem_nil, or_false] at hq
        rcases hq with rfl | rfl | rfl
        · exact ⟨_, List.mem_cons_self .., .refl _⟩
        · exact ⟨_, List.mem_cons_of_mem _ (List.mem_cons_self ..), .refl _⟩
        · exact ⟨_, List.mem_cons_of_mem _ (List.mem_cons_of_mem _ (List.mem_cons_of_mem _ (List.mem_cons_self ..))), .refl _⟩
    · have hlt : j < 256 := by omega
      obtain ⟨hb, hd⟩ := pw_bit h1 hlt
      have hw : IntKind.i64.wrap ((j : Int) + 1) = ((j + 1 : Nat) : Int) := by
        have := w64_id (x := (j : Int) + 1) (by omega)
        unfold w64 at this
        rw [this]; omega
      have hE : 0 ≤ val e := by
        obtain ⟨e0, e1, e2, e3, he, w0, w1, w2, w3⟩ := limbs_self h1
        rw [he]; exact (val_range w0 w1 w2 w3).1
      have hA : mV (fP A (2 ^ j)) (fP A (2 ^ j)) = fP A (2 ^ (j + 1)) := by rw [fP_mul, Nat.pow_succ, Nat.mul_two]
      have hm : (val e).toNat % 2 ^ (j + 1) = (val e).toNat % 2 ^ j + 2 ^ j * ((val e).toNat / 2 ^ j % 2) := by
        rw [Nat.pow_succ, Nat.mod_mul]
      have hbn : (val e / 2 ^ j % 2 = 1) ↔ (val e).toNat / 2 ^ j % 2 = 1 := by
        obtain ⟨n, hn⟩ := Int.eq_ofNat_of_zero_le hE
        rw [hn, Int.toNat_natCast]
        have : ((n : Int) / 2 ^ j % 2) = ((n / 2 ^ j % 2 : Nat) : Int) := by rw [Int.natCast_emod, Int.natCast_ediv, Int.natCast_pow]; rfl
        rw [this]
        omega
      by_cases h : val e / 2 ^ j % 2 = 1
      · have hN := hbn.1 h
        rw [decide_eq_true h] at hb
        refine Round.on (pw_1 w ⟨a0, e, _, _, j⟩) (⟨a0, e, fP A (2 ^ (j + 1)), fP A ((val e).toNat % 2 ^ (j + 1)), ((j + 1 : Nat) : Int)⟩, sb) [] ?_ (hd _ hb) ?_ ⟨h1, h2, h3, j + 1, by omega, rfl⟩ rfl (by simp only; omega)
        · simp only [List.append_nil]
          rw [hA, fP_mul, hm, hN, Nat.mul_one]
          rfl
        · simp only [hw]
          exact LeL.refl _
      · have hN : (val e).toNat / 2 ^ j % 2 = 0 := by
          have : ¬ (val e).toNat / 2 ^ j % 2 = 1 := fun h2 => h (hbn.2 h2)
          omega
        rw [decide_eq_false h] at hb
        refine Round.on (pw_0 w ⟨a0, e, _, _, j⟩) (⟨a0, e, fP A (2 ^ (j + 1)), fP A ((val e).toNat % 2 ^ (j + 1)), ((j + 1 : Nat) : Int)⟩, sb) [] ?_ (hd _ (by rw [hb]; rfl)) ?_ ⟨h1, h2, h3, j + 1, by omega, rfl⟩ rfl (by simp only; omega)
        · simp only [List.append_nil]
          rw [hA, hm, hN, Nat.mul_zero, Nat.add_zero]
          rfl
        · simp only [hw]
          exact LeL.refl _
def pwΛ (Λ : LoopH) : LoopH := famH 0 30 pwTs pwP (fun p => p.2) pwF Λ
def pL2 : List Int := [18446744073709551613, 4294967295, 0, 18446744069414584321]
def vrO (a : List Int) : List Bool := [true, true, true, decide (limbs (val pL2) = pL2), decide (a = limbs (val a)), decide (0 ≤ val a), decide (val a < I6)]
theorem vr_eval (a : List Int) : res ((funcL Tryd.prog qn (deep Tryd.prog qn hq4 100 3) (pwΛ fun _ _ => none) 200 62 (cArgs 0 [.pl (.ints .u64 4 a)]) (cMem [.pl (.ints .u64 4 a)])).go []) =
    some (vrO a, .ints .u64 4 (limbs (fP (val a) (val pL2).toNat))) := by kernel_rfl
theorem pL2_pE : (val pL2).toNat = pE := by decide +kernel
def vrS : List V → E (AV × Mem)
  | [.pl (.ints .u64 4 a)] => some ([decide (val a < I6)], (.ints .u64 4 (limbs (jI (val a))), []))
  | _ => none
theorem vr_ok {xs : List V} {o : List Bool} {v : AV} {bs : Mem} (h : vrS xs = some (o, (v, bs))) (ho : Paid o) : ViewCall Tryd.prog 62 xs v bs := by
  unfold vrS at h
  split at h
  · rename_i a
    cases h
    intro ρ vs w ha hi
    have hv := of_decide_eq_true (ho _ (List.mem_cons_self ..))
    have hb := ha
    cases hb with
    | cons _ _ _ _ r0 hb =>
      obtain ⟨a0, a1, a2, a3, rfl, w0, w1, w2, w3⟩ := num_arg r0
      have hr := val_range w0 w1 w2 w3
      have hl := limbs_val w0 w1 w2 w3
      exact view_goL mixed noCount (hq4_ok.deep (q := qn) mixed noCount 100 3) (fun fn c hf hb => by rw [bodyOf_eq hf hb]; exact pw_lok LOk.none) [] (vr_eval [a0, a1, a2, a3])
        (paid_cons rfl (paid_cons rfl (paid_cons rfl (paid_cons (decide_eq_true (by decide +kernel)) (paid_cons (decide_eq_true hl.symm) (paid_cons (decide_eq_true hr.1) (paid_cons (decide_eq_true hv) Paid.nil))))))) (by rw [pL2_pE]; rfl) (by kernel_rfl) ha hi
  · cases h
def hq5 : CallH := withV 62 vrS hq4
theorem hq5_ok : HOk Tryd.prog hq5 := hq4_ok.withV fun _ _ _ _ h ho => vr_ok h ho
end Go.Proofs.YtapficdphhfpnaaDoor
