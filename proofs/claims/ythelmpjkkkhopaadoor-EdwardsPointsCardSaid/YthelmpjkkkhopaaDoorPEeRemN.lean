/- The reference's long division: what was taken too often is put back. Own work. -/
import Derived.Test.YthelmpjkkkhopaaDoorPEeRemC
set_option linter.unusedSimpArgs false
set_option linter.unusedVariables false
set_option linter.unusedSectionVars false
namespace Go.Proofs.YthelmpjkkkhopaaDoor
open Go.Ev Go.Wn
set_option maxRecDepth 100000
theorem r10U_iff {n : Nat} {j bo : Int} {x : Nat → AV} : (∀ p ∈ r10U n j bo, x p.1 = p.2) ↔ x 5 = .int false .i64 n ∧ x 7 = .ptr false 5 0 ∧ x 8 = .ptr false 6 0 ∧ x 11 = .int true .i64 j ∧ x 13 = .int true .u64 bo := by simp [r10U]
theorem st_eq {st : St} {t : List AV} {m : Mem} (h1 : st.tm = t) (h2 : st.mem = m) : st = ⟨t, m⟩ := by cases st; simp only at h1 h2; rw [h1, h2]
structure I10 (n : Nat) (j : Int) (x4 x6 : AV) (u m r b a : List Int) (v : Int) (s : List Int × Int) (st1 : St) : Prop where
  len : st1.tm.length = 239
  sl : ∀ p ∈ r10U n j s.2, st1.tm.getD p.1 .top = p.2
  k4 : st1.tm.getD 4 .top = x4
  k6 : st1.tm.getD 6 .top = x6
  mem : st1.mem = remM u m r b s.1
  al : s.1.length = 10
  w : ∀ t, W (s.1.getD t 0)
  out : ∀ t, t < j.toNat ∨ j.toNat + (n + 1) ≤ t → s.1.getD t 0 = a.getD t 0
  bo : 0 ≤ s.2 ∧ s.2 ≤ 1
  lt : segV s.1 j s.2 n < bigB b n
  eq : segV s.1 j s.2 n % bigB b n = v
set_option maxHeartbeats 1000000 in
theorem rem10_ok {c : Code} {st st' : St} {o : List Bool} (hc : Code.block 10 c ∈ subs (bodyOf Tryd.prog 87)) (hl : remΛ1 10 st = some (o, st')) (ho : Paid o) : Ok Tryd.prog (.block 10 c) st (fun p => p = (.normal, st')) := by
  unfold remΛ1 at hl
  simp only at hl
  split at hl
  case h_2 => cases hl
  rename_i n j bo0 S h5 h11 h13 hmem hfl
  cases hl
  rw [Bool.and_eq_true, Bool.and_eq_true] at hfl
  have e5 := natOf_eq h5
  have e11 := i64Of_eq h11
  have em := memOf_eq hmem
  have e7 := isP_eq hfl.1.1
  have e8 := isP_eq hfl.1.2
  have hlen := Nat.eq_of_beq_eq_true hfl.2
  obtain ⟨u, m, r, b, a⟩ := S
  simp only at em ho ⊢
  unfold o10 at ho
  have p1 := ho _ (List.mem_cons_self ..)
  have p2 := ho _ (List.mem_cons_of_mem _ (List.mem_cons_self ..))
  have p3 := ho _ (List.mem_cons_of_mem _ (List.mem_cons_of_mem _ (List.mem_cons_self ..)))
  have p4 := ho _ (List.mem_cons_of_mem _ (List.mem_cons_of_mem _ (List.mem_cons_of_mem _ (List.mem_cons_self ..))))
  have p5 := ho _ (List.mem_cons_of_mem _ (List.mem_cons_of_mem _ (List.mem_cons_of_mem _ (List.mem_cons_of_mem _ (List.mem_cons_self ..)))))
  have p6 := ho _ (List.mem_cons_of_mem _ (List.mem_cons_of_mem _ (List.mem_cons_of_mem _ (List.mem_cons_of_mem _ (List.mem_cons_of_mem _ (List.mem_cons_self ..))))))
  have p7 := ho _ (List.mem_cons_of_mem _ (List.mem_cons_of_mem _ (List.mem_cons_of_mem _ (List.mem_cons_of_mem _ (List.mem_cons_of_mem _ (List.mem_cons_of_mem _ (List.mem_cons_self ..)))))))
  have p8 := ho _ (List.mem_cons_of_mem _ (List.mem_cons_of_mem _ (List.mem_cons_of_mem _ (List.mem_cons_of_mem _ (List.mem_cons_of_mem _ (List.mem_cons_of_mem _ (List.mem_cons_of_mem _ (List.mem_cons_self ..))))))))
  rw [decide_eq_true_eq] at p1 p2 p3 p4 p7 p8
  clear ho
  have hR := R10_all p1
  have hb := allW_get p6
  refine block_loop (q := qAll) mixed hv3_ok LOk.none (n := 100) (σ := List Int × Int) (inv := I10 n j (st.tm.getD 4 .top) (st.tm.getD 6 .top) u m r b a (segV a j bo0 n % bigB b n)) (μ := fun s => (- segV s.1 j s.2 n).toNat) hc (by kernel_rfl) (by kernel_rfl)
    (fun s st1 hi => ?_) (a, bo0) st ⟨tmOf (ups (fun t => st.tm.getD t .top) (r10U n j bo0)) 239, remM u m r b a⟩ ?_ (Wk.head hlen em.symm ?_)
  · obtain ⟨al, bo⟩ := s
    obtain ⟨i1, i2, i3, i4, i5, i6, i7, i8, i9, i10, i11⟩ := hi
    simp only at i2 i5 i6 i7 i8 i9 i10 i11
    have ee : st1 = ⟨tmOf (ups (fun t => st1.tm.getD t .top) (r10U n j bo)) 239, remM u m r b al⟩ := st_eq (tm_ups i1 i2) i5
    have k4 : (fun t => st1.tm.getD t .top) 4 = st.tm.getD 4 .top := i3
    have k6 : (fun t => st1.tm.getD t .top) 6 = st.tm.getD 6 .top := i4
    rw [ee]
    generalize (fun t => st1.tm.getD t .top) = x at k4 k6 ⊢
    obtain ⟨R1, R2⟩ := hR x j bo u m r b al
    obtain ⟨g1, g2, g3, g4, g5, g6⟩ := add_back (n := n) (bo := bo) p2 i6 i7 hb
    by_cases hbo : bo > 0
    · refine obs_sat R1 (paid_cons (decide_eq_true hbo) (paid_append.2 ⟨dAB_paid p2 g6 n (Nat.le_refl _), dJ_paid p2 (Nat.le_refl _) (decide_eq_true (g6 n (Nat.le_refl _)))⟩)) fun e st2 he hs hn hm => ?_
      cases e with
      | normal =>
        have hw : IntKind.u64.wrap (bo - topC b al j n / 18446744073709551616) = bo - topC b al j n / 18446744073709551616 := uw64 (by omega)
        rw [hw] at hs
        simp only [List.map_cons, List.map_nil, List.cons.injEq, and_true] at hs
        obtain ⟨s4, s5, s6, s7, s8, s11, s13⟩ := hs
        have hneg : segV al j bo n < 0 := by
          have hr := sg_range (f := fun t => al.getD (j.toNat + t) 0) (fun t => i7 _) (n + 1)
          have h1 : bo = 1 := by omega
          subst h1
          unfold segV
          omega
        refine ⟨(topA b al j n, bo - topC b al j n / 18446744073709551616), ⟨hn, (r10U_iff (x := fun t => st2.tm.getD t .top)).2 ⟨s5, s7, s8, s11, s13⟩, by rw [s4]; exact k4, by rw [s6]; exact k6, hm, g1, g2, fun t ht => by rw [g3 t ht]; exact i8 t ht, by show 0 ≤ _ ∧ _ ≤ (1 : Int); omega, ?_, ?_⟩, ?_⟩
        · show segV _ j _ n < _
          rw [g5]; omega
        · show segV _ j _ n % _ = _
          rw [g5, Int.add_emod_right]; exact i11
        · show (- segV _ j _ n).toNat < (- segV al j bo n).toNat
          rw [g5]; omega
      | exit i => simp [exN] at he
      | ret => simp [exN] at he
    · refine obs_sat R2 (paid_cons (by rw [decide_eq_false hbo]; rfl) Paid.nil) fun e st2 he hs hn hm => ?_
      have hb0 : bo = 0 := by omega
      subst hb0
      cases e with
      | normal => simp [exN] at he
      | ret => simp [exN] at he
      | exit i =>
        have hi10 : i = 10 := by simp [exN] at he; exact he
        subst hi10
        simp only [List.map_cons, List.map_nil, List.cons.injEq, and_true] at hs
        obtain ⟨s4, s5, s6, s7, s8, s11, s13⟩ := hs
        refine ⟨st2, rfl, ?_⟩
        have hst : st2 = ⟨tmOf (fun t => st2.tm.getD t .top) 239, st2.mem⟩ := st_eq (tmOf_self hn) rfl
        rw [hst]
        refine Wk.tail ?_ ?_
        · rw [hm]
          have hr := sg_range (f := fun t => al.getD (j.toNat + t) 0) (fun t => i7 _) (n + 1)
          have hv : segV al j 0 n = sg (fun t => al.getD (j.toNat + t) 0) (n + 1) := by unfold segV; omega
          have hmod : segV a j bo0 n % bigB b n = sg (fun t => al.getD (j.toNat + t) 0) (n + 1) := by
            rw [← i11, hv]
            rw [hv] at i10
            exact Int.emod_eq_of_lt hr.1 i10
          have := put_self (a := a) (al := al) (J := j.toNat) (n := n + 1) (by rw [i6, p4]) (by rw [p4]; omega) i7 i8
          unfold rem10
          rw [hmod, ← this]
        · intro p hp
          simp only [List.mem_cons, List.not_mem_nil, or_false] at hp
          rcases hp with rfl | rfl | rfl | rfl | rfl | rfl
          · show st2.tm.getD 4 .top = _; rw [s4]; exact k4
          · exact s5
          · show st2.tm.getD 6 .top = _; rw [s6]; exact k6
          · exact s7
          · exact s8
          · exact s11
  · refine ⟨tmOf_len, ?_, ?_, ?_, rfl, p4, allW_get p5, fun _ _ => rfl, p3, p8, rfl⟩
    · refine (r10U_iff (x := fun t => (tmOf _ 239).getD t .top)).2 ⟨?_, ?_, ?_, ?_, ?_⟩ <;> simp only [tmOf_get (show 5 < 239 by omega), tmOf_get (show 7 < 239 by omega), tmOf_get (show 8 < 239 by omega), tmOf_get (show 11 < 239 by omega), tmOf_get (show 13 < 239 by omega)] <;> rfl
    · simp only [tmOf_get (show 4 < 239 by omega)]; rfl
    · simp only [tmOf_get (show 6 < 239 by omega)]; rfl
  · intro p hp ρ N v hr'
    simp only [r10U, List.mem_cons, List.not_mem_nil, or_false] at hp
    rcases hp with rfl | rfl | rfl | rfl | rfl
    · rw [e5] at hr'; exact hr'
    · rw [e7] at hr'; exact hr'
    · rw [e8] at hr'; exact hr'
    · rw [e11] at hr'; exact hr'
    · exact intOf_rep h13 hr'
end Go.Proofs.YthelmpjkkkhopaaDoor
namespace Go.Proofs.YthelmpjkkkhopaaDoor
open Go.Ev Go.Wn
set_option maxRecDepth 100000
def r6U (n : Nat) (j : Int) : List (Nat × AV) := [(5, .int false .i64 n), (7, .ptr false 5 0), (8, .ptr false 6 0), (11, .int true .i64 j)]
def dMS (q : Int) (b a : List Int) (j : Int) : Nat → List Bool
  | 0 => []
  | i + 1 => dMS q b a j i ++ (true :: dJ j i (decide ((msN q b (jx j) a i).2.1 ≤ 1)))
def msT (q : Int) (b a : List Int) (j : Int) (n : Nat) : List Int :=
  (msN q b (jx j) a n).1.set (jx j n) (((msN q b (jx j) a n).1.getD (jx j n) 0 - (msN q b (jx j) a n).2.2 - (msN q b (jx j) a n).2.1) % 18446744073709551616)
def msB (q : Int) (b a : List Int) (j : Int) (n : Nat) : Int := if (msN q b (jx j) a n).1.getD (jx j n) 0 < (msN q b (jx j) a n).2.2 + (msN q b (jx j) a n).2.1 then 1 else 0
def wy (j : Int) (n : Nat) : Int := IntKind.i64.wrap (IntKind.i64.wrap (j + (n : Int)) - 1)
def jy (j : Int) (n : Nat) : Nat := 0 + (wy j n).toNat * 1
def qT (b a : List Int) (j : Int) (n : Nat) : Int := (a.getD (jx j n) 0 * 18446744073709551616 + a.getD (jy j n) 0) / b.getD (n - 1) 0
def d6 (q : Int) (b a : List Int) (j : Int) (n : Nat) : List Bool := dMS q b a j n ++ (dJ j n (decide ((msN q b (jx j) a n).2.1 ≤ 1)) ++ o10 n j (msB q b a j n) b (msT q b a j n))
def d6T (b a : List Int) (j : Int) (n : Nat) : List Bool :=
  [decide (j ≥ 0), dIx j n, decide (jx j n + 1 ≤ 10), decide (a.getD (jx j n) 0 < b.getD (n - 1) 0), dIx j n, decide (jx j n + 1 ≤ 10), decide (0 ≤ wy j n) && decide (wy j n < ((10 : Nat) : Int)), decide (jy j n + 1 ≤ 10),
    decide (a.getD (jx j n) 0 < b.getD (n - 1) 0), decide (9223372036854775808 ≤ b.getD (n - 1) 0)]
def d6F (b a : List Int) (j : Int) (n : Nat) : List Bool := [decide (j ≥ 0), dIx j n, decide (jx j n + 1 ≤ 10), !decide (a.getD (jx j n) 0 < b.getD (n - 1) 0)]
def R6 (n : Nat) : Prop := ∀ (x : Nat → AV) (j : Int) (u m r b a : List Int),
  obs [4, 5, 6, 7, 8, 11] ((codeL Tryd.prog qAll hv3 remΛ1 100 (lp (blk 6 (bodyOf Tryd.prog 87))) ⟨tmOf (ups x (r6U n j)) 239, remM u m r b a⟩).go [true, true]) =
    some (d6T b a j n ++ d6 (qT b a j n) b a j n, 0, [x 4, .int false .i64 n, x 6, .ptr false 5 0, .ptr false 6 0, .int true .i64 (IntKind.i64.wrap (j - 1))], 239, remM u m r b (rem10 n j (msB (qT b a j n) b a j n) b (msT (qT b a j n) b a j n))) ∧
  obs [4, 5, 6, 7, 8, 11] ((codeL Tryd.prog qAll hv3 remΛ1 100 (lp (blk 6 (bodyOf Tryd.prog 87))) ⟨tmOf (ups x (r6U n j)) 239, remM u m r b a⟩).go [true, false]) =
    some (d6F b a j n ++ d6 18446744073709551615 b a j n, 0, [x 4, .int false .i64 n, x 6, .ptr false 5 0, .ptr false 6 0, .int true .i64 (IntKind.i64.wrap (j - 1))], 239, remM u m r b (rem10 n j (msB 18446744073709551615 b a j n) b (msT 18446744073709551615 b a j n))) ∧
  obs [4, 5, 6, 7, 8, 11] ((codeL Tryd.prog qAll hv3 remΛ1 100 (lp (blk 6 (bodyOf Tryd.prog 87))) ⟨tmOf (ups x (r6U n j)) 239, remM u m r b a⟩).go [false]) =
    some ([!decide (j ≥ 0)], 8, [x 4, .int false .i64 n, x 6, .ptr false 5 0, .ptr false 6 0, .int true .i64 j], 239, remM u m r b a)
theorem R6_1 : R6 1 := fun x j u m r b a => ⟨by kernel_rfl, by kernel_rfl, by kernel_rfl⟩
theorem R6_2 : R6 2 := fun x j u m r b a => ⟨by kernel_rfl, by kernel_rfl, by kernel_rfl⟩
theorem R6_3 : R6 3 := fun x j u m r b a => ⟨by kernel_rfl, by kernel_rfl, by kernel_rfl⟩
theorem R6_4 : R6 4 := fun x j u m r b a => ⟨by kernel_rfl, by kernel_rfl, by kernel_rfl⟩
theorem R6_all {n : Nat} (h : 1 ≤ n ∧ n ≤ 4) : R6 n := by
  match n, h with
  | 1, _ => exact R6_1
  | 2, _ => exact R6_2
  | 3, _ => exact R6_3
  | 4, _ => exact R6_4
  | 0, h => exact absurd h.1 (by decide)
  | k + 5, h => exact absurd h.2 (by omega)
end Go.Proofs.YthelmpjkkkhopaaDoor
namespace Go.Wn
open Go.Ev
theorem sg_shift (f : Nat → Int) : ∀ k : Nat, sg f (k + 1) = f 0 + 18446744073709551616 * sg (fun t => f (t + 1)) k
  | 0 => by simp [sg]
  | k + 1 => by
    rw [sg, sg_shift f k, sg, Int.pow_succ]
    grind
theorem sg_digits {X : Int} : ∀ {k : Nat}, 0 ≤ X → X < 18446744073709551616 ^ k → sg (fun t => X / 18446744073709551616 ^ t % 18446744073709551616) k = X
  | 0, h0, h1 => by
    rw [Int.pow_zero] at h1
    have : X = 0 := by omega
    subst this
    rfl
  | k + 1, h0, h1 => by
    rw [sg_shift]
    have hd : 0 ≤ X / 18446744073709551616 := Int.ediv_nonneg h0 (by omega)
    have hl : X / 18446744073709551616 < 18446744073709551616 ^ k := by
      apply Int.ediv_lt_of_lt_mul (by omega)
      rw [Int.pow_succ] at h1
      omega
    have ih := sg_digits hd hl
    have e : (fun t => X / 18446744073709551616 ^ (t + 1) % 18446744073709551616) = fun t => X / 18446744073709551616 / 18446744073709551616 ^ t % 18446744073709551616 := by
      funext t
      rw [Int.ediv_ediv_of_nonneg (by omega), Int.pow_succ, Int.mul_comm]
    rw [e, ih, Int.pow_zero, Int.ediv_one]
    omega
theorem digit_zero {X : Int} {n t : Nat} (h0 : 0 ≤ X) (h1 : X < 18446744073709551616 ^ n) (ht : n ≤ t) : X / 18446744073709551616 ^ t % 18446744073709551616 = 0 := by
  have : (18446744073709551616 : Int) ^ n ≤ 18446744073709551616 ^ t := by
    have e : (18446744073709551616 : Int) ^ t = 18446744073709551616 ^ n * 18446744073709551616 ^ (t - n) := by rw [← Int.pow_add]; congr 1; omega
    have h2 := Int.mul_le_mul_of_nonneg_left (show (1 : Int) ≤ 18446744073709551616 ^ (t - n) from bp (t - n)) (Int.le_of_lt (bp n))
    rw [Int.mul_one] at h2
    rw [e]; exact h2
  rw [Int.ediv_eq_zero_of_lt h0 (by omega)]
  rfl
theorem dig_W (X : Int) (t : Nat) : W (X / 18446744073709551616 ^ t % 18446744073709551616) := by unfold W; omega
theorem putSeg_congr {a al : List Int} {J k : Nat} {X : Int} (hl : al.length = a.length) (hJ : J + k ≤ a.length) (ho : ∀ t, t < J ∨ J + k ≤ t → al.getD t 0 = a.getD t 0) : putSeg al J X k = putSeg a J X k := by
  apply list_ext_int (by rw [putSeg_len, putSeg_len, hl])
  intro t ht
  rw [putSeg_get (by rw [hl]; exact hJ), putSeg_get hJ]
  split
  · rfl
  · exact ho t (by omega)
/-- The words while the division goes on: below k as they were, from k on those of what is left. -/
def divL (a0 : List Int) (B : Int) (k : Nat) : List Int :=
  (List.range 10).map fun t => if t < k then a0.getD t 0 else (sg (fun t => a0.getD t 0) 10 / 18446744073709551616 ^ k % B) / 18446744073709551616 ^ (t - k) % 18446744073709551616
theorem divL_len {a0 : List Int} {B : Int} {k : Nat} : (divL a0 B k).length = 10 := by simp [divL]
theorem divL_get {a0 : List Int} {B : Int} {k t : Nat} (ht : t < 10) : (divL a0 B k).getD t 0 = if t < k then a0.getD t 0 else (sg (fun t => a0.getD t 0) 10 / 18446744073709551616 ^ k % B) / 18446744073709551616 ^ (t - k) % 18446744073709551616 := by
  unfold divL
  simp [List.getD, ht]
theorem divL_W {a0 : List Int} {B : Int} {k : Nat} (hw : ∀ t, W (a0.getD t 0)) (t : Nat) : W ((divL a0 B k).getD t 0) := by
  by_cases ht : t < 10
  · rw [divL_get ht]
    split
    · exact hw t
    · exact dig_W _ _
  · rw [List.getD, List.getElem?_eq_none (by rw [divL_len]; omega)]
    exact ⟨by decide, by decide⟩
/-- The segment that a digit's turn looks at. -/
theorem divL_seg {a0 : List Int} {B : Int} {k n : Nat} (hw : ∀ t, W (a0.getD t 0)) (hB : 0 < B) (hBn : B ≤ 18446744073709551616 ^ n) (hk : 1 ≤ k) (hkn : k + n ≤ 10) :
    sg (fun t => (divL a0 B k).getD (k - 1 + t) 0) (n + 1) = a0.getD (k - 1) 0 + 18446744073709551616 * (sg (fun t => a0.getD t 0) 10 / 18446744073709551616 ^ k % B) ∧
    sg (fun t => (divL a0 B k).getD (k - 1 + t) 0) (n + 1) % B = sg (fun t => a0.getD t 0) 10 / 18446744073709551616 ^ (k - 1) % B := by
  have hR0 := Int.emod_nonneg (sg (fun t => a0.getD t 0) 10 / 18446744073709551616 ^ k) (show B ≠ 0 by omega)
  have hR1 := Int.emod_lt_of_pos (sg (fun t => a0.getD t 0) 10 / 18446744073709551616 ^ k) hB
  have e1 : sg (fun t => (divL a0 B k).getD (k - 1 + t) 0) (n + 1) = a0.getD (k - 1) 0 + 18446744073709551616 * (sg (fun t => a0.getD t 0) 10 / 18446744073709551616 ^ k % B) := by
    rw [sg_shift]
    have c0 : (divL a0 B k).getD (k - 1 + 0) 0 = a0.getD (k - 1) 0 := by rw [divL_get (by omega), if_pos (by omega)]; rfl
    have c1 : sg (fun t => (divL a0 B k).getD (k - 1 + (t + 1)) 0) n = sg (fun t => (sg (fun t => a0.getD t 0) 10 / 18446744073709551616 ^ k % B) / 18446744073709551616 ^ t % 18446744073709551616) n :=
      sg_congr fun t ht => by rw [divL_get (by omega), if_neg (by omega), show k - 1 + (t + 1) - k = t by omega]
    rw [c0, c1, sg_digits hR0 (by omega)]
  refine ⟨e1, ?_⟩
  rw [e1]
  have hd := sg_digit hw (n := 10) (k := k - 1) (by omega)
  have hp := bp (k - 1)
  have e2 : sg (fun t => a0.getD t 0) 10 / 18446744073709551616 ^ k = sg (fun t => a0.getD t 0) 10 / 18446744073709551616 ^ (k - 1) / 18446744073709551616 := by
    rw [Int.ediv_ediv_of_nonneg (Int.le_of_lt hp), ← Int.pow_succ, show (k - 1).succ = k by omega]
  have e3 : sg (fun t => a0.getD t 0) 10 / 18446744073709551616 ^ (k - 1) = a0.getD (k - 1) 0 + 18446744073709551616 * (sg (fun t => a0.getD t 0) 10 / 18446744073709551616 ^ k) := by
    rw [e2, ← hd]; omega
  rw [e3]
  generalize sg (fun t => a0.getD t 0) 10 / 18446744073709551616 ^ k = Y
  rw [Int.add_emod, mul_mod_right, ← Int.add_emod]
/-- A digit's turn. -/
theorem divL_step {a0 : List Int} {B : Int} {k n : Nat} (hw : ∀ t, W (a0.getD t 0)) (hB : 0 < B) (hBn : B ≤ 18446744073709551616 ^ n) (hk : 1 ≤ k) (hkn : k + n ≤ 10) :
    putSeg (divL a0 B k) (k - 1) (sg (fun t => (divL a0 B k).getD (k - 1 + t) 0) (n + 1) % B) (n + 1) = divL a0 B (k - 1) := by
  rw [(divL_seg hw hB hBn hk hkn).2]
  have hR0 := Int.emod_nonneg (sg (fun t => a0.getD t 0) 10 / 18446744073709551616 ^ k) (show B ≠ 0 by omega)
  have hR1 := Int.emod_lt_of_pos (sg (fun t => a0.getD t 0) 10 / 18446744073709551616 ^ k) hB
  have hX0 := Int.emod_nonneg (sg (fun t => a0.getD t 0) 10 / 18446744073709551616 ^ (k - 1)) (show B ≠ 0 by omega)
  have hX1 := Int.emod_lt_of_pos (sg (fun t => a0.getD t 0) 10 / 18446744073709551616 ^ (k - 1)) hB
  apply list_ext_int (by rw [putSeg_len, divL_len, divL_len])
  intro t ht
  rw [putSeg_len, divL_len] at ht
  rw [putSeg_get (by rw [divL_len]; omega), divL_get ht, divL_get ht]
  by_cases h1 : t < k - 1
  · rw [if_neg (by omega), if_pos (by omega), if_pos h1]
  · by_cases h2 : t < k - 1 + (n + 1)
    · rw [if_pos (by omega), if_neg h1]
    · rw [if_neg (by omega), if_neg (by omega), if_neg h1, digit_zero hR0 (n := n) (by omega) (by omega), digit_zero hX0 (n := n) (by omega) (by omega)]
/-- The guess is high enough. -/
theorem guess_ok {f b : Nat → Int} {n : Nat} (hn : 1 ≤ n) (hf : ∀ t, W (f t)) (hb : ∀ t, W (b t)) (hy : 0 < b (n - 1)) : sg f (n + 1) / sg b n ≤ (f n * 18446744073709551616 + f (n - 1)) / b (n - 1) := by
  obtain ⟨k, rfl⟩ : ∃ k, n = k + 1 := ⟨n - 1, by omega⟩
  simp only [Nat.add_sub_cancel] at *
  have r1 := sg_range hf k
  have r2 := sg_range hb k
  have hp := bp k
  have e1 : sg f (k + 1 + 1) = sg f k + (f (k + 1) * 18446744073709551616 + f k) * 18446744073709551616 ^ k := by
    rw [sg, sg, Int.pow_succ]; grind
  have h0 := (sg_range hf (k + 1 + 1)).1
  refine guess_ge hp hy ?_ ?_ h0
  · rw [sg]; omega
  · rw [e1]
    generalize f (k + 1) * 18446744073709551616 + f k = c
    rw [Int.add_mul, Int.one_mul]; omega
theorem below_B {V B q : Int} (hB : 0 < B) (h : V / B ≤ q) : V - q * B < B := by
  have h1 := Int.lt_ediv_add_one_mul_self V hB
  have h2 : (V / B) * B ≤ q * B := Int.mul_le_mul_of_nonneg_right h (by omega)
  rw [Int.add_mul, Int.one_mul] at h1
  omega
end Go.Wn
namespace Go.Proofs.YthelmpjkkkhopaaDoor
open Go.Ev Go.Wn
theorem ms_all {q : Int} {n : Nat} {j : Int} {b a : List Int} (h : 0 ≤ j ∧ j + n ≤ 9) (hl : a.length = 10) (hw : ∀ t, W (a.getD t 0)) (hb : ∀ t, W (b.getD t 0)) (hq : W q) :
    (msT q b a j n).length = 10 ∧ (∀ t, W ((msT q b a j n).getD t 0)) ∧ (∀ t, t < j.toNat ∨ j.toNat + (n + 1) ≤ t → (msT q b a j n).getD t 0 = a.getD t 0) ∧ (0 ≤ msB q b a j n ∧ msB q b a j n ≤ 1) ∧
      segV (msT q b a j n) j (msB q b a j n) n = sg (fun t => a.getD (j.toNat + t) 0) (n + 1) - q * bigB b n ∧ ∀ i, i ≤ n → (msN q b (jx j) a i).2.1 ≤ 1 := by
  have hs := ms_spec hl hw hb hq (jx_eq h) (J := j.toNat) (by omega)
  obtain ⟨e1, e2, e3, e4, e5, e6⟩ := hs n (Nat.le_refl _)
  have hx := jx_eq h n (Nat.le_refl _)
  have hk : j.toNat + n < (msN q b (jx j) a n).1.length := by omega
  have c2 : (msN q b (jx j) a n).1.getD (j.toNat + n) 0 = a.getD (j.toNat + n) 0 := e3 _ (by omega)
  have w1 := hw (j.toNat + n)
  have g : W ((a.getD (j.toNat + n) 0 - (msN q b (jx j) a n).2.2 - (msN q b (jx j) a n).2.1) % 18446744073709551616) ∧ (0 ≤ msB q b a j n ∧ msB q b a j n ≤ 1) ∧
      a.getD (j.toNat + n) 0 - (msN q b (jx j) a n).2.2 - (msN q b (jx j) a n).2.1 = (a.getD (j.toNat + n) 0 - (msN q b (jx j) a n).2.2 - (msN q b (jx j) a n).2.1) % 18446744073709551616 - msB q b a j n * 18446744073709551616 := by
    unfold msB
    rw [hx, c2]
    unfold W at *
    split <;> omega
  obtain ⟨g1, g2, g3⟩ := g
  refine ⟨by unfold msT; simp [e1], by unfold msT; rw [hx, c2]; exact W_set e2 g1, fun t ht => ?_, g2, ?_, fun i hi => (hs i hi).2.2.2.1.2⟩
  · unfold msT
    rw [hx, getD_set_int hk, if_neg (by omega)]
    exact e3 t (by omega)
  · have c1 : sg (fun t => (msT q b a j n).getD (j.toNat + t) 0) n = sg (fun t => (msN q b (jx j) a n).1.getD (j.toNat + t) 0) n :=
      sg_congr fun t ht => by unfold msT; rw [hx, getD_set_int hk, if_neg (by omega)]
    have c3 : (msT q b a j n).getD (j.toNat + n) 0 = (a.getD (j.toNat + n) 0 - (msN q b (jx j) a n).2.2 - (msN q b (jx j) a n).2.1) % 18446744073709551616 := by unfold msT; rw [hx, getD_set_int hk, if_pos rfl, c2]
    unfold segV bigB
    simp only [sg]
    rw [c1, c3, Int.pow_succ]
    generalize (a.getD (j.toNat + n) 0 - (msN q b (jx j) a n).2.2 - (msN q b (jx j) a n).2.1) % 18446744073709551616 = X at *
    generalize msB q b a j n = bo' at *
    generalize a.getD (j.toNat + n) 0 = x at *
    generalize (18446744073709551616 : Int) ^ n = p at *
    generalize sg (fun t => a.getD (j.toNat + t) 0) n = A at *
    generalize sg (fun t => b.getD t 0) n = Bs at *
    generalize sg (fun t => (msN q b (jx j) a n).1.getD (j.toNat + t) 0) n = A' at *
    generalize (msN q b (jx j) a n).2.1 = bo at *
    generalize (msN q b (jx j) a n).2.2 = ca at *
    grind
end Go.Proofs.YthelmpjkkkhopaaDoor
