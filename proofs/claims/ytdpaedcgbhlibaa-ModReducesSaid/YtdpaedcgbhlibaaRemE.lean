/- The reference's long division: what was taken too often is put back. Own work. -/
import Derived.Test.YtdpaedcgbhlibaaRemC
namespace Go.Proofs.Ytdpaedcgbhlibaa
open Go.Ev Go.Wn
set_option maxRecDepth 100000
theorem r10U_iff {n : Nat} {j bo : Int} {x : Nat → AV} : (∀ p ∈ r10U n j bo, x p.1 = p.2) ↔ x 5 = .int false .i64 n ∧ x 7 = .ptr false 5 0 ∧ x 8 = .ptr false 6 0 ∧ x 11 = .int true .i64 j ∧ x 13 = .int true .u64 bo := by simp [r10U]
theorem st_eq {st : St} {t : List AV} {m : Mem} (h1 : st.tm = t) (h2 : st.mem = m) : st = ⟨t, m⟩ := by cases st; simp only at h1 h2; rw [h1, h2]
structure I10 (n : Nat) (j : Int) (x4 x6 : AV) (u m r b a : List Int) (v : Int) (s : List Int × Int) (st1 : St) : Prop where
  len : st1.tm.length = 239
  sl : ∀ p ∈ r10U n j s.2, st1.tm.getD p.1 .top = p.2
  k4 : st1.tm.getD 4 .top = x4
  k6 : st1.tm.getD 6 .top = x6
  mem : st1.mem = remM u m r b s.1
  al : s.1.length = 10
  w : ∀ t, W (s.1.getD t 0)
  out : ∀ t, t < j.toNat ∨ j.toNat + (n + 1) ≤ t → s.1.getD t 0 = a.getD t 0
  bo : 0 ≤ s.2 ∧ s.2 ≤ 1
  lt : segV s.1 j s.2 n < bigB b n
  eq : segV s.1 j s.2 n % bigB b n = v
set_option maxHeartbeats 1000000 in
theorem rem10_ok {c : Code} {st st' : St} {o : List Bool} (hc : Code.block 10 c ∈ subs (bodyOf Try.prog 56)) (hl : remΛ1 10 st = some (o, st')) (ho : Paid o) : Ok Try.prog (.block 10 c) st (fun p => p = (.normal, st')) := by
  unfold remΛ1 at hl
  simp only at hl
  split at hl
  case h_2 => cases hl
  rename_i n j bo0 S h5 h11 h13 hmem hfl
  cases hl
  rw [Bool.and_eq_true, Bool.and_eq_true] at hfl
  have e5 := natOf_eq h5
  have e11 := i64Of_eq h11
  have em := memOf_eq hmem
  have e7 := isP_eq hfl.1.1
  have e8 := isP_eq hfl.1.2
  have hlen := Nat.eq_of_beq_eq_true hfl.2
  obtain ⟨u, m, r, b, a⟩ := S
  simp only at em ho ⊢
  unfold o10 at ho
  have p1 := ho _ (List.mem_cons_self ..)
  have p2 := ho _ (List.mem_cons_of_mem _ (List.mem_cons_self ..))
  have p3 := ho _ (List.mem_cons_of_mem _ (List.mem_cons_of_mem _ (List.mem_cons_self ..)))
  have p4 := ho _ (List.mem_cons_of_mem _ (List.mem_cons_of_mem _ (List.mem_cons_of_mem _ (List.mem_cons_self ..))))
  have p5 := ho _ (List.mem_cons_of_mem _ (List.mem_cons_of_mem _ (List.mem_cons_of_mem _ (List.mem_cons_of_mem _ (List.mem_cons_self ..)))))
  have p6 := ho _ (List.mem_cons_of_mem _ (List.mem_cons_of_mem _ (List.mem_cons_of_mem _ (List.mem_cons_of_mem _ (List.mem_cons_of_mem _ (List.mem_cons_self ..))))))
  have p7 := ho _ (List.mem_cons_of_mem _ (List.mem_cons_of_mem _ (List.mem_cons_of_mem _ (List.mem_cons_of_mem _ (List.mem_cons_of_mem _ (List.mem_cons_of_mem _ (List.mem_cons_self ..)))))))
  have p8 := ho _ (List.mem_cons_of_mem _ (List.mem_cons_of_mem _ (List.mem_cons_of_mem _ (List.mem_cons_of_mem _ (List.mem_cons_of_mem _ (List.mem_cons_of_mem _ (List.mem_cons_of_mem _ (List.mem_cons_self ..))))))))
  rw [decide_eq_true_eq] at p1 p2 p3 p4 p7 p8
  clear ho
  have hR := R10_all p1
  have hb := allW_get p6
  refine block_loop (q := qAll) mixed hr3_ok LOk.none (n := 100) (σ := List Int × Int) (inv := I10 n j (st.tm.getD 4 .top) (st.tm.getD 6 .top) u m r b a (segV a j bo0 n % bigB b n)) (μ := fun s => (- segV s.1 j s.2 n).toNat) hc (by kernel_rfl) (by kernel_rfl)
    (fun s st1 hi => ?_) (a, bo0) st ⟨tmOf (ups (fun t => st.tm.getD t .top) (r10U n j bo0)) 239, remM u m r b a⟩ ?_ (Wk.head hlen em.symm ?_)
  · obtain ⟨al, bo⟩ := s
    obtain ⟨i1, i2, i3, i4, i5, i6, i7, i8, i9, i10, i11⟩ := hi
    simp only at i2 i5 i6 i7 i8 i9 i10 i11
    have ee : st1 = ⟨tmOf (ups (fun t => st1.tm.getD t .top) (r10U n j bo)) 239, remM u m r b al⟩ := st_eq (tm_ups i1 i2) i5
    have k4 : (fun t => st1.tm.getD t .top) 4 = st.tm.getD 4 .top := i3
    have k6 : (fun t => st1.tm.getD t .top) 6 = st.tm.getD 6 .top := i4
    rw [ee]
    generalize (fun t => st1.tm.getD t .top) = x at k4 k6 ⊢
    obtain ⟨R1, R2⟩ := hR x j bo u m r b al
    obtain ⟨g1, g2, g3, g4, g5, g6⟩ := add_back (n := n) (bo := bo) p2 i6 i7 hb
    by_cases hbo : bo > 0
    · refine obs_sat R1 (paid_cons (decide_eq_true hbo) (paid_append.2 ⟨dAB_paid p2 g6 n (Nat.le_refl _), dJ_paid p2 (Nat.le_refl _) (decide_eq_true (g6 n (Nat.le_refl _)))⟩)) fun e st2 he hs hn hm => ?_
      cases e with
      | normal =>
        have hw : IntKind.u64.wrap (bo - topC b al j n / 18446744073709551616) = bo - topC b al j n / 18446744073709551616 := uw64 (by omega)
        rw [hw] at hs
        simp only [List.map_cons, List.map_nil, List.cons.injEq, and_true] at hs
        obtain ⟨s4, s5, s6, s7, s8, s11, s13⟩ := hs
        have hneg : segV al j bo n < 0 := by
          have hr := sg_range (f := fun t => al.getD (j.toNat + t) 0) (fun t => i7 _) (n + 1)
          have h1 : bo = 1 := by omega
          subst h1
          unfold segV
          omega
        refine ⟨(topA b al j n, bo - topC b al j n / 18446744073709551616), ⟨hn, (r10U_iff (x := fun t => st2.tm.getD t .top)).2 ⟨s5, s7, s8, s11, s13⟩, by rw [s4]; exact k4, by rw [s6]; exact k6, hm, g1, g2, fun t ht => by rw [g3 t ht]; exact i8 t ht, by show 0 ≤ _ ∧ _ ≤ (1 : Int); omega, ?_, ?_⟩, ?_⟩
        · show segV _ j _ n < _
          rw [g5]; omega
        · show segV _ j _ n % _ = _
          rw [g5, Int.add_emod_right]; exact i11
        · show (- segV _ j _ n).toNat < (- segV al j bo n).toNat
          rw [g5]; omega
      | exit i => simp [exN] at he
      | ret => simp [exN] at he
    · refine obs_sat R2 (paid_cons (by rw [decide_eq_false hbo]; rfl) Paid.nil) fun e st2 he hs hn hm => ?_
      have hb0 : bo = 0 := by omega
      subst hb0
      cases e with
      | normal => simp [exN] at he
      | ret => simp [exN] at he
      | exit i =>
        have hi10 : i = 10 := by simp [exN] at he; exact he
        subst hi10
        simp only [List.map_cons, List.map_nil, List.cons.injEq, and_true] at hs
        obtain ⟨s4, s5, s6, s7, s8, s11, s13⟩ := hs
        refine ⟨st2, rfl, ?_⟩
        have hst : st2 = ⟨tmOf (fun t => st2.tm.getD t .top) 239, st2.mem⟩ := st_eq (tmOf_self hn) rfl
        rw [hst]
        refine Wk.tail ?_ ?_
        · rw [hm]
          have hr := sg_range (f := fun t => al.getD (j.toNat + t) 0) (fun t => i7 _) (n + 1)
          have hv : segV al j 0 n = sg (fun t => al.getD (j.toNat + t) 0) (n + 1) := by unfold segV; omega
          have hmod : segV a j bo0 n % bigB b n = sg (fun t => al.getD (j.toNat + t) 0) (n + 1) := by
            rw [← i11, hv]
            rw [hv] at i10
            exact Int.emod_eq_of_lt hr.1 i10
          have := put_self (a := a) (al := al) (J := j.toNat) (n := n + 1) (by rw [i6, p4]) (by rw [p4]; omega) i7 i8
          unfold rem10
          rw [hmod, ← this]
        · intro p hp
          simp only [List.mem_cons, List.not_mem_nil, or_false] at hp
          rcases hp with rfl | rfl | rfl | rfl | rfl | rfl
          · show st2.tm.getD 4 .top = _; rw [s4]; exact k4
          · exact s5
          · show st2.tm.getD 6 .top = _; rw [s6]; exact k6
          · exact s7
          · exact s8
          · exact s11
  · refine ⟨tmOf_len, ?_, ?_, ?_, rfl, p4, allW_get p5, fun _ _ => rfl, p3, p8, rfl⟩
    · refine (r10U_iff (x := fun t => (tmOf _ 239).getD t .top)).2 ⟨?_, ?_, ?_, ?_, ?_⟩ <;> simp only [tmOf_get (show 5 < 239 by omega), tmOf_get (show 7 < 239 by omega), tmOf_get (show 8 < 239 by omega), tmOf_get (show 11 < 239 by omega), tmOf_get (show 13 < 239 by omega)] <;> rfl
    · simp only [tmOf_get (show 4 < 239 by omega)]; rfl
    · simp only [tmOf_get (show 6 < 239 by omega)]; rfl
  · intro p hp ρ N v hr'
    simp only [r10U, List.mem_cons, List.not_mem_nil, or_false] at hp
    rcases hp with rfl | rfl | rfl | rfl | rfl
    · rw [e5] at hr'; exact hr'
    · rw [e7] at hr'; exact hr'
    · rw [e8] at hr'; exact hr'
    · rw [e11] at hr'; exact hr'
    · exact intOf_rep h13 hr'
end Go.Proofs.Ytdpaedcgbhlibaa
namespace Go.Proofs.Ytdpaedcgbhlibaa
open Go.Ev Go.Wn
set_option maxRecDepth 100000
def r6U (n : Nat) (j : Int) : List (Nat × AV) := [(5, .int false .i64 n), (7, .ptr false 5 0), (8, .ptr false 6 0), (11, .int true .i64 j)]
def dMS (q : Int) (b a : List Int) (j : Int) : Nat → List Bool
  | 0 => []
  | i + 1 => dMS q b a j i ++ (true :: dJ j i (decide ((msN q b (jx j) a i).2.1 ≤ 1)))
def msT (q : Int) (b a : List Int) (j : Int) (n : Nat) : List Int :=
  (msN q b (jx j) a n).1.set (jx j n) (((msN q b (jx j) a n).1.getD (jx j n) 0 - (msN q b (jx j) a n).2.2 - (msN q b (jx j) a n).2.1) % 18446744073709551616)
def msB (q : Int) (b a : List Int) (j : Int) (n : Nat) : Int := if (msN q b (jx j) a n).1.getD (jx j n) 0 < (msN q b (jx j) a n).2.2 + (msN q b (jx j) a n).2.1 then 1 else 0
def wy (j : Int) (n : Nat) : Int := IntKind.i64.wrap (IntKind.i64.wrap (j + (n : Int)) - 1)
def jy (j : Int) (n : Nat) : Nat := 0 + (wy j n).toNat * 1
def qT (b a : List Int) (j : Int) (n : Nat) : Int := (a.getD (jx j n) 0 * 18446744073709551616 + a.getD (jy j n) 0) / b.getD (n - 1) 0
def d6 (q : Int) (b a : List Int) (j : Int) (n : Nat) : List Bool := dMS q b a j n ++ (dJ j n (decide ((msN q b (jx j) a n).2.1 ≤ 1)) ++ o10 n j (msB q b a j n) b (msT q b a j n))
def d6T (b a : List Int) (j : Int) (n : Nat) : List Bool :=
  [decide (j ≥ 0), dIx j n, decide (jx j n + 1 ≤ 10), decide (a.getD (jx j n) 0 < b.getD (n - 1) 0), dIx j n, decide (jx j n + 1 ≤ 10), decide (0 ≤ wy j n) && decide (wy j n < ((10 : Nat) : Int)), decide (jy j n + 1 ≤ 10),
    decide (a.getD (jx j n) 0 < b.getD (n - 1) 0), decide (9223372036854775808 ≤ b.getD (n - 1) 0)]
def d6F (b a : List Int) (j : Int) (n : Nat) : List Bool := [decide (j ≥ 0), dIx j n, decide (jx j n + 1 ≤ 10), !decide (a.getD (jx j n) 0 < b.getD (n - 1) 0)]
def R6 (n : Nat) : Prop := ∀ (x : Nat → AV) (j : Int) (u m r b a : List Int),
  obs [4, 5, 6, 7, 8, 11] ((codeL Try.prog qAll hr3 remΛ1 100 (lp (blk 6 (bodyOf Try.prog 56))) ⟨tmOf (ups x (r6U n j)) 239, remM u m r b a⟩).go [true, true]) =
    some (d6T b a j n ++ d6 (qT b a j n) b a j n, 0, [x 4, .int false .i64 n, x 6, .ptr false 5 0, .ptr false 6 0, .int true .i64 (IntKind.i64.wrap (j - 1))], 239, remM u m r b (rem10 n j (msB (qT b a j n) b a j n) b (msT (qT b a j n) b a j n))) ∧
  obs [4, 5, 6, 7, 8, 11] ((codeL Try.prog qAll hr3 remΛ1 100 (lp (blk 6 (bodyOf Try.prog 56))) ⟨tmOf (ups x (r6U n j)) 239, remM u m r b a⟩).go [true, false]) =
    some (d6F b a j n ++ d6 18446744073709551615 b a j n, 0, [x 4, .int false .i64 n, x 6, .ptr false 5 0, .ptr false 6 0, .int true .i64 (IntKind.i64.wrap (j - 1))], 239, remM u m r b (rem10 n j (msB 18446744073709551615 b a j n) b (msT 18446744073709551615 b a j n))) ∧
  obs [4, 5, 6, 7, 8, 11] ((codeL Try.prog qAll hr3 remΛ1 100 (lp (blk 6 (bodyOf Try.prog 56))) ⟨tmOf (ups x (r6U n j)) 239, remM u m r b a⟩).go [false]) =
    some ([!decide (j ≥ 0)], 8, [x 4, .int false .i64 n, x 6, .ptr false 5 0, .ptr false 6 0, .int true .i64 j], 239, remM u m r b a)
theorem R6_1 : R6 1 := fun x j u m r b a => ⟨by kernel_rfl, by kernel_rfl, by kernel_rfl⟩
theorem R6_2 : R6 2 := fun x j u m r b a => ⟨by kernel_rfl, by kernel_rfl, by kernel_rfl⟩
theorem R6_3 : R6 3 := fun x j u m r b a => ⟨by kernel_rfl, by kernel_rfl, by kernel_rfl⟩
theorem R6_4 : R6 4 := fun x j u m r b a => ⟨by kernel_rfl, by kernel_rfl, by kernel_rfl⟩
theorem R6_all {n : Nat} (h : 1 ≤ n ∧ n ≤ 4) : R6 n := by
  match n, h with
  | 1, _ => exact R6_1
  | 2, _ => exact R6_2
  | 3, _ => exact R6_3
  | 4, _ => exact R6_4
  | 0, h => exact absurd h.1 (by decide)
  | k + 5, h => exact absurd h.2 (by omega)
end Go.Proofs.Ytdpaedcgbhlibaa
