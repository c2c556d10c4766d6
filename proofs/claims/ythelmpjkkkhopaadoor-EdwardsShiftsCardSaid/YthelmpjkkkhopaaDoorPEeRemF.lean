/- The reference's long division: all digits. Own work. -/
import Derived.Test.YthelmpjkkkhopaaDoorPEeRemN
set_option linter.unusedSimpArgs false
set_option linter.unusedVariables false
set_option linter.unusedSectionVars false
namespace Go.Wn
open Go.Ev
theorem divL_start {a0 : List Int} {B : Int} {k : Nat} (hl : a0.length = 10) (hw : ∀ t, W (a0.getD t 0)) (hB : sg (fun t => a0.getD t 0) 10 / 18446744073709551616 ^ k < B) : divL a0 B k = a0 := by
  apply list_ext_int (by rw [divL_len, hl])
  intro t ht
  rw [divL_len] at ht
  rw [divL_get ht]
  split
  · rfl
  · have h0 := (sg_range hw 10).1
    have hp := bp k
    rw [Int.emod_eq_of_lt (Int.ediv_nonneg h0 (Int.le_of_lt hp)) hB, Int.ediv_ediv_of_nonneg (Int.le_of_lt hp), ← Int.pow_add, show k + (t - k) = t by omega]
    exact sg_digit hw ht
end Go.Wn
namespace Go.Proofs.YthelmpjkkkhopaaDoor
open Go.Ev Go.Wn
set_option maxRecDepth 100000
theorem w64_id' {z : Int} (h : -9223372036854775808 ≤ z ∧ z < 9223372036854775808) : IntKind.i64.wrap z = z := by unfold IntKind.wrap; simp [IntKind.bits, IntKind.signed]; omega
theorem allW_of {l : List Int} (h : ∀ t, W (l.getD t 0)) : allW l = true := by
  rw [allW, List.all_eq_true]
  intro x hx
  obtain ⟨i, hi, rfl⟩ := List.getElem_of_mem hx
  have := h i
  rw [List.getD, List.getElem?_eq_getElem hi] at this
  obtain ⟨h1, h2⟩ := this
  simp only [Option.getD_some] at h1 h2
  rw [Bool.and_eq_true, decide_eq_true_eq, decide_eq_true_eq]
  exact ⟨h1, h2⟩
theorem dMS_paid {q : Int} {b a : List Int} {j : Int} {n : Nat} (h : 0 ≤ j ∧ j + n ≤ 9) (hc : ∀ i, i ≤ n → (msN q b (jx j) a i).2.1 ≤ 1) : ∀ i, i ≤ n → Paid (dMS q b a j i)
  | 0, _ => Paid.nil
  | i + 1, hi => paid_append.2 ⟨dMS_paid h hc i (by omega), paid_cons rfl (dJ_paid h (by omega) (decide_eq_true (hc i (by omega))))⟩
/-- What is owed of a digit, and what comes of it. -/
theorem digit_turn {q : Int} {n k : Nat} {b a : List Int} (hn : 1 ≤ n ∧ n ≤ 4) (hk : 1 ≤ k) (hkn : k + n ≤ 10) (hw : ∀ t, W (a.getD t 0)) (hb : ∀ t, W (b.getD t 0)) (hB : 0 < bigB b n) (hq : W q)
    (hge : sg (fun t => (divL a (bigB b n) k).getD (k - 1 + t) 0) (n + 1) / bigB b n ≤ q) :
    Paid (d6 q b (divL a (bigB b n) k) ((k : Int) - 1) n) ∧ rem10 n ((k : Int) - 1) (msB q b (divL a (bigB b n) k) ((k : Int) - 1) n) b (msT q b (divL a (bigB b n) k) ((k : Int) - 1) n) = divL a (bigB b n) (k - 1) := by
  have hj : 0 ≤ (k : Int) - 1 ∧ (k : Int) - 1 + n ≤ 9 := by omega
  have hJ : ((k : Int) - 1).toNat = k - 1 := by omega
  have hl : (divL a (bigB b n) k).length = 10 := divL_len
  have hW := divL_W (a0 := a) (B := bigB b n) (k := k) hw
  obtain ⟨g1, g2, g3, g4, g5, g6⟩ := ms_all hj hl hW hb hq
  have hBn : bigB b n ≤ 18446744073709551616 ^ n := Int.le_of_lt (sg_range hb n).2
  have hseg : segV (msT q b (divL a (bigB b n) k) ((k : Int) - 1) n) ((k : Int) - 1) (msB q b (divL a (bigB b n) k) ((k : Int) - 1) n) n < bigB b n := by
    rw [g5, hJ]
    exact below_B hB hge
  refine ⟨?_, ?_⟩
  · unfold d6 o10
    refine paid_append.2 ⟨dMS_paid hj g6 n (Nat.le_refl _), paid_append.2 ⟨dJ_paid hj (Nat.le_refl _) (decide_eq_true (g6 n (Nat.le_refl _))), ?_⟩⟩
    exact paid_cons (decide_eq_true hn) (paid_cons (decide_eq_true hj) (paid_cons (decide_eq_true g4) (paid_cons (decide_eq_true g1) (paid_cons (allW_of g2) (paid_cons (allW_of hb) (paid_cons (decide_eq_true hB) (paid_cons (decide_eq_true hseg) Paid.nil)))))))
  · unfold rem10
    rw [g5, hJ] at *
    have e : (sg (fun t => (divL a (bigB b n) k).getD (k - 1 + t) 0) (n + 1) - q * bigB b n) % bigB b n = sg (fun t => (divL a (bigB b n) k).getD (k - 1 + t) 0) (n + 1) % bigB b n := by
      rw [show sg (fun t => (divL a (bigB b n) k).getD (k - 1 + t) 0) (n + 1) - q * bigB b n = sg (fun t => (divL a (bigB b n) k).getD (k - 1 + t) 0) (n + 1) + (-q) * bigB b n by rw [Int.neg_mul]; omega, Int.add_mul_emod_self_right]
    rw [e, putSeg_congr (a := divL a (bigB b n) k) (by rw [g1, hl]) (by rw [hl]; omega) g3]
    exact divL_step hw hB hBn hk hkn
def o6 (n j : Nat) (b a : List Int) : List Bool := [decide (1 ≤ n ∧ n ≤ 4), decide (j + n = 9), decide (a.length = 10), allW a, allW b, decide (9223372036854775808 ≤ b.getD (n - 1) 0), decide (sg (fun t => a.getD t 0) 10 / 18446744073709551616 ^ (10 - n) < bigB b n)]
def remΛ2 : LoopH := fun id st => match id with
  | 6 => match natOf (st.tm.getD 5 .top), natOf (st.tm.getD 11 .top), memOf st.mem, isPr 5 (st.tm.getD 7 .top) && isPr 6 (st.tm.getD 8 .top) && Nat.beq st.tm.length 239 with
    | some n, some j, some s, true => some (o6 n j s.b s.a, ⟨tmOf (ups (fun _ => .top) [(4, st.tm.getD 4 .top), (5, .int false .i64 n), (6, st.tm.getD 6 .top), (7, .ptr false 5 0), (8, .ptr false 6 0)]) 239, remM s.u s.m s.r s.b (divL s.a (bigB s.b n) 0)⟩)
    | _, _, _, _ => none
  | _ => none
theorem rem1_lok : LOk Tryd.prog (bodyOf Tryd.prog 87) remΛ1 := by
  refine ⟨fun {id c st st' o} hc hl ho => ?_⟩
  have hid : id = 10 := by
    unfold remΛ1 at hl
    split at hl
    · rfl
    · cases hl
  subst hid
  exact rem10_ok hc hl ho
theorem r6U_iff {n : Nat} {j : Int} {x : Nat → AV} : (∀ p ∈ r6U n j, x p.1 = p.2) ↔ x 5 = .int false .i64 n ∧ x 7 = .ptr false 5 0 ∧ x 8 = .ptr false 6 0 ∧ x 11 = .int true .i64 j := by simp [r6U]
structure I6 (n : Nat) (x4 x6 : AV) (u m r b a : List Int) (k : Nat) (st1 : St) : Prop where
  len : st1.tm.length = 239
  sl : ∀ p ∈ r6U n ((k : Int) - 1), st1.tm.getD p.1 .top = p.2
  k4 : st1.tm.getD 4 .top = x4
  k6 : st1.tm.getD 6 .top = x6
  mem : st1.mem = remM u m r b (divL a (bigB b n) k)
  le : k + n ≤ 10
set_option maxHeartbeats 1000000 in
theorem rem6_ok {c : Code} {st st' : St} {o : List Bool} (hc : Code.block 6 c ∈ subs (bodyOf Tryd.prog 87)) (hl : remΛ2 6 st = some (o, st')) (ho : Paid o) : Ok Tryd.prog (.block 6 c) st (fun p => p = (.normal, st')) := by
  unfold remΛ2 at hl
  simp only at hl
  split at hl
  case h_2 => cases hl
  rename_i n j0 S h5 h11 hmem hfl
  cases hl
  rw [Bool.and_eq_true, Bool.and_eq_true] at hfl
  have e5 := natOf_eq h5
  have e11 := natOf_eq h11
  have em := memOf_eq hmem
  have e7 := isP_eq hfl.1.1
  have e8 := isP_eq hfl.1.2
  have hlen := Nat.eq_of_beq_eq_true hfl.2
  obtain ⟨u, m, r, b, a⟩ := S
  simp only at em ho ⊢
  unfold o6 at ho
  have p1 := ho _ (List.mem_cons_self ..)
  have p2 := ho _ (List.mem_cons_of_mem _ (List.mem_cons_self ..))
  have p3 := ho _ (List.mem_cons_of_mem _ (List.mem_cons_of_mem _ (List.mem_cons_self ..)))
  have p4 := ho _ (List.mem_cons_of_mem _ (List.mem_cons_of_mem _ (List.mem_cons_of_mem _ (List.mem_cons_self ..))))
  have p5 := ho _ (List.mem_cons_of_mem _ (List.mem_cons_of_mem _ (List.mem_cons_of_mem _ (List.mem_cons_of_mem _ (List.mem_cons_self ..)))))
  have p6 := ho _ (List.mem_cons_of_mem _ (List.mem_cons_of_mem _ (List.mem_cons_of_mem _ (List.mem_cons_of_mem _ (List.mem_cons_of_mem _ (List.mem_cons_self ..))))))
  have p7 := ho _ (List.mem_cons_of_mem _ (List.mem_cons_of_mem _ (List.mem_cons_of_mem _ (List.mem_cons_of_mem _ (List.mem_cons_of_mem _ (List.mem_cons_of_mem _ (List.mem_cons_self ..)))))))
  rw [decide_eq_true_eq] at p1 p2 p3 p6 p7
  clear ho
  have hR := R6_all p1
  have hb := allW_get p5
  have ha := allW_get p4
  have hB : 0 < bigB b n := by
    obtain ⟨i, rfl⟩ : ∃ i, n = i + 1 := ⟨n - 1, by omega⟩
    simp only [Nat.add_sub_cancel] at p6
    have r1 := sg_range hb i
    have hm := Int.mul_pos (show 0 < b.getD i 0 by omega) (bp i)
    unfold bigB
    rw [sg]
    omega
  refine block_loop (q := qAll) mixed hv3_ok rem1_lok (n := 100) (σ := Nat) (inv := I6 n (st.tm.getD 4 .top) (st.tm.getD 6 .top) u m r b a) (μ := fun k => k) hc (by kernel_rfl) (by kernel_rfl)
    (fun k st1 hi => ?_) (10 - n) st ⟨tmOf (ups (fun t => st.tm.getD t .top) (r6U n (((10 - n : Nat) : Int) - 1))) 239, remM u m r b a⟩ ?_ (Wk.head hlen em.symm ?_)
  · obtain ⟨i1, i2, i3, i4, i5, i6⟩ := hi
    have ee : st1 = ⟨tmOf (ups (fun t => st1.tm.getD t .top) (r6U n ((k : Int) - 1))) 239, remM u m r b (divL a (bigB b n) k)⟩ := st_eq (tm_ups i1 i2) i5
    have k4 : (fun t => st1.tm.getD t .top) 4 = st.tm.getD 4 .top := i3
    have k6 : (fun t => st1.tm.getD t .top) 6 = st.tm.getD 6 .top := i4
    rw [ee]
    generalize (fun t => st1.tm.getD t .top) = x at k4 k6 ⊢
    obtain ⟨R1, R2, R3⟩ := hR x ((k : Int) - 1) u m r b (divL a (bigB b n) k)
    by_cases hk : 1 ≤ k
    · have hj : 0 ≤ (k : Int) - 1 ∧ (k : Int) - 1 + n ≤ 9 := by omega
      have hjn : ((k : Int) - 1).toNat = k - 1 := by omega
      have hge : (k : Int) - 1 ≥ 0 := by omega
      have e1 := dIx_true hj (Nat.le_refl n)
      have hx := jx_eq hj n (Nat.le_refl _)
      have e2 : decide (jx ((k : Int) - 1) n + 1 ≤ 10) = true := decide_eq_true (by rw [hx]; omega)
      have hW := divL_W (a0 := a) (B := bigB b n) (k := k) ha
      have wrapj : IntKind.i64.wrap ((k : Int) - 1 - 1) = (k : Int) - 1 - 1 := w64_id (by omega)
      have fin : ∀ {q : Int} {dd : List Bool}, rem10 n ((k : Int) - 1) (msB q b (divL a (bigB b n) k) ((k : Int) - 1) n) b (msT q b (divL a (bigB b n) k) ((k : Int) - 1) n) = divL a (bigB b n) (k - 1) → ∀ e st2, exN e = 0 →
          [4, 5, 6, 7, 8, 11].map (fun t => st2.tm.getD t .top) = [x 4, .int false .i64 n, x 6, .ptr false 5 0, .ptr false 6 0, .int true .i64 (IntKind.i64.wrap ((k : Int) - 1 - 1))] → st2.tm.length = 239 →
          st2.mem = remM u m r b (rem10 n ((k : Int) - 1) (msB q b (divL a (bigB b n) k) ((k : Int) - 1) n) b (msT q b (divL a (bigB b n) k) ((k : Int) - 1) n)) →
          (fun p : Ex × St => match p.1 with | .normal => ∃ s', I6 n (st.tm.getD 4 .top) (st.tm.getD 6 .top) u m r b a s' p.2 ∧ s' < k | _ => ∃ st1, p = (.exit 6, st1) ∧ Wk st1 ⟨tmOf (ups (fun _ => .top) [(4, st.tm.getD 4 .top), (5, .int false .i64 n), (6, st.tm.getD 6 .top), (7, .ptr false 5 0), (8, .ptr false 6 0)]) 239, remM u m r b (divL a (bigB b n) 0)⟩) (e, st2) := by
        intro q dd hr e st2 he hs hn2 hm2
        cases e with
        | normal =>
          simp only [List.map_cons, List.map_nil, List.cons.injEq, and_true] at hs
          obtain ⟨s4, s5, s6, s7, s8, s11⟩ := hs
          refine ⟨k - 1, ⟨hn2, ?_, by rw [s4]; exact k4, by rw [s6]; exact k6, by rw [hm2, hr], by omega⟩, by omega⟩
          refine (r6U_iff (x := fun t => st2.tm.getD t .top)).2 ⟨s5, s7, s8, ?_⟩
          show st2.tm.getD 11 .top = _
          rw [s11, wrapj, show (((k - 1 : Nat) : Int)) = (k : Int) - 1 by omega]
        | exit i => simp [exN] at he
        | ret => simp [exN] at he
      have hseg := divL_seg (B := bigB b n) ha hB (Int.le_of_lt (sg_range hb n).2) hk i6
      by_cases hc2 : (divL a (bigB b n) k).getD (jx ((k : Int) - 1) n) 0 < b.getD (n - 1) 0
      · have wyn : wy ((k : Int) - 1) n = (k : Int) - 1 + n - 1 := by
          unfold wy
          rw [w64_id' (show -9223372036854775808 ≤ (k : Int) - 1 + n ∧ (k : Int) - 1 + n < 9223372036854775808 by omega), w64_id' (by omega)]
        have hjy : jy ((k : Int) - 1) n = k - 1 + (n - 1) := by unfold jy; rw [wyn]; omega
        have hq : W (qT b (divL a (bigB b n) k) ((k : Int) - 1) n) := by
          have h1 := hW (jx ((k : Int) - 1) n)
          have h2 := hW (jy ((k : Int) - 1) n)
          obtain ⟨h11, h12⟩ := h1
          obtain ⟨h21, h22⟩ := h2
          unfold qT
          refine ⟨Int.ediv_nonneg (by omega) (by omega), ?_⟩
          apply Int.ediv_lt_of_lt_mul (by omega)
          omega
        have hguess : sg (fun t => (divL a (bigB b n) k).getD (k - 1 + t) 0) (n + 1) / bigB b n ≤ qT b (divL a (bigB b n) k) ((k : Int) - 1) n := by
          have := guess_ok (f := fun t => (divL a (bigB b n) k).getD (k - 1 + t) 0) (b := fun t => b.getD t 0) p1.1 (fun t => hW _) hb (by show 0 < b.getD (n - 1) 0; omega)
          unfold qT
          rw [hx, hjn, hjy]
          exact this
        obtain ⟨t1, t2⟩ := digit_turn p1 hk i6 ha hb hB hq hguess
        refine obs_sat R1 (paid_append.2 ⟨?_, t1⟩) (fin (dd := []) t2)
        unfold d6T
        rw [wyn, hjy]
        exact paid_cons (decide_eq_true hge) (paid_cons e1 (paid_cons e2 (paid_cons (decide_eq_true hc2) (paid_cons e1 (paid_cons e2 (paid_cons (by rw [decide_eq_true (by omega : 0 ≤ (k : Int) - 1 + n - 1), decide_eq_true (by omega : (k : Int) - 1 + n - 1 < ((10 : Nat) : Int))]; rfl)
          (paid_cons (decide_eq_true (by omega)) (paid_cons (decide_eq_true hc2) (paid_cons (decide_eq_true p6) Paid.nil)))))))))
      · have hq : W 18446744073709551615 := ⟨by decide, by decide⟩
        have hguess : sg (fun t => (divL a (bigB b n) k).getD (k - 1 + t) 0) (n + 1) / bigB b n ≤ 18446744073709551615 := by
          have hlt : sg (fun t => (divL a (bigB b n) k).getD (k - 1 + t) 0) (n + 1) / bigB b n < 18446744073709551616 := by
            apply Int.ediv_lt_of_lt_mul hB
            rw [hseg.1]
            have h1 := ha (k - 1)
            obtain ⟨h11, h12⟩ := h1
            have h2 := Int.emod_lt_of_pos (sg (fun t => a.getD t 0) 10 / 18446744073709551616 ^ k) hB
            generalize sg (fun t => a.getD t 0) 10 / 18446744073709551616 ^ k % bigB b n = R at *
            omega
          omega
        obtain ⟨t1, t2⟩ := digit_turn p1 hk i6 ha hb hB hq hguess
        refine obs_sat R2 (paid_append.2 ⟨?_, t1⟩) (fin (dd := []) t2)
        unfold d6F
        exact paid_cons (decide_eq_true hge) (paid_cons e1 (paid_cons e2 (paid_cons (by rw [decide_eq_false hc2]; rfl) Paid.nil)))
    · have hk0 : k = 0 := by omega
      subst hk0
      refine obs_sat R3 (paid_cons (by rw [decide_eq_false (by omega)]; rfl) Paid.nil) fun e st2 he hs hn hm => ?_
      cases e with
      | normal => simp [exN] at he
      | ret => simp [exN] at he
      | exit i =>
        have hi6 : i = 6 := by simp [exN] at he; exact he
        subst hi6
        simp only [List.map_cons, List.map_nil, List.cons.injEq, and_true] at hs
        obtain ⟨s4, s5, s6, s7, s8, s11⟩ := hs
        refine ⟨st2, rfl, ?_⟩
        have hst : st2 = ⟨tmOf (fun t => st2.tm.getD t .top) 239, st2.mem⟩ := st_eq (tmOf_self hn) rfl
        rw [hst]
        refine Wk.tail hm.symm ?_
        intro p hp
        simp only [List.mem_cons, List.not_mem_nil, or_false] at hp
        rcases hp with rfl | rfl | rfl | rfl | rfl
        · show st2.tm.getD 4 .top = _; rw [s4]; exact k4
        · exact s5
        · show st2.tm.getD 6 .top = _; rw [s6]; exact k6
        · exact s7
        · exact s8
  · refine ⟨tmOf_len, ?_, ?_, ?_, ?_, by omega⟩
    · refine (r6U_iff (x := fun t => (tmOf _ 239).getD t .top)).2 ⟨?_, ?_, ?_, ?_⟩ <;> simp only [tmOf_get (show 5 < 239 by omega), tmOf_get (show 7 < 239 by omega), tmOf_get (show 8 < 239 by omega), tmOf_get (show 11 < 239 by omega)] <;> rfl
    · simp only [tmOf_get (show 4 < 239 by omega)]; rfl
    · simp only [tmOf_get (show 6 < 239 by omega)]; rfl
    · show remM u m r b a = remM u m r b _
      rw [divL_start p3 ha p7]
  · intro p hp ρ N v hr'
    simp only [r6U, List.mem_cons, List.not_mem_nil, or_false] at hp
    rcases hp with rfl | rfl | rfl | rfl
    · rw [e5] at hr'; exact hr'
    · rw [e7] at hr'; exact hr'
    · rw [e8] at hr'; exact hr'
    · rw [e11] at hr'
      have : ((10 - n : Nat) : Int) - 1 = (j0 : Int) := by omega
      rw [this]
      cases hr' with | int _ _ _ h => exact .int _ _ _ h
end Go.Proofs.YthelmpjkkkhopaaDoor
