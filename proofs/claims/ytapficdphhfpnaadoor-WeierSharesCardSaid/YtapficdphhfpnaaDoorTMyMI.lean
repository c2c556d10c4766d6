/- Powers modulo what a Mod holds, by a loop's contract. Own work. -/
import Derived.Test.YtapficdphhfpnaaDoorTMyMH
set_option linter.unusedSimpArgs false
set_option linter.unusedVariables false
set_option linter.unusedSectionVars false
namespace Go.Wn
open Go.Ev
theorem mont_pow {x y M : Int} (hM : M % 2 = 1) : mont ((x * 2 ^ 256) % M) ((y * 2 ^ 256) % M) M = ((x * y) * 2 ^ 256) % M := by
  rw [mont_grown hM, Int.mul_comm, mul_mod_right, ← Int.mul_assoc, Int.mul_comm y x]
theorem limbs_self {e : List Int} (h : limbs (val e) = e) : ∃ a b c d, e = [a, b, c, d] ∧ W a ∧ W b ∧ W c ∧ W d := by
  have hw := limbs_W (val e)
  rw [h] at hw
  have hl : e.length = 4 := by rw [← h]; rfl
  match e, hl with
  | [a, b, c, d], _ => exact ⟨a, b, c, d, rfl, hw a (by simp), hw b (by simp), hw c (by simp), hw d (by simp)⟩
/-- One bit further. -/
theorem pow_step {A E M : Int} {k : Nat} (hM : M % 2 = 1) (hE : 0 ≤ E) (bit : Int) (hb : bit = E / 2 ^ k % 2) :
    (if bit % 2 = 1 then limbs (mont ((A ^ (E / 2 ^ (k + 1)).toNat * A ^ (E / 2 ^ (k + 1)).toNat * 2 ^ 256) % M) ((A * 2 ^ 256) % M) M) else limbs ((A ^ (E / 2 ^ (k + 1)).toNat * A ^ (E / 2 ^ (k + 1)).toNat * 2 ^ 256) % M)) =
      limbs ((A ^ (E / 2 ^ k).toNat * 2 ^ 256) % M) := by
  have e1 : E / 2 ^ (k + 1) = E / 2 ^ k / 2 := by
    rw [Int.pow_succ, ← Int.ediv_ediv_of_nonneg (Int.le_of_lt (Int.pow_pos (by omega)))]
  have h0 : 0 ≤ E / 2 ^ k := Int.ediv_nonneg hE (Int.le_of_lt (Int.pow_pos (by omega)))
  rw [e1, hb]
  generalize E / 2 ^ k = q at *
  rw [← Int.pow_add, mont_pow hM]
  have hq : q % 2 = 0 ∨ q % 2 = 1 := by omega
  rcases hq with h | h
  · rw [if_neg (by omega), show (q / 2).toNat + (q / 2).toNat = q.toNat by omega]
  · rw [if_pos (by omega), show q.toNat = ((q / 2).toNat + (q / 2).toNat) + 1 by omega, Int.pow_succ A]
end Go.Wn
namespace Go.Proofs.YtapficdphhfpnaaDoor
open Go.Ev Go.Wn
set_option maxRecDepth 100000
def powM (L a e r b p : List Int) : Mem := [some ⟨false, .ints .u64 (some 9) L⟩, none, none, some ⟨true, .ints .u64 (some 4) a⟩, some ⟨true, .ints .u64 (some 4) e⟩, some ⟨true, .ints .u64 (some 4) r⟩, some ⟨true, .ints .u64 (some 4) b⟩, some ⟨true, .ints .u64 (some 4) p⟩]
def powU (i : Int) : List (Nat × AV) := [(9, .int true .i64 i), (0, .ptr false 0 0), (5, .ptr false 4 0), (6, .ptr false 5 0), (7, .ptr false 6 0), (8, .ptr false 7 0)]
def powΛ : LoopH := fun id st => match id with
  | 0 => match st.mem, st.tm.getD 9 .top, st.tm.getD 0 .top, st.tm.getD 5 .top, st.tm.getD 6 .top, st.tm.getD 7 .top, st.tm.getD 8 .top, Nat.beq st.tm.length 40 with
    | [some ⟨false, .ints .u64 (some 9) L⟩, none, none, some ⟨true, .ints .u64 (some 4) a⟩, some ⟨true, .ints .u64 (some 4) e⟩, some ⟨true, .ints .u64 (some 4) r⟩, some ⟨true, .ints .u64 (some 4) b⟩, some ⟨true, .ints .u64 (some 4) p⟩], .int false .i64 255, .ptr false 0 0, .ptr false 4 0, .ptr false 5 0, .ptr false 6 0, .ptr false 7 0, true =>
      some ([decide (0 < val L ∧ val L < W4), decide (val L % 2 = 1), decide ((L.getD 0 0 * L.getD 4 0 + 1) % 18446744073709551616 = 0), decide (limbs (val e) = e), decide (b = limbs ((val a * 2 ^ 256) % val L)), decide (p = limbs ((1 * 2 ^ 256) % val L))],
        ⟨tmOf (ups (fun _ => .top) [(0, .ptr false 0 0), (6, .ptr false 5 0), (8, .ptr false 7 0)]) 40, powM L a e r b (limbs ((val a ^ (val e).toNat * 2 ^ 256) % val L))⟩)
    | _, _, _, _, _, _, _, _ => none
  | _ => none
def powP2 (L p : List Int) : List Int := limbs (mont (val p) (val p) (val L))
def powP3 (L e b p : List Int) (i : Int) : List Int := pickL (bitV e i) (limbs (mont (val (powP2 L p)) (val b) (val L))) (powP2 L p)
theorem pow_round (x : Nat → AV) (i : Int) (L a e r b p : List Int) : codeL Tryd.prog qAll hm9 (fun _ _ => none) 100 (lp (blk 0 (bodyOf Tryd.prog 75))) ⟨tmOf (ups x (powU i)) 40, powM L a e r b p⟩ =
    .ite (decide (i ≥ 0)) (.need (decide (val L % 2 = 1)) (.need (decide ((L.getD 0 0 * L.getD 4 0 + 1) % 18446744073709551616 = 0)) (.need (decide (val p < val L)) (.need (decide (val L % 2 = 1)) (.need (decide ((L.getD 0 0 * L.getD 4 0 + 1) % 18446744073709551616 = 0)) (.need (decide (val b < val L))
      (.leaf (.normal, ⟨tmOf (ups x ([(19, .int true .i64 i), (20, .bool true (decide (i ≥ 0))), (23, .ptr false 0 0), (24, .ints .u64 4 p), (25, .ints .u64 4 p), (26, .ints .u64 4 (powP2 L p)), (27, .ints .u64 4 e), (28, .int true .i64 i), (29, .int true .u64 (bitV e i)), (30, .ptr false 0 0),
        (31, .ints .u64 4 (powP2 L p)), (32, .ints .u64 4 b), (33, .ints .u64 4 (limbs (mont (val (powP2 L p)) (val b) (val L)))), (34, .ints .u64 4 (powP2 L p)), (35, .ints .u64 4 (powP3 L e b p i)), (21, .int true .i64 i), (22, .int true .i64 (IntKind.i64.wrap (i - 1)))] ++ powU (IntKind.i64.wrap (i - 1)))) 40, powM L a e r b (powP3 L e b p i)⟩))))))))
      (.leaf (.exit 0, ⟨tmOf (ups x ([(19, .int true .i64 i), (20, .bool true (decide (i ≥ 0)))] ++ powU i)) 40, powM L a e r b p⟩)) := by kernel_rfl
theorem pow_lok : LOk Tryd.prog (bodyOf Tryd.prog 75) powΛ := by
  refine ⟨fun {id c st st' o} hc hl ho => ?_⟩
  unfold powΛ at hl
  split at hl
  case h_2 => cases hl
  split at hl
  case h_2 => cases hl
  rename_i L a e r b p hmem h9 h0 h5 h6 h7 h8 hlen
  cases hl
  have hlen' := Nat.eq_of_beq_eq_true hlen
  have p1 := ho _ (List.mem_cons_self ..)
  have p2 := ho _ (List.mem_cons_of_mem _ (List.mem_cons_self ..))
  have p3 := ho _ (List.mem_cons_of_mem _ (List.mem_cons_of_mem _ (List.mem_cons_self ..)))
  have p4 := ho _ (List.mem_cons_of_mem _ (List.mem_cons_of_mem _ (List.mem_cons_of_mem _ (List.mem_cons_self ..))))
  have p5 := ho _ (List.mem_cons_of_mem _ (List.mem_cons_of_mem _ (List.mem_cons_of_mem _ (List.mem_cons_of_mem _ (List.mem_cons_self ..)))))
  have p6 := ho _ (List.mem_cons_of_mem _ (List.mem_cons_of_mem _ (List.mem_cons_of_mem _ (List.mem_cons_of_mem _ (List.mem_cons_of_mem _ (List.mem_cons_self ..))))))
  rw [decide_eq_true_eq] at p1 p2 p3 p4 p5 p6
  clear ho
  obtain ⟨e0, e1, e2, e3, he, w0, w1, w2, w3⟩ := limbs_self p4
  have hE : 0 ≤ val e ∧ val e < W4 := by rw [he]; exact val_range w0 w1 w2 w3
  have hbit : ∀ k : Nat, k ≤ 255 → bitV e k = val e / 2 ^ k % 2 := fun k hk => by
    have hc : bitC (k : Int) = false := by unfold bitC; rw [decide_eq_false (by omega : ¬ (k : Int) < 0), decide_eq_false (by omega : ¬ (k : Int) > 255)]
    unfold bitV
    rw [hc, he]
    exact bit_word w0 w1 w2 w3 hk
  have hU : ∀ (x : Nat → AV) (k : Int), (∀ p ∈ powU k, x p.1 = p.2) ↔ x 9 = .int true .i64 k ∧ x 0 = .ptr false 0 0 ∧ x 5 = .ptr false 4 0 ∧ x 6 = .ptr false 5 0 ∧ x 7 = .ptr false 6 0 ∧ x 8 = .ptr false 7 0 := fun x k => by simp [powU]
  refine block_loop (q := qAll) mixed hm9_ok LOk.none (n := 100) (σ := Nat) (inv := fun k st1 => k ≤ 256 ∧ st1.tm.length = 40 ∧ (∀ p ∈ powU ((k : Int) - 1), st1.tm.getD p.1 .top = p.2) ∧ st1.mem = powM L a e r b (limbs ((val a ^ (val e / 2 ^ k).toNat * 2 ^ 256) % val L))) (μ := fun k => k) hc (by kernel_rfl) (by kernel_rfl)
    (fun k st1 hi => ?_) 256 st ⟨tmOf (ups (fun t => st.tm.getD t .top) (powU 255)) 40, powM L a e r b p⟩ ?_ (Wk.head hlen' hmem.symm ?_)
  · obtain ⟨i1, i2, i3, i4⟩ := hi
    have ee : st1 = ⟨tmOf (ups (fun t => st1.tm.getD t .top) (powU ((k : Int) - 1))) 40, powM L a e r b (limbs ((val a ^ (val e / 2 ^ k).toNat * 2 ^ 256) % val L))⟩ := by
      obtain ⟨tm, mem⟩ := st1
      simp only at i2 i3 i4
      rw [i4]
      congr 1
      exact tm_ups i2 i3
    rw [ee]
    generalize (fun t => st1.tm.getD t .top) = x
    rw [pow_round]
    have hv := lv (x := val a ^ (val e / 2 ^ k).toNat * 2 ^ 256) p1
    have hvb : val b = (val a * 2 ^ 256) % val L := by rw [p5, lv p1]
    refine ⟨fun hk => ⟨decide_eq_true p2, decide_eq_true p3, decide_eq_true (by rw [hv]; exact Int.emod_lt_of_pos _ p1.1), decide_eq_true p2, decide_eq_true p3, decide_eq_true (by rw [hvb]; exact Int.emod_lt_of_pos _ p1.1), ?_⟩, fun hk => ?_⟩
    · rw [decide_eq_true_eq] at hk
      obtain ⟨j, rfl⟩ : ∃ j, k = j + 1 := ⟨k - 1, by omega⟩
      have hj : ((j + 1 : Nat) : Int) - 1 = (j : Int) := by omega
      have hw : IntKind.i64.wrap (((j + 1 : Nat) : Int) - 1 - 1) = (j : Int) - 1 := by rw [hj]; exact w64_id (by omega)
      refine ⟨j, ⟨by omega, tmOf_len, ?_, ?_⟩, by show j < j + 1; omega⟩
      · rw [hw]
        refine (hU (fun t => (tmOf _ 40).getD t .top) _).2 ⟨?_, ?_, ?_, ?_, ?_, ?_⟩ <;> simp only [tmOf_get (show 9 < 40 by omega), tmOf_get (show 0 < 40 by omega), tmOf_get (show 5 < 40 by omega), tmOf_get (show 6 < 40 by omega), tmOf_get (show 7 < 40 by omega), tmOf_get (show 8 < 40 by omega)] <;> rfl
      · show powM L a e r b _ = powM L a e r b _
        congr 1
        unfold powP3 powP2 pickL
        rw [hj, hv, hvb, mont_pow p2, lv p1]
        exact pow_step p2 hE.1 _ (hbit j (by omega))
    · rw [decide_eq_false_iff_not] at hk
      have hk0 : k = 0 := by omega
      subst hk0
      refine ⟨_, rfl, Wk.tail ?_ ?_⟩
      · rw [Int.pow_zero, Int.ediv_one]
      · intro p hp
        simp only [List.mem_cons, List.not_mem_nil, or_false] at hp
        rcases hp with rfl | rfl | rfl <;> rfl
  · refine ⟨Nat.le_refl _, tmOf_len, ?_, ?_⟩
    · refine (hU (fun t => (tmOf _ 40).getD t .top) _).2 ⟨?_, ?_, ?_, ?_, ?_, ?_⟩ <;> simp only [tmOf_get (show 9 < 40 by omega), tmOf_get (show 0 < 40 by omega), tmOf_get (show 5 < 40 by omega), tmOf_get (show 6 < 40 by omega), tmOf_get (show 7 < 40 by omega), tmOf_get (show 8 < 40 by omega)] <;> rfl
    · show powM L a e r b p = powM L a e r b _
      have : val e / 2 ^ 256 = 0 := Int.ediv_eq_zero_of_lt hE.1 (by
        have hw : W4 = 2 ^ 256 := by rfl
        rw [← hw]; exact hE.2)
      rw [this, p6, show Int.toNat 0 = 0 from rfl, Int.pow_zero (val a)]
  · intro p hp ρ N v hr
    simp only [powU, List.mem_cons, List.not_mem_nil, or_false] at hp
    rcases hp with rfl | rfl | rfl | rfl | rfl | rfl
    · rw [h9] at hr; cases hr with | int _ _ _ h => exact .int _ _ _ h
    · rw [h0] at hr; exact hr
    · rw [h5] at hr; exact hr
    · rw [h6] at hr; exact hr
    · rw [h7] at hr; exact hr
    · rw [h8] at hr; exact hr

def mpwS : List V → E (AV × Mem)
  | [.pt (.ints .u64 (some 9) L), .pl (.ints .u64 4 a), .pl (.ints .u64 4 e)] => some ([good L], (.ints .u64 4 (limbs ((val a ^ (val e).toNat) % val L)), []))
  | _ => none
def powO (L a e : List Int) : List Bool := [good L, good L, decide (0 < val L ∧ val L < W4), decide (val L % 2 = 1), decide ((L.getD 0 0 * L.getD 4 0 + 1) % 18446744073709551616 = 0), decide (limbs (val e) = e), decide (limbs ((val a * 2 ^ 256) % val L) = limbs ((val a * 2 ^ 256) % val L)), decide (limbs ((val [1, 0, 0, 0] * 2 ^ 256) % val L) = limbs ((1 * 2 ^ 256) % val L)),
  decide (val L % 2 = 1), decide ((L.getD 0 0 * L.getD 4 0 + 1) % 18446744073709551616 = 0), decide (val (limbs ((val a ^ (val e).toNat * 2 ^ 256) % val L)) < val L)]
theorem mpw_eval (m0 m1 m2 m3 ni s0 s1 s2 s3 : Int) (a e : List Int) : res (funcL Tryd.prog qAll hm9 powΛ 100 75 (cArgs 0 [.pt (.ints .u64 (some 9) [m0, m1, m2, m3, ni, s0, s1, s2, s3]), .pl (.ints .u64 4 a), .pl (.ints .u64 4 e)]) (cMem [.pt (.ints .u64 (some 9) [m0, m1, m2, m3, ni, s0, s1, s2, s3]), .pl (.ints .u64 4 a), .pl (.ints .u64 4 e)])) =
    some (powO [m0, m1, m2, m3, ni, s0, s1, s2, s3] a e, .ints .u64 4 (limbs (mont (val [1, 0, 0, 0]) (val (limbs ((val a ^ (val e).toNat * 2 ^ 256) % val [m0, m1, m2, m3, ni, s0, s1, s2, s3]))) (val [m0, m1, m2, m3, ni, s0, s1, s2, s3])))) := by kernel_rfl
theorem mpw_ok {xs : List V} {o : List Bool} {v : AV} {bs : Mem} (h : mpwS xs = some (o, (v, bs))) (ho : Paid o) : ViewCall Tryd.prog 75 xs v bs := by
  unfold mpwS at h
  split at h
  · rename_i L a e
    cases h
    have hg := ho _ (List.mem_cons_self ..)
    obtain ⟨h1, h2, h3, h4⟩ := good_iff.1 hg
    intro ρ vs w ha hi
    obtain ⟨m0, m1, m2, m3, ni, s0, s1, s2, s3, rfl, w0, w1, w2, w3, wi, _⟩ := mod_arg hi rfl
    have hM : 0 < val [m0, m1, m2, m3, ni, s0, s1, s2, s3] ∧ val [m0, m1, m2, m3, ni, s0, s1, s2, s3] < W4 := ⟨by omega, (val_range w0 w1 w2 w3).2⟩
    have hb := ha
    cases hb with
    | cons _ _ _ _ r0 hb => cases hb with
      | cons _ _ _ _ r1 hb => cases hb with
        | cons _ _ _ _ r2 hb =>
          have he : limbs (val e) = e := by
            obtain ⟨e0, e1, e2, e3, rfl, u0, u1, u2, u3⟩ := num_arg r2
            exact limbs_val u0 u1 u2 u3
          have ev := mpw_eval m0 m1 m2 m3 ni s0 s1 s2 s3 a e
          generalize [m0, m1, m2, m3, ni, s0, s1, s2, s3] = L at *
          have one : val [1, 0, 0, 0] = 1 := rfl
          rw [lv hM, mont_grown h1, one, Int.one_mul] at ev
          refine view_of_resL mixed noCount hm9_ok (fun fn c hf hb => by rw [bodyOf_eq hf hb]; exact pow_lok) ev ?_ rfl (by kernel_rfl) ha hi
          unfold powO
          rw [lv hM, one]
          exact paid_cons hg (paid_cons hg (paid_cons (decide_eq_true hM) (paid_cons (decide_eq_true h1) (paid_cons (decide_eq_true h3) (paid_cons (decide_eq_true he) (paid_cons (decide_eq_true rfl) (paid_cons (decide_eq_true rfl)
            (paid_cons (decide_eq_true h1) (paid_cons (decide_eq_true h3) (paid_cons (decide_eq_true (Int.emod_lt_of_pos _ hM.1)) Paid.nil))))))))))
  · cases h
def hm10 : CallH := withV 75 mpwS hm9
theorem hm10_ok : HOk Tryd.prog hm10 := hm9_ok.withV fun _ _ _ _ h ho => mpw_ok h ho

def mivS : List V → E (AV × Mem)
  | [.pt (.ints .u64 (some 9) L), .pl (.ints .u64 4 a)] => some ([good L], (.ints .u64 4 (limbs ((val a ^ (val L - 2).toNat) % val L)), []))
  | _ => none
theorem miv_eval (m0 m1 m2 m3 ni s0 s1 s2 s3 : Int) (a : List Int) : res (funcA Tryd.prog qAll hm10 100 57 (cArgs 0 [.pt (.ints .u64 (some 9) [m0, m1, m2, m3, ni, s0, s1, s2, s3]), .pl (.ints .u64 4 a)]) (cMem [.pt (.ints .u64 (some 9) [m0, m1, m2, m3, ni, s0, s1, s2, s3]), .pl (.ints .u64 4 a)])) =
    some ([good [m0, m1, m2, m3, ni, s0, s1, s2, s3]], .ints .u64 4 (limbs ((val a ^ (val (limbs (val [m0, m1, m2, m3, ni, s0, s1, s2, s3] - val [2, 0, 0, 0]))).toNat) % val [m0, m1, m2, m3, ni, s0, s1, s2, s3]))) := by kernel_rfl
theorem miv_ok {xs : List V} {o : List Bool} {v : AV} {bs : Mem} (h : mivS xs = some (o, (v, bs))) (ho : Paid o) : ViewCall Tryd.prog 57 xs v bs := by
  unfold mivS at h
  split at h
  · rename_i L a
    cases h
    have hg := ho _ (List.mem_cons_self ..)
    obtain ⟨h1, h2, h3, h4⟩ := good_iff.1 hg
    intro ρ vs w ha hi
    obtain ⟨m0, m1, m2, m3, ni, s0, s1, s2, s3, rfl, w0, w1, w2, w3, wi, _⟩ := mod_arg hi rfl
    have hM : 0 < val [m0, m1, m2, m3, ni, s0, s1, s2, s3] ∧ val [m0, m1, m2, m3, ni, s0, s1, s2, s3] < W4 := ⟨by omega, (val_range w0 w1 w2 w3).2⟩
    have ev := miv_eval m0 m1 m2 m3 ni s0 s1 s2 s3 a
    generalize [m0, m1, m2, m3, ni, s0, s1, s2, s3] = L at *
    have e : val (limbs (val L - val [2, 0, 0, 0])) = val L - 2 := by
      rw [val_limbs, show val [2, 0, 0, 0] = 2 from rfl]
      have := hM.2
      unfold W4 at this
      omega
    rw [e] at ev
    exact view_of_res mixed noCount hm10_ok ev (paid_cons hg Paid.nil) rfl (by kernel_rfl) ha hi
  · cases h
def hm11 : CallH := withV 57 mivS hm10
theorem hm11_ok : HOk Tryd.prog hm11 := hm10_ok.withV fun _ _ _ _ h ho => miv_ok h ho
end Go.Proofs.YtapficdphhfpnaaDoor
