/- A Mod that is made: the square of 2^256, by a loop's contract. Own work. -/
import Derived.Test.YtapficdphhfpnaaDoorTMyME
import Derived.Test.YtapficdphhfpnaaDoorTEvLoop
set_option linter.unusedSimpArgs false
set_option linter.unusedVariables false
set_option linter.unusedSectionVars false
namespace Go.Wn
open Go.Ev
def oExit (L : List Int) : Nat → List Int → List Bool
  | 0, _ => []
  | r + 1, n => decide (val L % 2 = 1) :: decide ((L.getD 0 0 * L.getD 4 0 + 1) % 18446744073709551616 = 0) :: decide (val n < val L) :: oExit L r (limbs (mont (val n) (val n) (val L)))
def nExit (L : List Int) : Nat → List Int → List Int
  | 0, n => n
  | r + 1, n => nExit L r (limbs (mont (val n) (val n) (val L)))
theorem lv {x M : Int} (hM : 0 < M ∧ M < W4) : val (limbs (x % M)) = x % M := by
  rw [val_limbs]
  exact Int.emod_eq_of_lt (Int.emod_nonneg _ (by omega)) (Int.lt_trans (Int.emod_lt_of_pos _ hM.1) hM.2)
theorem mont_two {M : Int} (hM : M % 2 = 1) (j : Nat) : mont (2 ^ (256 + j) % M) (2 ^ (256 + j) % M) M = 2 ^ (256 + 2 * j) % M := by
  have h : (2 : Int) ^ (256 + j) % M = (2 ^ j * 2 ^ 256) % M := by rw [← Int.pow_add, Nat.add_comm]
  rw [h, mont_grown hM, ← h, Int.mul_comm, mul_mod_right, ← Int.pow_add]
  congr 2
  omega
theorem exit_paid {L : List Int} (h1 : val L % 2 = 1) (h2 : (L.getD 0 0 * L.getD 4 0 + 1) % 18446744073709551616 = 0) (hM : 0 < val L ∧ val L < W4) : ∀ (r j : Nat) (n : List Int), val n = 2 ^ (256 + j) % val L →
    Paid (oExit L r n) ∧ (r = 0 ∨ nExit L r n = limbs (2 ^ (256 + 2 ^ r * j) % val L))
  | 0, j, n, _ => ⟨Paid.nil, Or.inl rfl⟩
  | r + 1, j, n, hn => by
    have hn' : val (limbs (mont (val n) (val n) (val L))) = 2 ^ (256 + 2 * j) % val L := by rw [hn, mont_two h1, lv hM]
    obtain ⟨g1, g2⟩ := exit_paid h1 h2 hM r (2 * j) (limbs (mont (val n) (val n) (val L))) hn'
    refine ⟨paid_cons (decide_eq_true h1) (paid_cons (decide_eq_true h2) (paid_cons (decide_eq_true (by rw [hn]; exact Int.emod_lt_of_pos _ hM.1)) g1)), Or.inr ?_⟩
    unfold nExit
    rcases g2 with rfl | g2
    · unfold nExit
      rw [hn, mont_two h1]
    · rw [g2]
      congr 3
      rw [Nat.pow_succ, Nat.mul_assoc]
def nn0 (i : Int) : List Int := [0, 0, 0, 0].set (0 + (IntKind.i64.wrap (i.tdiv 64)).toNat * 1) (ishl .u64 1 (i.tmod 64))
theorem nn0_val {i : Nat} (hi : i ≤ 255) : val (nn0 i) = 2 ^ i ∧ limbs (2 ^ i) = nn0 i := by
  have e1 : ((i : Int)).tdiv 64 = ((i / 64 : Nat) : Int) := by rw [Int.tdiv_eq_ediv_of_nonneg (by omega)]; omega
  have e2 : ((i : Int)).tmod 64 = ((i % 64 : Nat) : Int) := by rw [Int.tmod_eq_emod_of_nonneg (by omega)]; omega
  unfold nn0
  rw [e1, e2]
  have e3 : (IntKind.i64.wrap ((i / 64 : Nat) : Int)).toNat = i / 64 := by
    have : IntKind.i64.wrap ((i / 64 : Nat) : Int) = ((i / 64 : Nat) : Int) := w64_id (by omega)
    rw [this, Int.toNat_natCast]
  rw [e3, Nat.mul_one, Nat.zero_add]
  have hr : i % 64 < 64 := by omega
  have hsh : ishl .u64 1 ((i % 64 : Nat) : Int) = 2 ^ (i % 64) := by
    unfold ishl
    rw [Int.one_mul, Int.toNat_natCast, show min (i % 64) IntKind.u64.bits = i % 64 by simp [IntKind.bits]; omega]
    refine uw64 ⟨Int.le_of_lt (Int.pow_pos (by omega)), ?_⟩
    have : (2 : Int) ^ (i % 64) ≤ 2 ^ 63 := by exact_mod_cast Nat.pow_le_pow_right (by omega : 0 < 2) (by omega : i % 64 ≤ 63)
    have h63 : (2 : Int) ^ 63 = 9223372036854775808 := rfl
    omega
  rw [hsh]
  have hq : i / 64 = 0 ∨ i / 64 = 1 ∨ i / 64 = 2 ∨ i / 64 = 3 := by omega
  have hi2 : (2 : Int) ^ i = 2 ^ (64 * (i / 64)) * 2 ^ (i % 64) := by rw [← Int.pow_add]; congr 1; omega
  have hp : W (2 ^ (i % 64)) := by
    refine ⟨Int.le_of_lt (Int.pow_pos (by omega)), ?_⟩
    have : (2 : Int) ^ (i % 64) ≤ 2 ^ 63 := by exact_mod_cast Nat.pow_le_pow_right (by omega : 0 < 2) (by omega : i % 64 ≤ 63)
    have h63 : (2 : Int) ^ 63 = 9223372036854775808 := rfl
    omega
  have z : W 0 := by unfold W; omega
  rw [hi2]
  generalize (2 : Int) ^ (i % 64) = y at *
  have fin : ∀ l : List Int, (∃ a b c d, l = [a, b, c, d] ∧ W a ∧ W b ∧ W c ∧ W d) → ∀ x, val l = x → val l = x ∧ limbs x = l := by
    rintro l ⟨a, b, c, d, rfl, h0, h1, h2, h3⟩ x rfl
    exact ⟨rfl, limbs_val h0 h1 h2 h3⟩
  rcases hq with h | h | h | h <;> rw [h]
  · exact fin _ ⟨y, 0, 0, 0, rfl, hp, z, z, z⟩ _ (by simp [val])
  · exact fin _ ⟨0, y, 0, 0, rfl, z, hp, z, z⟩ _ (by simp [val])
  · exact fin _ ⟨0, 0, y, 0, rfl, z, z, hp, z⟩ _ (by simp [val])
  · exact fin _ ⟨0, 0, 0, y, rfl, z, z, z, hp⟩ _ (by simp [val])
end Go.Wn
namespace Go.Proofs.YtapficdphhfpnaaDoor
open Go.Ev Go.Wn
set_option maxRecDepth 100000
def twoM (L z n : List Int) : Mem := [some ⟨false, .ints .u64 (some 9) L⟩, some ⟨true, .ints .u64 (some 4) z⟩, some ⟨true, .ints .u64 (some 4) n⟩]
def twoΛ : LoopH := fun id st => match id with
  | 0 => match st.mem, st.tm.getD 18 .top, st.tm.getD 19 .top, st.tm.getD 0 .top, st.tm.getD 2 .top, st.tm.getD 4 .top, Nat.beq st.tm.length 35 with
    | [some ⟨false, .ints .u64 (some 9) L⟩, some ⟨true, .ints .u64 (some 4) z⟩, some ⟨true, .ints .u64 (some 4) n⟩], .int true .i64 T, .int false .i64 0, .ptr false 0 0, .ptr false 1 0, .ptr false 2 0, true =>
      some ([decide (0 < val L ∧ val L < W4), decide (val n < val L), decide (0 ≤ val n), decide (limbs (val n) = n), decide (0 ≤ T), decide (T ≤ 1000)],
        ⟨tmOf (ups (fun _ => .top) [(0, .ptr false 0 0), (2, .ptr false 1 0), (4, .ptr false 2 0)]) 35, twoM L z (limbs ((val n * 2 ^ T.toNat) % val L))⟩)
    | _, _, _, _, _, _, _ => none
  | _ => none
def twoU (T k : Int) : List (Nat × AV) := [(18, .int true .i64 T), (19, .int true .i64 k), (0, .ptr false 0 0), (2, .ptr false 1 0), (4, .ptr false 2 0)]
theorem two_round (x : Nat → AV) (T k : Int) (L z n : List Int) : codeL Tryd.prog qAll hm7 (fun _ _ => none) 100 (lp (blk 0 (bodyOf Tryd.prog 74))) ⟨tmOf (ups x (twoU T k)) 35, twoM L z n⟩ =
    .ite (decide (k < T)) (.need (decide (0 < val L)) (.need (decide (val n + val n < 2 * val L)) (.leaf (.normal, ⟨tmOf (ups x ([(20, .bool true (decide (k < T))), (21, .ptr false 0 0), (22, .ints .u64 4 n), (23, .ints .u64 4 n), (24, .ints .u64 4 (limbs ((val n + val n) % val L))), (25, .int true .i64 (IntKind.i64.wrap (k + 1)))] ++ twoU T (IntKind.i64.wrap (k + 1)))) 35, twoM L z (limbs ((val n + val n) % val L))⟩))))
      (.leaf (.exit 0, ⟨tmOf (ups x ((20, .bool true (decide (k < T))) :: twoU T k)) 35, twoM L z n⟩)) := by kernel_rfl
theorem two_lok : LOk Tryd.prog (bodyOf Tryd.prog 74) twoΛ := by
  refine ⟨fun {id c st st' o} hc hl ho => ?_⟩
  unfold twoΛ at hl
  split at hl
  case h_2 => cases hl
  split at hl
  case h_2 => cases hl
  rename_i L z n T hmem h18 h19 h0 h2 h4 hlen
  cases hl
  have hlen' := Nat.eq_of_beq_eq_true hlen
  have p1 := ho _ (List.mem_cons_self ..)
  have p2 := ho _ (List.mem_cons_of_mem _ (List.mem_cons_self ..))
  have p3 := ho _ (List.mem_cons_of_mem _ (List.mem_cons_of_mem _ (List.mem_cons_self ..)))
  have p4 := ho _ (List.mem_cons_of_mem _ (List.mem_cons_of_mem _ (List.mem_cons_of_mem _ (List.mem_cons_self ..))))
  have p5 := ho _ (List.mem_cons_of_mem _ (List.mem_cons_of_mem _ (List.mem_cons_of_mem _ (List.mem_cons_of_mem _ (List.mem_cons_self ..)))))
  have p6 := ho _ (List.mem_cons_of_mem _ (List.mem_cons_of_mem _ (List.mem_cons_of_mem _ (List.mem_cons_of_mem _ (List.mem_cons_of_mem _ (List.mem_cons_self ..))))))
  rw [decide_eq_true_eq] at p1 p2 p3 p4 p5 p6
  clear ho
  have hU : ∀ (x : Nat → AV) (k : Int), (∀ p ∈ twoU T k, x p.1 = p.2) ↔ x 18 = .int true .i64 T ∧ x 19 = .int true .i64 k ∧ x 0 = .ptr false 0 0 ∧ x 2 = .ptr false 1 0 ∧ x 4 = .ptr false 2 0 := fun x k => by simp [twoU]
  refine block_loop (q := qAll) mixed hm7_ok LOk.none (n := 100) (σ := Nat) (inv := fun k st1 => (k : Int) ≤ T ∧ st1.tm.length = 35 ∧ (∀ p ∈ twoU T k, st1.tm.getD p.1 .top = p.2) ∧ st1.mem = twoM L z (limbs ((val n * 2 ^ k) % val L))) (μ := fun k => (T - k).toNat) hc (by kernel_rfl) (by kernel_rfl)
    (fun k st1 hi => ?_) 0 st ⟨tmOf (ups (fun t => st.tm.getD t .top) (twoU T 0)) 35, twoM L z n⟩ ?_ (Wk.head hlen' hmem.symm ?_)
  · obtain ⟨i1, i2, i3, i4⟩ := hi
    have e : st1 = ⟨tmOf (ups (fun t => st1.tm.getD t .top) (twoU T k)) 35, twoM L z (limbs ((val n * 2 ^ k) % val L))⟩ := by
      obtain ⟨tm, mem⟩ := st1
      simp only at i2 i3 i4
      rw [i4]
      congr 1
      exact tm_ups i2 i3
    rw [e]
    generalize (fun t => st1.tm.getD t .top) = x
    rw [two_round]
    have hv := lv (x := val n * 2 ^ k) p1
    have hlt := Int.emod_lt_of_pos (val n * 2 ^ k) p1.1
    refine ⟨fun hk => ⟨decide_eq_true p1.1, decide_eq_true (by rw [hv]; omega), k + 1, ?_, ?_⟩, fun hk => ?_⟩
    · rw [decide_eq_true_eq] at hk
      have hw : IntKind.i64.wrap ((k : Int) + 1) = (k : Int) + 1 := w64_id (by omega)
      refine ⟨by omega, tmOf_len, ?_, ?_⟩
      · rw [show ((k + 1 : Nat) : Int) = (k : Int) + 1 by omega, hw]
        refine (hU (fun t => (tmOf _ 35).getD t .top) _).2 ⟨?_, ?_, ?_, ?_, ?_⟩ <;> simp only [tmOf_get (show 18 < 35 by omega), tmOf_get (show 19 < 35 by omega), tmOf_get (show 0 < 35 by omega), tmOf_get (show 2 < 35 by omega), tmOf_get (show 4 < 35 by omega)] <;> rfl
      · show twoM L z _ = twoM L z _
        congr 2
        rw [hv, ← Int.add_emod, Int.pow_succ, ← Int.mul_assoc, show ∀ y : Int, y * 2 = y + y from fun y => by omega]
    · rw [decide_eq_true_eq] at hk
      show (T - ((k + 1 : Nat) : Int)).toNat < (T - (k : Int)).toNat
      omega
    · rw [decide_eq_false_iff_not] at hk
      have hT : T.toNat = k := by omega
      refine ⟨_, rfl, Wk.tail ?_ ?_⟩
      · rw [hT]
      · intro p hp
        simp only [List.mem_cons, List.not_mem_nil, or_false] at hp
        rcases hp with rfl | rfl | rfl <;> rfl
  · refine ⟨by simpa using p5, tmOf_len, ?_, ?_⟩
    · refine (hU (fun t => (tmOf _ 35).getD t .top) _).2 ⟨?_, ?_, ?_, ?_, ?_⟩ <;> simp only [tmOf_get (show 18 < 35 by omega), tmOf_get (show 19 < 35 by omega), tmOf_get (show 0 < 35 by omega), tmOf_get (show 2 < 35 by omega), tmOf_get (show 4 < 35 by omega)] <;> rfl
    · show twoM L z n = twoM L z _
      rw [Int.pow_zero, Int.mul_one, Int.emod_eq_of_lt p3 p2, p4]
  · intro p hp ρ N v hr
    simp only [twoU, List.mem_cons, List.not_mem_nil, or_false] at hp
    rcases hp with rfl | rfl | rfl | rfl | rfl
    · rw [h18] at hr; exact hr
    · rw [h19] at hr; cases hr with | int _ _ _ h => exact .int _ _ _ h
    · rw [h0] at hr; exact hr
    · rw [h2] at hr; exact hr
    · rw [h4] at hr; exact hr

def twoS : List V → E (AV × Mem)
  | [.pt (.ints .u64 (some 9) L)] => some ([decide (val L % 2 = 1), decide (1 < val L), decide ((L.getD 0 0 * L.getD 4 0 + 1) % 18446744073709551616 = 0)], (.ints .u64 4 (limbs ((2 ^ 256 * 2 ^ 256) % val L)), []))
  | _ => none
def twoN (L : List Int) (i : Int) : List Int := limbs ((val (nn0 i) * 2 ^ (IntKind.i64.wrap (257 - i)).toNat) % val L)
def twoO (L : List Int) (i : Int) : List Bool := [!decide (i.tmod 64 < 0), decide (0 ≤ IntKind.i64.wrap (i.tdiv 64)) && decide (IntKind.i64.wrap (i.tdiv 64) < ((4 : Nat) : Int)), decide (0 + (IntKind.i64.wrap (i.tdiv 64)).toNat * 1 + 1 ≤ 4),
  decide (0 < val L ∧ val L < W4), decide (val (nn0 i) < val L), decide (0 ≤ val (nn0 i)), decide (limbs (val (nn0 i)) = nn0 i), decide (0 ≤ IntKind.i64.wrap (257 - i)), decide (IntKind.i64.wrap (257 - i) ≤ 1000)]
theorem two_eval (m0 m1 m2 m3 ni s0 s1 s2 s3 : Int) : res (funcL Tryd.prog qAll hm7 twoΛ 100 74 (cArgs 0 [.pt (.ints .u64 (some 9) [m0, m1, m2, m3, ni, s0, s1, s2, s3])]) (cMem [.pt (.ints .u64 (some 9) [m0, m1, m2, m3, ni, s0, s1, s2, s3])])) =
    some (twoO [m0, m1, m2, m3, ni, s0, s1, s2, s3] (hiF (bitV [m0, m1, m2, m3]) 255) ++ oExit [m0, m1, m2, m3, ni, s0, s1, s2, s3] 8 (twoN [m0, m1, m2, m3, ni, s0, s1, s2, s3] (hiF (bitV [m0, m1, m2, m3]) 255)),
      .ints .u64 4 (nExit [m0, m1, m2, m3, ni, s0, s1, s2, s3] 8 (twoN [m0, m1, m2, m3, ni, s0, s1, s2, s3] (hiF (bitV [m0, m1, m2, m3]) 255)))) := by kernel_rfl
theorem two_ok {xs : List V} {o : List Bool} {v : AV} {bs : Mem} (h : twoS xs = some (o, (v, bs))) (ho : Paid o) : ViewCall Tryd.prog 74 xs v bs := by
  unfold twoS at h
  split at h
  · rename_i L
    cases h
    have h1 := ho _ (List.mem_cons_self ..)
    have h2 := ho _ (List.mem_cons_of_mem _ (List.mem_cons_self ..))
    have h3 := ho _ (List.mem_cons_of_mem _ (List.mem_cons_of_mem _ (List.mem_cons_self ..)))
    rw [decide_eq_true_eq] at h1 h2 h3
    intro ρ vs w ha hi
    obtain ⟨m0, m1, m2, m3, ni, s0, s1, s2, s3, rfl, w0, w1, w2, w3, wi, _⟩ := mod_arg hi rfl
    have hM : 0 < val [m0, m1, m2, m3, ni, s0, s1, s2, s3] ∧ val [m0, m1, m2, m3, ni, s0, s1, s2, s3] < W4 := ⟨by omega, (val_range w0 w1 w2 w3).2⟩
    have hb : ∀ k : Nat, k ≤ 255 → bitV [m0, m1, m2, m3] k = val [m0, m1, m2, m3, ni, s0, s1, s2, s3] / 2 ^ k % 2 := fun k hk => by
      have hc : bitC (k : Int) = false := by unfold bitC; rw [decide_eq_false (by omega : ¬ (k : Int) < 0), decide_eq_false (by omega : ¬ (k : Int) > 255)]
      unfold bitV
      rw [hc]
      exact bit_word w0 w1 w2 w3 hk
    obtain ⟨i, e1, e2, e3, e4⟩ := hiF_spec (by omega) _ hb 255 (Nat.le_refl _) (by
      have hw : W4 = 2 ^ (255 + 1) := by rfl
      rw [← hw]; exact hM.2)
    have ev := two_eval m0 m1 m2 m3 ni s0 s1 s2 s3
    rw [e1] at ev
    obtain ⟨n1, n2⟩ := nn0_val e2
    generalize [m0, m1, m2, m3, ni, s0, s1, s2, s3] = L at *
    have hi1 : 1 ≤ i := by
      rcases Nat.eq_zero_or_pos i with rfl | h
      · have : (2 : Int) ^ (0 + 1) = 2 := rfl
        omega
      · exact h
    have hlt : (2 : Int) ^ i < val L := by
      rcases e4 with h | h
      · omega
      · have : (2 : Int) ^ i % 2 = 0 := by
          obtain ⟨j, rfl⟩ : ∃ j, i = j + 1 := ⟨i - 1, by omega⟩
          rw [Int.pow_succ]; omega
        omega
    have hw : IntKind.i64.wrap (257 - (i : Int)) = 257 - (i : Int) := w64_id (by omega)
    have hN : twoN L i = limbs (2 ^ (256 + 1) % val L) := by
      unfold twoN
      rw [n1, hw, ← Int.pow_add, show i + (257 - (i : Int)).toNat = 256 + 1 by omega]
    have t1 : ((i : Int)).tmod 64 = ((i % 64 : Nat) : Int) := by rw [Int.tmod_eq_emod_of_nonneg (by omega)]; omega
    have t2 : ((i : Int)).tdiv 64 = ((i / 64 : Nat) : Int) := by rw [Int.tdiv_eq_ediv_of_nonneg (by omega)]; omega
    have t3 : IntKind.i64.wrap ((i / 64 : Nat) : Int) = ((i / 64 : Nat) : Int) := w64_id (by omega)
    have hO : Paid (twoO L i) := by
      unfold twoO
      rw [t1, t2, t3, hw, n1, n2]
      refine paid_cons (by rw [decide_eq_false (by omega)]; rfl) (paid_cons (by rw [decide_eq_true (by omega : 0 ≤ ((i / 64 : Nat) : Int)), decide_eq_true (by omega : ((i / 64 : Nat) : Int) < ((4 : Nat) : Int))]; rfl)
        (paid_cons (decide_eq_true (by rw [Int.toNat_natCast]; omega)) (paid_cons (decide_eq_true hM) (paid_cons (decide_eq_true hlt) (paid_cons (decide_eq_true (Int.le_of_lt (Int.pow_pos (by omega)))) (paid_cons (decide_eq_true rfl)
        (paid_cons (decide_eq_true (by omega)) (paid_cons (decide_eq_true (by omega)) Paid.nil))))))))
    obtain ⟨x1, x2⟩ := exit_paid h1 h3 hM 8 1 (twoN L i) (by rw [hN, lv hM])
    have hE : nExit L 8 (twoN L i) = limbs ((2 ^ 256 * 2 ^ 256) % val L) := by
      rcases x2 with h | h
      · cases h
      · rw [h, ← Int.pow_add]
    exact view_of_resL mixed noCount hm7_ok (fun fn c hf hb => by rw [bodyOf_eq hf hb]; exact two_lok) ev (paid_append.2 ⟨hO, x1⟩) (by rw [hE]) (by kernel_rfl) ha hi
  · cases h
def hm8 : CallH := withV 74 twoS hm7
theorem hm8_ok : HOk Tryd.prog hm8 := hm7_ok.withV fun _ _ _ _ h ho => two_ok h ho

-- New, of a modulus that may be
def newL : List Int → List Int
  | [a, b, c, d] => [a, b, c, d, IntKind.u64.wrap (0 - invF a)] ++ limbs ((2 ^ 256 * 2 ^ 256) % val [a, b, c, d])
  | l => l
end Go.Proofs.YtapficdphhfpnaaDoor
